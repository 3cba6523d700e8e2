/- The reference: the words of bytes. -/
import Derived.Test.YtggbhjhnhgkiiaaSl
import Derived.Test.YtggbhjhnhgkiiaaByteMath
namespace Go.Proofs.Ytggbhjhnhgkiiaa
open Go.ChangeShapes Go.WideShapes Go.ChangeAt Go.RowKit Bt
set_option linter.unusedVariables false

def RWordsAt (ds : List Nat) (q : Nat) (w : World) (v : Value) (wr : World) : Prop :=
  wr.ownsRow w.heap.size 22 1 v q ((castL (wordsN ds q)).map (Value.int .u64)) ∧ Below w.heap.size w wr
theorem wordsN_snoc (ds : List Nat) (q : Nat) : wordsN ds (q + 1) = wordsN ds q ++ [wordN ds q] := by
  unfold wordsN; rw [List.range_succ, List.map_append, List.map_singleton]
/-- The inner loop: so many bytes from the highest down. -/
def HornAt (ds : List Nat) (q n V : Nat) : Prop := V = hornN ds q n
theorem horn_step (ds : List Nat) (q n p V : Nat) (hp : p + n = 7) (h : HornAt ds q n V) : HornAt ds q (n + 1) (V * 256 + ds.getD (8 * q + p) 0) := by
  unfold HornAt at h ⊢; rw [h]; simp only [hornN]; rw [show 7 - n = p from by omega]
theorem horn_low (ds : List Nat) (q n V : Nat) (hd : ∀ p, ds.getD p 0 < 256) (hn : n ≤ 7) (h : HornAt ds q n V) : V ≤ 72057594037927935 := by
  have h1 := hornN_lt ds q hd n
  have h2 : 256 ^ n ≤ 256 ^ 7 := Nat.pow_le_pow_right (by decide) hn
  rw [show (256 : Nat) ^ 7 = 72057594037927936 from by decide] at h2
  unfold HornAt at h; omega

set_option maxHeartbeats 1000000 in
theorem refWords_any (va : Value) (ds : List Nat) (w : World) (h : IsInts .u8 w va (castL ds)) (hx : ∀ p, ds.getD p 0 < 256) (hlen : ds.length ≤ 1000000000) :
    Calls Try.prog 25 #[va] w (MadeInts .u64 (castL (wordsN ds (upN ds.length))) w) := by
  obtain ⟨i0, hi, hz0, hz1, hz2⟩ := info_parts infoU64
  obtain ⟨a, ca, rfl, hca, ha⟩ := h
  obtain ⟨len, hl⟩ : ∃ len, ds.length = len := ⟨_, rfl⟩
  rw [castL_length, hl] at hca ha
  rw [castL_length, hl]
  rw [hl] at hlen
  have HX := Lib.hid hx
  have HA := Lib.hid ha
  have HL := Lib.hid hl
  clear hx ha hl
  have H0 : Hid (RWordsAt ds 0 w (.slice none 0 0) w) := Lib.hid ⟨World.ownsRow_nil _ _ _ _, Below.refl _ _⟩
  go_enter Try.func25, Try.ntmps25
  go_wp2_with fail
  go_loopw [3, 4] (fun v i wr => ∃ q k : Nat, k ≤ len + 7 ∧ Hid (k = 8 * q) ∧ i = .int .i64 k ∧ Hid (RWordsAt ds q w v wr)) (fun _ i _ => len + 8 - (intOf i).toNat)
  case atStart => exact ⟨0, 0, by omega, Lib.hid rfl, rfl, H0⟩
  case round =>
    obtain ⟨q, k, hk, HQ, rfl, HB⟩ := hrel
    by_cases hlt : k < len
    · have hlt' : (k : Int) < (len : Int) := by omega
      have hk0 : (0 : Int) ≤ (k : Int) := by omega
      obtain ⟨b, off, rfl, hblt, hcells⟩ := HA.out.resolve_left (by intro h; have := HL.out; rw [← castL_length, h] at this; simp at this; omega)
      have hcell : ∀ p, p < len → wr.cell? ⟨b, off + p, none⟩ = some (.int .u8 (ds.getD p 0 : Nat)) := by
        intro p hp
        rw [HB.out.2.cell (p := ⟨b, off + p, none⟩) hblt, hcells p hp, castL_getD]
      have HC := Lib.hid hcell
      clear hcells hcell
      go_wp2_with fail
      go_loop [5, 6] (fun x z => ∃ n V : Nat, ∃ c : Int, n ≤ 8 ∧ -1 ≤ c ∧ c ≤ 7 ∧ Hid (c = 7 - n) ∧ z = .int .i64 c ∧ x = .int .u64 V ∧ Hid (HornAt ds q n V)) (fun _ z => (intOf z + 1).toNat)
      case atStart => exact ⟨0, 0, 7, by omega, by omega, by omega, Lib.hid rfl, rfl, rfl, Lib.hid rfl⟩
      case round =>
        obtain ⟨n, V, c, hn, hc0, hc1, HCN, rfl, rfl, HH⟩ := hrel
        by_cases hc : 0 ≤ c
        · obtain ⟨p, rfl⟩ := Int.eq_ofNat_of_zero_le hc
          have hpn : p + n = 7 := by have := HCN.out; omega
          have hV := horn_low ds q n V HX.out (by omega) HH.out
          have hs := horn_step ds q n p V hpn HH.out
          rw [← HQ.out] at hs
          have HN := Lib.hid hpn
          clear hpn
          by_cases hin : k + p < len
          · have hcell := HC.out (k + p) hin
            have hD := HX.out (k + p)
            generalize ds.getD (k + p) 0 = D at hcell hD hs
            have HS := Lib.hid hs
            clear hs
            have hin' : (k : Int) + p < (len : Int) := by omega
            go_wp2_with fail
            go_round
            case rel => exact ⟨n + 1, V * 256 + D, (p : Int) - 1, by have := HN.out; omega, by omega, by omega, Lib.hid (by have := HN.out; omega), rfl, by go_num, HS⟩
            case measure => simp [intOf]
          · have hD : ds.getD (k + p) 0 = 0 := by rw [List.getD_eq_getElem?_getD, List.getElem?_eq_none (by rw [HL.out]; omega)]; rfl
            obtain ⟨V2, hV2⟩ : ∃ V2, V2 = V * 256 + ds.getD (k + p) 0 := ⟨_, rfl⟩
            rw [← hV2] at hs
            have hV3 : V * 256 = V2 := by omega
            have HS := Lib.hid hs
            have HV3 := Lib.hid hV3
            clear hs hD hV2 hV3
            have hin' : ¬ (k : Int) + p < (len : Int) := by omega
            go_wp2_with fail
            go_round
            case rel => exact ⟨n + 1, V2, (p : Int) - 1, by have := HN.out; omega, by omega, by omega, Lib.hid (by have := HN.out; omega), rfl, congrArg (Value.int .u64) (by have := HV3.out; omega), HS⟩
            case measure => simp [intOf]
        · have hn8 : n = 8 := by have := HCN.out; omega
          have hV : V = wordN ds q := by have := HH.out; rw [hn8] at this; unfold HornAt at this; rw [this, hornN_end]
          have hsz : w.heap.size ≤ wr.heap.size := HB.out.2.size
          have hq : q ≤ 1000000000 := by have := HQ.out; omega
          have HV := Lib.hid hV
          clear hV HCN HH hn8
          go_wp2_with (at_builtin; refine wpList_append_own _ rfl (.tmp 34) (.tmp 36) 36 rfl w.heap.size 22 i0 (.int .u64 0) 1 8 Try.underlying36 hi hz0 hz1 hz2 rfl (by decide) _ _ _ rfl (HB.out.1.alloc _) ⟨wr.heap.size, 0, none⟩ 1 1 [.int .u64 (V : Nat)] rfl rfl (cell_new1 _ _ _) (by intro u hu; simp at hu; subst hu; rfl) (by unfold maxLen; omega) (by omega) (by simp; omega) ?_)
          intro v' w1 hown' hgrow _
          have HN : Hid (RWordsAt ds (q + 1) w v' w1) := by
            refine Lib.hid ⟨?_, (HB.out.2.alloc hsz _).grown hgrow (by simp; omega) (fun b hb => (HB.out.1.lt b hb).1)⟩
            rw [wordsN_snoc, ← HV.out, castL_append, List.map_append]
            exact hown'
          clear hown' hgrow
          go_wp2_with fail
          go_roundw
          case rel => exact ⟨q + 1, k + 8, by omega, Lib.hid (by have := HQ.out; omega), by go_num, HN⟩
          case measure => simp [intOf]; omega
    · have hlt' : ¬ (k : Int) < (len : Int) := by omega
      have hfin : ∃ v', u3 = v' ∧ IsInts .u64 wr v' (castL (wordsN ds (upN len))) ∧ Below w.heap.size w wr := by
        obtain ⟨h1, h2⟩ := HB.out
        rw [show q = upN len by have := HQ.out; unfold upN; omega] at h1
        exact ⟨u3, rfl, .of_own h1, h2⟩
      have HF := Lib.hid hfin
      clear hfin
      go_wp2_with fail
      go_ret
      obtain ⟨v', rfl, hF⟩ := HF.out
      exact ⟨u3, rfl, hF⟩

end Go.Proofs.Ytggbhjhnhgkiiaa
