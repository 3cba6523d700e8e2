/- Texts of the proof, merged: Get, Halved, More, Bytes, Made, Words32, Seal, HeadNum, Nats, Hs, Few10, OpIn10, ClassMath, ClassRight, HeadRight, RefMore, RefBytes, RefWords32, RefSeal, HeadEnc. -/
import Derived.Test.YtaigocnnmjjhgaaDoorPk1
import Derived.Lib.LaidTab
import Derived.Laws.BitsAllLaws
import Derived.Maps.AppendAt
import Derived.Laws.AppendOwnNone
import Derived.Deep.Slices
import Derived.Deep.Fields
namespace Go.Proofs.YtaigocnnmjjhgaaDoor
open Go.ChangeShapes Go.WideShapes Go.ChangeAt Go.RowKit Bt
set_option linter.unusedVariables false

theorem getIn_val (X a : Nat) (k : Int) (hX : X < 2 ^ 64) (ha : a < 64) : bits .and .u64 ((X : Int) / 2 ^ a) (onesN k : Nat) = (getN X a k : Nat) := by
  have e := shr_nat X a ha
  rw [show min a 64 = a from by omega] at e
  rw [e, and_nat _ _ (Nat.lt_of_le_of_lt (Nat.div_le_self _ _) hX) (onesN_lt k)]
  unfold onesN getN
  rw [Nat.and_two_pow_sub_one_eq_mod, if_pos (by omega)]; rfl

/-- bits.Get, where there is such a bit. -/
theorem get_in (X : Nat) (a : Nat) (k : Int) (w : World) (hX : X < 2 ^ 64) (ha : a < 64) (h1 : -9223372036854775808 ≤ k) (h2 : k ≤ 9223372036854775807) :
    Calls Tryd.prog 67 #[.int .u64 X, .int .i64 a, .int .i64 k] w fun e w' => e = .returned (.int .u64 (getN X a k : Nat)) ∧ ∃ n, w' = w.drewN n := by
  have HE := Lib.hid (getIn_val X a k hX ha)
  have ha' : (a : Int) < 64 := by omega
  go_enter Tryd.func67, Tryd.ntmps67
  go_wp2_with (go_at_call 73; refine (has_yes _ _ (by omega) ha').mono ?_; rintro e w' ⟨rfl, rfl⟩)
  go_quiet ((go_at_call 74; exact Calls.quiet_of_same (ones_quiet _ _ _ h1 h2)))
  go_wp2
  go_ret
  exact ⟨ret_int HE.out, _, rfl⟩

/-- bits.Get, where there is no such bit. -/
theorem get_out (X a k : Int) (w : World) (ha : ¬ (0 ≤ a ∧ a < 64)) :
    Calls Tryd.prog 67 #[.int .u64 X, .int .i64 a, .int .i64 k] w fun e w' => e = .returned (.int .u64 0) ∧ w = w' := by
  have HA := Lib.hid ha
  clear ha
  go_enter Tryd.func67, Tryd.ntmps67
  go_wp2_with (go_at_call 73; refine (has_no _ _ HA.out).mono ?_; rintro e w' ⟨rfl, rfl⟩)
  go_ret
  exact ⟨rfl, rfl⟩

theorem get_any (X : Nat) (a k : Int) (w : World) (hX : X < 2 ^ 64) (h1 : -9223372036854775808 ≤ k) (h2 : k ≤ 9223372036854775807) :
    Calls Tryd.prog 67 #[.int .u64 X, .int .i64 a, .int .i64 k] w fun e w' => e = .returned (.int .u64 (getN X a k : Nat)) ∧ ∃ n, w' = w.drewN n := by
  by_cases ha : 0 ≤ a ∧ a < 64
  · obtain ⟨n, rfl⟩ := Int.eq_ofNat_of_zero_le ha.1
    exact get_in X n k w hX (by omega) h1 h2
  · have e : getN X a k = 0 := by unfold getN; rw [if_neg ha]
    rw [e]
    exact (get_out X a k w ha).mono fun _ _ ⟨he, hw⟩ => ⟨he, 0, hw.symm⟩

end Go.Proofs.YtaigocnnmjjhgaaDoor

namespace Go.Proofs.YtaigocnnmjjhgaaDoor
open Go.ChangeShapes Go.WideShapes Go.ChangeAt Go.RowKit Cr
set_option linter.unusedVariables false

/-- The table lies in the world. -/
def HasRests (w : World) : Prop := ∀ i, i < 16 → w.cell? ⟨0, i, none⟩ = some (.int .u32 ((tab.getD i 0 : Nat) : Int))
theorem HasRests.drewN {w : World} (h : HasRests w) (n : Nat) : HasRests (w.drewN n) := h
theorem HasRests.lt {w : World} (h : HasRests w) : 0 < w.heap.size := World.block_lt_of_cell? _ _ (h 0 (by decide))
theorem HasRests.below {w w' : World} {B : Nat} (h : HasRests w) (hb : Below B w w') (hB : w.heap.size ≤ B) : HasRests w' := fun i hi =>
  (hb.cell (p := ⟨0, i, none⟩) (Nat.lt_of_lt_of_le h.lt hB)).trans (h i hi)

theorem halved_any (r : Nat) (w : World) (hr : r < 4294967296) (hT : HasRests w) :
    Calls Tryd.prog 80 #[.int .u32 r] w fun e w' => e = .returned (.int .u32 (halfN r : Nat)) ∧ w = w' := by
  have e1 := and15_nat32 r hr
  have hm : r % 16 < 16 := Nat.mod_lt _ (by decide)
  have hc := hT _ hm
  have e2 := xor_nat32 (r / 16) (tab.getD (r % 16) 0) (by omega) (tab_lt _ hm)
  have b0 : (r : Int) ≤ 4294967295 := by omega
  have H2 := Lib.hid e2
  clear e2
  go_enter Tryd.func80, Tryd.ntmps80
  go_wp2_with fail
  go_ret
  exact ⟨ret_int H2.out, rfl⟩

end Go.Proofs.YtaigocnnmjjhgaaDoor

namespace Go.Proofs.YtaigocnnmjjhgaaDoor
open Go.ChangeShapes Go.WideShapes Go.ChangeAt Go.RowKit Cr Bt
set_option linter.unusedVariables false

theorem ones_less (s : Nat) (h : s < 4294967296) : bits .xor .u32 IntKind.u32.max (s : Int) = ((4294967295 - s : Nat) : Int) := by
  have e : (4294967295 ^^^ s) = 4294967295 - s := by
    apply Nat.eq_of_testBit_eq; intro i
    rw [show 4294967295 - s = 2 ^ 32 - (s + 1) by omega, Nat.testBit_two_pow_sub_succ (show s < 2 ^ 32 from h), show 4294967295 = 2 ^ 32 - 1 from rfl, Nat.testBit_xor, Nat.testBit_two_pow_sub_one]
    by_cases hi : i < 32
    · simp [hi]
    · rw [Nat.testBit_lt_two_pow (x := s) (Nat.lt_of_lt_of_le h (show 2 ^ 32 ≤ 2 ^ i from Nat.pow_le_pow_right (by decide) (by omega)))]; simp [hi]
  rw [show IntKind.u32.max = ((4294967295 : Nat) : Int) from rfl, xor_nat32 _ _ (by decide) h, e]

set_option maxHeartbeats 400000 in
theorem more_any (s : Nat) (va : Value) (ds : List Nat) (w : World) (hs : s < 4294967296) (h : IsInts .u8 w va (castL ds)) (hd : ∀ p, ds.getD p 0 < 256) (hlen : ds.length ≤ 1000000000) (hT : HasRests w) :
    Calls Tryd.prog 79 #[.int .u32 s, va] w fun e w' => e = .returned (.int .u32 (moreN s ds : Nat)) ∧ ∃ n, w' = w.drewN n := by
  obtain ⟨a, ca, rfl, hca, ha⟩ := h
  obtain ⟨len, hl⟩ : ∃ len, ds.length = len := ⟨_, rfl⟩
  rw [castL_length, hl] at hca ha
  rw [castL_length, hl]
  rw [hl] at hlen
  have HD := Lib.hid hd
  have HA := Lib.hid ha
  have HL := Lib.hid hl
  have HT := Lib.hid hT
  clear hd ha hl hT
  have e0 := ones_less s hs
  go_enter Tryd.func79, Tryd.ntmps79
  go_wp2_with fail
  clear e0
  go_loop [5, 7, 12] (fun x _ i => ∃ k R : Nat, k ≤ len ∧ R < 4294967296 ∧ Hid (R = foldC (4294967295 - s) (ds.take k)) ∧ i = .int .i64 k ∧ x = .int .u32 R) (fun _ _ i => len - (intOf i).toNat)
  case atStart => exact ⟨0, 4294967295 - s, by omega, by omega, Lib.hid rfl, rfl, rfl⟩
  case round =>
    obtain ⟨k, R, hk, hR, HR, rfl, rfl⟩ := hrel
    by_cases hlt : k < len
    · have hlt' : (k : Int) < (len : Int) := by omega
      have hk0 : (0 : Int) ≤ (k : Int) := by omega
      obtain ⟨b, off, rfl, hblt, hcells⟩ := HA.out.resolve_left (by intro h; have := HL.out; rw [← castL_length, h] at this; simp at this; omega)
      have hc := hcells k hlt
      rw [castL_getD] at hc
      have hB := HD.out k
      have HN : Hid (byteC R (ds.getD k 0) = foldC (4294967295 - s) (ds.take (k + 1))) := Lib.hid (by rw [HR.out, foldC_take _ _ _ (by rw [HL.out]; exact hlt)])
      generalize ds.getD k 0 = B at hc hB HN
      have ex := xor_nat32 R B hR (by omega)
      have hx := xor_lt32 (a := R) (b := B) hR (by omega)
      have hB' : (B : Int) ≤ 255 := by omega
      clear hcells
      go_wp2_with fail
      refine (halved_any _ _ hx HT.out).mono ?_
      rintro e w' ⟨rfl, rfl⟩
      have hx2 := half_lt _ hx
      go_wp2_with fail
      refine (halved_any _ _ hx2 HT.out).mono ?_
      rintro e w' ⟨rfl, rfl⟩
      have hx3 := half_lt _ hx2
      have HE := Lib.hid (half_half (R ^^^ B))
      clear hx2
      generalize halfN (halfN (R ^^^ B)) = Z at hx3 HE
      go_wp2_with fail
      go_round
      case rel => exact ⟨k + 1, Z, by omega, hx3, Lib.hid (by rw [HE.out]; exact HN.out), by go_num, rfl⟩
      case measure => simp [intOf]; omega
    · have hlt' : ¬ (k : Int) < (len : Int) := by omega
      have e1 := ones_less R hR
      have HF : Hid (4294967295 - R = moreN s ds) := Lib.hid (by unfold moreN; rw [HR.out, List.take_of_length_le (by rw [HL.out]; omega)])
      go_wp2_with fail
      go_ret
      exact ⟨ret_int (by rw [← HF.out]), 0, rfl⟩

theorem sum_any (va : Value) (ds : List Nat) (w : World) (h : IsInts .u8 w va (castL ds)) (hd : ∀ p, ds.getD p 0 < 256) (hlen : ds.length ≤ 1000000000) (hT : HasRests w) :
    Calls Tryd.prog 77 #[va] w fun e w' => e = .returned (.int .u32 (moreN 0 ds : Nat)) ∧ ∃ n, w' = w.drewN n := by
  have HI := Lib.hid h
  have HD := Lib.hid hd
  have HT := Lib.hid hT
  clear h hd hT
  go_enter Tryd.func77, Tryd.ntmps77
  go_wp2_with fail
  refine (more_any 0 va ds _ (by decide) HI.out HD.out hlen HT.out).mono ?_
  rintro e w' ⟨rfl, n, rfl⟩
  go_wp2_with fail
  go_ret
  exact ⟨rfl, n, rfl⟩

end Go.Proofs.YtaigocnnmjjhgaaDoor

namespace Go.Proofs.YtaigocnnmjjhgaaDoor
open Go.ChangeShapes Go.WideShapes Go.ChangeAt Go.RowKit Bt
set_option linter.unusedVariables false

/-- What the loops hold: so many words and so many bytes of the next. -/
def BytesAt (xs : List Nat) (k j : Nat) (w : World) (v : Value) (wr : World) : Prop :=
  wr.ownsRow w.heap.size 5 1 v (8 * k + j) ((castL (partN xs k j)).map (Value.int .u8)) ∧ Below w.heap.size w wr

theorem shr_byte (X j : Nat) : IntKind.u8.wrap ((X : Int) / 2 ^ (8 * j)) = (byteN X j : Nat) := by
  rw [IntKind.wrap_u8', cast_pow]
  unfold byteN
  rw [Nat.pow_mul]; rfl

set_option maxHeartbeats 1000000 in
theorem bytes_any (va : Value) (xs : List Nat) (w : World) (h : IsInts .u64 w va (castL xs)) (hx : ∀ p, xs.getD p 0 < 2 ^ 64) (hlen : xs.length ≤ 1000000000) :
    Calls Tryd.prog 78 #[va] w (MadeInts .u8 (castL (bytesN xs)) w) := by
  obtain ⟨i0, hi, hz0, hz1, hz2⟩ := info_parts infoU8
  obtain ⟨a, ca, rfl, hca, ha⟩ := h
  obtain ⟨len, hl⟩ : ∃ len, xs.length = len := ⟨_, rfl⟩
  rw [castL_length, hl] at hca ha
  rw [castL_length, hl]
  rw [hl] at hlen
  have HX := Lib.hid hx
  have HA := Lib.hid ha
  have HL := Lib.hid hl
  clear hx ha hl
  go_enter Tryd.func78, Tryd.ntmps78
  go_wp2_with (at_make; go_loud (refine wpList_make_own _ rfl _ _ 59 rfl w.heap.size 5 i0 (.int .u8 0) 1 Tryd.underlying59 hi hz0 hz1 _ _ _ (len * 8) rfl rfl (by omega) ?b2 ?b3 (Nat.le_refl _) ?_))
  case b2 => rw [hz2]; omega
  case b3 => unfold maxLen; omega
  intro w0 hown0 hgrow0
  have hb0 : Below w.heap.size w w0 := (Below.refl _ _).grown hgrow0 (Nat.le_refl _) (fun k h => by cases h)
  have H0 : Hid (BytesAt xs 0 0 w (.slice (some ⟨w.heap.size, 0, none⟩) 0 (len * 8)) w0) := Lib.hid ⟨hown0, hb0⟩
  clear hown0 hgrow0 hb0
  go_wp2_with fail
  go_loopw [3, 13] (fun v i wr => ∃ k : Nat, k ≤ len ∧ i = .int .i64 k ∧ Hid (BytesAt xs k 0 w v wr)) (fun _ i _ => len - (intOf i).toNat)
  case atStart => exact ⟨0, by omega, rfl, H0⟩
  case round =>
    obtain ⟨k, hk, rfl, HB⟩ := hrel
    by_cases hlt : k < len
    · have hlt' : (k : Int) < (len : Int) := by omega
      have hk0 : (0 : Int) ≤ (k : Int) := by omega
      obtain ⟨b, off, rfl, hblt, hcells⟩ := HA.out.resolve_left (by intro h; have := HL.out; rw [← castL_length, h] at this; simp at this; omega)
      have hc := hcells k hlt
      rw [castL_getD] at hc
      have hX := HX.out k
      have hc' : wr.cell? ⟨b, off + k, none⟩ = some (.int .u64 (xs.getD k 0 : Nat)) := (HB.out.2.cell (p := ⟨b, off + k, none⟩) hblt).trans hc
      obtain ⟨X, hXe⟩ : ∃ X, xs.getD k 0 = X := ⟨_, rfl⟩
      rw [hXe] at hX hc'
      have HE := Lib.hid hXe
      clear hXe hc hcells
      obtain ⟨wo, rfl⟩ : ∃ wo : World, wo = wr := ⟨_, rfl⟩
      go_wp2_with fail
      go_loopw [3, 6] (fun v i wr => ∃ j m : Nat, j ≤ 8 ∧ m ≤ 64 ∧ Hid (m = 8 * j) ∧ i = .int .i64 m ∧ Hid (BytesAt xs k j w v wr)) (fun _ i _ => 64 - (intOf i).toNat)
      case atStart => exact ⟨0, 0, by omega, by omega, Lib.hid rfl, rfl, HB⟩
      case round =>
        obtain ⟨j, m, hj, hm64, HM, rfl, HI⟩ := hrel
        by_cases hjt : m < 64
        · have hj8 : j < 8 := by have := HM.out; omega
          have he : IntKind.u8.wrap ((X : Int) / 2 ^ m) = (byteN X j : Nat) := by rw [HM.out]; exact shr_byte X j
          generalize hY : byteN X j = Y at he
          have HY := Lib.hid hY
          clear hY
          have hm0 : (m : Int) < 64 := by omega
          have hsz : w.heap.size ≤ wr.heap.size := HI.out.2.size
          go_wp2_with (at_builtin; go_loud (refine wpList_append_own _ rfl (.tmp 21) (.tmp 26) 59 rfl w.heap.size 5 i0 (.int .u8 0) 1 1 Tryd.underlying59 hi hz0 hz1 hz2 rfl (by decide) _ _ _ rfl (HI.out.1.alloc _) ⟨wr.heap.size, 0, none⟩ 1 1 [.int .u8 Y] rfl rfl (cell_new1 _ _ _) (by intro u hu; simp at hu; subst hu; rfl) (by unfold maxLen; omega) (by omega) (by simp; omega) ?_))
          intro v' w1 hown' hgrow _
          have HN : Hid (BytesAt xs k (j + 1) w v' w1) := by
            refine Lib.hid ⟨?_, (HI.out.2.alloc hsz _).grown hgrow (by simp; omega) (fun b hb => (HI.out.1.lt b hb).1)⟩
            rw [partN_byte, HE.out, HY.out, castL_append, List.map_append]
            exact hown'
          clear hown' hgrow
          go_wp2_with fail
          go_roundw
          case rel => exact ⟨j + 1, m + 8, by omega, by have := HM.out; omega, Lib.hid (by have := HM.out; omega), by go_num, HN⟩
          case measure => simp [intOf]; omega
        · have hm0 : ¬ (m : Int) < 64 := by omega
          have hlen' : k < xs.length := by rw [HL.out]; exact hlt
          have HN : Hid (BytesAt xs (k + 1) 0 w u3 wr) := by
            have h8 : j = 8 := by have := HM.out; omega
            have := HI.out
            rw [h8] at this
            unfold BytesAt at this ⊢
            rw [partN_word xs k hlen'] at this
            exact Lib.hid this
          clear HM HI
          go_wp2_with fail
          go_roundw
          case rel => exact ⟨k + 1, by omega, by go_num, HN⟩
          case measure => simp [intOf]; omega
    · have hlt' : ¬ (k : Int) < (len : Int) := by omega
      have hfin : ∃ v', u3 = v' ∧ IsInts .u8 wr v' (castL (bytesN xs)) ∧ Below w.heap.size w wr := by
        obtain ⟨h1, h2⟩ := HB.out
        rw [show k = xs.length by rw [HL.out]; omega, partN_end] at h1
        exact ⟨u3, rfl, .of_own h1, h2⟩
      have HF := Lib.hid hfin
      clear hfin
      go_wp2_with fail
      go_ret
      obtain ⟨v', rfl, hF⟩ := HF.out
      exact ⟨u3, rfl, hF⟩

end Go.Proofs.YtaigocnnmjjhgaaDoor

namespace Go.Proofs.YtaigocnnmjjhgaaDoor
open Go.ChangeShapes Go.WideShapes Go.ChangeAt Go.RowKit
/-- A call hands back a value; what was there is as it was. -/
def MadeOne (v : Value) (w : World) (e : Ending) (w' : World) : Prop := e = .returned v ∧ Below w.heap.size w w'
end Go.Proofs.YtaigocnnmjjhgaaDoor

namespace Go.Proofs.YtaigocnnmjjhgaaDoor
open Go.ChangeShapes Go.WideShapes Go.ChangeAt Go.RowKit Cr Bt
set_option linter.unusedVariables false

theorem bytesN_getD_lt (xs : List Nat) (p : Nat) : (bytesN xs).getD p 0 < 256 := by
  rw [List.getD_eq_getElem?_getD]
  cases h : (bytesN xs)[p]? with
  | none => decide
  | some b => exact bytesN_lt xs b (List.mem_of_getElem? h)

theorem words32_any (va : Value) (xs : List Nat) (w : World) (h : IsInts .u64 w va (castL xs)) (hx : ∀ p, xs.getD p 0 < 2 ^ 64) (hlen : xs.length ≤ 100000000) (hT : HasRests w) :
    Calls Tryd.prog 71 #[va] w (MadeOne (.int .u32 (wordsC xs : Nat)) w) := by
  have HI := Lib.hid h
  have HX := Lib.hid hx
  have HT := Lib.hid hT
  clear h hx hT
  go_enter Tryd.func71, Tryd.ntmps71
  go_wp2_with fail
  refine (bytes_any va xs _ HI.out HX.out (by omega)).mono ?_
  rintro e W ⟨vb, rfl, hI, hb⟩
  have HI' := Lib.hid hI
  have HB := Lib.hid hb
  clear hI hb
  go_wp2_with fail
  refine (sum_any vb (bytesN xs) _ HI'.out (bytesN_getD_lt xs) (by rw [bytesN_length]; omega) (HT.out.below HB.out (Nat.le_refl _))).mono ?_
  rintro e w' ⟨rfl, n, rfl⟩
  go_wp2_with fail
  go_ret
  exact ⟨rfl, below_drewN HB.out n⟩

end Go.Proofs.YtaigocnnmjjhgaaDoor

namespace Go.Proofs.YtaigocnnmjjhgaaDoor
open Go.ChangeShapes Go.WideShapes Go.ChangeAt Go.RowKit Cr Bt
set_option linter.unusedVariables false

set_option maxHeartbeats 400000 in
theorem seal_any (n p : Nat) (w : World) (hn : n < 4294967296) (hT : HasRests w) (pl : Int) (hp : IntKind.u64.wrap pl = (p : Int)) (hp64 : p < 2 ^ 64) :
    Calls Tryd.prog 61 #[.int .u32 n, .int .i64 pl] w (MadeOne (.int .u64 (sealN n p : Nat)) w) := by
  have HT := Lib.hid hT
  clear hT
  go_enter Tryd.func61, Tryd.ntmps61
  go_wp2_with fail
  refine (words32_any _ [n, p] _ (.built w _ (castL [n, p]) 2 _ rfl rfl) (by intro q; match q with | 0 => exact (show n < 2 ^ 64 by omega) | 1 => exact hp64 | _ + 2 => simp) (by simp) (HT.out.below ((Below.refl _ _).alloc (Nat.le_refl _) _) (Nat.le_refl _))).mono ?_
  rintro e W ⟨rfl, hb⟩
  have HB := Lib.hid (((Below.refl w.heap.size w).alloc (Nat.le_refl _) _).trans (hb.mono (by simp)))
  have hc : wordsC [n, p] < 4294967296 := moreN_lt _ _
  have HP := Lib.hid (put_seal n p hn)
  clear hb
  generalize wordsC [n, p] = c at hc HP
  go_wp2_with fail
  refine (put_any n c 32 32 _ (by omega) (by decide) (by decide)).mono ?_
  rintro e w' ⟨rfl, rfl⟩
  go_wp2_with fail
  go_ret
  exact ⟨ret_int (by rw [HP.out]), HB.out⟩

/-- What Open answers. -/
def OpenIs (x p : Nat) (w : World) (e : Ending) (w' : World) : Prop :=
  (if sealN (x % 4294967296) p = x then e = .returned (.tuple #[.int .u32 ((x % 4294967296 : Nat) : Int), .bool true]) else e = .returned (.tuple #[.int .u32 0, .bool false])) ∧ Below w.heap.size w w'

set_option maxHeartbeats 400000 in
theorem open_any (x p : Nat) (w : World) (hx : x < 2 ^ 64) (hT : HasRests w) (pl : Int) (hp : IntKind.u64.wrap pl = (p : Int)) (hp64 : p < 2 ^ 64) :
    Calls Tryd.prog 55 #[.int .u64 x, .int .i64 pl] w (OpenIs x p w) := by
  have HT := Lib.hid hT
  have HP := Lib.hid hp
  have hm : x % 4294967296 < 4294967296 := Nat.mod_lt _ (by decide)
  have HG := Lib.hid (get_low x)
  clear hT hp
  go_enter Tryd.func55, Tryd.ntmps55
  go_wp2_with fail
  refine (get_any x 0 32 _ hx (by decide) (by decide)).mono ?_
  rintro e w' ⟨rfl, n, rfl⟩
  rw [HG.out]
  have HS := Lib.hid (rfl : sealN (x % 4294967296) p = sealN (x % 4294967296) p)
  generalize hmm : x % 4294967296 = m at *
  have hs := sealN_lt m p hm
  go_wp2_with fail
  refine (seal_any m p _ hm (HT.out.drewN n) pl HP.out hp64).mono ?_
  rintro e W ⟨rfl, hb⟩
  have HB := Lib.hid hb
  clear hb HS
  have HW : Hid (Below w.heap.size w W) := Lib.hid ((below_drewN (Below.refl _ _) n).trans HB.out)
  generalize hz : sealN m p = s at hs ⊢
  have HQ := Lib.hid hz
  clear hz
  by_cases hq : s = x
  · subst hq
    have HM := Lib.hid hmm
    clear hmm
    go_wp2_with fail
    go_ret2
    exact ⟨by rw [HM.out, if_pos HQ.out]; rfl, HW.out⟩
  · have HM := Lib.hid hmm
    clear hmm
    have HN := Lib.hid hq
    have hq' : ((s : Int) == (x : Int)) = false := by simp; omega
    have hq2 : ((s : Int) != (x : Int)) = true := by simp; omega
    clear hq
    go_wp2_with fail
    go_ret2
    exact ⟨by rw [HM.out, if_neg (by rw [HQ.out]; exact HN.out)]; rfl, HW.out⟩

end Go.Proofs.YtaigocnnmjjhgaaDoor

namespace Go.Proofs.YtaigocnnmjjhgaaDoor
open Go.ChangeShapes Go.WideShapes Go.ChangeAt Go.RowKit Bh Bt
set_option linter.unusedVariables false

set_option maxHeartbeats 1000000 in
theorem number_any (k c l : Nat) (w : World) (hk : k < 4) (hc : c < 64) (hl : l < 65536) :
    Calls Tryd.prog 62 #[.agg #[.int .i64 k, .int .i64 c, .int .i64 l]] w fun e w' => e = .returned (.int .u32 (numN k c l : Nat)) ∧ Below w.heap.size w w' := by
  have E0 := Lib.hid (put0 k hk)
  have E1 := Lib.hid (put1 k c hk hc)
  have E2 := Lib.hid (put2 k c l hk hc hl)
  have hn := numN_lt hk hc hl
  have hk' : (k : Int) < 4 := by omega
  have hc' : (c : Int) < 64 := by omega
  have hl' : (l : Int) < 65536 := by omega
  have hk0 : (0 : Int) ≤ k := by omega
  have hc0 : (0 : Int) ≤ c := by omega
  have hl0 : (0 : Int) ≤ l := by omega
  go_enter Tryd.func62, Tryd.ntmps62
  go_wp2_with fail
  refine (put_any 0 k 0 2 _ (by decide) (by decide) (by decide)).mono ?_
  rintro e w' ⟨rfl, rfl⟩
  rw [E0.out]
  go_wp2_with fail
  refine (put_any k c 2 6 _ (by omega) (by decide) (by decide)).mono ?_
  rintro e w' ⟨rfl, rfl⟩
  rw [E1.out]
  go_wp2_with fail
  refine (put_any (k + 4 * c) l 8 16 _ (by omega) (by decide) (by decide)).mono ?_
  rintro e w' ⟨rfl, rfl⟩
  rw [E2.out]
  generalize hz : numN k c l = n at hn
  have HN := Lib.hid hz
  clear hz
  have hn' : (n : Int) ≤ 16777215 := by omega
  go_wp2_with fail
  go_ret
  exact ⟨by rw [HN.out]; rfl, (Below.refl _ _).alloc (Nat.le_refl _) _⟩

theorem place_any (b q : Int) (w : World) (hq : wrap64 (256 + b) = q) :
    Calls Tryd.prog 56 #[.int .i64 b] w fun e w' => e = .returned (.int .i64 q) ∧ w = w' := by
  have HQ := Lib.hid hq
  clear hq
  go_enter Tryd.func56, Tryd.ntmps56
  go_wp2_with fail
  go_ret
  exact ⟨by rw [← HQ.out]; rfl, rfl⟩

set_option maxHeartbeats 1000000 in
theorem fieldOf_any (n : Nat) (a k : Int) (b : Nat) (w : World) (hn : n < 4294967296) (hb : w.cell? ⟨b, 0, none⟩ = some (.int .u32 n)) (hg : getN n a k < 65536) (ha : 0 ≤ a ∧ a < 64) (hk : 0 ≤ k ∧ k < 64) :
    Calls Tryd.prog 68 #[.int .i64 a, .int .i64 k, .pointer (some ⟨b, 0, none⟩)] w fun e w' => e = .returned (.int .i64 (getN n a k : Nat)) ∧ ∃ m, w' = w.drewN m := by
  have hn' : (n : Int) ≤ 4294967295 := by omega
  go_enter Tryd.func68, Tryd.ntmps68
  go_wp2_with fail
  refine (get_any n a k _ (by omega) (by omega) (by omega)).mono ?_
  rintro e w' ⟨rfl, m, rfl⟩
  generalize hz : getN n a k = g at hg
  have HN := Lib.hid hz
  clear hz
  have hg' : (g : Int) < 65536 := by omega
  go_wp2_with fail
  go_ret
  exact ⟨by rw [HN.out]; rfl, _, rfl⟩

set_option maxHeartbeats 1000000 in
theorem headerOf_any (n : Nat) (w : World) (hn : n < 4294967296) :
    Calls Tryd.prog 57 #[.int .u32 n] w (MadeOne (.agg #[.int .i64 (kOf n : Nat), .int .i64 (cOf n : Nat), .int .i64 (lOf n : Nat)]) w) := by
  have hmf : ∀ (fn : Fn) (first cap : Array Value) (w : World), (Instr.makeFunc fn first cap).run Tryd.prog w = .ok (.func fn first cap) w := fun _ _ _ _ => rfl
  have B0 : Hid (∀ o m, (((w.alloc (.cells #[.int .u32 n] 97)).alloc o).drewN m).cell? ⟨w.heap.size, 0, none⟩ = some (.int .u32 n)) := Lib.hid fun o m => by
    have := ((BoxT.new 97 w #[.int .u32 n]).alloc o).drewN m
    exact this.cell 0
  have F0 : Hid (∀ W : World, W.cell? ⟨w.heap.size, 0, none⟩ = some (.int .u32 n) → Calls Tryd.prog 68 #[.int .i64 0, .int .i64 2, .pointer (some ⟨w.heap.size, 0, none⟩)] W fun e w' => e = .returned (.int .i64 (kOf n : Nat)) ∧ ∃ m, w' = W.drewN m) := Lib.hid fun W h => by
    have := fieldOf_any n 0 2 w.heap.size W hn h (by rw [get0]; omega) (by decide) (by decide)
    rwa [get0] at this
  have F1 : Hid (∀ W : World, W.cell? ⟨w.heap.size, 0, none⟩ = some (.int .u32 n) → Calls Tryd.prog 68 #[.int .i64 2, .int .i64 6, .pointer (some ⟨w.heap.size, 0, none⟩)] W fun e w' => e = .returned (.int .i64 (cOf n : Nat)) ∧ ∃ m, w' = W.drewN m) := Lib.hid fun W h => by
    have := fieldOf_any n 2 6 w.heap.size W hn h (by rw [get1]; omega) (by decide) (by decide)
    rwa [get1] at this
  have F2 : Hid (∀ W : World, W.cell? ⟨w.heap.size, 0, none⟩ = some (.int .u32 n) → Calls Tryd.prog 68 #[.int .i64 8, .int .i64 16, .pointer (some ⟨w.heap.size, 0, none⟩)] W fun e w' => e = .returned (.int .i64 (lOf n : Nat)) ∧ ∃ m, w' = W.drewN m) := Lib.hid fun W h => by
    have := fieldOf_any n 8 16 w.heap.size W hn h (by rw [get2]; omega) (by decide) (by decide)
    rwa [get2] at this
  go_enter Tryd.func57, Tryd.ntmps57
  go_wp2_with fail
  refine (F0.out _ (B0.out _ 0)).mono ?_
  rintro e w' ⟨rfl, m1, rfl⟩
  go_wp2_with fail
  refine (F1.out _ (B0.out _ m1)).mono ?_
  rintro e w' ⟨rfl, m2, rfl⟩
  go_wp2_with fail
  refine (F2.out _ (B0.out _ _)).mono ?_
  rintro e w' ⟨rfl, m3, rfl⟩
  go_wp2_with fail
  exact bodyPost_ret (results_boxT1 rfl _ _ (w.heap.size + 1) _ rfl (box3_fill _ _ _ _ _ _ _ _ _ _) Tryd.underlying48 rfl info3) rfl ⟨rfl, below3_fill _ _ _ _ _ _ _⟩

set_option maxHeartbeats 400000 in
theorem ref_any (k c l : Int) (w : World) :
    Calls Tryd.prog 13 #[.agg #[.int .i64 k, .int .i64 c, .int .i64 l]] w (MadeOne (.agg #[.int .i64 k, .int .i64 c, .int .i64 l]) w) := by
  go_enter Tryd.func13, Tryd.ntmps13
  go_wp2_with fail
  refine bodyPost_ret (v := .agg #[.int .i64 k, .int .i64 c, .int .i64 l]) (by simp [results, Tryd.results13, go_sem]) rfl ⟨rfl, ?_⟩
  exact ((Below.refl _ _).alloc (Nat.le_refl _) _).alloc (by simp) _

end Go.Proofs.YtaigocnnmjjhgaaDoor

namespace Go.Proofs.YtaigocnnmjjhgaaDoor
open Go.ChangeShapes Go.WideShapes Go.ChangeAt Go.RowKit Bt
set_option linter.unusedVariables false

theorem nats_of (K : Nat) : ∀ l : List Int, (∀ n ∈ l, 0 ≤ n ∧ n < K) → 0 < K → ∃ xs : List Nat, l = castL xs ∧ ∀ p, xs.getD p 0 < K
  | [], _, hK => ⟨[], rfl, fun p => by simpa using hK⟩
  | a :: l, h, hK => by
    obtain ⟨xs, hxs, hp⟩ := nats_of K l (fun n hn => h n (by simp [hn])) hK
    have ha := h a (by simp)
    refine ⟨a.toNat :: xs, by rw [hxs]; simp [castL]; omega, fun p => ?_⟩
    cases p with
    | zero => simp; omega
    | succ p => simpa using hp p
theorem mem_lt_of_getD {K : Nat} {xs : List Nat} (h : ∀ p, xs.getD p 0 < K) : ∀ b ∈ xs, b < K := by
  intro b hb
  obtain ⟨i, hi, rfl⟩ := List.getElem_of_mem hb
  have := h i
  rw [List.getD_eq_getElem?_getD, List.getElem?_eq_getElem hi] at this
  exact this
theorem getD_lt_append {K : Nat} {xs ys : List Nat} (hK : 0 < K) (h : ∀ b ∈ xs, b < K) (k : ∀ b ∈ ys, b < K) (p : Nat) : (xs ++ ys).getD p 0 < K := by
  rw [List.getD_eq_getElem?_getD]
  cases e : (xs ++ ys)[p]? with
  | none => exact hK
  | some b =>
    rcases List.mem_append.1 (List.mem_of_getElem? e) with hb | hb
    · exact h b hb
    · exact k b hb
theorem IsInts.drewN {k : IntKind} {w : World} {v : Value} {xs : List Int} (h : IsInts k w v xs) (n : Nat) : IsInts k (w.drewN n) v xs := h
theorem below_step {W w' w1 : World} {B : Nat} (h : Below B W w') (k : Below w'.heap.size w' w1) (hB : B ≤ W.heap.size) : Below B W w1 := h.trans (k.mono (Nat.le_trans hB h.size))

/-- A slice of bytes that came in, as natural numbers. -/
theorem IsRow.bytes {w : World} {a : Option Addr} {len cap : Nat} {zs : List Int} (h : IsRow .u8 w a len cap zs) : ∃ ds : List Nat, IsInts .u8 w (.slice a len cap) (castL ds) ∧ ds.length = len ∧ ∀ p, ds.getD p 0 < 256 := by
  obtain ⟨hI, hL, hw⟩ := h.ints
  obtain ⟨ds, hds, hd⟩ := nats_of 256 _ (fun n hn => by have := bounds_u8 (hw n hn); omega) (by decide)
  rw [hds] at hI hL
  exact ⟨ds, hI, by rw [← hL, castL_length], hd⟩
/-- A slice of words that came in, as natural numbers. -/
theorem IsRow.words {w : World} {a : Option Addr} {len cap : Nat} {zs : List Int} (h : IsRow .u64 w a len cap zs) : ∃ ds : List Nat, IsInts .u64 w (.slice a len cap) (castL ds) ∧ ds.length = len ∧ ∀ p, ds.getD p 0 < 2 ^ 64 := by
  obtain ⟨hI, hL, hw⟩ := h.ints
  obtain ⟨ds, hds, hd⟩ := nats_of (2 ^ 64) _ (fun n hn => by have := bounds_u64 (hw n hn); omega) (by decide)
  rw [hds] at hI hL
  exact ⟨ds, hI, by rw [← hL, castL_length], hd⟩

end Go.Proofs.YtaigocnnmjjhgaaDoor

namespace Go.Proofs.YtaigocnnmjjhgaaDoor
open Go.ChangeShapes Go.WideShapes Go.ChangeAt Go.RowKit Bk
set_option linter.unusedVariables false

/-- v is a slice of these headers, in w. -/
def IsHs (w : World) (v : Value) (hs : List H3) : Prop :=
  ∃ a cap, v = .slice a hs.length cap ∧ hs.length ≤ cap ∧ (hs = [] ∨ ∃ b off, a = some ⟨b, off, none⟩ ∧ b < w.heap.size ∧ ∀ i, i < hs.length →
    w.cell? ⟨b, off + i * 3, none⟩ = some (.int .i64 (hs.getD i (0, 0, 0)).1) ∧ w.cell? ⟨b, off + i * 3 + 1, none⟩ = some (.int .i64 (hs.getD i (0, 0, 0)).2.1) ∧ w.cell? ⟨b, off + i * 3 + 2, none⟩ = some (.int .i64 (hs.getD i (0, 0, 0)).2.2))
/-- v is a slice of these spans, in w. -/
def IsSps (w : World) (v : Value) (l : List (Int × Int)) : Prop :=
  ∃ a cap, v = .slice a l.length cap ∧ l.length ≤ cap ∧ (l = [] ∨ ∃ b off, a = some ⟨b, off, none⟩ ∧ b < w.heap.size ∧ ∀ i, i < l.length →
    w.cell? ⟨b, off + i * 2, none⟩ = some (.int .i64 (l.getD i (0, 0)).1) ∧ w.cell? ⟨b, off + i * 2 + 1, none⟩ = some (.int .i64 (l.getD i (0, 0)).2))

theorem IsHs.below {w w' : World} {v : Value} {hs : List H3} {B : Nat} (h : IsHs w v hs) (hb : Below B w w') (hB : w.heap.size ≤ B) : IsHs w' v hs := by
  obtain ⟨a, cap, rfl, hc, h⟩ := h
  refine ⟨a, cap, rfl, hc, ?_⟩
  rcases h with h | ⟨b, off, rfl, hlt, h⟩
  · exact .inl h
  · refine .inr ⟨b, off, rfl, Nat.lt_of_lt_of_le hlt hb.size, fun i hi => ?_⟩
    have e : ∀ o, w'.cell? ⟨b, o, none⟩ = w.cell? ⟨b, o, none⟩ := fun o => hb.cell (p := ⟨b, o, none⟩) (Nat.lt_of_lt_of_le hlt hB)
    rw [e, e, e]; exact h i hi
theorem IsSps.below {w w' : World} {v : Value} {hs : List (Int × Int)} {B : Nat} (h : IsSps w v hs) (hb : Below B w w') (hB : w.heap.size ≤ B) : IsSps w' v hs := by
  obtain ⟨a, cap, rfl, hc, h⟩ := h
  refine ⟨a, cap, rfl, hc, ?_⟩
  rcases h with h | ⟨b, off, rfl, hlt, h⟩
  · exact .inl h
  · refine .inr ⟨b, off, rfl, Nat.lt_of_lt_of_le hlt hb.size, fun i hi => ?_⟩
    have e : ∀ o, w'.cell? ⟨b, o, none⟩ = w.cell? ⟨b, o, none⟩ := fun o => hb.cell (p := ⟨b, o, none⟩) (Nat.lt_of_lt_of_le hlt hB)
    rw [e, e]; exact h i hi

/-- Of a row that the call owns. -/
theorem own_cells {w : World} {v : Value} {base n size : Nat} {e : TypeId} {xs : List Int} (h : w.ownsRow base e size v n (xs.map (Value.int .i64))) :
    (v = .slice none 0 0 ∧ n = 0) ∨ ∃ g cap, v = .slice (some ⟨g, 0, none⟩) n cap ∧ n ≤ cap ∧ base ≤ g ∧ g < w.heap.size ∧ ∀ j, j < n * size → ∀ x, xs[j]? = some x → w.cell? ⟨g, j, none⟩ = some (.int .i64 x) := by
  obtain ⟨hl, h⟩ := h
  rcases h with ⟨rfl, h0⟩ | ⟨g, cap, cur, rfl, hgb, hg, hc, _, hs, ht⟩
  · exact .inl ⟨rfl, h0⟩
  · refine .inr ⟨g, cap, rfl, hc, hgb, ?_, fun j hj x hx => ?_⟩
    · rcases Nat.lt_or_ge g w.heap.size with h | h
      · exact h
      · rw [Array.getElem?_eq_none h] at hg; cases hg
    · have h1 : (cur.toList.take (n * size))[j]? = some (.int .i64 x) := by rw [ht, List.getElem?_map, hx]; rfl
      rw [List.getElem?_take_of_lt hj] at h1
      simp only [World.cell?, hg]
      simpa using h1
theorem IsHs.of_own {w : World} {v : Value} {hs : List H3} {base n : Nat} {e : TypeId} (h : w.ownsRow base e 3 v n ((flat3 hs).map (Value.int .i64))) (hn : n = hs.length) : IsHs w v hs := by
  subst hn
  rcases own_cells h with ⟨rfl, h0⟩ | ⟨g, cap, rfl, hc, _, hg, hx⟩
  · exact ⟨none, 0, by rw [h0], by omega, .inl (List.length_eq_zero_iff.1 h0)⟩
  · refine ⟨_, cap, rfl, hc, .inr ⟨g, 0, rfl, hg, fun i hi => ?_⟩⟩
    obtain ⟨a, b, c⟩ := flat3_get hs i hi
    rw [Nat.zero_add]
    exact ⟨hx _ (by omega) _ a, hx _ (by omega) _ b, hx _ (by omega) _ c⟩
theorem IsSps.of_own {w : World} {v : Value} {hs : List (Int × Int)} {base n : Nat} {e : TypeId} (h : w.ownsRow base e 2 v n ((flat2 hs).map (Value.int .i64))) (hn : n = hs.length) : IsSps w v hs := by
  subst hn
  rcases own_cells h with ⟨rfl, h0⟩ | ⟨g, cap, rfl, hc, _, hg, hx⟩
  · exact ⟨none, 0, by rw [h0], by omega, .inl (List.length_eq_zero_iff.1 h0)⟩
  · refine ⟨_, cap, rfl, hc, .inr ⟨g, 0, rfl, hg, fun i hi => ?_⟩⟩
    obtain ⟨a, b⟩ := flat2_get hs i hi
    rw [Nat.zero_add]
    exact ⟨hx _ (by omega) _ a, hx _ (by omega) _ b⟩

/-- Three cells in a new block; two. -/
theorem three_new (w : World) (t : Nat) (x y z : Value) : ∀ j u, [x, y, z][j]? = some u → (w.alloc (.cells #[x, y, z] t)).cell? ((⟨w.heap.size, 0, none⟩ : Addr).add j) = some u := by
  intro j u hu
  have hj : j < 3 := (List.getElem?_eq_some_iff.1 hu).1
  rw [addr_add, cell_of_row _ _ _ _ _ _ (heap_alloc_new w _), ← hu]
  match j, hj with
  | 0, _ | 1, _ | 2, _ => rfl
theorem two_new (w : World) (t : Nat) (x y : Value) : ∀ j u, [x, y][j]? = some u → (w.alloc (.cells #[x, y] t)).cell? ((⟨w.heap.size, 0, none⟩ : Addr).add j) = some u := by
  intro j u hu
  have hj : j < 2 := (List.getElem?_eq_some_iff.1 hu).1
  rw [addr_add, cell_of_row _ _ _ _ _ _ (heap_alloc_new w _), ← hu]
  match j, hj with
  | 0, _ | 1, _ => rfl

theorem infoRH : (Tryd.prog.info? 46).map (fun i => (i.zero, i.size, i.bytes)) = some (some (.agg #[.int .i64 0, .int .i64 0, .int .i64 0]), 3, 24) := by kernel_rfl

/-- A row so far, of n headers of type e. -/
def HsAt (e : TypeId) (hs : List H3) (n B : Nat) (v : Value) (w wr : World) : Prop :=
  wr.ownsRow B e 3 v n ((flat3 hs).map (Value.int .i64)) ∧ Below B w wr
theorem HsAt.on {e : TypeId} {hs : List H3} {n B : Nat} {v : Value} {w wr w1 : World} (h : HsAt e hs n B v w wr) (hb : Below wr.heap.size wr w1) (hB : B ≤ w.heap.size) : HsAt e hs n B v w w1 :=
  ⟨h.1.kept (row := none) ⟨hb.os, hb.tape, hb.output, hb.size, fun k hk _ => hb.block k hk⟩ (by cases v.ownBlock <;> simp), below_step h.2 hb hB⟩
/-- One header more. -/
theorem HsAt.snoc {e : TypeId} {hs : List H3} {n B : Nat} {v v' : Value} {w wr w1 : World} {o : Obj} {x y z : Int} (hh : HsAt e hs n B v w wr) (hB : B ≤ wr.heap.size)
    (hown : w1.ownsRow B e 3 v' (n + 1) ((flat3 hs).map (Value.int .i64) ++ [.int .i64 x, .int .i64 y, .int .i64 z])) (hg : (wr.alloc o).grownBy w1 v.ownBlock) : HsAt e (hs ++ [(x, y, z)]) (n + 1) B v' w w1 := by
  refine ⟨?_, (hh.2.alloc hB _).grown hg (by simp; omega) (fun b hb => (hh.1.lt b hb).1)⟩
  rw [flat3_app, List.map_append]
  exact hown

set_option maxHeartbeats 1000000 in
theorem refs_any (v : Value) (hs : List H3) (w : World) (h : IsHs w v hs) (hlen : hs.length ≤ 100000) :
    Calls Tryd.prog 12 #[v] w fun e w' => ∃ v', e = .returned v' ∧ IsHs w' v' hs ∧ Below w.heap.size w w' := by
  obtain ⟨i0, hi, hz0, hz1, hz2⟩ := info_parts infoRH
  obtain ⟨a, cap, rfl, hcap, hc⟩ := h
  have H0 : Hid (HsAt 46 (hs.take 0) 0 w.heap.size (.slice none 0 0) w w) := Lib.hid ⟨World.ownsRow_nil _ _ _ _, Below.refl _ _⟩
  have HC := Lib.hid hc
  have RF : Hid (∀ k c l w, Calls Tryd.prog 13 #[.agg #[.int .i64 k, .int .i64 c, .int .i64 l]] w (MadeOne (.agg #[.int .i64 k, .int .i64 c, .int .i64 l]) w)) := Lib.hid fun k c l w => ref_any k c l w
  clear hc
  obtain ⟨n, hn⟩ : ∃ n, hs.length = n := ⟨_, rfl⟩
  have HN := Lib.hid hn
  rw [hn] at hcap hlen ⊢
  clear hn
  go_enter Tryd.func12, Tryd.ntmps12
  go_wp2_with fail
  go_loopw [3, 4] (fun v i wr => ∃ m : Nat, m ≤ n ∧ i = .int .i64 m ∧ Hid (HsAt 46 (hs.take m) m w.heap.size v w wr)) (fun _ i _ => n - (intOf i).toNat)
  case atStart => exact ⟨0, by omega, rfl, H0⟩
  case round =>
    obtain ⟨m, hm, rfl, HR⟩ := hrel
    by_cases hlt : m < n
    · have hlt' : ((m : Nat) : Int) < ((n : Nat) : Int) := by omega
      have hm0 : (0 : Int) ≤ ((m : Nat) : Int) := by omega
      obtain ⟨b, off, rfl, hb, hcell⟩ := HC.out.resolve_left (fun h => by have := HN.out; rw [h] at this; simp at this; omega)
      obtain ⟨c0, c1, c2⟩ := hcell m (by rw [HN.out]; exact hlt)
      have hS : Hid (hs.take (m + 1) = hs.take m ++ [hs.getD m (0, 0, 0)]) := Lib.hid (by
        have hm' : m < hs.length := by rw [HN.out]; exact hlt
        rw [List.take_add_one, List.getElem?_eq_getElem hm', List.getD_eq_getElem?_getD, List.getElem?_eq_getElem hm']; rfl)
      generalize hs.getD m (0, 0, 0) = x at *
      obtain ⟨x0, x1, x2⟩ := x
      have d0 : wr.cell? ⟨b, off + m * 3, none⟩ = some (.int .i64 x0) := (HR.out.2.cell (p := ⟨b, off + m * 3, none⟩) hb).trans c0
      have d1 : wr.cell? ⟨b, off + m * 3 + 1, none⟩ = some (.int .i64 x1) := (HR.out.2.cell (p := ⟨b, off + m * 3 + 1, none⟩) hb).trans c1
      have d2 : wr.cell? ⟨b, off + m * 3 + 2, none⟩ = some (.int .i64 x2) := (HR.out.2.cell (p := ⟨b, off + m * 3 + 2, none⟩) hb).trans c2
      clear hcell c0 c1 c2
      go_wp2_with fail
      refine (RF.out _ _ _ _).mono ?_
      rintro e w2 ⟨rfl, hb2⟩
      have R2 := Lib.hid (HR.out.on hb2 (Nat.le_refl _))
      have hs2 := R2.out.2.size
      clear hb2 HR
      go_wp2_with (at_builtin; refine wpList_append_own _ rfl (.tmp 11) (.tmp 17) 37 rfl w.heap.size 46 i0 _ 3 24 Tryd.underlying37 hi hz0 hz1 hz2 rfl (by decide) _ _ _ rfl (R2.out.1.alloc _) ⟨w2.heap.size, 0, none⟩ 1 1 [.int .i64 x0, .int .i64 x1, .int .i64 x2] rfl rfl (three_new _ _ _ _ _) (by intro u hu; simp at hu; rcases hu with rfl | rfl | rfl <;> rfl) (by unfold maxLen; omega) (by omega) (by simp; omega) ?_)
      intro v' w3 hown' hgrow _
      have HN1 : Hid (HsAt 46 (hs.take (m + 1)) (m + 1) w.heap.size v' w w3) := Lib.hid (by rw [hS.out]; exact R2.out.snoc hs2 hown' hgrow)
      clear hown' hgrow R2
      go_wp2_with fail
      go_roundw
      case rel => exact ⟨m + 1, by omega, by go_num, HN1⟩
      case measure => simp [intOf]; omega
    · have hlt' : ¬ ((m : Nat) : Int) < ((n : Nat) : Int) := by omega
      have hmn : m = n := by omega
      have HM : Hid (hs.take m = hs) := Lib.hid (List.take_of_length_le (by rw [HN.out]; omega))
      have HMN := Lib.hid hmn
      clear hlt hmn
      go_wp2_with fail
      go_ret
      have hr := HR.out
      rw [HM.out] at hr
      exact ⟨_, rfl, .of_own hr.1 (by rw [HN.out, HMN.out]), hr.2⟩

end Go.Proofs.YtaigocnnmjjhgaaDoor

namespace Go.Proofs.YtaigocnnmjjhgaaDoor
open Go.ChangeShapes Go.WideShapes Go.ChangeAt Go.RowKit Bk
set_option linter.unusedVariables false

set_option maxHeartbeats 1000000 in
theorem few10_any (g : Nat) (a : Option Addr) (len cap : Nat) (w : World) (c1 : w.cell? ⟨g, 1, none⟩ = some (.slice a len cap)) :
    Calls Tryd.prog 19 #[.slice (some ⟨g, 0, none⟩) 1 1] w fun e w' => e = .returned (.bool (decide (len ≤ 20))) ∧ w = w' := by
  by_cases h : len ≤ 20
  · rw [decide_eq_true h]
    have hd : decide (20 < (len : Int)) = false := by simp; omega
    clear h
    go_enter Tryd.func19, Tryd.ntmps19
    go_wp2_with fail
    go_loopw [3] (fun i wr => ∃ q : Nat, q ≤ 1 ∧ i = .int .i64 q ∧ w = wr) (fun i _ => 2 - (intOf i).toNat)
    case atStart => exact ⟨0, by omega, rfl, rfl⟩
    case round =>
      obtain ⟨q, hq, rfl, rfl⟩ := hrel
      by_cases h0 : q = 0
      · subst h0
        go_wp2_with fail
        go_roundw
        case rel => exact ⟨1, by omega, by go_num, by simp⟩
        case measure => simp [intOf]
      · obtain rfl : q = 1 := by omega
        go_wp2_with fail
        go_ret
        exact ⟨rfl, rfl⟩
  · rw [decide_eq_false h]
    have hd : 20 < (len : Int) := by omega
    clear h
    go_enter Tryd.func19, Tryd.ntmps19
    go_wp2_with fail
    go_loopw [3] (fun i wr => i = .int .i64 0 ∧ w = wr) (fun i _ => 1)
    case atStart => exact ⟨rfl, rfl⟩
    case round =>
      obtain ⟨rfl, rfl⟩ := hrel
      go_wp2_with fail
      go_ret
      exact ⟨rfl, rfl⟩

end Go.Proofs.YtaigocnnmjjhgaaDoor

namespace Go.Proofs.YtaigocnnmjjhgaaDoor
open Go.ChangeShapes Go.WideShapes Go.ChangeAt Go.RowKit Bk
open Go.Deep
set_option linter.unusedVariables false

section
variable {H : Type} {enc : TypeId × Value → H} {w : World} {base : Nat}

set_option maxRecDepth 100000 in
theorem hd_of_trod {fuel : Nat} {cs : List Value} {x : DataW H × List MemPlace} (h : DataW.trod enc Tryd.prog w base (fun _ => true) true fuel 48 cs = some x) (hl : cs.length = 3) :
    ∃ z : H3, cs = [.int .i64 z.1, .int .i64 z.2.1, .int .i64 z.2.2] := by
  obtain ⟨ys, n, _, _, hlen, hyl, hf⟩ := DataW.trod_struct Tryd.underlying48 h
  match cs, hl with
  | [v0, v1, v2], _ =>
    have c3 : Tryd.prog.cellsOf 3 = 1 := by kernel_rfl
    have g0 : DataW.trod enc Tryd.prog w base (fun _ => true) true n 3 (([v0, v1, v2].drop 0).take (Tryd.prog.cellsOf 3)) = ys[0]? := hf 0 _ rfl
    have g1 : DataW.trod enc Tryd.prog w base (fun _ => true) true n 3 (([v0, v1, v2].drop 1).take (Tryd.prog.cellsOf 3)) = ys[1]? := hf 1 _ rfl
    have g2 : DataW.trod enc Tryd.prog w base (fun _ => true) true n 3 (([v0, v1, v2].drop 2).take (Tryd.prog.cellsOf 3)) = ys[2]? := hf 2 _ rfl
    have hy3 : ys.length = 3 := hyl
    rw [List.getElem?_eq_getElem (by omega), c3] at g0
    rw [List.getElem?_eq_getElem (by omega), c3] at g1
    rw [List.getElem?_eq_getElem (by omega), c3] at g2
    obtain ⟨z0, e0, _, w0⟩ := DataW.trod_int Tryd.underlying3 g0
    obtain ⟨z1, e1, _, w1⟩ := DataW.trod_int Tryd.underlying3 g1
    obtain ⟨z2, e2, _, w2⟩ := DataW.trod_int Tryd.underlying3 g2
    simp at e0 e1 e2
    subst e0 e1 e2
    exact ⟨(z0, z1, z2), rfl⟩

theorem hs_pick {P : Nat → H3 → Prop} : ∀ len, (∀ i, i < len → ∃ o, P i o) → ∃ hs : List H3, hs.length = len ∧ ∀ i, i < len → P i (hs.getD i (0, 0, 0))
  | 0, _ => ⟨[], rfl, fun i hi => absurd hi (by simp)⟩
  | n + 1, h => by
    obtain ⟨os, h1, h2⟩ := hs_pick n fun i hi => h i (by omega)
    obtain ⟨o, ho⟩ := h n (by omega)
    refine ⟨os ++ [o], by simp [h1], fun i hi => ?_⟩
    rw [List.getD_eq_getElem?_getD]
    by_cases e : i < os.length
    · rw [List.getElem?_append_left e]
      have := h2 i (by omega)
      rwa [List.getD_eq_getElem?_getD] at this
    · have : i = n := by omega
      subst this
      rw [List.getElem?_append_right (by omega)]
      simpa [h1] using ho

theorem hs_of_trod {fuel : Nat} {v : Value} {x : DataW H × List MemPlace} (h : DataW.trod enc Tryd.prog w base (fun _ => true) true fuel 33 [v] = some x) :
    ∃ a len cap hs, v = .slice a len cap ∧ IsHs w (.slice a len cap) hs := by
  rcases open_slice Tryd.underlying33 h with ⟨hcs, _⟩ | ⟨x, l, c, m, n, D, Pl, hcs, _, hl, hm, hmm, hx, hi⟩
  · simp at hcs
    exact ⟨none, 0, 0, [], hcs, none, 0, rfl, by simp, .inl rfl⟩
  · simp at hcs
    subst hcs
    simp at hmm
    subst hmm
    have c3 : Tryd.prog.cellsOf 48 = 3 := by kernel_rfl
    rw [c3] at hi
    by_cases h0 : l = 0
    · subst h0
      exact ⟨_, _, _, [], rfl, some x, m, rfl, by simp, .inl rfl⟩
    · obtain ⟨b, off, spot⟩ := x
      have hat : ∀ i, i < l → ∃ z : H3, ∀ j v, [Value.int .i64 z.1, .int .i64 z.2.1, .int .i64 z.2.2][j]? = some v → w.cell? (((⟨b, off, spot⟩ : Addr).add (i * 3)).add j) = some v := fun i hil => by
        obtain ⟨cs', hc, ht'⟩ := hi i (by omega)
        obtain ⟨_, hcl, hca⟩ := World.cells?_some hc
        obtain ⟨z, rfl⟩ := hd_of_trod ht' hcl
        refine ⟨z, fun j v hj => ?_⟩
        have hjl : j < 3 := by have := (List.getElem?_eq_some_iff.1 hj).1; simpa using this
        rw [hca j hjl, hj]
      obtain ⟨o0, hc0⟩ := hat 0 (by omega)
      have hc00 := hc0 0 _ rfl
      have hspot : spot = none := by
        have := World.cell?_spot hc00
        simpa [Addr.add] using this
      subst hspot
      have hb : b < w.heap.size := by have := World.block_lt_of_cell? _ _ hc00; rw [addr_add, addr_add] at this; exact this
      obtain ⟨hs, hlen, hos⟩ := hs_pick (P := fun i z => w.cell? ⟨b, off + i * 3, none⟩ = some (.int .i64 z.1) ∧ w.cell? ⟨b, off + i * 3 + 1, none⟩ = some (.int .i64 z.2.1) ∧ w.cell? ⟨b, off + i * 3 + 2, none⟩ = some (.int .i64 z.2.2)) l fun i hil => by
        obtain ⟨z, hc⟩ := hat i hil
        have e : ∀ j v, [Value.int .i64 z.1, .int .i64 z.2.1, .int .i64 z.2.2][j]? = some v → w.cell? ⟨b, off + i * 3 + j, none⟩ = some v := fun j v hj => by
          have := hc j v hj
          rwa [addr_add, addr_add] at this
        exact ⟨z, e 0 _ rfl, e 1 _ rfl, e 2 _ rfl⟩
      refine ⟨_, _, _, hs, rfl, some ⟨b, off, none⟩, m, by rw [hlen], by omega, .inr ⟨b, off, rfl, hb, fun i hi => hos i (by omega)⟩⟩

set_option maxRecDepth 100000 in
/-- A call, by value. -/
theorem op10_of_val {v : Value} {d : DataW H} {p : List MemPlace} {r : Reach} {b0 : Nat} (hv : Value.okWide Tryd.prog w r b0 58 v) (h : DataW.Trod enc Tryd.prog w base (fun _ => true) true 58 v d p) :
    ∃ (b f : Int) (a : Option Addr) (len cap : Nat) (hs : List H3), v = .agg #[.int .i64 b, .slice a len cap, .int .i64 f] ∧ IsHs w (.slice a len cap) hs ∧ (-9223372036854775808 ≤ b ∧ b ≤ 9223372036854775807) := by
  obtain ⟨cs, rfl, hsz⟩ := okWide_struct Tryd.underlying58 hv
  obtain ⟨fuel, hf⟩ := h
  have c3 : Tryd.prog.cellsOf 58 = 3 := by kernel_rfl
  rw [c3] at hsz
  have hl : cs.toList.length = 3 := by simpa using hsz
  have hf' : DataW.trod enc Tryd.prog w base (fun _ => true) true fuel 58 cs.toList = some (d, p) := hf
  obtain ⟨ys, n, _, _, hlen, hyl, hg⟩ := DataW.trod_struct Tryd.underlying58 hf'
  obtain ⟨l⟩ := cs
  match l, hl with
  | [v0, v1, v2], _ =>
    have c1 : Tryd.prog.cellsOf 3 = 1 := by kernel_rfl
    have cs1 : Tryd.prog.cellsOf 33 = 1 := by kernel_rfl
    have g0 : DataW.trod enc Tryd.prog w base (fun _ => true) true n 3 (([v0, v1, v2].drop 0).take (Tryd.prog.cellsOf 3)) = ys[0]? := hg 0 _ rfl
    have g1 : DataW.trod enc Tryd.prog w base (fun _ => true) true n 33 (([v0, v1, v2].drop 1).take (Tryd.prog.cellsOf 33)) = ys[1]? := hg 1 _ rfl
    have g2 : DataW.trod enc Tryd.prog w base (fun _ => true) true n 3 (([v0, v1, v2].drop 2).take (Tryd.prog.cellsOf 3)) = ys[2]? := hg 2 _ rfl
    have hy3 : ys.length = 3 := hyl
    rw [List.getElem?_eq_getElem (by omega), c1] at g0
    rw [List.getElem?_eq_getElem (by omega), cs1] at g1
    rw [List.getElem?_eq_getElem (by omega), c1] at g2
    change DataW.trod enc Tryd.prog w base (fun _ => true) true n 33 [v1] = _ at g1
    obtain ⟨z0, e0, _, w0⟩ := DataW.trod_int Tryd.underlying3 g0
    obtain ⟨a, len, cap, hs, rfl, hh⟩ := hs_of_trod g1
    obtain ⟨z2, e2, _, w2⟩ := DataW.trod_int Tryd.underlying3 g2
    simp at e0 e2
    subst e0 e2
    exact ⟨z0, z2, a, len, cap, hs, rfl, hh, bounds_i64 w0⟩
end

end Go.Proofs.YtaigocnnmjjhgaaDoor

namespace Go.Proofs.YtaigocnnmjjhgaaDoor
namespace Cl

/-- Words of a cell, of each class. -/
def tab : List Nat := [2, 3, 4, 5, 6, 7, 8, 10, 12, 14, 16, 18, 20, 24, 28, 32, 36, 40, 46, 51, 56, 64, 73, 85, 92, 102, 113, 128, 146, 170, 204, 256]
def wd (k : Nat) : Nat := tab.getD k 0
/-- All sizes, as integers. -/
def sizesI : List Int := [2, 3, 4, 5, 6, 7, 8, 10, 12, 14, 16, 18, 20, 24, 28, 32, 36, 40, 46, 51, 56, 64, 73, 85, 92, 102, 113, 128, 146, 170, 204, 256]
theorem sizesI_at : ∀ k, k < 32 → sizesI.getD k 0 = (wd k : Int) := by decide
theorem wd_in : ∀ k, k < 32 → 2 ≤ wd k ∧ wd k ≤ 256 := by decide
theorem wd_rises : ∀ k, k < 31 → wd k < wd (k + 1) := by decide
theorem wd_mono : ∀ d j, j + d < 32 → wd j ≤ wd (j + d)
  | 0, j, _ => Nat.le_refl _
  | d + 1, j, h => Nat.le_trans (wd_mono d j (by omega)) (Nat.le_of_lt (wd_rises (j + d) (by omega)))
theorem wd_last : wd 31 = 256 := by decide

/-- Is there such a class? -/
def rightC (k : Int) : Bool := decide (0 ≤ k ∧ k < 32)
/-- The least class whose cells have at least so many words. -/
def clsC (n : Int) : Option Nat := if n < 1 then none else (List.range 32).find? fun k => decide (n ≤ (wd k : Int))
theorem clsC_low {n : Int} (h : n < 1) : clsC n = none := if_pos h
theorem clsC_at {n : Int} {k : Nat} (h : ¬ n < 1) (hk : k < 32) (hl : ∀ j, j < k → (wd j : Int) < n) (hn : n ≤ (wd k : Int)) : clsC n = some k := by
  unfold clsC
  rw [if_neg h, List.find?_range_eq_some]
  refine ⟨by simpa using hn, by simpa using hk, fun j hj => ?_⟩
  have := hl j hj
  simp; omega
theorem clsC_high {n : Int} (h : ∀ j, j < 32 → (wd j : Int) < n) : clsC n = none := by
  unfold clsC
  split
  · rfl
  · rw [List.find?_range_eq_none]
    intro j hj
    have := h j (by simpa using hj)
    simp; omega
/-- What is from 1 to 256 has a class. -/
theorem clsC_mid {n : Int} (h0 : 1 ≤ n) (h1 : n ≤ 256) : ∃ k, clsC n = some k ∧ k < 32 ∧ n ≤ (wd k : Int) ∧ ∀ j, j < k → (wd j : Int) < n := by
  have hn : ¬ n < 1 := by omega
  cases hc : clsC n with
  | none =>
    unfold clsC at hc
    rw [if_neg hn, List.find?_range_eq_none] at hc
    have := hc 31 (by decide)
    simp [wd_last] at this
    omega
  | some k =>
    refine ⟨k, rfl, ?_⟩
    unfold clsC at hc
    rw [if_neg hn, List.find?_range_eq_some] at hc
    obtain ⟨a, b, c⟩ := hc
    refine ⟨by simpa using b, by simpa using a, fun j hj => ?_⟩
    have := c j hj
    simp at this
    omega
theorem div_bounds {t : Nat} (h : 2 ≤ t) : 512 / t ≤ 256 := by
  exact Nat.div_le_div_left (c := 2) (a := 512) h (by decide)
theorem fill {t : Nat} : (512 / t) * t + 512 % t = 512 := by
  have := Nat.div_add_mod 512 t
  rw [Nat.mul_comm] at this; exact this

end Cl
end Go.Proofs.YtaigocnnmjjhgaaDoor

namespace Go.Proofs.YtaigocnnmjjhgaaDoor
open Go.ChangeShapes Go.WideShapes Go.ChangeAt Go.RowKit Cl
set_option linter.unusedVariables false

set_option maxHeartbeats 400000 in
theorem right_any (k : Int) (w : World) :
    Calls Tryd.prog 66 #[.int .i64 k] w fun e w' => e = .returned (.bool (rightC k)) ∧ w = w' := by
  by_cases h0 : 0 ≤ k
  · by_cases h1 : k < 32
    · have HH := Lib.hid (show rightC k = true from decide_eq_true ⟨h0, h1⟩)
      go_enter Tryd.func66, Tryd.ntmps66
      go_wp2
      go_ret
      exact ⟨ret_bool HH.out.symm, rfl⟩
    · have HH := Lib.hid (show rightC k = false from decide_eq_false (fun h => h1 h.2))
      have hd : decide (k < 32) = false := by simpa using h1
      go_enter Tryd.func66, Tryd.ntmps66
      go_wp2
      go_ret
      exact ⟨ret_bool HH.out.symm, rfl⟩
  · have HH := Lib.hid (show rightC k = false from decide_eq_false (fun h => h0 h.1))
    have hd : decide (0 ≤ k) = false := by simpa using h0
    go_enter Tryd.func66, Tryd.ntmps66
    go_wp2
    go_ret
    exact ⟨ret_bool HH.out.symm, rfl⟩

theorem right_yes (k : Nat) (w : World) (hk : k < 32) :
    Calls Tryd.prog 66 #[.int .i64 k] w fun e w' => e = .returned (.bool true) ∧ w = w' := by
  have := right_any k w
  rwa [show rightC k = true from decide_eq_true (by omega)] at this
theorem right_no (k : Int) (w : World) (hk : k < 0 ∨ 32 ≤ k) :
    Calls Tryd.prog 66 #[.int .i64 k] w fun e w' => e = .returned (.bool false) ∧ w = w' := by
  have := right_any k w
  rwa [show rightC k = false from decide_eq_false (by omega)] at this

end Go.Proofs.YtaigocnnmjjhgaaDoor

namespace Go.Proofs.YtaigocnnmjjhgaaDoor
open Go.ChangeShapes Go.WideShapes Go.ChangeAt Go.RowKit Bh
set_option linter.unusedVariables false

set_option maxHeartbeats 1000000 in
theorem headRight_any (k c l : Int) (w : World) :
    Calls Tryd.prog 54 #[.agg #[.int .i64 k, .int .i64 c, .int .i64 l]] w fun e w' => e = .returned (.bool (rightH k c l)) ∧ Below w.heap.size w w' := by
  have HB : Hid (∀ o, Below w.heap.size w (w.alloc o)) := Lib.hid fun o => (Below.refl _ _).alloc (Nat.le_refl _) _
  by_cases h0 : k = 0
  · subst h0
    have heq := fun w' => eq3V 0 c l 0 0 0 w'
    have hr : rightH 0 c l = ((0 : Int) == 0 && c == 0 && l == 0) := by
      unfold rightH; rw [Bool.eq_iff_iff]; simp
    rw [← hr] at heq
    have HR := Lib.hid hr
    clear hr
    generalize rightH 0 c l = r at *
    go_enter Tryd.func54, Tryd.ntmps54
    go_wp2_with fail
    go_ret
    exact ⟨rfl, HB.out _⟩
  by_cases h1 : k = 1
  · subst h1
    clear h0
    have heq := fun w' => eq3V 1 c l 1 c 0 w'
    have hr : Hid (rightH 1 c l = (Cl.rightC c && (l == 0))) := Lib.hid (by
      unfold rightH Cl.rightC; rw [Bool.eq_iff_iff]; simp)
    have he : ((1 : Int) == 1 && c == c && l == 0) = (l == 0) := by simp
    rw [he] at heq
    clear he
    by_cases hc : Cl.rightC c = true
    · have HC : Hid (∀ w, Calls Tryd.prog 66 #[.int .i64 c] w fun e w' => e = .returned (.bool true) ∧ w = w') := Lib.hid fun w => by
        have := right_any c w; rwa [hc] at this
      rw [hr.out, hc, Bool.true_and]
      clear hr hc
      go_enter Tryd.func54, Tryd.ntmps54
      go_wp2_with fail
      refine (HC.out _).mono ?_
      rintro e w' ⟨rfl, rfl⟩
      go_wp2_with fail
      go_ret
      exact ⟨rfl, HB.out _⟩
    · have hc : Cl.rightC c = false := by simpa using hc
      have HC : Hid (∀ w, Calls Tryd.prog 66 #[.int .i64 c] w fun e w' => e = .returned (.bool false) ∧ w = w') := Lib.hid fun w => by
        have := right_any c w; rwa [hc] at this
      rw [hr.out, hc, Bool.false_and]
      clear hr hc
      go_enter Tryd.func54, Tryd.ntmps54
      go_wp2_with fail
      refine (HC.out _).mono ?_
      rintro e w' ⟨rfl, rfl⟩
      go_wp2_with fail
      go_ret
      exact ⟨rfl, HB.out _⟩
  by_cases h2 : k = 2 ∨ k = 3
  · have heq := fun w' => eq3V k c l k 0 l w'
    have he : (k == k && c == 0 && l == l) = decide (c = 0) := by rw [Bool.eq_iff_iff]; simp
    rw [he] at heq
    clear he h0 h1
    by_cases g : 1 ≤ l
    rotate_left
    · have hr : rightH k c l = false := decide_eq_false (by omega)
      rw [hr]
      have hd : decide (1 ≤ l) = false := by simpa using g
      clear hr g heq
      rcases h2 with rfl | rfl
      all_goals
        go_enter Tryd.func54, Tryd.ntmps54
        go_wp2_with fail
        go_ret
        exact ⟨rfl, HB.out _⟩
    by_cases g' : l ≤ 255
    rotate_left
    · have hr : rightH k c l = false := decide_eq_false (by omega)
      rw [hr]
      have hd : decide (l ≤ 255) = false := by simpa using g'
      clear hr g' heq
      rcases h2 with rfl | rfl
      all_goals
        go_enter Tryd.func54, Tryd.ntmps54
        go_wp2_with fail
        go_ret
        exact ⟨rfl, HB.out _⟩
    have hr : rightH k c l = decide (c = 0) := by unfold rightH; rw [decide_eq_decide]; omega
    rw [hr]
    clear hr
    generalize decide (c = 0) = r at *
    rcases h2 with rfl | rfl
    all_goals
      go_enter Tryd.func54, Tryd.ntmps54
      go_wp2_with fail
      go_ret
      exact ⟨rfl, HB.out _⟩
  · have hr : rightH k c l = false := decide_eq_false (by omega)
    rw [hr]
    have e0 : (k == 0) = false := by simpa using h0
    have e1 : (k == 1) = false := by simpa using h1
    have e2 : (k == 2) = false := by simp; omega
    have e3 : (k == 3) = false := by simp; omega
    clear h0 h1 h2 hr
    go_enter Tryd.func54, Tryd.ntmps54
    go_wp2_with fail
    go_ret
    exact ⟨rfl, HB.out _⟩

set_option maxHeartbeats 2000000 in
theorem refRight_any (k c l : Int) (w : World) :
    Calls Tryd.prog 44 #[.agg #[.int .i64 k, .int .i64 c, .int .i64 l]] w fun e w' => e = .returned (.bool (rightH k c l)) ∧ Below w.heap.size w w' := by
  have HB : Hid (∀ o, Below w.heap.size w (w.alloc o)) := Lib.hid fun o => (Below.refl _ _).alloc (Nat.le_refl _) _
  by_cases h0 : k = 0
  · subst h0
    by_cases g : c = 0
    · subst g
      have HR : Hid (rightH 0 0 l = (l == 0)) := Lib.hid (by unfold rightH; rw [Bool.eq_iff_iff]; simp)
      go_enter Tryd.func44, Tryd.ntmps44
      go_wp2_with fail
      go_ret
      exact ⟨ret_bool HR.out.symm, HB.out _⟩
    · have HR : Hid (rightH 0 c l = false) := Lib.hid (decide_eq_false (by omega))
      have hd : (c == 0) = false := by simpa using g
      clear g
      go_enter Tryd.func44, Tryd.ntmps44
      go_wp2_with fail
      go_ret
      exact ⟨ret_bool HR.out.symm, HB.out _⟩
  have e0 : (k == 0) = false := by simpa using h0
  by_cases h1 : k = 1
  · subst h1
    clear h0 e0
    by_cases g : 0 ≤ c
    rotate_left
    · have HR : Hid (rightH 1 c l = false) := Lib.hid (decide_eq_false (by omega))
      have hd : decide (0 ≤ c) = false := by simpa using g
      clear g
      go_enter Tryd.func44, Tryd.ntmps44
      go_wp2_with fail
      go_ret
      exact ⟨ret_bool HR.out.symm, HB.out _⟩
    by_cases g' : c < 32
    rotate_left
    · have HR : Hid (rightH 1 c l = false) := Lib.hid (decide_eq_false (by omega))
      have hd : decide (c < 32) = false := by simpa using g'
      clear g'
      go_enter Tryd.func44, Tryd.ntmps44
      go_wp2_with fail
      go_ret
      exact ⟨ret_bool HR.out.symm, HB.out _⟩
    have HR : Hid (rightH 1 c l = (l == 0)) := Lib.hid (by unfold rightH; rw [Bool.eq_iff_iff]; simp; omega)
    go_enter Tryd.func44, Tryd.ntmps44
    go_wp2_with fail
    go_ret
    exact ⟨ret_bool HR.out.symm, HB.out _⟩
  have e1 : (k == 1) = false := by simpa using h1
  by_cases h2 : k = 2 ∨ k = 3
  · clear h0 h1 e0 e1
    by_cases h3 : c = 0
    rotate_left
    · have HR : Hid (rightH k c l = false) := Lib.hid (decide_eq_false (by omega))
      have hd : (c == 0) = false := by simpa using h3
      clear h3
      rcases h2 with rfl | rfl
      all_goals
        go_enter Tryd.func44, Tryd.ntmps44
        go_wp2_with fail
        go_ret
        exact ⟨ret_bool HR.out.symm, HB.out _⟩
    subst h3
    by_cases g : 1 ≤ l
    rotate_left
    · have HR : Hid (rightH k 0 l = false) := Lib.hid (decide_eq_false (by omega))
      have hd : decide (1 ≤ l) = false := by simpa using g
      clear g
      rcases h2 with rfl | rfl
      all_goals
        go_enter Tryd.func44, Tryd.ntmps44
        go_wp2_with fail
        go_ret
        exact ⟨ret_bool HR.out.symm, HB.out _⟩
    have HR : Hid (rightH k 0 l = decide (l ≤ 255)) := Lib.hid (by unfold rightH; rw [decide_eq_decide]; omega)
    rcases h2 with rfl | rfl
    all_goals
      go_enter Tryd.func44, Tryd.ntmps44
      go_wp2_with fail
      go_ret
      exact ⟨ret_bool HR.out.symm, HB.out _⟩
  · have HR : Hid (rightH k c l = false) := Lib.hid (decide_eq_false (by omega))
    have e2 : (k == 2) = false := by simp; omega
    have e3 : (k == 3) = false := by simp; omega
    clear h0 h1 h2
    go_enter Tryd.func44, Tryd.ntmps44
    go_wp2_with fail
    go_ret
    exact ⟨ret_bool HR.out.symm, HB.out _⟩

end Go.Proofs.YtaigocnnmjjhgaaDoor

namespace Go.Proofs.YtaigocnnmjjhgaaDoor
open Go.ChangeShapes Go.WideShapes Go.ChangeAt Go.RowKit Cr Bt
set_option linter.unusedVariables false

set_option maxHeartbeats 400000 in
theorem refMore_any (s : Nat) (va : Value) (ds : List Nat) (w : World) (hs : s < 4294967296) (h : IsInts .u8 w va (castL ds)) (hd : ∀ p, ds.getD p 0 < 256) (hlen : ds.length ≤ 1000000000) :
    Calls Tryd.prog 75 #[.int .u32 s, va] w fun e w' => e = .returned (.int .u32 (moreN s ds : Nat)) ∧ ∃ n, w' = w.drewN n := by
  obtain ⟨a, ca, rfl, hca, ha⟩ := h
  obtain ⟨len, hl⟩ : ∃ len, ds.length = len := ⟨_, rfl⟩
  rw [castL_length, hl] at hca ha
  rw [castL_length, hl]
  rw [hl] at hlen
  have HD := Lib.hid hd
  have HA := Lib.hid ha
  have HL := Lib.hid hl
  clear hd ha hl
  have hs' : (s : Int) ≤ 4294967295 := by omega
  go_enter Tryd.func75, Tryd.ntmps75
  go_wp2_with fail
  go_loop [5, 6, 7, 8] (fun x i _ _ => ∃ k R : Nat, k ≤ len ∧ R < 4294967296 ∧ Hid (R = foldC (4294967295 - s) (ds.take k)) ∧ i = .int .i64 k ∧ x = .int .u32 R) (fun _ i _ _ => len - (intOf i).toNat)
  case atStart => exact ⟨0, 4294967295 - s, by omega, by omega, Lib.hid rfl, rfl, by go_num⟩
  case round =>
    obtain ⟨k, R, hk, hR, HR, rfl, rfl⟩ := hrel
    by_cases hlt : k < len
    · have hlt' : (k : Int) < (len : Int) := by omega
      have hk0 : (0 : Int) ≤ (k : Int) := by omega
      obtain ⟨b, off, rfl, hblt, hcells⟩ := HA.out.resolve_left (by intro h; have := HL.out; rw [← castL_length, h] at this; simp at this; omega)
      have hc := hcells k hlt
      rw [castL_getD] at hc
      have hB := HD.out k
      have HN : Hid (byteC R (ds.getD k 0) = foldC (4294967295 - s) (ds.take (k + 1))) := Lib.hid (by rw [HR.out, foldC_take _ _ _ (by rw [HL.out]; exact hlt)])
      generalize ds.getD k 0 = B at hc hB HN
      have ex := xor_nat32 R B hR (by omega)
      have hx := xor_lt32 (a := R) (b := B) hR (by omega)
      have hB' : (B : Int) ≤ 255 := by omega
      clear hcells
      have HX := Lib.hid (show R ^^^ B = stN 0 (R ^^^ B) from rfl)
      generalize hX0 : R ^^^ B = X0 at ex hx HX
      have HN' : Hid (stN 8 X0 = foldC (4294967295 - s) (ds.take (k + 1))) := Lib.hid (by rw [← hX0]; exact HN.out)
      clear HN hX0
      go_wp2_with fail
      go_loop [5, 7, 8] (fun x j _ => ∃ i Y : Nat, i ≤ 8 ∧ Y < 4294967296 ∧ Hid (Y = stN i X0) ∧ j = .int .i64 i ∧ x = .int .u32 Y) (fun _ j _ => 8 - (intOf j).toNat)
      case atStart => exact ⟨0, X0, by omega, hx, HX, rfl, rfl⟩
      case round =>
        obtain ⟨i, Y, hi, hY, HY, rfl, rfl⟩ := hrel
        have hY' : (Y : Int) ≤ 4294967295 := by omega
        by_cases hit : i < 8
        · have hit' : (i : Int) < 8 := by omega
          have hS := st_lt Y hY
          have HS : Hid (st Y = stN (i + 1) X0) := Lib.hid (by rw [HY.out]; rfl)
          have e2 : bits .xor .u32 ((Y : Int) / 2) 3988292384 = ((Y / 2 ^^^ 3988292384 : Nat) : Int) := xor_nat32 (Y / 2) 3988292384 (by omega) (by decide)
          by_cases hp : Y % 2 = 1
          · have HU : Hid (Y / 2 ^^^ 3988292384 = st Y) := Lib.hid (by unfold st; rw [hp])
            have hp' : (Y : Int) % 2 = 1 := by omega
            clear hp
            go_wp2_with fail
            go_round
            case rel => exact ⟨i + 1, st Y, by omega, hS, HS, by go_num, by rw [← HU.out]⟩
            case measure => simp [intOf]; omega
          · have HU : Hid (Y / 2 = st Y) := Lib.hid (by unfold st; rw [show Y % 2 = 0 by omega]; simp)
            have hp' : (Y : Int) % 2 = 0 := by omega
            clear hp e2
            go_wp2_with fail
            go_round
            case rel => exact ⟨i + 1, st Y, by omega, hS, HS, by go_num, by rw [← HU.out]; rfl⟩
            case measure => simp [intOf]; omega
        · have hit' : ¬ (i : Int) < 8 := by omega
          have HZ : Hid (Y = foldC (4294967295 - s) (ds.take (k + 1))) := Lib.hid (by rw [HY.out, show i = 8 by omega]; exact HN'.out)
          go_wp2_with fail
          go_round
          case rel => exact ⟨k + 1, Y, by omega, hY, HZ, by go_num, rfl⟩
          case measure => simp [intOf]; omega
    · have hlt' : ¬ (k : Int) < (len : Int) := by omega
      have hR' : (R : Int) ≤ 4294967295 := by omega
      have HF : Hid (4294967295 - R = moreN s ds) := Lib.hid (by unfold moreN; rw [HR.out, List.take_of_length_le (by rw [HL.out]; omega)])
      go_wp2_with fail
      go_ret
      exact ⟨ret_int (by rw [← HF.out]; omega), 0, rfl⟩

end Go.Proofs.YtaigocnnmjjhgaaDoor

namespace Go.Proofs.YtaigocnnmjjhgaaDoor
open Go.ChangeShapes Go.WideShapes Go.ChangeAt Go.RowKit Bt
set_option linter.unusedVariables false

/-- What the reference's loops hold: so many words and so many bytes of the next. -/
def RBytesAt (xs : List Nat) (k j : Nat) (w : World) (v : Value) (wr : World) : Prop :=
  wr.ownsRow w.heap.size 5 1 v (8 * k + j) ((castL (partN xs k j)).map (Value.int .u8)) ∧ Below w.heap.size w wr

theorem byte_mod (Y X j : Nat) (h : Y = X / 256 ^ j) : Y % 256 = byteN X j := by rw [h]; rfl
theorem byte_div (Y X j : Nat) (h : Y = X / 256 ^ j) : Y / 256 = X / 256 ^ (j + 1) := by rw [h, Nat.div_div_eq_div_mul, Nat.pow_succ]

set_option maxHeartbeats 1000000 in
theorem refBytes_any (va : Value) (xs : List Nat) (w : World) (h : IsInts .u64 w va (castL xs)) (hx : ∀ p, xs.getD p 0 < 2 ^ 64) (hlen : xs.length ≤ 1000000000) :
    Calls Tryd.prog 76 #[va] w (MadeInts .u8 (castL (bytesN xs)) w) := by
  obtain ⟨i0, hi, hz0, hz1, hz2⟩ := info_parts infoU8
  obtain ⟨a, ca, rfl, hca, ha⟩ := h
  obtain ⟨len, hl⟩ : ∃ len, xs.length = len := ⟨_, rfl⟩
  rw [castL_length, hl] at hca ha
  rw [castL_length, hl]
  rw [hl] at hlen
  have HX := Lib.hid hx
  have HA := Lib.hid ha
  have HL := Lib.hid hl
  clear hx ha hl
  have H0 : Hid (RBytesAt xs 0 0 w (.slice none 0 0) w) := Lib.hid ⟨World.ownsRow_nil _ _ _ _, Below.refl _ _⟩
  go_enter Tryd.func76, Tryd.ntmps76
  go_wp2_with fail
  go_loopw [3, 4] (fun v i wr => ∃ k : Nat, k ≤ len ∧ i = .int .i64 k ∧ Hid (RBytesAt xs k 0 w v wr)) (fun _ i _ => len - (intOf i).toNat)
  case atStart => exact ⟨0, by omega, rfl, H0⟩
  case round =>
    obtain ⟨k, hk, rfl, HB⟩ := hrel
    by_cases hlt : k < len
    · have hlt' : (k : Int) < (len : Int) := by omega
      have hk0 : (0 : Int) ≤ (k : Int) := by omega
      obtain ⟨b, off, rfl, hblt, hcells⟩ := HA.out.resolve_left (by intro h; have := HL.out; rw [← castL_length, h] at this; simp at this; omega)
      have hc := hcells k hlt
      rw [castL_getD] at hc
      have hX := HX.out k
      have hc' : wr.cell? ⟨b, off + k, none⟩ = some (.int .u64 (xs.getD k 0 : Nat)) := (HB.out.2.cell (p := ⟨b, off + k, none⟩) hblt).trans hc
      obtain ⟨X, hXe⟩ : ∃ X, xs.getD k 0 = X := ⟨_, rfl⟩
      rw [hXe] at hX hc'
      have HE := Lib.hid hXe
      clear hXe hc hcells
      obtain ⟨wo, rfl⟩ : ∃ wo : World, wo = wr := ⟨_, rfl⟩
      go_wp2_with fail
      go_loopw [3, 5, 6] (fun v x i wr => ∃ j Y : Nat, j ≤ 8 ∧ Y ≤ X ∧ Hid (Y = X / 256 ^ j) ∧ i = .int .i64 j ∧ x = .int .u64 Y ∧ Hid (RBytesAt xs k j w v wr)) (fun _ _ i _ => 8 - (intOf i).toNat)
      case atStart => exact ⟨0, X, by omega, by omega, Lib.hid (by simp), rfl, rfl, HB⟩
      case round =>
        obtain ⟨j, Y, hj, hYX, HY, rfl, rfl, HI⟩ := hrel
        by_cases hjt : j < 8
        · have hsz : w.heap.size ≤ wr.heap.size := HI.out.2.size
          have hY64 : (Y : Int) ≤ 18446744073709551615 := by omega
          have hm0 : (j : Int) < 8 := by omega
          go_wp2_with (at_builtin; refine wpList_append_own _ rfl (.tmp 21) (.tmp 25) 59 rfl w.heap.size 5 i0 (.int .u8 0) 1 1 Tryd.underlying59 hi hz0 hz1 hz2 rfl (by decide) _ _ _ rfl (HI.out.1.alloc _) ⟨wr.heap.size, 0, none⟩ 1 1 [.int .u8 ((Y % 256 : Nat) : Int)] rfl rfl (cell_new1 _ _ _) (by intro u hu; simp at hu; subst hu; rfl) (by unfold maxLen; omega) (by omega) (by simp; omega) ?_)
          intro v' w1 hown' hgrow _
          have HN : Hid (RBytesAt xs k (j + 1) w v' w1) := by
            refine Lib.hid ⟨?_, (HI.out.2.alloc hsz _).grown hgrow (by simp; omega) (fun b hb => (HI.out.1.lt b hb).1)⟩
            rw [partN_byte, HE.out, ← byte_mod Y X j HY.out, castL_append, List.map_append]
            exact hown'
          have HD := Lib.hid (byte_div Y X j HY.out)
          clear hown' hgrow
          go_wp2_with fail
          go_roundw
          case rel => exact ⟨j + 1, Y / 256, by omega, by omega, HD, by go_num, by go_num, HN⟩
          case measure => simp [intOf]; omega
        · have hm0 : ¬ (j : Int) < 8 := by omega
          have hlen' : k < xs.length := by rw [HL.out]; exact hlt
          have HN : Hid (RBytesAt xs (k + 1) 0 w u3 wr) := by
            have h8 : j = 8 := by omega
            have := HI.out
            rw [h8] at this
            unfold RBytesAt at this ⊢
            rw [partN_word xs k hlen'] at this
            exact Lib.hid this
          clear HI
          go_wp2_with fail
          go_roundw
          case rel => exact ⟨k + 1, by omega, by go_num, HN⟩
          case measure => simp [intOf]; omega
    · have hlt' : ¬ (k : Int) < (len : Int) := by omega
      have hfin : ∃ v', u3 = v' ∧ IsInts .u8 wr v' (castL (bytesN xs)) ∧ Below w.heap.size w wr := by
        obtain ⟨h1, h2⟩ := HB.out
        rw [show k = xs.length by rw [HL.out]; omega, partN_end] at h1
        exact ⟨u3, rfl, .of_own h1, h2⟩
      have HF := Lib.hid hfin
      clear hfin
      go_wp2_with fail
      go_ret
      obtain ⟨v', rfl, hF⟩ := HF.out
      exact ⟨u3, rfl, hF⟩

end Go.Proofs.YtaigocnnmjjhgaaDoor

namespace Go.Proofs.YtaigocnnmjjhgaaDoor
open Go.ChangeShapes Go.WideShapes Go.ChangeAt Go.RowKit Cr Bt
set_option linter.unusedVariables false

theorem refWords32_any (va : Value) (xs : List Nat) (w : World) (h : IsInts .u64 w va (castL xs)) (hx : ∀ p, xs.getD p 0 < 2 ^ 64) (hlen : xs.length ≤ 100000000) :
    Calls Tryd.prog 69 #[va] w (MadeOne (.int .u32 (wordsC xs : Nat)) w) := by
  have HI := Lib.hid h
  have HX := Lib.hid hx
  clear h hx
  go_enter Tryd.func69, Tryd.ntmps69
  go_wp2_with fail
  refine (refBytes_any va xs _ HI.out HX.out (by omega)).mono ?_
  rintro e W ⟨vb, rfl, hI, hb⟩
  have HI' := Lib.hid hI
  have HB := Lib.hid hb
  clear hI hb
  go_wp2_with fail
  refine (refMore_any 0 vb (bytesN xs) _ (by decide) HI'.out (bytesN_getD_lt xs) (by rw [bytesN_length]; omega)).mono ?_
  rintro e w' ⟨rfl, n, rfl⟩
  go_wp2_with fail
  go_ret
  exact ⟨rfl, below_drewN HB.out n⟩

end Go.Proofs.YtaigocnnmjjhgaaDoor

namespace Go.Proofs.YtaigocnnmjjhgaaDoor
open Go.ChangeShapes Go.WideShapes Go.ChangeAt Go.RowKit Cr Bt
set_option linter.unusedVariables false

set_option maxHeartbeats 400000 in
theorem refSeal_any (n p : Nat) (w : World) (hn : n < 4294967296) (pl : Int) (hp : IntKind.u64.wrap pl = (p : Int)) (hp64 : p < 2 ^ 64) :
    Calls Tryd.prog 59 #[.int .u32 n, .int .i64 pl] w (MadeOne (.int .u64 (sealN n p : Nat)) w) := by
  go_enter Tryd.func59, Tryd.ntmps59
  go_wp2_with fail
  refine (refWords32_any _ [n, p] _ (.built w _ (castL [n, p]) 2 _ rfl rfl) (by intro q; match q with | 0 => exact (show n < 2 ^ 64 by omega) | 1 => exact hp64 | _ + 2 => simp) (by simp)).mono ?_
  rintro e W ⟨rfl, hb⟩
  have HB := Lib.hid (((Below.refl w.heap.size w).alloc (Nat.le_refl _) _).trans (hb.mono (by simp)))
  have hc : wordsC [n, p] < 4294967296 := moreN_lt _ _
  have HP : Hid (sealN n p = wordsC [n, p] * 4294967296 + n) := Lib.hid rfl
  clear hb
  generalize wordsC [n, p] = c at hc HP
  have c1 : (c : Int) ≤ 4294967295 := by omega
  have c2 : (n : Int) ≤ 4294967295 := by omega
  go_wp2_with fail
  go_ret
  exact ⟨ret_int (by rw [HP.out]; omega), HB.out⟩

set_option maxHeartbeats 400000 in
theorem refOpen_any (x p : Nat) (w : World) (hx : x < 2 ^ 64) (pl : Int) (hp : IntKind.u64.wrap pl = (p : Int)) (hp64 : p < 2 ^ 64) :
    Calls Tryd.prog 42 #[.int .u64 x, .int .i64 pl] w (OpenIs x p w) := by
  have HP := Lib.hid hp
  have hm : x % 4294967296 < 4294967296 := Nat.mod_lt _ (by decide)
  have hx' : (x : Int) ≤ 18446744073709551615 := by omega
  have hc1 : (x : Int) % 4294967296 = ((x % 4294967296 : Nat) : Int) := rfl
  clear hp
  generalize hmm : x % 4294967296 = m at *
  have HM := Lib.hid hmm
  have hs := sealN_lt m p hm
  clear hmm
  go_enter Tryd.func42, Tryd.ntmps42
  go_wp2_with fail
  refine (refSeal_any m p _ hm pl HP.out hp64).mono ?_
  rintro e W ⟨rfl, hb⟩
  have HW := Lib.hid hb
  clear hb hc1
  generalize hz : sealN m p = s at hs ⊢
  have HQ := Lib.hid hz
  clear hz
  by_cases hq : s = x
  · subst hq
    go_wp2_with fail
    go_ret2
    exact ⟨by rw [HM.out, if_pos HQ.out]; rfl, HW.out⟩
  · have HN := Lib.hid hq
    have hq' : ((s : Int) == (x : Int)) = false := by simp; omega
    have hq2 : ((s : Int) != (x : Int)) = true := by simp; omega
    clear hq
    go_wp2_with fail
    go_ret2
    exact ⟨by rw [HM.out, if_neg (by rw [HQ.out]; exact HN.out)]; rfl, HW.out⟩

end Go.Proofs.YtaigocnnmjjhgaaDoor

namespace Go.Proofs.YtaigocnnmjjhgaaDoor
open Go.ChangeShapes Go.WideShapes Go.ChangeAt Go.RowKit Bh Bt Cr
set_option linter.unusedVariables false

set_option maxHeartbeats 1000000 in
theorem headEnc_any (b q : Int) (p : Nat) (k c l : Int) (w : World) (hq : wrap64 (256 + b) = q) (hp : IntKind.u64.wrap q = (p : Int)) (hp64 : p < 2 ^ 64) (hT : HasRests w) :
    Calls Tryd.prog 46 #[.int .i64 b, .agg #[.int .i64 k, .int .i64 c, .int .i64 l]] w (MadeOne (.int .u64 (encN k c l p : Nat)) w) := by
  have HT := Lib.hid hT
  have HQ := Lib.hid hq
  have HP := Lib.hid hp
  have B0 := Lib.hid (fun o => (Below.refl w.heap.size w).alloc (Nat.le_refl _) o)
  clear hT hq hp
  by_cases hr : rightH k c l = true
  rotate_left
  · have hr : rightH k c l = false := by simpa using hr
    have HR := Lib.hid hr
    have HE := Lib.hid (encN_wrong p hr)
    clear hr
    go_enter Tryd.func46, Tryd.ntmps46
    go_wp2_with fail
    refine (headRight_any k c l _).mono ?_
    rintro e W ⟨he, hb⟩
    rw [HR.out] at he
    subst he
    have HB := Lib.hid (below_step (B0.out _) hb (Nat.le_refl _))
    clear hb
    go_wp2_with fail
    go_ret
    exact ⟨ret_int (by rw [HE.out]; rfl), HB.out⟩
  obtain ⟨k, c, l, rfl, rfl, rfl, h1, h2, h3⟩ := right_nat hr
  have HR := Lib.hid hr
  have HE := Lib.hid (encN_right p hr)
  have hn := @numN_lt k c l h1 (by omega) (by omega)
  have HN : Hid (∀ w, Calls Tryd.prog 62 #[.agg #[.int .i64 k, .int .i64 c, .int .i64 l]] w fun e w' => e = .returned (.int .u32 (numN k c l : Nat)) ∧ Below w.heap.size w w') := Lib.hid fun w => number_any k c l w h1 (by omega) (by omega)
  clear hr h1 h2 h3
  generalize numN k c l = n at *
  go_enter Tryd.func46, Tryd.ntmps46
  go_wp2_with fail
  refine (headRight_any k c l _).mono ?_
  rintro e W ⟨he, hb⟩
  rw [HR.out] at he
  subst he
  obtain ⟨b1, hb, s1⟩ := boxT_of1 hb
  have C0 : W.cell? ⟨w.heap.size, 0, none⟩ = some (.int .i64 k) := b1.cell 0
  have C1 : W.cell? ⟨w.heap.size, 1, none⟩ = some (.int .i64 c) := b1.cell 1
  have C2 : W.cell? ⟨w.heap.size, 2, none⟩ = some (.int .i64 l) := b1.cell 2
  have HB := Lib.hid hb
  clear hb
  go_wp2_with (first
    | (refine wpList_load_boxT rfl _ _ rfl (b := w.heap.size) rfl b1 Tryd.underlying48 rfl info3 ?_)
    | fail)
  refine (HN.out _).mono ?_
  rintro e W2 ⟨rfl, hb⟩
  have HB2 := Lib.hid (below_step HB.out hb (Nat.le_refl _))
  clear hb b1 C0 C1 C2
  go_wp2_with fail
  refine (place_any b q _ HQ.out).mono ?_
  rintro e w' ⟨rfl, rfl⟩
  go_wp2_with fail
  refine (seal_any n p _ (by omega) (HT.out.below HB2.out (Nat.le_refl _)) q HP.out hp64).mono ?_
  rintro e W3 ⟨rfl, hb⟩
  have HB3 := Lib.hid (below_step HB2.out hb (Nat.le_refl _))
  clear hb
  go_wp2_with fail
  go_ret
  exact ⟨ret_int (by rw [HE.out]), HB3.out⟩

set_option maxHeartbeats 1000000 in
theorem refHeadEnc_any (b q : Int) (p : Nat) (k c l : Int) (w : World) (hq : wrap64 (256 + b) = q) (hp : IntKind.u64.wrap q = (p : Int)) (hp64 : p < 2 ^ 64) :
    Calls Tryd.prog 43 #[.int .i64 b, .agg #[.int .i64 k, .int .i64 c, .int .i64 l]] w (MadeOne (.int .u64 (encN k c l p : Nat)) w) := by
  have HQ := Lib.hid hq
  have HP := Lib.hid hp
  have B0 := Lib.hid (fun o => (Below.refl w.heap.size w).alloc (Nat.le_refl _) o)
  clear hp
  by_cases hr : rightH k c l = true
  rotate_left
  · have hr : rightH k c l = false := by simpa using hr
    have HR := Lib.hid hr
    have HE := Lib.hid (encN_wrong p hr)
    clear hr hq
    go_enter Tryd.func43, Tryd.ntmps43
    go_wp2_with fail
    refine (refRight_any k c l _).mono ?_
    rintro e W ⟨he, hb⟩
    rw [HR.out] at he
    subst he
    have HB := Lib.hid (below_step (B0.out _) hb (Nat.le_refl _))
    clear hb
    go_wp2_with fail
    go_ret
    exact ⟨ret_int (by rw [HE.out]; rfl), HB.out⟩
  obtain ⟨k, c, l, rfl, rfl, rfl, h1, h2, h3⟩ := right_nat hr
  have HR := Lib.hid hr
  have HE := Lib.hid (encN_right p hr)
  have hn := @numN_lt k c l h1 (by omega) (by omega)
  have hN : (k : Int) + 4 * (c : Int) + 256 * (l : Int) = ((numN k c l : Nat) : Int) := by unfold numN; omega
  have HN := Lib.hid hN
  have k0 : (k : Int) < 4 := by omega
  have c0 : (c : Int) < 32 := by omega
  have l0 : (l : Int) ≤ 255 := by omega
  clear hr h1 h2 h3 hN
  generalize numN k c l = n at *
  go_enter Tryd.func43, Tryd.ntmps43
  go_wp2_with fail
  refine (refRight_any k c l _).mono ?_
  rintro e W ⟨he, hb⟩
  rw [HR.out] at he
  subst he
  obtain ⟨b1, hb, s1⟩ := boxT_of1 hb
  have C0 : W.cell? ⟨w.heap.size, 0, none⟩ = some (.int .i64 k) := b1.cell 0
  have C1 : W.cell? ⟨w.heap.size, 1, none⟩ = some (.int .i64 c) := b1.cell 1
  have C2 : W.cell? ⟨w.heap.size, 2, none⟩ = some (.int .i64 l) := b1.cell 2
  have HB := Lib.hid hb
  clear hb b1
  go_wp2_with fail
  rw [HN.out]
  refine (refSeal_any n p _ (by omega) q HP.out hp64).mono ?_
  rintro e W3 ⟨rfl, hb⟩
  have HB3 := Lib.hid (below_step HB.out hb (Nat.le_refl _))
  clear hb
  go_wp2_with fail
  go_ret
  exact ⟨ret_int (by rw [HE.out]), HB3.out⟩

end Go.Proofs.YtaigocnnmjjhgaaDoor
