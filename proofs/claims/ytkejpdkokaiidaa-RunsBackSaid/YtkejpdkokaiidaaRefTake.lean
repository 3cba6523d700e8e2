/- The reference of layer 11: Take. -/
import Derived.Test.YtkejpdkokaiidaaRefGive
import Derived.Deep.RegionHeld3
import Derived.Deep.QuietTactic
namespace Go.Proofs.Ytkejpdkokaiidaa
open Go.ChangeShapes Go.WideShapes Go.ChangeAt Go.RowKit Bk Rn
set_option linter.unusedVariables false

/-- A call's truths, and two numbers beside them. -/
def TakeIs (T : Nat → Prop) (N : Nat) (r : (Nat → Bool) × Int × Int) (w : World) (e : Ending) (w' : World) : Prop :=
  ∃ v', e = .returned (.tuple #[v', .int .i64 r.2.1, .int .i64 r.2.2]) ∧ BoolS w' (fun b => T b ∨ (w.heap.size ≤ b ∧ b < w'.heap.size)) v' N r.1 ∧ Below w.heap.size w w'

set_option maxHeartbeats 2000000 in
theorem refTake_any {T : Nat → Prop} (v : Value) (N : Nat) (f : Nat → Bool) (w : World) (h : BoolS w T v N f) (hN : N ≤ 1000) (n : Int) :
    Calls Try.prog 17 #[v, .int .i64 n] w (TakeIs T N (takeR f N n) w) := by
  have H := Lib.hid h
  obtain ⟨va, cap, rfl, hr⟩ := h
  clear hr
  by_cases h1 : n < 1
  · have hR : takeR f N n = (f, 0, 1) := by unfold takeR; rw [if_pos h1]
    rw [hR]
    clear hR
    go_enter Try.func17, Try.ntmps17
    go_wp2_with fail
    exact bodyPost_ret (v := .tuple #[.slice va N cap, .int .i64 0, .int .i64 1]) (by simp [results, Try.results17, go_sem]) rfl ⟨_, rfl, H.out.mono fun b hb => .inl hb, Below.refl _ _⟩
  have hR : takeR f N n = if bestTo (runsTo f N) n (runsTo f N).length < 0 then (f, 0, 4) else (setF f ((runsTo f N).getD (bestTo (runsTo f N) n (runsTo f N).length).toNat (0, 0)).1.toNat n.toNat false, ((runsTo f N).getD (bestTo (runsTo f N) n (runsTo f N).length).toNat (0, 0)).1, 0) := by unfold takeR; rw [if_neg h1]
  have HRR := Lib.hid hR
  clear hR
  generalize takeR f N n = r at *
  have LS := Lib.hid (refList11_any _ N f w H.out hN)
  have HG : Hid (∀ i, i < (runsTo f N).length → ∃ s k : Nat, (runsTo f N).getD i (0, 0) = ((s : Int), (k : Int)) ∧ Run f N s k) := Lib.hid fun i hi => runs_get hi
  have hlen := runsTo_len f N
  obtain ⟨l, hl⟩ : ∃ l, runsTo f N = l := ⟨_, rfl⟩
  rw [hl] at HRR LS HG hlen
  clear hl
  go_enter Try.func17, Try.ntmps17
  go_wp2_with fail
  refine LS.out.mono ?_
  rintro e w1 ⟨lv, rfl, hlv, hb1⟩
  have B1 := Lib.hid hb1
  obtain ⟨la, lcap, rfl, hlc, hcells⟩ := hlv
  have HC := Lib.hid hcells
  obtain ⟨L, hL⟩ : ∃ L, l.length = L := ⟨_, rfl⟩
  have HL := Lib.hid hL
  rw [hL] at hlen hlc HRR ⊢
  clear hcells hL hb1 LS
  go_wp2_with fail
  go_loopw [8, 9] (fun x i wr => ∃ q : Nat, q ≤ L ∧ i = .int .i64 q ∧ x = .int .i64 (bestTo l n q) ∧ ∃ nd, wr = w1.drewN nd) (fun _ i _ => L - (intOf i).toNat)
  case atStart => exact ⟨0, by omega, rfl, rfl, 0, rfl⟩
  case round =>
    obtain ⟨q, hq, rfl, rfl, nd, rfl⟩ := hrel
    obtain ⟨i1, i2, i3⟩ := bestTo_in l n q
    by_cases hlt : q < L
    · have hlt' : (q : Int) < (L : Int) := by omega
      have hq0 : (0 : Int) ≤ (q : Int) := by omega
      obtain ⟨b, off, rfl, hb, hcell⟩ := HC.out.resolve_left (fun h => by have := HL.out; rw [h] at this; simp at this; omega)
      obtain ⟨-, e1⟩ := hcell q (by rw [HL.out]; exact hlt)
      have HY : Hid (n ≤ (l.getD q (0, 0)).2 ∧ (bestTo l n q < 0 ∨ (l.getD q (0, 0)).2 < (l.getD (bestTo l n q).toNat (0, 0)).2) → bestTo l n (q + 1) = (q : Int)) := Lib.hid fun h => by
        show (if _ then _ else _) = _; rw [if_pos h]
      have HNO : Hid (¬ (n ≤ (l.getD q (0, 0)).2 ∧ (bestTo l n q < 0 ∨ (l.getD q (0, 0)).2 < (l.getD (bestTo l n q).toNat (0, 0)).2)) → bestTo l n (q + 1) = bestTo l n q) := Lib.hid fun h => by
        show (if _ then _ else _) = _; rw [if_neg h]
      by_cases c0 : bestTo l n q < 0
      · have hx : bestTo l n q = -1 := by omega
        rw [hx] at HY HNO ⊢
        generalize (l.getD q (0, 0)).2 = z at *
        clear hcell i1 i2 i3 c0 hx
        by_cases c1 : n ≤ z
        · have HB := Lib.hid (HY.out ⟨c1, .inl (by omega)⟩)
          go_wp2_with fail
          go_quiet (fail)
          go_wp2_with fail
          go_roundw
          case rel => exact ⟨q + 1, by omega, by go_num, by rw [HB.out], _, rfl⟩
          case measure => simp [intOf]; omega
        · have HB := Lib.hid (HNO.out (fun h => c1 h.1))
          have hd : decide (n ≤ z) = false := decide_eq_false c1
          clear c1
          go_wp2_with fail
          go_quiet (fail)
          go_wp2_with fail
          go_roundw
          case rel => exact ⟨q + 1, by omega, by go_num, by rw [HB.out], _, rfl⟩
          case measure => simp [intOf]; omega
      · obtain ⟨B, hB⟩ := Int.eq_ofNat_of_zero_le (show 0 ≤ bestTo l n q by omega)
        have hBq : B < q := by omega
        have hBL : (B : Int) < (L : Int) := by omega
        have hB0 : (0 : Int) ≤ (B : Int) := by omega
        obtain ⟨-, e2⟩ := hcell B (by rw [HL.out]; omega)
        rw [hB] at HY HNO ⊢
        rw [Int.toNat_natCast] at HY HNO
        generalize (l.getD q (0, 0)).2 = z at *
        generalize (l.getD B (0, 0)).2 = zb at *
        have hnb : decide ((B : Int) < 0) = false := decide_eq_false (by omega)
        clear hcell i1 i2 i3 c0 hB
        by_cases c1 : n ≤ z
        · by_cases c2 : z < zb
          · have HB := Lib.hid (HY.out ⟨c1, .inr c2⟩)
            go_wp2_with fail
            go_quiet (fail)
            go_wp2_with fail
            go_roundw
            case rel => exact ⟨q + 1, by omega, by go_num, by rw [HB.out], _, rfl⟩
            case measure => simp [intOf]; omega
          · have HB := Lib.hid (HNO.out (fun h => by omega))
            have hd : decide (z < zb) = false := decide_eq_false c2
            clear c2
            go_wp2_with fail
            go_quiet (fail)
            go_wp2_with fail
            go_roundw
            case rel => exact ⟨q + 1, by omega, by go_num, by rw [HB.out], _, rfl⟩
            case measure => simp [intOf]; omega
        · have HB := Lib.hid (HNO.out (fun h => c1 h.1))
          have hd : decide (n ≤ z) = false := decide_eq_false c1
          clear c1
          go_wp2_with fail
          go_quiet (fail)
          go_wp2_with fail
          go_roundw
          case rel => exact ⟨q + 1, by omega, by go_num, by rw [HB.out], _, rfl⟩
          case measure => simp [intOf]; omega
    · have hlt' : ¬ (q : Int) < (L : Int) := by omega
      obtain rfl : q = L := by omega
      clear hlt
      by_cases c0 : bestTo l n q < 0
      · have HR1 : Hid (r = (f, 0, 4)) := Lib.hid (by rw [HRR.out, if_pos c0])
        go_wp2_with fail
        exact bodyPost_ret (v := .tuple #[.slice va N cap, .int .i64 0, .int .i64 4]) (by simp [results, Try.results17, go_sem]) rfl (by rw [HR1.out]; exact ⟨_, rfl, (H.out.below (below_drewN B1.out nd)).mono fun b hb => .inl hb, below_drewN B1.out nd⟩)
      · obtain ⟨B, hB⟩ := Int.eq_ofNat_of_zero_le (show 0 ≤ bestTo l n q by omega)
        have hBL : (B : Int) < (q : Int) := by omega
        have hB0 : (0 : Int) ≤ (B : Int) := by omega
        obtain ⟨b, off, rfl, hb, hcell⟩ := HC.out.resolve_left (fun h => by have := HL.out; rw [h] at this; simp at this; omega)
        obtain ⟨e0, -⟩ := hcell B (by rw [HL.out]; omega)
        obtain ⟨s, k, hsk, hrun⟩ := HG.out B (by rw [HL.out]; omega)
        have hnk := i3 (by omega)
        rw [hB, Int.toNat_natCast, hsk] at hnk
        have HR1 : Hid (r = (setF f s n.toNat false, (s : Int), 0)) := Lib.hid (by rw [HRR.out, if_neg c0, hB, Int.toNat_natCast, hsk, Int.toNat_natCast])
        obtain ⟨M, rfl⟩ := Int.eq_ofNat_of_zero_le (show 0 ≤ n by omega)
        simp only at hnk
        have hsM : s + M ≤ N := by have := hrun.le; omega
        rw [Int.toNat_natCast] at HR1
        rw [hsk] at e0
        simp only at e0
        have SET := Lib.hid (fun w' (hb : Below w1.heap.size w1 w') => refSet_any _ N f w' ((H.out.below B1.out).below hb) hN s M hsM false)
        rw [hB]
        clear hcell i1 i2 i3 c0 hB hsk hnk hrun
        go_wp2_with fail
        go_region_held3 (fun w' => w'.cell? ⟨b, off + B * 2, none⟩ = some (.int .i64 s))
          (first | go_keep | exact HK.out)
          (first
            | (go_at_call 19; refine (SET.out _ (below_drewN (Below.refl _ _) _)).mono ?_; rintro e w2 ⟨v', rfl, hv, hb2⟩; have HV := Lib.hid (And.intro hv hb2); have HK := Lib.hid ((hb2.cell (p := ⟨b, off + B * 2, none⟩) hb).trans e0); clear hv hb2))
        go_wp2_with fail
        exact bodyPost_ret (v := .tuple #[v', .int .i64 s, .int .i64 0]) (by simp [results, Try.results17, go_sem]) rfl (by
          rw [HR1.out]
          exact ⟨_, rfl, HV.out.1.mono fun b hb => .inr ⟨Nat.le_trans B1.out.size hb.1, hb.2⟩, (below_drewN B1.out _).trans (HV.out.2.mono B1.out.size)⟩)

end Go.Proofs.Ytkejpdkokaiidaa
