/- bhead: Encode; the reference's Encode. -/
import Derived.Test.YtgkgpjdgodhnlaaDoorHeadRight
import Derived.Test.YtgkgpjdgodhnlaaDoorHeadNum
import Derived.Test.YtgkgpjdgodhnlaaDoorRefSeal
import Derived.Test.YtgkgpjdgodhnlaaDoorNats
namespace Go.Proofs.YtgkgpjdgodhnlaaDoor
open Go.ChangeShapes Go.WideShapes Go.ChangeAt Go.RowKit Bh Bt Cr
set_option linter.unusedVariables false

set_option maxHeartbeats 1000000 in
theorem headEnc_any (b q : Int) (p : Nat) (k c l : Int) (w : World) (hq : wrap64 (256 + b) = q) (hp : IntKind.u64.wrap q = (p : Int)) (hp64 : p < 2 ^ 64) (hT : HasRests w) :
    Calls Tryd.prog 11 #[.int .i64 b, .agg #[.int .i64 k, .int .i64 c, .int .i64 l]] w (MadeOne (.int .u64 (encN k c l p : Nat)) w) := by
  have HT := Lib.hid hT
  have HQ := Lib.hid hq
  have HP := Lib.hid hp
  have B0 := Lib.hid (fun o => (Below.refl w.heap.size w).alloc (Nat.le_refl _) o)
  clear hT hq hp
  by_cases hr : rightH k c l = true
  rotate_left
  · have hr : rightH k c l = false := by simpa using hr
    have HR := Lib.hid hr
    have HE := Lib.hid (encN_wrong p hr)
    clear hr
    go_enter Tryd.func11, Tryd.ntmps11
    go_wp2_with fail
    refine (headRight_any k c l _).mono ?_
    rintro e W ⟨he, hb⟩
    rw [HR.out] at he
    subst he
    have HB := Lib.hid (below_step (B0.out _) hb (Nat.le_refl _))
    clear hb
    go_wp2_with fail
    go_ret
    exact ⟨ret_int (by rw [HE.out]; rfl), HB.out⟩
  obtain ⟨k, c, l, rfl, rfl, rfl, h1, h2, h3⟩ := right_nat hr
  have HR := Lib.hid hr
  have HE := Lib.hid (encN_right p hr)
  have hn := @numN_lt k c l h1 (by omega) (by omega)
  have HN : Hid (∀ w, Calls Tryd.prog 20 #[.agg #[.int .i64 k, .int .i64 c, .int .i64 l]] w fun e w' => e = .returned (.int .u32 (numN k c l : Nat)) ∧ Below w.heap.size w w') := Lib.hid fun w => number_any k c l w h1 (by omega) (by omega)
  clear hr h1 h2 h3
  generalize numN k c l = n at *
  go_enter Tryd.func11, Tryd.ntmps11
  go_wp2_with fail
  refine (headRight_any k c l _).mono ?_
  rintro e W ⟨he, hb⟩
  rw [HR.out] at he
  subst he
  obtain ⟨b1, hb, s1⟩ := boxT_of1 hb
  have C0 : W.cell? ⟨w.heap.size, 0, none⟩ = some (.int .i64 k) := b1.cell 0
  have C1 : W.cell? ⟨w.heap.size, 1, none⟩ = some (.int .i64 c) := b1.cell 1
  have C2 : W.cell? ⟨w.heap.size, 2, none⟩ = some (.int .i64 l) := b1.cell 2
  have HB := Lib.hid hb
  clear hb
  go_wp2_with (first
    | (refine wpList_load_boxT rfl _ _ rfl (b := w.heap.size) rfl b1 Tryd.underlying23 rfl info3 ?_)
    | fail)
  refine (HN.out _).mono ?_
  rintro e W2 ⟨rfl, hb⟩
  have HB2 := Lib.hid (below_step HB.out hb (Nat.le_refl _))
  clear hb b1 C0 C1 C2
  go_wp2_with fail
  refine (place_any b q _ HQ.out).mono ?_
  rintro e w' ⟨rfl, rfl⟩
  go_wp2_with fail
  refine (seal_any n p _ (by omega) (HT.out.below HB2.out (Nat.le_refl _)) q HP.out hp64).mono ?_
  rintro e W3 ⟨rfl, hb⟩
  have HB3 := Lib.hid (below_step HB2.out hb (Nat.le_refl _))
  clear hb
  go_wp2_with fail
  go_ret
  exact ⟨ret_int (by rw [HE.out]), HB3.out⟩

set_option maxHeartbeats 1000000 in
theorem refHeadEnc_any (b q : Int) (p : Nat) (k c l : Int) (w : World) (hq : wrap64 (256 + b) = q) (hp : IntKind.u64.wrap q = (p : Int)) (hp64 : p < 2 ^ 64) :
    Calls Tryd.prog 12 #[.int .i64 b, .agg #[.int .i64 k, .int .i64 c, .int .i64 l]] w (MadeOne (.int .u64 (encN k c l p : Nat)) w) := by
  have HQ := Lib.hid hq
  have HP := Lib.hid hp
  have B0 := Lib.hid (fun o => (Below.refl w.heap.size w).alloc (Nat.le_refl _) o)
  clear hp
  by_cases hr : rightH k c l = true
  rotate_left
  · have hr : rightH k c l = false := by simpa using hr
    have HR := Lib.hid hr
    have HE := Lib.hid (encN_wrong p hr)
    clear hr hq
    go_enter Tryd.func12, Tryd.ntmps12
    go_wp2_with fail
    refine (refRight_any k c l _).mono ?_
    rintro e W ⟨he, hb⟩
    rw [HR.out] at he
    subst he
    have HB := Lib.hid (below_step (B0.out _) hb (Nat.le_refl _))
    clear hb
    go_wp2_with fail
    go_ret
    exact ⟨ret_int (by rw [HE.out]; rfl), HB.out⟩
  obtain ⟨k, c, l, rfl, rfl, rfl, h1, h2, h3⟩ := right_nat hr
  have HR := Lib.hid hr
  have HE := Lib.hid (encN_right p hr)
  have hn := @numN_lt k c l h1 (by omega) (by omega)
  have hN : (k : Int) + 4 * (c : Int) + 256 * (l : Int) = ((numN k c l : Nat) : Int) := by unfold numN; omega
  have HN := Lib.hid hN
  have k0 : (k : Int) < 4 := by omega
  have c0 : (c : Int) < 32 := by omega
  have l0 : (l : Int) ≤ 255 := by omega
  clear hr h1 h2 h3 hN
  generalize numN k c l = n at *
  go_enter Tryd.func12, Tryd.ntmps12
  go_wp2_with fail
  refine (refRight_any k c l _).mono ?_
  rintro e W ⟨he, hb⟩
  rw [HR.out] at he
  subst he
  obtain ⟨b1, hb, s1⟩ := boxT_of1 hb
  have C0 : W.cell? ⟨w.heap.size, 0, none⟩ = some (.int .i64 k) := b1.cell 0
  have C1 : W.cell? ⟨w.heap.size, 1, none⟩ = some (.int .i64 c) := b1.cell 1
  have C2 : W.cell? ⟨w.heap.size, 2, none⟩ = some (.int .i64 l) := b1.cell 2
  have HB := Lib.hid hb
  clear hb b1
  go_wp2_with fail
  rw [HN.out]
  refine (refSeal_any n p _ (by omega) q HP.out hp64).mono ?_
  rintro e W3 ⟨rfl, hb⟩
  have HB3 := Lib.hid (below_step HB.out hb (Nat.le_refl _))
  clear hb
  go_wp2_with fail
  go_ret
  exact ⟨ret_int (by rw [HE.out]), HB3.out⟩

end Go.Proofs.YtgkgpjdgodhnlaaDoor
