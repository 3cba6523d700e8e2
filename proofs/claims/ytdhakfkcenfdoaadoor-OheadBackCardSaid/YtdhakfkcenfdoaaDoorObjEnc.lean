/- ohead: Encode; the reference's Encode. -/
import Derived.Test.YtdhakfkcenfdoaaDoorObjSize
import Derived.Test.YtdhakfkcenfdoaaDoorObjNum
import Derived.Test.YtdhakfkcenfdoaaDoorRefSeal
import Derived.Test.YtdhakfkcenfdoaaDoorNats
namespace Go.Proofs.YtdhakfkcenfdoaaDoor
open Go.ChangeShapes Go.WideShapes Go.ChangeAt Go.RowKit Oh Bt Cr
set_option linter.unusedVariables false

set_option maxHeartbeats 1000000 in
theorem objEnc_any (q : Int) (a : Nat) (p d : Int) (w : World) (hp : IntKind.u64.wrap q = (a : Int)) (hp64 : a < 2 ^ 64) (hT : HasRests w) :
    Calls Tryd.prog 9 #[.agg #[.int .i64 p, .int .i64 d], .int .i64 q] w (MadeOne (.int .u64 (encO p d a : Nat)) w) := by
  have HT := Lib.hid hT
  have HP := Lib.hid hp
  have B0 := Lib.hid (fun o => (Below.refl w.heap.size w).alloc (Nat.le_refl _) o)
  clear hT hp
  by_cases hr : mayO p d = true
  rotate_left
  · have hr : mayO p d = false := by simpa using hr
    have HR := Lib.hid hr
    have HE := Lib.hid (encO_not a hr)
    clear hr
    go_enter Tryd.func9, Tryd.ntmps9
    go_wp2_with fail
    refine (objMay_any p d _).mono ?_
    rintro e W ⟨he, hb⟩
    rw [HR.out] at he
    subst he
    have HB := Lib.hid (below_step (B0.out _) hb (Nat.le_refl _))
    clear hb
    go_wp2_with fail
    go_ret
    exact ⟨ret_int (by rw [HE.out]; rfl), HB.out⟩
  obtain ⟨p, d, rfl, rfl, h1, h2⟩ := may_nat hr
  have HR := Lib.hid hr
  have HE := Lib.hid (encO_may a hr)
  have hn := @numO_lt p d h1 (by omega)
  have HN : Hid (∀ w, Calls Tryd.prog 25 #[.agg #[.int .i64 p, .int .i64 d]] w fun e w' => e = .returned (.int .u32 (numO p d : Nat)) ∧ Below w.heap.size w w') := Lib.hid fun w => objNumber_any p d w h1 (by omega)
  clear hr h1 h2
  generalize numO p d = n at *
  go_enter Tryd.func9, Tryd.ntmps9
  go_wp2_with fail
  refine (objMay_any p d _).mono ?_
  rintro e W ⟨he, hb⟩
  rw [HR.out] at he
  subst he
  obtain ⟨b1, hb, s1⟩ := boxT_of1 hb
  have C0 : W.cell? ⟨w.heap.size, 0, none⟩ = some (.int .i64 p) := b1.cell 0
  have C1 : W.cell? ⟨w.heap.size, 1, none⟩ = some (.int .i64 d) := b1.cell 1
  have HB := Lib.hid hb
  clear hb
  go_wp2_with (first
    | (refine wpList_load_boxT rfl _ _ rfl (b := w.heap.size) rfl b1 Tryd.underlying23 rfl infoO ?_)
    | fail)
  refine (HN.out _).mono ?_
  rintro e W2 ⟨rfl, hb⟩
  have HB2 := Lib.hid (below_step HB.out hb (Nat.le_refl _))
  clear hb b1 C0 C1
  go_wp2_with fail
  refine (seal_any n a _ (by omega) (HT.out.below HB2.out (Nat.le_refl _)) q HP.out hp64).mono ?_
  rintro e W3 ⟨rfl, hb⟩
  have HB3 := Lib.hid (below_step HB2.out hb (Nat.le_refl _))
  clear hb
  go_wp2_with fail
  go_ret
  exact ⟨ret_int (by rw [HE.out]), HB3.out⟩

set_option maxHeartbeats 1000000 in
theorem refObjEnc_any (q : Int) (a : Nat) (p d : Int) (w : World) (hp : IntKind.u64.wrap q = (a : Int)) (hp64 : a < 2 ^ 64) :
    Calls Tryd.prog 10 #[.agg #[.int .i64 p, .int .i64 d], .int .i64 q] w (MadeOne (.int .u64 (encO p d a : Nat)) w) := by
  have HP := Lib.hid hp
  have B0 := Lib.hid (fun o => (Below.refl w.heap.size w).alloc (Nat.le_refl _) o)
  clear hp
  by_cases hr : mayO p d = true
  rotate_left
  · have hr : mayO p d = false := by simpa using hr
    have HR := Lib.hid (sizeO_no hr)
    have HE := Lib.hid (encO_not a hr)
    clear hr
    go_enter Tryd.func10, Tryd.ntmps10
    go_wp2_with fail
    refine (refSize08_any p d _).mono ?_
    rintro e W ⟨he, hb⟩
    rw [HR.out] at he
    subst he
    have HB := Lib.hid (below_step (B0.out _) hb (Nat.le_refl _))
    clear hb
    go_wp2_with fail
    go_ret
    exact ⟨ret_int (by rw [HE.out]; rfl), HB.out⟩
  obtain ⟨p, d, rfl, rfl, h1, h2⟩ := may_nat hr
  have HE := Lib.hid (encO_may a hr)
  have hn := @numO_lt p d h1 (by omega)
  have hN : 165 + 256 * (p : Int) + 16384 * (d : Int) = ((numO p d : Nat) : Int) := by unfold numO; omega
  have HN := Lib.hid hN
  have hz := sizeO_yes hr
  have hz0 : (sizeO p d == 0) = false := by rw [hz]; simp; omega
  have HS : Hid (∀ w, Calls Tryd.prog 14 #[.agg #[.int .i64 p, .int .i64 d]] w (MadeOne (.int .i64 (sizeO p d)) w)) := Lib.hid fun w => refSize08_any p d w
  have k0 : (p : Int) < 64 := by omega
  have c0 : (d : Int) ≤ 16384 := by omega
  clear hr h1 h2 hN hz
  generalize numO p d = n at *
  generalize sizeO p d = z at *
  go_enter Tryd.func10, Tryd.ntmps10
  go_wp2_with fail
  refine (HS.out _).mono ?_
  rintro e W ⟨rfl, hb⟩
  obtain ⟨b1, hb, s1⟩ := boxT_of1 hb
  have C0 : W.cell? ⟨w.heap.size, 0, none⟩ = some (.int .i64 p) := b1.cell 0
  have C1 : W.cell? ⟨w.heap.size, 1, none⟩ = some (.int .i64 d) := b1.cell 1
  have HB := Lib.hid hb
  clear hb b1
  go_wp2_with fail
  rw [HN.out]
  refine (refSeal_any n a _ (by omega) q HP.out hp64).mono ?_
  rintro e W3 ⟨rfl, hb⟩
  have HB3 := Lib.hid (below_step HB.out hb (Nat.le_refl _))
  clear hb
  go_wp2_with fail
  go_ret
  exact ⟨ret_int (by rw [HE.out]), HB3.out⟩

end Go.Proofs.YtdhakfkcenfdoaaDoor
