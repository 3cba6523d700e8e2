/- ohead: Small, Blocks; the reference's Class and Blocks. -/
import Derived.Test.YtdhakfkcenfdoaaDoorObjSize
import Derived.Test.YtdhakfkcenfdoaaDoorClassOfIs
import Derived.Test.YtdhakfkcenfdoaaDoorRefClass
import Derived.Test.YtdhakfkcenfdoaaDoorUpB
import Derived.Test.YtdhakfkcenfdoaaDoorRefNeed
namespace Go.Proofs.YtdhakfkcenfdoaaDoor
open Go.ChangeShapes Go.WideShapes Go.ChangeAt Go.RowKit Oh Cl
set_option linter.unusedVariables false

/-- The class of a small object, or -1. -/
def zC (n : Int) : Int := (clsC n).elim (-1) fun k => (k : Int)
theorem zC_some {n : Int} {k : Nat} (h : clsC n = some k) : zC n = k := by unfold zC; rw [h]; rfl
theorem zC_none {n : Int} (h : clsC n = none) : zC n = -1 := by unfold zC; rw [h]; rfl
theorem up_need (n : Int) : upS n 512 = needG n := by
  unfold upS needG
  by_cases h : n < 1
  · rw [if_pos (by omega), if_pos h]
  · rw [if_neg (by omega), if_neg h]
/-- How many blocks a large object needs. -/
def blocksO (p d : Int) : Int := if (clsC (sizeO p d)).isSome then 0 else needG (sizeO p d)

set_option maxHeartbeats 400000 in
theorem objSmall_any (p d : Int) (w : World) (hT : HasCells w) :
    Calls Tryd.prog 12 #[.agg #[.int .i64 p, .int .i64 d]] w (MadeOne (.tuple #[.int .i64 ((clsC (sizeO p d)).getD 0 : Nat), .bool (clsC (sizeO p d)).isSome]) w) := by
  have HT := Lib.hid hT
  have B0 := Lib.hid (fun o => (Below.refl w.heap.size w).alloc (Nat.le_refl _) o)
  have HS : Hid (∀ w, Calls Tryd.prog 13 #[.agg #[.int .i64 p, .int .i64 d]] w (MadeOne (.int .i64 (sizeO p d)) w)) := Lib.hid fun w => objSize_any p d w
  have HO : Hid (∀ w, HasCells w → Calls Tryd.prog 27 #[.int .i64 (sizeO p d)] w (OfIs (sizeO p d) w)) := Lib.hid fun w h => of_any _ w h
  unfold OfIs at HO
  clear hT
  generalize ((clsC (sizeO p d)).getD 0) = k at *
  generalize ((clsC (sizeO p d)).isSome) = r at *
  generalize sizeO p d = n at *
  go_enter Tryd.func12, Tryd.ntmps12
  go_wp2_with (first
    | (refine wpList_load_boxT rfl _ _ rfl (b := w.heap.size) rfl (BoxT.new _ w _) Tryd.underlying23 rfl infoO ?_)
    | fail)
  refine (HS.out _).mono ?_
  rintro e W ⟨rfl, hb⟩
  have HB := Lib.hid (below_step (B0.out _) hb (Nat.le_refl _))
  clear hb
  go_wp2_with fail
  refine (HO.out _ (HT.out.below HB.out (Nat.le_refl _))).mono ?_
  rintro e W ⟨rfl, rfl⟩
  go_wp2_with fail
  go_ret2
  exact ⟨rfl, HB.out⟩

set_option maxHeartbeats 1000000 in
theorem objBlocks_any (p d : Int) (w : World) (hT : HasCells w) :
    Calls Tryd.prog 16 #[.agg #[.int .i64 p, .int .i64 d]] w (MadeOne (.int .i64 (blocksO p d)) w) := by
  have HT := Lib.hid hT
  have B0 := Lib.hid (fun o => (Below.refl w.heap.size w).alloc (Nat.le_refl _) o)
  have HS : Hid (∀ w, Calls Tryd.prog 13 #[.agg #[.int .i64 p, .int .i64 d]] w (MadeOne (.int .i64 (sizeO p d)) w)) := Lib.hid fun w => objSize_any p d w
  have HO : Hid (∀ w, HasCells w → Calls Tryd.prog 12 #[.agg #[.int .i64 p, .int .i64 d]] w (MadeOne (.tuple #[.int .i64 ((clsC (sizeO p d)).getD 0 : Nat), .bool (clsC (sizeO p d)).isSome]) w)) := Lib.hid fun w h => objSmall_any p d w h
  have HU : Hid (∀ w, Calls Tryd.prog 30 #[.int .i64 (sizeO p d), .int .i64 512] w fun e w' => e = .returned (.int .i64 (needG (sizeO p d))) ∧ w = w') := Lib.hid fun w => by
    have h := size_in p d
    have := up_any (sizeO p d) 512 w (by omega) (by omega)
    rwa [up_need] at this
  have hn := size_in p d
  have hBL : Hid (blocksO p d = if (clsC (sizeO p d)).isSome = true then 0 else needG (sizeO p d)) := Lib.hid rfl
  clear hT
  generalize ((clsC (sizeO p d)).getD 0) = k at *
  generalize ((clsC (sizeO p d)).isSome) = r at *
  generalize needG (sizeO p d) = q at *
  generalize sizeO p d = n at *
  generalize blocksO p d = bl at *
  go_enter Tryd.func16, Tryd.ntmps16
  go_wp2_with (first
    | (refine wpList_load_boxT rfl _ _ rfl (b := w.heap.size) rfl (BoxT.new _ w _) Tryd.underlying23 rfl infoO ?_)
    | fail)
  refine (HO.out _ (HT.out.below (B0.out _) (Nat.le_refl _))).mono ?_
  rintro e W ⟨rfl, hb⟩
  obtain ⟨b1, hb, s1⟩ := boxT_of1 hb
  have HB := Lib.hid hb
  have B1 := Lib.hid b1
  clear hb b1
  cases r with
  | true =>
    have HE : Hid (bl = 0) := Lib.hid (by rw [hBL.out]; rfl)
    go_wp2_with fail
    go_ret
    exact ⟨ret_int HE.out.symm, HB.out⟩
  | false =>
    have HE : Hid (bl = q) := Lib.hid (by rw [hBL.out]; rfl)
    go_wp2_with (first
      | (refine wpList_load_boxT rfl _ _ rfl (b := w.heap.size) rfl B1.out Tryd.underlying23 rfl infoO ?_)
      | fail)
    refine (HS.out _).mono ?_
    rintro e W2 ⟨rfl, hb⟩
    have HB2 := Lib.hid (below_step HB.out hb (Nat.le_refl _))
    clear hb
    go_wp2_with fail
    refine (HU.out _).mono ?_
    rintro e W3 ⟨rfl, rfl⟩
    go_wp2_with fail
    go_ret
    exact ⟨ret_int HE.out.symm, HB2.out⟩

set_option maxHeartbeats 400000 in
theorem refClass08_any (p d : Int) (w : World) :
    Calls Tryd.prog 15 #[.agg #[.int .i64 p, .int .i64 d]] w (MadeOne (.int .i64 (zC (sizeO p d))) w) := by
  have B0 := Lib.hid (fun o => (Below.refl w.heap.size w).alloc (Nat.le_refl _) o)
  have HS : Hid (∀ w, Calls Tryd.prog 14 #[.agg #[.int .i64 p, .int .i64 d]] w (MadeOne (.int .i64 (sizeO p d)) w)) := Lib.hid fun w => refSize08_any p d w
  have HO : Hid (∀ w, Calls Tryd.prog 29 #[.int .i64 (sizeO p d)] w fun e w' => e = .returned (.int .i64 (zC (sizeO p d))) ∧ Below w.heap.size w w') := Lib.hid fun w => refOf_any _ w
  generalize zC (sizeO p d) = z at *
  generalize sizeO p d = n at *
  go_enter Tryd.func15, Tryd.ntmps15
  go_wp2_with (first
    | (refine wpList_load_boxT rfl _ _ rfl (b := w.heap.size) rfl (BoxT.new _ w _) Tryd.underlying29 rfl infoRO ?_)
    | fail)
  refine (HS.out _).mono ?_
  rintro e W ⟨rfl, hb⟩
  have HB := Lib.hid (below_step (B0.out _) hb (Nat.le_refl _))
  clear hb
  go_wp2_with fail
  refine (HO.out _).mono ?_
  rintro e W2 ⟨rfl, hb⟩
  have HB2 := Lib.hid (below_step HB.out hb (Nat.le_refl _))
  clear hb
  go_wp2_with fail
  go_ret
  exact ⟨rfl, HB2.out⟩

set_option maxHeartbeats 1000000 in
theorem refBlocks08_any (p d : Int) (w : World) :
    Calls Tryd.prog 17 #[.agg #[.int .i64 p, .int .i64 d]] w (MadeOne (.int .i64 (blocksO p d)) w) := by
  have B0 := Lib.hid (fun o => (Below.refl w.heap.size w).alloc (Nat.le_refl _) o)
  have HS : Hid (∀ w, Calls Tryd.prog 14 #[.agg #[.int .i64 p, .int .i64 d]] w (MadeOne (.int .i64 (sizeO p d)) w)) := Lib.hid fun w => refSize08_any p d w
  have HO : Hid (∀ w, Calls Tryd.prog 15 #[.agg #[.int .i64 p, .int .i64 d]] w (MadeOne (.int .i64 (zC (sizeO p d))) w)) := Lib.hid fun w => refClass08_any p d w
  have HU : Hid (∀ w, Calls Tryd.prog 31 #[.int .i64 (sizeO p d)] w fun e w' => e = .returned (.int .i64 (needG (sizeO p d))) ∧ w = w') := Lib.hid fun w => by
    have h := size_in p d
    exact refNeed04_any (sizeO p d) w (by omega)
  have hn := size_in p d
  have hBL : Hid (0 ≤ zC (sizeO p d) ∧ blocksO p d = 0 ∨ decide (0 ≤ zC (sizeO p d)) = false ∧ blocksO p d = needG (sizeO p d)) := Lib.hid (by
    cases hc : clsC (sizeO p d) with
    | none => right; rw [zC_none hc]; exact ⟨by decide, by unfold blocksO; rw [hc]; rfl⟩
    | some k => left; rw [zC_some hc]; exact ⟨by omega, by unfold blocksO; rw [hc]; rfl⟩)
  generalize zC (sizeO p d) = z at *
  generalize needG (sizeO p d) = q at *
  generalize sizeO p d = n at *
  generalize blocksO p d = bl at *
  go_enter Tryd.func17, Tryd.ntmps17
  go_wp2_with (first
    | (refine wpList_load_boxT rfl _ _ rfl (b := w.heap.size) rfl (BoxT.new _ w _) Tryd.underlying29 rfl infoRO ?_)
    | fail)
  refine (HO.out _).mono ?_
  rintro e W ⟨rfl, hb⟩
  obtain ⟨b1, hb, s1⟩ := boxT_of1 hb
  have HB := Lib.hid hb
  have B1 := Lib.hid b1
  clear hb b1
  rcases hBL.out with ⟨hz, HE⟩ | ⟨hz, HE⟩
  · have HE := Lib.hid HE
    go_wp2_with fail
    go_ret
    exact ⟨ret_int HE.out.symm, HB.out⟩
  · have HE := Lib.hid HE
    go_wp2_with (first
      | (refine wpList_load_boxT rfl _ _ rfl (b := w.heap.size) rfl B1.out Tryd.underlying29 rfl infoRO ?_)
      | fail)
    refine (HS.out _).mono ?_
    rintro e W2 ⟨rfl, hb⟩
    have HB2 := Lib.hid (below_step HB.out hb (Nat.le_refl _))
    clear hb
    go_wp2_with fail
    refine (HU.out _).mono ?_
    rintro e W3 ⟨rfl, rfl⟩
    go_wp2_with fail
    go_ret
    exact ⟨ret_int HE.out.symm, HB2.out⟩

end Go.Proofs.YtdhakfkcenfdoaaDoor
