/- The page's example of layer 2. -/
import Derived.Test.YticcknhbeeladaaDoorMore
namespace Go.Proofs.YticcknhbeeladaaDoor
open Go.ChangeShapes Go.WideShapes Go.ChangeAt Go.RowKit Cr Bt
set_option linter.unusedVariables false

theorem digits_lt (p : Nat) : [49, 50, 51, 52, 53, 54, 55, 56, 57].getD p 0 < 256 := by
  by_cases h : p < 9
  · revert h; revert p; decide
  · rw [List.getD_eq_getElem?_getD, List.getElem?_eq_none (by simp; omega)]; decide

/-- The page's example. -/
theorem awake_yes (w : World) (hT : HasRests w) : Calls Tryd.prog 6 #[] w fun e w' => e = .returned (.bool true) ∧ Below w.heap.size w w' := by
  have HT := Lib.hid hT
  clear hT
  go_enter Tryd.func6, Tryd.ntmps6
  go_wp2_with fail
  refine (sum_any _ [49, 50, 51, 52, 53, 54, 55, 56, 57] _ (.built w _ (castL [49, 50, 51, 52, 53, 54, 55, 56, 57]) 9 _ rfl rfl) digits_lt (by decide) (HT.out.below ((Below.refl _ _).alloc (Nat.le_refl _) _) (Nat.le_refl _))).mono ?_
  rintro e W ⟨rfl, n, rfl⟩
  rw [awake_is]
  go_wp2_with fail
  go_ret
  exact ⟨rfl, below_drewN ((Below.refl _ _).alloc (Nat.le_refl _) _) n⟩

end Go.Proofs.YticcknhbeeladaaDoor
