/- The page's examples of layer 1. -/
import Derived.Test.YtggbhjhnhgkiiaaGet
import Derived.Test.YtggbhjhnhgkiiaaUpB
namespace Go.Proofs.Ytggbhjhnhgkiiaa
open Go.ChangeShapes Go.WideShapes Go.ChangeAt Go.RowKit Bt
set_option linter.unusedVariables false

/-- The page's examples. -/
theorem awake_yes (w : World) : Calls Try.prog 8 #[] w fun e w' => e = .returned (.bool true) ∧ ∃ n, w' = w.drewN n := by
  go_enter Try.func8, Try.ntmps8
  go_wp2_with fail
  refine (get_any 43981 4 8 _ (by decide) (by decide) (by decide)).mono ?_
  rintro e w' ⟨rfl, n, rfl⟩
  rw [show getN 43981 4 8 = 188 from by decide]
  go_wp2_with fail
  refine (up_any 9 8 _ (by decide) (by decide)).mono ?_
  rintro e w' ⟨rfl, rfl⟩
  rw [show upS 9 8 = 2 from by decide]
  go_wp2_with fail
  go_ret
  exact ⟨rfl, _, rfl⟩

end Go.Proofs.Ytggbhjhnhgkiiaa
