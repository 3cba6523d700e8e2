/- The page's examples of layer 6. -/
import Derived.Test.YthpbfdfgnhemnaaDoorClassOfIs
namespace Go.Proofs.YthpbfdfgnhemnaaDoor
open Go.ChangeShapes Go.WideShapes Go.ChangeAt Go.RowKit Cl
set_option linter.unusedVariables false

set_option maxHeartbeats 1000000 in
theorem awake_yes (w : World) (hT : HasCells w) : Calls Tryd.prog 6 #[] w fun e w' => e = .returned (.bool true) ∧ w = w' := by
  have E1 : Hid (∀ w, HasCells w → Calls Tryd.prog 13 #[.int .i64 9] w fun e w' => e = .returned (.tuple #[.int .i64 7, .bool true]) ∧ w = w') := Lib.hid fun w h => by
    have := of_any 9 w h
    unfold OfIs at this
    rwa [show clsC 9 = some 7 from by decide] at this
  have E2 : Hid (∀ w, HasCells w → Calls Tryd.prog 11 #[.int .i64 0] w fun e w' => e = .returned (.int .i64 256) ∧ w = w') := Lib.hid fun w h => cells_yes 0 w (by decide) h
  have HT := Lib.hid hT
  clear hT
  go_enter Tryd.func6, Tryd.ntmps6
  go_wp2_with fail
  refine (E1.out _ HT.out).mono ?_
  rintro e w' ⟨rfl, rfl⟩
  go_wp2_with fail
  refine (E2.out _ HT.out).mono ?_
  rintro e w' ⟨rfl, rfl⟩
  go_wp2_with fail
  refine (most_any _ HT.out).mono ?_
  rintro e w' ⟨rfl, rfl⟩
  go_wp2_with fail
  go_ret
  exact ⟨rfl, rfl⟩

end Go.Proofs.YthpbfdfgnhemnaaDoor
