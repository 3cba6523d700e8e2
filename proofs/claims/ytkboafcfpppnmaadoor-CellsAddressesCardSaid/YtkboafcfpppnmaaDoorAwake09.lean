/- The page's example of layer 9. -/
import Derived.Test.YtkboafcfpppnmaaDoorCellsAddr
namespace Go.Proofs.YtkboafcfpppnmaaDoor
open Go.ChangeShapes Go.WideShapes Go.ChangeAt Go.RowKit Ce
set_option linter.unusedVariables false

set_option maxHeartbeats 400000 in
theorem awake_yes (w : World) (hT : HasCells w) : Calls Tryd.prog 7 #[] w (MadeOne (.bool true) w) := by
  have HA : Hid (∀ w, HasCells w → Calls Tryd.prog 12 #[.agg #[.int .i64 4], .int .i64 0, .agg #[.int .i64 2, .int .i64 3]] w (MadeOne (.int .i64 1030) w)) := Lib.hid fun w h => by
    have := cellAddr_any 4 0 2 3 w h (by omega)
    rwa [show addrC 4 0 2 3 = 1030 by decide] at this
  have HT := Lib.hid hT
  clear hT
  go_enter Tryd.func7, Tryd.ntmps7
  go_wp2_with fail
  refine (HA.out _ HT.out).mono ?_
  rintro e W ⟨rfl, hb⟩
  have HB := Lib.hid hb
  clear hb
  go_wp2_with fail
  go_ret
  exact ⟨rfl, HB.out⟩

end Go.Proofs.YtkboafcfpppnmaaDoor
