/- geom: Data. -/
import Derived.Test.YtkboafcfpppnmaaDoorGeoBlockOf
namespace Go.Proofs.YtkboafcfpppnmaaDoor
open Go.ChangeShapes Go.WideShapes Go.ChangeAt Go.RowKit
set_option linter.unusedVariables false

set_option maxHeartbeats 400000 in
theorem geoData_any (n a : Int) (w : World) (h1 : a ≤ 9223372036854775807) :
    Calls Tryd.prog 21 #[.agg #[.int .i64 n], .int .i64 a] w fun e w' => e = .returned (.bool (decide (1 ≤ blockOfG n a))) ∧ Below w.heap.size w w' := by
  go_enter Tryd.func21, Tryd.ntmps21
  go_wp2_with fail
  refine (geoBlockOf_any _ _ _ h1).mono ?_
  rintro e w1 ⟨rfl, b1⟩
  have B1 := Lib.hid b1
  clear b1
  go_wp2_with fail
  go_ret
  exact ⟨rfl, ((Below.refl _ _).alloc (Nat.le_refl _) _).trans (B1.out.mono (by simp))⟩

end Go.Proofs.YtkboafcfpppnmaaDoor
