/- geom: Data. -/
import Derived.Test.YtimcpjinndnhfaaGeoBlockOf
namespace Go.Proofs.Ytimcpjinndnhfaa
open Go.ChangeShapes Go.WideShapes Go.ChangeAt Go.RowKit
set_option linter.unusedVariables false

set_option maxHeartbeats 400000 in
theorem geoData_any (n a : Int) (w : World) (h1 : a ≤ 9223372036854775807) :
    Calls Try.prog 11 #[.agg #[.int .i64 n], .int .i64 a] w fun e w' => e = .returned (.bool (decide (1 ≤ blockOfG n a))) ∧ Below w.heap.size w w' := by
  go_enter Try.func11, Try.ntmps11
  go_wp2_with fail
  refine (geoBlockOf_any _ _ _ h1).mono ?_
  rintro e w1 ⟨rfl, b1⟩
  have B1 := Lib.hid b1
  clear b1
  go_wp2_with fail
  go_ret
  exact ⟨rfl, ((Below.refl _ _).alloc (Nat.le_refl _) _).trans (B1.out.mono (by simp))⟩

end Go.Proofs.Ytimcpjinndnhfaa
