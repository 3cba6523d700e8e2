/- The page's examples of layer 4. -/
import Derived.Test.YtimcpjinndnhfaaGeoBlockOf
import Derived.Test.YtimcpjinndnhfaaGeoHeader
import Derived.Test.YtimcpjinndnhfaaBox1
namespace Go.Proofs.Ytimcpjinndnhfaa
open Go.ChangeShapes Go.WideShapes Go.ChangeAt Go.RowKit
set_option linter.unusedVariables false

set_option maxHeartbeats 1000000 in
theorem awake_yes (w : World) : Calls Try.prog 6 #[] w fun e w' => e = .returned (.bool true) ∧ Below w.heap.size w w' := by
  have E1 : Hid (∀ w, Calls Try.prog 10 #[.agg #[.int .i64 4], .int .i64 600] w fun e w' => e = .returned (.int .i64 1) ∧ Below w.heap.size w w') := Lib.hid fun w => by
    have := geoBlockOf_any 4 600 w (by decide)
    rw [show blockOfG 4 600 = 1 from by decide] at this; exact this
  have E2 : Hid (∀ w, Calls Try.prog 13 #[.agg #[.int .i64 4], .int .i64 3] w fun e w' => e = .returned (.int .i64 259) ∧ Below w.heap.size w w') := Lib.hid fun w => by
    have := geoHeader_any 4 3 w (by decide)
    rw [show headerG 4 3 = 259 from by decide] at this; exact this
  go_enter Try.func6, Try.ntmps6
  go_wp2_with fail
  refine (E1.out _).mono ?_
  rintro e w1 ⟨rfl, b1⟩
  have B1 := Lib.hid (Box1.new (Below.refl w.heap.size w) (Nat.le_refl _) b1)
  clear b1
  have g1 := B1.out.cell
  go_wp2_with fail
  refine (E2.out _).mono ?_
  rintro e w2 ⟨rfl, b2⟩
  have B2 := Lib.hid (B1.out.on b2)
  clear b2
  go_wp2_with fail
  go_ret
  exact ⟨rfl, B2.out.below⟩

end Go.Proofs.Ytimcpjinndnhfaa
