/- class: Right. -/
import Derived.Test.YtkboafcfpppnmaaDoorClassMath
namespace Go.Proofs.YtkboafcfpppnmaaDoor
open Go.ChangeShapes Go.WideShapes Go.ChangeAt Go.RowKit Cl
set_option linter.unusedVariables false

set_option maxHeartbeats 400000 in
theorem right_any (k : Int) (w : World) :
    Calls Tryd.prog 20 #[.int .i64 k] w fun e w' => e = .returned (.bool (rightC k)) ∧ w = w' := by
  by_cases h0 : 0 ≤ k
  · by_cases h1 : k < 32
    · have HH := Lib.hid (show rightC k = true from decide_eq_true ⟨h0, h1⟩)
      go_enter Tryd.func20, Tryd.ntmps20
      go_wp2
      go_ret
      exact ⟨ret_bool HH.out.symm, rfl⟩
    · have HH := Lib.hid (show rightC k = false from decide_eq_false (fun h => h1 h.2))
      have hd : decide (k < 32) = false := by simpa using h1
      go_enter Tryd.func20, Tryd.ntmps20
      go_wp2
      go_ret
      exact ⟨ret_bool HH.out.symm, rfl⟩
  · have HH := Lib.hid (show rightC k = false from decide_eq_false (fun h => h0 h.1))
    have hd : decide (0 ≤ k) = false := by simpa using h0
    go_enter Tryd.func20, Tryd.ntmps20
    go_wp2
    go_ret
    exact ⟨ret_bool HH.out.symm, rfl⟩

theorem right_yes (k : Nat) (w : World) (hk : k < 32) :
    Calls Tryd.prog 20 #[.int .i64 k] w fun e w' => e = .returned (.bool true) ∧ w = w' := by
  have := right_any k w
  rwa [show rightC k = true from decide_eq_true (by omega)] at this
theorem right_no (k : Int) (w : World) (hk : k < 0 ∨ 32 ≤ k) :
    Calls Tryd.prog 20 #[.int .i64 k] w fun e w' => e = .returned (.bool false) ∧ w = w' := by
  have := right_any k w
  rwa [show rightC k = false from decide_eq_false (by omega)] at this

end Go.Proofs.YtkboafcfpppnmaaDoor
