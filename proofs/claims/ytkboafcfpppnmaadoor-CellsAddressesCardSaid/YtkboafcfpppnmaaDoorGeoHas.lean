/- geom: has. -/
import Derived.Test.YtkboafcfpppnmaaDoorPre
namespace Go.Proofs.YtkboafcfpppnmaaDoor
open Go.ChangeShapes Go.WideShapes Go.ChangeAt Go.RowKit
set_option linter.unusedVariables false

/-- Is there such a block? -/
def hasBlk (n b : Int) : Bool := decide (0 ≤ b ∧ b < n)

set_option maxHeartbeats 400000 in
theorem geoHas_any (n b : Int) (w : World) :
    Calls Tryd.prog 28 #[.agg #[.int .i64 n], .int .i64 b] w fun e w' => e = .returned (.bool (hasBlk n b)) ∧ Below w.heap.size w w' := by
  by_cases h0 : 0 ≤ b
  · by_cases h1 : b < n
    · have hh : hasBlk n b = true := decide_eq_true ⟨h0, h1⟩
      have HH := Lib.hid hh
      clear hh
      go_enter Tryd.func28, Tryd.ntmps28
      go_wp2
      go_ret
      exact ⟨ret_bool HH.out.symm, (Below.refl _ _).alloc (Nat.le_refl _) _⟩
    · have hh : hasBlk n b = false := decide_eq_false (fun h => h1 h.2)
      have HH := Lib.hid hh
      clear hh
      have hd : decide (b < n) = false := by simpa using h1
      go_enter Tryd.func28, Tryd.ntmps28
      go_wp2
      go_ret
      exact ⟨ret_bool HH.out.symm, (Below.refl _ _).alloc (Nat.le_refl _) _⟩
  · have hh : hasBlk n b = false := decide_eq_false (fun h => h0 h.1)
    have HH := Lib.hid hh
    clear hh
    have hd : decide (0 ≤ b) = false := by simpa using h0
    go_enter Tryd.func28, Tryd.ntmps28
    go_wp2
    go_ret
    exact ⟨ret_bool HH.out.symm, (Below.refl _ _).alloc (Nat.le_refl _) _⟩

end Go.Proofs.YtkboafcfpppnmaaDoor
