/- geom: First. -/
import Derived.Test.YtkboafcfpppnmaaDoorGeoHas
namespace Go.Proofs.YtkboafcfpppnmaaDoor
open Go.ChangeShapes Go.WideShapes Go.ChangeAt Go.RowKit
set_option linter.unusedVariables false

/-- A block's first word; -1. -/
def firstG (n b : Int) : Int := if 0 ≤ b ∧ b < n then 512 * b else -1

set_option maxHeartbeats 400000 in
theorem geoFirst_any (n b : Int) (w : World) (hn : n ≤ 1048576) :
    Calls Tryd.prog 23 #[.agg #[.int .i64 n], .int .i64 b] w fun e w' => e = .returned (.int .i64 (firstG n b)) ∧ Below w.heap.size w w' := by
  by_cases h : 0 ≤ b ∧ b < n
  · have hh : firstG n b = b * 512 := by unfold firstG; rw [if_pos h, Int.mul_comm]
    have HH := Lib.hid hh
    have hb : hasBlk n b = true := decide_eq_true h
    have HB := Lib.hid hb
    obtain ⟨h0, h1⟩ := h
    clear hh hb
    go_enter Tryd.func23, Tryd.ntmps23
    go_wp2_with fail
    refine (geoHas_any _ _ _).mono ?_
    rintro e w1 ⟨rfl, b1⟩
    rw [HB.out]
    have B1 := Lib.hid b1
    clear b1
    go_wp2_with fail
    go_ret
    exact ⟨ret_int HH.out.symm, ((Below.refl _ _).alloc (Nat.le_refl _) _).trans (B1.out.mono (by simp))⟩
  · have hh : firstG n b = -1 := if_neg h
    have HH := Lib.hid hh
    have hb : hasBlk n b = false := decide_eq_false h
    have HB := Lib.hid hb
    clear hh hb h
    go_enter Tryd.func23, Tryd.ntmps23
    go_wp2_with fail
    refine (geoHas_any _ _ _).mono ?_
    rintro e w1 ⟨rfl, b1⟩
    rw [HB.out]
    have B1 := Lib.hid b1
    clear b1
    go_wp2_with fail
    go_ret
    exact ⟨ret_int HH.out.symm, ((Below.refl _ _).alloc (Nat.le_refl _) _).trans (B1.out.mono (by simp))⟩

end Go.Proofs.YtkboafcfpppnmaaDoor
