/- geom: Header. -/
import Derived.Test.YtimcpjinndnhfaaGeoHas
namespace Go.Proofs.Ytimcpjinndnhfaa
open Go.ChangeShapes Go.WideShapes Go.ChangeAt Go.RowKit
set_option linter.unusedVariables false

/-- The word of a block's header; -1. -/
def headerG (n b : Int) : Int := if 1 ≤ b ∧ b < n then 256 + b else -1

set_option maxHeartbeats 400000 in
theorem geoHeader_any (n b : Int) (w : World) (hn : n ≤ 1048576) :
    Calls Try.prog 13 #[.agg #[.int .i64 n], .int .i64 b] w fun e w' => e = .returned (.int .i64 (headerG n b)) ∧ Below w.heap.size w w' := by
  by_cases hz : b = 0
  · subst hz
    have hh : headerG n 0 = -1 := if_neg (by omega)
    have HH := Lib.hid hh
    clear hh
    go_enter Try.func13, Try.ntmps13
    go_wp2_with fail
    go_ret
    exact ⟨ret_int HH.out.symm, (Below.refl _ _).alloc (Nat.le_refl _) _⟩
  · have hd : (b == 0) = false := by simpa using hz
    by_cases h : 0 ≤ b ∧ b < n
    · have hh : headerG n b = 256 + b := if_pos (by omega)
      have HH := Lib.hid hh
      have hb : hasBlk n b = true := decide_eq_true h
      have HB := Lib.hid hb
      obtain ⟨h0, h1⟩ := h
      clear hh hb hz
      go_enter Try.func13, Try.ntmps13
      go_wp2_with fail
      refine (geoHas_any _ _ _).mono ?_
      rintro e w1 ⟨rfl, b1⟩
      rw [HB.out]
      have B1 := Lib.hid b1
      clear b1
      go_wp2_with fail
      go_ret
      exact ⟨ret_int HH.out.symm, ((Below.refl _ _).alloc (Nat.le_refl _) _).trans (B1.out.mono (by simp))⟩
    · have hh : headerG n b = -1 := if_neg (by omega)
      have HH := Lib.hid hh
      have hb : hasBlk n b = false := decide_eq_false h
      have HB := Lib.hid hb
      clear hh hb h hz
      go_enter Try.func13, Try.ntmps13
      go_wp2_with fail
      refine (geoHas_any _ _ _).mono ?_
      rintro e w1 ⟨rfl, b1⟩
      rw [HB.out]
      have B1 := Lib.hid b1
      clear b1
      go_wp2_with fail
      go_ret
      exact ⟨ret_int HH.out.symm, ((Below.refl _ _).alloc (Nat.le_refl _) _).trans (B1.out.mono (by simp))⟩

end Go.Proofs.Ytimcpjinndnhfaa
