/- geom: BlockOf. -/
import Derived.Test.YtkboafcfpppnmaaDoorGeoHas
namespace Go.Proofs.YtkboafcfpppnmaaDoor
open Go.ChangeShapes Go.WideShapes Go.ChangeAt Go.RowKit
set_option linter.unusedVariables false

/-- The block of a word; -1. -/
def blockOfG (n a : Int) : Int := if 0 ≤ a ∧ a < 512 * n then a / 512 else -1

set_option maxHeartbeats 400000 in
theorem geoBlockOf_any (n a : Int) (w : World) (h1 : a ≤ 9223372036854775807) :
    Calls Tryd.prog 22 #[.agg #[.int .i64 n], .int .i64 a] w fun e w' => e = .returned (.int .i64 (blockOfG n a)) ∧ Below w.heap.size w w' := by
  by_cases h0 : 0 ≤ a
  · by_cases h : a < 512 * n
    · have hh : blockOfG n a = a / 512 := if_pos ⟨h0, h⟩
      have HH := Lib.hid hh
      have hb : hasBlk n (a / 512) = true := decide_eq_true ⟨by omega, by omega⟩
      have HB := Lib.hid hb
      clear hh hb h
      go_enter Tryd.func22, Tryd.ntmps22
      go_wp2_with fail
      refine (geoHas_any _ _ _).mono ?_
      rintro e w1 ⟨rfl, b1⟩
      rw [HB.out]
      have B1 := Lib.hid b1
      clear b1
      go_wp2_with fail
      go_ret
      exact ⟨ret_int HH.out.symm, ((Below.refl _ _).alloc (Nat.le_refl _) _).trans (B1.out.mono (by simp))⟩
    · have hh : blockOfG n a = -1 := if_neg (fun hx => h hx.2)
      have HH := Lib.hid hh
      have hb : hasBlk n (a / 512) = false := decide_eq_false (by omega)
      have HB := Lib.hid hb
      clear hh hb h
      go_enter Tryd.func22, Tryd.ntmps22
      go_wp2_with fail
      refine (geoHas_any _ _ _).mono ?_
      rintro e w1 ⟨rfl, b1⟩
      rw [HB.out]
      have B1 := Lib.hid b1
      clear b1
      go_wp2_with fail
      go_ret
      exact ⟨ret_int HH.out.symm, ((Below.refl _ _).alloc (Nat.le_refl _) _).trans (B1.out.mono (by simp))⟩
  · have hh : blockOfG n a = -1 := if_neg (fun hx => h0 hx.1)
    have HH := Lib.hid hh
    have hd : decide (a < 0) = true := by simp; omega
    have h0' : a < 0 := by omega
    clear hh h0
    go_enter Tryd.func22, Tryd.ntmps22
    go_wp2_with fail
    go_ret
    exact ⟨ret_int HH.out.symm, (Below.refl _ _).alloc (Nat.le_refl _) _⟩

end Go.Proofs.YtkboafcfpppnmaaDoor
