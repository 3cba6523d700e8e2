/- cells: Lines. -/
import Derived.Test.YtkboafcfpppnmaaDoorGeoLineOf
import Derived.Test.YtkboafcfpppnmaaDoorMade
namespace Go.Proofs.YtkboafcfpppnmaaDoor
open Go.ChangeShapes Go.WideShapes Go.ChangeAt Go.RowKit
set_option linter.unusedVariables false

/-- The lines of words: the first, and the one behind the last. -/
def lineA (a m : Int) : Int := if a < 0 ∨ m < 1 then 0 else a / 8
def lineB (a m : Int) : Int := if a < 0 ∨ m < 1 then 0 else a / 8 + (m - 1) / 8 + (a % 8 + (m - 1) % 8) / 8 + 1

set_option maxHeartbeats 400000 in
theorem cellLines_any (a m : Int) (w : World) (ha : a ≤ 4294967296) (hm : m ≤ 4294967296) :
    Calls Tryd.prog 16 #[.int .i64 a, .int .i64 m] w fun e w' => e = .returned (.tuple #[.int .i64 (lineA a m), .int .i64 (lineB a m)]) ∧ w = w' := by
  have HL : Hid (∀ (x : Int) w, 0 ≤ x → x ≤ 9223372036854775807 → Calls Tryd.prog 27 #[.int .i64 x] w fun e w' => e = .returned (.int .i64 (x / 8)) ∧ w = w') := Lib.hid fun x w h1 h2 => geoLineOf_any x w h1 h2
  by_cases h0 : a < 0
  · have HA := Lib.hid (show lineA a m = 0 from if_pos (.inl h0))
    have HB := Lib.hid (show lineB a m = 0 from if_pos (.inl h0))
    go_enter Tryd.func16, Tryd.ntmps16
    go_wp2_with fail
    go_ret2
    exact ⟨by rw [HA.out, HB.out]; rfl, rfl⟩
  · have hd : decide (a < 0) = false := by simpa using h0
    by_cases h1 : m < 1
    · have HA := Lib.hid (show lineA a m = 0 from if_pos (.inr h1))
      have HB := Lib.hid (show lineB a m = 0 from if_pos (.inr h1))
      clear h0
      go_enter Tryd.func16, Tryd.ntmps16
      go_wp2_with fail
      go_ret2
      exact ⟨by rw [HA.out, HB.out]; rfl, rfl⟩
    · have HA := Lib.hid (show lineA a m = a / 8 from if_neg (by omega))
      have HB := Lib.hid (show lineB a m = a / 8 + (m - 1) / 8 + (a % 8 + (m - 1) % 8) / 8 + 1 from if_neg (by omega))
      have hd1 : decide (m < 1) = false := by simpa using h1
      have g0 : 0 ≤ a := by omega
      have g1 : 1 ≤ m := by omega
      clear h0 h1
      go_enter Tryd.func16, Tryd.ntmps16
      go_wp2_with fail
      refine (HL.out _ _ (by omega) (by omega)).mono ?_
      rintro e w' ⟨rfl, rfl⟩
      go_wp2_with fail
      refine (HL.out _ _ (by omega) (by omega)).mono ?_
      rintro e w' ⟨rfl, rfl⟩
      go_wp2_with fail
      refine (HL.out _ _ (by omega) (by omega)).mono ?_
      rintro e w' ⟨rfl, rfl⟩
      go_wp2_with fail
      go_ret2
      exact ⟨by rw [HA.out, HB.out]; rfl, rfl⟩

end Go.Proofs.YtkboafcfpppnmaaDoor
