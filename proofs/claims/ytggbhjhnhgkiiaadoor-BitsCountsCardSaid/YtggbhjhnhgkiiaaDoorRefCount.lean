/- The reference: Count. -/
import Derived.Test.YtggbhjhnhgkiiaaDoorRefBit
import Derived.Test.YtggbhjhnhgkiiaaDoorCountMath
namespace Go.Proofs.YtggbhjhnhgkiiaaDoor
open Go.ChangeShapes Go.WideShapes Go.ChangeAt Go.RowKit Bt
set_option linter.unusedVariables false

set_option maxHeartbeats 400000 in
theorem refCount_any (X : Nat) (w : World) (hX : X < 2 ^ 64) :
    Calls Tryd.prog 6 #[.int .u64 X] w fun e w' => e = .returned (.int .i64 (countN X : Nat)) ∧ w = w' := by
  go_enter Tryd.func6, Tryd.ntmps6
  go_wp2
  go_loop [3, 4] (fun c i => ∃ j C : Nat, j ≤ 64 ∧ C ≤ j ∧ Hid (C = countTo j X) ∧ i = .int .i64 j ∧ c = .int .i64 C) (fun _ i => 64 - (intOf i).toNat)
  case atStart => exact ⟨0, 0, by omega, by omega, Lib.hid rfl, rfl, rfl⟩
  case round =>
    obtain ⟨j, C, hj, hC, HC, rfl, rfl⟩ := hrel
    by_cases hlt : j < 64
    · have hs := countTo_succ j X
      unfold bitN at hs
      cases hb : X.testBit j
      · rw [hb, ← HC.out] at hs
        have HS := Lib.hid hs
        have HB := Lib.hid hb
        clear hs hb
        go_wp2_with fail
        refine (refBit_any X j _ hX (by omega)).mono ?_
        rintro e w' ⟨rfl, rfl⟩
        rw [HB.out]
        go_wp2_with fail
        go_round
        case rel => exact ⟨j + 1, C, by omega, by omega, Lib.hid (by rw [HS.out]; rfl), by go_num, rfl⟩
        case measure => simp [intOf]; omega
      · rw [hb, ← HC.out] at hs
        have HS := Lib.hid hs
        have HB := Lib.hid hb
        clear hs hb
        go_wp2_with fail
        refine (refBit_any X j _ hX (by omega)).mono ?_
        rintro e w' ⟨rfl, rfl⟩
        rw [HB.out]
        go_wp2_with fail
        go_round
        case rel => exact ⟨j + 1, C + 1, by omega, by omega, Lib.hid (by rw [HS.out]; rfl), by go_num, by go_num⟩
        case measure => simp [intOf]; omega
    · have e : ((C : Nat) : Int) = (countN X : Nat) := by rw [HC.out, show j = 64 by omega]; rfl
      have HE := Lib.hid e
      clear e
      go_wp2_with fail
      go_ret
      exact ⟨ret_int HE.out, rfl⟩

end Go.Proofs.YtggbhjhnhgkiiaaDoor
