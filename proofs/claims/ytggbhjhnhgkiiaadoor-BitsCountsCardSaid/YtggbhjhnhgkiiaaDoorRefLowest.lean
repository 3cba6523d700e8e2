/- The reference: Lowest and Highest. -/
import Derived.Test.YtggbhjhnhgkiiaaDoorRefBit
namespace Go.Proofs.YtggbhjhnhgkiiaaDoor
open Go.ChangeShapes Go.WideShapes Go.ChangeAt Go.RowKit Bt
set_option linter.unusedVariables false

set_option maxHeartbeats 400000 in
theorem refLowest_any (X c : Nat) (w : World) (hX : X < 2 ^ 64) (hc : c ≤ 64) (hoff : ∀ i, i < c → X.testBit i = false) (hon : c < 64 → X.testBit c = true) :
    Calls Tryd.prog 8 #[.int .u64 X] w fun e w' => e = .returned (.int .i64 (c : Nat)) ∧ w = w' := by
  have HOFF := Lib.hid hoff
  have HON := Lib.hid hon
  clear hoff hon
  go_enter Tryd.func8, Tryd.ntmps8
  go_wp2
  go_loop [3] (fun i => ∃ j : Nat, j ≤ c ∧ i = .int .i64 j) (fun i => c - (intOf i).toNat)
  case atStart => exact ⟨0, by omega, rfl⟩
  case round =>
    obtain ⟨j, hj, rfl⟩ := hrel
    by_cases hlt : j < c
    · have HB := Lib.hid (HOFF.out j hlt)
      have h64 : (j : Int) < 64 := by omega
      go_wp2_with fail
      refine (refBit_any X j _ hX (by omega)).mono ?_
      rintro e w' ⟨rfl, rfl⟩
      rw [HB.out]
      go_wp2_with fail
      go_round
      case rel => exact ⟨j + 1, by omega, by go_num⟩
      case measure => simp [intOf]; omega
    · obtain rfl : j = c := by omega
      by_cases h64 : j < 64
      · have HB := Lib.hid (HON.out h64)
        have h64' : (j : Int) < 64 := by omega
        go_wp2_with fail
        refine (refBit_any X j _ hX (by omega)).mono ?_
        rintro e w' ⟨rfl, rfl⟩
        rw [HB.out]
        go_wp2_with fail
        go_ret
        exact ⟨rfl, rfl⟩
      · have h64' : ¬ (j : Int) < 64 := by omega
        go_wp2_with fail
        go_ret
        exact ⟨rfl, rfl⟩

set_option maxHeartbeats 400000 in
theorem refHighest_any (X c : Nat) (w : World) (hX : X < 2 ^ 64) (hc : c ≤ 64) (hoff : ∀ i, c ≤ i → i < 64 → X.testBit i = false) (hon : 0 < c → X.testBit (c - 1) = true) :
    Calls Tryd.prog 10 #[.int .u64 X] w fun e w' => e = .returned (.int .i64 ((c : Nat) - 1)) ∧ w = w' := by
  have HOFF := Lib.hid hoff
  have HON := Lib.hid hon
  clear hoff hon
  go_enter Tryd.func10, Tryd.ntmps10
  go_wp2
  go_loop [3] (fun i => ∃ z : Int, (c : Int) - 1 ≤ z ∧ z ≤ 63 ∧ i = .int .i64 z) (fun i => (intOf i + 1).toNat)
  case atStart => exact ⟨63, by omega, by omega, rfl⟩
  case round =>
    obtain ⟨z, hz, hz', rfl⟩ := hrel
    by_cases hlt : (c : Int) - 1 < z
    · have HB := Lib.hid (HOFF.out z.toNat (by omega) (by omega))
      have h0 : 0 ≤ z := by omega
      go_wp2_with fail
      refine (refBit_int X z _ hX h0 (by omega)).mono ?_
      rintro e w' ⟨rfl, rfl⟩
      rw [HB.out]
      go_wp2_with fail
      go_round
      case rel => exact ⟨z - 1, by omega, by omega, rfl⟩
      case measure => simp [intOf]; omega
    · have e : z = (c : Int) - 1 := by omega
      by_cases h0 : 0 < c
      · have hb := HON.out h0
        have hz0 : 0 ≤ z := by omega
        rw [show c - 1 = z.toNat from by omega] at hb
        have HB := Lib.hid hb
        have HE := Lib.hid e
        clear hb e
        go_wp2_with fail
        refine (refBit_int X z _ hX hz0 (by omega)).mono ?_
        rintro e w' ⟨rfl, rfl⟩
        rw [HB.out]
        go_wp2_with fail
        go_ret
        exact ⟨ret_int HE.out, rfl⟩
      · have hz0 : ¬ 0 ≤ z := by omega
        have HE := Lib.hid e
        clear e
        go_wp2_with fail
        go_ret
        exact ⟨ret_int HE.out, rfl⟩

end Go.Proofs.YtggbhjhnhgkiiaaDoor
