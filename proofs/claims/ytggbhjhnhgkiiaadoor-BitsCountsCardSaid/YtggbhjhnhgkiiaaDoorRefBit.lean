/- The reference: a bit of a word. -/
import Derived.Test.YtggbhjhnhgkiiaaDoorPre
import Derived.Test.YtggbhjhnhgkiiaaDoorBitMath
import Derived.Lib.MinMax
namespace Go.Proofs.YtggbhjhnhgkiiaaDoor
open Go.ChangeShapes Go.WideShapes Go.ChangeAt Go.RowKit Bt
set_option linter.unusedVariables false

theorem half_of (X j : Nat) : X / 2 ^ j / 2 = X / 2 ^ (j + 1) := by rw [Nat.div_div_eq_div_mul, Nat.pow_succ]

theorem bit_val (X i Y : Nat) (h : Y = X / 2 ^ i) : (((Y : Nat) : Int) % 2 == 1) = X.testBit i := by
  rw [Nat.testBit_eq_decide_div_mod_eq, ← h, Bool.eq_iff_iff, beq_iff_eq, decide_eq_true_iff]; omega

set_option maxHeartbeats 400000 in
theorem refBit_any (X i : Nat) (w : World) (hX : X < 2 ^ 64) (hi : i ≤ 1000) :
    Calls Tryd.prog 14 #[.int .u64 X, .int .i64 i] w fun e w' => e = .returned (.bool (X.testBit i)) ∧ w = w' := by
  go_enter Tryd.func14, Tryd.ntmps14
  go_wp2
  go_loop [0, 5] (fun v k => ∃ j Y : Nat, j ≤ i ∧ Hid (Y = X / 2 ^ j) ∧ Y ≤ X ∧ k = .int .i64 j ∧ v = .int .u64 Y) (fun _ k => i - (intOf k).toNat)
  case atStart => exact ⟨0, X, by omega, Lib.hid (by simp), Nat.le_refl _, rfl, rfl⟩
  case round =>
    obtain ⟨j, Y, hj, HY, hY, rfl, rfl⟩ := hrel
    by_cases hlt : j < i
    · go_wp2
      go_round
      case rel => exact ⟨j + 1, Y / 2, by omega, Lib.hid (by rw [HY.out, half_of]), by omega, by go_num, by go_num⟩
      case measure => simp [intOf]; omega
    · go_wp2
      go_ret
      exact ⟨ret_bool (bit_val X i Y (by have := HY.out; rw [show j = i by omega] at this; exact this)), rfl⟩

theorem refBit_int (X : Nat) (i : Int) (w : World) (hX : X < 2 ^ 64) (h0 : 0 ≤ i) (hi : i ≤ 1000) :
    Calls Tryd.prog 14 #[.int .u64 X, .int .i64 i] w fun e w' => e = .returned (.bool (X.testBit i.toNat)) ∧ w = w' := by
  obtain ⟨n, rfl⟩ := Int.eq_ofNat_of_zero_le h0
  exact refBit_any X n w hX (by omega)

end Go.Proofs.YtggbhjhnhgkiiaaDoor
