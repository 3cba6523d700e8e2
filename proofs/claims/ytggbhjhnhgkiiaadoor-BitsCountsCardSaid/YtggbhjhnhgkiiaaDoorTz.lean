/- math/bits.TrailingZeros64 and bits.Lowest. The table's cells are a premise. -/
import Derived.Test.YtggbhjhnhgkiiaaDoorPre
import Derived.Test.YtggbhjhnhgkiiaaDoorCountMath
import Derived.Lib.TrailingZeros
namespace Go.Proofs.YtggbhjhnhgkiiaaDoor
open Go.ChangeShapes Go.WideShapes Go.ChangeAt Go.RowKit Bt
set_option linter.unusedVariables false

/-- The library's table lies in the world. -/
def HasTab (w : World) : Prop := ∀ i, i < 64 → w.cell? ⟨0, i, none⟩ = some (.int .u8 ((Lib.deBruijn64tab.getD i 0 : Nat) : Int))
theorem HasTab.drewN {w : World} (h : HasTab w) (n : Nat) : HasTab (w.drewN n) := h

set_option maxHeartbeats 400000 in
theorem tz_core (x k idx : Nat) (w : World) (hx0 : ((x : Int) == 0) = false)
    (key : IntKind.u64.wrap (bits .and .u64 (x : Int) (IntKind.u64.wrap (-(x : Int))) * 285870213051353865) / 288230376151711744 = (idx : Int))
    (hi : idx < 64) (hk : k < 64) (hcell : w.cell? ⟨0, idx, none⟩ = some (.int .u8 k)) :
    Calls Tryd.prog 15 #[.int .u64 x] w fun e w' => e = .returned (.int .i64 k) ∧ w = w' := by
  go_enter Tryd.func15, Tryd.ntmps15
  go_wp2_with (simp only [key])
  go_ret
  exact ⟨rfl, rfl⟩

theorem tz_zero (w : World) : Calls Tryd.prog 15 #[.int .u64 0] w fun e w' => e = .returned (.int .i64 64) ∧ w = w' := by
  go_enter Tryd.func15, Tryd.ntmps15
  go_wp2
  go_ret
  exact ⟨rfl, rfl⟩

theorem tz_key (x a : Nat) (hx : x < 2 ^ 64) (hx0 : x ≠ 0) (hlow : x &&& (2 ^ 64 - x) = a) :
    IntKind.u64.wrap (bits .and .u64 (x : Int) (IntKind.u64.wrap (-(x : Int))) * 285870213051353865) / 288230376151711744 = ((a * 285870213051353865 % 18446744073709551616 / 288230376151711744 : Nat) : Int) := by
  have e1 : IntKind.u64.wrap (-(x : Int)) = ((2 ^ 64 - x : Nat) : Int) := by rw [IntKind.wrap_u64]; omega
  rw [e1, and_nat x _ hx (by omega), hlow, IntKind.wrap_u64]
  omega

theorem tz_any (X : Nat) (w : World) (hX : X < 2 ^ 64) (hT : HasTab w) :
    Calls Tryd.prog 15 #[.int .u64 X] w fun e w' => e = .returned (.int .i64 (Lib.ctz 64 X : Nat)) ∧ w = w' := by
  by_cases hx0 : X = 0
  · subst hx0
    exact tz_zero w
  · obtain ⟨hlow, hk⟩ := Lib.lowest_bit 64 X hx0 hX
    obtain ⟨hi, htab⟩ := Lib.deBruijn64_at _ hk
    have hcell := hT _ hi
    rw [htab] at hcell
    exact tz_core X _ _ w (by simp; omega) (tz_key X _ hX hx0 hlow) hi hk hcell

theorem lowest_any (X : Nat) (w : World) (hX : X < 2 ^ 64) (hT : HasTab w) :
    Calls Tryd.prog 7 #[.int .u64 X] w fun e w' => e = .returned (.int .i64 (Lib.ctz 64 X : Nat)) ∧ w = w' := by
  have HT := Lib.hid hT
  clear hT
  go_enter Tryd.func7, Tryd.ntmps7
  go_wp2_with fail
  refine (tz_any X _ hX HT.out).mono ?_
  rintro e w' ⟨rfl, rfl⟩
  go_wp2_with fail
  go_ret
  exact ⟨rfl, rfl⟩

/-- Where the lowest one stands: no one below it, and it is one; 64 without one. -/
theorem ctz_le (X : Nat) (hX : X < 2 ^ 64) : Lib.ctz 64 X ≤ 64 := by
  by_cases h : X = 0
  · subst h; decide
  · exact Nat.le_of_lt (Lib.lowest_bit 64 X h hX).2
theorem ctz_off (X : Nat) (hX : X < 2 ^ 64) (i : Nat) (hi : i < Lib.ctz 64 X) : X.testBit i = false := by
  by_cases h : X = 0
  · subst h; simp
  · obtain ⟨m, hm, _⟩ := Lib.ctzFrom_spec 64 X (by omega) hX
    have e : Lib.ctz 64 X = Lib.ctzFrom 64 X := by simp [Lib.ctz, h]
    rw [← e] at hm
    rw [hm, Nat.mul_comm, Nat.testBit_mul_two_pow]
    simp [Nat.not_le.2 hi]
theorem ctz_on (X : Nat) (hX : X < 2 ^ 64) (h : Lib.ctz 64 X < 64) : X.testBit (Lib.ctz 64 X) = true := by
  by_cases h0 : X = 0
  · subst h0; revert h; decide
  · obtain ⟨m, hm, _⟩ := Lib.ctzFrom_spec 64 X (by omega) hX
    have e : Lib.ctz 64 X = Lib.ctzFrom 64 X := by simp [Lib.ctz, h0]
    rw [← e] at hm
    generalize Lib.ctz 64 X = c at hm
    rw [hm, Nat.mul_comm, Nat.testBit_mul_two_pow]
    simp [Nat.testBit_zero]

end Go.Proofs.YtggbhjhnhgkiiaaDoor
