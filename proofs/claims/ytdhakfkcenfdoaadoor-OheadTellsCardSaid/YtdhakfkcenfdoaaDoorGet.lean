/- bits.Get. -/
import Derived.Test.YtdhakfkcenfdoaaDoorHas
namespace Go.Proofs.YtdhakfkcenfdoaaDoor
open Go.ChangeShapes Go.WideShapes Go.ChangeAt Go.RowKit Bt
set_option linter.unusedVariables false

theorem getIn_val (X a : Nat) (k : Int) (hX : X < 2 ^ 64) (ha : a < 64) : bits .and .u64 ((X : Int) / 2 ^ a) (onesN k : Nat) = (getN X a k : Nat) := by
  have e := shr_nat X a ha
  rw [show min a 64 = a from by omega] at e
  rw [e, and_nat _ _ (Nat.lt_of_le_of_lt (Nat.div_le_self _ _) hX) (onesN_lt k)]
  unfold onesN getN
  rw [Nat.and_two_pow_sub_one_eq_mod, if_pos (by omega)]; rfl

/-- bits.Get, where there is such a bit. -/
theorem get_in (X : Nat) (a : Nat) (k : Int) (w : World) (hX : X < 2 ^ 64) (ha : a < 64) (h1 : -9223372036854775808 ≤ k) (h2 : k ≤ 9223372036854775807) :
    Calls Tryd.prog 33 #[.int .u64 X, .int .i64 a, .int .i64 k] w fun e w' => e = .returned (.int .u64 (getN X a k : Nat)) ∧ ∃ n, w' = w.drewN n := by
  have HE := Lib.hid (getIn_val X a k hX ha)
  have ha' : (a : Int) < 64 := by omega
  go_enter Tryd.func33, Tryd.ntmps33
  go_wp2_with (go_at_call 40; refine (has_yes _ _ (by omega) ha').mono ?_; rintro e w' ⟨rfl, rfl⟩)
  go_quiet ((go_at_call 41; exact Calls.quiet_of_same (ones_quiet _ _ _ h1 h2)))
  go_wp2
  go_ret
  exact ⟨ret_int HE.out, _, rfl⟩

/-- bits.Get, where there is no such bit. -/
theorem get_out (X a k : Int) (w : World) (ha : ¬ (0 ≤ a ∧ a < 64)) :
    Calls Tryd.prog 33 #[.int .u64 X, .int .i64 a, .int .i64 k] w fun e w' => e = .returned (.int .u64 0) ∧ w = w' := by
  have HA := Lib.hid ha
  clear ha
  go_enter Tryd.func33, Tryd.ntmps33
  go_wp2_with (go_at_call 40; refine (has_no _ _ HA.out).mono ?_; rintro e w' ⟨rfl, rfl⟩)
  go_ret
  exact ⟨rfl, rfl⟩

theorem get_any (X : Nat) (a k : Int) (w : World) (hX : X < 2 ^ 64) (h1 : -9223372036854775808 ≤ k) (h2 : k ≤ 9223372036854775807) :
    Calls Tryd.prog 33 #[.int .u64 X, .int .i64 a, .int .i64 k] w fun e w' => e = .returned (.int .u64 (getN X a k : Nat)) ∧ ∃ n, w' = w.drewN n := by
  by_cases ha : 0 ≤ a ∧ a < 64
  · obtain ⟨n, rfl⟩ := Int.eq_ofNat_of_zero_le ha.1
    exact get_in X n k w hX (by omega) h1 h2
  · have e : getN X a k = 0 := by unfold getN; rw [if_neg ha]
    rw [e]
    exact (get_out X a k w ha).mono fun _ _ ⟨he, hw⟩ => ⟨he, 0, hw.symm⟩

end Go.Proofs.YtdhakfkcenfdoaaDoor
