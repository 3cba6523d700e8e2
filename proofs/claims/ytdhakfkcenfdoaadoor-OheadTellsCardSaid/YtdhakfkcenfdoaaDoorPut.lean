/- bits.Put. -/
import Derived.Test.YtdhakfkcenfdoaaDoorHas
namespace Go.Proofs.YtdhakfkcenfdoaaDoor
open Go.ChangeShapes Go.WideShapes Go.ChangeAt Go.RowKit Bt
set_option linter.unusedVariables false

theorem put_val (X a N : Nat) (k : Int) (hX : X < 2 ^ 64) (ha : a < 64) :
    bits .or .u64 (bits .andNot .u64 (X : Int) (IntKind.u64.wrap ((onesN k : Nat) * 2 ^ a))) (bits .and .u64 (IntKind.u64.wrap ((N : Int) * 2 ^ a)) (IntKind.u64.wrap ((onesN k : Nat) * 2 ^ a))) = (putN X a k N : Nat) := by
  have e1 := shl_wrap (onesN k) a ha
  have e2 := shl_wrap N a ha
  rw [show min a 64 = a from by omega] at e1 e2
  rw [e1, e2]
  have hf := fieldN_lt a k
  unfold fieldN at hf
  rw [andNot_nat _ _ hX hf, and_nat _ _ (Nat.mod_lt _ (two_pow_pos 64)) hf,
    or_nat _ _ (Nat.and_lt_two_pow _ (by omega)) (Nat.and_lt_two_pow _ hf)]
  unfold putN fieldN
  rw [if_pos (by omega)]; rfl

/-- bits.Put, where there is such a bit. -/
theorem put_in (X a N : Nat) (k : Int) (w : World) (hX : X < 2 ^ 64) (ha : a < 64) (h1 : -9223372036854775808 ≤ k) (h2 : k ≤ 9223372036854775807) :
    Calls Tryd.prog 35 #[.int .u64 X, .int .i64 a, .int .i64 k, .int .u64 N] w fun e w' => e = .returned (.int .u64 (putN X a k N : Nat)) ∧ w = w' := by
  have HE := Lib.hid (put_val X a N k hX ha)
  have ha' : (a : Int) < 64 := by omega
  go_enter Tryd.func35, Tryd.ntmps35
  go_wp2_with (first | (go_at_call 40; refine (has_yes _ _ (by omega) ha').mono ?_; rintro e w' ⟨rfl, rfl⟩) | (go_at_call 41; refine (ones_any _ _ h1 h2).mono ?_; rintro e w' ⟨rfl, rfl⟩))
  go_ret
  exact ⟨ret_int HE.out, rfl⟩

/-- bits.Put, where there is no such bit. -/
theorem put_out (X a k N : Int) (w : World) (ha : ¬ (0 ≤ a ∧ a < 64)) :
    Calls Tryd.prog 35 #[.int .u64 X, .int .i64 a, .int .i64 k, .int .u64 N] w fun e w' => e = .returned (.int .u64 X) ∧ w = w' := by
  have HA := Lib.hid ha
  clear ha
  go_enter Tryd.func35, Tryd.ntmps35
  go_wp2_with (go_at_call 40; refine (has_no _ _ HA.out).mono ?_; rintro e w' ⟨rfl, rfl⟩)
  go_ret
  exact ⟨rfl, rfl⟩

theorem put_any (X N : Nat) (a k : Int) (w : World) (hX : X < 2 ^ 64) (h1 : -9223372036854775808 ≤ k) (h2 : k ≤ 9223372036854775807) :
    Calls Tryd.prog 35 #[.int .u64 X, .int .i64 a, .int .i64 k, .int .u64 N] w fun e w' => e = .returned (.int .u64 (putN X a k N : Nat)) ∧ w = w' := by
  by_cases ha : 0 ≤ a ∧ a < 64
  · obtain ⟨n, rfl⟩ := Int.eq_ofNat_of_zero_le ha.1
    exact put_in X n N k w hX (by omega) h1 h2
  · have e : putN X a k N = X := by unfold putN; rw [if_neg ha]
    rw [e]
    exact put_out X a k N w ha

end Go.Proofs.YtdhakfkcenfdoaaDoor
