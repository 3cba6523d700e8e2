/- Contracts of package bits' small functions. -/
import Derived.Test.YtggbhjhnhgkiiaaUp
import Derived.Test.YtggbhjhnhgkiiaaBitMath
import Derived.Lib.MinMax
namespace Go.Proofs.Ytggbhjhnhgkiiaa
open Go.ChangeShapes Go.WideShapes Go.ChangeAt Go.RowKit Bt
set_option linter.unusedVariables false

theorem has_yes (a : Int) (w : World) (h0 : 0 ≤ a) (h1 : a < 64) :
    Calls Try.prog 26 #[.int .i64 a] w fun e w' => e = .returned (.bool true) ∧ w = w' := by
  go_enter Try.func26, Try.ntmps26
  go_wp2
  go_ret
  exact ⟨rfl, rfl⟩

theorem has_no (a : Int) (w : World) (h : ¬ (0 ≤ a ∧ a < 64)) :
    Calls Try.prog 26 #[.int .i64 a] w fun e w' => e = .returned (.bool false) ∧ w = w' := by
  by_cases h0 : 0 ≤ a
  · have h1 : ¬ a < 64 := fun x => h ⟨h0, x⟩
    clear h
    go_enter Try.func26, Try.ntmps26
    go_wp2
    go_ret
    exact ⟨rfl, rfl⟩
  · clear h
    go_enter Try.func26, Try.ntmps26
    go_wp2
    go_ret
    exact ⟨rfl, rfl⟩

theorem ones_any (k : Int) (w : World) (h1 : -9223372036854775808 ≤ k) (h2 : k ≤ 9223372036854775807) :
    Calls Try.prog 27 #[.int .i64 k] w fun e w' => e = .returned (.int .u64 (onesN k : Nat)) ∧ w = w' := by
  obtain ⟨m, hm⟩ : ∃ m : Nat, max k 0 = (m : Int) := ⟨k.toNat, by omega⟩
  have e := ones_wrap m k hm
  have HE := Lib.hid e
  clear e
  go_enter Try.func27, Try.ntmps27
  go_wp2
  go_ret
  exact ⟨ret_int HE.out, rfl⟩

theorem ones_quiet (k : Int) (w : World) (n : Nat) (h1 : -9223372036854775808 ≤ k) (h2 : k ≤ 9223372036854775807) :
    Calls Try.prog 27 #[.int .i64 k] (w.drewN n) fun e w' => e = .returned (.int .u64 (onesN k : Nat)) ∧ w' = w.drewN n :=
  (ones_any k _ h1 h2).mono fun _ _ ⟨he, hw⟩ => ⟨he, hw.symm⟩

theorem getIn_val (X a : Nat) (k : Int) (hX : X < 2 ^ 64) (ha : a < 64) : bits .and .u64 ((X : Int) / 2 ^ a) (onesN k : Nat) = (getN X a k : Nat) := by
  have e := shr_nat X a ha
  rw [show min a 64 = a from by omega] at e
  rw [e, and_nat _ _ (Nat.lt_of_le_of_lt (Nat.div_le_self _ _) hX) (onesN_lt k)]
  unfold onesN getN
  rw [Nat.and_two_pow_sub_one_eq_mod, if_pos (by omega)]; rfl

/-- bits.Get, where there is such a bit. -/
theorem get_in (X : Nat) (a : Nat) (k : Int) (w : World) (hX : X < 2 ^ 64) (ha : a < 64) (h1 : -9223372036854775808 ≤ k) (h2 : k ≤ 9223372036854775807) :
    Calls Try.prog 9 #[.int .u64 X, .int .i64 a, .int .i64 k] w fun e w' => e = .returned (.int .u64 (getN X a k : Nat)) ∧ ∃ n, w' = w.drewN n := by
  have HE := Lib.hid (getIn_val X a k hX ha)
  have ha' : (a : Int) < 64 := by omega
  go_enter Try.func9, Try.ntmps9
  go_wp2_with (go_at_call 26; refine (has_yes _ _ (by omega) ha').mono ?_; rintro e w' ⟨rfl, rfl⟩)
  go_quiet ((go_at_call 27; exact Calls.quiet_of_same (ones_quiet _ _ _ h1 h2)))
  go_wp2
  go_ret
  exact ⟨ret_int HE.out, _, rfl⟩

/-- bits.Get, where there is no such bit. -/
theorem get_out (X a k : Int) (w : World) (ha : ¬ (0 ≤ a ∧ a < 64)) :
    Calls Try.prog 9 #[.int .u64 X, .int .i64 a, .int .i64 k] w fun e w' => e = .returned (.int .u64 0) ∧ w = w' := by
  have HA := Lib.hid ha
  clear ha
  go_enter Try.func9, Try.ntmps9
  go_wp2_with (go_at_call 26; refine (has_no _ _ HA.out).mono ?_; rintro e w' ⟨rfl, rfl⟩)
  go_ret
  exact ⟨rfl, rfl⟩

theorem get_any (X : Nat) (a k : Int) (w : World) (hX : X < 2 ^ 64) (h1 : -9223372036854775808 ≤ k) (h2 : k ≤ 9223372036854775807) :
    Calls Try.prog 9 #[.int .u64 X, .int .i64 a, .int .i64 k] w fun e w' => e = .returned (.int .u64 (getN X a k : Nat)) ∧ ∃ n, w' = w.drewN n := by
  by_cases ha : 0 ≤ a ∧ a < 64
  · obtain ⟨n, rfl⟩ := Int.eq_ofNat_of_zero_le ha.1
    exact get_in X n k w hX (by omega) h1 h2
  · have e : getN X a k = 0 := by unfold getN; rw [if_neg ha]
    rw [e]
    exact (get_out X a k w ha).mono fun _ _ ⟨he, hw⟩ => ⟨he, 0, hw.symm⟩

theorem put_val (X a N : Nat) (k : Int) (hX : X < 2 ^ 64) (ha : a < 64) :
    bits .or .u64 (bits .andNot .u64 (X : Int) (IntKind.u64.wrap ((onesN k : Nat) * 2 ^ a))) (bits .and .u64 (IntKind.u64.wrap ((N : Int) * 2 ^ a)) (IntKind.u64.wrap ((onesN k : Nat) * 2 ^ a))) = (putN X a k N : Nat) := by
  have e1 := shl_wrap (onesN k) a ha
  have e2 := shl_wrap N a ha
  rw [show min a 64 = a from by omega] at e1 e2
  rw [e1, e2]
  have hf := fieldN_lt a k
  unfold fieldN at hf
  rw [andNot_nat _ _ hX hf, and_nat _ _ (Nat.mod_lt _ (two_pow_pos 64)) hf,
    or_nat _ _ (Nat.and_lt_two_pow _ (by omega)) (Nat.and_lt_two_pow _ hf)]
  unfold putN fieldN
  rw [if_pos (by omega)]; rfl

/-- bits.Put, where there is such a bit. -/
theorem put_in (X a N : Nat) (k : Int) (w : World) (hX : X < 2 ^ 64) (ha : a < 64) (h1 : -9223372036854775808 ≤ k) (h2 : k ≤ 9223372036854775807) :
    Calls Try.prog 11 #[.int .u64 X, .int .i64 a, .int .i64 k, .int .u64 N] w fun e w' => e = .returned (.int .u64 (putN X a k N : Nat)) ∧ w = w' := by
  have HE := Lib.hid (put_val X a N k hX ha)
  have ha' : (a : Int) < 64 := by omega
  go_enter Try.func11, Try.ntmps11
  go_wp2_with (first | (go_at_call 26; refine (has_yes _ _ (by omega) ha').mono ?_; rintro e w' ⟨rfl, rfl⟩) | (go_at_call 27; refine (ones_any _ _ h1 h2).mono ?_; rintro e w' ⟨rfl, rfl⟩))
  go_ret
  exact ⟨ret_int HE.out, rfl⟩

/-- bits.Put, where there is no such bit. -/
theorem put_out (X a k N : Int) (w : World) (ha : ¬ (0 ≤ a ∧ a < 64)) :
    Calls Try.prog 11 #[.int .u64 X, .int .i64 a, .int .i64 k, .int .u64 N] w fun e w' => e = .returned (.int .u64 X) ∧ w = w' := by
  have HA := Lib.hid ha
  clear ha
  go_enter Try.func11, Try.ntmps11
  go_wp2_with (go_at_call 26; refine (has_no _ _ HA.out).mono ?_; rintro e w' ⟨rfl, rfl⟩)
  go_ret
  exact ⟨rfl, rfl⟩

theorem put_any (X N : Nat) (a k : Int) (w : World) (hX : X < 2 ^ 64) (h1 : -9223372036854775808 ≤ k) (h2 : k ≤ 9223372036854775807) :
    Calls Try.prog 11 #[.int .u64 X, .int .i64 a, .int .i64 k, .int .u64 N] w fun e w' => e = .returned (.int .u64 (putN X a k N : Nat)) ∧ w = w' := by
  by_cases ha : 0 ≤ a ∧ a < 64
  · obtain ⟨n, rfl⟩ := Int.eq_ofNat_of_zero_le ha.1
    exact put_in X n N k w hX (by omega) h1 h2
  · have e : putN X a k N = X := by unfold putN; rw [if_neg ha]
    rw [e]
    exact put_out X a k N w ha

theorem fits_val (N : Nat) (k : Int) (hN : N < 2 ^ 64) : (bits .andNot .u64 (N : Int) (onesN k : Nat) == 0) = fitsB N k := by
  rw [andNot_nat _ _ hN (onesN_lt k)]
  have := fits_eq N k hN
  unfold fitsB
  rw [Bool.eq_iff_iff, beq_iff_eq, decide_eq_true_iff, ← this]
  omega

/-- bits.Fits. -/
theorem fits_any (N : Nat) (k : Int) (w : World) (hN : N < 2 ^ 64) (h1 : -9223372036854775808 ≤ k) (h2 : k ≤ 9223372036854775807) :
    Calls Try.prog 13 #[.int .u64 N, .int .i64 k] w fun e w' => e = .returned (.bool (fitsB N k)) ∧ w = w' := by
  have HE := Lib.hid (fits_val N k hN)
  go_enter Try.func13, Try.ntmps13
  go_wp2_with ((go_at_call 27; refine (ones_any _ _ h1 h2).mono ?_; rintro e w' ⟨rfl, rfl⟩))
  go_ret
  exact ⟨ret_bool HE.out, rfl⟩

/-- The page's examples. -/
theorem awake_yes (w : World) : Calls Try.prog 8 #[] w fun e w' => e = .returned (.bool true) ∧ ∃ n, w' = w.drewN n := by
  go_enter Try.func8, Try.ntmps8
  go_wp2_with fail
  refine (get_any 43981 4 8 _ (by decide) (by decide) (by decide)).mono ?_
  rintro e w' ⟨rfl, n, rfl⟩
  rw [show getN 43981 4 8 = 188 from by decide]
  go_wp2_with fail
  refine (up_any 9 8 _ (by decide) (by decide)).mono ?_
  rintro e w' ⟨rfl, rfl⟩
  rw [show upS 9 8 = 2 from by decide]
  go_wp2_with fail
  go_ret
  exact ⟨rfl, _, rfl⟩

end Go.Proofs.Ytggbhjhnhgkiiaa
