/- Contracts of the reference's functions for bits: bit by bit. -/
import Derived.Test.YtggbhjhnhgkiiaaOnes
namespace Go.Proofs.Ytggbhjhnhgkiiaa
open Go.ChangeShapes Go.WideShapes Go.ChangeAt Go.RowKit Bt
set_option linter.unusedVariables false

theorem half_of (X j : Nat) : X / 2 ^ j / 2 = X / 2 ^ (j + 1) := by rw [Nat.div_div_eq_div_mul, Nat.pow_succ]

theorem bit_val (X i Y : Nat) (h : Y = X / 2 ^ i) : (((Y : Nat) : Int) % 2 == 1) = X.testBit i := by
  rw [Nat.testBit_eq_decide_div_mod_eq, ← h, Bool.eq_iff_iff, beq_iff_eq, decide_eq_true_iff]; omega

set_option maxHeartbeats 400000 in
theorem refBit_any (X i : Nat) (w : World) (hX : X < 2 ^ 64) (hi : i ≤ 1000) :
    Calls Try.prog 28 #[.int .u64 X, .int .i64 i] w fun e w' => e = .returned (.bool (X.testBit i)) ∧ w = w' := by
  go_enter Try.func28, Try.ntmps28
  go_wp2
  go_loop [0, 5] (fun v k => ∃ j Y : Nat, j ≤ i ∧ Hid (Y = X / 2 ^ j) ∧ Y ≤ X ∧ k = .int .i64 j ∧ v = .int .u64 Y) (fun _ k => i - (intOf k).toNat)
  case atStart => exact ⟨0, X, by omega, Lib.hid (by simp), Nat.le_refl _, rfl, rfl⟩
  case round =>
    obtain ⟨j, Y, hj, HY, hY, rfl, rfl⟩ := hrel
    by_cases hlt : j < i
    · go_wp2
      go_round
      case rel => exact ⟨j + 1, Y / 2, by omega, Lib.hid (by rw [HY.out, half_of]), by omega, by go_num, by go_num⟩
      case measure => simp [intOf]; omega
    · go_wp2
      go_ret
      exact ⟨ret_bool (bit_val X i Y (by have := HY.out; rw [show j = i by omega] at this; exact this)), rfl⟩

theorem refBit_int (X : Nat) (i : Int) (w : World) (hX : X < 2 ^ 64) (h0 : 0 ≤ i) (hi : i ≤ 1000) :
    Calls Try.prog 28 #[.int .u64 X, .int .i64 i] w fun e w' => e = .returned (.bool (X.testBit i.toNat)) ∧ w = w' := by
  obtain ⟨n, rfl⟩ := Int.eq_ofNat_of_zero_le h0
  exact refBit_any X n w hX (by omega)

/-- A power of two, closed to the walk. -/
def powN (i : Nat) : Nat := 2 ^ i
theorem powN_le (i : Nat) (h : i < 64) : powN i ≤ 9223372036854775808 := Nat.pow_le_pow_right (by decide : 0 < 2) (show i ≤ 63 by omega)

set_option maxHeartbeats 400000 in
theorem refOne_any (i : Nat) (w : World) (hi : i < 64) :
    Calls Try.prog 29 #[.int .i64 i] w fun e w' => e = .returned (.int .u64 (powN i : Nat)) ∧ w = w' := by
  go_enter Try.func29, Try.ntmps29
  go_wp2
  go_loop [3, 4] (fun v k => ∃ j Y : Nat, j ≤ i ∧ Hid (Y = 2 ^ j) ∧ Y ≤ 9223372036854775808 ∧ k = .int .i64 j ∧ v = .int .u64 Y) (fun _ k => i - (intOf k).toNat)
  case atStart => exact ⟨0, 1, by omega, Lib.hid (by simp), by decide, rfl, rfl⟩
  case round =>
    obtain ⟨j, Y, hj, HY, hY, rfl, rfl⟩ := hrel
    by_cases hlt : j < i
    · have h63 : Y * 2 ≤ 9223372036854775808 := by
        rw [HY.out, ← Nat.pow_succ]
        exact Nat.pow_le_pow_right (by decide : 0 < 2) (show j + 1 ≤ 63 by omega)
      go_wp2
      go_round
      case rel => exact ⟨j + 1, Y * 2, by omega, Lib.hid (by rw [HY.out, Nat.pow_succ]), h63, by go_num, by go_num⟩
      case measure => simp [intOf]; omega
    · go_wp2
      go_ret
      have e : ((Y : Nat) : Int) = (powN i : Nat) := by rw [HY.out, show j = i by omega]; rfl
      exact ⟨ret_int e, rfl⟩

/-! ### A field, gathered bit by bit -/
theorem gather_on (Z i V : Nat) (hV : V = Z % 2 ^ i) (h : Z.testBit i = true) : V + powN i = Z % 2 ^ (i + 1) := by rw [mod_succ, hV, h]; rfl
theorem gather_off (Z i V : Nat) (hV : V = Z % 2 ^ i) (h : Z.testBit i = false) : V = Z % 2 ^ (i + 1) := by rw [mod_succ, hV, h]; rfl
theorem gather_lt (Z i V : Nat) (hi : i < 64) (h : V + powN i = Z % 2 ^ (i + 1)) : V + powN i ≤ 18446744073709551615 := by
  rw [h]
  have := Nat.mod_lt Z (two_pow_pos (i + 1))
  have := pow_le_64 (show i + 1 ≤ 64 by omega)
  omega

set_option maxHeartbeats 1000000 in
theorem refGet_in (X a : Nat) (k : Int) (w : World) (hX : X < 2 ^ 64) (ha : a < 64) (h1 : -9223372036854775808 ≤ k) (h2 : k ≤ 9223372036854775807) :
    Calls Try.prog 10 #[.int .u64 X, .int .i64 a, .int .i64 k] w fun e w' => e = .returned (.int .u64 (getN X a k : Nat)) ∧ w = w' := by
  have hfin : getN X a k = X / 2 ^ a % 2 ^ min (wid k) (64 - a) := getN_cut X a k hX (by omega)
  obtain ⟨m, hm⟩ : ∃ m : Nat, m = min (wid k) (64 - a) := ⟨_, rfl⟩
  rw [← hm] at hfin
  have hm1 : m ≤ 64 := by omega
  have hm2 : m ≤ 64 - a := by omega
  have hm3 : ∀ j : Nat, j < m → (j : Int) < k := by intro j hj; unfold wid at hm; omega
  have hm4 : ∀ j : Nat, ¬ j < m → ¬ (j : Int) < min k 64 ∨ ¬ (j : Int) < 64 - a := by intro j hj; unfold wid at hm; omega
  have ha' : (a : Int) < 64 := by omega
  have HF := Lib.hid hfin
  have HM3 := Lib.hid hm3
  have HM4 := Lib.hid hm4
  clear hfin hm3 hm4 hm
  go_enter Try.func10, Try.ntmps10
  go_wp2
  go_loop [7, 8] (fun v i => ∃ j V : Nat, j ≤ m ∧ Hid (V = X / 2 ^ a % 2 ^ j) ∧ i = .int .i64 j ∧ v = .int .u64 V) (fun _ i => m - (intOf i).toNat)
  case atStart => exact ⟨0, 0, by omega, Lib.hid (by simp [Nat.mod_one]), rfl, rfl⟩
  case round =>
    obtain ⟨j, V, hj, HV, rfl, rfl⟩ := hrel
    by_cases hlt : j < m
    · have hk := HM3.out j hlt
      have hc1 : (j : Int) < min k 64 := by omega
      have hc2 : (j : Int) < 64 - a := by omega
      have eb : (X / 2 ^ a).testBit j = X.testBit (a + j) := by rw [Nat.testBit_div_two_pow, Nat.add_comm]
      have ei : ((a : Int) + j).toNat = a + j := by omega
      have HEI := Lib.hid ei
      clear ei
      by_cases hb : X.testBit (a + j) = true
      · have hg := gather_on _ j V HV.out (eb.trans hb)
        have hl := gather_lt _ j V (by omega) hg
        have HG := Lib.hid hg
        clear hg eb
        go_wp2_with fail
        refine (refBit_int X _ _ hX (by omega) (by omega)).mono ?_
        rintro e w' ⟨rfl, rfl⟩
        rw [HEI.out]
        go_wp2_with fail
        refine (refOne_any j _ (by omega)).mono ?_
        rintro e w' ⟨rfl, rfl⟩
        go_wp2_with fail
        go_round
        case rel => exact ⟨j + 1, V + powN j, by omega, Lib.hid HG.out, by go_num, by go_num⟩
        case measure => simp [intOf]; omega
      · have hb' : X.testBit (a + j) = false := by simpa using hb
        have HG := Lib.hid (gather_off _ j V HV.out (eb.trans hb'))
        clear hb eb
        go_wp2_with fail
        refine (refBit_int X _ _ hX (by omega) (by omega)).mono ?_
        rintro e w' ⟨rfl, rfl⟩
        rw [HEI.out]
        go_wp2_with fail
        go_round
        case rel => exact ⟨j + 1, V, by omega, Lib.hid HG.out, by go_num, rfl⟩
        case measure => simp [intOf]; omega
    · have e : ((V : Nat) : Int) = (getN X a k : Nat) := by rw [HV.out, HF.out, show j = m by omega]
      have HE := Lib.hid e
      have hc := HM4.out j hlt
      clear e
      rcases hc with hc | hc
      · go_wp2_with fail
        go_ret
        exact ⟨ret_int HE.out, rfl⟩
      · by_cases hc' : (j : Int) < min k 64
        · go_wp2_with fail
          go_ret
          exact ⟨ret_int HE.out, rfl⟩
        · go_wp2_with fail
          go_ret
          exact ⟨ret_int HE.out, rfl⟩

end Go.Proofs.Ytggbhjhnhgkiiaa
