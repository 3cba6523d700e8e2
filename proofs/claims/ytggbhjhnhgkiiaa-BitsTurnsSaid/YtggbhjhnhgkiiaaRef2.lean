/- Contracts of the reference's Get (no such bit), Put and Fits. -/
import Derived.Test.YtggbhjhnhgkiiaaRef1
namespace Go.Proofs.Ytggbhjhnhgkiiaa
open Go.ChangeShapes Go.WideShapes Go.ChangeAt Go.RowKit Bt
set_option linter.unusedVariables false

set_option maxHeartbeats 400000 in
theorem refGet_out (X : Nat) (a k : Int) (w : World) (ha : ¬ (0 ≤ a ∧ a < 64)) (b1 : -9223372036854775808 ≤ a) (b2 : a ≤ 9223372036854775807) (h1 : -9223372036854775808 ≤ k) (h2 : k ≤ 9223372036854775807) :
    Calls Try.prog 10 #[.int .u64 X, .int .i64 a, .int .i64 k] w fun e w' => e = .returned (.int .u64 0) ∧ w = w' := by
  have hcase : (¬ 0 ≤ a) ∨ (0 ≤ a ∧ ¬ a < 64) := by omega
  clear ha
  go_enter Try.func10, Try.ntmps10
  go_wp2
  go_loop [7, 8] (fun v i => i = .int .i64 0 ∧ v = .int .u64 0) (fun _ i => 0)
  case atStart => exact ⟨rfl, rfl⟩
  case round =>
    obtain ⟨rfl, rfl⟩ := hrel
    by_cases hc : (0 : Int) < min k 64
    · rcases hcase with h | ⟨h, h'⟩
      · go_wp2_with fail
        go_ret
        exact ⟨rfl, rfl⟩
      · go_wp2_with fail
        go_ret
        exact ⟨rfl, rfl⟩
    · rcases hcase with h | ⟨h, h'⟩
      · go_wp2_with fail
        go_ret
        exact ⟨rfl, rfl⟩
      · go_wp2_with fail
        go_ret
        exact ⟨rfl, rfl⟩

theorem refGet_any (X : Nat) (a k : Int) (w : World) (hX : X < 2 ^ 64) (b1 : -9223372036854775808 ≤ a) (b2 : a ≤ 9223372036854775807) (h1 : -9223372036854775808 ≤ k) (h2 : k ≤ 9223372036854775807) :
    Calls Try.prog 10 #[.int .u64 X, .int .i64 a, .int .i64 k] w fun e w' => e = .returned (.int .u64 (getN X a k : Nat)) ∧ w = w' := by
  by_cases ha : 0 ≤ a ∧ a < 64
  · obtain ⟨n, rfl⟩ := Int.eq_ofNat_of_zero_le ha.1
    exact refGet_in X n k w hX (by omega) h1 h2
  · have e : getN X a k = 0 := by unfold getN; rw [if_neg ha]
    rw [e]
    exact refGet_out X a k w ha b1 b2 h1 h2

/-! ### Put -/
theorem bit_put_new (X N : Nat) (a k : Int) (i : Nat) (hi : i < 64) (h0 : 0 ≤ a) (h1 : a ≤ i) (h2 : (i : Int) - a < k) : (putN X a k N).testBit i = N.testBit ((i : Int) - a).toNat := by
  rw [bit_putN X a k N (by omega), if_pos (by unfold wid; omega), decide_eq_true hi, Bool.true_and, show i - a.toNat = ((i : Int) - a).toNat from by omega]
theorem bit_put_old (X N : Nat) (a k : Int) (i : Nat) (hi : i < 64) (h : ¬ (0 ≤ a ∧ a ≤ i ∧ (i : Int) - a < k)) : (putN X a k N).testBit i = X.testBit i := by
  by_cases ha : 0 ≤ a ∧ a < 64
  · rw [bit_putN X a k N ha, if_neg (by unfold wid; omega), decide_eq_true hi, Bool.true_and]
  · unfold putN; rw [if_neg ha]

/-- The end of each round: 'is' is the bit of the result. -/
def IsBit (Z i : Nat) (b : Bool) : Prop := Z.testBit i = b

set_option maxHeartbeats 1000000 in
theorem refPut_any (X N : Nat) (a k : Int) (w : World) (hX : X < 2 ^ 64) (hN : N < 2 ^ 64) (b1 : -9223372036854775808 ≤ a) (b2 : a ≤ 9223372036854775807) (h1 : -9223372036854775808 ≤ k) (h2 : k ≤ 9223372036854775807) :
    Calls Try.prog 12 #[.int .u64 X, .int .i64 a, .int .i64 k, .int .u64 N] w fun e w' => e = .returned (.int .u64 (putN X a k N : Nat)) ∧ w = w' := by
  have hz := putN_lt X a k N hX
  have hnew : ∀ i : Nat, i < 64 → 0 ≤ a → a ≤ i → (i : Int) - a < k → (putN X a k N).testBit i = N.testBit ((i : Int) - a).toNat := fun i hi => bit_put_new X N a k i hi
  have hold : ∀ i : Nat, i < 64 → ¬ (0 ≤ a ∧ a ≤ i ∧ (i : Int) - a < k) → (putN X a k N).testBit i = X.testBit i := fun i hi => bit_put_old X N a k i hi
  have HNEW := Lib.hid hnew
  have HOLD := Lib.hid hold
  clear hnew hold
  generalize putN X a k N = Z at hz HNEW HOLD ⊢
  have HZ := Lib.hid hz
  clear hz
  go_enter Try.func12, Try.ntmps12
  go_wp2
  go_loop [9, 10] (fun v i => ∃ j V : Nat, j ≤ 64 ∧ Hid (V = Z % 2 ^ j) ∧ i = .int .i64 j ∧ v = .int .u64 V) (fun _ i => 64 - (intOf i).toNat)
  case atStart => exact ⟨0, 0, by omega, Lib.hid (by simp [Nat.mod_one]), rfl, rfl⟩
  case round =>
    obtain ⟨j, V, hj, HV, rfl, rfl⟩ := hrel
    by_cases hlt : j < 64
    · have hold := HOLD.out j hlt
      have hnew := HNEW.out j hlt
      by_cases hc : 0 ≤ a ∧ a ≤ j ∧ (j : Int) - a < k
      · obtain ⟨hc0, hc1, hc2⟩ := hc
        have hb := hnew hc0 hc1 hc2
        cases hZ : Z.testBit j
        · rw [hZ] at hb
          have HB := Lib.hid hb
          have HG := Lib.hid (gather_off _ j V HV.out hZ)
          clear hb hold hnew hZ
          go_wp2_with fail
          refine (refBit_int X _ _ hX (by omega) (by omega)).mono ?_
          rintro e w' ⟨rfl, rfl⟩
          go_wp2_with fail
          refine (refBit_int N _ _ hN (by omega) (by omega)).mono ?_
          rintro e w' ⟨rfl, rfl⟩
          rw [← HB.out]
          go_wp2_with fail
          go_round
          case rel => exact ⟨j + 1, V, by omega, Lib.hid HG.out, by go_num, rfl⟩
          case measure => simp [intOf]; omega
        · rw [hZ] at hb
          have hg := gather_on _ j V HV.out hZ
          have hl := gather_lt _ j V (by omega) hg
          have HG := Lib.hid hg
          have HB := Lib.hid hb
          clear hb hg hold hnew hZ
          go_wp2_with fail
          refine (refBit_int X _ _ hX (by omega) (by omega)).mono ?_
          rintro e w' ⟨rfl, rfl⟩
          go_wp2_with fail
          refine (refBit_int N _ _ hN (by omega) (by omega)).mono ?_
          rintro e w' ⟨rfl, rfl⟩
          rw [← HB.out]
          go_wp2_with fail
          refine (refOne_any j _ (by omega)).mono ?_
          rintro e w' ⟨rfl, rfl⟩
          go_wp2_with fail
          go_round
          case rel => exact ⟨j + 1, V + powN j, by omega, Lib.hid HG.out, by go_num, by go_num⟩
          case measure => simp [intOf]; omega
      · have hb := hold hc
        have hcase : (¬ 0 ≤ a) ∨ (0 ≤ a ∧ ¬ a ≤ j) ∨ (0 ≤ a ∧ a ≤ j ∧ ¬ (j : Int) - a < k) := by omega
        clear hc hold hnew
        cases hZ : Z.testBit j
        · rw [hZ] at hb
          have HB := Lib.hid hb
          have HG := Lib.hid (gather_off _ j V HV.out hZ)
          clear hb hZ
          rcases hcase with h | ⟨h, h'⟩ | ⟨h, h', h''⟩
          all_goals
            go_wp2_with fail
            refine (refBit_any X j _ hX (by omega)).mono ?_
            rintro e w' ⟨rfl, rfl⟩
            rw [← HB.out]
            go_wp2_with fail
            go_round
            case rel => exact ⟨j + 1, V, by omega, Lib.hid HG.out, by go_num, rfl⟩
            case measure => simp [intOf]; omega
        · rw [hZ] at hb
          have hg := gather_on _ j V HV.out hZ
          have hl := gather_lt _ j V (by omega) hg
          have HG := Lib.hid hg
          have HB := Lib.hid hb
          clear hb hg hZ
          rcases hcase with h | ⟨h, h'⟩ | ⟨h, h', h''⟩
          all_goals
            go_wp2_with fail
            refine (refBit_any X j _ hX (by omega)).mono ?_
            rintro e w' ⟨rfl, rfl⟩
            rw [← HB.out]
            go_wp2_with fail
            refine (refOne_any j _ (by omega)).mono ?_
            rintro e w' ⟨rfl, rfl⟩
            go_wp2_with fail
            go_round
            case rel => exact ⟨j + 1, V + powN j, by omega, Lib.hid HG.out, by go_num, by go_num⟩
            case measure => simp [intOf]; omega
    · have e : ((V : Nat) : Int) = (Z : Nat) := by rw [HV.out, show j = 64 by omega, Nat.mod_eq_of_lt HZ.out]
      have HE := Lib.hid e
      clear e
      go_wp2_with fail
      go_ret
      exact ⟨ret_int HE.out, rfl⟩

/-! ### Fits -/
set_option maxHeartbeats 400000 in
theorem refFits_any (N : Nat) (k : Int) (w : World) (hN : N < 2 ^ 64) (h1 : -9223372036854775808 ≤ k) (h2 : k ≤ 9223372036854775807) :
    Calls Try.prog 14 #[.int .u64 N, .int .i64 k] w fun e w' => e = .returned (.bool (fitsB N k)) ∧ w = w' := by
  obtain ⟨m, hm⟩ : ∃ m : Nat, max k 0 = (m : Int) := ⟨k.toNat, by omega⟩
  have hm' : wid k = min m 64 := by unfold wid; omega
  have HM := Lib.hid hm'
  clear hm'
  go_enter Try.func14, Try.ntmps14
  go_wp2
  go_loop [5] (fun i => ∃ j : Nat, m ≤ j ∧ (j ≤ 64 ∨ j = m) ∧ Hid (∀ i, m ≤ i → i < j → N.testBit i = false) ∧ i = .int .i64 j) (fun i => 64 - (intOf i).toNat)
  case atStart => exact ⟨m, by omega, by omega, Lib.hid (by intro i h h'; omega), rfl⟩
  case round =>
    obtain ⟨j, hj, hj', HV, rfl⟩ := hrel
    by_cases hlt : j < 64
    · cases hb : N.testBit j
      · have hnext : ∀ i, m ≤ i → i < j + 1 → N.testBit i = false := by
          intro i hi hi'
          by_cases e : i = j
          · rw [e]; exact hb
          · exact HV.out i hi (by omega)
        have HB := Lib.hid hb
        have HN := Lib.hid hnext
        clear hb hnext
        go_wp2_with fail
        refine (refBit_any N j _ hN (by omega)).mono ?_
        rintro e w' ⟨rfl, rfl⟩
        rw [HB.out]
        go_wp2_with fail
        go_round
        case rel => exact ⟨j + 1, by omega, by omega, Lib.hid HN.out, by go_num⟩
        case measure => simp [intOf]; omega
      · have hf : false = fitsB N k := by
          unfold fitsB
          rw [eq_comm, decide_eq_false_iff_not]
          intro h
          rw [Nat.testBit_lt_two_pow (Nat.lt_of_lt_of_le h (Nat.pow_le_pow_right (by decide) (show wid k ≤ j by rw [HM.out]; omega)))] at hb
          cases hb
        have HB := Lib.hid hb
        have HF := Lib.hid hf
        clear hb hf
        go_wp2_with fail
        refine (refBit_any N j _ hN (by omega)).mono ?_
        rintro e w' ⟨rfl, rfl⟩
        rw [HB.out]
        go_wp2_with fail
        go_ret
        exact ⟨ret_bool HF.out, rfl⟩
    · have hf : true = fitsB N k := by
        unfold fitsB
        rw [eq_comm, decide_eq_true_iff, HM.out]
        apply lt_of_bits_off
        intro i hi
        by_cases h : i < 64
        · exact HV.out i (by omega) (by omega)
        · exact bit_hi hN (by omega)
      have HF := Lib.hid hf
      clear hf
      go_wp2_with fail
      go_ret
      exact ⟨ret_bool HF.out, rfl⟩

end Go.Proofs.Ytggbhjhnhgkiiaa
