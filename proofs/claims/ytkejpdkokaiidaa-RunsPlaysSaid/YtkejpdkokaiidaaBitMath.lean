/- Plain facts on the bits of natural numbers: fields, counts, turns. No program in sight. -/
import Derived.Laws.ShiftsVarLaws
namespace Go.Proofs.Ytkejpdkokaiidaa
namespace Bt

/-- A width below 0 counts as 0, above 64 as 64. -/
def wid (k : Int) : Nat := min k.toNat 64
/-- A word whose lowest bits are ones. -/
def onesN (k : Int) : Nat := 2 ^ wid k - 1
/-- A field. -/
def getN (X : Nat) (a k : Int) : Nat := if 0 ≤ a ∧ a < 64 then X / 2 ^ a.toNat % 2 ^ wid k else 0
/-- The place of a field, as ones. -/
def fieldN (a : Nat) (k : Int) : Nat := onesN k * 2 ^ a % 2 ^ 64
/-- A word with a field set. -/
def putN (X : Nat) (a k : Int) (N : Nat) : Nat :=
  if 0 ≤ a ∧ a < 64 then (X &&& (2 ^ 64 - 1 - fieldN a.toNat k)) ||| ((N * 2 ^ a.toNat % 2 ^ 64) &&& fieldN a.toNat k) else X
/-- Are no bits from k on set? -/
def fitsB (N : Nat) (k : Int) : Bool := decide (N < 2 ^ wid k)

theorem wid_le (k : Int) : wid k ≤ 64 := Nat.min_le_right _ _
theorem two_pow_pos (n : Nat) : 0 < 2 ^ n := Nat.pow_pos (by decide)
theorem pow_le_64 {n : Nat} (h : n ≤ 64) : 2 ^ n ≤ 2 ^ 64 := Nat.pow_le_pow_right (by decide) h
theorem onesN_lt (k : Int) : onesN k < 2 ^ 64 := by
  have h := pow_le_64 (wid_le k); have := two_pow_pos (wid k); unfold onesN; omega
theorem fieldN_lt (a : Nat) (k : Int) : fieldN a k < 2 ^ 64 := Nat.mod_lt _ (two_pow_pos 64)
theorem getN_lt (X : Nat) (a k : Int) : getN X a k < 2 ^ 64 := by
  unfold getN; split
  · exact Nat.lt_of_lt_of_le (Nat.mod_lt _ (two_pow_pos _)) (pow_le_64 (wid_le k))
  · exact two_pow_pos 64
theorem putN_lt (X : Nat) (a k : Int) (N : Nat) (hX : X < 2 ^ 64) : putN X a k N < 2 ^ 64 := by
  unfold putN; split
  · refine Nat.or_lt_two_pow (Nat.and_lt_two_pow _ (by have := fieldN_lt a.toNat k; omega)) (Nat.and_lt_two_pow _ (fieldN_lt _ _))
  · exact hX

/-! ### What each is, bit by bit -/
theorem bit_hi {X : Nat} (hX : X < 2 ^ 64) {i : Nat} (hi : 64 ≤ i) : X.testBit i = false :=
  Nat.testBit_lt_two_pow (Nat.lt_of_lt_of_le hX (Nat.pow_le_pow_right (by decide) hi))
theorem bit_onesN (k : Int) (i : Nat) : (onesN k).testBit i = decide (i < wid k) := Nat.testBit_two_pow_sub_one _ _
theorem bit_getN (X : Nat) (a k : Int) (h : 0 ≤ a ∧ a < 64) (i : Nat) : (getN X a k).testBit i = (decide (i < wid k) && X.testBit (i + a.toNat)) := by
  unfold getN; rw [if_pos h, Nat.testBit_mod_two_pow, Nat.testBit_div_two_pow]
theorem bit_fieldN (a : Nat) (k : Int) (i : Nat) : (fieldN a k).testBit i = (decide (i < 64) && (decide (a ≤ i) && decide (i - a < wid k))) := by
  unfold fieldN; rw [Nat.testBit_mod_two_pow, Nat.testBit_mul_two_pow, bit_onesN]
theorem bit_putN (X : Nat) (a k : Int) (N : Nat) (h : 0 ≤ a ∧ a < 64) (i : Nat) :
    (putN X a k N).testBit i = (decide (i < 64) && if a.toNat ≤ i ∧ i - a.toNat < wid k then N.testBit (i - a.toNat) else X.testBit i) := by
  unfold putN
  rw [if_pos h, Nat.testBit_or, Nat.testBit_and, Nat.testBit_and, Nat.sub_sub, Nat.add_comm 1, Nat.testBit_two_pow_sub_succ (fieldN_lt _ _), bit_fieldN, Nat.testBit_mod_two_pow, Nat.testBit_mul_two_pow]
  by_cases h1 : i < 64 <;> by_cases h2 : a.toNat ≤ i <;> by_cases h3 : i - a.toNat < wid k <;> simp [h1, h2, h3]

/-! ### A number, one bit more -/
theorem mod_succ (Z i : Nat) : Z % 2 ^ (i + 1) = Z % 2 ^ i + if Z.testBit i then 2 ^ i else 0 := by
  rw [Nat.mod_pow_succ, Nat.testBit_eq_decide_div_mod_eq]
  have := Nat.mod_two_eq_zero_or_one (Z / 2 ^ i)
  rcases this with h | h <;> simp [h]
theorem lt_of_bits_off {Z n : Nat} (h : ∀ i, n ≤ i → Z.testBit i = false) : Z < 2 ^ n := Nat.lt_pow_two_of_testBit Z h

/-- A field that goes beyond the word's end is cut there. -/
theorem getN_cut (X : Nat) (a k : Int) (hX : X < 2 ^ 64) (h : 0 ≤ a ∧ a < 64) : getN X a k = X / 2 ^ a.toNat % 2 ^ min (wid k) (64 - a.toNat) := by
  apply Nat.eq_of_testBit_eq; intro i
  rw [bit_getN X a k h, Nat.testBit_mod_two_pow, Nat.testBit_div_two_pow]
  by_cases h1 : i < 64 - a.toNat
  · have : (i < min (wid k) (64 - a.toNat)) = (i < wid k) := by rw [Nat.lt_min]; simp [h1]
    simp only [this]
  · rw [bit_hi hX (by omega)]; simp

/-! ### The model's words for these -/
theorem wrap_nat (n : Nat) (h : n < 2 ^ 64) : IntKind.u64.wrap (n : Int) = (n : Int) := by
  rw [IntKind.wrap_u64]; omega
theorem wrap_mod (n : Nat) : IntKind.u64.wrap (n : Int) = ((n % 2 ^ 64 : Nat) : Int) := by
  rw [IntKind.wrap_u64]; omega
theorem cast_pow (n : Nat) : (2 : Int) ^ n = ((2 ^ n : Nat) : Int) := by simp
theorem ones_wrap (m : Nat) (k : Int) (hm : max k 0 = (m : Int)) : IntKind.u64.wrap (IntKind.u64.wrap ((2 : Int) ^ min m 64) - 1) = ((onesN k : Nat) : Int) := by
  have e : wid k = min m 64 := by unfold wid; omega
  unfold onesN; rw [e]
  generalize hj : min m 64 = j
  have hj' : j ≤ 64 := by omega
  rw [IntKind.wrap_u64, IntKind.wrap_u64, cast_pow]
  by_cases h : j = 64
  · subst h; decide
  · have h1 : 2 ^ j ≤ 2 ^ 63 := Nat.pow_le_pow_right (by decide) (by omega)
    have h2 := two_pow_pos j
    omega
theorem shl_wrap (N a : Nat) (ha : a < 64) : IntKind.u64.wrap ((N : Int) * 2 ^ min a 64) = ((N * 2 ^ a % 2 ^ 64 : Nat) : Int) := by
  have e : min a 64 = a := by omega
  rw [e, cast_pow, ← Int.natCast_mul, wrap_mod]
theorem shr_nat (N a : Nat) (ha : a < 64) : (N : Int) / 2 ^ min a 64 = ((N / 2 ^ a : Nat) : Int) := by
  have e : min a 64 = a := by omega
  rw [e, cast_pow]; rfl
theorem and_nat (A B : Nat) (hA : A < 2 ^ 64) (hB : B < 2 ^ 64) : bits .and .u64 (A : Int) (B : Int) = ((A &&& B : Nat) : Int) := u64_and_nat A B hA hB
theorem or_nat (A B : Nat) (hA : A < 2 ^ 64) (hB : B < 2 ^ 64) : bits .or .u64 (A : Int) (B : Int) = ((A ||| B : Nat) : Int) := u64_or_nat A B hA hB
theorem andNot_nat (A B : Nat) (hA : A < 2 ^ 64) (hB : B < 2 ^ 64) : bits .andNot .u64 (A : Int) (B : Int) = ((A &&& (2 ^ 64 - 1 - B) : Nat) : Int) := u64_andNot_nat A B hA hB

theorem fits_eq (N : Nat) (k : Int) (hN : N < 2 ^ 64) : (N &&& (2 ^ 64 - 1 - onesN k)) = 0 ↔ N < 2 ^ wid k := by
  constructor
  · intro h
    apply lt_of_bits_off
    intro i hi
    by_cases h64 : i < 64
    · have := congrArg (fun x => x.testBit i) h
      simp only [Nat.testBit_and, Nat.zero_testBit] at this
      rw [Nat.sub_sub, Nat.add_comm 1, Nat.testBit_two_pow_sub_succ (onesN_lt k), bit_onesN] at this
      simpa [h64, Nat.not_lt.2 hi] using this
    · exact bit_hi hN (by omega)
  · intro h
    apply Nat.eq_of_testBit_eq; intro i
    rw [Nat.testBit_and, Nat.zero_testBit, Nat.sub_sub, Nat.add_comm 1, Nat.testBit_two_pow_sub_succ (onesN_lt k), bit_onesN]
    by_cases hi : i < wid k
    · simp [hi]
    · rw [Nat.testBit_lt_two_pow (Nat.lt_of_lt_of_le h (Nat.pow_le_pow_right (by decide) (by omega)))]; rfl

end Bt
end Go.Proofs.Ytkejpdkokaiidaa
