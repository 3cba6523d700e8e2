/- Plain facts: headers of blocks as numbers. No program in sight. -/
import Derived.Test.YtkejpdkokaiidaaCrcMath
namespace Go.Proofs.Ytkejpdkokaiidaa
namespace Bh

/-- May a block have that header? -/
def rightH (k c l : Int) : Bool := decide ((k = 0 ∧ c = 0 ∧ l = 0) ∨ (k = 1 ∧ (0 ≤ c ∧ c < 32) ∧ l = 0) ∨ ((k = 2 ∨ k = 3) ∧ c = 0 ∧ (1 ≤ l ∧ l ≤ 255)))
/-- The number of a header, for small fields. -/
def numN (k c l : Nat) : Nat := k + 4 * c + 256 * l
theorem numN_lt {k c l : Nat} (hk : k < 4) (hc : c < 64) (hl : l < 65536) : numN k c l < 16777216 := by unfold numN; omega
/-- The fields of a right header are natural numbers, and small. -/
theorem right_nat {k c l : Int} (h : rightH k c l = true) : ∃ k' c' l' : Nat, k = k' ∧ c = c' ∧ l = l' ∧ k' < 4 ∧ c' < 32 ∧ l' ≤ 255 := by
  have := of_decide_eq_true h
  exact ⟨k.toNat, c.toNat, l.toNat, by omega, by omega, by omega, by omega, by omega, by omega⟩

theorem wid_of {n : Nat} (h : n ≤ 64) : Bt.wid (n : Int) = n := by unfold Bt.wid; omega

/-- A field that is set in a word with noughts from there on. -/
theorem put_sum (X a k N : Nat) (hX : X < 2 ^ a) (ha : a + k ≤ 64) (ha' : a < 64) (hN : N < 2 ^ k) : Bt.putN X a k N = X + 2 ^ a * N := by
  have hX64 : X < 2 ^ 64 := Nat.lt_of_lt_of_le hX (Nat.pow_le_pow_right (by decide) (by omega))
  have e : X + 2 ^ a * N = N <<< a ||| X := by
    rw [Nat.shiftLeft_eq, Nat.mul_comm N, ← Nat.two_pow_add_eq_or_of_lt hX]; omega
  rw [e]
  apply Nat.eq_of_testBit_eq; intro i
  rw [Bt.bit_putN X a k N (by omega), wid_of (by omega), Nat.testBit_or, Nat.testBit_shiftLeft]
  rw [show ((a : Nat) : Int).toNat = a from by omega]
  by_cases h1 : a ≤ i
  · have hx : X.testBit i = false := Nat.testBit_lt_two_pow (Nat.lt_of_lt_of_le hX (Nat.pow_le_pow_right (by decide) h1))
    by_cases h2 : i - a < k
    · rw [if_pos ⟨h1, h2⟩, hx]; simp [h1]; omega
    · have hn : N.testBit (i - a) = false := Nat.testBit_lt_two_pow (Nat.lt_of_lt_of_le hN (Nat.pow_le_pow_right (by decide) (by omega)))
      rw [if_neg (fun h => h2 h.2), hx, hn]; simp
  · rw [if_neg (fun h => h1 h.1)]; simp [h1]; omega
theorem put0 (k : Nat) (hk : k < 4) : Bt.putN 0 0 2 k = k := by
  have := put_sum 0 0 2 k (by decide) (by decide) (by decide) hk
  simpa using this
theorem put1 (k c : Nat) (hk : k < 4) (hc : c < 64) : Bt.putN k 2 6 c = k + 4 * c := put_sum k 2 6 c hk (by decide) (by decide) hc
theorem put2 (k c l : Nat) (hk : k < 4) (hc : c < 64) (hl : l < 65536) : Bt.putN (k + 4 * c) 8 16 l = numN k c l := by
  have := put_sum (k + 4 * c) 8 16 l (show k + 4 * c < 256 by omega) (by decide) (by decide) hl
  exact this.trans (by unfold numN; omega)
theorem get_of (X a k : Nat) (ha : a + k ≤ 64) (ha' : a < 64) : Bt.getN X a k = X / 2 ^ a % 2 ^ k := by
  unfold Bt.getN
  rw [if_pos (by omega), wid_of (by omega), show ((a : Nat) : Int).toNat = a from by omega]
theorem get0 (X : Nat) : Bt.getN X 0 2 = X % 4 := by
  have := get_of X 0 2 (by decide) (by decide)
  simpa using this
theorem get1 (X : Nat) : Bt.getN X 2 6 = X / 4 % 64 := get_of X 2 6 (by decide) (by decide)
theorem get2 (X : Nat) : Bt.getN X 8 16 = X / 256 % 65536 := get_of X 8 16 (by decide) (by decide)

theorem back0 {k c l : Nat} (hk : k < 4) : numN k c l % 4 = k := by unfold numN; omega
theorem back1 {k c l : Nat} (hk : k < 4) (hc : c < 64) : numN k c l / 4 % 64 = c := by unfold numN; omega
theorem back2 {k c l : Nat} (hk : k < 4) (hc : c < 64) (hl : l < 65536) : numN k c l / 256 % 65536 = l := by unfold numN; omega

/-- The word of a header. -/
def encN (k c l : Int) (p : Nat) : Nat := if rightH k c l then Cr.sealN (numN k.toNat c.toNat l.toNat) p else 0
/-- Of a number the header. -/
def kOf (n : Nat) : Nat := n % 4
def cOf (n : Nat) : Nat := n / 4 % 64
def lOf (n : Nat) : Nat := n / 256 % 65536
theorem kOf_lt (n : Nat) : kOf n < 4 := Nat.mod_lt _ (by decide)
theorem cOf_lt (n : Nat) : cOf n < 64 := Nat.mod_lt _ (by decide)
theorem lOf_lt (n : Nat) : lOf n < 65536 := Nat.mod_lt _ (by decide)
/-- The error's number of a word at a place. -/
def codeN (x p : Nat) : Nat := if Cr.sealN (x % 4294967296) p = x then (if encN (kOf (x % 4294967296)) (cOf (x % 4294967296)) (lOf (x % 4294967296)) p = x then 0 else 26) else 25
def okK (x p : Nat) : Nat := if codeN x p = 0 then kOf (x % 4294967296) else 0
def okC (x p : Nat) : Nat := if codeN x p = 0 then cOf (x % 4294967296) else 0
def okL (x p : Nat) : Nat := if codeN x p = 0 then lOf (x % 4294967296) else 0

theorem encN_lt (k c l : Int) (p : Nat) : encN k c l p < 2 ^ 64 := by
  unfold encN
  split
  · rename_i h
    obtain ⟨k', c', l', rfl, rfl, rfl, h1, h2, h3⟩ := right_nat h
    have := @numN_lt k' c' l' h1 (by omega) (by omega)
    exact Cr.sealN_lt _ _ (by simp; omega)
  · decide
theorem encN_right {k c l : Nat} (p : Nat) (h : rightH k c l = true) : encN k c l p = Cr.sealN (numN k c l) p := by
  unfold encN; rw [if_pos h]; simp
theorem encN_wrong {k c l : Int} (p : Nat) (h : rightH k c l = false) : encN k c l p = 0 := by
  unfold encN; rw [if_neg (by rw [h]; decide)]
/-- What isn't right isn't its word's: the word 0 is the free header's, or none. -/
theorem wrong_ne {x p : Nat} (h : rightH (kOf (x % 4294967296)) (cOf (x % 4294967296)) (lOf (x % 4294967296)) = false) : encN (kOf (x % 4294967296)) (cOf (x % 4294967296)) (lOf (x % 4294967296)) p ≠ x := by
  rw [encN_wrong p h]
  intro e
  subst e
  exact absurd h (by decide)
theorem code_zero {x p : Nat} : codeN x p = 0 ↔ Cr.sealN (x % 4294967296) p = x ∧ encN (kOf (x % 4294967296)) (cOf (x % 4294967296)) (lOf (x % 4294967296)) p = x := by
  unfold codeN
  split
  · split <;> simp_all
  · simp_all
/-- A right header is read from its word. -/
theorem back_all {k c l : Nat} (p : Nat) (h : rightH k c l = true) : codeN (encN k c l p) p = 0 ∧ okK (encN k c l p) p = k ∧ okC (encN k c l p) p = c ∧ okL (encN k c l p) p = l := by
  obtain ⟨k', c', l', e1, e2, e3, h1, h2, h3⟩ := right_nat h
  have e1 : k = k' := by omega
  have e2 : c = c' := by omega
  have e3 : l = l' := by omega
  subst e1 e2 e3
  have hn := @numN_lt k c l h1 (by omega) (by omega)
  have hx : encN k c l p % 4294967296 = numN k c l := by rw [encN_right p h]; exact Cr.sealN_low _ _ (by omega)
  have f1 : kOf (numN k c l) = k := back0 h1
  have f2 : cOf (numN k c l) = c := back1 h1 (by omega)
  have f3 : lOf (numN k c l) = l := back2 h1 (by omega) (by omega)
  have hz : codeN (encN k c l p) p = 0 := by
    rw [code_zero, hx, f1, f2, f3]
    exact ⟨(encN_right p h).symm, rfl⟩
  unfold okK okC okL
  rw [hz, hx, f1, f2, f3]
  simp
/-- What isn't right isn't read. -/
theorem back_none {k c l : Int} (p : Nat) (h : rightH k c l = false) : ¬ (codeN 0 p = 0 ∧ (okK 0 p : Int) = k ∧ (okC 0 p : Int) = c ∧ (okL 0 p : Int) = l) := by
  rintro ⟨h0, h1, h2, h3⟩
  unfold okK at h1
  unfold okC at h2
  unfold okL at h3
  rw [if_pos h0] at h1 h2 h3
  rw [← h1, ← h2, ← h3] at h
  exact absurd h (by decide)

end Bh
end Go.Proofs.Ytkejpdkokaiidaa
