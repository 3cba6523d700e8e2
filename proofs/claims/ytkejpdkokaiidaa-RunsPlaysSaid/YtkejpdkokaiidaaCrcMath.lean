/- Plain facts: the remainder of bytes, bit by bit and by a table of sixteen. No program in sight. -/
import Derived.Test.YtkejpdkokaiidaaByteMath
import Derived.Laws.BitsAllLaws
namespace Go.Proofs.Ytkejpdkokaiidaa
namespace Cr

/-- One bit halved out. -/
def st (r : Nat) : Nat := (r / 2) ^^^ (r % 2 * 3988292384)
def stN : Nat → Nat → Nat
  | 0, r => r
  | k + 1, r => st (stN k r)
theorem stN_add (a : Nat) : ∀ b r, stN (a + b) r = stN b (stN a r)
  | 0, r => rfl
  | b + 1, r => by rw [← Nat.add_assoc]; simp only [stN]; rw [stN_add a b r]
theorem xor_half (a b : Nat) : (a ^^^ b) / 2 = (a / 2) ^^^ (b / 2) := Nat.xor_div_two_pow (n := 1)
theorem xor_low (a b : Nat) : (a ^^^ b) % 2 = (a % 2) ^^^ (b % 2) := Nat.xor_mod_two_pow (n := 1)
theorem xor_mul01 (x y c : Nat) (hx : x < 2) (hy : y < 2) : (x ^^^ y) * c = (x * c) ^^^ (y * c) := by
  have e1 : x = 0 ∨ x = 1 := by omega
  have e2 : y = 0 ∨ y = 1 := by omega
  rcases e1 with rfl | rfl <;> rcases e2 with rfl | rfl <;> simp
theorem st_xor (a b : Nat) : st (a ^^^ b) = st a ^^^ st b := by
  unfold st
  rw [xor_half, xor_low, xor_mul01 _ _ _ (by omega) (by omega)]
  simp only [Nat.xor_assoc]
  congr 1
  rw [← Nat.xor_assoc, ← Nat.xor_assoc, Nat.xor_comm (b / 2)]
theorem stN_xor : ∀ k a b, stN k (a ^^^ b) = stN k a ^^^ stN k b
  | 0, _, _ => rfl
  | k + 1, a, b => by simp only [stN]; rw [stN_xor k a b, st_xor]
theorem st_even (q : Nat) : st (2 * q) = q := by
  unfold st
  rw [show 2 * q / 2 = q by omega, show 2 * q % 2 = 0 by omega]; simp

def tab : List Nat := [0, 498536548, 997073096, 651767980, 1994146192, 1802195444, 1303535960, 1342533948, 3988292384, 4027552580, 3604390888, 3412177804, 2607071920, 2262029012, 2685067896, 3183342108]
/-- Four bits halved out at once. -/
def halfN (r : Nat) : Nat := (r / 16) ^^^ tab.getD (r % 16) 0
theorem tab_is : ∀ d, d < 16 → stN 4 d = tab.getD d 0 := by decide +kernel
theorem tab_lt : ∀ d, d < 16 → tab.getD d 0 < 4294967296 := by decide +kernel
theorem split16 (r : Nat) : r = (16 * (r / 16)) ^^^ (r % 16) := by
  have h := Nat.mod_add_div r 16
  apply Nat.eq_of_testBit_eq; intro i
  rw [Nat.testBit_xor, show 16 = 2 ^ 4 from rfl, Nat.testBit_mod_two_pow, Nat.testBit_two_pow_mul, Nat.testBit_div_two_pow]
  by_cases hi : i < 4
  · simp [hi, Nat.not_le.2 hi]
  · simp [hi, Nat.not_lt.1 hi]
theorem half_is (r : Nat) : halfN r = stN 4 r := by
  conv => rhs; rw [split16 r]
  rw [stN_xor, tab_is _ (Nat.mod_lt _ (by decide))]
  unfold halfN
  congr 1
  simp only [stN]
  rw [show 16 * (r / 16) = 2 * (2 * (2 * (2 * (r / 16)))) by omega]
  simp only [st_even]
theorem xor_lt32 {a b : Nat} (ha : a < 4294967296) (hb : b < 4294967296) : a ^^^ b < 4294967296 := Nat.xor_lt_two_pow (n := 32) ha hb
theorem st_lt (r : Nat) (h : r < 4294967296) : st r < 4294967296 := by
  unfold st
  refine xor_lt32 (by omega) ?_
  have : r % 2 < 2 := by omega
  have e : r % 2 = 0 ∨ r % 2 = 1 := by omega
  rcases e with e | e <;> rw [e] <;> decide
theorem stN_lt : ∀ k r, r < 4294967296 → stN k r < 4294967296
  | 0, _, h => h
  | k + 1, r, h => st_lt _ (stN_lt k r h)
theorem half_lt (r : Nat) (h : r < 4294967296) : halfN r < 4294967296 := by rw [half_is]; exact stN_lt 4 r h

/-- One byte more. -/
def byteC (r b : Nat) : Nat := stN 8 (r ^^^ b)
theorem half_half (r : Nat) : halfN (halfN r) = stN 8 r := by rw [half_is, half_is, ← stN_add]
theorem byteC_lt (r b : Nat) (hr : r < 4294967296) (hb : b < 256) : byteC r b < 4294967296 := stN_lt 8 _ (xor_lt32 hr (by omega))
/-- What stands behind so many bytes. -/
def foldC (r : Nat) (ds : List Nat) : Nat := ds.foldl byteC r
theorem foldC_lt : ∀ (ds : List Nat) (r : Nat), r < 4294967296 → (∀ b ∈ ds, b < 256) → foldC r ds < 4294967296
  | [], _, h, _ => h
  | b :: l, r, h, hb => foldC_lt l (byteC r b) (byteC_lt r b h (hb b (by simp))) fun x hx => hb x (by simp [hx])
theorem foldC_append (r : Nat) (a b : List Nat) : foldC r (a ++ b) = foldC (foldC r a) b := List.foldl_append
theorem foldC_take (r : Nat) (ds : List Nat) (k : Nat) (h : k < ds.length) : foldC r (ds.take (k + 1)) = byteC (foldC r (ds.take k)) (ds.getD k 0) := by
  rw [List.take_succ_eq_append_getElem h, foldC_append]
  simp [foldC, List.getD, h]
/-- More. -/
def moreN (s : Nat) (ds : List Nat) : Nat := 4294967295 - foldC (4294967295 - s) ds
theorem moreN_lt (s : Nat) (ds : List Nat) : moreN s ds < 4294967296 := by unfold moreN; omega
theorem moreN_join (a b : List Nat) (ha : ∀ x ∈ a, x < 256) : moreN (moreN 0 a) b = moreN 0 (a ++ b) := by
  unfold moreN
  rw [foldC_append]
  have := foldC_lt a 4294967295 (by decide) ha
  congr 2
  simp only [Nat.sub_zero]
  omega
/-- The sum of words. -/
def wordsC (xs : List Nat) : Nat := moreN 0 (Bt.bytesN xs)
theorem awake_is : moreN 0 [49, 50, 51, 52, 53, 54, 55, 56, 57] = 3421780262 := by decide +kernel

/-- A sealed number. -/
def sealN (n p : Nat) : Nat := wordsC [n, p] * 4294967296 + n
theorem sealN_lt (n p : Nat) (h : n < 4294967296) : sealN n p < 2 ^ 64 := by
  have := moreN_lt 0 (Bt.bytesN [n, p])
  unfold sealN wordsC; omega
theorem sealN_low (n p : Nat) (h : n < 4294967296) : sealN n p % 4294967296 = n := by unfold sealN; omega
theorem put_seal (n p : Nat) (h : n < 4294967296) : Bt.putN n 32 32 (wordsC [n, p]) = sealN n p := by
  have hc := moreN_lt 0 (Bt.bytesN [n, p])
  have hn : n < 2 ^ 64 := by omega
  have hs := sealN_lt n p h
  apply Nat.eq_of_testBit_eq; intro i
  rw [Bt.bit_putN _ _ _ _ (by decide)]
  have e : Bt.wid 32 = 32 := rfl
  rw [e, show (32 : Int).toNat = 32 from rfl]
  unfold sealN wordsC
  generalize moreN 0 (Bt.bytesN [n, p]) = c at *
  rw [show c * 4294967296 + n = 2 ^ 32 * c + n by omega, Nat.testBit_two_pow_mul_add _ (by omega)]
  by_cases hi : i < 32
  · rw [if_neg (by omega), if_pos hi]; simp; omega
  · rw [if_neg hi]
    by_cases h2 : i < 64
    · rw [if_pos (by omega)]; simp [h2]
    · rw [Nat.testBit_lt_two_pow (x := c) (Nat.lt_of_lt_of_le hc (show 2 ^ 32 ≤ 2 ^ (i - 32) from Nat.pow_le_pow_right (by decide) (by omega)))]; simp [h2]
theorem get_low (X : Nat) : Bt.getN X 0 32 = X % 4294967296 := by
  unfold Bt.getN
  rw [if_pos (by decide)]
  simp [Bt.wid]

theorem xor_nat32 (A B : Nat) (hA : A < 4294967296) (hB : B < 4294967296) : bits .xor .u32 (A : Int) (B : Int) = ((A ^^^ B : Nat) : Int) := u32_xor_nat A B hA hB
theorem and15_nat32 (A : Nat) (hA : A < 4294967296) : bits .and .u32 (A : Int) 15 = ((A % 16 : Nat) : Int) := by
  have := u32_and_nat A 15 hA (by decide)
  rw [Nat.and_two_pow_sub_one_eq_mod A 4] at this
  exact this

end Cr
end Go.Proofs.Ytkejpdkokaiidaa
