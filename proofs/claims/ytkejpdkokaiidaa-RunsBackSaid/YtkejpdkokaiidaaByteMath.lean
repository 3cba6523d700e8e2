/- Plain facts: words as bytes, bytes as words. No program in sight. -/
import Derived.Test.YtkejpdkokaiidaaCountMath
namespace Go.Proofs.Ytkejpdkokaiidaa
namespace Bt

/-- A word's byte. -/
def byteN (X j : Nat) : Nat := X / 256 ^ j % 256
theorem byteN_lt (X j : Nat) : byteN X j < 256 := Nat.mod_lt _ (by decide)
def castL (l : List Nat) : List Int := l.map fun (n : Nat) => (n : Int)
theorem castL_append (a b : List Nat) : castL (a ++ b) = castL a ++ castL b := by simp [castL]
theorem castL_length (a : List Nat) : (castL a).length = a.length := by simp [castL]
theorem castL_getD (a : List Nat) (i : Nat) : (castL a).getD i 0 = ((a.getD i 0 : Nat) : Int) := by
  simp only [castL, List.getD_eq_getElem?_getD, List.getElem?_map]
  cases a[i]? <;> simp
/-- All bytes of all words. -/
def bytesN : List Nat → List Nat
  | [] => []
  | X :: l => (List.range 8).map (byteN X) ++ bytesN l
theorem bytesN_snoc : ∀ (l : List Nat) (X : Nat), bytesN (l ++ [X]) = bytesN l ++ (List.range 8).map (byteN X)
  | [], X => by simp [bytesN]
  | Y :: l, X => by simp only [List.cons_append, bytesN, bytesN_snoc l X, List.append_assoc]
theorem bytesN_length : ∀ l : List Nat, (bytesN l).length = 8 * l.length
  | [] => rfl
  | X :: l => by simp [bytesN, bytesN_length l]; omega
theorem bytesN_lt : ∀ (l : List Nat), ∀ b ∈ bytesN l, b < 256
  | [], b, h => by simp [bytesN] at h
  | X :: l, b, h => by
    simp only [bytesN, List.mem_append, List.mem_map] at h
    rcases h with ⟨j, _, rfl⟩ | h
    · exact byteN_lt X j
    · exact bytesN_lt l b h
/-- What stands behind k words and j bytes of the next. -/
def partN (xs : List Nat) (k j : Nat) : List Nat := bytesN (xs.take k) ++ (List.range j).map (byteN (xs.getD k 0))
theorem partN_byte (xs : List Nat) (k j : Nat) : partN xs k (j + 1) = partN xs k j ++ [byteN (xs.getD k 0) j] := by
  simp [partN, List.range_succ]
theorem partN_word (xs : List Nat) (k : Nat) (hk : k < xs.length) : partN xs k 8 = partN xs (k + 1) 0 := by
  have e : xs.take (k + 1) = xs.take k ++ [xs.getD k 0] := by
    rw [List.take_succ_eq_append_getElem hk]; simp [List.getD, hk]
  simp only [partN]
  rw [e, bytesN_snoc]; simp
theorem partN_zero (xs : List Nat) : partN xs 0 0 = [] := rfl
theorem partN_end (xs : List Nat) : partN xs xs.length 0 = bytesN xs := by simp [partN]
theorem partN_length (xs : List Nat) (k j : Nat) (hk : k ≤ xs.length) : (partN xs k j).length = 8 * k + j := by
  simp only [partN, List.length_append, bytesN_length, List.length_map, List.length_range, List.length_take]; omega

/-- The word that eight bytes from 8j on are, noughts behind. -/
def wordN (ds : List Nat) (j : Nat) : Nat := sumTo 8 fun s => ds.getD (8 * j + s) 0 * 256 ^ s
def upN (n : Nat) : Nat := (n + 7) / 8
def wordsN (ds : List Nat) (m : Nat) : List Nat := (List.range m).map (wordN ds)
theorem wordsN_length (ds : List Nat) (m : Nat) : (wordsN ds m).length = m := by simp [wordsN]
theorem wordsN_getD (ds : List Nat) (m j : Nat) (hj : j < m) : (wordsN ds m).getD j 0 = wordN ds j := by
  rw [List.getD_eq_getElem?_getD]
  unfold wordsN
  rw [List.getElem?_map, List.getElem?_range hj, Option.map_some, Option.getD_some]
theorem wordsN_get (ds : List Nat) (m j : Nat) (hj : j < m) : (wordsN ds m)[j]? = some (wordN ds j) := by
  unfold wordsN
  rw [List.getElem?_map, List.getElem?_range hj, Option.map_some]

theorem getD_take (ds : List Nat) (n p : Nat) : (ds.take n).getD p 0 = if p < n then ds.getD p 0 else 0 := by
  rw [List.getD_eq_getElem?_getD, List.getElem?_take]
  split <;> simp [List.getD_eq_getElem?_getD]

theorem sumTo_one (n c d : Nat) (f g : Nat → Nat) (hc : c < n) (h : ∀ s, s < n → s ≠ c → g s = f s) (hcc : g c = f c + d) : sumTo n g = sumTo n f + d := by
  induction n with
  | zero => omega
  | succ n ih =>
    simp only [sumTo]
    by_cases e : c = n
    · subst e
      rw [sumTo_congr (f := g) (g := f) fun i hi => h i (by omega) (by omega), hcc]; omega
    · rw [ih (by omega) fun s hs => h s (by omega), h n (by omega) (by omega)]; omega
theorem sumTo_lt (n c : Nat) (f : Nat → Nat) (h : ∀ s, f s ≤ 255 * 256 ^ s) (hz : ∀ s, c ≤ s → f s = 0) : sumTo n f < 256 ^ c := by
  have key : ∀ n, n ≤ c → sumTo n f < 256 ^ n := by
    intro n
    induction n with
    | zero => intro _; simp [sumTo]
    | succ n ih =>
      intro hn
      have := ih (by omega); have := h n
      simp only [sumTo, Nat.pow_succ]; omega
  induction n with
  | zero => simp only [sumTo]; exact Nat.pow_pos (by decide)
  | succ n ih =>
    by_cases hn : n + 1 ≤ c
    · exact Nat.lt_of_lt_of_le (key _ hn) (Nat.pow_le_pow_right (by decide) hn)
    · simp only [sumTo]; rw [hz n (by omega)]; exact ih

theorem wordN_lt (ds : List Nat) (j : Nat) (h : ∀ p, ds.getD p 0 < 256) : wordN ds j < 2 ^ 64 := by
  have : wordN ds j < 256 ^ 8 := by
    unfold wordN
    have e : sumTo 8 (fun s => ds.getD (8 * j + s) 0 * 256 ^ s) = sumTo 8 (fun s => if s < 8 then ds.getD (8 * j + s) 0 * 256 ^ s else 0) := sumTo_congr fun s hs => by rw [if_pos hs]
    rw [e]
    refine sumTo_lt 8 8 _ (fun s => ?_) (fun s hs => by rw [if_neg (by omega)])
    split
    · exact Nat.mul_le_mul_right _ (by have := h (8 * j + s); omega)
    · exact Nat.zero_le _
  simpa using this

/-- One byte more, in another word: nothing turns. -/
theorem wordN_other (ds : List Nat) (n j : Nat) (h : j ≠ n / 8) : wordN (ds.take (n + 1)) j = wordN (ds.take n) j := sumTo_congr fun s hs => by
  rw [getD_take, getD_take]
  by_cases h1 : 8 * j + s < n
  · rw [if_pos (by omega), if_pos h1]
  · rw [if_neg (by omega), if_neg h1]
theorem wordN_this (ds : List Nat) (n : Nat) : wordN (ds.take (n + 1)) (n / 8) = wordN (ds.take n) (n / 8) + ds.getD n 0 * 256 ^ (n % 8) := by
  refine sumTo_one 8 (n % 8) _ _ _ (by omega) (fun s hs hne => ?_) ?_
  · simp only [getD_take]
    by_cases h1 : 8 * (n / 8) + s < n
    · rw [if_pos (by omega), if_pos h1]
    · rw [if_neg (by omega), if_neg h1]
  · simp only [getD_take]
    rw [if_pos (by omega), if_neg (by omega), show 8 * (n / 8) + n % 8 = n from by omega]; simp
theorem wordN_low (ds : List Nat) (n : Nat) (h : ∀ p, ds.getD p 0 < 256) : wordN (ds.take n) (n / 8) < 256 ^ (n % 8) := by
  refine sumTo_lt 8 (n % 8) _ (fun s => ?_) (fun s hs => ?_)
  · refine Nat.mul_le_mul_right _ ?_
    rw [getD_take]; split
    · have := h (8 * (n / 8) + s); omega
    · omega
  · simp only [getD_take]; rw [if_neg (by omega)]; simp
theorem wordN_nil (j : Nat) : wordN [] j = 0 := by simp [wordN, sumTo]
theorem wordsN_step (ds : List Nat) (n m : Nat) (hn : n < 8 * m) :
    (wordsN (ds.take n) m).set (n / 8) (wordN (ds.take n) (n / 8) + ds.getD n 0 * 256 ^ (n % 8)) = wordsN (ds.take (n + 1)) m := by
  apply List.ext_getElem?
  intro j
  rw [List.getElem?_set]
  by_cases hj : n / 8 = j
  · subst hj
    rw [if_pos rfl, if_pos (by rw [wordsN_length]; omega), ← wordN_this, wordsN_get _ _ _ (by omega)]
  · rw [if_neg hj]
    by_cases hjm : j < m
    · rw [wordsN_get _ _ _ hjm, wordsN_get _ _ _ hjm, wordN_other ds n j (by omega)]
    · rw [List.getElem?_eq_none (by rw [wordsN_length]; omega), List.getElem?_eq_none (by rw [wordsN_length]; omega)]

/-- From the highest byte down. -/
def hornN (ds : List Nat) (q : Nat) : Nat → Nat
  | 0 => 0
  | n + 1 => hornN ds q n * 256 + ds.getD (8 * q + (7 - n)) 0
theorem hornN_end (ds : List Nat) (q : Nat) : hornN ds q 8 = wordN ds q := by
  simp only [hornN, wordN, sumTo, Nat.reduceSub, Nat.add_zero, Nat.reducePow, Nat.mul_one, Nat.zero_mul, Nat.zero_add]
  generalize ds.getD (8 * q) 0 = d0
  generalize ds.getD (8 * q + 1) 0 = d1
  generalize ds.getD (8 * q + 2) 0 = d2
  generalize ds.getD (8 * q + 3) 0 = d3
  generalize ds.getD (8 * q + 4) 0 = d4
  generalize ds.getD (8 * q + 5) 0 = d5
  generalize ds.getD (8 * q + 6) 0 = d6
  generalize ds.getD (8 * q + 7) 0 = d7
  omega
theorem hornN_lt (ds : List Nat) (q : Nat) (h : ∀ p, ds.getD p 0 < 256) : ∀ n, hornN ds q n < 256 ^ n
  | 0 => by simp [hornN]
  | n + 1 => by have := hornN_lt ds q h n; have := h (8 * q + (7 - n)); simp only [hornN, Nat.pow_succ]; omega

theorem eight (d0 d1 d2 d3 d4 d5 d6 d7 : Nat) : d0 * 256 ^ 0 + d1 * 256 ^ 1 + d2 * 256 ^ 2 + d3 * 256 ^ 3 + d4 * 256 ^ 4 + d5 * 256 ^ 5 + d6 * 256 ^ 6 + d7 * 256 ^ 7 = d0 + 256 * (d1 + 256 * (d2 + 256 * (d3 + 256 * (d4 + 256 * (d5 + 256 * (d6 + 256 * d7)))))) := by
  simp only [Nat.reducePow]; omega
theorem word_of_bytes (X : Nat) (hX : X < 2 ^ 64) : (byteN X 0 * 256 ^ 0 + byteN X 1 * 256 ^ 1 + byteN X 2 * 256 ^ 2 + byteN X 3 * 256 ^ 3 + byteN X 4 * 256 ^ 4 + byteN X 5 * 256 ^ 5 + byteN X 6 * 256 ^ 6 + byteN X 7 * 256 ^ 7) = X := by
  have h := fb_bytesOf X hX
  simp only [bytesOf, fb, Nat.mul_zero, Nat.add_zero] at h
  rw [eight]
  simp only [byteN, Nat.reducePow, Nat.div_one]
  exact h

theorem bytesN_getD : ∀ (l : List Nat) (j s : Nat), s < 8 → (bytesN l).getD (8 * j + s) 0 = byteN (l.getD j 0) s
  | [], j, s, hs => by simp [bytesN, byteN]
  | X :: l, 0, s, hs => by simp [bytesN, List.getD, List.getElem?_append_left, hs]
  | X :: l, j + 1, s, hs => by
    have ih := bytesN_getD l j s hs
    rw [List.getD_eq_getElem?_getD] at ih ⊢
    simp only [bytesN]
    rw [List.getElem?_append_right (by simp; omega)]
    simp only [List.length_map, List.length_range]
    rw [show 8 * (j + 1) + s - 8 = 8 * j + s from by omega, ih]; simp
theorem wordsN_back (xs : List Nat) (h : ∀ p, xs.getD p 0 < 2 ^ 64) : wordsN (bytesN xs) xs.length = xs := by
  apply List.ext_getElem?
  intro j
  by_cases hj : j < xs.length
  · have e : xs[j] = xs.getD j 0 := by simp [List.getD, hj]
    rw [wordsN_get _ _ _ hj, List.getElem?_eq_getElem hj, e]
    refine congrArg some ?_
    unfold wordN
    simp only [sumTo]
    rw [bytesN_getD xs j 0 (by decide), bytesN_getD xs j 1 (by decide), bytesN_getD xs j 2 (by decide), bytesN_getD xs j 3 (by decide), bytesN_getD xs j 4 (by decide), bytesN_getD xs j 5 (by decide), bytesN_getD xs j 6 (by decide), bytesN_getD xs j 7 (by decide), Nat.zero_add]
    exact word_of_bytes _ (h j)
  · rw [List.getElem?_eq_none (by rw [wordsN_length]; omega), List.getElem?_eq_none (by omega)]

end Bt
end Go.Proofs.Ytkejpdkokaiidaa
