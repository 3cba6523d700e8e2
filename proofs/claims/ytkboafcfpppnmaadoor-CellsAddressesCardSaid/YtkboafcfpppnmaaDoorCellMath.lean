/- Plain facts: cells of blocks of a class. No program in sight. -/
import Derived.Test.YtkboafcfpppnmaaDoorClassMath
namespace Go.Proofs.YtkboafcfpppnmaaDoor
namespace Ce
open Cl

/-- Words of a cell, and cells of a block, of whatever class; 0, where there is no such class. -/
def wordsC (k : Int) : Nat := if 0 ≤ k ∧ k < 32 then wd k.toNat else 0
def cellsC (k : Int) : Nat := if 0 ≤ k ∧ k < 32 then 512 / wd k.toNat else 0
theorem wordsC_yes {k : Nat} (h : k < 32) : wordsC (k : Int) = wd k := by unfold wordsC; rw [if_pos (by omega)]; simp
theorem wordsC_no {k : Int} (h : k < 0 ∨ 32 ≤ k) : wordsC k = 0 := if_neg (by omega)
theorem cellsC_yes {k : Nat} (h : k < 32) : cellsC (k : Int) = 512 / wd k := by unfold cellsC; rw [if_pos (by omega)]; simp
theorem cellsC_no {k : Int} (h : k < 0 ∨ 32 ≤ k) : cellsC k = 0 := if_neg (by omega)
theorem class_or (k : Int) : (k < 0 ∨ 32 ≤ k) ∨ ∃ n : Nat, k = n ∧ n < 32 := by
  by_cases h : k < 0 ∨ 32 ≤ k
  · exact .inl h
  · exact .inr ⟨k.toNat, by omega, by omega⟩
theorem wordsC_le (k : Int) : wordsC k ≤ 256 := by
  rcases class_or k with h | ⟨n, rfl, h⟩
  · rw [wordsC_no h]; omega
  · rw [wordsC_yes h]; exact (wd_in n h).2
theorem cellsC_le (k : Int) : cellsC k ≤ 256 := by
  rcases class_or k with h | ⟨n, rfl, h⟩
  · rw [cellsC_no h]; omega
  · rw [cellsC_yes h]; exact div_bounds (wd_in n h).1
/-- Where there is a cell, there is the class. -/
theorem class_of {k : Int} (h : 0 < cellsC k) : ∃ n : Nat, k = n ∧ n < 32 := by
  rcases class_or k with h' | h'
  · rw [cellsC_no h'] at h; omega
  · exact h'
theorem words_pos {k : Int} (h : 0 < cellsC k) : 2 ≤ wordsC k := by
  obtain ⟨n, rfl, hn⟩ := class_of h
  rw [wordsC_yes hn]; exact (wd_in n hn).1
theorem all_fit (k : Int) : cellsC k * wordsC k ≤ 512 := by
  rcases class_or k with h | ⟨n, rfl, h⟩
  · rw [cellsC_no h]; omega
  · rw [cellsC_yes h, wordsC_yes h]; exact Nat.div_mul_le_self _ _
/-- A cell lies within its block. -/
theorem one_fits {k : Int} {i : Nat} (h : i < cellsC k) : i * wordsC k + wordsC k ≤ 512 := by
  have h1 : (i + 1) * wordsC k ≤ cellsC k * wordsC k := Nat.mul_le_mul_right _ h
  rw [Nat.add_mul, Nat.one_mul] at h1
  exact Nat.le_trans h1 (all_fit k)

/-- Is there such a cell, of so many blocks? -/
def hasC (n k b i : Int) : Bool := decide (1 ≤ b ∧ b < n ∧ 0 ≤ i ∧ i < (cellsC k : Nat))
theorem hasC_iff {n k b i : Int} : hasC n k b i = true ↔ 1 ≤ b ∧ b < n ∧ 0 ≤ i ∧ i < (cellsC k : Nat) := by unfold hasC; simp
/-- A cell's first word; -1. -/
def addrC (n k b i : Int) : Int := if hasC n k b i = true then b * 512 + i * (wordsC k : Nat) else -1
theorem addrC_yes {n k b i : Int} (h : hasC n k b i = true) : addrC n k b i = b * 512 + i * (wordsC k : Nat) := if_pos h
theorem addrC_no {n k b i : Int} (h : hasC n k b i = false) : addrC n k b i = -1 := if_neg (by rw [h]; simp)

/-- Is the word in a cell, and in which. -/
def inC (n k a : Int) : Bool := decide (512 ≤ a ∧ a < 512 * n ∧ a % 512 / (wordsC k : Nat) < (cellsC k : Nat))
theorem inC_iff {n k a : Int} : inC n k a = true ↔ 512 ≤ a ∧ a < 512 * n ∧ a % 512 / (wordsC k : Nat) < (cellsC k : Nat) := by unfold inC; simp
def blkC (n k a : Int) : Int := if inC n k a = true then a / 512 else 0
def idxC (n k a : Int) : Int := if inC n k a = true then a % 512 / (wordsC k : Nat) else 0
/-- Does a cell begin there? -/
def atC (n k a : Int) : Bool := inC n k a && decide (a % 512 / (wordsC k : Nat) * (wordsC k : Nat) = a % 512)
theorem quot_in {a q : Int} {m : Nat} (ha : 0 ≤ a) (hm : 0 < m) (h0 : (q : Int) = a / m) : 0 ≤ q ∧ q * m ≤ a ∧ a < q * m + m := by
  subst h0
  have hm' : (0 : Int) < m := by omega
  refine ⟨Int.ediv_nonneg ha (by omega), Int.ediv_mul_le a (by omega), ?_⟩
  have := Int.lt_ediv_add_one_mul_self a hm'
  rw [Int.add_mul, Int.one_mul] at this
  exact this
/-- A word that is within a cell is in that one. -/
theorem quot_of {a : Int} {m i : Nat} (h0 : (i : Int) * m ≤ a) (h1 : a < (i : Int) * m + m) : a / m = i := by
  have hm : (0 : Int) < m := by omega
  rw [Int.ediv_eq_iff_of_pos hm]
  have : (m : Int) * i = i * m := Int.mul_comm _ _
  omega

/-- The first words of the first cells of a block. -/
def firstC (k b : Int) (m : Nat) : List Int := (List.range m).map fun i : Nat => 512 * b + (i : Int) * (wordsC k : Nat)
theorem firstC_succ (k b : Int) (m : Nat) : firstC k b (m + 1) = firstC k b m ++ [512 * b + (m : Int) * (wordsC k : Nat)] := by
  unfold firstC; rw [List.range_succ, List.map_append]; rfl
theorem firstC_len (k b : Int) (m : Nat) : (firstC k b m).length = m := by unfold firstC; simp
theorem firstC_at (k b : Int) {m i : Nat} (h : i < m) : (firstC k b m).getD i 0 = 512 * b + (i : Int) * (wordsC k : Nat) := by
  unfold firstC
  rw [List.getD_eq_getElem?_getD, List.getElem?_map, List.getElem?_range h]; rfl
theorem firstC_take (k b : Int) {m j : Nat} (h : j ≤ m) : (firstC k b m).take j = firstC k b j := by
  unfold firstC
  rw [← List.map_take, List.take_range, Nat.min_eq_left h]
/-- The first words of all cells of a block, of so many blocks. -/
def manyC (n k b : Int) : Nat := if 1 ≤ b ∧ b < n then cellsC k else 0
def allC (n k b : Int) : List Int := firstC k b (manyC n k b)
theorem manyC_le (n k b : Int) : manyC n k b ≤ 256 := by
  unfold manyC; split
  · exact cellsC_le k
  · omega
theorem many_cells (n k b : Int) : manyC n k b ≤ cellsC k := by
  unfold manyC; split <;> omega
theorem has_many {n k b : Int} {i : Nat} : hasC n k b i = decide (i < manyC n k b) := by
  unfold hasC manyC
  rw [decide_eq_decide]
  split <;> omega
theorem addr_many {n k b : Int} {i : Nat} (h : i < manyC n k b) : addrC n k b i = 512 * b + (i : Int) * (wordsC k : Nat) := by
  rw [addrC_yes (by rw [has_many]; simpa using h), Int.mul_comm b]
theorem addr_none {n k b : Int} {i : Nat} (h : ¬ i < manyC n k b) : addrC n k b i = -1 := addrC_no (by rw [has_many]; simpa using h)
theorem many_block {n k b : Int} {i : Nat} (h : i < manyC n k b) : 1 ≤ b ∧ b < n ∧ i < cellsC k := by
  unfold manyC at h; split at h
  · omega
  · omega

end Ce
end Go.Proofs.YtkboafcfpppnmaaDoor
