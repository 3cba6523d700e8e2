/- Plain facts: the words of classes. No program in sight. -/
import Derived.Test.YtkboafcfpppnmaaDoorPre
namespace Go.Proofs.YtkboafcfpppnmaaDoor
namespace Cl

/-- Words of a cell, of each class. -/
def tab : List Nat := [2, 3, 4, 5, 6, 7, 8, 10, 12, 14, 16, 18, 20, 24, 28, 32, 36, 40, 46, 51, 56, 64, 73, 85, 92, 102, 113, 128, 146, 170, 204, 256]
def wd (k : Nat) : Nat := tab.getD k 0
/-- All sizes, as integers. -/
def sizesI : List Int := [2, 3, 4, 5, 6, 7, 8, 10, 12, 14, 16, 18, 20, 24, 28, 32, 36, 40, 46, 51, 56, 64, 73, 85, 92, 102, 113, 128, 146, 170, 204, 256]
theorem sizesI_at : ∀ k, k < 32 → sizesI.getD k 0 = (wd k : Int) := by decide
theorem wd_in : ∀ k, k < 32 → 2 ≤ wd k ∧ wd k ≤ 256 := by decide
theorem wd_rises : ∀ k, k < 31 → wd k < wd (k + 1) := by decide
theorem wd_mono : ∀ d j, j + d < 32 → wd j ≤ wd (j + d)
  | 0, j, _ => Nat.le_refl _
  | d + 1, j, h => Nat.le_trans (wd_mono d j (by omega)) (Nat.le_of_lt (wd_rises (j + d) (by omega)))
theorem wd_last : wd 31 = 256 := by decide

/-- Is there such a class? -/
def rightC (k : Int) : Bool := decide (0 ≤ k ∧ k < 32)
/-- The least class whose cells have at least so many words. -/
def clsC (n : Int) : Option Nat := if n < 1 then none else (List.range 32).find? fun k => decide (n ≤ (wd k : Int))
theorem clsC_low {n : Int} (h : n < 1) : clsC n = none := if_pos h
theorem clsC_at {n : Int} {k : Nat} (h : ¬ n < 1) (hk : k < 32) (hl : ∀ j, j < k → (wd j : Int) < n) (hn : n ≤ (wd k : Int)) : clsC n = some k := by
  unfold clsC
  rw [if_neg h, List.find?_range_eq_some]
  refine ⟨by simpa using hn, by simpa using hk, fun j hj => ?_⟩
  have := hl j hj
  simp; omega
theorem clsC_high {n : Int} (h : ∀ j, j < 32 → (wd j : Int) < n) : clsC n = none := by
  unfold clsC
  split
  · rfl
  · rw [List.find?_range_eq_none]
    intro j hj
    have := h j (by simpa using hj)
    simp; omega
/-- What is from 1 to 256 has a class. -/
theorem clsC_mid {n : Int} (h0 : 1 ≤ n) (h1 : n ≤ 256) : ∃ k, clsC n = some k ∧ k < 32 ∧ n ≤ (wd k : Int) ∧ ∀ j, j < k → (wd j : Int) < n := by
  have hn : ¬ n < 1 := by omega
  cases hc : clsC n with
  | none =>
    unfold clsC at hc
    rw [if_neg hn, List.find?_range_eq_none] at hc
    have := hc 31 (by decide)
    simp [wd_last] at this
    omega
  | some k =>
    refine ⟨k, rfl, ?_⟩
    unfold clsC at hc
    rw [if_neg hn, List.find?_range_eq_some] at hc
    obtain ⟨a, b, c⟩ := hc
    refine ⟨by simpa using b, by simpa using a, fun j hj => ?_⟩
    have := c j hj
    simp at this
    omega
theorem div_bounds {t : Nat} (h : 2 ≤ t) : 512 / t ≤ 256 := by
  exact Nat.div_le_div_left (c := 2) (a := 512) h (by decide)
theorem fill {t : Nat} : (512 / t) * t + 512 % t = 512 := by
  have := Nat.div_add_mod 512 t
  rw [Nat.mul_comm] at this; exact this

end Cl
end Go.Proofs.YtkboafcfpppnmaaDoor
