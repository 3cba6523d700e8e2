/- What a device begins with, as plain mathematics. -/
import Derived.Test.YtpgkplknfhdmgaaDoorCrcMath
namespace Go.Proofs.YtpgkplknfhdmgaaDoor
namespace Su
open Cr
set_option linter.unusedVariables false

/-- The sum of a line that begins with so many blocks and that number. -/
def sumS (b id : Nat) : Nat := wordsC [8390047168116913201, 1, b, id, 0, 0, 0]
theorem sumS_lt (b id : Nat) : sumS b id < 4294967296 := moreN_lt _ _

/-- Is it a line that a device may begin with? -/
def fitsS (x : Nat → Nat) : Prop := x 1 = 1 ∧ x 4 = 0 ∧ x 5 = 0 ∧ x 6 = 0 ∧ 2 ≤ x 2 ∧ x 2 ≤ 256
instance (x : Nat → Nat) : Decidable (fitsS x) := by unfold fitsS; infer_instance

/-- What a line tells: the error's number. -/
def codeS (x : Nat → Nat) : Nat :=
  if x 0 ≠ 8390047168116913201 then 24 else if x 7 ≠ wordsC [x 0, x 1, x 2, x 3, x 4, x 5, x 6] then 25 else if fitsS x then 0 else 26
/-- Blocks. -/
def blocksS (x : Nat → Nat) : Nat := if codeS x = 0 then x 2 else 0
/-- The number. -/
def idS (x : Nat → Nat) : Nat := if codeS x = 0 then x 3 else 0

theorem code_cases (x : Nat → Nat) : codeS x = 0 ∨ codeS x = 24 ∨ codeS x = 25 ∨ codeS x = 26 := by
  unfold codeS
  split
  · exact .inr (.inl rfl)
  · split
    · exact .inr (.inr (.inl rfl))
    · split
      · exact .inl rfl
      · exact .inr (.inr (.inr rfl))
/-- A line is right just if it is the line of what it tells. -/
theorem code_zero (x : Nat → Nat) : codeS x = 0 ↔ (x 0 = 8390047168116913201 ∧ x 1 = 1 ∧ x 4 = 0 ∧ x 5 = 0 ∧ x 6 = 0 ∧ x 7 = sumS (x 2) (x 3)) ∧ 2 ≤ x 2 ∧ x 2 ≤ 256 := by
  unfold codeS sumS
  constructor
  · intro h
    split at h
    · cases h
    · rename_i h0
      split at h
      · cases h
      · rename_i h7
        split at h
        · rename_i hf
          obtain ⟨h1, h4, h5, h6, h2, h3⟩ := hf
          have h0' : x 0 = 8390047168116913201 := by omega
          have h7' := Classical.not_not.1 h7
          rw [h0', h1, h4, h5, h6] at h7'
          exact ⟨⟨h0', h1, h4, h5, h6, h7'⟩, h2, h3⟩
        · cases h
  · rintro ⟨⟨h0, h1, h4, h5, h6, h7⟩, h2, h3⟩
    rw [if_neg (by omega), if_neg (by rw [h0, h1, h4, h5, h6]; exact fun h => h h7), if_pos (show fitsS x from ⟨h1, h4, h5, h6, h2, h3⟩)]

end Su
end Go.Proofs.YtpgkplknfhdmgaaDoor
