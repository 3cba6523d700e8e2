/- Plain facts: headers of all blocks, as words of a device; spans of free blocks. No program in sight. -/
import Derived.Test.YtkejpdkokaiidaaBheadMath
namespace Go.Proofs.Ytkejpdkokaiidaa
namespace Bk
open Bh

/-- A header: its kind, its class, its Len. -/
abbrev H3 := Int × Int × Int
/-- What a block's word tells. -/
def hdrAt (f : Nat → Int) (b : Nat) : H3 := ((okK (f (256 + b)).toNat (256 + b) : Nat), (okC (f (256 + b)).toNat (256 + b) : Nat), (okL (f (256 + b)).toNat (256 + b) : Nat))
def badAt (f : Nat → Int) (b : Nat) : Bool := decide (codeN (f (256 + b)).toNat (256 + b) ≠ 0)
/-- The headers of the first k blocks. -/
def hdrs (f : Nat → Int) (k : Nat) : List H3 := (List.range k).map fun b => if b = 0 then (0, 0, 0) else hdrAt f b
theorem hdrs_one (f : Nat → Int) : hdrs f 1 = [(0, 0, 0)] := rfl
theorem hdrs_succ (f : Nat → Int) {k : Nat} (h : 1 ≤ k) : hdrs f (k + 1) = hdrs f k ++ [hdrAt f k] := by
  unfold hdrs
  rw [List.range_succ, List.map_append]
  simp only [List.map_cons, List.map_nil]
  rw [if_neg (by omega)]
theorem hdrs_len (f : Nat → Int) (k : Nat) : (hdrs f k).length = k := by simp [hdrs]
theorem hdrs_at (f : Nat → Int) {k b : Nat} (h : b < k) (hb : 1 ≤ b) : (hdrs f k).getD b (0, 0, 0) = hdrAt f b := by
  unfold hdrs
  rw [List.getD_eq_getElem?_getD, List.getElem?_map, List.getElem?_range h]
  simp; omega
theorem hdrs_zero (f : Nat → Int) {k : Nat} (h : 0 < k) : (hdrs f k).getD 0 (0, 0, 0) = (0, 0, 0) := by
  unfold hdrs
  rw [List.getD_eq_getElem?_getD, List.getElem?_map, List.getElem?_range h]
  rfl
/-- The first block of n whose word isn't a header's. -/
def firstBad (f : Nat → Int) (n : Nat) : Option Nat := (List.range n).find? fun b => decide (1 ≤ b) && badAt f b
theorem firstBad_none {f : Nat → Int} {n : Nat} (h : ∀ b, 1 ≤ b → b < n → badAt f b = false) : firstBad f n = none := by
  unfold firstBad
  rw [List.find?_range_eq_none]
  intro b hb
  by_cases h1 : 1 ≤ b
  · rw [h b h1 hb]; simp
  · simp; omega
theorem firstBad_at {f : Nat → Int} {n b : Nat} (hb : 1 ≤ b) (hn : b < n) (hbad : badAt f b = true) (h : ∀ c, 1 ≤ c → c < b → badAt f c = false) : firstBad f n = some b := by
  unfold firstBad
  rw [List.find?_range_eq_some]
  refine ⟨by simp [hb, hbad], by simpa using hn, fun c hc => ?_⟩
  by_cases h1 : 1 ≤ c
  · rw [h c h1 hc]; simp
  · simp; omega
/-- All headers; the first bad block; the error's number. -/
def readL (f : Nat → Int) (n : Nat) : List H3 := if (firstBad f n).isSome = true then [] else hdrs f n
def readB (f : Nat → Int) (n : Nat) : Nat := (firstBad f n).getD 0
def readE (f : Nat → Int) (n : Nat) : Nat := if (firstBad f n).isSome = true then 21 else 0
theorem read_bad {f : Nat → Int} {n b : Nat} (h : firstBad f n = some b) : readL f n = [] ∧ readB f n = b ∧ readE f n = 21 := by
  unfold readL readB readE; rw [h]; exact ⟨rfl, rfl, rfl⟩
theorem read_good {f : Nat → Int} {n : Nat} (h : firstBad f n = none) : readL f n = hdrs f n ∧ readB f n = 0 ∧ readE f n = 0 := by
  unfold readL readB readE; rw [h]; exact ⟨rfl, rfl, rfl⟩

/-- A block's kind, in a list. -/
def kindAt (hs : List H3) (b : Nat) : Int := (hs.getD b (0, 0, 0)).1
/-- The last span is one block longer. -/
def bump (l : List (Int × Int)) : List (Int × Int) := l.dropLast ++ [((l.getLast?.getD (0, 0)).1, (l.getLast?.getD (0, 0)).2 + 1)]
/-- The spans of free blocks among those below b. -/
def spansTo (hs : List H3) : Nat → List (Int × Int)
  | 0 => []
  | b + 1 => if b = 0 then [] else if kindAt hs b ≠ 0 then spansTo hs b else if 1 < b ∧ kindAt hs (b - 1) = 0 then bump (spansTo hs b) else spansTo hs b ++ [((b : Int), 1)]
def spansOf (hs : List H3) : List (Int × Int) := spansTo hs hs.length
theorem spansTo_one (hs : List H3) : spansTo hs 1 = [] := rfl
theorem spansTo_skip {hs : List H3} {b : Nat} (hb : 1 ≤ b) (h : kindAt hs b ≠ 0) : spansTo hs (b + 1) = spansTo hs b := by
  simp only [spansTo]; rw [if_neg (by omega), if_pos h]
theorem spansTo_bump {hs : List H3} {b : Nat} (hb : 1 < b) (h : kindAt hs b = 0) (h1 : kindAt hs (b - 1) = 0) : spansTo hs (b + 1) = bump (spansTo hs b) := by
  simp only [spansTo]; rw [if_neg (by omega), if_neg (by simpa using h), if_pos ⟨hb, h1⟩]
theorem spansTo_new {hs : List H3} {b : Nat} (hb : 1 ≤ b) (h : kindAt hs b = 0) (h1 : ¬ (1 < b ∧ kindAt hs (b - 1) = 0)) : spansTo hs (b + 1) = spansTo hs b ++ [((b : Int), 1)] := by
  simp only [spansTo]; rw [if_neg (by omega), if_neg (by simpa using h), if_neg h1]
theorem bump_len {l : List (Int × Int)} (h : l ≠ []) : (bump l).length = l.length := by
  unfold bump
  have := List.length_pos_iff.2 h
  simp; omega
theorem bump_snoc (l : List (Int × Int)) (p : Int × Int) : bump (l ++ [p]) = l ++ [(p.1, p.2 + 1)] := by unfold bump; simp
theorem spansTo_ne {hs : List H3} {b : Nat} (hb : 1 < b) (h : kindAt hs (b - 1) = 0) : spansTo hs b ≠ [] := by
  obtain ⟨c, rfl⟩ : ∃ c, b = c + 1 := ⟨b - 1, by omega⟩
  simp only [Nat.add_sub_cancel] at h
  by_cases h1 : 1 < c ∧ kindAt hs (c - 1) = 0
  · rw [spansTo_bump h1.1 h h1.2]; unfold bump; simp
  · rw [spansTo_new (by omega) h h1]; simp
theorem spansTo_in (hs : List H3) : ∀ b, (spansTo hs b).length ≤ b ∧ ∀ p ∈ spansTo hs b, 1 ≤ p.2 ∧ p.2 ≤ (b : Int)
  | 0 => by simp [spansTo]
  | b + 1 => by
    obtain ⟨h1, h2⟩ := spansTo_in hs b
    by_cases hb : b = 0
    · subst hb; simp [spansTo]
    by_cases hk : kindAt hs b ≠ 0
    · rw [spansTo_skip (by omega) hk]
      exact ⟨by omega, fun p hp => by have := h2 p hp; omega⟩
    have hk : kindAt hs b = 0 := by simpa using hk
    by_cases hq : 1 < b ∧ kindAt hs (b - 1) = 0
    · rw [spansTo_bump hq.1 hk hq.2]
      have hne := spansTo_ne hq.1 hq.2
      refine ⟨by rw [bump_len hne]; omega, ?_⟩
      generalize spansTo hs b = l at *
      obtain ⟨l', p, rfl⟩ : ∃ l' p, l = l' ++ [p] := ⟨l.dropLast, l.getLast hne, (List.dropLast_concat_getLast hne).symm⟩
      rw [bump_snoc]
      intro x hx
      rcases List.mem_append.1 hx with hx | hx
      · have := h2 x (List.mem_append_left _ hx); omega
      · have := h2 p (by simp)
        obtain rfl : x = (p.1, p.2 + 1) := by simpa using hx
        simp; omega
    · rw [spansTo_new (by omega) hk hq]
      refine ⟨by simp; omega, fun x hx => ?_⟩
      rcases List.mem_append.1 hx with hx | hx
      · have := h2 x hx; omega
      · obtain rfl : x = ((b : Int), 1) := by simpa using hx
        simp; omega

/-- The header of a block; the zero one. -/
def hAt (hs : List H3) (b : Int) : H3 := if 0 ≤ b ∧ b < hs.length then hs.getD b.toNat (0, 0, 0) else (0, 0, 0)
/-- How many blocks from 1 on, below b, are of a kind. -/
def countTo (hs : List H3) (k : Int) : Nat → Nat
  | 0 => 0
  | b + 1 => countTo hs k b + (if 1 ≤ b ∧ kindAt hs b = k then 1 else 0)
theorem countTo_one (hs : List H3) (k : Int) : countTo hs k 1 = 0 := rfl
theorem countTo_yes {hs : List H3} {k : Int} {b : Nat} (hb : 1 ≤ b) (h : kindAt hs b = k) : countTo hs k (b + 1) = countTo hs k b + 1 := by
  show _ + _ = _; rw [if_pos ⟨hb, h⟩]
theorem countTo_no {hs : List H3} {k : Int} {b : Nat} (h : kindAt hs b ≠ k) : countTo hs k (b + 1) = countTo hs k b := by
  show _ + _ = _; rw [if_neg (fun e => h e.2)]; rfl
theorem countTo_le (hs : List H3) (k : Int) : ∀ b, countTo hs k b ≤ b
  | 0 => Nat.le_refl _
  | b + 1 => by have := countTo_le hs k b; show _ + _ ≤ _; split <;> omega
theorem countTo_all {hs : List H3} {k : Int} : ∀ b, (∀ i, 1 ≤ i → i < b → kindAt hs i = k) → countTo hs k b = b - 1
  | 0, _ => rfl
  | b + 1, h => by
    have ih := countTo_all b fun i h1 h2 => h i h1 (by omega)
    by_cases hb : 1 ≤ b
    · rw [countTo_yes hb (h b hb (by omega)), ih]; omega
    · obtain rfl : b = 0 := by omega
      rfl

/-- Cells of headers, and of spans. -/
def cells3 (hs : List H3) : List (List Int) := hs.map fun h => [h.1, h.2.1, h.2.2]
def flat3 (hs : List H3) : List Int := hs.flatMap fun h => [h.1, h.2.1, h.2.2]
def flat2 (l : List (Int × Int)) : List Int := l.flatMap fun p => [p.1, p.2]
theorem flat3_len (hs : List H3) : (flat3 hs).length = hs.length * 3 := by
  induction hs with
  | nil => rfl
  | cons h hs ih => unfold flat3 at *; simp only [List.flatMap_cons, List.length_append, ih]; simp; omega
theorem flat2_len (l : List (Int × Int)) : (flat2 l).length = l.length * 2 := by
  induction l with
  | nil => rfl
  | cons h hs ih => unfold flat2 at *; simp only [List.flatMap_cons, List.length_append, ih]; simp; omega
theorem flat3_app (a b : List H3) : flat3 (a ++ b) = flat3 a ++ flat3 b := by unfold flat3; simp
theorem flat2_app (a b : List (Int × Int)) : flat2 (a ++ b) = flat2 a ++ flat2 b := by unfold flat2; simp
theorem flat3_get : ∀ (hs : List H3) (i : Nat), i < hs.length → (flat3 hs)[i * 3]? = some (hs.getD i (0, 0, 0)).1 ∧ (flat3 hs)[i * 3 + 1]? = some (hs.getD i (0, 0, 0)).2.1 ∧ (flat3 hs)[i * 3 + 2]? = some (hs.getD i (0, 0, 0)).2.2
  | [], i, h => by simp at h
  | h :: hs, 0, _ => ⟨rfl, rfl, rfl⟩
  | h :: hs, i + 1, hi => by
    have ih := flat3_get hs i (by simpa using hi)
    have e : flat3 (h :: hs) = h.1 :: h.2.1 :: h.2.2 :: flat3 hs := rfl
    rw [e, show (i + 1) * 3 = i * 3 + 1 + 1 + 1 by omega]
    simpa using ih
theorem flat2_get : ∀ (hs : List (Int × Int)) (i : Nat), i < hs.length → (flat2 hs)[i * 2]? = some (hs.getD i (0, 0)).1 ∧ (flat2 hs)[i * 2 + 1]? = some (hs.getD i (0, 0)).2
  | [], i, h => by simp at h
  | h :: hs, 0, _ => ⟨rfl, rfl⟩
  | h :: hs, i + 1, hi => by
    have ih := flat2_get hs i (by simpa using hi)
    have e : flat2 (h :: hs) = h.1 :: h.2 :: flat2 hs := rfl
    rw [e, show (i + 1) * 2 = i * 2 + 1 + 1 by omega]
    simpa using ih

end Bk
end Go.Proofs.Ytkejpdkokaiidaa
