/- Lists of integers as lists of natural numbers; frames in a row. -/
import Derived.Test.YtkejpdkokaiidaaSl
import Derived.Test.YtkejpdkokaiidaaByteMath
namespace Go.Proofs.Ytkejpdkokaiidaa
open Go.ChangeShapes Go.WideShapes Go.ChangeAt Go.RowKit Bt
set_option linter.unusedVariables false

theorem nats_of (K : Nat) : ∀ l : List Int, (∀ n ∈ l, 0 ≤ n ∧ n < K) → 0 < K → ∃ xs : List Nat, l = castL xs ∧ ∀ p, xs.getD p 0 < K
  | [], _, hK => ⟨[], rfl, fun p => by simpa using hK⟩
  | a :: l, h, hK => by
    obtain ⟨xs, hxs, hp⟩ := nats_of K l (fun n hn => h n (by simp [hn])) hK
    have ha := h a (by simp)
    refine ⟨a.toNat :: xs, by rw [hxs]; simp [castL]; omega, fun p => ?_⟩
    cases p with
    | zero => simp; omega
    | succ p => simpa using hp p
theorem mem_lt_of_getD {K : Nat} {xs : List Nat} (h : ∀ p, xs.getD p 0 < K) : ∀ b ∈ xs, b < K := by
  intro b hb
  obtain ⟨i, hi, rfl⟩ := List.getElem_of_mem hb
  have := h i
  rw [List.getD_eq_getElem?_getD, List.getElem?_eq_getElem hi] at this
  exact this
theorem getD_lt_append {K : Nat} {xs ys : List Nat} (hK : 0 < K) (h : ∀ b ∈ xs, b < K) (k : ∀ b ∈ ys, b < K) (p : Nat) : (xs ++ ys).getD p 0 < K := by
  rw [List.getD_eq_getElem?_getD]
  cases e : (xs ++ ys)[p]? with
  | none => exact hK
  | some b =>
    rcases List.mem_append.1 (List.mem_of_getElem? e) with hb | hb
    · exact h b hb
    · exact k b hb
theorem IsInts.drewN {k : IntKind} {w : World} {v : Value} {xs : List Int} (h : IsInts k w v xs) (n : Nat) : IsInts k (w.drewN n) v xs := h
theorem below_step {W w' w1 : World} {B : Nat} (h : Below B W w') (k : Below w'.heap.size w' w1) (hB : B ≤ W.heap.size) : Below B W w1 := h.trans (k.mono (Nat.le_trans hB h.size))

/-- A slice of bytes that came in, as natural numbers. -/
theorem IsRow.bytes {w : World} {a : Option Addr} {len cap : Nat} {zs : List Int} (h : IsRow .u8 w a len cap zs) : ∃ ds : List Nat, IsInts .u8 w (.slice a len cap) (castL ds) ∧ ds.length = len ∧ ∀ p, ds.getD p 0 < 256 := by
  obtain ⟨hI, hL, hw⟩ := h.ints
  obtain ⟨ds, hds, hd⟩ := nats_of 256 _ (fun n hn => by have := bounds_u8 (hw n hn); omega) (by decide)
  rw [hds] at hI hL
  exact ⟨ds, hI, by rw [← hL, castL_length], hd⟩
/-- A slice of words that came in, as natural numbers. -/
theorem IsRow.words {w : World} {a : Option Addr} {len cap : Nat} {zs : List Int} (h : IsRow .u64 w a len cap zs) : ∃ ds : List Nat, IsInts .u64 w (.slice a len cap) (castL ds) ∧ ds.length = len ∧ ∀ p, ds.getD p 0 < 2 ^ 64 := by
  obtain ⟨hI, hL, hw⟩ := h.ints
  obtain ⟨ds, hds, hd⟩ := nats_of (2 ^ 64) _ (fun n hn => by have := bounds_u64 (hw n hn); omega) (by decide)
  rw [hds] at hI hL
  exact ⟨ds, hI, by rw [← hL, castL_length], hd⟩

end Go.Proofs.Ytkejpdkokaiidaa
