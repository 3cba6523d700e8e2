/- Slices of headers, of spans: three, two whole numbers an element. -/
import Derived.Test.YtkejpdkokaiidaaBlockMath
import Derived.Test.YtkejpdkokaiidaaBoxes
import Derived.Test.YtkejpdkokaiidaaNats
import Derived.Test.YtkejpdkokaiidaaMade
import Derived.Maps.AppendAt
import Derived.Laws.AppendOwnNone
namespace Go.Proofs.Ytkejpdkokaiidaa
open Go.ChangeShapes Go.WideShapes Go.ChangeAt Go.RowKit Bk
set_option linter.unusedVariables false

/-- v is a slice of these headers, in w. -/
def IsHs (w : World) (v : Value) (hs : List H3) : Prop :=
  ∃ a cap, v = .slice a hs.length cap ∧ hs.length ≤ cap ∧ (hs = [] ∨ ∃ b off, a = some ⟨b, off, none⟩ ∧ b < w.heap.size ∧ ∀ i, i < hs.length →
    w.cell? ⟨b, off + i * 3, none⟩ = some (.int .i64 (hs.getD i (0, 0, 0)).1) ∧ w.cell? ⟨b, off + i * 3 + 1, none⟩ = some (.int .i64 (hs.getD i (0, 0, 0)).2.1) ∧ w.cell? ⟨b, off + i * 3 + 2, none⟩ = some (.int .i64 (hs.getD i (0, 0, 0)).2.2))
/-- v is a slice of these spans, in w. -/
def IsSps (w : World) (v : Value) (l : List (Int × Int)) : Prop :=
  ∃ a cap, v = .slice a l.length cap ∧ l.length ≤ cap ∧ (l = [] ∨ ∃ b off, a = some ⟨b, off, none⟩ ∧ b < w.heap.size ∧ ∀ i, i < l.length →
    w.cell? ⟨b, off + i * 2, none⟩ = some (.int .i64 (l.getD i (0, 0)).1) ∧ w.cell? ⟨b, off + i * 2 + 1, none⟩ = some (.int .i64 (l.getD i (0, 0)).2))

theorem IsHs.below {w w' : World} {v : Value} {hs : List H3} {B : Nat} (h : IsHs w v hs) (hb : Below B w w') (hB : w.heap.size ≤ B) : IsHs w' v hs := by
  obtain ⟨a, cap, rfl, hc, h⟩ := h
  refine ⟨a, cap, rfl, hc, ?_⟩
  rcases h with h | ⟨b, off, rfl, hlt, h⟩
  · exact .inl h
  · refine .inr ⟨b, off, rfl, Nat.lt_of_lt_of_le hlt hb.size, fun i hi => ?_⟩
    have e : ∀ o, w'.cell? ⟨b, o, none⟩ = w.cell? ⟨b, o, none⟩ := fun o => hb.cell (p := ⟨b, o, none⟩) (Nat.lt_of_lt_of_le hlt hB)
    rw [e, e, e]; exact h i hi
theorem IsSps.below {w w' : World} {v : Value} {hs : List (Int × Int)} {B : Nat} (h : IsSps w v hs) (hb : Below B w w') (hB : w.heap.size ≤ B) : IsSps w' v hs := by
  obtain ⟨a, cap, rfl, hc, h⟩ := h
  refine ⟨a, cap, rfl, hc, ?_⟩
  rcases h with h | ⟨b, off, rfl, hlt, h⟩
  · exact .inl h
  · refine .inr ⟨b, off, rfl, Nat.lt_of_lt_of_le hlt hb.size, fun i hi => ?_⟩
    have e : ∀ o, w'.cell? ⟨b, o, none⟩ = w.cell? ⟨b, o, none⟩ := fun o => hb.cell (p := ⟨b, o, none⟩) (Nat.lt_of_lt_of_le hlt hB)
    rw [e, e]; exact h i hi

/-- Of a row that the call owns. -/
theorem own_cells {w : World} {v : Value} {base n size : Nat} {e : TypeId} {xs : List Int} (h : w.ownsRow base e size v n (xs.map (Value.int .i64))) :
    (v = .slice none 0 0 ∧ n = 0) ∨ ∃ g cap, v = .slice (some ⟨g, 0, none⟩) n cap ∧ n ≤ cap ∧ base ≤ g ∧ g < w.heap.size ∧ ∀ j, j < n * size → ∀ x, xs[j]? = some x → w.cell? ⟨g, j, none⟩ = some (.int .i64 x) := by
  obtain ⟨hl, h⟩ := h
  rcases h with ⟨rfl, h0⟩ | ⟨g, cap, cur, rfl, hgb, hg, hc, _, hs, ht⟩
  · exact .inl ⟨rfl, h0⟩
  · refine .inr ⟨g, cap, rfl, hc, hgb, ?_, fun j hj x hx => ?_⟩
    · rcases Nat.lt_or_ge g w.heap.size with h | h
      · exact h
      · rw [Array.getElem?_eq_none h] at hg; cases hg
    · have h1 : (cur.toList.take (n * size))[j]? = some (.int .i64 x) := by rw [ht, List.getElem?_map, hx]; rfl
      rw [List.getElem?_take_of_lt hj] at h1
      simp only [World.cell?, hg]
      simpa using h1
theorem IsHs.of_own {w : World} {v : Value} {hs : List H3} {base n : Nat} {e : TypeId} (h : w.ownsRow base e 3 v n ((flat3 hs).map (Value.int .i64))) (hn : n = hs.length) : IsHs w v hs := by
  subst hn
  rcases own_cells h with ⟨rfl, h0⟩ | ⟨g, cap, rfl, hc, _, hg, hx⟩
  · exact ⟨none, 0, by rw [h0], by omega, .inl (List.length_eq_zero_iff.1 h0)⟩
  · refine ⟨_, cap, rfl, hc, .inr ⟨g, 0, rfl, hg, fun i hi => ?_⟩⟩
    obtain ⟨a, b, c⟩ := flat3_get hs i hi
    rw [Nat.zero_add]
    exact ⟨hx _ (by omega) _ a, hx _ (by omega) _ b, hx _ (by omega) _ c⟩
theorem IsSps.of_own {w : World} {v : Value} {hs : List (Int × Int)} {base n : Nat} {e : TypeId} (h : w.ownsRow base e 2 v n ((flat2 hs).map (Value.int .i64))) (hn : n = hs.length) : IsSps w v hs := by
  subst hn
  rcases own_cells h with ⟨rfl, h0⟩ | ⟨g, cap, rfl, hc, _, hg, hx⟩
  · exact ⟨none, 0, by rw [h0], by omega, .inl (List.length_eq_zero_iff.1 h0)⟩
  · refine ⟨_, cap, rfl, hc, .inr ⟨g, 0, rfl, hg, fun i hi => ?_⟩⟩
    obtain ⟨a, b⟩ := flat2_get hs i hi
    rw [Nat.zero_add]
    exact ⟨hx _ (by omega) _ a, hx _ (by omega) _ b⟩

/-- Three cells in a new block; two. -/
theorem three_new (w : World) (t : Nat) (x y z : Value) : ∀ j u, [x, y, z][j]? = some u → (w.alloc (.cells #[x, y, z] t)).cell? ((⟨w.heap.size, 0, none⟩ : Addr).add j) = some u := by
  intro j u hu
  have hj : j < 3 := (List.getElem?_eq_some_iff.1 hu).1
  rw [addr_add, cell_of_row _ _ _ _ _ _ (heap_alloc_new w _), ← hu]
  match j, hj with
  | 0, _ | 1, _ | 2, _ => rfl
theorem two_new (w : World) (t : Nat) (x y : Value) : ∀ j u, [x, y][j]? = some u → (w.alloc (.cells #[x, y] t)).cell? ((⟨w.heap.size, 0, none⟩ : Addr).add j) = some u := by
  intro j u hu
  have hj : j < 2 := (List.getElem?_eq_some_iff.1 hu).1
  rw [addr_add, cell_of_row _ _ _ _ _ _ (heap_alloc_new w _), ← hu]
  match j, hj with
  | 0, _ | 1, _ => rfl

end Go.Proofs.Ytkejpdkokaiidaa
