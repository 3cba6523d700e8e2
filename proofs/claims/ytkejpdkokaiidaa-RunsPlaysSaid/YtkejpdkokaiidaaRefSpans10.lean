/- The reference: Spans, of free blocks. -/
import Derived.Test.YtkejpdkokaiidaaSps
import Derived.Test.YtkejpdkokaiidaaBoxes
namespace Go.Proofs.Ytkejpdkokaiidaa
open Go.ChangeShapes Go.WideShapes Go.ChangeAt Go.RowKit Bk
set_option linter.unusedVariables false

/-- A row so far, of n spans of type e. -/
def SpsAt (e : TypeId) (l : List (Int × Int)) (n B : Nat) (v : Value) (w wr : World) : Prop :=
  wr.ownsRow B e 2 v n ((flat2 l).map (Value.int .i64)) ∧ n = l.length ∧ Below B w wr
/-- One span more. -/
theorem SpsAt.snoc {e : TypeId} {l : List (Int × Int)} {n B : Nat} {v v' : Value} {w wr w1 : World} {o : Obj} {x y : Int} (hh : SpsAt e l n B v w wr) (hB : B ≤ wr.heap.size)
    (hown : w1.ownsRow B e 2 v' (n + 1) ((flat2 l).map (Value.int .i64) ++ [.int .i64 x, .int .i64 y])) (hg : (wr.alloc o).grownBy w1 v.ownBlock) : SpsAt e (l ++ [(x, y)]) (n + 1) B v' w w1 := by
  refine ⟨?_, by rw [List.length_append, ← hh.2.1]; rfl, (hh.2.2.alloc hB _).grown hg (by simp; omega) (fun b hb => (hh.1.lt b hb).1)⟩
  rw [flat2_app, List.map_append]
  exact hown
theorem flat2_bump (l : List (Int × Int)) (p : Int × Int) : ((flat2 (l ++ [p])).map (Value.int .i64)).set (l.length * 2 + 1) (.int .i64 (p.2 + 1)) = (flat2 (bump (l ++ [p]))).map (Value.int .i64) := by
  rw [bump_snoc, flat2_app, flat2_app, List.map_append, List.map_append, List.set_append_right _ _ (by rw [List.length_map, flat2_len]; omega)]
  congr 1
  rw [List.length_map, flat2_len, show l.length * 2 + 1 - l.length * 2 = 1 by omega]
  rfl
/-- The last span is one longer. -/
theorem SpsAt.bumped {e : TypeId} {l : List (Int × Int)} {n B g cap j : Nat} {w wr : World} {x : Int} (hne : l ≠ []) (hj : n = j + 1) (hx : (l.getLast hne).2 = x) (hh : SpsAt e l n B (.slice (some ⟨g, 0, none⟩) n cap) w wr) (hg : B ≤ g) :
    SpsAt e (bump l) n B (.slice (some ⟨g, 0, none⟩) n cap) w (wr.setCell ⟨g, j * 2 + 1, none⟩ (.int .i64 (x + 1))) := by
  have hl : l = l.dropLast ++ [l.getLast hne] := (List.dropLast_concat_getLast hne).symm
  have hd : l.dropLast.length = j := by have := hh.2.1; simp; omega
  refine ⟨?_, by rw [bump_len hne]; exact hh.2.1, hh.2.2.setCell (p := ⟨g, j * 2 + 1, none⟩) hg _⟩
  have hs := (hh.1.stored (j * 2 + 1) (.int .i64 (x + 1))).1
  have hb := flat2_bump l.dropLast (l.getLast hne)
  rw [← hl, hd, hx] at hb
  rw [← hb]
  exact hs

theorem SpsAt.last {e : TypeId} {l : List (Int × Int)} {n B g cap j : Nat} {w wr : World} (hne : l ≠ []) (hj : n = j + 1) (hh : SpsAt e l n B (.slice (some ⟨g, 0, none⟩) n cap) w wr) :
    wr.cell? ⟨g, j * 2 + 1, none⟩ = some (.int .i64 (l.getLast hne).2) ∧ wr.frozen? ⟨g, j * 2 + 1, none⟩ = false := by
  have hl := hh.2.1
  refine ⟨?_, hh.1.frozenAt _⟩
  rw [hh.1.cellAt _ (by omega), List.getElem?_map, (flat2_get l j (by omega)).2, List.getD_eq_getElem?_getD, List.getElem?_eq_getElem (by omega), List.getLast_eq_getElem]
  simp [show l.length - 1 = j by omega]
/-- Where the spans so far lie. -/
theorem SpsAt.at_ {e : TypeId} {l : List (Int × Int)} {n B : Nat} {v : Value} {w wr : World} (hh : SpsAt e l n B v w wr) (hn : 0 < n) : ∃ g cap, v = .slice (some ⟨g, 0, none⟩) n cap ∧ B ≤ g := by
  rcases hh.1.2 with ⟨_, h0⟩ | ⟨g, cap, _, rfl, hg, _⟩
  · omega
  · exact ⟨g, cap, rfl, hg⟩

theorem infoSp : (Try.prog.info? 67).map (fun i => (i.zero, i.size, i.bytes)) = some (some (.agg #[.int .i64 0, .int .i64 0]), 2, 16) := by kernel_rfl

end Go.Proofs.Ytkejpdkokaiidaa
