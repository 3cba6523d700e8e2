/- Boxes of any type: stored whole, loaded whole, field by field; handed back. -/
import Derived.Test.YtkejpdkokaiidaaRow
import Derived.Deep.MidRow
import Derived.Laws.Tables
namespace Go.Proofs.Ytkejpdkokaiidaa
open Go.ChangeShapes Go.WideShapes Go.ChangeAt Go.RowKit
set_option linter.unusedVariables false

/-- Block b is a box of type t that holds these cells. -/
def BoxT (t : Nat) (w : World) (b : Nat) (cs : Array Value) : Prop := w.heap[b]? = some (.cells cs t (0, 0))

section
variable {t : Nat} {w w' : World} {b : Nat} {cs : Array Value}
theorem BoxT.lt (h : BoxT t w b cs) : b < w.heap.size := (Array.getElem?_eq_some_iff.1 h).1
theorem BoxT.keep {S : Nat → Prop} (h : BoxT t w b cs) (hk : Keep S w w') (hS : ¬ S b) : BoxT t w' b cs := (hk.block b h.lt hS).trans h
theorem BoxT.below {B : Nat} (h : BoxT t w b cs) (hb : Below B w w') (hB : b < B) : BoxT t w' b cs := (hb.block b hB).trans h
theorem BoxT.cell (h : BoxT t w b cs) (i : Nat) : w.cell? ⟨b, i, none⟩ = cs[i]? := cell_of_row w b i cs _ _ h
theorem BoxT.frozen (h : BoxT t w b cs) (i : Nat) : w.frozen? ⟨b, i, none⟩ = false := frozen_of_row w b i cs _ h
theorem BoxT.set (h : BoxT t w b cs) (i : Nat) (u : Value) : BoxT t (w.setCell ⟨b, i, none⟩ u) b (cs.setIfInBounds i u) := heap_setCell_same w b i cs _ u h
theorem BoxT.far (h : BoxT t w b cs) {p : Addr} (hp : b ≠ p.block) (u : Value) : BoxT t (w.setCell p u) b cs := (Below.heap_setCell w p u b hp).trans h
theorem BoxT.farRow (h : BoxT t w b cs) {g : Nat} (hp : b ≠ g) (us : Array Value) : BoxT t (w.setRow g us) b cs := (setRow_other w g b us hp).trans h
theorem BoxT.alloc (h : BoxT t w b cs) (o : Obj) : BoxT t (w.alloc o) b cs := (Below.heap_alloc _ _ _ h.lt).trans h
theorem BoxT.new (t : Nat) (w : World) (cs : Array Value) : BoxT t (w.alloc (.cells cs t)) w.heap.size cs := heap_alloc_new w _
theorem BoxT.row (h : BoxT t w b cs) (us : Array Value) : BoxT t (w.setRow b us) b us := setRow_heap w b _ us t _ h
theorem BoxT.drewN (h : BoxT t w b cs) (n : Nat) : BoxT t (w.drewN n) b cs := h
theorem BoxT.drew (h : BoxT t w b cs) : BoxT t w.drew b cs := h
end

theorem below_setRow {w w1 : World} {B b : Nat} (h : Below B w w1) (hb : B ≤ b) (cs : Array Value) : Below B w (w1.setRow b cs) := by
  have k : Keep (fun i => i = b) w1 (w1.setRow b cs) := Keep.setRow (S := fun i => i = b) (g := b) (Keep.refl _ w1) (fun _ => rfl) cs
  exact ⟨k.os.trans h.os, k.tape.trans h.tape, k.output.trans h.output, Nat.le_trans h.size k.size, fun i hi => (setRow_other w1 b i cs (by omega)).trans (h.block i hi)⟩

theorem wpList_store_boxT {P : Program} {ops : Array Oper} {rest : List Oper} {op : Oper} {a : Act} {w : World} {Q : Exit → Act → World → Prop} (hgd : op.guard = none) (ty : TypeId) (x y : Operand) (ho : op.op = .store ty x y)
    {b : Nat} {old cells : Array Value} (hx : a.eval x = .pointer (some ⟨b, 0, none⟩)) (hy : a.eval y = .agg cells) {t : Nat} (hb : BoxT t w b old) (hi : (P.info? ty).map (·.size) = some cells.size) (hold : old.size = cells.size) (h1 : cells.all (·.oneCell') = true)
    (h : wpList P ops Q rest (a.put op.dst undef) (w.setRow b cells)) : wpList P ops Q (op :: rest) a w :=
  wpList_store_row hgd ty x y ho b cells hx hy t old hb hi hold h1 h
theorem wpList_load_boxT {P : Program} {ops : Array Oper} {rest : List Oper} {o : Oper} {a : Act} {w : World} {Q : Exit → Act → World → Prop} (hgd : o.guard = none) (ty : TypeId) (x : Operand) (ho : o.op = .load ty x)
    {b : Nat} {cells : Array Value} {d : TypeDesc} (hx : a.eval x = .pointer (some ⟨b, 0, none⟩)) {t : Nat} (hb : BoxT t w b cells) (hu : P.underlying ty = some d) (hd : (match d with | .struct _ | .array _ _ => true | _ => false) = true) (hc : (P.info? ty).map (·.size) = some cells.size)
    (h : wpList P ops Q rest (a.put o.dst (.agg cells)) w) : wpList P ops Q (o :: rest) a w :=
  wpList_load_row hgd _ x ho b hx _ cells (0, 0) _ hb hu hd hc h

theorem results_boxT1 {P : Program} {fn : Func} {p : Tmp} {ty t : TypeId} {d : TypeDesc} (h : fn.results = #[.cell p ty]) (tmps : Array Value) (w : World) (b : Nat) (cs : Array Value) (hp : tmps.getD p undef = .pointer (some ⟨b, 0, none⟩)) (hb : BoxT t w b cs) (hu : P.underlying ty = some d) (hd : (match d with | .struct _ | .array _ _ => true | _ => false) = true) (hc : (P.info? ty).map (·.size) = some cs.size) :
    (results fn tmps).run P w = .ok (.agg cs) w :=
  results_cell_row h tmps w b _ cs (0, 0) _ hp hb hu hd hc
theorem results_boxT2 {P : Program} {fn : Func} {p q : Tmp} {ty t : TypeId} {d : TypeDesc} (h : fn.results = #[.cell p ty, .tmp q]) (tmps : Array Value) (w : World) (b : Nat) (cs : Array Value) (v : Value) (hp : tmps.getD p undef = .pointer (some ⟨b, 0, none⟩)) (hb : BoxT t w b cs) (hu : P.underlying ty = some d) (hd : (match d with | .struct _ | .array _ _ => true | _ => false) = true) (hc : (P.info? ty).map (·.size) = some cs.size) (hq : tmps.getD q undef = v) :
    (results fn tmps).run P w = .ok (.tuple #[.agg cs, v]) w := by
  have hp' : tmps[p]?.getD undef = .pointer (some ⟨b, 0, none⟩) := by simpa using hp
  have hq' : tmps[q]?.getD undef = v := by simpa using hq
  have hl := run_loadVar_row (P := P) w b _ ty cs (0, 0) _ hb hu hd hc
  simp [results, h, hp', hq', asAddr, hl, Result.andThen]

/-- Boxes that were made just before a call, behind it. -/
theorem boxT_of1 {w W : World} {t1 : TypeId} {c1 : Array Value} (hb : Below (w.alloc (.cells c1 t1)).heap.size (w.alloc (.cells c1 t1)) W) :
    BoxT t1 W w.heap.size c1 ∧ Below w.heap.size w W ∧ w.heap.size + 1 ≤ W.heap.size := by
  have e1 : (w.alloc (.cells c1 t1)).heap.size = w.heap.size + 1 := by simp
  refine ⟨(BoxT.new t1 w c1).below hb (by omega), ((Below.refl _ _).alloc (Nat.le_refl _) _).trans (hb.mono (by omega)), by have := hb.size; omega⟩
theorem boxT_of2 {w W : World} {t1 t2 : TypeId} {c1 c2 : Array Value} (hb : Below ((w.alloc (.cells c1 t1)).alloc (.cells c2 t2)).heap.size ((w.alloc (.cells c1 t1)).alloc (.cells c2 t2)) W) :
    BoxT t1 W w.heap.size c1 ∧ BoxT t2 W (w.heap.size + 1) c2 ∧ Below w.heap.size w W ∧ w.heap.size + 2 ≤ W.heap.size := by
  have e1 : (w.alloc (.cells c1 t1)).heap.size = w.heap.size + 1 := by simp
  obtain ⟨b2, k, s⟩ := boxT_of1 hb
  rw [e1] at b2 s
  refine ⟨(BoxT.new t1 w c1).below k (by omega), b2, ((Below.refl _ _).alloc (Nat.le_refl _) _).trans (k.mono (by omega)), s⟩
theorem boxT_of3 {w W : World} {t1 t2 t3 : TypeId} {c1 c2 c3 : Array Value} (hb : Below (((w.alloc (.cells c1 t1)).alloc (.cells c2 t2)).alloc (.cells c3 t3)).heap.size (((w.alloc (.cells c1 t1)).alloc (.cells c2 t2)).alloc (.cells c3 t3)) W) :
    BoxT t1 W w.heap.size c1 ∧ BoxT t2 W (w.heap.size + 1) c2 ∧ BoxT t3 W (w.heap.size + 1 + 1) c3 ∧ Below w.heap.size w W ∧ w.heap.size + 3 ≤ W.heap.size := by
  have e1 : (w.alloc (.cells c1 t1)).heap.size = w.heap.size + 1 := by simp
  obtain ⟨b2, b3, k, s⟩ := boxT_of2 hb
  rw [e1] at b2 b3 s
  refine ⟨(BoxT.new t1 w c1).below k (by omega), b2, b3, ((Below.refl _ _).alloc (Nat.le_refl _) _).trans (k.mono (by omega)), s⟩

theorem below_undrew {B : Nat} {w W : World} (h : Below B w.drew W) : Below B w W := ⟨h.os, h.tape, h.output, h.size, h.block⟩
theorem boxT_of2d {w W : World} {t1 t2 : TypeId} {c1 c2 : Array Value} (hb : Below ((w.alloc (.cells c1 t1)).alloc (.cells c2 t2)).drew.heap.size ((w.alloc (.cells c1 t1)).alloc (.cells c2 t2)).drew W) :
    BoxT t1 W w.heap.size c1 ∧ BoxT t2 W (w.heap.size + 1) c2 ∧ Below w.heap.size w W ∧ w.heap.size + 2 ≤ W.heap.size := boxT_of2 (below_undrew hb)

end Go.Proofs.Ytkejpdkokaiidaa
