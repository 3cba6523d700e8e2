/- Blocks of cells that are known whole, by a function of the place; worlds that are as they were but for some blocks. -/
import Derived.Test.YtkejpdkokaiidaaSl
import Derived.Maps.OwnSet
import Derived.Laws.CopyOwn
namespace Go.Proofs.Ytkejpdkokaiidaa
open Go.ChangeShapes Go.WideShapes Go.ChangeAt Go.RowKit
set_option linter.unusedVariables false

/-- Block b is n cells of type t, cell k is f k; none is frozen. -/
def Row (w : World) (b t n : Nat) (f : Nat → Value) : Prop := ∃ cs : Array Value, w.heap[b]? = some (.cells cs t (0, 0)) ∧ cs.size = n ∧ ∀ k, k < n → cs[k]? = some (f k)

section
variable {w w' : World} {b t n : Nat} {f g : Nat → Value}
theorem Row.lt (h : Row w b t n f) : b < w.heap.size := by
  obtain ⟨cs, h, _⟩ := h
  exact (Array.getElem?_eq_some_iff.1 h).1
theorem Row.cell (h : Row w b t n f) {k : Nat} (hk : k < n) : w.cell? ⟨b, k, none⟩ = some (f k) := by
  obtain ⟨cs, h, _, hc⟩ := h
  simp only [World.cell?, h]
  simpa using hc k hk
theorem Row.frozen (h : Row w b t n f) (k : Nat) : w.frozen? ⟨b, k, none⟩ = false := by
  obtain ⟨cs, h, _⟩ := h
  simp [World.frozen?, h]
theorem Row.congr (h : Row w b t n f) (hg : ∀ k, k < n → f k = g k) : Row w b t n g := by
  obtain ⟨cs, h, hs, hc⟩ := h
  exact ⟨cs, h, hs, fun k hk => by rw [hc k hk, hg k hk]⟩
theorem Row.keep (h : Row w b t n f) (hb : w'.heap[b]? = w.heap[b]?) : Row w' b t n f := by
  obtain ⟨cs, h, r⟩ := h
  exact ⟨cs, hb.trans h, r⟩
theorem Row.alloc (h : Row w b t n f) (o : Obj) : Row (w.alloc o) b t n f := h.keep (Below.heap_alloc w o b h.lt)
theorem Row.far (h : Row w b t n f) {p : Addr} (hp : b ≠ p.block) (u : Value) : Row (w.setCell p u) b t n f := h.keep (Below.heap_setCell w p u b hp)
theorem Row.set (h : Row w b t n f) (i : Nat) (u : Value) : Row (w.setCell ⟨b, i, none⟩ u) b t n (fun j => if j = i then u else f j) := by
  obtain ⟨cs, h, hs, hc⟩ := h
  refine ⟨cs.setIfInBounds i u, by simp [World.setCell, Array.getElem?_modify, h], by simpa using hs, fun k hk => ?_⟩
  rw [Array.getElem?_setIfInBounds]
  by_cases e : i = k
  · subst e; rw [if_pos rfl, if_pos (by omega)]; simp
  · rw [if_neg e, hc k hk]; simp only []; rw [if_neg (fun h : k = i => e h.symm)]
theorem Row.new (w : World) (t : Nat) (cs : Array Value) (n : Nat) (f : Nat → Value) (hn : cs.size = n) (hc : ∀ k, k < n → cs[k]? = some (f k)) : Row (w.alloc (.cells cs t)) w.heap.size t n f :=
  ⟨cs, heap_alloc_new w _, hn, hc⟩
theorem Row.size_le {n' : Nat} (h : Row w b t n f) (h' : Row w b t n' g) : n = n' := by
  obtain ⟨cs, h, hs, _⟩ := h
  obtain ⟨cs', h', hs', _⟩ := h'
  rw [h] at h'; cases h'; omega
theorem Row.ne {b' t' n' : Nat} (h : Row w b t n f) (h' : Row w b' t' n' g) (ht : t ≠ t') : b ≠ b' := by
  rintro rfl
  obtain ⟨cs, h, _⟩ := h
  obtain ⟨cs', h', _⟩ := h'
  rw [h] at h'; cases h'; exact ht rfl
theorem Row.neMap {b' : Nat} {es : Array MapEntry} {c : Nat} (h : Row w b t n f) (h' : w.heap[b']? = some (.map es c)) : b ≠ b' := by
  rintro rfl
  obtain ⟨cs, h, _⟩ := h
  rw [h] at h'; cases h'
/-- Cells of a row that a copy laid over from place off on. -/
theorem Row.laid (h : Row w b t n f) (off : Nat) (cs : List Value) (cur : Array Value) (hcur : w.heap[b]? = some (.cells cur t (0, 0))) (hfit : off + cs.length ≤ n) :
    Row (w.setRow b (cur.toList.take off ++ (cs ++ cur.toList.drop (off + cs.length))).toArray) b t n (fun j => if off ≤ j ∧ j < off + cs.length then cs.getD (j - off) undef else f j) := by
  obtain ⟨c0, h, hs, hc⟩ := h
  obtain rfl : c0 = cur := by rw [h] at hcur; cases hcur; rfl
  have hl : c0.toList.length = n := by simpa using hs
  refine ⟨_, setRow_heap w b _ _ t _ h, by simp; omega, fun k hk => ?_⟩
  have hk' : c0.toList[k]? = some (f k) := by simpa using hc k hk
  rw [List.getElem?_toArray]
  show _ = some (if off ≤ k ∧ k < off + cs.length then cs.getD (k - off) undef else f k)
  by_cases h1 : k < off
  · rw [List.getElem?_append_left (by simp; omega), List.getElem?_take_of_lt h1, hk', if_neg (by omega)]
  · rw [List.getElem?_append_right (by simp; omega)]
    have e1 : (c0.toList.take off).length = off := by rw [List.length_take]; omega
    rw [e1]
    by_cases h2 : k < off + cs.length
    · rw [List.getElem?_append_left (by omega), if_pos (by omega), List.getD_eq_getElem?_getD, List.getElem?_eq_getElem (by omega)]; simp
    · rw [List.getElem?_append_right (by omega), List.getElem?_drop, if_neg (by omega), show off + cs.length + (k - off - cs.length) = k from by omega, hk']
end

/-- w' is w but for the blocks S, and for new ones. -/
structure Keep (S : Nat → Prop) (w w' : World) : Prop where
  os : w'.os = w.os
  tape : w'.tape = w.tape
  output : w'.output = w.output
  size : w.heap.size ≤ w'.heap.size
  block : ∀ k, k < w.heap.size → ¬ S k → w'.heap[k]? = w.heap[k]?

theorem Keep.refl (S : Nat → Prop) (w : World) : Keep S w w := ⟨rfl, rfl, rfl, Nat.le_refl _, fun _ _ _ => rfl⟩
theorem Keep.trans {S S' : Nat → Prop} {a b c : World} (h : Keep S a b) (k : Keep S' b c) (hS : ∀ i, i < a.heap.size → S' i → S i) : Keep S a c :=
  ⟨k.os.trans h.os, k.tape.trans h.tape, k.output.trans h.output, Nat.le_trans h.size k.size, fun i hi hn => (k.block i (Nat.lt_of_lt_of_le hi h.size) (fun e => hn (hS i hi e))).trans (h.block i hi hn)⟩
theorem Keep.trans' {S : Nat → Prop} {a b c : World} (h : Keep S a b) (k : Keep S b c) : Keep S a c := h.trans k fun _ _ h => h
theorem Keep.mono {S S' : Nat → Prop} {a b : World} (h : Keep S a b) (hS : ∀ i, i < a.heap.size → S i → S' i) : Keep S' a b :=
  ⟨h.os, h.tape, h.output, h.size, fun i hi hn => h.block i hi (fun e => hn (hS i hi e))⟩
theorem Keep.drewN {S : Nat → Prop} {a b : World} (h : Keep S a b) (n : Nat) : Keep S a (b.drewN n) := ⟨h.os, h.tape, h.output, h.size, h.block⟩
theorem Keep.drew {S : Nat → Prop} {a b : World} (h : Keep S a b) : Keep S a b.drew := ⟨h.os, h.tape, h.output, h.size, h.block⟩
theorem Keep.alloc {S : Nat → Prop} {a b : World} (h : Keep S a b) (o : Obj) : Keep S a (b.alloc o) :=
  h.trans' ⟨rfl, rfl, rfl, by simp, fun k hk _ => Below.heap_alloc _ _ _ hk⟩
theorem Keep.setCell {S : Nat → Prop} {a b : World} (h : Keep S a b) {p : Addr} (hp : p.block < a.heap.size → S p.block) (u : Value) : Keep S a (b.setCell p u) :=
  h.trans (S' := fun i => i = p.block) ⟨rfl, rfl, rfl, by simp [World.setCell], fun k hk hn => Below.heap_setCell _ _ _ _ hn⟩ fun i hi e => by subst e; exact hp hi
theorem Keep.setRow {S : Nat → Prop} {a b : World} (h : Keep S a b) {g : Nat} (hp : g < a.heap.size → S g) (cs : Array Value) : Keep S a (b.setRow g cs) :=
  h.trans (S' := fun i => i = g) ⟨rfl, rfl, rfl, by simp [World.setRow], fun k hk hn => setRow_other b g k cs hn⟩ fun i hi e => by subst e; exact hp hi
theorem Keep.ofGrown {S : Nat → Prop} {a b : World} {row : Option Nat} (h : a.grownBy b row) (hr : ∀ k, row = some k → S k) : Keep S a b :=
  ⟨h.os, h.tape, h.output, h.size, fun i hi hn => h.block i hi (fun e => hn (hr i e.symm))⟩
theorem Keep.ofBelow {S : Nat → Prop} {a b : World} (h : Below a.heap.size a b) : Keep S a b := ⟨h.os, h.tape, h.output, h.size, fun i hi _ => h.block i hi⟩
theorem Keep.below {S : Nat → Prop} {a b : World} {B : Nat} (h : Keep S a b) (hB : B ≤ a.heap.size) (hS : ∀ i, S i → B ≤ i) : Below B a b :=
  ⟨h.os, h.tape, h.output, h.size, fun i hi => h.block i (by omega) (fun e => by have := hS i e; omega)⟩
theorem Keep.row {S : Nat → Prop} {a b : World} {g t n : Nat} {f : Nat → Value} (h : Keep S a b) (hr : Row a g t n f) (hg : ¬ S g) : Row b g t n f := hr.keep (h.block g hr.lt hg)
theorem Keep.cell {S : Nat → Prop} {a b : World} (h : Keep S a b) {p : Addr} (hp : p.block < a.heap.size) (hg : ¬ S p.block) : b.cell? p = a.cell? p := World.cell?_of_block (w := a) (h.block p.block hp hg)
theorem Keep.frozen {S : Nat → Prop} {a b : World} (h : Keep S a b) {p : Addr} (hp : p.block < a.heap.size) (hg : ¬ S p.block) : b.frozen? p = a.frozen? p := World.frozen?_of_block (w := a) (h.block p.block hp hg)
theorem Keep.ints {S : Nat → Prop} {a b : World} {k : IntKind} {v : Value} {xs : List Int} (h : Keep S a b) (hv : IsInts k a v xs) (hg : ∀ g, v.ownBlock = some g → ¬ S g) : IsInts k b v xs := by
  obtain ⟨ad, cap, rfl, hc, hx⟩ := hv
  refine ⟨ad, cap, rfl, hc, hx.imp id ?_⟩
  rintro ⟨g, off, rfl, hlt, hcell⟩
  exact ⟨g, off, rfl, Nat.lt_of_lt_of_le hlt h.size, fun i hi => (h.cell hlt (hg g rfl)).trans (hcell i hi)⟩

end Go.Proofs.Ytkejpdkokaiidaa
