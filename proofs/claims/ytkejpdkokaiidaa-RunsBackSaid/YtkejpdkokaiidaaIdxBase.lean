/- What an index of runs is, in memory. -/
import Derived.Test.YtkejpdkokaiidaaRunMapMath
import Derived.Test.YtkejpdkokaiidaaRow
import Derived.Test.YtkejpdkokaiidaaBoxes
import Derived.Test.YtkejpdkokaiidaaMade
import Derived.Maps.RangeWalk
import Derived.Maps.OwnOps
namespace Go.Proofs.Ytkejpdkokaiidaa
open Go.ChangeShapes Go.WideShapes Go.ChangeAt Go.RowKit Bk Rn
set_option linter.unusedVariables false

theorem ixKey : Go.Maps.Keyed Try.prog 3 := Go.Maps.int_keyed Try.underlying3

/-- The index at block x, of blocks below lim, those free of which f holds; what it owns. -/
structure Ix (w : World) (x : Nat) (own : Nat → Prop) (lim : Int) (f : Nat → Bool) : Prop where
  at_ : ∃ bm, BoxT 62 w x #[.int .i64 lim, .map (some bm)] ∧ w.ownsMap Try.prog 3 (plainElem (H := Unit) Try.prog 3) bm (runsTo f lim.toNat).length (mapOf f lim.toNat) ∧ own bm
  ox : own x
  lt : ∀ b, own b → b < w.heap.size
  free : ∀ b, f b = true → 1 ≤ b ∧ (b : Int) < lim

section
variable {w w' : World} {x : Nat} {own S : Nat → Prop} {lim : Int} {f : Nat → Bool}
theorem ixMap_keep {b n : Nat} {D : DataW Unit} (h : w.ownsMap Try.prog 3 (plainElem (H := Unit) Try.prog 3) b n D) (hk : Keep S w w') (hS : ¬ S b) : w'.ownsMap Try.prog 3 (plainElem (H := Unit) Try.prog 3) b n D := by
  have hlt := h.lt
  obtain ⟨es, c, h1, r⟩ := h
  exact ⟨es, c, (hk.block b hlt hS).trans h1, r⟩
theorem Ix.keep (h : Ix w x own lim f) (hk : Keep S w w') (hS : ∀ b, own b → b < w.heap.size → ¬ S b) : Ix w' x own lim f where
  at_ := by
    obtain ⟨bm, hb, hm, ho⟩ := h.at_
    exact ⟨bm, hb.keep hk (hS x h.ox hb.lt), ixMap_keep hm hk (hS bm ho hm.lt), ho⟩
  ox := h.ox
  lt := fun b hb => Nat.lt_of_lt_of_le (h.lt b hb) hk.size
  free := h.free
theorem Ix.run (h : Ix w x own lim f) {s k : Nat} (hr : Run f lim.toNat s k) : 1 ≤ s ∧ ((s + k : Nat) : Int) ≤ lim := by
  have h1 := h.free s (hr.all s (Nat.le_refl _) (by have := hr.pos; omega))
  have h2 := hr.le
  omega
theorem ixKl (x : Int) (h : -9223372036854775808 ≤ x ∧ x ≤ 9223372036854775807) : keyOf Try.prog 3 (.int .i64 x) = some (.int .i64 x) :=
  Go.Maps.keyOf_int_mk Try.underlying3 (WalkArith.wf_i64 (by omega))
theorem ixEl (x : Int) (h : -9223372036854775808 ≤ x ∧ x ≤ 9223372036854775807) : (plainElem (H := Unit) Try.prog 3) (.int .i64 x) = some (.lit (.int .i64 x), []) :=
  plainElem_int Try.underlying3 (WalkArith.wf_i64 (by omega))
/-- A map is no larger than what it reads as. -/
theorem ixMap_fit {b n n' : Nat} {D : DataW Unit} (h : w.ownsMap Try.prog 3 (plainElem (H := Unit) Try.prog 3) b n D) (hn : Go.Maps.size D = n') : w.ownsMap Try.prog 3 (plainElem (H := Unit) Try.prog 3) b n' D := by
  obtain ⟨es, c, h1, h2, h3, rfl⟩ := h
  refine ⟨es, c, h1, h2, ?_, rfl⟩
  rw [← hn]
  show es.size ≤ (List.foldr DataW.insert [] _).length
  rw [length_read]
  exact Nat.le_refl _

/-- A range over an index' map, some way on. -/
def Rng (f : Nat → Bool) (N : Nat) (w : World) (bm r : Nat) (wr : World) (left : Lit → Bool) (cnt : Nat) : Prop :=
  wr.ranges Try.prog 3 (plainElem (H := Unit) Try.prog 3) bm r (runsTo f N).length (mapOf f N) left cnt ∧ (∀ z, left z = true → Go.Maps.has (mapOf f N) z = true) ∧ Below w.heap.size w wr ∧ w.heap.size ≤ r
theorem Rng.start {N : Nat} {bm n : Nat} {wa w0 : World} {B : Nat} (hm : wa.ownsMap Try.prog 3 (plainElem (H := Unit) Try.prog 3) bm n (mapOf f N)) (hb : Below w.heap.size w wa) (h : w0.ranges Try.prog 3 (plainElem (H := Unit) Try.prog 3) bm wa.heap.size (runsTo f N).length (mapOf f N) (Go.Maps.has (mapOf f N)) B) (hg : wa.grownBy w0 none) :
    Rng f N w bm wa.heap.size w0 (Go.Maps.has (mapOf f N)) B :=
  ⟨h, fun _ h => h, hb.grown hg hb.size (fun k hk => by cases hk), hb.size⟩
/-- The step: what comes is a run. -/
theorem Rng.step {N bm r cnt cnt' : Nat} {wr w1 : World} {left : Lit → Bool} {x c : Int} (h : Rng f N w bm r wr left cnt) (hl : left (.int .i64 x) = true) (hat : ∀ zd, (mapOf f N).atKey (.int .i64 x) zd = .lit (.int .i64 c))
    (hr : w1.ranges Try.prog 3 (plainElem (H := Unit) Try.prog 3) bm r (runsTo f N).length (mapOf f N) (fun z => left z && !z.sameKey (.int .i64 x)) cnt') (hg : wr.grownBy w1 (some r)) :
    Rng f N w bm r w1 (fun z => left z && !z.sameKey (.int .i64 x)) cnt' ∧ ∃ s k : Nat, x = s ∧ c = k ∧ Run f N s k := by
  refine ⟨⟨hr, fun z hz => h.2.1 z (by simp at hz; exact hz.1), h.2.2.1.grown hg h.2.2.1.size (fun k hk => by cases hk; exact h.2.2.2), h.2.2.2⟩, ?_⟩
  obtain ⟨s, k, rfl, hrun⟩ := has_run (h.2.1 _ hl)
  have h1 := (hat .nil).symm.trans (at_mapOf hrun .nil)
  injection h1 with h1
  injection h1 with _ h1
  exact ⟨s, k, rfl, h1, hrun⟩
theorem Rng.meas {N bm r cnt cnt' : Nat} {wr w1 : World} {left left' : Lit → Bool} (h : Rng f N w bm r wr left cnt) (h' : Rng f N w bm r w1 left' cnt') (hlt : cnt' < cnt) : w1.rangeLeft bm r < wr.rangeLeft bm r := by
  rw [h.1.left_eq, h'.1.left_eq]; exact hlt
end

theorem infoIx : (Try.prog.info? 38).map (·.size) = some 2 := by kernel_rfl
theorem ixSz (a b c d : Value) : (#[a, b] : Array Value).size = (#[c, d] : Array Value).size := rfl
theorem ixOne (a b : Int) : (#[Value.int .i64 a, Value.int .i64 b] : Array Value).all (·.oneCell') = true := by simp [Value.oneCell']

end Go.Proofs.Ytkejpdkokaiidaa
