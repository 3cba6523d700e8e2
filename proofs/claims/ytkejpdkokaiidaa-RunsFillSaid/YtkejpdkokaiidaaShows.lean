/- The laws' shows: an index tells what the reference tells. -/
import Derived.Test.YtkejpdkokaiidaaIdx
import Derived.Test.YtkejpdkokaiidaaLawSpans
namespace Go.Proofs.Ytkejpdkokaiidaa
open Go.ChangeShapes Go.WideShapes Go.ChangeAt Go.RowKit Bk Rn
set_option linter.unusedVariables false

/-- An index and the reference's truths beside it, behind world w0. -/
structure PlAt (w0 : World) (x : Nat) (own : Nat → Prop) (lim : Int) (f : Nat → Bool) (v : Value) (W : World) : Prop where
  b : Below w0.heap.size w0 W
  ix : Ix W x own lim f
  o : ∀ b, own b → w0.heap.size ≤ b
  s : BoolS W (fun b => ¬ own b) v lim.toNat f
section
variable {w0 W W' : World} {x : Nat} {own : Nat → Prop} {lim : Int} {f f' : Nat → Bool} {v v' : Value}
theorem Ix.below (h : Ix W x own lim f) (hb : Below W.heap.size W W') : Ix W' x own lim f := h.keep (S := fun _ => False) (Keep.ofBelow hb) fun _ _ _ h => h
theorem PlAt.step (i : PlAt w0 x own lim f v W) (hb : Below W.heap.size W W') : PlAt w0 x own lim f v W' := ⟨i.b.trans (hb.mono i.b.size), i.ix.below hb, i.o, i.s.below hb⟩
/-- Truths that a call made, of those that there were or of its own. -/
theorem PlAt.new (i : PlAt w0 x own lim f v W) (hs : BoolS W' (fun b => (fun b => ¬ own b) b ∨ (W.heap.size ≤ b ∧ b < W'.heap.size)) v' lim.toNat f') : BoolS W' (fun b => ¬ own b) v' lim.toNat f' :=
  hs.mono fun b hb ho => hb.elim (fun h => h ho) fun h => by have := i.ix.lt b ho; omega
/-- The index's own calls; truths beside it. -/
theorem PlAt.to (i : PlAt w0 x own lim f v W) (ht : IxTo x own lim f' W W') {g : Nat → Bool} {u : Value} (hs : BoolS W (fun b => ¬ own b) u lim.toNat g) : ∃ own', Ix W' x own' lim f' ∧ BoolS W' (fun b => ¬ own' b) u lim.toNat g ∧ (∀ b, own' b → w0.heap.size ≤ b) ∧ Below w0.heap.size w0 W' := by
  obtain ⟨own', h1, k, o⟩ := ht
  refine ⟨own', h1, ?_, fun b hb => ?_, i.b.trans (k.below (B := w0.heap.size) i.b.size i.o)⟩
  · obtain ⟨a, cap, rfl, hr⟩ := hs
    exact ⟨a, cap, rfl, hr.keep k (fun b hb _ => hb) fun b hb hlt ho => (o b ho).elim hb fun h => by omega⟩
  · rcases o b hb with h | h
    · exact i.o b h
    · exact Nat.le_trans i.b.size h
end

set_option maxHeartbeats 1000000 in
theorem shows_any {w0 W : World} {x : Nat} {own : Nat → Prop} {lim : Int} {f : Nat → Bool} {v : Value} (i : PlAt w0 x own lim f v W) (h2 : lim ≤ 1000) :
    Calls Try.prog 11 #[.pointer (some ⟨x, 0, none⟩), v] W (MadeOne (.bool true) W) := by
  have B0 : Hid (PlAt W x own lim f v W → True) := Lib.hid fun _ => trivial
  have IX := Lib.hid i.ix
  have LS := Lib.hid (refList11_any v lim.toNat f W i.s (by omega))
  have HN : Hid (lim.toNat ≤ 1000) := Lib.hid (by omega)
  obtain ⟨a, cap, rfl, -⟩ := id i.s
  have HL := runsTo_len f lim.toNat
  clear i B0
  go_enter Try.func11, Try.ntmps11
  go_wp2_with fail
  refine LS.out.mono ?_
  rintro e w1 ⟨l1, rfl, hl1, hb1⟩
  have S1 := Lib.hid hl1
  have B1 := Lib.hid hb1
  have I1 := Lib.hid (IX.out.below hb1)
  obtain ⟨a1, c1, rfl, -⟩ := id hl1
  clear hl1 hb1 LS IX
  go_wp2_with fail
  refine (refTotal_any _ f _ S1.out HN.out).mono ?_
  rintro e w' ⟨rfl, rfl⟩
  go_wp2_with fail
  refine (idxList_any I1.out h2).mono ?_
  rintro e w2 ⟨l2, rfl, hl2, -, hb2⟩
  have S2 := Lib.hid hl2
  have S1 := Lib.hid (S1.out.below hb2 (Nat.le_refl _))
  have B2 : Hid (Below W.heap.size W w2) := Lib.hid (B1.out.trans (hb2.mono B1.out.size))
  have I2 := Lib.hid (I1.out.below hb2)
  obtain ⟨a2, c2, rfl, -⟩ := id hl2
  clear hl2 hb2 I1 B1
  go_wp2_with fail
  refine (lawSpans_yes _ _ _ _ S2.out S1.out (by have := HN.out; omega)).mono ?_
  rintro e w' ⟨rfl, nd, rfl⟩
  have B3 : Hid (Below W.heap.size W (w2.drewN nd)) := Lib.hid (below_drewN B2.out nd)
  have I3 : Hid (Ix (w2.drewN nd) x own lim f) := Lib.hid (I2.out.below (below_drewN (Below.refl _ _) nd))
  clear B2 I2 S1 S2
  go_wp2_with fail
  generalize w2.drewN nd = w3 at *
  refine (idxTotal_any I3.out h2).mono ?_
  rintro e w4 ⟨rfl, hb4⟩
  have B4 : Hid (Below W.heap.size W w4) := Lib.hid (B3.out.trans (hb4.mono B3.out.size))
  have I4 := Lib.hid (I3.out.below hb4)
  clear hb4 I3 B3
  go_wp2_with fail
  refine (idxLongest_any I4.out h2).mono ?_
  rintro e w5 ⟨rfl, hb5⟩
  have B5 : Hid (Below W.heap.size W w5) := Lib.hid (B4.out.trans (hb5.mono B4.out.size))
  clear hb5
  go_wp2_with fail
  go_ret
  exact ⟨by simp, B5.out⟩

end Go.Proofs.Ytkejpdkokaiidaa
