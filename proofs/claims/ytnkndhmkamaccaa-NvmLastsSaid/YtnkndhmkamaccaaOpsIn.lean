/- Operations that came in: opened. -/
import Derived.Test.YtnkndhmkamaccaaDoAny
import Derived.Deep.Slices
import Derived.Deep.Fields
namespace Go.Proofs.Ytnkndhmkamaccaa
open Go.ChangeShapes Go.WideShapes Go.ChangeAt Go.RowKit Nv
open Go.Deep
set_option linter.unusedVariables false

/-- An operation lies in five cells. -/
structure OpAt (w : World) (b q : Nat) (o : OpV) : Prop where
  k : w.cell? ⟨b, q, none⟩ = some (.int .i64 o.k)
  a : w.cell? ⟨b, q + 1, none⟩ = some (.int .i64 o.a)
  n : w.cell? ⟨b, q + 2, none⟩ = some (.int .i64 o.n)
  x : w.cell? ⟨b, q + 3, none⟩ = some (.int .u64 o.x)
  c : w.cell? ⟨b, q + 4, none⟩ = some (.slice o.ca o.cl o.ccap)
  fine : o.Fine w

def OpsIn (w : World) (v : Value) (os : List OpV) : Prop :=
  ∃ a cap, v = .slice a os.length cap ∧ os.length ≤ cap ∧ (os = [] ∨ ∃ b off, a = some ⟨b, off, none⟩ ∧ b < w.heap.size ∧ ∀ i (hi : i < os.length), OpAt w b (off + 5 * i) os[i])

theorem OpV.Fine.below {w w' : World} {o : OpV} {B : Nat} (h : o.Fine w) (hb : Below B w w') (hB : w.heap.size ≤ B) : o.Fine w' := ⟨h.ha, h.hn, h.hv.below hb hB, h.hcs⟩
theorem OpAt.below {w w' : World} {b q : Nat} {o : OpV} {B : Nat} (h : OpAt w b q o) (hlt : b < w.heap.size) (hb : Below B w w') (hB : w.heap.size ≤ B) : OpAt w' b q o := by
  have e : ∀ j, w'.cell? ⟨b, j, none⟩ = w.cell? ⟨b, j, none⟩ := fun j => hb.cell (p := ⟨b, j, none⟩) (Nat.lt_of_lt_of_le hlt hB)
  exact ⟨(e _).trans h.k, (e _).trans h.a, (e _).trans h.n, (e _).trans h.x, (e _).trans h.c, h.fine.below hb hB⟩
theorem OpsIn.below {w w' : World} {v : Value} {os : List OpV} {B : Nat} (h : OpsIn w v os) (hb : Below B w w') (hB : w.heap.size ≤ B) : OpsIn w' v os := by
  obtain ⟨a, cap, rfl, hc, h⟩ := h
  refine ⟨a, cap, rfl, hc, ?_⟩
  rcases h with h | ⟨b, off, rfl, hlt, h⟩
  · exact .inl h
  · exact .inr ⟨b, off, rfl, Nat.lt_of_lt_of_le hlt hb.size, fun i hi => (h i hi).below hlt hb hB⟩

section
variable {H : Type} {enc : TypeId × Value → H} {w : World} {base : Nat}

theorem row_of_trod {P : Program} {t e : TypeId} {k : IntKind} {fuel : Nat} {v : Value} {x : DataW H × List MemPlace} (ht : P.underlying t = some (.slice e)) (he : P.underlying e = some (.int k)) (hc : P.cellsOf e = 1)
    (h : DataW.trod enc P w base (fun _ => true) true fuel t [v] = some x) : ∃ a len cap zs, v = .slice a len cap ∧ IsRow k w a len cap zs := by
  rcases open_ints ht he hc h with ⟨hcs, _⟩ | ⟨x, l, c, zs, hcs, _, hl, hm, hz, _, hcell, hwz⟩
  · simp at hcs
    exact ⟨none, 0, 0, [], hcs, .inl ⟨rfl, rfl, rfl, rfl⟩⟩
  · simp at hcs
    exact ⟨_, _, _, zs, hcs, .inr ⟨_, rfl, hl, hm, by simpa using hz, hcell, hwz⟩⟩

theorem op_of_trod {fuel : Nat} {cs : List Value} {x : DataW H × List MemPlace} (h : DataW.trod enc Try.prog w base (fun _ => true) true fuel 36 cs = some x) (hl : cs.length = 5) :
    ∃ o : OpV, cs = [.int .i64 o.k, .int .i64 o.a, .int .i64 o.n, .int .u64 o.x, .slice o.ca o.cl o.ccap] ∧ o.Fine w := by
  obtain ⟨ys, n, _, _, hlen, hyl, hf⟩ := DataW.trod_struct Try.underlying36 h
  match cs, hl with
  | [v0, v1, v2, v3, v4], _ =>
    have c3 : Try.prog.cellsOf 3 = 1 := by kernel_rfl
    have c33 : Try.prog.cellsOf 33 = 1 := by kernel_rfl
    have c34 : Try.prog.cellsOf 34 = 1 := by kernel_rfl
    have g0 : DataW.trod enc Try.prog w base (fun _ => true) true n 3 (([v0, v1, v2, v3, v4].drop 0).take (Try.prog.cellsOf 3)) = ys[0]? := hf 0 _ rfl
    have g1 : DataW.trod enc Try.prog w base (fun _ => true) true n 3 (([v0, v1, v2, v3, v4].drop 1).take (Try.prog.cellsOf 3)) = ys[1]? := hf 1 _ rfl
    have g2 : DataW.trod enc Try.prog w base (fun _ => true) true n 3 (([v0, v1, v2, v3, v4].drop 2).take (Try.prog.cellsOf 3)) = ys[2]? := hf 2 _ rfl
    have g3 : DataW.trod enc Try.prog w base (fun _ => true) true n 33 (([v0, v1, v2, v3, v4].drop 3).take (Try.prog.cellsOf 33)) = ys[3]? := hf 3 _ rfl
    have g4 : DataW.trod enc Try.prog w base (fun _ => true) true n 34 (([v0, v1, v2, v3, v4].drop 4).take (Try.prog.cellsOf 34)) = ys[4]? := hf 4 _ rfl
    have hy5 : ys.length = 5 := hyl
    rw [List.getElem?_eq_getElem (by omega), c3] at g0
    rw [List.getElem?_eq_getElem (by omega), c3] at g1
    rw [List.getElem?_eq_getElem (by omega), c3] at g2
    rw [List.getElem?_eq_getElem (by omega), c33] at g3
    rw [List.getElem?_eq_getElem (by omega), c34] at g4
    change DataW.trod enc Try.prog w base (fun _ => true) true n 34 [v4] = _ at g4
    obtain ⟨z0, e0, _, w0⟩ := DataW.trod_int Try.underlying3 g0
    obtain ⟨z1, e1, _, w1⟩ := DataW.trod_int Try.underlying3 g1
    obtain ⟨z2, e2, _, w2⟩ := DataW.trod_int Try.underlying3 g2
    obtain ⟨z3, e3, _, w3⟩ := DataW.trod_int Try.underlying33 g3
    obtain ⟨a, len, cap, zs, rfl, hr⟩ := row_of_trod Try.underlying34 Try.underlying5 (by kernel_rfl) g4
    have b1 := bounds_i64 w1
    have b2 := bounds_i64 w2
    obtain ⟨q1, q2, q3⟩ := hr.ints
    simp at e0 e1 e2 e3
    subst e0 e1 e2 e3
    refine ⟨⟨z0, z1, z2, z3, a, len, cap, zs.take len⟩, rfl, b1, b2, q1, fun k => ?_⟩
    by_cases hk : k < (zs.take len).length
    · have := bounds_u8 (q3 _ (List.getElem_mem hk))
      rw [List.getD_eq_getElem?_getD, List.getElem?_eq_getElem hk]
      exact this
    · rw [List.getD_eq_getElem?_getD, List.getElem?_eq_none (Nat.not_lt.1 hk)]; decide

theorem list_pick {w : World} {b off : Nat} {P : Nat → OpV → Prop} : ∀ len, (∀ i, i < len → ∃ o, P i o) → ∃ os : List OpV, os.length = len ∧ ∀ i (hi : i < os.length), P i os[i]
  | 0, _ => ⟨[], rfl, fun i hi => absurd hi (by simp)⟩
  | n + 1, h => by
    obtain ⟨os, h1, h2⟩ := list_pick (w := w) (b := b) (off := off) n fun i hi => h i (by omega)
    obtain ⟨o, ho⟩ := h n (by omega)
    refine ⟨os ++ [o], by simp [h1], fun i hi => ?_⟩
    by_cases e : i < os.length
    · rw [List.getElem_append_left e]; exact h2 i e
    · have : i = n := by simp at hi; omega
      subst this
      rw [List.getElem_append_right (by omega)]
      simpa [h1] using ho

theorem ops_of_trod {v : Value} {d : DataW H} {p : List MemPlace} {r : Reach} {b0 : Nat} (hv : Value.okWide Try.prog w r b0 23 v) (h : DataW.Trod enc Try.prog w base (fun _ => true) true 23 v d p) :
    ∃ os, OpsIn w v os := by
  obtain ⟨a, len, cap, rfl⟩ := okWide_slice Try.underlying23 hv
  obtain ⟨fuel, hf⟩ := h
  rcases open_slice Try.underlying23 hf with ⟨hcs, _⟩ | ⟨x, l, c, m, n, D, Pl, hcs, _, hl, hm, hmm, hx, hi⟩
  · simp [Value.cells] at hcs
    obtain ⟨rfl, rfl, rfl⟩ := hcs
    exact ⟨[], none, 0, rfl, by simp, .inl rfl⟩
  · simp [Value.cells] at hcs
    obtain ⟨rfl, rfl, rfl⟩ := hcs
    simp at hmm
    subst hmm
    have c5 : Try.prog.cellsOf 36 = 5 := by kernel_rfl
    rw [c5] at hi
    by_cases h0 : len = 0
    · subst h0
      exact ⟨[], some x, m, rfl, by simp, .inl rfl⟩
    · obtain ⟨b, off, spot⟩ := x
      have hat : ∀ i, i < len → ∃ o : OpV, o.Fine w ∧ ∀ j v, [Value.int .i64 o.k, .int .i64 o.a, .int .i64 o.n, .int .u64 o.x, .slice o.ca o.cl o.ccap][j]? = some v → w.cell? (((⟨b, off, spot⟩ : Addr).add (i * 5)).add j) = some v := fun i hil => by
        obtain ⟨cs', hc, ht'⟩ := hi i (by omega)
        obtain ⟨_, hcl, hca⟩ := World.cells?_some hc
        obtain ⟨o, rfl, ho⟩ := op_of_trod ht' hcl
        refine ⟨o, ho, fun j v hj => ?_⟩
        have hjl : j < 5 := by have := (List.getElem?_eq_some_iff.1 hj).1; simpa using this
        rw [hca j hjl, hj]
      obtain ⟨o0, _, hc0⟩ := hat 0 (by omega)
      have hc00 := hc0 0 _ rfl
      have hspot : spot = none := by
        have := World.cell?_spot hc00
        simpa [Addr.add] using this
      subst hspot
      have hb : b < w.heap.size := by have := World.block_lt_of_cell? _ _ hc00; rw [addr_add, addr_add] at this; exact this
      obtain ⟨os, hlen, hos⟩ := list_pick (w := w) (b := b) (off := off) (P := fun i o => OpAt w b (off + 5 * i) o) len fun i hil => by
        obtain ⟨o, ho, hc⟩ := hat i hil
        have e : ∀ j v, [Value.int .i64 o.k, .int .i64 o.a, .int .i64 o.n, .int .u64 o.x, .slice o.ca o.cl o.ccap][j]? = some v → w.cell? ⟨b, off + 5 * i + j, none⟩ = some v := fun j v hj => by
          have := hc j v hj
          rw [addr_add, addr_add] at this
          rwa [show off + 5 * i + j = off + i * 5 + j from by omega]
        exact ⟨o, e 0 _ rfl, e 1 _ rfl, e 2 _ rfl, e 3 _ rfl, e 4 _ rfl, ho⟩
      exact ⟨os, some ⟨b, off, none⟩, m, by rw [hlen], by omega, .inr ⟨b, off, rfl, hb, hos⟩⟩
end

end Go.Proofs.Ytnkndhmkamaccaa
