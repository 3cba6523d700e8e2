/- Boxes that hold the reference's device: stored whole, loaded whole, field by field; handed back. -/
import Derived.Test.YtnkndhmkamaccaaRv
import Derived.Deep.MidRow
import Derived.Deep.DeepCutAuto
namespace Go.Proofs.Ytnkndhmkamaccaa
open Go.ChangeShapes Go.WideShapes Go.ChangeAt Go.RowKit Nv
set_option linter.unusedVariables false

/-- Block b is a box that holds these cells. -/
def Box (w : World) (b : Nat) (cs : Array Value) : Prop := w.heap[b]? = some (.cells cs 30 (0, 0))
theorem info30 : (Try.prog.info? 30).map (·.size) = some 8 := by kernel_rfl

theorem setCells_keep (b : Nat) : ∀ (vs : List Value) (o : Nat) (w : World), Keep (fun x => x = b) w (w.setCells b o vs)
  | [], _, w => Keep.refl _ w
  | v :: r, o, w => by
    rw [World.setCells]
    exact ((Keep.refl (fun x => x = b) w).setCell (p := ⟨b, o, none⟩) (fun _ => rfl) v).trans' (setCells_keep b r (o + 1) _)
theorem setCells_heap (b t : Nat) : ∀ (vs : List Value) (o : Nat) (w : World) (cur : Array Value), w.heap[b]? = some (.cells cur t (0, 0)) → ∃ cs : Array Value, (w.setCells b o vs).heap[b]? = some (.cells cs t (0, 0)) ∧ cs.size = cur.size ∧
    ∀ j, cs[j]? = if o ≤ j ∧ j < o + vs.length ∧ j < cur.size then vs[j - o]? else cur[j]?
  | [], o, w, cur, h => ⟨cur, h, rfl, fun j => by rw [if_neg (by simp only [List.length_nil]; omega)]⟩
  | v :: r, o, w, cur, h => by
    have h1 := heap_setCell_same w b o cur t v h
    obtain ⟨cs, h2, hs, hc⟩ := setCells_heap b t r (o + 1) _ _ h1
    refine ⟨cs, by rw [World.setCells]; exact h2, by simpa using hs, fun j => ?_⟩
    rw [hc j]
    simp only [List.length_cons, Array.size_setIfInBounds]
    by_cases e1 : j = o
    · subst e1
      rw [if_neg (by omega), Array.getElem?_setIfInBounds, if_pos rfl]
      by_cases e2 : j < cur.size
      · rw [if_pos e2, if_pos (by omega)]; simp
      · rw [if_neg e2, if_neg (by omega), Array.getElem?_eq_none (by omega)]
    · by_cases e2 : o + 1 ≤ j ∧ j < o + 1 + r.length ∧ j < cur.size
      · rw [if_pos e2, if_pos (by omega), show j - o = (j - (o + 1)) + 1 from by omega, List.getElem?_cons_succ]
      · rw [if_neg e2, if_neg (by omega), Array.getElem?_setIfInBounds, if_neg (by omega)]

/-- A value is stored whole into a block that is known. -/
theorem run_store_whole {P : Program} {w : World} {b o n t ty : Nat} {f g : Nat → Value} {cells : Array Value} (hr : RowP w b t n f) (hn : o + cells.size ≤ n) (hi : (P.info? ty).map (·.size) = some cells.size) (h1 : cells.all (·.oneCell') = true) :
    ∃ w', (Instr.storeAt ty (.pointer (some ⟨b, o, none⟩)) (.agg cells)).run P w = .ok () w' ∧ RowP w' b t n (fun j => if o ≤ j ∧ j < o + cells.size then cells.getD (j - o) undef else f j) ∧ Keep (fun x => x = b) w w' := by
  obtain ⟨cur, hb, hs, hc⟩ := id hr
  have ht : w.there b o cells.size := fun j hj => ⟨by rw [hr.cell (by omega)]; rfl, hr.frozen _⟩
  obtain ⟨cs, h2, hs2, hc2⟩ := setCells_heap b t cells.toList o w cur hb
  refine ⟨_, run_storeAt_mid (P := P) w b o ty cells ht hi h1, ⟨cs, h2, by omega, fun k hk => ?_⟩, setCells_keep b _ _ _⟩
  rw [hc2 k]
  simp only [Array.length_toList]
  by_cases e : o ≤ k ∧ k < o + cells.size
  · rw [if_pos (by omega), if_pos e]
    rw [Array.getElem?_toList, Array.getD_eq_getD_getElem?, Array.getElem?_eq_getElem (by omega)]; rfl
  · rw [if_neg (by omega), if_neg e, hc k hk]
theorem wpList_store_whole {P : Program} {ops : Array Oper} {rest : List Oper} {op : Oper} {a : Act} {w : World} {Q : Exit → Act → World → Prop} (hgd : op.guard = none) (ty : TypeId) (x y : Operand) (ho : op.op = .store ty x y)
    {b o n t : Nat} {f : Nat → Value} {cells : Array Value} (hx : a.eval x = .pointer (some ⟨b, o, none⟩)) (hy : a.eval y = .agg cells) (hr : RowP w b t n f) (hn : o + cells.size ≤ n) (hi : (P.info? ty).map (·.size) = some cells.size) (h1 : cells.all (·.oneCell') = true)
    (h : ∀ w', RowP w' b t n (fun j => if o ≤ j ∧ j < o + cells.size then cells.getD (j - o) undef else f j) → Keep (fun x => x = b) w w' → wpList P ops Q rest (a.put op.dst undef) w') : wpList P ops Q (op :: rest) a w := by
  refine wpList_plain hgd fun K hK => ?_
  obtain ⟨w', hrun, r1, r2⟩ := run_store_whole (P := P) (g := f) hr hn hi h1
  unfold Oper.wp
  simp [execOp, ho, hx, hy, hrun, Result.andThen]
  exact hK _ _ (h w' r1 r2)

/-- A box is stored whole. -/
theorem run_store_box {w : World} {b : Nat} {old cells : Array Value} (hb : Box w b old) (ho : old.size = 8) (hc : cells.size = 8) (h1 : cells.all (·.oneCell') = true) :
    ∃ w', (Instr.storeAt 30 (.pointer (some ⟨b, 0, none⟩)) (.agg cells)).run Try.prog w = .ok () w' ∧ Box w' b cells ∧ Keep (fun x => x = b) w w' := by
  have ht : w.there b 0 cells.size := fun j hj => ⟨by
    rw [cell_of_row w b _ old _ _ hb, Array.getElem?_eq_getElem (by omega)]; rfl, frozen_of_row w b _ old _ hb⟩
  obtain ⟨cs, h2, hs2, hc2⟩ := setCells_heap b _ cells.toList 0 w old hb
  refine ⟨_, run_storeAt_mid w b 0 _ cells ht (by rw [hc]; exact info30) h1, ?_, setCells_keep b _ _ _⟩
  unfold Box
  rw [h2]
  congr 2
  apply Array.ext_getElem?
  intro j
  rw [hc2 j]
  simp only [Array.length_toList]
  by_cases e : j < 8
  · rw [if_pos (by omega)]; simp
  · rw [if_neg (by omega), Array.getElem?_eq_none (by omega), Array.getElem?_eq_none (by omega)]
theorem wpList_store_box {ops : Array Oper} {rest : List Oper} {op : Oper} {a : Act} {w : World} {Q : Exit → Act → World → Prop} (hgd : op.guard = none) (x y : Operand) (ho : op.op = .store 30 x y)
    {b : Nat} {old cells : Array Value} (hx : a.eval x = .pointer (some ⟨b, 0, none⟩)) (hy : a.eval y = .agg cells) (hb : Box w b old) (hold : old.size = 8) (hc : cells.size = 8) (h1 : cells.all (·.oneCell') = true)
    (h : ∀ w', Box w' b cells → Keep (fun x => x = b) w w' → wpList Try.prog ops Q rest (a.put op.dst undef) w') : wpList Try.prog ops Q (op :: rest) a w := by
  refine wpList_plain hgd fun K hK => ?_
  obtain ⟨w', hrun, r1, r2⟩ := run_store_box hb hold hc h1
  unfold Oper.wp
  simp [execOp, ho, hx, hy, hrun, Result.andThen]
  exact hK _ _ (h w' r1 r2)
theorem wpList_load_box {ops : Array Oper} {rest : List Oper} {o : Oper} {a : Act} {w : World} {Q : Exit → Act → World → Prop} (hgd : o.guard = none) (x : Operand) (ho : o.op = .load 30 x)
    {b : Nat} {cells : Array Value} (hx : a.eval x = .pointer (some ⟨b, 0, none⟩)) (hb : Box w b cells) (hc : cells.size = 8)
    (h : wpList Try.prog ops Q rest (a.put o.dst (.agg cells)) w) : wpList Try.prog ops Q (o :: rest) a w :=
  wpList_load_row hgd _ x ho b hx _ cells (0, 0) _ hb Try.underlying30 rfl (by rw [hc]; exact info30) h

theorem Box.keep {S : Nat → Prop} {w w' : World} {b : Nat} {cs : Array Value} (h : Box w b cs) (hk : Keep S w w') (hS : ¬ S b) : Box w' b cs := (hk.block b (Array.getElem?_eq_some_iff.1 h).1 hS).trans h
theorem Box.lt {w : World} {b : Nat} {cs : Array Value} (h : Box w b cs) : b < w.heap.size := (Array.getElem?_eq_some_iff.1 h).1
theorem Box.below {w w' : World} {b B : Nat} {cs : Array Value} (h : Box w b cs) (hb : Below B w w') (hB : b < B) : Box w' b cs := (hb.block b hB).trans h
theorem Box.cell {w : World} {b : Nat} {cs : Array Value} (h : Box w b cs) (i : Nat) : w.cell? ⟨b, i, none⟩ = cs[i]? := cell_of_row w b i cs _ _ h
theorem Box.frozen {w : World} {b : Nat} {cs : Array Value} (h : Box w b cs) (i : Nat) : w.frozen? ⟨b, i, none⟩ = false := frozen_of_row w b i cs _ h
theorem Box.set {w : World} {b : Nat} {cs : Array Value} (h : Box w b cs) (i : Nat) (u : Value) : Box (w.setCell ⟨b, i, none⟩ u) b (cs.setIfInBounds i u) := heap_setCell_same w b i cs _ u h
theorem Box.far {w : World} {b : Nat} {cs : Array Value} (h : Box w b cs) {p : Addr} (hp : b ≠ p.block) (u : Value) : Box (w.setCell p u) b cs := (Below.heap_setCell w p u b hp).trans h
theorem Box.alloc {w : World} {b : Nat} {cs : Array Value} (h : Box w b cs) (o : Obj) : Box (w.alloc o) b cs := (Below.heap_alloc _ _ _ h.lt).trans h
theorem Box.new (w : World) (cs : Array Value) : Box (w.alloc (.cells cs 30)) w.heap.size cs := heap_alloc_new w _

/-- A device in a box and a number in a slot are handed back. -/
theorem results_box2 {fn : Func} {p q : Tmp} (h : fn.results = #[.cell p 30, .tmp q]) (tmps : Array Value) (w : World) (b : Nat) (cs : Array Value) (v : Value) (hp : tmps.getD p undef = .pointer (some ⟨b, 0, none⟩)) (hb : Box w b cs) (hc : cs.size = 8) (hq : tmps.getD q undef = v) :
    (results fn tmps).run Try.prog w = .ok (.tuple #[.agg cs, v]) w := by
  have hp' : tmps[p]?.getD undef = .pointer (some ⟨b, 0, none⟩) := by simpa using hp
  have hq' : tmps[q]?.getD undef = v := by simpa using hq
  have hl := run_loadVar_row (P := Try.prog) w b _ 30 cs (0, 0) _ hb Try.underlying30 rfl (by rw [hc]; exact info30)
  simp [results, h, hp', hq', asAddr, hl, Result.andThen]
theorem results_box1 {fn : Func} {p : Tmp} (h : fn.results = #[.cell p 30]) (tmps : Array Value) (w : World) (b : Nat) (cs : Array Value) (hp : tmps.getD p undef = .pointer (some ⟨b, 0, none⟩)) (hb : Box w b cs) (hc : cs.size = 8) :
    (results fn tmps).run Try.prog w = .ok (.agg cs) w :=
  results_cell_row h tmps w b _ cs (0, 0) _ hp hb Try.underlying30 rfl (by rw [hc]; exact info30)

def rc (r : RV) (m : Mdl) : Array Value :=
  #[.slice r.aN m.L r.cN, .slice r.aL m.L r.cL, .slice r.aW m.L r.cW, .slice r.aD m.L r.cD, .slice r.aP m.L r.cP, .int .i64 m.steps, .int .i64 m.fuse, .bool m.dead]
theorem rc_size (r : RV) (m : Mdl) : (rc r m).size = 8 := rfl
theorem rc_one (r : RV) (m : Mdl) : (rc r m).all (·.oneCell') = true := by simp [rc, Value.oneCell']
theorem rv_rc (r : RV) (m : Mdl) : rv r m = .agg (rc r m) := rfl

/-- An empty device's cells. -/
def z30 : Array Value := #[.slice none 0 0, .slice none 0 0, .slice none 0 0, .slice none 0 0, .slice none 0 0, .int .i64 0, .int .i64 0, .bool false]

theorem boxes_of {w w1 : World} {cs : Array Value} (hb : Below ((w.alloc (.cells cs 30)).alloc (.cells z30 30)).heap.size ((w.alloc (.cells cs 30)).alloc (.cells z30 30)) w1) :
    Box w1 w.heap.size cs ∧ Box w1 (w.heap.size + 1) z30 ∧ Below w.heap.size w w1 ∧ w.heap.size + 2 ≤ w1.heap.size := by
  have e1 : (w.alloc (.cells cs 30)).heap.size = w.heap.size + 1 := by simp
  have e2 : ((w.alloc (.cells cs 30)).alloc (.cells z30 30)).heap.size = w.heap.size + 2 := by simp
  have h0 : Box (w.alloc (.cells cs 30)) w.heap.size cs := Box.new w cs
  have h1 : Box ((w.alloc (.cells cs 30)).alloc (.cells z30 30)) (w.heap.size + 1) z30 := by have := Box.new (w.alloc (.cells cs 30)) z30; rwa [e1] at this
  have h2 : Box ((w.alloc (.cells cs 30)).alloc (.cells z30 30)) w.heap.size cs := (Below.heap_alloc _ _ _ (by omega)).trans h0
  refine ⟨h2.below hb (by omega), h1.below hb (by omega), (below_two w _ _).trans (hb.mono (by omega)), by have := hb.size; omega⟩

theorem Ref.same {w : World} {T : Nat → Prop} {r : RV} {m m' : Mdl} (h : Ref w T r m) (h1 : m'.L = m.L) (h2 : m'.now = m.now) (h3 : m'.last = m.last) (h4 : m'.dirty = m.dirty) (h5 : m'.wait = m.wait) : Ref w T r m' := by
  obtain ⟨a, b, c, d, e, f, g⟩ := h
  refine ⟨?_, ?_, ?_, ?_, ?_, ?_, ?_⟩
  · rw [h1, h2]; exact a
  · rw [h1, h3]; exact b
  · rw [h1]; exact c
  · rw [h1, h4]; exact d
  · rw [h1, h5]; exact e
  · rw [h5]; exact f
  · rw [h1]; exact g
theorem Ref.dead {w : World} {T : Nat → Prop} {r : RV} {m : Mdl} (h : Ref w T r m) : Ref w T r (deadM m) := h.same rfl rfl rfl rfl rfl
theorem Ref.step {w : World} {T : Nat → Prop} {r : RV} {m : Mdl} (h : Ref w T r m) : Ref w T r (stepM m) := h.same rfl rfl rfl rfl rfl
/-- What a call makes of the blocks. -/
def grewT (T : Nat → Prop) (w w' : World) : Nat → Prop := fun b => T b ∨ (w.heap.size ≤ b ∧ b < w'.heap.size)
theorem Ref.grew {w w' : World} {T : Nat → Prop} {r : RV} {m : Mdl} (h : Ref w T r m) (hb : Below w.heap.size w w') : Ref w' (grewT T w w') r m :=
  h.keep (Keep.ofBelow (S := fun _ => False) hb) (fun _ _ _ h => h) (fun _ h _ => .inl h)

/-- A copy that a call has made, told of what was there at w0. -/
def CopyNew (w0 : World) (t size n : Nat) (f : Nat → Value) (w : World) (e : Ending) (w' : World) : Prop :=
  ∃ a cap, e = .returned (.slice a n cap) ∧ SRow w' (fun b => w0.heap.size ≤ b) t size a n cap f ∧ Below w0.heap.size w0 w' ∧ Below w.heap.size w w' ∧ (0 < n → ∃ b, a = some ⟨b, 0, none⟩ ∧ w.heap.size ≤ b)
theorem fresh_ne {w : World} {T : Nat → Prop} {t size n cap : Nat} {a a' : Option Addr} {f : Nat → Value} (h : SRow w T t size a n cap f) (hn : 0 < n) (g : 0 < n → ∃ b, a' = some ⟨b, 0, none⟩ ∧ w.heap.size ≤ b) : ∀ b b', a = some ⟨b, 0, none⟩ → a' = some ⟨b', 0, none⟩ → b ≠ b' := by
  intro b b' e e' hbb
  subst hbb
  obtain ⟨b1, e1, _, hr⟩ := h.at_ hn
  obtain ⟨b2, e2, hb2⟩ := g hn
  have := hr.lt
  rw [e] at e1; rw [e'] at e2
  cases e1; cases e2
  omega
theorem SRow.below {w w' : World} {T : Nat → Prop} {t size n cap : Nat} {a : Option Addr} {f : Nat → Value} (h : SRow w T t size a n cap f) (hb : Below w.heap.size w w') : SRow w' T t size a n cap f :=
  h.keep (Keep.ofBelow (S := fun _ => False) hb) (fun _ _ _ h => h) (fun _ h _ => h)
theorem SRow.mono {w : World} {T T' : Nat → Prop} {t size n cap : Nat} {a : Option Addr} {f : Nat → Value} (h : SRow w T t size a n cap f) (hT : ∀ b, T b → T' b) : SRow w T' t size a n cap f :=
  ⟨h.cap, fun h0 => by obtain ⟨b, e, hb, hr⟩ := h.at_ h0; exact ⟨b, e, hT b hb, hr⟩⟩
theorem below_of {w0 w : World} (h : Below w0.heap.size w0 w) : Below w0.heap.size w0 w.drew := h.drew
theorem refLines_new {w0 w : World} {T : Nat → Prop} {a : Option Addr} {n cap : Nat} {f : Nat → Value} (hb : Below w0.heap.size w0 w) (hs : SRow w0 T 76 8 a n cap f) (h1 : ∀ k, (f k).oneCell' = true) (hn : n ≤ 33554432) :
    Calls Try.prog 52 #[.slice a n cap] w (CopyNew w0 76 8 n f w) :=
  (refLines_any (hs.below hb) h1 hn).mono fun _ _ ⟨a', c', e, s, b⟩ => ⟨a', c', e, s.mono fun _ h => Nat.le_trans hb.size h.1, hb.trans (b.mono hb.size), b, fun h0 => by obtain ⟨b', e', hb', _⟩ := s.at_ h0; exact ⟨b', e', hb'.1⟩⟩
theorem refFlags_new {w0 w : World} {T : Nat → Prop} {a : Option Addr} {n cap : Nat} {f : Nat → Value} (hb : Below w0.heap.size w0 w) (hs : SRow w0 T 4 1 a n cap f) (h1 : ∀ k, (f k).oneCell' = true) (hn : n ≤ 33554432) :
    Calls Try.prog 53 #[.slice a n cap] w (CopyNew w0 4 1 n f w) :=
  (refFlags_any (hs.below hb) h1 hn).mono fun _ _ ⟨a', c', e, s, b⟩ => ⟨a', c', e, s.mono fun _ h => Nat.le_trans hb.size h.1, hb.trans (b.mono hb.size), b, fun h0 => by obtain ⟨b', e', hb', _⟩ := s.at_ h0; exact ⟨b', e', hb'.1⟩⟩

end Go.Proofs.Ytnkndhmkamaccaa
