/- Slices of any elements by value, as functions of the place: what they hold, and where they lie; append of a whole one to a row of the call's own. -/
import Derived.Test.YtkejpdkokaiidaaRow
import Derived.Test.YtkejpdkokaiidaaApp
namespace Go.Proofs.Ytkejpdkokaiidaa
open Go.ChangeShapes Go.WideShapes Go.ChangeAt Go.RowKit
set_option linter.unusedVariables false

/-- Block b begins with n cells of type t, cell k is f k; none is frozen. -/
def RowP (w : World) (b t n : Nat) (f : Nat → Value) : Prop := ∃ cs : Array Value, w.heap[b]? = some (.cells cs t (0, 0)) ∧ n ≤ cs.size ∧ ∀ k, k < n → cs[k]? = some (f k)

section
variable {w w' : World} {b t n : Nat} {f g : Nat → Value}
theorem RowP.lt (h : RowP w b t n f) : b < w.heap.size := by
  obtain ⟨cs, h, _⟩ := h
  exact (Array.getElem?_eq_some_iff.1 h).1
theorem RowP.cell (h : RowP w b t n f) {k : Nat} (hk : k < n) : w.cell? ⟨b, k, none⟩ = some (f k) := by
  obtain ⟨cs, h, _, hc⟩ := h
  simp only [World.cell?, h]
  simpa using hc k hk
theorem RowP.frozen (h : RowP w b t n f) (k : Nat) : w.frozen? ⟨b, k, none⟩ = false := by
  obtain ⟨cs, h, _⟩ := h
  simp [World.frozen?, h]
theorem RowP.congr (h : RowP w b t n f) (hg : ∀ k, k < n → f k = g k) : RowP w b t n g := by
  obtain ⟨cs, h, hs, hc⟩ := h
  exact ⟨cs, h, hs, fun k hk => by rw [hc k hk, hg k hk]⟩
theorem RowP.keep (h : RowP w b t n f) (hb : w'.heap[b]? = w.heap[b]?) : RowP w' b t n f := by
  obtain ⟨cs, h, r⟩ := h
  exact ⟨cs, hb.trans h, r⟩
theorem RowP.drew (h : RowP w b t n f) : RowP w.drew b t n f := h
theorem RowP.far (h : RowP w b t n f) {p : Addr} (hp : b ≠ p.block) (u : Value) : RowP (w.setCell p u) b t n f := h.keep (Below.heap_setCell w p u b hp)
theorem RowP.set (h : RowP w b t n f) (i : Nat) (u : Value) : RowP (w.setCell ⟨b, i, none⟩ u) b t n (fun j => if j = i then u else f j) := by
  obtain ⟨cs, h, hs, hc⟩ := h
  refine ⟨cs.setIfInBounds i u, by simp [World.setCell, Array.getElem?_modify, h], by simpa using hs, fun k hk => ?_⟩
  rw [Array.getElem?_setIfInBounds]
  by_cases e : i = k
  · subst e; rw [if_pos rfl, if_pos (by omega)]; simp
  · rw [if_neg e, hc k hk]; simp only []; rw [if_neg (fun h : k = i => e h.symm)]
theorem RowP.ne {b' t' n' : Nat} (h : RowP w b t n f) (h' : RowP w b' t' n' g) (ht : t ≠ t') : b ≠ b' := by
  rintro rfl
  obtain ⟨cs, h, _⟩ := h
  obtain ⟨cs', h', _⟩ := h'
  rw [h] at h'; cases h'; exact ht rfl
end

/-- A slice of n elements of type t, 'size' cells each: cell k of them is f k; where it has any, it lies at the head of a block of T. -/
structure SRow (w : World) (T : Nat → Prop) (t size : Nat) (a : Option Addr) (n cap : Nat) (f : Nat → Value) : Prop where
  cap : n ≤ cap
  at_ : 0 < n → ∃ b, a = some ⟨b, 0, none⟩ ∧ T b ∧ RowP w b t (n * size) f

theorem SRow.keep {w w' : World} {S T T' : Nat → Prop} {t size n cap : Nat} {a : Option Addr} {f : Nat → Value} (h : SRow w T t size a n cap f) (hk : Keep S w w') (hS : ∀ b, T b → b < w.heap.size → ¬ S b) (hT : ∀ b, T b → b < w.heap.size → T' b) : SRow w' T' t size a n cap f :=
  ⟨h.cap, fun h0 => by
    obtain ⟨b, rfl, hb, hr⟩ := h.at_ h0
    exact ⟨b, rfl, hT b hb hr.lt, hr.keep (hk.block b hr.lt (hS b hb hr.lt))⟩⟩
theorem SRow.congr {w : World} {T : Nat → Prop} {t size n cap : Nat} {a : Option Addr} {f g : Nat → Value} (h : SRow w T t size a n cap f) (hg : ∀ k, k < n * size → f k = g k) : SRow w T t size a n cap g :=
  ⟨h.cap, fun h0 => by
    obtain ⟨b, rfl, hb, hr⟩ := h.at_ h0
    exact ⟨b, rfl, hb, hr.congr hg⟩⟩
theorem SRow.of_own {w : World} {base e size n : Nat} {v : Value} {xs : List Value} {f : Nat → Value} {T : Nat → Prop} (h : w.ownsRow base e size v n xs) (hf : ∀ k, k < n * size → xs[k]? = some (f k)) (hT : ∀ b, base ≤ b → b < w.heap.size → T b) :
    ∃ a cap, v = .slice a n cap ∧ SRow w T e size a n cap f := by
  obtain ⟨hl, h⟩ := h
  rcases h with ⟨rfl, h0⟩ | ⟨g, cap, cur, rfl, hg, hc, hnc, _, hs, ht⟩
  · exact ⟨none, 0, by rw [h0], by omega, fun h => by omega⟩
  · refine ⟨_, cap, rfl, hnc, fun h0 => ⟨g, rfl, hT g hg (Array.getElem?_eq_some_iff.1 hc).1, cur, hc, ?_, fun k hk => ?_⟩⟩
    · rw [hs]; exact Nat.mul_le_mul_right _ hnc
    · have := hf k hk
      rw [← ht, List.getElem?_take_of_lt hk] at this
      simpa using this

/-- A copy of a row: what it is, and where. -/
def CopyTo (t size n : Nat) (f : Nat → Value) (w : World) (e : Ending) (w' : World) : Prop :=
  ∃ a cap, e = .returned (.slice a n cap) ∧ SRow w' (fun b => w.heap.size ≤ b ∧ b < w'.heap.size) t size a n cap f ∧ Below w.heap.size w w'

theorem run_append_copy {P : Program} {w : World} {t ty e : TypeId} {i : TypeInfo} {z : Value} {size bytes : Nat} (ht : P.underlying t = some (.slice e)) (hi : P.info? e = some i) (hz : i.zero = some z) (h1 : i.size = size) (hby : i.bytes = bytes) (hzs : z.cells.size = size) (hsz : 0 < size)
    {base : Nat} {v : Value} (hown : w.ownsRow base e size v 0 []) {T : Nat → Prop} {a : Option Addr} {n cap : Nat} {f : Nat → Value} (hs : SRow w T e size a n cap f) (h1c : ∀ k, (f k).oneCell' = true) (h63 : n ≤ maxLen) (hb : n * bytes ≤ 140737488355328) (hbase : base ≤ w.heap.size) :
    ∃ v' w', (Builtin.append_ #[t, t] ty #[v, .slice a n cap]).run P w = .ok v' w' ∧ w'.ownsRow base e size v' n ((List.range (n * size)).map f) ∧ w.grownBy w' v.ownBlock := by
  have hnews : n = 0 ∨ ∃ ad, a = some ad ∧ ∀ j u, ((List.range (n * size)).map f)[j]? = some u → w.cell? (ad.add j) = some u := by
    rcases Nat.eq_zero_or_pos n with h0 | h0
    · exact .inl h0
    · obtain ⟨b, rfl, _, hr⟩ := hs.at_ h0
      refine .inr ⟨_, rfl, fun j u hu => ?_⟩
      have hj : j < n * size := by have := (List.getElem?_eq_some_iff.1 hu).1; simpa using this
      rw [addr_add, Nat.zero_add, hr.cell hj]
      rw [List.getElem?_map, List.getElem?_range hj] at hu
      simpa using hu
  cases a with
  | none =>
    obtain rfl : n = 0 := hnews.resolve_right (by rintro ⟨_, h, _⟩; cases h)
    refine ⟨v, w, ?_, by simpa using hown, ⟨rfl, rfl, rfl, Nat.le_refl _, fun _ _ _ => rfl⟩⟩
    rcases hown.2 with ⟨rfl, _⟩ | ⟨g, c, cur, rfl, _, _, hnc, _⟩
    · simp [Builtin.append_, run_underlying ht, sizeOf, typeInfo, hi, Builtin.lenOf, Builtin.firstCells]
    · simp [Builtin.append_, run_underlying ht, sizeOf, typeInfo, hi, Builtin.lenOf, Builtin.firstCells, hnc, storeCells]
  | some x =>
    have hn2 : ∀ j u, ((List.range (n * size)).map f)[j]? = some u → w.cell? (x.add j) = some u := by
      rcases hnews with rfl | ⟨ad, h, hc⟩
      · intro j u hu; simp at hu
      · cases h; exact hc
    obtain ⟨v', w', hr, ho, hg, _⟩ := run_append_own_at (P := P) w base t ty e i _ size bytes ht hi hz h1 hby hzs hsz v 0 [] hown x n cap ((List.range (n * size)).map f) (by simp) hn2 (by intro u hu; obtain ⟨k, _, rfl⟩ := List.mem_map.1 hu; exact h1c k) (by omega) (by rw [Nat.zero_add]; exact hb) hbase
    exact ⟨v', w', hr, by simpa using ho, hg⟩

theorem wpList_append_copy {P : Program} {w : World} {ops : Array Oper} {rest : List Oper} {o : Oper} {act : Act} {Q : Exit → Act → World → Prop} (hgd : o.guard = none) (s x : Operand) (t e : TypeId) {i : TypeInfo} {z : Value} {size bytes : Nat}
    (ho : o.op = .call { callee := .builtin .append, args := #[s, x], argTypes := #[t, t] }) (ht : P.underlying t = some (.slice e)) (hi : P.info? e = some i) (hz : i.zero = some z) (h1 : i.size = size) (hby : i.bytes = bytes) (hzs : z.cells.size = size) (hsz : 0 < size)
    {base : Nat} {v : Value} {T : Nat → Prop} {a : Option Addr} {n cap : Nat} {f : Nat → Value} (hv : act.eval s = v) (hvs : act.eval x = .slice a n cap) (hown : w.ownsRow base e size v 0 []) (hs : SRow w T e size a n cap f) (h1c : ∀ k, (f k).oneCell' = true) (h63 : n ≤ maxLen) (hb : n * bytes ≤ 140737488355328) (hbase : base ≤ w.heap.size)
    (h : ∀ v' w', w'.ownsRow base e size v' n ((List.range (n * size)).map f) → w.grownBy w' v.ownBlock → wpList P ops Q rest (act.put o.dst v') w') : wpList P ops Q (o :: rest) act w := by
  refine wpList_plain hgd fun K hK => ?_
  obtain ⟨v', w', hr, h2, h3⟩ := run_append_copy (P := P) (ty := o.type) ht hi hz h1 hby hzs hsz hown hs h1c h63 hb hbase
  unfold Oper.wp
  simp [execOp, ho, resolve, invoke, builtin, hv, hvs, hr, Result.andThen]
  exact hK _ _ (h v' w' h2 h3)

end Go.Proofs.Ytkejpdkokaiidaa
