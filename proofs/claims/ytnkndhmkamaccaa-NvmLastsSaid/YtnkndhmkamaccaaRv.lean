/- The reference's device: a value with five slices; where they lie. -/
import Derived.Test.YtnkndhmkamaccaaCrash
namespace Go.Proofs.Ytnkndhmkamaccaa
open Go.ChangeShapes Go.WideShapes Go.ChangeAt Go.RowKit Nv
set_option linter.unusedVariables false

/-- Block b begins with n cells of type t, cell k is f k; none is frozen. -/
def RowP (w : World) (b t n : Nat) (f : Nat → Value) : Prop := ∃ cs : Array Value, w.heap[b]? = some (.cells cs t (0, 0)) ∧ n ≤ cs.size ∧ ∀ k, k < n → cs[k]? = some (f k)

section
variable {w w' : World} {b t n : Nat} {f g : Nat → Value}
theorem RowP.lt (h : RowP w b t n f) : b < w.heap.size := by
  obtain ⟨cs, h, _⟩ := h
  exact (Array.getElem?_eq_some_iff.1 h).1
theorem RowP.cell (h : RowP w b t n f) {k : Nat} (hk : k < n) : w.cell? ⟨b, k, none⟩ = some (f k) := by
  obtain ⟨cs, h, _, hc⟩ := h
  simp only [World.cell?, h]
  simpa using hc k hk
theorem RowP.frozen (h : RowP w b t n f) (k : Nat) : w.frozen? ⟨b, k, none⟩ = false := by
  obtain ⟨cs, h, _⟩ := h
  simp [World.frozen?, h]
theorem RowP.congr (h : RowP w b t n f) (hg : ∀ k, k < n → f k = g k) : RowP w b t n g := by
  obtain ⟨cs, h, hs, hc⟩ := h
  exact ⟨cs, h, hs, fun k hk => by rw [hc k hk, hg k hk]⟩
theorem RowP.keep (h : RowP w b t n f) (hb : w'.heap[b]? = w.heap[b]?) : RowP w' b t n f := by
  obtain ⟨cs, h, r⟩ := h
  exact ⟨cs, hb.trans h, r⟩
theorem RowP.drew (h : RowP w b t n f) : RowP w.drew b t n f := h
theorem RowP.far (h : RowP w b t n f) {p : Addr} (hp : b ≠ p.block) (u : Value) : RowP (w.setCell p u) b t n f := h.keep (Below.heap_setCell w p u b hp)
theorem RowP.set (h : RowP w b t n f) (i : Nat) (u : Value) : RowP (w.setCell ⟨b, i, none⟩ u) b t n (fun j => if j = i then u else f j) := by
  obtain ⟨cs, h, hs, hc⟩ := h
  refine ⟨cs.setIfInBounds i u, by simp [World.setCell, Array.getElem?_modify, h], by simpa using hs, fun k hk => ?_⟩
  rw [Array.getElem?_setIfInBounds]
  by_cases e : i = k
  · subst e; rw [if_pos rfl, if_pos (by omega)]; simp
  · rw [if_neg e, hc k hk]; simp only []; rw [if_neg (fun h : k = i => e h.symm)]
theorem RowP.ne {b' t' n' : Nat} (h : RowP w b t n f) (h' : RowP w b' t' n' g) (ht : t ≠ t') : b ≠ b' := by
  rintro rfl
  obtain ⟨cs, h, _⟩ := h
  obtain ⟨cs', h', _⟩ := h'
  rw [h] at h'; cases h'; exact ht rfl
end

/-- A slice of n elements of type t, 'size' cells each: cell k of them is f k; where it has any, it lies at the head of a block of T. -/
structure SRow (w : World) (T : Nat → Prop) (t size : Nat) (a : Option Addr) (n cap : Nat) (f : Nat → Value) : Prop where
  cap : n ≤ cap
  at_ : 0 < n → ∃ b, a = some ⟨b, 0, none⟩ ∧ T b ∧ RowP w b t (n * size) f

theorem SRow.keep {w w' : World} {S T T' : Nat → Prop} {t size n cap : Nat} {a : Option Addr} {f : Nat → Value} (h : SRow w T t size a n cap f) (hk : Keep S w w') (hS : ∀ b, T b → b < w.heap.size → ¬ S b) (hT : ∀ b, T b → b < w.heap.size → T' b) : SRow w' T' t size a n cap f :=
  ⟨h.cap, fun h0 => by
    obtain ⟨b, rfl, hb, hr⟩ := h.at_ h0
    exact ⟨b, rfl, hT b hb hr.lt, hr.keep (hk.block b hr.lt (hS b hb hr.lt))⟩⟩
theorem SRow.congr {w : World} {T : Nat → Prop} {t size n cap : Nat} {a : Option Addr} {f g : Nat → Value} (h : SRow w T t size a n cap f) (hg : ∀ k, k < n * size → f k = g k) : SRow w T t size a n cap g :=
  ⟨h.cap, fun h0 => by
    obtain ⟨b, rfl, hb, hr⟩ := h.at_ h0
    exact ⟨b, rfl, hb, hr.congr hg⟩⟩
theorem SRow.of_own {w : World} {base e size n : Nat} {v : Value} {xs : List Value} {f : Nat → Value} {T : Nat → Prop} (h : w.ownsRow base e size v n xs) (hf : ∀ k, k < n * size → xs[k]? = some (f k)) (hT : ∀ b, base ≤ b → b < w.heap.size → T b) :
    ∃ a cap, v = .slice a n cap ∧ SRow w T e size a n cap f := by
  obtain ⟨hl, h⟩ := h
  rcases h with ⟨rfl, h0⟩ | ⟨g, cap, cur, rfl, hg, hc, hnc, _, hs, ht⟩
  · exact ⟨none, 0, by rw [h0], by omega, fun h => by omega⟩
  · refine ⟨_, cap, rfl, hnc, fun h0 => ⟨g, rfl, hT g hg (Array.getElem?_eq_some_iff.1 hc).1, cur, hc, ?_, fun k hk => ?_⟩⟩
    · rw [hs]; exact Nat.mul_le_mul_right _ hnc
    · have := hf k hk
      rw [← ht, List.getElem?_take_of_lt hk] at this
      simpa using this

/-- The five slices of the reference's device, and what all lines would be pending with. -/
structure RV where
  aN : Option Addr
  aL : Option Addr
  aW : Option Addr
  aD : Option Addr
  aP : Option Addr
  cN : Nat
  cL : Nat
  cW : Nat
  cD : Nat
  cP : Nat
  wf : Nat → Int

def rv (r : RV) (m : Mdl) : Value :=
  .agg #[.slice r.aN m.L r.cN, .slice r.aL m.L r.cL, .slice r.aW m.L r.cW, .slice r.aD m.L r.cD, .slice r.aP m.L r.cP, .int .i64 m.steps, .int .i64 m.fuse, .bool m.dead]

/-- The reference's device is m; its slices lie in blocks of T. -/
structure Ref (w : World) (T : Nat → Prop) (r : RV) (m : Mdl) : Prop where
  hN : SRow w T 76 8 r.aN m.L r.cN fun k => .int .u64 (m.now k)
  hL : SRow w T 76 8 r.aL m.L r.cL fun k => .int .u64 (m.last k)
  hW : SRow w T 76 8 r.aW m.L r.cW fun k => .int .u64 (r.wf k)
  hD : SRow w T 4 1 r.aD m.L r.cD fun k => .bool (m.dirty k)
  hP : SRow w T 4 1 r.aP m.L r.cP fun k => .bool (m.wait k).isSome
  wt : ∀ i c, m.wait i = some c → ∀ j, j < 8 → r.wf (8 * i + j) = c j
  lb : m.L ≤ 33554432

theorem Ref.keep {w w' : World} {S T T' : Nat → Prop} {r : RV} {m : Mdl} (h : Ref w T r m) (hk : Keep S w w') (hS : ∀ b, T b → b < w.heap.size → ¬ S b) (hT : ∀ b, T b → b < w.heap.size → T' b) : Ref w' T' r m :=
  ⟨h.hN.keep hk hS hT, h.hL.keep hk hS hT, h.hW.keep hk hS hT, h.hD.keep hk hS hT, h.hP.keep hk hS hT, h.wt, h.lb⟩
theorem Ref.below {w w' : World} {T : Nat → Prop} {r : RV} {m : Mdl} (h : Ref w T r m) (hb : Below w.heap.size w w') : Ref w' T r m :=
  h.keep (Keep.ofBelow (S := fun _ => False) hb) (fun _ _ _ h => h) (fun _ h _ => h)

/-- A call hands back a device of the reference's and another value; nothing that was there has turned. -/
def RefTo (T : Nat → Prop) (m' : Mdl) (x : Value) (w : World) (e : Ending) (w' : World) : Prop :=
  ∃ r', e = .returned (.tuple #[rv r' m', x]) ∧ Ref w' (fun b => T b ∨ (w.heap.size ≤ b ∧ b < w'.heap.size)) r' m' ∧ Below w.heap.size w w'

section
variable {w : World} {T : Nat → Prop} {r : RV} {m : Mdl}

theorem below_two (w : World) (a b : Obj) : Below w.heap.size w ((w.alloc a).alloc b) := ((Below.refl _ w).alloc (Nat.le_refl _) a).alloc (by simp) b

set_option maxHeartbeats 1000000 in
theorem refStep_go (r : RV) (hs : stops m = false) (h0 : 0 ≤ m.steps) (hb : m.steps < 4611686018427387904) (hf : -1 ≤ m.fuse ∧ m.fuse ≤ 9223372036854775807) :
    Calls Try.prog 51 #[rv r m] w fun e w' => e = .returned (.tuple #[rv r (stepM m), .bool true]) ∧ Below w.heap.size w w' := by
  obtain ⟨hdead, hfz⟩ := stops_false hs
  obtain ⟨hf0, hf1⟩ := hf
  have hz : ((m.fuse : Int) == 0) = false := by simpa using hfz
  by_cases hp : 0 < m.fuse
  · have hfu : (stepM m).fuse = m.fuse - 1 := by show (if _ then _ else _) = _; rw [if_pos hp]
    unfold rv
    rw [hfu, show (stepM m).L = m.L from rfl, show (stepM m).steps = m.steps + 1 from rfl, show (stepM m).dead = m.dead from rfl, hdead]
    clear hfu hs
    go_enter Try.func51, Try.ntmps51
    go_wp2
    exact bodyPost_ret (v := .tuple #[.agg #[.slice r.aN m.L r.cN, .slice r.aL m.L r.cL, .slice r.aW m.L r.cW, .slice r.aD m.L r.cD, .slice r.aP m.L r.cP, .int .i64 (m.steps + 1), .int .i64 (m.fuse - 1), .bool false], .bool true]) (by simp [results, Try.results51, go_sem]) rfl ⟨rfl, below_two _ _ _⟩
  · have hfu : (stepM m).fuse = m.fuse := by show (if _ then _ else _) = _; rw [if_neg hp]
    unfold rv
    rw [hfu, show (stepM m).L = m.L from rfl, show (stepM m).steps = m.steps + 1 from rfl, show (stepM m).dead = m.dead from rfl, hdead]
    clear hfu hs
    go_enter Try.func51, Try.ntmps51
    go_wp2
    exact bodyPost_ret (v := .tuple #[.agg #[.slice r.aN m.L r.cN, .slice r.aL m.L r.cL, .slice r.aW m.L r.cW, .slice r.aD m.L r.cD, .slice r.aP m.L r.cP, .int .i64 (m.steps + 1), .int .i64 m.fuse, .bool false], .bool true]) (by simp [results, Try.results51, go_sem]) rfl ⟨rfl, below_two _ _ _⟩

set_option maxHeartbeats 1000000 in
theorem refStep_no (r : RV) (hs : stops m = true) :
    Calls Try.prog 51 #[rv r m] w fun e w' => e = .returned (.tuple #[rv r (deadM m), .bool false]) ∧ Below w.heap.size w w' := by
  have hx := stops_true hs
  unfold rv
  rw [show (deadM m).L = m.L from rfl, show (deadM m).steps = m.steps from rfl, show (deadM m).fuse = m.fuse from rfl, show (deadM m).dead = true from rfl]
  clear hs
  cases hd : m.dead
  · have hz : ((m.fuse : Int) == 0) = true := by rw [hd] at hx; simpa using hx
    clear hx hd
    go_enter Try.func51, Try.ntmps51
    go_wp2
    exact bodyPost_ret (v := .tuple #[.agg #[.slice r.aN m.L r.cN, .slice r.aL m.L r.cL, .slice r.aW m.L r.cW, .slice r.aD m.L r.cD, .slice r.aP m.L r.cP, .int .i64 m.steps, .int .i64 m.fuse, .bool true], .bool false]) (by simp [results, Try.results51, go_sem]) rfl ⟨rfl, below_two _ _ _⟩
  · clear hx hd
    go_enter Try.func51, Try.ntmps51
    go_wp2
    exact bodyPost_ret (v := .tuple #[.agg #[.slice r.aN m.L r.cN, .slice r.aL m.L r.cL, .slice r.aW m.L r.cW, .slice r.aD m.L r.cD, .slice r.aP m.L r.cP, .int .i64 m.steps, .int .i64 m.fuse, .bool true], .bool false]) (by simp [results, Try.results51, go_sem]) rfl ⟨rfl, below_two _ _ _⟩

/-- A copy of a row: what it is, and where. -/
def CopyTo (t size n : Nat) (f : Nat → Value) (w : World) (e : Ending) (w' : World) : Prop :=
  ∃ a cap, e = .returned (.slice a n cap) ∧ SRow w' (fun b => w.heap.size ≤ b ∧ b < w'.heap.size) t size a n cap f ∧ Below w.heap.size w w'

theorem infoL : (Try.prog.info? 76).map (fun i => (i.zero, i.size, i.bytes)) = some (some (.agg #[.int .u64 0, .int .u64 0, .int .u64 0, .int .u64 0, .int .u64 0, .int .u64 0, .int .u64 0, .int .u64 0]), 8, 64) := by kernel_rfl

theorem run_append_copy {P : Program} {w : World} {t ty e : TypeId} {i : TypeInfo} {z : Value} {size bytes : Nat} (ht : P.underlying t = some (.slice e)) (hi : P.info? e = some i) (hz : i.zero = some z) (h1 : i.size = size) (hby : i.bytes = bytes) (hzs : z.cells.size = size) (hsz : 0 < size)
    {base : Nat} {v : Value} (hown : w.ownsRow base e size v 0 []) {T : Nat → Prop} {a : Option Addr} {n cap : Nat} {f : Nat → Value} (hs : SRow w T e size a n cap f) (h1c : ∀ k, (f k).oneCell' = true) (h63 : n ≤ maxLen) (hb : n * bytes ≤ 140737488355328) (hbase : base ≤ w.heap.size) :
    ∃ v' w', (Builtin.append_ #[t, t] ty #[v, .slice a n cap]).run P w = .ok v' w' ∧ w'.ownsRow base e size v' n ((List.range (n * size)).map f) ∧ w.grownBy w' v.ownBlock := by
  have hnews : n = 0 ∨ ∃ ad, a = some ad ∧ ∀ j u, ((List.range (n * size)).map f)[j]? = some u → w.cell? (ad.add j) = some u := by
    rcases Nat.eq_zero_or_pos n with h0 | h0
    · exact .inl h0
    · obtain ⟨b, rfl, _, hr⟩ := hs.at_ h0
      refine .inr ⟨_, rfl, fun j u hu => ?_⟩
      have hj : j < n * size := by have := (List.getElem?_eq_some_iff.1 hu).1; simpa using this
      rw [addr_add, Nat.zero_add, hr.cell hj]
      rw [List.getElem?_map, List.getElem?_range hj] at hu
      simpa using hu
  cases a with
  | none =>
    obtain rfl : n = 0 := hnews.resolve_right (by rintro ⟨_, h, _⟩; cases h)
    refine ⟨v, w, ?_, by simpa using hown, ⟨rfl, rfl, rfl, Nat.le_refl _, fun _ _ _ => rfl⟩⟩
    rcases hown.2 with ⟨rfl, _⟩ | ⟨g, c, cur, rfl, _, _, hnc, _⟩
    · simp [Builtin.append_, run_underlying ht, sizeOf, typeInfo, hi, Builtin.lenOf, Builtin.firstCells]
    · simp [Builtin.append_, run_underlying ht, sizeOf, typeInfo, hi, Builtin.lenOf, Builtin.firstCells, hnc, storeCells]
  | some x =>
    have hn2 : ∀ j u, ((List.range (n * size)).map f)[j]? = some u → w.cell? (x.add j) = some u := by
      rcases hnews with rfl | ⟨ad, h, hc⟩
      · intro j u hu; simp at hu
      · cases h; exact hc
    obtain ⟨v', w', hr, ho, hg, _⟩ := run_append_own_at (P := P) w base t ty e i _ size bytes ht hi hz h1 hby hzs hsz v 0 [] hown x n cap ((List.range (n * size)).map f) (by simp) hn2 (by intro u hu; obtain ⟨k, _, rfl⟩ := List.mem_map.1 hu; exact h1c k) (by omega) (by rw [Nat.zero_add]; exact hb) hbase
    exact ⟨v', w', hr, by simpa using ho, hg⟩

theorem wpList_append_copy {P : Program} {w : World} {ops : Array Oper} {rest : List Oper} {o : Oper} {act : Act} {Q : Exit → Act → World → Prop} (hgd : o.guard = none) (s x : Operand) (t e : TypeId) {i : TypeInfo} {z : Value} {size bytes : Nat}
    (ho : o.op = .call { callee := .builtin .append, args := #[s, x], argTypes := #[t, t] }) (ht : P.underlying t = some (.slice e)) (hi : P.info? e = some i) (hz : i.zero = some z) (h1 : i.size = size) (hby : i.bytes = bytes) (hzs : z.cells.size = size) (hsz : 0 < size)
    {base : Nat} {v : Value} {T : Nat → Prop} {a : Option Addr} {n cap : Nat} {f : Nat → Value} (hv : act.eval s = v) (hvs : act.eval x = .slice a n cap) (hown : w.ownsRow base e size v 0 []) (hs : SRow w T e size a n cap f) (h1c : ∀ k, (f k).oneCell' = true) (h63 : n ≤ maxLen) (hb : n * bytes ≤ 140737488355328) (hbase : base ≤ w.heap.size)
    (h : ∀ v' w', w'.ownsRow base e size v' n ((List.range (n * size)).map f) → w.grownBy w' v.ownBlock → wpList P ops Q rest (act.put o.dst v') w') : wpList P ops Q (o :: rest) act w := by
  refine wpList_plain hgd fun K hK => ?_
  obtain ⟨v', w', hr, h2, h3⟩ := run_append_copy (P := P) (ty := o.type) ht hi hz h1 hby hzs hsz hown hs h1c h63 hb hbase
  unfold Oper.wp
  simp [execOp, ho, resolve, invoke, builtin, hv, hvs, hr, Result.andThen]
  exact hK _ _ (h v' w' h2 h3)

set_option maxHeartbeats 400000 in
theorem refLines_any {w : World} {T : Nat → Prop} {a : Option Addr} {n cap : Nat} {f : Nat → Value} (hs : SRow w T 76 8 a n cap f) (h1 : ∀ k, (f k).oneCell' = true) (hn : n ≤ 33554432) :
    Calls Try.prog 52 #[.slice a n cap] w (CopyTo 76 8 n f w) := by
  obtain ⟨i0, hi, hz0, hz1, hz2⟩ := info_parts infoL
  have hs' : SRow (w.alloc (.cells #[] 76)) T 76 8 a n cap f := hs.keep (S := fun _ => False) ((Keep.refl _ w).alloc _) (fun _ _ _ h => h) (fun _ h _ => h)
  have hown : (w.alloc (.cells #[] 76)).ownsRow w.heap.size 76 8 (.slice (some ⟨w.heap.size, 0, none⟩) 0 0) 0 [] := World.ownsRow_made w #[] 0 (Nat.le_refl _) (by decide) rfl
  have HS := Lib.hid hs'
  have HO := Lib.hid hown
  have H1 := Lib.hid h1
  clear hs hs' hown h1
  go_enter Try.func52, Try.ntmps52
  go_wp2_with (at_builtin; refine wpList_append_copy rfl _ _ 27 76 rfl Try.underlying27 hi hz0 hz1 hz2 rfl (by decide) rfl rfl HO.out HS.out H1.out (by unfold maxLen; omega) (by omega) (by simp) ?_; intro v' w1 ho hg; have HV := Lib.hid ho; have HG := Lib.hid hg; clear ho hg)
  go_ret
  obtain ⟨a', cap', rfl, hr⟩ := SRow.of_own (T := fun b => w.heap.size ≤ b ∧ b < w1.heap.size) HV.out (f := f) (fun k hk => by rw [List.getElem?_map, List.getElem?_range hk]; rfl) (fun b h1 h2 => ⟨h1, h2⟩)
  exact ⟨a', cap', rfl, hr, ((Below.refl _ w).alloc (Nat.le_refl _) _).grown HG.out (by simp) (fun k hk => by simp [Act.eval, Value.ownBlock] at hk; omega)⟩

set_option maxHeartbeats 400000 in
theorem refFlags_any {w : World} {T : Nat → Prop} {a : Option Addr} {n cap : Nat} {f : Nat → Value} (hs : SRow w T 4 1 a n cap f) (h1 : ∀ k, (f k).oneCell' = true) (hn : n ≤ 33554432) :
    Calls Try.prog 53 #[.slice a n cap] w (CopyTo 4 1 n f w) := by
  obtain ⟨i0, hi, hz0, hz1, hz2⟩ := info_parts infoB
  have hs' : SRow (w.alloc (.cells #[] 4)) T 4 1 a n cap f := hs.keep (S := fun _ => False) ((Keep.refl _ w).alloc _) (fun _ _ _ h => h) (fun _ h _ => h)
  have hown : (w.alloc (.cells #[] 4)).ownsRow w.heap.size 4 1 (.slice (some ⟨w.heap.size, 0, none⟩) 0 0) 0 [] := World.ownsRow_made w #[] 0 (Nat.le_refl _) (by decide) rfl
  have HS := Lib.hid hs'
  have HO := Lib.hid hown
  have H1 := Lib.hid h1
  clear hs hs' hown h1
  go_enter Try.func53, Try.ntmps53
  go_wp2_with (at_builtin; refine wpList_append_copy rfl _ _ 28 4 rfl Try.underlying28 hi hz0 hz1 hz2 rfl (by decide) rfl rfl HO.out HS.out H1.out (by unfold maxLen; omega) (by omega) (by simp) ?_; intro v' w1 ho hg; have HV := Lib.hid ho; have HG := Lib.hid hg; clear ho hg)
  go_ret
  obtain ⟨a', cap', rfl, hr⟩ := SRow.of_own (T := fun b => w.heap.size ≤ b ∧ b < w1.heap.size) HV.out (f := f) (fun k hk => by rw [List.getElem?_map, List.getElem?_range hk]; rfl) (fun b h1 h2 => ⟨h1, h2⟩)
  exact ⟨a', cap', rfl, hr, ((Below.refl _ w).alloc (Nat.le_refl _) _).grown HG.out (by simp) (fun k hk => by simp [Act.eval, Value.ownBlock] at hk; omega)⟩
end

end Go.Proofs.Ytnkndhmkamaccaa
