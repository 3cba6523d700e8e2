/- A device in memory: its struct, its words, its flags, its map of what is pending; and what becomes of it. -/
import Derived.Test.YtpgkplknfhdmgaaDoorRow
import Derived.Test.YtpgkplknfhdmgaaDoorNvmMath
import Derived.Maps.RangeWalk
namespace Go.Proofs.YtpgkplknfhdmgaaDoor
open Go.ChangeShapes Go.WideShapes Go.ChangeAt Go.RowKit Go.Maps Nv
set_option linter.unusedVariables false

/-- What the map of what is pending holds: slices of eight words, told by their blocks. -/
def blkElem : Value → Option (DataW Unit × List MemPlace)
  | .slice (some ⟨b, 0, none⟩) 8 8 => some (.lit (.int .u64 b), [])
  | .slice none 0 0 => some (.nil, [])
  | _ => none
theorem blkElem_mk (b : Nat) : blkElem (.slice (some ⟨b, 0, none⟩) 8 8) = some (.lit (.int .u64 b), []) := rfl
theorem blkElem_nil : blkElem (.slice none 0 0) = some (.nil, []) := rfl
theorem blkElem_lit {v : Value} {b : Nat} {ps : List MemPlace} (h : blkElem v = some (.lit (.int .u64 b), ps)) : v = .slice (some ⟨b, 0, none⟩) 8 8 := by
  unfold blkElem at h
  split at h
  · rename_i b1; simp at h; obtain ⟨h, _⟩ := h; obtain rfl : b1 = b := by omega
    rfl
  · simp at h
  · cases h

/-- Where a device lies; what its map reads as; blocks that hold what is pending. -/
structure Fp where
  bl : Nat
  bn : Nat
  bd : Nat
  bm : Nat
  left : Int
  n : Nat
  D : DataW Unit
  pb : Nat → Prop

/-- The blocks of a device. -/
def Fp.own (f : Fp) (p : Nat) : Nat → Prop := fun b => b = p ∨ b = f.bl ∨ b = f.bn ∨ b = f.bd ∨ b = f.bm ∨ f.pb b

def devCells (f : Fp) (m : Mdl) : Array Value :=
  #[.slice (some ⟨f.bl, 0, none⟩) (8 * m.L) (8 * m.L), .slice (some ⟨f.bn, 0, none⟩) (8 * m.L) (8 * m.L), .slice (some ⟨f.bd, 0, none⟩) m.L m.L, .map (some f.bm), .int .i64 f.left, .int .i64 m.steps, .bool m.dead]

/-- The device that leads to block p is m. -/
structure Dev (w : World) (p : Nat) (f : Fp) (m : Mdl) : Prop where
  hp : w.heap[p]? = some (.cells (devCells f m) 56 (0, 0))
  hl : Row w f.bl 22 (8 * m.L) fun k => .int .u64 (m.last k)
  hn : Row w f.bn 22 (8 * m.L) fun k => .int .u64 (m.now k)
  hd : Row w f.bd 4 m.L fun k => .bool (m.dirty k)
  hm : w.ownsMap Tryd.prog 3 blkElem f.bm f.n f.D
  ne : f.bl ≠ f.bn
  pend : ∀ x : Int, Maps.has f.D (.int .i64 x) = true → ∃ (i b : Nat) (c : Nat → Int), x = i ∧ i < m.L ∧ m.wait i = some c ∧ (∀ zd, f.D.atKey (.int .i64 x) zd = .lit (.int .u64 b)) ∧ Row w b 22 8 (fun k => .int .u64 (c k)) ∧ b ≠ f.bl ∧ b ≠ f.bn ∧ f.pb b
  back : ∀ (i : Nat) (c : Nat → Int), m.wait i = some c → Maps.has f.D (.int .i64 i) = true
  hn' : (f.n : Int) ≤ m.steps
  hf : max f.left (-1) = m.fuse
  hlo : -9223372036854775808 ≤ f.left ∧ f.left ≤ 9223372036854775807
  hL : m.L ≤ 33554432
  hpb : ∀ b, f.pb b → b < w.heap.size

section
variable {w w' : World} {p : Nat} {f : Fp} {m : Mdl}

theorem Dev.ptr_lt (h : Dev w p f m) : p < w.heap.size := (Array.getElem?_eq_some_iff.1 h.hp).1
theorem Dev.cell (h : Dev w p f m) (i : Nat) : w.cell? ⟨p, i, none⟩ = (devCells f m)[i]? := by
  simp only [World.cell?, h.hp]; simp
theorem Dev.frozen (h : Dev w p f m) (i : Nat) : w.frozen? ⟨p, i, none⟩ = false := by simp [World.frozen?, h.hp]
theorem Dev.c0 (h : Dev w p f m) : w.cell? ⟨p, 0, none⟩ = some (.slice (some ⟨f.bl, 0, none⟩) (8 * m.L) (8 * m.L)) := h.cell 0
theorem Dev.c1 (h : Dev w p f m) : w.cell? ⟨p, 1, none⟩ = some (.slice (some ⟨f.bn, 0, none⟩) (8 * m.L) (8 * m.L)) := h.cell 1
theorem Dev.c2 (h : Dev w p f m) : w.cell? ⟨p, 2, none⟩ = some (.slice (some ⟨f.bd, 0, none⟩) m.L m.L) := h.cell 2
theorem Dev.c3 (h : Dev w p f m) : w.cell? ⟨p, 3, none⟩ = some (.map (some f.bm)) := h.cell 3
theorem Dev.c4 (h : Dev w p f m) : w.cell? ⟨p, 4, none⟩ = some (.int .i64 f.left) := h.cell 4
theorem Dev.c5 (h : Dev w p f m) : w.cell? ⟨p, 5, none⟩ = some (.int .i64 m.steps) := h.cell 5
theorem Dev.c6 (h : Dev w p f m) : w.cell? ⟨p, 6, none⟩ = some (.bool m.dead) := h.cell 6

theorem Dev.neMap (h : Dev w p f m) {b t n : Nat} {g : Nat → Value} (hr : Row w b t n g) : b ≠ f.bm := by
  obtain ⟨es, c, hb, _⟩ := h.hm
  exact hr.neMap hb
theorem Dev.nep (h : Dev w p f m) {b t n : Nat} {g : Nat → Value} (hr : Row w b t n g) (ht : t ≠ 56) : b ≠ p := by
  rintro rfl
  obtain ⟨cs, hb, _⟩ := hr
  rw [h.hp] at hb; cases hb; exact ht rfl
theorem Dev.pm (h : Dev w p f m) : p ≠ f.bm := by
  intro e
  obtain ⟨es, c, hb, _⟩ := h.hm
  rw [← e, h.hp] at hb; cases hb
theorem Dev.lp (h : Dev w p f m) : f.bl ≠ p := h.nep h.hl (by decide)
theorem Dev.np (h : Dev w p f m) : f.bn ≠ p := h.nep h.hn (by decide)
theorem Dev.dp (h : Dev w p f m) : f.bd ≠ p := h.nep h.hd (by decide)
theorem Dev.ld (h : Dev w p f m) : f.bl ≠ f.bd := h.hl.ne h.hd (by decide)
theorem Dev.nd (h : Dev w p f m) : f.bn ≠ f.bd := h.hn.ne h.hd (by decide)
theorem Dev.lm (h : Dev w p f m) : f.bl ≠ f.bm := h.neMap h.hl
theorem Dev.nm (h : Dev w p f m) : f.bn ≠ f.bm := h.neMap h.hn
theorem Dev.dm (h : Dev w p f m) : f.bd ≠ f.bm := h.neMap h.hd
theorem Dev.own_lt (h : Dev w p f m) : p < w.heap.size ∧ f.bl < w.heap.size ∧ f.bn < w.heap.size ∧ f.bd < w.heap.size ∧ f.bm < w.heap.size :=
  ⟨h.ptr_lt, h.hl.lt, h.hn.lt, h.hd.lt, h.hm.lt⟩
theorem own_p (f : Fp) (p : Nat) : f.own p p := .inl rfl
theorem own_bl (f : Fp) (p : Nat) : f.own p f.bl := .inr (.inl rfl)
theorem own_bn (f : Fp) (p : Nat) : f.own p f.bn := .inr (.inr (.inl rfl))
theorem own_bd (f : Fp) (p : Nat) : f.own p f.bd := .inr (.inr (.inr (.inl rfl)))
theorem own_bm (f : Fp) (p : Nat) : f.own p f.bm := .inr (.inr (.inr (.inr (.inl rfl))))
theorem own_pb {f : Fp} {p b : Nat} (h : f.pb b) : f.own p b := .inr (.inr (.inr (.inr (.inr h))))

theorem grown_of_keep {S : Nat → Prop} (h : Keep S w w') {b : Nat} (hb : b < w.heap.size) (hS : ¬ S b) {n : Nat} {D : DataW Unit} (ho : w.ownsMap Tryd.prog 3 blkElem b n D) : w'.ownsMap Tryd.prog 3 blkElem b n D := by
  obtain ⟨es, c, h1, r⟩ := ho
  exact ⟨es, c, (h.block b hb hS).trans h1, r⟩

/-- A device stays what it is while other blocks turn. -/
theorem Dev.keep {S : Nat → Prop} (h : Dev w p f m) (hk : Keep S w w') (hS : ∀ b, b < w.heap.size → f.own p b → ¬ S b) : Dev w' p f m where
  hp := (hk.block p h.ptr_lt (hS _ h.ptr_lt (own_p f p))).trans h.hp
  hl := hk.row h.hl (hS _ h.hl.lt (own_bl f p))
  hn := hk.row h.hn (hS _ h.hn.lt (own_bn f p))
  hd := hk.row h.hd (hS _ h.hd.lt (own_bd f p))
  hm := grown_of_keep hk h.hm.lt (hS _ h.hm.lt (own_bm f p)) h.hm
  ne := h.ne
  pend := fun x hx => by
    obtain ⟨i, b, c, e1, e2, e3, e4, e5, e6, e7, e8⟩ := h.pend x hx
    exact ⟨i, b, c, e1, e2, e3, e4, hk.row e5 (hS _ e5.lt (own_pb e8)), e6, e7, e8⟩
  back := h.back
  hn' := h.hn'
  hf := h.hf
  hlo := h.hlo
  hL := h.hL
  hpb := fun b hb => Nat.lt_of_lt_of_le (h.hpb b hb) hk.size

/-- Behind a call on a device it is m'; nothing that isn't its own has turned. -/
def DevTo (p : Nat) (f : Fp) (m' : Mdl) (w w' : World) : Prop := ∃ f', Dev w' p f' m' ∧ Keep (f.own p) w w' ∧ ∀ b, f'.own p b → f.own p b ∨ w.heap.size ≤ b

theorem Dev.to (h : Dev w p f m) : DevTo p f m w w := ⟨f, h, Keep.refl _ _, fun b h => .inl h⟩
theorem DevTo.mk {f' : Fp} {m' : Mdl} (h : Dev w' p f' m') (hk : Keep (f.own p) w w') (ho : ∀ b, f'.own p b → f.own p b ∨ w.heap.size ≤ b) : DevTo p f m' w w' := ⟨f', h, hk, ho⟩
theorem keep_step {f1 : Fp} {w1 w2 : World} (k1 : Keep (f.own p) w w1) (o1 : ∀ b, f1.own p b → f.own p b ∨ w.heap.size ≤ b) (k2 : Keep (f1.own p) w1 w2) : Keep (f.own p) w w2 :=
  k1.trans k2 fun i hi h => (o1 i h).resolve_right (by omega)
theorem own_step {f1 f2 : Fp} {w1 : World} (k1 : Keep (f.own p) w w1) (o1 : ∀ b, f1.own p b → f.own p b ∨ w.heap.size ≤ b) (o2 : ∀ b, f2.own p b → f1.own p b ∨ w1.heap.size ≤ b) : ∀ b, f2.own p b → f.own p b ∨ w.heap.size ≤ b :=
  fun b h => (o2 b h).elim (o1 b) (fun h => .inr (Nat.le_trans k1.size h))
theorem DevTo.trans {f1 : Fp} {w1 w2 : World} {m2 : Mdl} (k1 : Keep (f.own p) w w1) (o1 : ∀ b, f1.own p b → f.own p b ∨ w.heap.size ≤ b) (h2 : DevTo p f1 m2 w1 w2) : DevTo p f m2 w w2 := by
  obtain ⟨f2, h, k2, o2⟩ := h2
  exact ⟨f2, h, keep_step k1 o1 k2, own_step k1 o1 o2⟩
theorem Dev.drewN (h : Dev w p f m) (n : Nat) : Dev (w.drewN n) p f m := ⟨h.hp, h.hl, h.hn, h.hd, h.hm, h.ne, h.pend, h.back, h.hn', h.hf, h.hlo, h.hL, h.hpb⟩
theorem Dev.alloc (h : Dev w p f m) (o : Obj) : Dev (w.alloc o) p f m := h.keep (S := fun _ => False) ((Keep.refl _ w).alloc o) (fun _ _ _ h => h)

/-- A field of the struct is written. -/
theorem Dev.field (h : Dev w p f m) (f' : Fp) (m' : Mdl) (i : Nat) (v : Value) (hc : (devCells f m).setIfInBounds i v = devCells f' m') (hbl : f'.bl = f.bl) (hbn : f'.bn = f.bn) (hbd : f'.bd = f.bd) (hbm : f'.bm = f.bm) (hD : f'.D = f.D) (hnn : f'.n = f.n) (hpb : f'.pb = f.pb)
    (hL : m'.L = m.L) (h1 : m'.last = m.last) (h2 : m'.now = m.now) (h3 : m'.dirty = m.dirty) (h4 : m'.wait = m.wait) (h5 : (f.n : Int) ≤ m'.steps) (h6 : max f'.left (-1) = m'.fuse) (h7 : -9223372036854775808 ≤ f'.left ∧ f'.left ≤ 9223372036854775807) : Dev (w.setCell ⟨p, i, none⟩ v) p f' m' where
  hp := by
    rw [← hc]; simp [World.setCell, Array.getElem?_modify, h.hp]
  hl := by rw [hbl, hL, h1]; exact h.hl.far h.lp v
  hn := by rw [hbn, hL, h2]; exact h.hn.far h.np v
  hd := by rw [hbd, hL, h3]; exact h.hd.far h.dp v
  hm := by rw [hbm, hnn, hD]; exact h.hm.setCell (fun e => h.pm e.symm) v
  ne := by rw [hbl, hbn]; exact h.ne
  pend := fun x hx => by
    rw [hD] at hx
    obtain ⟨i, b, c, e1, e2, e3, e4, e5, e6, e7, e8⟩ := h.pend x hx
    rw [hD, hL, h4, hbl, hbn, hpb]
    exact ⟨i, b, c, e1, e2, e3, e4, e5.far (h.nep e5 (by decide)) v, e6, e7, e8⟩
  back := by rw [h4, hD]; exact h.back
  hn' := by rw [hnn]; exact h5
  hf := h6
  hlo := h7
  hL := by rw [hL]; exact h.hL
  hpb := by rw [hpb]; intro b hb; have := h.hpb b hb; simp [World.setCell]; exact this

/-- A word is stored. -/
theorem Dev.setNow (h : Dev w p f m) (k : Nat) (x : Int) : Dev (w.setCell ⟨f.bn, k, none⟩ (.int .u64 x)) p f (setNow m k x) where
  hp := (Below.heap_setCell _ _ _ _ h.np.symm).trans h.hp
  hl := h.hl.far h.ne _
  hn := (h.hn.set k _).congr fun j _ => by simp only [Nv.setNow]; split <;> rfl
  hd := h.hd.far h.nd.symm _
  hm := h.hm.setCell (fun e => h.nm e.symm) _
  ne := h.ne
  pend := fun x hx => by
    obtain ⟨i, b, c, e1, e2, e3, e4, e5, e6, e7, e8⟩ := h.pend x hx
    exact ⟨i, b, c, e1, e2, e3, e4, e5.far e7 _, e6, e7, e8⟩
  back := h.back
  hn' := h.hn'
  hf := h.hf
  hlo := h.hlo
  hL := h.hL
  hpb := fun b hb => by have := h.hpb b hb; simp [World.setCell]; exact this

/-- A line's flag is stored. -/
theorem Dev.setDirty (h : Dev w p f m) (i : Nat) (b : Bool) : Dev (w.setCell ⟨f.bd, i, none⟩ (.bool b)) p f (setDirty m i b) where
  hp := (Below.heap_setCell _ _ _ _ h.dp.symm).trans h.hp
  hl := h.hl.far h.ld _
  hn := h.hn.far h.nd _
  hd := (h.hd.set i _).congr fun j _ => by simp only [Nv.setDirty]; split <;> rfl
  hm := h.hm.setCell (fun e => h.dm e.symm) _
  ne := h.ne
  pend := fun x hx => by
    obtain ⟨i, b, c, e1, e2, e3, e4, e5, e6, e7, e8⟩ := h.pend x hx
    exact ⟨i, b, c, e1, e2, e3, e4, e5.far (e5.ne h.hd (by decide)) _, e6, e7, e8⟩
  back := h.back
  hn' := h.hn'
  hf := h.hf
  hlo := h.hlo
  hL := h.hL
  hpb := fun b hb => by have := h.hpb b hb; simp [World.setCell]; exact this

theorem Dev.own_all (h : Dev w p f m) (b : Nat) (ho : f.own p b) : b < w.heap.size := by
  have := h.own_lt
  rcases ho with e | e | e | e | e | e
  · omega
  · omega
  · omega
  · omega
  · omega
  · exact h.hpb b e
theorem own_sub (f : Fp) (p : Nat) (w : World) : ∀ b, f.own p b → f.own p b ∨ w.heap.size ≤ b := fun _ h => .inl h
end

end Go.Proofs.YtpgkplknfhdmgaaDoor
