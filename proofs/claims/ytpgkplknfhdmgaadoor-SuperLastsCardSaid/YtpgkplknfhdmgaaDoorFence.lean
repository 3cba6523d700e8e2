/- A fence: what is pending lasts, line by line, in whatever order the map gives. -/
import Derived.Test.YtpgkplknfhdmgaaDoorOps
import Derived.Deep.RegionHeld3
namespace Go.Proofs.YtpgkplknfhdmgaaDoor
open Go.ChangeShapes Go.WideShapes Go.ChangeAt Go.RowKit Nv
set_option linter.unusedVariables false

theorem fenced_none {m : Mdl} {p : Nat → Bool} (h : ∀ i, p i = false) : fenced m p = m := by
  simp [fenced, h]
theorem fenced_p {m : Mdl} {p q : Nat → Bool} (h : ∀ i, p i = q i) : fenced m p = fenced m q := by rw [funext h]
theorem fenced_step {m : Mdl} {p : Nat → Bool} {i : Nat} {c : Nat → Int} (hc : m.wait i = some c) :
    Nv.setDirty (Nv.setLast (fenced m p) i c) i (!eq8 c (lineOf m.now i)) = fenced m fun j => if j = i then true else p j := by
  simp only [fenced, Nv.setDirty, Nv.setLast, Mdl.mk.injEq, true_and, and_true]
  refine ⟨funext fun j => ?_, funext fun j => ?_⟩
  · by_cases e : j / 8 = i
    · rw [if_pos e, if_pos (by rw [if_pos e]), e, hc]
    · simp [e]
  · by_cases e : j = i
    · rw [if_pos e, if_pos (by rw [if_pos e]), e, hc]
    · simp [e]
theorem fenced_end {m : Mdl} {p : Nat → Bool} (h : ∀ i, p i = false → m.wait i = none) : noWait (fenced m p) = noWait (fenced m fun _ => true) := by
  simp only [fenced, noWait, Mdl.mk.injEq, true_and, and_true]
  refine ⟨funext fun j => ?_, funext fun j => ?_⟩
  · by_cases e : p (j / 8) = true
    · simp [e]
    · simp [e, h _ (by simpa using e)]
  · by_cases e : p j = true
    · simp [e]
    · simp [e, h _ (by simpa using e)]

/-- The step of a range over what is pending. -/
theorem wpList_next_dev {P : Program} {w : World} {ops : Array Oper} {rest : List Oper} {o : Oper} {a : Act} {Q : Exit → Act → World → Prop} (hg : o.guard = none) (it : Operand) (hop : o.op = Op.next it false) (k : TypeId) (K : Go.Maps.Keyed P k) (hk : P.underlying k = some (.int .i64))
    (b r n : Nat) (D : DataW Unit) (left : Lit → Bool) (cnt : Nat) (hit : a.eval it = .pointer (some ⟨r, 0, none⟩)) (h : w.ranges P k blkElem b r n D left cnt)
    (hpend : ∀ x : Int, left (.int .i64 x) = true → ∃ i b : Nat, x = i ∧ ∀ zd, D.atKey (.int .i64 x) zd = .lit (.int .u64 b))
    (hDone : cnt = 0 → (∀ kl, left kl = false) → wpList P ops Q rest (a.put o.dst (.tuple #[.bool false])) w)
    (hMore : ∀ (i b' : Nat) (w' : World) (cnt' : Nat), left (.int .i64 i) = true → (∀ zd, D.atKey (.int .i64 i) zd = .lit (.int .u64 b')) → w'.ranges P k blkElem b r n D (fun z => left z && !z.sameKey (.int .i64 i)) cnt' → cnt' < cnt →
      w.grownBy w' (some r) → w'.heap.size = w.heap.size → (Instr.entry (.pointer (some ⟨r, 0, none⟩))).run P w' = .ok (.tuple #[.int .i64 i, .slice (some ⟨b', 0, none⟩) 8 8]) w' →
      wpList P ops Q rest (a.put o.dst (.tuple #[.bool true, .int .i64 i, .slice (some ⟨b', 0, none⟩) 8 8])) w') :
    wpList P ops Q (o :: rest) a w := by
  refine wpList_next_ranges w hg it hop k K blkElem (Value.int .i64) (fun v : Value => v) (fun key kl hkey => by obtain ⟨x, rfl, _⟩ := Go.Maps.keyOf_int_inv hk hkey; exact ⟨x, rfl⟩) (fun v y _ => ⟨v, rfl⟩) b r n D left cnt hit h hDone ?_
  intro x v kl y w' cnt' hkey hlk hv hat hrg hlt hgr hsz hen
  obtain ⟨x', ex, rfl, hwx⟩ := Go.Maps.keyOf_int_inv hk hkey
  cases ex
  obtain ⟨i, b', rfl, hat'⟩ := hpend x hlk
  obtain ⟨y1, y2⟩ := y
  obtain rfl : y1 = .lit (.int .u64 b') := (hat .nil).symm.trans (hat' .nil)
  obtain rfl := blkElem_lit hv
  exact hMore i b' w' cnt' hlk hat' hrg hlt hgr hsz hen

theorem ranges_of_keep {S : Nat → Prop} {w w' : World} (hk : Keep S w w') {k : TypeId} {b r n cnt : Nat} {D : DataW Unit} {left : Lit → Bool} (hb : ¬ S b) (hr : ¬ S r) (h : w.ranges Tryd.prog k blkElem b r n D left cnt) : w'.ranges Tryd.prog k blkElem b r n D left cnt := by
  have h1 := h.owns.lt
  have h2 := h.lt
  obtain ⟨es, clock, since, seen, c0', q1, q2, q3, q4, q5, q6⟩ := h
  exact ⟨es, clock, since, seen, c0', (hk.block _ h1 hb).trans q1, q2, q3, q4, (hk.block _ h2 hr).trans q5, q6⟩

section
variable {w : World} {p : Nat} {f : Fp} {m : Mdl}

/-- A new map in the place of the old one. -/
theorem Dev.newMap (h : Dev w p f m) (hst : 0 ≤ m.steps) : Dev ((w.alloc (.map #[] 0)).setCell ⟨p, 3, none⟩ (.map (some w.heap.size))) p { f with bm := w.heap.size, n := 0, D := .map [], pb := fun _ => False } (noWait m) := by
  have ha := h.alloc (.map #[] 0)
  have hm := (World.ownsMap_made w Tryd.prog 3 blkElem)
  have hlt := h.own_lt
  refine ⟨?_, ha.hl.far ha.lp _, ha.hn.far ha.np _, ha.hd.far ha.dp _, hm.setCell (a := ⟨p, 3, none⟩) (by show w.heap.size ≠ p; omega) _, h.ne, ?_, ?_, by simpa [noWait] using hst, h.hf, h.hlo, h.hL, fun _ h => h.elim⟩
  · have := ha.hp
    simp [World.setCell, Array.getElem?_modify, this, devCells, noWait]
  · intro x hx; simp [Go.Maps.has] at hx
  · intro i c hc; simp [noWait] at hc

/-- Those that are fenced: that were there, and are no more to come. -/
def gone (D : DataW Unit) (left : Lit → Bool) : Nat → Bool := fun i => Go.Maps.has D (.int .i64 i) && !left (.int .i64 i)

theorem gone_step {D : DataW Unit} {left : Lit → Bool} {i : Nat} (hh : Go.Maps.has D (.int .i64 i) = true) : ∀ j, (if j = i then true else gone D left j) = gone D (fun z => left z && !z.sameKey (.int .i64 i)) j := by
  intro j
  unfold gone
  by_cases e : j = i
  · subst e
    have e := WideAt.sameKey_self (isKey j)
    rw [if_pos rfl, hh]; simp [e]
  · have e' := Go.Maps.sameKey_ne (lit_ne (x := j) (i := i) (by omega))
    rw [if_neg e]; simp [e']

set_option maxHeartbeats 1000000 in
set_option maxRecDepth 100000 in
theorem fence_any (h : Dev w p f m) (hb : m.steps < 4611686018427387904) :
    Calls Tryd.prog 40 #[.pointer (some ⟨p, 0, none⟩)] w (CodeTo p f (Nv.fence m) w) := by
  have hL := h.hL
  cases hs : stops m
  · have hr : Nv.fence m = (fenceM m, 0) := by unfold Nv.fence; rw [if_neg (by rw [hs]; decide)]
    rw [hr]
    clear hr
    have hmm := @run_makeMap Tryd.prog
    have hst0 : 0 ≤ m.steps := by have := h.hn'; omega
    go_enter Tryd.func40, Tryd.ntmps40
    go_wp2_with fail
    refine (step_go h hs hb).mono ?_
    rintro e w1 ⟨rfl, f1, h1, k1, o1, -⟩
    have c3 := h1.c3
    have H1 := Lib.hid h1
    have HM := Lib.hid h1.hm
    have K1 := Lib.hid k1
    have O1 := Lib.hid o1
    clear h1 k1 o1 h hs
    go_wp2_with (first
      | (at_range; refine wpList_range_own _ rfl _ 54 rfl 3 36 keyI Tryd.underlying54 blkElem f1.bm f1.n f1.D rfl HM.out ?_; intro w0 hrg0 hg0 hs0))
    go_frame
    go_loopw [3, 4] (fun _ _ wr => ∃ (left : Lit → Bool) (cnt : Nat), wr.ranges Tryd.prog 3 blkElem f1.bm w1.heap.size f1.n f1.D left cnt ∧ (∀ x, left (.int .i64 x) = true → Go.Maps.has f1.D (.int .i64 x) = true) ∧ Dev wr p f1 (fenced (stepM m) (gone f1.D left)) ∧ Keep (f1.own p) w1 wr)
      (fun _ _ wr => wr.rangeLeft f1.bm w1.heap.size)
    case atStart =>
      refine ⟨_, _, hrg0, fun x hx => hx, ?_, Keep.ofGrown hg0 (by intro k hk; cases hk)⟩
      rw [fenced_none (fun i => by unfold gone; cases Go.Maps.has f1.D (.int .i64 i) <;> rfl)]
      exact H1.out.keep (S := fun _ => False) (Keep.ofGrown hg0 (by intro k hk; cases hk)) (fun _ _ _ h => h)
    case round =>
      obtain ⟨left, cnt, hrg, hhas, hd, hk⟩ := hrel
      have hpend : ∀ x : Int, left (.int .i64 x) = true → ∃ i b : Nat, x = i ∧ ∀ zd, f1.D.atKey (.int .i64 x) zd = .lit (.int .u64 b) := fun x hx => by
        obtain ⟨i, b, _, e1, _, _, e4, _⟩ := hd.pend x (hhas x hx)
        exact ⟨i, b, e1, e4⟩
      have HR := Lib.hid hrg
      have HH := Lib.hid hhas
      have HD := Lib.hid hd
      have HK := Lib.hid hk
      have HP := Lib.hid hpend
      clear hrg hhas hd hk hpend hrg0 hg0 hs0
      go_wp2_with (first
        | (at_next; refine wpList_next_dev rfl _ rfl 3 keyI Tryd.underlying3 f1.bm w1.heap.size f1.n f1.D _ _ rfl HR.out HP.out ?_ ?_))
      · intro _ hl0
        have c3 := HD.out.c3
        have f3 := HD.out.frozen 3
        have hlt := HD.out.ptr_lt
        have HL0 := Lib.hid hl0
        clear hl0
        go_wp2_with fail
        go_ret
        have hd := HD.out
        have hn := hd.newMap (by show 0 ≤ m.steps + 1; omega)
        have hE : noWait (fenced (stepM m) (gone f1.D left)) = fenceM m := fenced_end fun i hi => by
          cases hw : (stepM m).wait i with
          | none => rfl
          | some c =>
            have h1 := H1.out.back i c hw
            unfold gone at hi
            rw [h1, HL0.out] at hi
            cases hi
        rw [hE] at hn
        have hz := K1.out.size
        have hz2 := HK.out.size
        rw [World.setCell_alloc_past _ _ _ _ hd.ptr_lt] at hn
        refine ⟨rfl, _, hn, ((K1.out.trans HK.out fun i hi e => (O1.out _ e).resolve_right (by omega)).setCell (fun _ => own_p f p) _).alloc _, fun x hx => ?_⟩
        rcases hx with e | e | e | e | e | e
        · exact .inl (.inl e)
        · exact O1.out x (.inr (.inl e))
        · exact O1.out x (.inr (.inr (.inl e)))
        · exact O1.out x (.inr (.inr (.inr (.inl e))))
        · right; rw [e]; show _ ≤ wr.heap.size; omega
        · exact e.elim
      · intro i b w5 cnt1 hl hat hrg1 hlt hg1 hs1 hen
        have hne : ∀ x, f1.own p x → ¬ x = w1.heap.size := fun x ho e => by subst e; have := H1.out.own_all _ ho; omega
        have HNE := Lib.hid hne
        have h5 : Dev w5 p f1 (fenced (stepM m) (gone f1.D left)) := HD.out.keep (Keep.ofGrown (S := fun x => x = w1.heap.size) hg1 (by intro k hk; cases hk; rfl)) (fun x hx ho e => hne x ho e)
        obtain ⟨i', b', c, e1, hi, hwt, e4, hrb, hbl, hbn, hpb⟩ := h5.pend i (HH.out i hl)
        obtain rfl : i' = i := by omega
        obtain rfl : b' = b := by have := (hat .nil).symm.trans (e4 .nil); simp at this; omega
        have hwt' : (stepM m).wait i' = some c := hwt
        have hi' : i' < m.L := hi
        have hii : (i' : Int) < ((m.L : Nat) : Int) := by omega
        have c0 : w5.cell? ⟨p, 0, none⟩ = some (.slice (some ⟨f1.bl, 0, none⟩) (8 * m.L) (8 * m.L)) := h5.c0
        have hsrc : ∀ j, j < 8 → w5.cell? ((⟨b', 0, none⟩ : Addr).add j) = some (.int .u64 (c j)) := fun j hj => by rw [addr_add, Nat.zero_add]; exact hrb.cell hj
        have hrow : Row w5 f1.bl 22 (8 * m.L) (fun k => .int .u64 ((fenced (stepM m) (gone f1.D left)).last k)) := h5.hl
        have hsup : ∀ w6, Row w6 f1.bl 22 (8 * m.L) (fun j => if 8 * i' ≤ j ∧ j < 8 * i' + 8 then .int .u64 (c (j - 8 * i')) else .int .u64 ((fenced (stepM m) (gone f1.D left)).last j)) → Keep (fun x => x = f1.bl) w5 w6 →
            Dev w6 p f1 (Nv.setLast (fenced (stepM m) (gone f1.D left)) i' c) ∧ w6.ranges Tryd.prog 3 blkElem f1.bm w1.heap.size f1.n f1.D (fun z => left z && !z.sameKey (.int .i64 i')) cnt1 ∧ Row w6 b' 22 8 (fun k => .int .u64 (c k)) := fun w6 hr hk => by
          have hlb := h5.lm
          have hlr : f1.bl ≠ w1.heap.size := hne _ (own_bl f1 p)
          refine ⟨h5.laidLast hi hk hr, ?_, hk.row hrb hbl⟩
          exact ranges_of_keep hk hlb.symm (fun e => hlr e.symm) hrg1
        have H5 := Lib.hid h5
        have HS := Lib.hid hsup
        have HC := Lib.hid hsrc
        have HW := Lib.hid hrow
        have HWT := Lib.hid hwt'
        have HG1 := Lib.hid hg1
        have HZ := Lib.hid hs1
        have HLE := Lib.hid hlt
        have HHAS := Lib.hid (HH.out i' hl)
        clear h5 hsup hsrc hrow hwt hwt' hg1 hs1 hlt hrg1 hat hl e1 e4 hrb hbl hbn hpb hne
        go_wp2_with fail
        refine (part_any _ f1.bl (8 * m.L) (8 * m.L) i' (by omega) (by omega) (by omega)).mono ?_
        rintro e w' ⟨rfl, rfl⟩
        go_wp2_with ((with_reducible refine wpList_copy_cells rfl _ _ 36 36 rfl 22 Tryd.underlying36 infoU64s _ _ 8 8 8 8 rfl rfl f1.bl (8 * i') (8 * m.L) 22 _ (fun j => .int .u64 (c j)) 8 HW.out rfl (fun _ => ⟨rfl, _, rfl, HC.out⟩) (by omega) (fun _ => rfl) ?_); intro w6 r6 k6; have H6 := Lib.hid (HS.out w6 r6 k6); have K6 := Lib.hid k6; clear r6 k6)
        obtain ⟨h6, hrg6, hrb6⟩ := H6.out
        have c1 : w6.cell? ⟨p, 1, none⟩ = some (.slice (some ⟨f1.bn, 0, none⟩) (8 * m.L) (8 * m.L)) := h6.c1
        have c2 : w6.cell? ⟨p, 2, none⟩ = some (.slice (some ⟨f1.bd, 0, none⟩) m.L m.L) := h6.c2
        have e2 := h6.hd.frozen i'
        have hc2 := h6.hd.cell (k := i') (by exact hi')
        have hdp : p ≠ f1.bd := h6.dp.symm
        have hdp' : f1.bd ≠ p := h6.dp
        have hE := equal_any w6.drew b' f1.bn 0 (8 * i') c (lineOf m.now i') (fun j hj => by rw [Nat.zero_add]; exact hrb6.cell hj) (fun j hj => h6.hn.cell (k := 8 * i' + j) (by show _ < 8 * m.L; omega))
        have HE := Lib.hid hE
        clear h6 hrg6 hrb6 hE
        go_region_held3 (fun w' => w'.cell? ⟨p, 1, none⟩ = some (.slice (some ⟨f1.bn, 0, none⟩) (8 * m.L) (8 * m.L)) ∧ w'.cell? ⟨p, 2, none⟩ = some (.slice (some ⟨f1.bd, 0, none⟩) m.L m.L)) (go_keep)
          (first
            | (go_at_call 29; refine (part_any _ f1.bn (8 * m.L) (8 * m.L) i' (by omega) (by omega) (by omega)).mono ?_; rintro e w' ⟨rfl, rfl⟩)
            | (go_at_call 44; refine HE.out.mono ?_; rintro e w' ⟨rfl, nq, rfl⟩))
        go_wp2_with fail
        go_roundw
        case rel =>
          obtain ⟨h6, hrg6, hrb6⟩ := H6.out
          have hk7 : Keep (fun x => x = f1.bd) w6 ((w6.drewN (1 + nq)).setCell ⟨f1.bd, i', none⟩ (.bool !eq8 c (lineOf m.now i'))) := ((Keep.refl (fun x => x = f1.bd) w6).drewN _).setCell (fun _ => rfl) _
          have h7 := (h6.drewN (1 + nq)).setDirty i' (!eq8 c (lineOf m.now i'))
          rw [show (Nv.setDirty (Nv.setLast (fenced (stepM m) (gone f1.D left)) i' c) i' (!eq8 c (lineOf m.now i'))) = _ from fenced_step (m := stepM m) HWT.out, fenced_p (gone_step HHAS.out)] at h7
          refine ⟨_, cnt1, ranges_of_keep hk7 h6.dm.symm (fun e => HNE.out _ (own_bd f1 p) e.symm) hrg6, fun x hx => HH.out x (by simp at hx; exact hx.1), h7, ?_⟩
          have k5 := HK.out.trans (Keep.ofGrown (S := fun x => x = w1.heap.size) HG1.out (by intro k hk; cases hk; rfl)) (fun i hi e => by omega)
          have k6 := k5.trans K6.out (fun i hi e => by subst e; exact own_bl f1 p)
          exact k6.trans hk7 (fun i hi e => by subst e; exact own_bd f1 p)
        case measure =>
          obtain ⟨h6, hrg6, hrb6⟩ := H6.out
          have hk7 : Keep (fun x => x = f1.bd) w6 ((w6.drewN (1 + nq)).setCell ⟨f1.bd, i', none⟩ (.bool !eq8 c (lineOf m.now i'))) := ((Keep.refl (fun x => x = f1.bd) w6).drewN _).setCell (fun _ => rfl) _
          rw [(ranges_of_keep hk7 h6.dm.symm (fun e => HNE.out _ (own_bd f1 p) e.symm) hrg6).left_eq, HR.out.left_eq]
          exact HLE.out
  · have hr : Nv.fence m = (deadM m, 3) := by unfold Nv.fence; rw [if_pos hs]
    rw [hr]
    clear hr
    go_enter Tryd.func40, Tryd.ntmps40
    go_wp2_with fail
    refine (step_no h hs).mono ?_
    rintro e w1 ⟨rfl, h1⟩
    have H1 := Lib.hid h1
    clear h1 hs h
    go_wp2_with fail
    go_ret
    exact ⟨rfl, H1.out⟩
end

end Go.Proofs.YtpgkplknfhdmgaaDoor
