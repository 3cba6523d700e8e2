/- The builtin copy, between rows that are known whole; what is pending is stored, and deleted. -/
import Derived.Test.YtpgkplknfhdmgaaDoorStep
namespace Go.Proofs.YtpgkplknfhdmgaaDoor
open Go.ChangeShapes Go.WideShapes Go.ChangeAt Go.RowKit Nv
set_option linter.unusedVariables false

theorem run_copy_cells {P : Program} {w : World} (dT sT ty elem : TypeId) (hu : P.underlying dT = some (.slice elem)) (hsz : (P.info? elem).map (·.size) = some 1)
    (dp sp : Option Addr) (dLen dCap sLen sCap b off n t : Nat) (f g : Nat → Value) (k : Nat) (hr : Row w b t n f) (hk : k = Nat.min sLen dLen)
    (hpos : 0 < k → dp = some ⟨b, off, none⟩ ∧ ∃ ad, sp = some ad ∧ ∀ j, j < k → w.cell? (ad.add j) = some (g j)) (hfit : off + k ≤ n) (h1 : ∀ j, (g j).oneCell' = true) :
    ∃ w', (Builtin.copy_ #[dT, sT] ty #[.slice dp dLen dCap, .slice sp sLen sCap]).run P w = .ok (goInt k) w' ∧ Row w' b t n (fun j => if off ≤ j ∧ j < off + k then g (j - off) else f j) ∧ Keep (fun i => i = b) w w' := by
  by_cases h0 : k = 0
  · subst h0
    refine ⟨w, by simpa using run_copy_none (P := P) w dT sT ty elem dp sp dLen dCap sLen sCap hu hsz hk.symm, hr.congr fun j _ => by rw [if_neg (by omega)], Keep.refl _ _⟩
  · obtain ⟨rfl, ad, rfl, hsrc⟩ := hpos (by omega)
    obtain ⟨cur, hb, hs, hc⟩ := id hr
    have hl : ((List.range k).map g).length = k := by simp
    have hrun := run_copy_row (P := P) w dT sT ty elem b off dLen dCap ad sLen sCap cur t ((List.range k).map g) hu hsz hb (by rw [hl]; exact hk)
      (fun j v hj => by
        have hjk : j < k := by
          have := (List.getElem?_eq_some_iff.1 hj).1
          rwa [hl] at this
        rw [hsrc j hjk]
        simp [List.getElem?_range hjk] at hj
        rw [hj]) (by rw [hl, hs]; exact hfit)
      (fun v hv => by obtain ⟨j, _, rfl⟩ := List.mem_map.1 hv; exact h1 j)
    refine ⟨w.setRow b (cur.toList.take off ++ ((List.range k).map g ++ cur.toList.drop (off + ((List.range k).map g).length))).toArray, by rw [hrun, hl, List.append_assoc], ?_, (Keep.refl (fun i => i = b) w).setRow (fun _ => rfl) _⟩
    refine (hr.laid off ((List.range k).map g) cur hb (by rw [hl]; exact hfit)).congr fun j hj => ?_
    simp only [hl]
    by_cases hin : off ≤ j ∧ j < off + k
    · rw [if_pos hin, if_pos hin, List.getD_eq_getElem?_getD, List.getElem?_map, List.getElem?_range (by omega)]; rfl
    · rw [if_neg hin, if_neg hin]

theorem wpList_copy_cells {P : Program} {w : World} {ops : Array Oper} {rest : List Oper} {o : Oper} {a : Act} {Q : Exit → Act → World → Prop} (hgd : o.guard = none) (d s : Operand) (dT sT : TypeId)
    (ho : o.op = .call { callee := .builtin .copy, args := #[d, s], argTypes := #[dT, sT] }) (elem : TypeId) (hu : P.underlying dT = some (.slice elem)) (hsz : (P.info? elem).map (·.size) = some 1)
    (dp sp : Option Addr) (dLen dCap sLen sCap : Nat) (hd : a.eval d = .slice dp dLen dCap) (hs : a.eval s = .slice sp sLen sCap)
    (b off n t : Nat) (f g : Nat → Value) (k : Nat) (hr : Row w b t n f) (hk : k = Nat.min sLen dLen)
    (hpos : 0 < k → dp = some ⟨b, off, none⟩ ∧ ∃ ad, sp = some ad ∧ ∀ j, j < k → w.cell? (ad.add j) = some (g j)) (hfit : off + k ≤ n) (h1 : ∀ j, (g j).oneCell' = true)
    (h : ∀ w', Row w' b t n (fun j => if off ≤ j ∧ j < off + k then g (j - off) else f j) → Keep (fun i => i = b) w w' → wpList P ops Q rest (a.put o.dst (goInt k)) w') : wpList P ops Q (o :: rest) a w := by
  refine wpList_plain hgd fun K hK => ?_
  obtain ⟨w', hrun, r1, r2⟩ := run_copy_cells (P := P) (w := w) dT sT o.type elem hu hsz dp sp dLen dCap sLen sCap b off n t f g k hr hk hpos hfit h1
  unfold Oper.wp
  simp [execOp, ho, resolve, invoke, builtin, hd, hs, hrun, Result.andThen]
  exact hK _ _ (h w' r1 r2)

theorem infoU64s : (Tryd.prog.info? 22).map (·.size) = some 1 := by kernel_rfl
theorem keyI : Go.Maps.Keyed Tryd.prog 3 := Go.Maps.int_keyed Tryd.underlying3
theorem zeroS (w : World) : (zeroValue 36).run Tryd.prog w = .ok (.slice none 0 0) w := by kernel_rfl

theorem mapDw (D : DataW Unit) {w : World} {b n : Nat} (h : w.ownsMap Tryd.prog 3 blkElem b n D) : Go.Maps.IsMap D := h.isMap

theorem isKey (x : Int) : WideAt.IsKeyLit (.int .i64 x) := trivial
theorem lit_ne {x i : Int} (h : x ≠ i) : (Lit.int .i64 x) ≠ Lit.int .i64 i := fun e => h (by cases e; rfl)

section
variable {w w' : World} {p : Nat} {f : Fp} {m : Mdl}

/-- What a line is pending with is stored in the map. -/
theorem Dev.setWait (h : Dev w p f m) {i b : Nat} {c : Nat → Int} (hi : i < m.L) (hr : Row w b 22 8 fun k => .int .u64 (c k)) (h1 : b ≠ f.bl) (h2 : b ≠ f.bn) (hn : (f.n : Int) + 1 ≤ m.steps)
    (ho : w'.ownsMap Tryd.prog 3 blkElem f.bm (f.n + 1) (f.D.put (.int .i64 i) (.lit (.int .u64 b)))) (hg : w.grownBy w' (some f.bm)) :
    Dev w' p { f with n := f.n + 1, D := f.D.put (.int .i64 i) (.lit (.int .u64 b)), pb := fun x => f.pb x ∨ x = b } (Nv.setWait m i (some c)) := by
  have hk : Keep (fun x => x = f.bm) w w' := Keep.ofGrown hg (by intro k hk; cases hk; rfl)
  refine ⟨(hk.block p h.ptr_lt h.pm).trans h.hp, hk.row h.hl h.lm, hk.row h.hn h.nm, hk.row h.hd h.dm, ho, h.ne, ?_, ?_, ?_, h.hf, h.hlo, h.hL, fun x hx => hx.elim (fun hx => Nat.lt_of_lt_of_le (h.hpb x hx) hk.size) (fun e => by rw [e]; exact Nat.lt_of_lt_of_le hr.lt hk.size)⟩
  · intro x hx
    by_cases e : x = i
    · subst e
      exact ⟨i, b, c, rfl, hi, by simp [Nv.setWait], fun zd => Go.Maps.atKey_put_same h.hm.isMap (isKey _) _ _, hk.row hr (h.neMap hr), h1, h2, .inr rfl⟩
    · simp only [Go.Maps.has_put_other (lit_ne e)] at hx
      obtain ⟨i', b', c', e1, e2, e3, e4, e5, e6, e7, e8⟩ := h.pend x hx
      refine ⟨i', b', c', e1, e2, ?_, fun zd => ?_, hk.row e5 (h.neMap e5), e6, e7, .inl e8⟩
      · simp only [Nv.setWait]; rw [if_neg (by rintro rfl; exact e e1)]; exact e3
      · simp only [Go.Maps.atKey_put_other (lit_ne e)]; exact e4 zd
  · intro i' c' hc
    simp only [Nv.setWait] at hc
    by_cases e : i' = i
    · subst e; exact Go.Maps.has_put_same h.hm.isMap (isKey _) _
    · rw [if_neg e] at hc
      simp only [Go.Maps.has_put_other (lit_ne (x := i') (i := i) (by omega))]
      exact h.back i' c' hc
  · simp only [Nv.setWait]; omega

/-- It is deleted from it. -/
theorem Dev.delWait (h : Dev w p f m) {i : Nat} (ho : w'.ownsMap Tryd.prog 3 blkElem f.bm f.n (f.D.del (.int .i64 i))) (hg : w.grownBy w' (some f.bm)) :
    Dev w' p { f with D := f.D.del (.int .i64 i) } (Nv.setWait m i none) := by
  have hk : Keep (fun x => x = f.bm) w w' := Keep.ofGrown hg (by intro k hk; cases hk; rfl)
  refine ⟨(hk.block p h.ptr_lt h.pm).trans h.hp, hk.row h.hl h.lm, hk.row h.hn h.nm, hk.row h.hd h.dm, ho, h.ne, ?_, ?_, h.hn', h.hf, h.hlo, h.hL, fun x hx => Nat.lt_of_lt_of_le (h.hpb x hx) hk.size⟩
  · intro x hx
    have e : x ≠ i := by
      rintro rfl
      simp only [Go.Maps.has_del_same] at hx; cases hx
    simp only [Go.Maps.has_del_other (lit_ne e)] at hx
    obtain ⟨i', b', c', e1, e2, e3, e4, e5, e6, e7, e8⟩ := h.pend x hx
    refine ⟨i', b', c', e1, e2, ?_, fun zd => ?_, hk.row e5 (h.neMap e5), e6, e7, e8⟩
    · simp only [Nv.setWait]; rw [if_neg (by rintro rfl; exact e e1)]; exact e3
    · simp only [Go.Maps.atKey_del_other (lit_ne e)]; exact e4 zd
  · intro i' c' hc
    simp only [Nv.setWait] at hc
    by_cases e : i' = i
    · subst e; rw [if_pos rfl] at hc; cases hc
    · rw [if_neg e] at hc
      simp only [Go.Maps.has_del_other (lit_ne (x := i') (i := i) (by omega))]
      exact h.back i' c' hc

/-- A line that lasts is copied over. -/
theorem Dev.laidLast (h : Dev w p f m) {i : Nat} {c : Nat → Int} (hi : i < m.L) (hk : Keep (fun x => x = f.bl) w w')
    (hr : Row w' f.bl 22 (8 * m.L) (fun j => if 8 * i ≤ j ∧ j < 8 * i + 8 then .int .u64 (c (j - 8 * i)) else .int .u64 (m.last j))) : Dev w' p f (setLast m i c) where
  hp := (hk.block p h.ptr_lt h.lp.symm).trans h.hp
  hl := hr.congr fun j _ => by
    simp only [Nv.setLast]
    by_cases e : j / 8 = i
    · rw [if_pos (by omega), if_pos e, show j - 8 * i = j % 8 from by omega]
    · rw [if_neg (by omega), if_neg e]
  hn := hk.row h.hn h.ne.symm
  hd := hk.row h.hd h.ld.symm
  hm := grown_of_keep hk h.hm.lt h.lm.symm h.hm
  ne := h.ne
  pend := fun x hx => by
    obtain ⟨i, b, c, e1, e2, e3, e4, e5, e6, e7, e8⟩ := h.pend x hx
    exact ⟨i, b, c, e1, e2, e3, e4, hk.row e5 e6, e6, e7, e8⟩
  back := h.back
  hn' := h.hn'
  hf := h.hf
  hlo := h.hlo
  hL := h.hL
  hpb := fun b hb => Nat.lt_of_lt_of_le (h.hpb b hb) hk.size
end

end Go.Proofs.YtpgkplknfhdmgaaDoor
