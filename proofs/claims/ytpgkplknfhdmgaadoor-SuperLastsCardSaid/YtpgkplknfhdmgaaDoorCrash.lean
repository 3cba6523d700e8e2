/- What a crash leaves. -/
import Derived.Test.YtpgkplknfhdmgaaDoorLoad
namespace Go.Proofs.YtpgkplknfhdmgaaDoor
open Go.ChangeShapes Go.WideShapes Go.ChangeAt Go.RowKit Nv
set_option linter.unusedVariables false

/-- 'v, ok := pending[line]', by what is there. -/
theorem wpList_pend_yes {w : World} {ops : Array Oper} {rest : List Oper} {o : Oper} {a : Act} {Q : Exit → Act → World → Prop} (hg : o.guard = none) (mo x : Operand) (hop : o.op = Op.lookup 54 mo x true)
    (b n : Nat) (D : DataW Unit) (i c : Nat) (hm : a.eval mo = .map (some b)) (hown : w.ownsMap Tryd.prog 3 blkElem b n D) (hx : a.eval x = .int .i64 i) (hkey : keyOf Tryd.prog 3 (.int .i64 i) = some (.int .i64 i))
    (hh : Go.Maps.has D (.int .i64 i) = true) (hat : ∀ zd, D.atKey (.int .i64 i) zd = .lit (.int .u64 c)) (hK : wpList Tryd.prog ops Q rest (a.put o.dst (.tuple #[.slice (some ⟨c, 0, none⟩) 8 8, .bool true])) w) : wpList Tryd.prog ops Q (o :: rest) a w := by
  refine wpList_lookup_own_ok w hg mo x _ hop _ _ keyI Tryd.underlying54 blkElem (zeroS _) .nil [] blkElem_nil b n D hm hown _ _ hx hkey fun v ps hv => ?_
  rw [hat] at hv
  obtain rfl := blkElem_lit hv
  rw [hh]
  exact hK
theorem wpList_pend_no {w : World} {ops : Array Oper} {rest : List Oper} {o : Oper} {a : Act} {Q : Exit → Act → World → Prop} (hg : o.guard = none) (mo x : Operand) (hop : o.op = Op.lookup 54 mo x true)
    (b n : Nat) (D : DataW Unit) (i : Nat) (hm : a.eval mo = .map (some b)) (hown : w.ownsMap Tryd.prog 3 blkElem b n D) (hx : a.eval x = .int .i64 i) (hkey : keyOf Tryd.prog 3 (.int .i64 i) = some (.int .i64 i))
    (hh : Go.Maps.has D (.int .i64 i) = false) (hK : ∀ v, wpList Tryd.prog ops Q rest (a.put o.dst (.tuple #[v, .bool false])) w) : wpList Tryd.prog ops Q (o :: rest) a w := by
  refine wpList_lookup_own_ok w hg mo x _ hop _ _ keyI Tryd.underlying54 blkElem (zeroS _) .nil [] blkElem_nil b n D hm hown _ _ hx hkey fun v ps hv => ?_
  rw [hh]
  exact hK v

/-- A part of eight words that is there. -/
def OutAt (w : World) (g : Nat → Int) (S : Nat → Prop) (e : Ending) (w' : World) : Prop := (∃ b off, e = .returned (.slice (some ⟨b, off, none⟩) 8 8) ∧ S b ∧ ∀ j, j < 8 → w.cell? ⟨b, off + j, none⟩ = some (.int .u64 (g j))) ∧ w = w'

section
variable {w : World} {p : Nat} {f : Fp} {m : Mdl}

set_option maxHeartbeats 400000 in
theorem outcome_any (h : Dev w p f m) (i : Nat) (c : Int) (hi : i < m.L) (hc0 : 0 ≤ c) (hc1 : c ≤ 255) :
    Calls Tryd.prog 30 #[.pointer (some ⟨p, 0, none⟩), .int .i64 i, .int .u8 c] w (OutAt w (Nv.outcome m i c) (f.own p)) := by
  have hL := h.hL
  have hkey : keyOf Tryd.prog 3 (.int .i64 i) = some (.int .i64 i) := Go.Maps.keyOf_int_mk Tryd.underlying3 (WalkArith.wf_i64 (by omega))
  have HK := Lib.hid hkey
  have H := Lib.hid h
  have hm := Lib.hid h.hm
  have c0 := h.c0
  have c1 := h.c1
  have c3 := h.c3
  clear hkey
  by_cases h2 : c % 3 = 2
  · have ho : Nv.outcome m i c = lineOf m.now i := by unfold Nv.outcome; rw [if_pos h2]
    rw [ho]
    have hb2 : ((c % 3 : Int) == 2) = true := by simpa using h2
    clear h2 ho h
    go_enter Tryd.func30, Tryd.ntmps30
    go_wp2_with (go_at_call 29; refine (part_any _ f.bn (8 * m.L) (8 * m.L) i (by omega) (by omega) (by omega)).mono ?_; rintro e w' ⟨rfl, rfl⟩)
    go_ret
    exact ⟨⟨_, _, rfl, own_bn f p, fun j hj => H.out.hn.cell (k := 8 * i + j) (by omega)⟩, rfl⟩
  · have hb2 : ((c % 3 : Int) == 2) = false := by simpa using h2
    by_cases h1 : c % 3 = 1
    · have hb1 : ((c % 3 : Int) == 1) = true := by simpa using h1
      cases hw : m.wait i with
      | none =>
        have ho : Nv.outcome m i c = lineOf m.last i := by unfold Nv.outcome; rw [if_neg h2, if_pos h1, hw]
        have hh : Go.Maps.has f.D (.int .i64 i) = false := by
          cases hh : Go.Maps.has f.D (.int .i64 i)
          · rfl
          · obtain ⟨i', b, c', e1, e2, e3, _⟩ := h.pend i hh
            obtain rfl : i' = i := by omega
            rw [hw] at e3; cases e3
        have HH := Lib.hid hh
        rw [ho]
        clear h1 h2 ho h hw hh
        go_enter Tryd.func30, Tryd.ntmps30
        go_wp2_with (first
          | (at_lookup; refine wpList_pend_no rfl _ _ rfl f.bm f.n f.D i rfl hm.out rfl HK.out HH.out ?_; intro v)
          | (go_at_call 29; refine (part_any _ f.bl (8 * m.L) (8 * m.L) i (by omega) (by omega) (by omega)).mono ?_; rintro e w' ⟨rfl, rfl⟩))
        go_ret
        exact ⟨⟨_, _, rfl, own_bl f p, fun j hj => H.out.hl.cell (k := 8 * i + j) (by omega)⟩, rfl⟩
      | some c' =>
        have ho : Nv.outcome m i c = c' := by unfold Nv.outcome; rw [if_neg h2, if_pos h1, hw]
        have hh := h.back i c' hw
        obtain ⟨i', b, c2, e1, e2, e3, e4, e5, e6, e7, e8⟩ := h.pend i hh
        obtain rfl : i' = i := by omega
        obtain rfl : c2 = c' := by rw [hw] at e3; cases e3; rfl
        have HH := Lib.hid hh
        have HE := Lib.hid e4
        have H5 := Lib.hid e5
        rw [ho]
        clear h1 h2 ho h hw hh e1 e4 e5 e3
        go_enter Tryd.func30, Tryd.ntmps30
        go_wp2_with (at_lookup; refine wpList_pend_yes rfl _ _ rfl f.bm f.n f.D i' b rfl hm.out rfl HK.out HH.out HE.out ?_)
        go_ret
        exact ⟨⟨_, _, rfl, own_pb e8, fun j hj => by rw [Nat.zero_add]; exact H5.out.cell hj⟩, rfl⟩
    · have hb1 : ((c % 3 : Int) == 1) = false := by simpa using h1
      have ho : Nv.outcome m i c = lineOf m.last i := by unfold Nv.outcome; rw [if_neg h2, if_neg h1]
      rw [ho]
      clear h1 h2 ho h
      go_enter Tryd.func30, Tryd.ntmps30
      go_wp2_with (go_at_call 29; refine (part_any _ f.bl (8 * m.L) (8 * m.L) i (by omega) (by omega) (by omega)).mono ?_; rintro e w' ⟨rfl, rfl⟩)
      go_ret
      exact ⟨⟨_, _, rfl, own_bl f p, fun j hj => H.out.hl.cell (k := 8 * i + j) (by omega)⟩, rfl⟩

/-- The builtin copy as one step of a region that draws its order. -/
theorem step_copy_cells {P : Program} {ops : Array Oper} {o : Oper} {a : Act} {w : World} {K : Act → World → Prop} {Q : Exit → Act → World → Prop} {E : Prop} (hgd : o.guard = none) (d s : Operand) (dT sT : TypeId)
    (ho : o.op = .call { callee := .builtin .copy, args := #[d, s], argTypes := #[dT, sT] }) (elem : TypeId) (hu : P.underlying dT = some (.slice elem)) (hsz : (P.info? elem).map (·.size) = some 1)
    (dp sp : Option Addr) (dLen dCap sLen sCap : Nat) (hd : a.eval d = .slice dp dLen dCap) (hs : a.eval s = .slice sp sLen sCap)
    (b off n t : Nat) (f g : Nat → Value) (k : Nat) (hr : Row w b t n f) (hk : k = Nat.min sLen dLen)
    (hpos : 0 < k → dp = some ⟨b, off, none⟩ ∧ ∃ ad, sp = some ad ∧ ∀ j, j < k → w.cell? (ad.add j) = some (g j)) (hfit : off + k ≤ n) (h1 : ∀ j, (g j).oneCell' = true)
    (h : ∀ w', Row w' b t n (fun j => if off ≤ j ∧ j < off + k then g (j - off) else f j) → Keep (fun i => i = b) w w' → K (a.put o.dst (goInt k)) w') :
    if Region.wanted o (yielded ops a.tmps) = true then Oper.wp P o a w K Q else E := by
  have hw : Region.wanted o (yielded ops a.tmps) = true := by simp [Region.wanted, hgd]
  rw [if_pos hw]
  obtain ⟨w', hrun, r1, r2⟩ := run_copy_cells (P := P) (w := w) dT sT o.type elem hu hsz dp sp dLen dCap sLen sCap b off n t f g k hr hk hpos hfit h1
  unfold Oper.wp
  simp [execOp, ho, resolve, invoke, builtin, hd, hs, hrun, Result.andThen]
  exact h w' r1 r2

theorem dirtyTo_L (m : Mdl) : dirtyTo m m.L = (dirtyL m).map Int.ofNat := rfl
theorem dirtyL_lt {m : Mdl} {k : Nat} (h : k < (dirtyL m).length) : (dirtyL m).getD k 0 < m.L := by
  have h1 : (dirtyL m).getD k 0 ∈ dirtyL m := by
    rw [List.getD_eq_getElem?_getD, List.getElem?_eq_getElem h]; exact List.getElem_mem h
  generalize (dirtyL m).getD k 0 = x at h1
  unfold dirtyL at h1
  simpa using (List.mem_filter.1 h1).1
theorem crashW_step (m : Mdl) (cs : List Int) (k : Nat) {ln : Nat} {c : Int} (h1 : (dirtyL m).getD k 0 = ln) (h2 : cs.getD k 0 = c) (j : Nat) :
    crashW m cs (k + 1) j = if 8 * ln ≤ j ∧ j < 8 * ln + 8 then Nv.outcome m ln c (j - 8 * ln) else crashW m cs k j := by
  simp only [crashW]
  rw [h1, h2]
  by_cases e : j / 8 = ln
  · rw [if_pos e, if_pos (by omega), show j % 8 = j - 8 * ln from by omega]
  · rw [if_neg e, if_neg (by omega)]

set_option maxHeartbeats 1000000 in
theorem crash_any (h : Dev w p f m) (vc : Value) (cs : List Int) (hv : IsInts .u8 w vc cs) (hcs : ∀ k, 0 ≤ cs.getD k 0 ∧ cs.getD k 0 ≤ 255) (hlen : cs.length ≤ 1000000000) :
    Calls Tryd.prog 17 #[.pointer (some ⟨p, 0, none⟩), vc] w (MadeDev (Nv.crash m cs) w) := by
  have hL := h.hL
  obtain ⟨ca, ccap, rfl, hcc, hcx⟩ := hv
  have hall := all_any h
  have HA := Lib.hid hall
  have H := Lib.hid h
  have HX := Lib.hid hcx
  have HCS := Lib.hid hcs
  clear hall h hcx hcs
  go_enter Tryd.func17, Tryd.ntmps17
  go_wp2_with fail
  refine HA.out.mono ?_
  rintro e w1 ⟨B, rfl, hB, r1, k1⟩
  have hd1 : Dev w1 p f m := H.out.keep k1 (fun _ _ _ h => h)
  have hdi := dirty_any hd1
  have HDI := Lib.hid hdi
  have R1 := Lib.hid r1
  have K1 := Lib.hid k1
  have D1 := Lib.hid hd1
  clear r1 k1 hdi hd1
  go_wp2_with fail
  refine HDI.out.mono ?_
  rintro e w2 ⟨vd, rfl, hvd, b2, hob⟩
  obtain ⟨da, dcap, rfl, hdc, hdx⟩ := hvd
  rw [dirtyTo_L] at hdx hdc
  rw [dirtyTo_L]
  simp only [List.length_map] at hdx hdc ⊢
  obtain ⟨dn, hdn⟩ : ∃ dn, (dirtyL m).length = dn := ⟨_, rfl⟩
  obtain ⟨cn, hcn⟩ : ∃ cn, cs.length = cn := ⟨_, rfl⟩
  have hdL : dn ≤ m.L := by rw [← hdn]; unfold dirtyL; exact Nat.le_trans (List.length_filter_le _ _) (by simp)
  rw [hdn] at hdc hdx ⊢
  rw [hcn] at hcc hlen ⊢
  have HDX := Lib.hid hdx
  have HB2 := Lib.hid b2
  have HOB := Lib.hid hob
  have HDN := Lib.hid hdn
  have HCN := Lib.hid hcn
  clear hdx b2 hdn hcn hob
  obtain ⟨K, hK⟩ : ∃ K, K = min dn cn := ⟨_, rfl⟩
  have HK := Lib.hid hK
  clear hK
  have hkd : K ≤ dn := by have := HK.out; omega
  have hkc : K ≤ cn := by have := HK.out; omega
  have HCW : Hid (Nv.crash m cs = fresh m.L (crashW m cs K)) := Lib.hid (by unfold Nv.crash; rw [HDN.out, HCN.out, ← HK.out])
  by_cases hcd : (cn : Int) < (dn : Int)
  obtain rfl : K = cn := by have := HK.out; omega
  clear HK
  go_wp2_with fail
  rotate_left
  obtain rfl : K = dn := by have := HK.out; omega
  clear HK
  go_wp2_with fail
  all_goals
    go_loopw [7, 8, 18] (fun _ _ i wr => ∃ k : Nat, k ≤ K ∧ i = .int .i64 k ∧ Hid (Row wr B 22 (8 * m.L) fun j => .int .u64 (crashW m cs k j)) ∧ Hid (Keep (fun x => x = B) w2 wr)) (fun _ _ i _ => K - (intOf i).toNat)
    case atStart => exact ⟨0, by omega, rfl, Lib.hid (R1.out.keep (HB2.out.block _ R1.out.lt)), Lib.hid (Keep.refl _ _)⟩
    case round =>
      obtain ⟨k, hk, rfl, HR, HKP⟩ := hrel
      by_cases hlt : k < K
      · have hlt' : (k : Int) < (K : Int) := by omega
        have hk0 : (0 : Int) ≤ (k : Int) := by omega
        have hk3 := Int.lt_of_lt_of_le hlt' (Int.ofNat_le.2 hkc)
        have hk4 := Int.lt_of_lt_of_le hlt' (Int.ofNat_le.2 hkd)
        have hdl : (dirtyL m).getD k 0 < m.L := dirtyL_lt (by rw [HDN.out]; omega)
        have hcsk := HCS.out k
        have hst := crashW_step m cs k rfl rfl
        obtain ⟨db, doff, rfl, hdlt, hdcell⟩ := HDX.out.resolve_left (by intro e; have := congrArg List.length e; rw [List.length_map, HDN.out] at this; simp at this; omega)
        obtain ⟨cb, coff, rfl, hclt, hccell⟩ := HX.out.resolve_left (by intro e; have := HCN.out; rw [e] at this; simp at this; omega)
        have hBw1 : B < w1.heap.size := R1.out.lt
        have hdB : db ≠ B := by have := HOB.out db rfl; omega
        have hcB : cb ≠ B := by omega
        have hdc1 : wr.cell? ⟨db, doff + k, none⟩ = some (.int .i64 ((dirtyL m).getD k 0 : Nat)) := by
          rw [HKP.out.cell (p := ⟨db, doff + k, none⟩) hdlt hdB, hdcell k (by omega)]
          rw [List.getD_eq_getElem?_getD, List.getElem?_map, List.getD_eq_getElem?_getD]
          cases (dirtyL m)[k]? <;> rfl
        have hcc1 : wr.cell? ⟨cb, coff + k, none⟩ = some (.int .u8 (cs.getD k 0)) := by
          rw [HKP.out.cell (p := ⟨cb, coff + k, none⟩) (by have := K1.out.size; have := HB2.out.size; simp only; omega) hcB, HB2.out.cell (p := ⟨cb, coff + k, none⟩) (by have := K1.out.size; simp only; omega), K1.out.cell (p := ⟨cb, coff + k, none⟩) hclt (fun h => h)]
          exact hccell k (by rw [HCN.out]; omega)
        generalize (dirtyL m).getD k 0 = ln at hdl hst hdc1
        generalize cs.getD k 0 = c at hcsk hst hcc1
        obtain ⟨hc0, hc1⟩ := hcsk
        have hdw : Dev wr p f m := (D1.out.keep (Keep.ofBelow (S := fun _ => False) HB2.out) (fun _ _ _ h => h)).keep HKP.out (fun b _ ho e => by have := H.out.own_all b ho; omega)
        have hout : Calls Tryd.prog 30 #[.pointer (some ⟨p, 0, none⟩), .int .i64 ln, .int .u8 c] wr.drew (OutAt wr.drew (Nv.outcome m ln c) (f.own p)) := outcome_any (hdw.drewN 1) ln c hdl hc0 hc1
        have hrd : Row wr.drew B 22 (8 * m.L) (fun j => .int .u64 (crashW m cs k j)) := HR.out
        have hcL : cb < wr.drew.heap.size := by show cb < wr.heap.size; have := K1.out.size; have := HB2.out.size; have := HKP.out.size; omega
        have HO := Lib.hid hout
        have HRD := Lib.hid hrd
        have HST := Lib.hid hst
        clear hout hrd hst hdw hdcell hccell
        go_wp2_with fail
        go_region_held3 (fun w' => w'.cell? ⟨cb, coff + k, none⟩ = some (.int .u8 c)) (first | go_keep | exact (k6.cell (p := ⟨cb, coff + k, none⟩) hcL hcB).trans hcc1)
          (first
            | (go_at_call 29; refine (part_any _ B (8 * m.L) (8 * m.L) ln (by omega) (by omega) (by omega)).mono ?_; rintro e w' ⟨rfl, rfl⟩)
            | (go_at_call 30; refine HO.out.mono ?_; rintro e w' ⟨⟨ob, oo, rfl, hob, hoc⟩, rfl⟩)
            | ((with_reducible refine step_copy_cells rfl _ _ 36 36 rfl 22 Tryd.underlying36 infoU64s _ _ 8 8 8 8 rfl rfl B (8 * ln) (8 * m.L) 22 _ (fun j => .int .u64 (Nv.outcome m ln c j)) 8 HRD.out rfl (fun _ => ⟨rfl, _, rfl, fun j hj => by rw [addr_add]; exact hoc j hj⟩) (by omega) (fun _ => rfl) ?_); intro w6 r6 k6))
        go_wp2_with fail
        go_roundw
        case rel => exact ⟨k + 1, by omega, by go_num, Lib.hid (r6.congr fun j hj => by rw [HST.out j]; split <;> rfl), Lib.hid (HKP.out.trans' (Keep.trans' (Keep.refl _ _).drew k6))⟩
        case measure => simp [intOf]; omega
      · have hlt' : ¬ (k : Int) < (K : Int) := by omega
        obtain rfl : k = K := by omega
        have hrow := HR.out
        have hI : IsInts .u64 wr (.slice (some ⟨B, 0, none⟩) (8 * m.L) (8 * m.L)) ((List.range (8 * m.L)).map (crashW m cs k)) := ⟨some ⟨B, 0, none⟩, 8 * m.L, by simp, by simp, .inr ⟨B, 0, rfl, hrow.lt, fun i hi => by
          simp at hi
          rw [Nat.zero_add, hrow.cell hi, List.getD_eq_getElem?_getD, List.getElem?_map, List.getElem?_range hi]; rfl⟩⟩
        have hld := load_any _ _ _ hI (by simp; omega)
        have HLD := Lib.hid hld
        clear hld hI hrow
        go_wp2_with fail
        refine HLD.out.mono ?_
        rintro e w7 ⟨p7, f7, rfl, h7, k7, o7⟩
        have h8 : Dev w7 p7 f7 (Nv.crash m cs) := by
          rw [HCW.out]
          rw [show linesFor ((List.range (8 * m.L)).map (crashW m cs k)).length = m.L from by rw [List.length_map, List.length_range]; unfold linesFor; omega] at h7
          exact fresh_congr h7 fun j hj => by unfold padded; rw [List.getD_eq_getElem?_getD, List.getElem?_map, List.getElem?_range hj]; rfl
        have k8 : Keep (fun _ => False) w w7 := ((K1.out.trans (Keep.ofBelow (S := fun _ => False) HB2.out) (fun _ _ h => h)).trans HKP.out (fun i hi e => by omega)).trans k7 (fun _ _ h => h)
        have o8 : ∀ b, f7.own p7 b → w.heap.size ≤ b := fun b hb => by
          have := o7 b hb; have := K1.out.size; have := HB2.out.size; have := HKP.out.size; omega
        have HE := Lib.hid (And.intro h8 (And.intro k8 o8))
        clear h7 k7 o7 h8 k8 o8
        go_wp2_with fail
        go_ret
        exact ⟨p7, f7, rfl, HE.out.1, HE.out.2.1, HE.out.2.2⟩
end

end Go.Proofs.YtpgkplknfhdmgaaDoor
