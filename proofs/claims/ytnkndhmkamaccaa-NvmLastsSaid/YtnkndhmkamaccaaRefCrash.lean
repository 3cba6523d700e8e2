/- The reference: what a crash leaves. -/
import Derived.Test.YtnkndhmkamaccaaRefPersist
namespace Go.Proofs.Ytnkndhmkamaccaa
open Go.ChangeShapes Go.WideShapes Go.ChangeAt Go.RowKit Nv
set_option linter.unusedVariables false

theorem crashW_still (m : Mdl) (cs : List Int) (j : Nat) : ∀ k, (∀ i, i < k → (dirtyL m).getD i 0 ≠ j / 8) → crashW m cs k j = m.last j
  | 0, _ => rfl
  | k + 1, h => by
    simp only [crashW]
    rw [if_neg (fun e => h k (by omega) e.symm)]
    exact crashW_still m cs j k fun i hi => h i (by omega)
theorem dirtyL_apart {m : Mdl} {i k : Nat} (hi : i < k) (hk : k < (dirtyL m).length) : (dirtyL m).getD i 0 ≠ (dirtyL m).getD k 0 := by
  have hp : (dirtyL m).Pairwise (· < ·) := List.Pairwise.filter _ List.pairwise_lt_range
  have := List.pairwise_iff_getElem.1 hp i k (by omega) hk hi
  rw [List.getD_eq_getElem?_getD, List.getD_eq_getElem?_getD, List.getElem?_eq_getElem (by omega), List.getElem?_eq_getElem hk]
  simp only [Option.getD_some]
  omega
theorem crashW_same (m : Mdl) (cs : List Int) (k : Nat) (hk : k < (dirtyL m).length) (ho : Nv.outcome m ((dirtyL m).getD k 0) (cs.getD k 0) = lineOf m.last ((dirtyL m).getD k 0)) (j : Nat) : crashW m cs (k + 1) j = crashW m cs k j := by
  simp only [crashW]
  by_cases e : j / 8 = (dirtyL m).getD k 0
  · rw [if_pos e, ho, crashW_still m cs j k fun i hi h => dirtyL_apart hi hk (h.trans e)]
    unfold lineOf
    rw [← e, show 8 * (j / 8) + j % 8 = j from by omega]
  · rw [if_neg e]

structure CrashAt (w : World) (w2 : World) (m : Mdl) (r : RV) (cs : List Int) (aL : Option Addr) (cL : Nat) (w3 : World) (k : Nat) (w4 wr : World) : Prop where
  hb : Box wr w.heap.size (rc r m)
  hL : SRow wr (fun b => w2.heap.size ≤ b ∧ b < w3.heap.size) 76 8 aL m.L cL fun j => .int .u64 (crashW m cs k j)
  hk : Keep (fun b => w2.heap.size ≤ b ∧ b < w3.heap.size) w4 wr

section
variable {w : World} {T : Nat → Prop} {r : RV} {m : Mdl}

set_option maxHeartbeats 8000000 in
set_option maxRecDepth 100000 in
theorem refCrash_any (h : Ref w T r m) (vc : Value) (cs : List Int) (hv : IsInts .u8 w vc cs) (hcs : ∀ k, 0 ≤ cs.getD k 0 ∧ cs.getD k 0 ≤ 255) (hlen : cs.length ≤ 1000000000) :
    Calls Try.prog 43 #[rv r m, vc] w (RefMade (Nv.crash m cs) w) := by
  have hL := h.lb
  obtain ⟨ca, ccap, rfl, hcc, hcx⟩ := hv
  have H := Lib.hid h
  have HX := Lib.hid hcx
  have HCS := Lib.hid hcs
  have hB := boxes_of (w := w) (cs := rc r m) (Below.refl _ _)
  unfold rc z30 at hB
  have HB := Lib.hid hB
  unfold rv
  clear h hcx hcs hB
  go_enter Try.func43, Try.ntmps43
  go_upto_region 1 with fail
  have hB := HB.out
  clear HB
  generalize (w.alloc (.cells #[.slice r.aN m.L r.cN, .slice r.aL m.L r.cL, .slice r.aW m.L r.cW, .slice r.aD m.L r.cD, .slice r.aP m.L r.cP, .int .i64 m.steps, .int .i64 m.fuse, .bool m.dead] 30)).alloc (.cells #[.slice none 0 0, .slice none 0 0, .slice none 0 0, .slice none 0 0, .slice none 0 0, .int .i64 0, .int .i64 0, .bool false] 30) = w2 at hB ⊢
  obtain ⟨hb2, hR2, bw2, hz⟩ := hB
  have B2 := Lib.hid hb2
  have R2 := Lib.hid hR2
  have BW2 := Lib.hid bw2
  have h2 : Ref w2 T r m := H.out.below bw2
  have HL := Lib.hid h2.hL
  have c1 : w2.cell? ⟨w.heap.size, 1, none⟩ = some (.slice r.aL m.L r.cL) := hb2.cell 1
  have H2 := Lib.hid h2
  clear hb2 hR2 bw2 h2
  go_wp2_with (first
    | (go_at_call 52; refine (refLines_new (Below.refl _ _) HL.out (fun _ => rfl) hL).mono ?_; rintro e w3 ⟨aL, cL, rfl, s3, b3, -, -⟩; have S3 := Lib.hid s3; have B3 := Lib.hid b3; have HB3 := Lib.hid (B2.out.below b3 B2.out.lt); have HD := Lib.hid (refDirty_any (H2.out.below b3)); clear s3 b3)
    | (refine wpList_load_box rfl _ rfl (b := w.heap.size) (cells := rc r m) rfl HB3.out rfl ?_)
    | (go_at_call 46; refine HD.out.mono ?_; rintro e w4 ⟨vd, rfl, hvd, b4, hob⟩; obtain ⟨da, dcap, rfl, hdc, hdx⟩ := hvd; have HDX := Lib.hid hdx; have B4 := Lib.hid b4; have HOB := Lib.hid hob; clear hdx b4 hob))
  rw [dirtyTo_L] at hdc HDX ⊢
  simp only [List.length_map] at hdc HDX ⊢
  obtain ⟨dn, hdn⟩ : ∃ dn, (dirtyL m).length = dn := ⟨_, rfl⟩
  obtain ⟨cn, hcn⟩ : ∃ cn, cs.length = cn := ⟨_, rfl⟩
  have hdL : dn ≤ m.L := by rw [← hdn]; unfold dirtyL; exact Nat.le_trans (List.length_filter_le _ _) (by simp)
  rw [hdn] at hdc HDX ⊢
  rw [hcn] at hcc hlen ⊢
  have HDN := Lib.hid hdn
  have HCN := Lib.hid hcn
  clear hdn hcn
  have hc0 : CrashAt w w2 m r cs aL cL w3 0 w4 w4 := ⟨HB3.out.below B4.out HB3.out.lt, (S3.out.keep (Keep.ofBelow (S := fun _ => False) B4.out) (fun _ _ _ h => h) (fun b hb hlt => ⟨hb, hlt⟩)), Keep.refl _ _⟩
  have HC0 := Lib.hid hc0
  have hcL := S3.out.cap
  clear hc0
  go_loopw [7] (fun i wr => ∃ k : Nat, k ≤ dn ∧ k ≤ cn ∧ i = .int .i64 k ∧ Hid (CrashAt w w2 m r cs aL cL w3 k w4 wr)) (fun i _ => dn - (intOf i).toNat)
  case atStart => exact ⟨0, by omega, by omega, rfl, HC0⟩
  case round =>
    obtain ⟨k, hkd, hkc, rfl, HC⟩ := hrel
    have hb3 : Box wr w.heap.size #[.slice r.aN m.L r.cN, .slice r.aL m.L r.cL, .slice r.aW m.L r.cW, .slice r.aD m.L r.cD, .slice r.aP m.L r.cP, .int .i64 m.steps, .int .i64 m.fuse, .bool m.dead] := HC.out.hb
    have k0c : Keep (fun b => w.heap.size ≤ b) w wr := (((Keep.ofBelow (S := fun b => w.heap.size ≤ b) BW2.out).trans (Keep.ofBelow (S := fun _ => False) B3.out) (fun i hi e => e.elim)).trans (Keep.ofBelow (S := fun _ => False) B4.out) (fun i hi e => e.elim)).trans HC.out.hk (fun i hi e => by omega)
    have K0 := Lib.hid k0c
    clear k0c
    by_cases hlt : k < dn ∧ k < cn
    · obtain ⟨hlt1, hlt2⟩ := hlt
      have hlt1' : (k : Int) < (dn : Int) := by omega
      have hlt2' : (k : Int) < (cn : Int) := by omega
      have hk0 : (0 : Int) ≤ (k : Int) := by omega
      have hkl : k < (dirtyL m).length := by rw [HDN.out]; exact hlt1
      have hdl : (dirtyL m).getD k 0 < m.L := dirtyL_lt hkl
      have hcsk := HCS.out k
      have hst := crashW_step m cs k rfl rfl
      have hsame := crashW_same m cs k hkl
      obtain ⟨db, doff, rfl, hdlt, hdcell⟩ := HDX.out.resolve_left (by intro e; have := congrArg List.length e; rw [List.length_map, HDN.out] at this; simp at this; omega)
      obtain ⟨cb, coff, rfl, hclt, hccell⟩ := HX.out.resolve_left (by intro e; have := HCN.out; rw [e] at this; simp at this; omega)
      have hdB : w3.heap.size ≤ db := HOB.out db rfl
      have hdc1 : wr.cell? ⟨db, doff + k, none⟩ = some (.int .i64 ((dirtyL m).getD k 0 : Nat)) := by
        rw [HC.out.hk.cell (p := ⟨db, doff + k, none⟩) hdlt (by show ¬ (w2.heap.size ≤ db ∧ db < w3.heap.size); omega), hdcell k (by omega)]
        rw [List.getD_eq_getElem?_getD, List.getElem?_map, List.getD_eq_getElem?_getD]
        cases (dirtyL m)[k]? <;> rfl
      have hcc1 : wr.cell? ⟨cb, coff + k, none⟩ = some (.int .u8 (cs.getD k 0)) := by
        rw [K0.out.cell (p := ⟨cb, coff + k, none⟩) hclt (by show ¬ (w.heap.size ≤ cb); omega)]
        exact hccell k (by rw [HCN.out]; omega)
      generalize (dirtyL m).getD k 0 = ln at hdl hst hdc1 hsame
      generalize cs.getD k 0 = c at hcsk hst hcc1 hsame
      obtain ⟨hc0, hc1⟩ := hcsk
      have hl1 : (ln : Int) < (m.L : Int) := by omega
      have hl0 : (0 : Int) ≤ (ln : Int) := by omega
      obtain ⟨bL, rfl, hgL, rL⟩ := HC.out.hL.at_ (by omega)
      obtain ⟨bN, hbN, _, rN0⟩ := H.out.hN.at_ (by omega)
      obtain ⟨bW, hbW, _, rW0⟩ := H.out.hW.at_ (by omega)
      obtain ⟨bP, hbP, _, rP0⟩ := H.out.hP.at_ (by omega)
      have rN := rN0.keep (K0.out.block bN rN0.lt (by have := rN0.lt; omega))
      have rW := rW0.keep (K0.out.block bW rW0.lt (by have := rW0.lt; omega))
      have rP := rP0.keep (K0.out.block bP rP0.lt (by have := rP0.lt; omega))
      have hNL : bN ≠ bL := by have := rN0.lt; omega
      have hWL : bW ≠ bL := by have := rW0.lt; omega
      have hPL : bP ≠ bL := by have := rP0.lt; omega
      have hDL : db ≠ bL := by omega
      have hBL : w.heap.size ≠ bL := by omega
      have c0 : wr.cell? ⟨w.heap.size, 0, none⟩ = some (.slice r.aN m.L r.cN) := hb3.cell 0
      have c2 : wr.cell? ⟨w.heap.size, 2, none⟩ = some (.slice r.aW m.L r.cW) := hb3.cell 2
      have c4 : wr.cell? ⟨w.heap.size, 4, none⟩ = some (.slice r.aP m.L r.cP) := hb3.cell 4
      rw [hbN] at c0
      rw [hbW] at c2
      rw [hbP] at c4
      have cP1 := rP.cell (k := ln) (by omega)
      have hcapL := HC.out.hL.cap
      have HST := Lib.hid hst
      have HSM := Lib.hid hsame
      have skip : Nv.outcome m ln c = lineOf m.last ln → CrashAt w w2 m r cs (some ⟨bL, 0, none⟩) cL w3 (k + 1) w4 wr := fun ho => ⟨HC.out.hb, HC.out.hL.congr fun j _ => by rw [HSM.out ho j], HC.out.hk⟩
      have HSK := Lib.hid skip
      clear hst hsame skip hdcell hccell rN0 rW0 rP0 hbN hbW hbP
      by_cases h1 : c % 3 = 1
      · have hq1 : ((c % 3 : Int) == 1) = true := by simpa using h1
        cases hw : m.wait ln with
        | none =>
          have HN := Lib.hid (HSK.out (by unfold Nv.outcome; rw [if_neg (by omega), if_pos h1, hw]))
          rw [hw] at cP1
          have cP2 : wr.cell? ⟨bP, ln, none⟩ = some (.bool false) := cP1
          clear cP1 hw h1 rL rN rW rP hb3
          go_wp2_with fail
          go_quiet (fail)
          go_wp2_with fail
          go_roundw
          case rel => exact ⟨k + 1, by omega, by omega, by go_num, Lib.hid ⟨HN.out.hb, HN.out.hL.keep ((Keep.refl (fun _ => False) wr).drewN _) (fun _ _ _ h => h) (fun _ h _ => h), HN.out.hk.drewN _⟩⟩
          case measure => simp [intOf]; omega
        | some c' =>
          have hcc : ∀ i, i < 8 → c' i = r.wf (ln * 8 + i) := fun i hi => by rw [← H.out.wt ln c' hw i hi, Nat.mul_comm]
          have ho : Nv.outcome m ln c = c' := by unfold Nv.outcome; rw [if_neg (by omega), if_pos h1, hw]
          rw [hw] at cP1
          have cP2 : wr.cell? ⟨bP, ln, none⟩ = some (.bool true) := cP1
          have HO := Lib.hid ho
          have HCC := Lib.hid hcc
          have HRL := Lib.hid rL
          have n0 : wr.cell? ⟨bW, ln * 8, none⟩ = some (.int .u64 (r.wf (ln * 8))) := rW.cell (k := ln * 8) (by omega)
          have v0 : wr.cell? ⟨bL, ln * 8, none⟩ = some (.int .u64 (crashW m cs k (ln * 8))) := rL.cell (k := ln * 8) (by omega)
          have g0 : wr.frozen? ⟨bL, ln * 8, none⟩ = false := rL.frozen _
          have n1 : wr.cell? ⟨bW, ln * 8 + 1, none⟩ = some (.int .u64 (r.wf (ln * 8 + 1))) := rW.cell (k := ln * 8 + 1) (by omega)
          have v1 : wr.cell? ⟨bL, ln * 8 + 1, none⟩ = some (.int .u64 (crashW m cs k (ln * 8 + 1))) := rL.cell (k := ln * 8 + 1) (by omega)
          have g1 : wr.frozen? ⟨bL, ln * 8 + 1, none⟩ = false := rL.frozen _
          have n2 : wr.cell? ⟨bW, ln * 8 + 2, none⟩ = some (.int .u64 (r.wf (ln * 8 + 2))) := rW.cell (k := ln * 8 + 2) (by omega)
          have v2 : wr.cell? ⟨bL, ln * 8 + 2, none⟩ = some (.int .u64 (crashW m cs k (ln * 8 + 2))) := rL.cell (k := ln * 8 + 2) (by omega)
          have g2 : wr.frozen? ⟨bL, ln * 8 + 2, none⟩ = false := rL.frozen _
          have n3 : wr.cell? ⟨bW, ln * 8 + 3, none⟩ = some (.int .u64 (r.wf (ln * 8 + 3))) := rW.cell (k := ln * 8 + 3) (by omega)
          have v3 : wr.cell? ⟨bL, ln * 8 + 3, none⟩ = some (.int .u64 (crashW m cs k (ln * 8 + 3))) := rL.cell (k := ln * 8 + 3) (by omega)
          have g3 : wr.frozen? ⟨bL, ln * 8 + 3, none⟩ = false := rL.frozen _
          have n4 : wr.cell? ⟨bW, ln * 8 + 4, none⟩ = some (.int .u64 (r.wf (ln * 8 + 4))) := rW.cell (k := ln * 8 + 4) (by omega)
          have v4 : wr.cell? ⟨bL, ln * 8 + 4, none⟩ = some (.int .u64 (crashW m cs k (ln * 8 + 4))) := rL.cell (k := ln * 8 + 4) (by omega)
          have g4 : wr.frozen? ⟨bL, ln * 8 + 4, none⟩ = false := rL.frozen _
          have n5 : wr.cell? ⟨bW, ln * 8 + 5, none⟩ = some (.int .u64 (r.wf (ln * 8 + 5))) := rW.cell (k := ln * 8 + 5) (by omega)
          have v5 : wr.cell? ⟨bL, ln * 8 + 5, none⟩ = some (.int .u64 (crashW m cs k (ln * 8 + 5))) := rL.cell (k := ln * 8 + 5) (by omega)
          have g5 : wr.frozen? ⟨bL, ln * 8 + 5, none⟩ = false := rL.frozen _
          have n6 : wr.cell? ⟨bW, ln * 8 + 6, none⟩ = some (.int .u64 (r.wf (ln * 8 + 6))) := rW.cell (k := ln * 8 + 6) (by omega)
          have v6 : wr.cell? ⟨bL, ln * 8 + 6, none⟩ = some (.int .u64 (crashW m cs k (ln * 8 + 6))) := rL.cell (k := ln * 8 + 6) (by omega)
          have g6 : wr.frozen? ⟨bL, ln * 8 + 6, none⟩ = false := rL.frozen _
          have n7 : wr.cell? ⟨bW, ln * 8 + 7, none⟩ = some (.int .u64 (r.wf (ln * 8 + 7))) := rW.cell (k := ln * 8 + 7) (by omega)
          have v7 : wr.cell? ⟨bL, ln * 8 + 7, none⟩ = some (.int .u64 (crashW m cs k (ln * 8 + 7))) := rL.cell (k := ln * 8 + 7) (by omega)
          have g7 : wr.frozen? ⟨bL, ln * 8 + 7, none⟩ = false := rL.frozen _
          clear cP1 hw h1 rL rN rW rP hb3 ho hcc
          go_wp2_with fail
          go_quiet (fail)
          go_wp2_with fail
          go_region
          have h8 := (show RowP (wr.drewN (nq + 1)) bL _ _ _ from HRL.out).set8 (ln * 8) (fun j => .int .u64 (r.wf (ln * 8 + j)))
          simp only [Nat.add_zero] at h8
          have h9 := h8.1.congr (g := fun j => .int .u64 (crashW m cs (k + 1) j)) fun j _ => by
            rw [HST.out j, HO.out]
            by_cases e : ln * 8 ≤ j ∧ j < ln * 8 + 8
            · rw [if_pos e, if_pos (by omega), HCC.out _ (by omega), show ln * 8 + (j - ln * 8) = j from by omega, show ln * 8 + (j - 8 * ln) = j from by omega]
            · rw [if_neg e, if_neg (by omega)]
          have k9 := h8.2
          clear h8
          generalize (((((((((wr.drewN (nq + 1)).setCell ⟨bL, ln * 8, none⟩ (.int .u64 (r.wf (ln * 8)))).setCell ⟨bL, ln * 8 + 1, none⟩ (.int .u64 (r.wf (ln * 8 + 1)))).setCell ⟨bL, ln * 8 + 2, none⟩ (.int .u64 (r.wf (ln * 8 + 2)))).setCell ⟨bL, ln * 8 + 3, none⟩ (.int .u64 (r.wf (ln * 8 + 3)))).setCell ⟨bL, ln * 8 + 4, none⟩ (.int .u64 (r.wf (ln * 8 + 4)))).setCell ⟨bL, ln * 8 + 5, none⟩ (.int .u64 (r.wf (ln * 8 + 5)))).setCell ⟨bL, ln * 8 + 6, none⟩ (.int .u64 (r.wf (ln * 8 + 6)))).setCell ⟨bL, ln * 8 + 7, none⟩ (.int .u64 (r.wf (ln * 8 + 7)))) = w8 at h9 k9 ⊢
          have H9 := Lib.hid h9
          have K9 := Lib.hid k9
          clear h9 k9
          clear n0 n1 n2 n3 n4 n5 n6 n7 v0 v1 v2 v3 v4 v5 v6 v7 g0 g1 g2 g3 g4 g5 g6 g7 
          go_wp2_with fail
          go_roundw
          case rel => exact ⟨k + 1, by omega, by omega, by go_num, Lib.hid ⟨(show Box (wr.drewN (nq + 1)) w.heap.size _ from HC.out.hb).keep K9.out hBL, ⟨hcapL, fun _ => ⟨bL, rfl, hgL, H9.out⟩⟩, (HC.out.hk.drewN (nq + 1)).trans K9.out (fun i _ e => by subst e; exact hgL)⟩⟩
          case measure => simp [intOf]; omega
      · have hq1 : ((c % 3 : Int) == 1) = false := by simpa using h1
        by_cases h2 : c % 3 = 2
        · have hq2 : ((c % 3 : Int) == 2) = true := by simpa using h2
          have ho : Nv.outcome m ln c = lineOf m.now ln := by unfold Nv.outcome; rw [if_pos h2]
          have HO := Lib.hid ho
          have HRL := Lib.hid rL
          have n0 : wr.cell? ⟨bN, ln * 8, none⟩ = some (.int .u64 (m.now (ln * 8))) := rN.cell (k := ln * 8) (by omega)
          have v0 : wr.cell? ⟨bL, ln * 8, none⟩ = some (.int .u64 (crashW m cs k (ln * 8))) := rL.cell (k := ln * 8) (by omega)
          have g0 : wr.frozen? ⟨bL, ln * 8, none⟩ = false := rL.frozen _
          have n1 : wr.cell? ⟨bN, ln * 8 + 1, none⟩ = some (.int .u64 (m.now (ln * 8 + 1))) := rN.cell (k := ln * 8 + 1) (by omega)
          have v1 : wr.cell? ⟨bL, ln * 8 + 1, none⟩ = some (.int .u64 (crashW m cs k (ln * 8 + 1))) := rL.cell (k := ln * 8 + 1) (by omega)
          have g1 : wr.frozen? ⟨bL, ln * 8 + 1, none⟩ = false := rL.frozen _
          have n2 : wr.cell? ⟨bN, ln * 8 + 2, none⟩ = some (.int .u64 (m.now (ln * 8 + 2))) := rN.cell (k := ln * 8 + 2) (by omega)
          have v2 : wr.cell? ⟨bL, ln * 8 + 2, none⟩ = some (.int .u64 (crashW m cs k (ln * 8 + 2))) := rL.cell (k := ln * 8 + 2) (by omega)
          have g2 : wr.frozen? ⟨bL, ln * 8 + 2, none⟩ = false := rL.frozen _
          have n3 : wr.cell? ⟨bN, ln * 8 + 3, none⟩ = some (.int .u64 (m.now (ln * 8 + 3))) := rN.cell (k := ln * 8 + 3) (by omega)
          have v3 : wr.cell? ⟨bL, ln * 8 + 3, none⟩ = some (.int .u64 (crashW m cs k (ln * 8 + 3))) := rL.cell (k := ln * 8 + 3) (by omega)
          have g3 : wr.frozen? ⟨bL, ln * 8 + 3, none⟩ = false := rL.frozen _
          have n4 : wr.cell? ⟨bN, ln * 8 + 4, none⟩ = some (.int .u64 (m.now (ln * 8 + 4))) := rN.cell (k := ln * 8 + 4) (by omega)
          have v4 : wr.cell? ⟨bL, ln * 8 + 4, none⟩ = some (.int .u64 (crashW m cs k (ln * 8 + 4))) := rL.cell (k := ln * 8 + 4) (by omega)
          have g4 : wr.frozen? ⟨bL, ln * 8 + 4, none⟩ = false := rL.frozen _
          have n5 : wr.cell? ⟨bN, ln * 8 + 5, none⟩ = some (.int .u64 (m.now (ln * 8 + 5))) := rN.cell (k := ln * 8 + 5) (by omega)
          have v5 : wr.cell? ⟨bL, ln * 8 + 5, none⟩ = some (.int .u64 (crashW m cs k (ln * 8 + 5))) := rL.cell (k := ln * 8 + 5) (by omega)
          have g5 : wr.frozen? ⟨bL, ln * 8 + 5, none⟩ = false := rL.frozen _
          have n6 : wr.cell? ⟨bN, ln * 8 + 6, none⟩ = some (.int .u64 (m.now (ln * 8 + 6))) := rN.cell (k := ln * 8 + 6) (by omega)
          have v6 : wr.cell? ⟨bL, ln * 8 + 6, none⟩ = some (.int .u64 (crashW m cs k (ln * 8 + 6))) := rL.cell (k := ln * 8 + 6) (by omega)
          have g6 : wr.frozen? ⟨bL, ln * 8 + 6, none⟩ = false := rL.frozen _
          have n7 : wr.cell? ⟨bN, ln * 8 + 7, none⟩ = some (.int .u64 (m.now (ln * 8 + 7))) := rN.cell (k := ln * 8 + 7) (by omega)
          have v7 : wr.cell? ⟨bL, ln * 8 + 7, none⟩ = some (.int .u64 (crashW m cs k (ln * 8 + 7))) := rL.cell (k := ln * 8 + 7) (by omega)
          have g7 : wr.frozen? ⟨bL, ln * 8 + 7, none⟩ = false := rL.frozen _
          have h8 := rL.set8 (ln * 8) (fun j => .int .u64 (m.now (ln * 8 + j)))
          simp only [Nat.add_zero] at h8
          have H8 := Lib.hid h8
          clear h8
          clear cP1 h1 h2 rL rN rW rP hb3 ho
          go_wp2_with fail
          go_region
          have h9 := (H8.out.1.congr (g := fun j => .int .u64 (crashW m cs (k + 1) j)) fun j _ => by
            rw [HST.out j, HO.out]
            unfold lineOf
            by_cases e : ln * 8 ≤ j ∧ j < ln * 8 + 8
            · rw [if_pos e, if_pos (by omega), show ln * 8 + (j - ln * 8) = j from by omega, show 8 * ln + (j - 8 * ln) = j from by omega]
            · rw [if_neg e, if_neg (by omega)]).drew
          have k9 := H8.out.2.drew
          generalize ((((((((wr.setCell ⟨bL, ln * 8, none⟩ (.int .u64 (m.now (ln * 8)))).setCell ⟨bL, ln * 8 + 1, none⟩ (.int .u64 (m.now (ln * 8 + 1)))).setCell ⟨bL, ln * 8 + 2, none⟩ (.int .u64 (m.now (ln * 8 + 2)))).setCell ⟨bL, ln * 8 + 3, none⟩ (.int .u64 (m.now (ln * 8 + 3)))).setCell ⟨bL, ln * 8 + 4, none⟩ (.int .u64 (m.now (ln * 8 + 4)))).setCell ⟨bL, ln * 8 + 5, none⟩ (.int .u64 (m.now (ln * 8 + 5)))).setCell ⟨bL, ln * 8 + 6, none⟩ (.int .u64 (m.now (ln * 8 + 6)))).setCell ⟨bL, ln * 8 + 7, none⟩ (.int .u64 (m.now (ln * 8 + 7)))).drew = w8 at h9 k9 ⊢
          have H9 := Lib.hid h9
          have K9 := Lib.hid k9
          clear h9 k9
          clear H8 n0 n1 n2 n3 n4 n5 n6 n7 v0 v1 v2 v3 v4 v5 v6 v7 g0 g1 g2 g3 g4 g5 g6 g7 
          go_wp2_with fail
          go_roundw
          case rel => exact ⟨k + 1, by omega, by omega, by go_num, Lib.hid ⟨HC.out.hb.keep K9.out hBL, ⟨hcapL, fun _ => ⟨bL, rfl, hgL, H9.out⟩⟩, HC.out.hk.trans K9.out (fun i _ e => by subst e; exact hgL)⟩⟩
          case measure => simp [intOf]; omega
        · have hq2 : ((c % 3 : Int) == 2) = false := by simpa using h2
          have HN := Lib.hid (HSK.out (by unfold Nv.outcome; rw [if_neg h2, if_neg h1]))
          clear cP1 h1 h2 rL rN rW rP hb3
          go_wp2_with fail
          go_roundw
          case rel => exact ⟨k + 1, by omega, by omega, by go_num, HN⟩
          case measure => simp [intOf]; omega
    · have hkk : k = min dn cn := by omega
      have hrow := HC.out.hL
      have hal := refAll_any hrow hL
      have HAL := Lib.hid hal
      have HCR : Hid (Nv.crash m cs = fresh m.L (crashW m cs k)) := Lib.hid (by unfold Nv.crash; rw [HDN.out, HCN.out, ← hkk])
      have hzb : Box wr (w.heap.size + 1) #[.slice none 0 0, .slice none 0 0, .slice none 0 0, .slice none 0 0, .slice none 0 0, .int .i64 0, .int .i64 0, .bool false] := ((((R2.out).below B3.out R2.out.lt).below B4.out (R2.out.below B3.out R2.out.lt).lt).keep HC.out.hk (by have := R2.out.lt; omega))
      have HZB := Lib.hid hzb
      have hfin : ∀ w5 w6 v r7, Box w6 (w.heap.size + 1) (rc r7 (fresh (linesFor (wordsTo (crashW m cs k) m.L).length) (padded (wordsTo (crashW m cs k) m.L)))) → Below wr.heap.size wr w5 → Ref w5 (fun b => wr.heap.size ≤ b ∧ b < w5.heap.size) r7 (fresh (linesFor (wordsTo (crashW m cs k) m.L).length) (padded (wordsTo (crashW m cs k) m.L))) → Keep (fun b => b = w.heap.size + 1) w5 w6 → v = rv r7 (fresh (linesFor (wordsTo (crashW m cs k) m.L).length) (padded (wordsTo (crashW m cs k) m.L))) → RefMade (Nv.crash m cs) w (.returned v) w6 := by
        intro w5 w6 v r7 hb6 b5 h5 k6 hv
        have e1 : linesFor (wordsTo (crashW m cs k) m.L).length = m.L := by rw [wordsTo_len]; unfold linesFor; omega
        rw [e1] at hb6 h5 hv
        have hlt := HZB.out.lt
        have hz5 := b5.size
        refine ⟨r7, by rw [hv]; rfl, ?_, (K0.out.below (Nat.le_refl _) (fun i h => h)).trans ((b5.mono (by omega)).trans (k6.below (by omega) (fun i e => by omega)))⟩
        rw [HCR.out]
        have h6 := h5.keep (T' := fun b => w.heap.size ≤ b ∧ b < w6.heap.size) k6 (fun b hb _ e => by omega) (fun b hb hlt => ⟨by omega, by have := k6.size; omega⟩)
        have hcg : ∀ j, j < m.L * 8 → padded (wordsTo (crashW m cs k) m.L) j = crashW m cs k j := fun j hj => by
          unfold padded wordsTo; rw [List.getD_eq_getElem?_getD, List.getElem?_map, List.getElem?_range (by omega)]; rfl
        obtain ⟨q1, q2, q3, q4, q5, q6, q7⟩ := h6
        exact ⟨q1.congr fun j hj => by rw [show (fresh m.L (padded (wordsTo (crashW m cs k) m.L))).now = padded (wordsTo (crashW m cs k) m.L) from rfl, hcg j hj]; rfl, q2.congr fun j hj => by rw [show (fresh m.L (padded (wordsTo (crashW m cs k) m.L))).last = padded (wordsTo (crashW m cs k) m.L) from rfl, hcg j hj]; rfl, q3, q4, q5, q6, q7⟩
      have HFIN := Lib.hid hfin
      have hlen7 : (wordsTo (crashW m cs k) m.L).length ≤ 268435456 := by rw [wordsTo_len]; omega
      have hg1 : ¬ ((k : Int) < (dn : Int) ∧ (k : Int) < (cn : Int)) := by omega
      clear hrow hal hzb hfin hb3
      by_cases hlt1 : k < dn
      · have hlt1' : (k : Int) < (dn : Int) := by omega
        have hlt2' : ¬ (k : Int) < (cn : Int) := by omega
        clear hlt hkk
        go_wp2_with (first
          | (go_at_call 48; refine HAL.out.mono ?_; rintro e w4' ⟨v4, rfl, hv4, b4', -⟩; have HLD := Lib.hid (refLoad_any _ _ hv4 hlen7); have B4' := Lib.hid b4'; clear hv4 b4')
          | (go_at_call 27; refine HLD.out.mono ?_; rintro e w5 ⟨r5, rfl, h5, b5⟩; have H5 := Lib.hid h5; have B5 := Lib.hid (B4'.out.trans (b5.mono B4'.out.size)); have HZ5 := Lib.hid (HZB.out.below B5.out HZB.out.lt); have HT5 := Lib.hid (h5.keep (T' := fun b => wr.heap.size ≤ b ∧ b < w5.heap.size) (Keep.refl (fun _ => False) w5) (fun _ _ _ h => h) (fun b hb hlt => ⟨Nat.le_trans B4'.out.size hb.1, hlt⟩)); clear h5 b5)
          | (refine wpList_store_box rfl _ _ rfl (b := w.heap.size + 1) (cells := rc r5 _) rfl rfl HZ5.out rfl rfl (rc_one _ _) ?_; intro w6 hb6 k6; have HB6 := Lib.hid hb6; have K6 := Lib.hid k6; clear hb6 k6))
        exact bodyPost_ret (results_box1 rfl _ _ (w.heap.size + 1) (rc r5 _) rfl HB6.out rfl) rfl (HFIN.out w5 w6 _ r5 HB6.out B5.out HT5.out K6.out rfl)
      · have hlt1' : ¬ (k : Int) < (dn : Int) := by omega
        clear hlt hkk
        go_wp2_with (first
          | (go_at_call 48; refine HAL.out.mono ?_; rintro e w4' ⟨v4, rfl, hv4, b4', -⟩; have HLD := Lib.hid (refLoad_any _ _ hv4 hlen7); have B4' := Lib.hid b4'; clear hv4 b4')
          | (go_at_call 27; refine HLD.out.mono ?_; rintro e w5 ⟨r5, rfl, h5, b5⟩; have H5 := Lib.hid h5; have B5 := Lib.hid (B4'.out.trans (b5.mono B4'.out.size)); have HZ5 := Lib.hid (HZB.out.below B5.out HZB.out.lt); have HT5 := Lib.hid (h5.keep (T' := fun b => wr.heap.size ≤ b ∧ b < w5.heap.size) (Keep.refl (fun _ => False) w5) (fun _ _ _ h => h) (fun b hb hlt => ⟨Nat.le_trans B4'.out.size hb.1, hlt⟩)); clear h5 b5)
          | (refine wpList_store_box rfl _ _ rfl (b := w.heap.size + 1) (cells := rc r5 _) rfl rfl HZ5.out rfl rfl (rc_one _ _) ?_; intro w6 hb6 k6; have HB6 := Lib.hid hb6; have K6 := Lib.hid k6; clear hb6 k6))
        exact bodyPost_ret (results_box1 rfl _ _ (w.heap.size + 1) (rc r5 _) rfl HB6.out rfl) rfl (HFIN.out w5 w6 _ r5 HB6.out B5.out HT5.out K6.out rfl)
end

end Go.Proofs.Ytnkndhmkamaccaa
