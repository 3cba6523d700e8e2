/- The reference: a line is flushed. -/
import Derived.Test.YtnkndhmkamaccaaRefStore
import Derived.Deep.RegionHeld3
import Derived.BigRegion
namespace Go.Proofs.Ytnkndhmkamaccaa
open Go.ChangeShapes Go.WideShapes Go.ChangeAt Go.RowKit Nv
set_option linter.unusedVariables false

/-- Eight cells are stored, one by one. -/
theorem RowP.set8 {w : World} {b t n : Nat} {f : Nat → Value} (h : RowP w b t n f) (o : Nat) (x : Nat → Value) :
    RowP ((((((((w.setCell ⟨b, o, none⟩ (x 0)).setCell ⟨b, o + 1, none⟩ (x 1)).setCell ⟨b, o + 2, none⟩ (x 2)).setCell ⟨b, o + 3, none⟩ (x 3)).setCell ⟨b, o + 4, none⟩ (x 4)).setCell ⟨b, o + 5, none⟩ (x 5)).setCell ⟨b, o + 6, none⟩ (x 6)).setCell ⟨b, o + 7, none⟩ (x 7)) b t n (fun j => if o ≤ j ∧ j < o + 8 then x (j - o) else f j) ∧ Keep (fun i => i = b) w ((((((((w.setCell ⟨b, o, none⟩ (x 0)).setCell ⟨b, o + 1, none⟩ (x 1)).setCell ⟨b, o + 2, none⟩ (x 2)).setCell ⟨b, o + 3, none⟩ (x 3)).setCell ⟨b, o + 4, none⟩ (x 4)).setCell ⟨b, o + 5, none⟩ (x 5)).setCell ⟨b, o + 6, none⟩ (x 6)).setCell ⟨b, o + 7, none⟩ (x 7)) := by
  refine ⟨(((((((((h.set o (x 0)).set (o + 1) (x 1)).set (o + 2) (x 2)).set (o + 3) (x 3)).set (o + 4) (x 4)).set (o + 5) (x 5)).set (o + 6) (x 6)).set (o + 7) (x 7)).congr fun j _ => ?_), ?_⟩
  · by_cases e : o ≤ j ∧ j < o + 8
    · rw [if_pos e]
      have : j = o ∨ j = o + 1 ∨ j = o + 2 ∨ j = o + 3 ∨ j = o + 4 ∨ j = o + 5 ∨ j = o + 6 ∨ j = o + 7 := by omega
      rcases this with rfl | rfl | rfl | rfl | rfl | rfl | rfl | rfl <;> simp
    · rw [if_neg e, if_neg (by omega), if_neg (by omega), if_neg (by omega), if_neg (by omega), if_neg (by omega), if_neg (by omega), if_neg (by omega), if_neg (by omega)]
  · exact ((((((((Keep.refl (fun i => i = b) w).setCell (fun _ => rfl) _).setCell (fun _ => rfl) _).setCell (fun _ => rfl) _).setCell (fun _ => rfl) _).setCell (fun _ => rfl) _).setCell (fun _ => rfl) _).setCell (fun _ => rfl) _).setCell (fun _ => rfl) _

section
variable {w : World} {T : Nat → Prop} {r : RV} {m : Mdl}

set_option maxHeartbeats 2000000 in
set_option maxRecDepth 100000 in
theorem refFlush_any (h : Ref w T r m) (a : Int) (h0 : 0 ≤ m.steps) (hb : m.steps < 4611686018427387904) (hf : -1 ≤ m.fuse ∧ m.fuse ≤ 9223372036854775807) :
    Calls Try.prog 38 #[rv r m, .int .i64 a] w (RefTo T (Nv.flush m a).1 (.int .i64 (Nv.flush m a).2) w) := by
  have hL := h.lb
  by_cases hw : hasL m a = true
  · obtain ⟨k, rfl, hk⟩ := hasL_cast hw
    have hk1 : ¬ (k : Int) < 0 := by omega
    have hk2 : (k : Int) < (m.L : Int) := by omega
    have hk3 : decide ((m.L : Int) ≤ (k : Int)) = false := by simp; omega
    have hk4 : decide (m.L ≤ k) = false := by simp; omega
    cases hs : stops m
    · have hr : Nv.flush m k = (flushM m k, 0) := by unfold Nv.flush; rw [if_neg (by rw [hw]; decide), if_neg (by rw [hs]; decide)]; rfl
      rw [hr]
      have hst := fun w => refStep_go (w := w) r hs h0 hb hf
      have HST := Lib.hid hst
      have H := Lib.hid h
      clear hr hs hw hst h
      cases hd : m.dirty k
      · have hfm : flushM m k = stepM m := by unfold flushM; rw [if_neg (by rw [hd]; decide)]
        rw [hfm]
        have HDT := Lib.hid hd
        clear hfm hd
        unfold rv
        go_enter Try.func38, Try.ntmps38
        go_wp2_with (first
          | (go_at_call 51; refine (HST.out _).mono ?_; rintro e w1 ⟨rfl, hb1⟩; have B1 := Lib.hid (boxes_of (cs := rc r m) hb1); clear hb1)
          | (refine wpList_store_box rfl _ _ rfl (b := w.heap.size) (cells := rc r (stepM m)) rfl rfl B1.out.1 rfl rfl (rc_one _ _) ?_; intro w2 hb2 k2; have c3 : w2.cell? ⟨w.heap.size, 3, none⟩ = some (.slice r.aD m.L r.cD) := hb2.cell 3; have B2 := Lib.hid hb2; have K2 := Lib.hid k2; have h2 : Ref w2 T r m := (Ref.keep (S := fun b => b = w.heap.size ∨ w.heap.size + 1 = b) (T := T) (T' := T) H.out ((Keep.ofBelow B1.out.2.2.1).trans K2.out (fun i hi e => by omega)) (fun b hb hlt e => by omega) (fun _ h _ => h)); obtain ⟨bD, hbD, -, rD⟩ := h2.hD.at_ (by omega); rw [hbD] at c3; have cD1 := rD.cell (k := k) (by omega); rw [HDT.out] at cD1; clear hb2 k2 h2 rD)
          | (refine wpList_load_box rfl _ rfl (b := w.heap.size) (cells := rc r (stepM m)) rfl B2.out rfl ?_)
          | (refine wpList_store_box rfl _ _ rfl (b := w.heap.size + 1) (cells := rc r (stepM m)) rfl rfl (B1.out.2.1.keep K2.out (by omega)) rfl rfl (rc_one _ _) ?_; intro w3 hb3 k3; have B3 := Lib.hid hb3; have K3 := Lib.hid k3; clear hb3 k3))
        have hz := B1.out.2.2.2
        have k13 : Keep (fun b => w.heap.size ≤ b) w w3 := (((Keep.ofBelow (S := fun b => w.heap.size ≤ b) B1.out.2.2.1).trans K2.out (fun i hi e => by omega)).trans K3.out (fun i hi e => by omega))
        have bw : Below w.heap.size w w3 := k13.below (Nat.le_refl _) (fun _ h => h)
        exact bodyPost_ret (results_box2 rfl _ _ (w.heap.size + 1) (rc r (stepM m)) _ rfl B3.out rfl rfl) rfl ⟨r, rfl, H.out.step.grew bw, bw⟩
      · have hfm : flushM m k = Nv.setWait (stepM m) k (some (lineOf m.now k)) := by unfold flushM; rw [if_pos hd]
        rw [hfm]
        have HDT := Lib.hid hd
        clear hfm hd
        unfold rv
        go_enter Try.func38, Try.ntmps38
        go_upto_region 7 with (first
          | (go_at_call 51; refine (HST.out _).mono ?_; rintro e w1 ⟨rfl, hb1⟩; have B1 := Lib.hid (boxes_of (cs := rc r m) hb1); clear hb1)
          | (refine wpList_store_box rfl _ _ rfl (b := w.heap.size) (cells := rc r (stepM m)) rfl rfl B1.out.1 rfl rfl (rc_one _ _) ?_; intro w2 hb2 k2; have c3 : w2.cell? ⟨w.heap.size, 3, none⟩ = some (.slice r.aD m.L r.cD) := hb2.cell 3; have B2 := Lib.hid hb2; have K2 := Lib.hid k2; have h2 : Ref w2 T r m := (Ref.keep (S := fun b => b = w.heap.size ∨ w.heap.size + 1 = b) (T := T) (T' := T) H.out ((Keep.ofBelow B1.out.2.2.1).trans K2.out (fun i hi e => by omega)) (fun b hb hlt e => by omega) (fun _ h _ => h)); obtain ⟨bD, hbD, -, rD⟩ := h2.hD.at_ (by omega); rw [hbD] at c3; have cD1 := rD.cell (k := k) (by omega); rw [HDT.out] at cD1; clear hb2 k2 h2 rD))
        clear c3 cD1
        have hz := B1.out.2.2.2
        have hb2 := B2.out
        have c2 : w2.cell? ⟨w.heap.size, 2, none⟩ = some (.slice r.aW m.L r.cW) := hb2.cell 2
        have c4 : w2.cell? ⟨w.heap.size, 4, none⟩ = some (.slice r.aP m.L r.cP) := hb2.cell 4
        have f2 := hb2.frozen 2
        have f4 := hb2.frozen 4
        have hsz2 : w.heap.size + 2 ≤ w2.heap.size := by have := K2.out.size; omega
        have h2 : Ref w2 T r m := (Ref.keep (S := fun b => b = w.heap.size ∨ w.heap.size + 1 = b) (T := T) (T' := T) H.out ((Keep.ofBelow B1.out.2.2.1).trans K2.out (fun i hi e => by omega)) (fun b hb hlt e => by omega) (fun _ h _ => h))
        have HW := Lib.hid h2.hW
        have HP := Lib.hid h2.hP
        have HH2 := Lib.hid h2
        go_cut [] (fun wx => ∃ aW cW aP cP, Box wx w.heap.size (rc { r with aW := aW, cW := cW, aP := aP, cP := cP } (stepM m)) ∧ SRow wx (fun b => w2.heap.size ≤ b) 76 8 aW m.L cW (fun k => .int .u64 (r.wf k)) ∧ SRow wx (fun b => w2.heap.size ≤ b) 4 1 aP m.L cP (fun k => .bool (m.wait k).isSome) ∧ Keep (fun b => b = w.heap.size) w2 wx)
        case first =>
          have BA : Below w2.heap.size w2 w2.drew := (Below.refl _ w2).drew
          clear hb2 h2
          have hlt2 : w.heap.size < w2.heap.size := by omega
          go_region_law ((first
          | (go_simp; go_at_call 52; refine (refLines_new BA HW.out (fun _ => rfl) hL).mono ?_; rintro e wl ⟨aW, cW, rfl, s0, BA2, b0, -⟩; have c2 := (b0.cell (p := ⟨w.heap.size, 2, none⟩) (Nat.lt_of_lt_of_le hlt2 BA.size)).trans c2; have f2 := (b0.frozen (p := ⟨w.heap.size, 2, none⟩) (Nat.lt_of_lt_of_le hlt2 BA.size)).trans f2; have c4 := (b0.cell (p := ⟨w.heap.size, 4, none⟩) (Nat.lt_of_lt_of_le hlt2 BA.size)).trans c4; have f4 := (b0.frozen (p := ⟨w.heap.size, 4, none⟩) (Nat.lt_of_lt_of_le hlt2 BA.size)).trans f4; have SW := Lib.hid s0; (try (have SP := Lib.hid (SP.out.below b0))); have BA := BA2; clear BA2 b0 s0)
          | (go_simp; go_at_call 53; refine (refFlags_new BA HP.out (fun _ => rfl) hL).mono ?_; rintro e wl ⟨aP, cP, rfl, s0, BA2, b0, -⟩; have c2 := (b0.cell (p := ⟨w.heap.size, 2, none⟩) (Nat.lt_of_lt_of_le hlt2 BA.size)).trans c2; have f2 := (b0.frozen (p := ⟨w.heap.size, 2, none⟩) (Nat.lt_of_lt_of_le hlt2 BA.size)).trans f2; have c4 := (b0.cell (p := ⟨w.heap.size, 4, none⟩) (Nat.lt_of_lt_of_le hlt2 BA.size)).trans c4; have f4 := (b0.frozen (p := ⟨w.heap.size, 4, none⟩) (Nat.lt_of_lt_of_le hlt2 BA.size)).trans f4; have SP := Lib.hid s0; (try (have SW := Lib.hid (SW.out.below b0))); have BA := BA2; clear BA2 b0 s0)))
          all_goals
            go_wp2_with fail
            go_meet
            refine ⟨aW, cW, aP, cP, (((B2.out.below BA hlt2).set 2 _).set 4 _), ?_, ?_, ?_⟩
            · exact SW.out.keep (S := fun b => b = w.heap.size) (((Keep.refl (fun b => b = w.heap.size) _).setCell (fun _ => rfl) _).setCell (fun _ => rfl) _) (fun b hb _ e => by omega) (fun _ h _ => h)
            · exact SP.out.keep (S := fun b => b = w.heap.size) (((Keep.refl (fun b => b = w.heap.size) _).setCell (fun _ => rfl) _).setCell (fun _ => rfl) _) (fun b hb _ e => by omega) (fun _ h _ => h)
            · exact ((Keep.ofBelow (S := fun b => b = w.heap.size) BA).setCell (fun _ => rfl) _).setCell (fun _ => rfl) _
        case rest =>
          obtain ⟨aW, cW, aP, cP, hb3, sW, sP, k3⟩ := hcut
          obtain ⟨bW, rfl, hbW, rW⟩ := sW.at_ (by omega)
          obtain ⟨bP, rfl, hbP, rP⟩ := sP.at_ (by omega)
          have hcW := sW.cap
          have hcP := sP.cap
          have hWP : bW ≠ bP := rW.ne rP (by decide)
          have k0c : Keep (fun b => w.heap.size ≤ b) w wc := (((Keep.ofBelow (S := fun b => w.heap.size ≤ b) B1.out.2.2.1).trans K2.out (fun i hi e => by omega)).trans k3 (fun i hi e => by omega))
          obtain ⟨bN, hbN, hTN, rN0⟩ := H.out.hN.at_ (by omega)
          have hltN := rN0.lt
          have rN := rN0.keep (k0c.block bN hltN (by omega))
          have hNW : bN ≠ bW := by omega
          have c0 : wc.cell? ⟨w.heap.size, 0, none⟩ = some (.slice r.aN m.L r.cN) := hb3.cell 0
          rw [hbN] at c0
          have c2 : wc.cell? ⟨w.heap.size, 2, none⟩ = some (.slice (some ⟨bW, 0, none⟩) m.L cW) := hb3.cell 2
          have hk0 : (0 : Int) ≤ (k : Int) := by omega
          have n0 : wc.cell? ⟨bN, k * 8, none⟩ = some (.int .u64 (m.now (k * 8))) := rN.cell (k := k * 8) (by omega)
          have v0 : wc.cell? ⟨bW, k * 8, none⟩ = some (.int .u64 (r.wf (k * 8))) := rW.cell (k := k * 8) (by omega)
          have g0 : wc.frozen? ⟨bW, k * 8, none⟩ = false := rW.frozen _
          have n1 : wc.cell? ⟨bN, k * 8 + 1, none⟩ = some (.int .u64 (m.now (k * 8 + 1))) := rN.cell (k := k * 8 + 1) (by omega)
          have v1 : wc.cell? ⟨bW, k * 8 + 1, none⟩ = some (.int .u64 (r.wf (k * 8 + 1))) := rW.cell (k := k * 8 + 1) (by omega)
          have g1 : wc.frozen? ⟨bW, k * 8 + 1, none⟩ = false := rW.frozen _
          have n2 : wc.cell? ⟨bN, k * 8 + 2, none⟩ = some (.int .u64 (m.now (k * 8 + 2))) := rN.cell (k := k * 8 + 2) (by omega)
          have v2 : wc.cell? ⟨bW, k * 8 + 2, none⟩ = some (.int .u64 (r.wf (k * 8 + 2))) := rW.cell (k := k * 8 + 2) (by omega)
          have g2 : wc.frozen? ⟨bW, k * 8 + 2, none⟩ = false := rW.frozen _
          have n3 : wc.cell? ⟨bN, k * 8 + 3, none⟩ = some (.int .u64 (m.now (k * 8 + 3))) := rN.cell (k := k * 8 + 3) (by omega)
          have v3 : wc.cell? ⟨bW, k * 8 + 3, none⟩ = some (.int .u64 (r.wf (k * 8 + 3))) := rW.cell (k := k * 8 + 3) (by omega)
          have g3 : wc.frozen? ⟨bW, k * 8 + 3, none⟩ = false := rW.frozen _
          have n4 : wc.cell? ⟨bN, k * 8 + 4, none⟩ = some (.int .u64 (m.now (k * 8 + 4))) := rN.cell (k := k * 8 + 4) (by omega)
          have v4 : wc.cell? ⟨bW, k * 8 + 4, none⟩ = some (.int .u64 (r.wf (k * 8 + 4))) := rW.cell (k := k * 8 + 4) (by omega)
          have g4 : wc.frozen? ⟨bW, k * 8 + 4, none⟩ = false := rW.frozen _
          have n5 : wc.cell? ⟨bN, k * 8 + 5, none⟩ = some (.int .u64 (m.now (k * 8 + 5))) := rN.cell (k := k * 8 + 5) (by omega)
          have v5 : wc.cell? ⟨bW, k * 8 + 5, none⟩ = some (.int .u64 (r.wf (k * 8 + 5))) := rW.cell (k := k * 8 + 5) (by omega)
          have g5 : wc.frozen? ⟨bW, k * 8 + 5, none⟩ = false := rW.frozen _
          have n6 : wc.cell? ⟨bN, k * 8 + 6, none⟩ = some (.int .u64 (m.now (k * 8 + 6))) := rN.cell (k := k * 8 + 6) (by omega)
          have v6 : wc.cell? ⟨bW, k * 8 + 6, none⟩ = some (.int .u64 (r.wf (k * 8 + 6))) := rW.cell (k := k * 8 + 6) (by omega)
          have g6 : wc.frozen? ⟨bW, k * 8 + 6, none⟩ = false := rW.frozen _
          have n7 : wc.cell? ⟨bN, k * 8 + 7, none⟩ = some (.int .u64 (m.now (k * 8 + 7))) := rN.cell (k := k * 8 + 7) (by omega)
          have v7 : wc.cell? ⟨bW, k * 8 + 7, none⟩ = some (.int .u64 (r.wf (k * 8 + 7))) := rW.cell (k := k * 8 + 7) (by omega)
          have g7 : wc.frozen? ⟨bW, k * 8 + 7, none⟩ = false := rW.frozen _
          have hBN : bN ≠ w.heap.size := by omega
          have hB0l : w.heap.size < wc.heap.size := hb3.lt
          have hNl : bN < wc.heap.size := rN.lt
          have hBW : w.heap.size ≠ bW := by omega
          have h8 := rW.set8 (k * 8) (fun j => .int .u64 (m.now (k * 8 + j)))
          simp only [Nat.add_zero] at h8
          have H8 := Lib.hid h8
          clear h8
          go_wp2_with fail
          go_region
          have h9 := (H8.out.1.congr (g := fun j => .int .u64 (if j / 8 = k then m.now j else r.wf j)) fun j _ => by
            by_cases e : j / 8 = k
            · rw [if_pos (by omega), if_pos e, show k * 8 + (j - k * 8) = j from by omega]
            · rw [if_neg (by omega), if_neg e]).drew
          have k9 := H8.out.2.drew
          generalize ((((((((wc.setCell ⟨bW, k * 8, none⟩ (.int .u64 (m.now (k * 8)))).setCell ⟨bW, k * 8 + 1, none⟩ (.int .u64 (m.now (k * 8 + 1)))).setCell ⟨bW, k * 8 + 2, none⟩ (.int .u64 (m.now (k * 8 + 2)))).setCell ⟨bW, k * 8 + 3, none⟩ (.int .u64 (m.now (k * 8 + 3)))).setCell ⟨bW, k * 8 + 4, none⟩ (.int .u64 (m.now (k * 8 + 4)))).setCell ⟨bW, k * 8 + 5, none⟩ (.int .u64 (m.now (k * 8 + 5)))).setCell ⟨bW, k * 8 + 6, none⟩ (.int .u64 (m.now (k * 8 + 6)))).setCell ⟨bW, k * 8 + 7, none⟩ (.int .u64 (m.now (k * 8 + 7)))).drew = w8 at h9 k9 ⊢
          clear H8 n0 n1 n2 n3 n4 n5 n6 n7 v0 v1 v2 v3 v4 v5 v6 v7 g0 g1 g2 g3 g4 g5 g6 g7 c0 c2
          have hb8 := hb3.keep k9 hBW
          have c4 : w8.cell? ⟨w.heap.size, 4, none⟩ = some (.slice (some ⟨bP, 0, none⟩) m.L cP) := hb8.cell 4
          have rP8 := rP.keep (k9.block bP rP.lt hWP.symm)
          have cP1 := rP8.cell (k := k) (by omega)
          have fP1 := rP8.frozen k
          have hb9 := hb8.far (p := ⟨bP, k, none⟩) (by show w.heap.size ≠ bP; omega) (.bool true)
          have hR9 := (((B1.out.2.1.keep K2.out (by omega)).keep k3 (by omega)).keep k9 (by omega)).far (p := ⟨bP, k, none⟩) (by show w.heap.size + 1 ≠ bP; omega) (.bool true)
          have HB9 := Lib.hid hb9
          have HR9 := Lib.hid hR9
          clear hb9 hR9 hb8 hb3
          go_wp2_with (first
            | (refine wpList_load_box rfl _ rfl (b := w.heap.size) rfl HB9.out rfl ?_)
            | (refine wpList_store_box rfl _ _ rfl (b := w.heap.size + 1) rfl rfl HR9.out rfl rfl (rc_one _ _) ?_; intro w6 hb6 k6; have B6 := Lib.hid hb6; have K6 := Lib.hid k6; clear hb6 k6))
          have k36 : Keep (fun b => w.heap.size ≤ b) wc w6 := (((k9.mono (S' := fun b => w.heap.size ≤ b) (fun i _ e => by omega))).setCell (p := ⟨bP, k, none⟩) (fun _ => by show w.heap.size ≤ bP; omega) _).trans K6.out (fun i _ e => by omega)
          have bw : Below w.heap.size w w6 := (k0c.trans' k36).below (Nat.le_refl _) (fun _ h => h)
          have rW6 := ((h9.far (p := ⟨bP, k, none⟩) hWP (.bool true)).keep (K6.out.block bW (by simp [World.setCell]; exact h9.lt) (by omega)))
          have rP6 := ((rP8.set k (.bool true)).keep (K6.out.block bP (by simp [World.setCell]; exact rP8.lt) (by omega)))
          refine bodyPost_ret (results_box2 rfl _ _ (w.heap.size + 1) _ _ rfl B6.out rfl rfl) rfl ⟨{ r with aW := some ⟨bW, 0, none⟩, cW := cW, aP := some ⟨bP, 0, none⟩, cP := cP, wf := fun j => if j / 8 = k then m.now j else r.wf j }, rfl, ⟨(H.out.grew bw).hN, (H.out.grew bw).hL, ⟨hcW, fun _ => ⟨bW, rfl, .inr ⟨by omega, rW6.lt⟩, rW6⟩⟩, (H.out.grew bw).hD, ⟨hcP, fun _ => ⟨bP, rfl, .inr ⟨by omega, rP6.lt⟩, rP6.congr fun j _ => ?_⟩⟩, ?_, H.out.lb⟩, bw⟩
          · simp only [Nv.setWait]; split <;> rfl
          · intro i c hc j hj
            simp only [Nv.setWait] at hc
            by_cases e : i = k
            · subst e; rw [if_pos rfl] at hc; cases hc
              simp only []; rw [if_pos (by omega)]; rfl
            · rw [if_neg e] at hc
              simp only []; rw [if_neg (by omega)]; exact H.out.wt i c hc j hj
    · have hr : Nv.flush m k = (deadM m, 3) := by unfold Nv.flush; rw [if_neg (by rw [hw]; decide), if_pos hs]
      rw [hr]
      have hst := fun w => refStep_no (w := w) r hs
      have HST := Lib.hid hst
      have H := Lib.hid h
      clear hr hs hw hst h
      unfold rv
      go_enter Try.func38, Try.ntmps38
      go_wp2_with (first
        | (go_at_call 51; refine (HST.out _).mono ?_; rintro e w1 ⟨rfl, hb1⟩; have B1 := Lib.hid (boxes_of (cs := rc r m) hb1); clear hb1)
        | (refine wpList_store_box rfl _ _ rfl (b := w.heap.size) (cells := rc r (deadM m)) rfl rfl B1.out.1 rfl rfl (rc_one _ _) ?_; intro w2 hb2 k2; have B2 := Lib.hid hb2; have K2 := Lib.hid k2; clear hb2 k2)
        | (refine wpList_load_box rfl _ rfl (b := w.heap.size) (cells := rc r (deadM m)) rfl B2.out rfl ?_)
        | (refine wpList_store_box rfl _ _ rfl (b := w.heap.size + 1) (cells := rc r (deadM m)) rfl rfl (B1.out.2.1.keep K2.out (by omega)) rfl rfl (rc_one _ _) ?_; intro w3 hb3 k3; have B3 := Lib.hid hb3; have K3 := Lib.hid k3; clear hb3 k3))
      have hz := B1.out.2.2.2
      have k13 : Keep (fun b => w.heap.size ≤ b) w w3 := (((Keep.ofBelow (S := fun b => w.heap.size ≤ b) B1.out.2.2.1).trans K2.out (fun i hi e => by omega)).trans K3.out (fun i hi e => by omega))
      have bw : Below w.heap.size w w3 := k13.below (Nat.le_refl _) (fun _ h => h)
      exact bodyPost_ret (results_box2 rfl _ _ (w.heap.size + 1) (rc r (deadM m)) _ rfl B3.out rfl rfl) rfl ⟨r, rfl, H.out.dead.grew bw, bw⟩
  · have hw' : hasL m a = false := by simpa using hw
    have hr : Nv.flush m a = (m, 2) := by unfold Nv.flush; rw [if_pos hw']
    rw [hr]
    have ho : ¬ (0 ≤ a ∧ a < (m.L : Int)) := of_decide_eq_false hw'
    have H := Lib.hid h
    clear hr hw hw' h
    by_cases h1 : a < 0
    · clear ho
      unfold rv
      go_enter Try.func38, Try.ntmps38
      go_wp2_with fail
      exact bodyPost_ret (v := .tuple #[rv r m, .int .i64 2]) (by simp [results, Try.results38, go_sem, rv]) rfl ⟨r, rfl, H.out.grew (below_two _ _ _), below_two _ _ _⟩
    · have h2 : (m.L : Int) ≤ a := by omega
      clear ho
      unfold rv
      go_enter Try.func38, Try.ntmps38
      go_wp2_with fail
      exact bodyPost_ret (v := .tuple #[rv r m, .int .i64 2]) (by simp [results, Try.results38, go_sem, rv]) rfl ⟨r, rfl, H.out.grew (below_two _ _ _), below_two _ _ _⟩
end

end Go.Proofs.Ytnkndhmkamaccaa
