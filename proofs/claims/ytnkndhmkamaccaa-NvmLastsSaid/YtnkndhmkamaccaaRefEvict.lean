/- The reference: a line is evicted. -/
import Derived.Test.YtnkndhmkamaccaaRefFlush
namespace Go.Proofs.Ytnkndhmkamaccaa
open Go.ChangeShapes Go.WideShapes Go.ChangeAt Go.RowKit Nv
set_option linter.unusedVariables false

section
variable {w : World} {T : Nat → Prop} {r : RV} {m : Mdl}

set_option maxHeartbeats 4000000 in
set_option maxRecDepth 100000 in
theorem refEvict_any (h : Ref w T r m) (a : Int) :
    Calls Try.prog 41 #[rv r m, .int .i64 a] w (RefTo T (Nv.evict m a).1 (.int .i64 (Nv.evict m a).2) w) := by
  have hL := h.lb
  by_cases hw : hasL m a = true
  · obtain ⟨k, rfl, hk⟩ := hasL_cast hw
    have hk1 : ¬ (k : Int) < 0 := by omega
    have hk2 : (k : Int) < (m.L : Int) := by omega
    have hk3 : decide ((m.L : Int) ≤ (k : Int)) = false := by simp; omega
    have hk4 : decide (m.L ≤ k) = false := by simp; omega
    cases hs : m.dead
    · have hr : Nv.evict m k = (evictM m k, 0) := by unfold Nv.evict; rw [if_neg (by rw [hw]; decide), if_neg (by rw [hs]; decide)]; rfl
      rw [hr]
      have H := Lib.hid h
      have HS := Lib.hid hs
      have hB := boxes_of (w := w) (cs := rc r m) (Below.refl _ _)
      unfold rc at hB
      unfold rv
      rw [hs] at hB ⊢
      unfold z30 at hB
      have HB := Lib.hid hB
      clear hr hs hw h hB
      go_enter Try.func41, Try.ntmps41
      go_upto_region 5 with fail
      have hB := HB.out
      clear HB
      generalize (w.alloc (.cells #[.slice r.aN m.L r.cN, .slice r.aL m.L r.cL, .slice r.aW m.L r.cW, .slice r.aD m.L r.cD, .slice r.aP m.L r.cP, .int .i64 m.steps, .int .i64 m.fuse, .bool false] 30)).alloc (.cells #[.slice none 0 0, .slice none 0 0, .slice none 0 0, .slice none 0 0, .slice none 0 0, .int .i64 0, .int .i64 0, .bool false] 30) = w2 at hB ⊢
      obtain ⟨hb2, hR2, bw2, hz⟩ := hB
      have B2 := Lib.hid hb2
      have R2 := Lib.hid hR2
      have BW2 := Lib.hid bw2
      have c1 : w2.cell? ⟨w.heap.size, 1, none⟩ = some (.slice r.aL m.L r.cL) := hb2.cell 1
      have c3 : w2.cell? ⟨w.heap.size, 3, none⟩ = some (.slice r.aD m.L r.cD) := hb2.cell 3
      have c4 : w2.cell? ⟨w.heap.size, 4, none⟩ = some (.slice r.aP m.L r.cP) := hb2.cell 4
      have f1 := hb2.frozen 1
      have f3 := hb2.frozen 3
      have f4 := hb2.frozen 4
      have h2 : Ref w2 T r m := H.out.below bw2
      have HL := Lib.hid h2.hL
      have HD := Lib.hid h2.hD
      have HP := Lib.hid h2.hP
      go_cut [] (fun wx => ∃ aL cL aD cD aP cP, Box wx w.heap.size #[.slice r.aN m.L r.cN, .slice aL m.L cL, .slice r.aW m.L r.cW, .slice aD m.L cD, .slice aP m.L cP, .int .i64 m.steps, .int .i64 m.fuse, .bool false] ∧ SRow wx (fun b => w2.heap.size ≤ b) 76 8 aL m.L cL (fun k => .int .u64 (m.last k)) ∧ SRow wx (fun b => w2.heap.size ≤ b) 4 1 aD m.L cD (fun k => .bool (m.dirty k)) ∧ SRow wx (fun b => w2.heap.size ≤ b) 4 1 aP m.L cP (fun k => .bool (m.wait k).isSome) ∧ (∀ bD bP, aD = some ⟨bD, 0, none⟩ → aP = some ⟨bP, 0, none⟩ → bD ≠ bP) ∧ Keep (fun b => b = w.heap.size) w2 wx)
      case first =>
        have BA : Below w2.heap.size w2 w2.drew := (Below.refl _ w2).drew
        clear hb2 h2 hR2 bw2
        have hlt2 : w.heap.size < w2.heap.size := by omega
        go_region_law ((first
          | (go_simp; go_at_call 52; refine (refLines_new BA HL.out (fun _ => rfl) hL).mono ?_; rintro e wl ⟨aL, cL, rfl, s0, BA2, b0, g0⟩; have c1 := (b0.cell (p := ⟨w.heap.size, 1, none⟩) (Nat.lt_of_lt_of_le hlt2 BA.size)).trans c1; have f1 := (b0.frozen (p := ⟨w.heap.size, 1, none⟩) (Nat.lt_of_lt_of_le hlt2 BA.size)).trans f1; have c3 := (b0.cell (p := ⟨w.heap.size, 3, none⟩) (Nat.lt_of_lt_of_le hlt2 BA.size)).trans c3; have f3 := (b0.frozen (p := ⟨w.heap.size, 3, none⟩) (Nat.lt_of_lt_of_le hlt2 BA.size)).trans f3; have c4 := (b0.cell (p := ⟨w.heap.size, 4, none⟩) (Nat.lt_of_lt_of_le hlt2 BA.size)).trans c4; have f4 := (b0.frozen (p := ⟨w.heap.size, 4, none⟩) (Nat.lt_of_lt_of_le hlt2 BA.size)).trans f4; have SL := Lib.hid s0; (try (have SD := Lib.hid (SD.out.below b0))); (try (have SP := Lib.hid (SP.out.below b0))); have BA := BA2; clear BA2 b0 s0 g0)
          | (go_simp; go_at_call 53; refine (refFlags_new BA HD.out (fun _ => rfl) hL).mono ?_; rintro e wl ⟨aD, cD, rfl, s0, BA2, b0, g0⟩; (try (have NE := Lib.hid (fresh_ne SP.out (by omega) g0))); have c1 := (b0.cell (p := ⟨w.heap.size, 1, none⟩) (Nat.lt_of_lt_of_le hlt2 BA.size)).trans c1; have f1 := (b0.frozen (p := ⟨w.heap.size, 1, none⟩) (Nat.lt_of_lt_of_le hlt2 BA.size)).trans f1; have c3 := (b0.cell (p := ⟨w.heap.size, 3, none⟩) (Nat.lt_of_lt_of_le hlt2 BA.size)).trans c3; have f3 := (b0.frozen (p := ⟨w.heap.size, 3, none⟩) (Nat.lt_of_lt_of_le hlt2 BA.size)).trans f3; have c4 := (b0.cell (p := ⟨w.heap.size, 4, none⟩) (Nat.lt_of_lt_of_le hlt2 BA.size)).trans c4; have f4 := (b0.frozen (p := ⟨w.heap.size, 4, none⟩) (Nat.lt_of_lt_of_le hlt2 BA.size)).trans f4; have SD := Lib.hid s0; (try (have SL := Lib.hid (SL.out.below b0))); (try (have SP := Lib.hid (SP.out.below b0))); have BA := BA2; clear BA2 b0 s0 g0)
          | (go_simp; go_at_call 53; refine (refFlags_new BA HP.out (fun _ => rfl) hL).mono ?_; rintro e wl ⟨aP, cP, rfl, s0, BA2, b0, g0⟩; (try (have NE := Lib.hid (fresh_ne SD.out (by omega) g0))); have c1 := (b0.cell (p := ⟨w.heap.size, 1, none⟩) (Nat.lt_of_lt_of_le hlt2 BA.size)).trans c1; have f1 := (b0.frozen (p := ⟨w.heap.size, 1, none⟩) (Nat.lt_of_lt_of_le hlt2 BA.size)).trans f1; have c3 := (b0.cell (p := ⟨w.heap.size, 3, none⟩) (Nat.lt_of_lt_of_le hlt2 BA.size)).trans c3; have f3 := (b0.frozen (p := ⟨w.heap.size, 3, none⟩) (Nat.lt_of_lt_of_le hlt2 BA.size)).trans f3; have c4 := (b0.cell (p := ⟨w.heap.size, 4, none⟩) (Nat.lt_of_lt_of_le hlt2 BA.size)).trans c4; have f4 := (b0.frozen (p := ⟨w.heap.size, 4, none⟩) (Nat.lt_of_lt_of_le hlt2 BA.size)).trans f4; have SP := Lib.hid s0; (try (have SL := Lib.hid (SL.out.below b0))); (try (have SD := Lib.hid (SD.out.below b0))); have BA := BA2; clear BA2 b0 s0 g0)))
        all_goals
          go_wp2_with fail
          go_meet
          refine ⟨aL, cL, aD, cD, aP, cP, ((((B2.out.below BA hlt2).set 1 _).set 3 _).set 4 _), ?_, ?_, ?_, ?_, ?_⟩
          · exact SL.out.keep (S := fun b => b = w.heap.size) (((((Keep.refl (fun b => b = w.heap.size) _).setCell (fun _ => rfl) _).setCell (fun _ => rfl) _).setCell (fun _ => rfl) _)) (fun b hb _ e => by omega) (fun _ h _ => h)
          · exact SD.out.keep (S := fun b => b = w.heap.size) (((((Keep.refl (fun b => b = w.heap.size) _).setCell (fun _ => rfl) _).setCell (fun _ => rfl) _).setCell (fun _ => rfl) _)) (fun b hb _ e => by omega) (fun _ h _ => h)
          · exact SP.out.keep (S := fun b => b = w.heap.size) (((((Keep.refl (fun b => b = w.heap.size) _).setCell (fun _ => rfl) _).setCell (fun _ => rfl) _).setCell (fun _ => rfl) _)) (fun b hb _ e => by omega) (fun _ h _ => h)
          · first
              | exact NE.out
              | exact fun bD bP h1 h2 e => NE.out bP bD h2 h1 e.symm
          · exact (((Keep.ofBelow (S := fun b => b = w.heap.size) BA).setCell (fun _ => rfl) _).setCell (fun _ => rfl) _).setCell (fun _ => rfl) _
      case rest =>
        obtain ⟨aL, cL, aD, cD, aP, cP, hb3, sL, sD, sP, hne, k3⟩ := hcut
        obtain ⟨bL, rfl, hbL, rL⟩ := sL.at_ (by omega)
        obtain ⟨bD, rfl, hbD, rD⟩ := sD.at_ (by omega)
        obtain ⟨bP, rfl, hbP, rP⟩ := sP.at_ (by omega)
        have hDP := hne bD bP rfl rfl
        have hcL := sL.cap
        have hcD := sD.cap
        have hcP := sP.cap
        have hLD : bL ≠ bD := rL.ne rD (by decide)
        have hLP : bL ≠ bP := rL.ne rP (by decide)
        have k0c : Keep (fun b => w.heap.size ≤ b) w wc := (Keep.ofBelow (S := fun b => w.heap.size ≤ b) BW2.out).trans k3 (fun i hi e => by omega)
        obtain ⟨bN, hbN, hTN, rN0⟩ := H.out.hN.at_ (by omega)
        have hltN := rN0.lt
        have rN := rN0.keep (k0c.block bN hltN (by omega))
        have hNL : bN ≠ bL := by omega
        have c0 : wc.cell? ⟨w.heap.size, 0, none⟩ = some (.slice r.aN m.L r.cN) := hb3.cell 0
        have hk0 : (0 : Int) ≤ (k : Int) := by omega
        rw [hbN] at c0
        have c1 : wc.cell? ⟨w.heap.size, 1, none⟩ = some (.slice (some ⟨bL, 0, none⟩) m.L cL) := hb3.cell 1
        have n0 : wc.cell? ⟨bN, k * 8, none⟩ = some (.int .u64 (m.now (k * 8))) := rN.cell (k := k * 8) (by omega)
        have v0 : wc.cell? ⟨bL, k * 8, none⟩ = some (.int .u64 (m.last (k * 8))) := rL.cell (k := k * 8) (by omega)
        have g0 : wc.frozen? ⟨bL, k * 8, none⟩ = false := rL.frozen _
        have n1 : wc.cell? ⟨bN, k * 8 + 1, none⟩ = some (.int .u64 (m.now (k * 8 + 1))) := rN.cell (k := k * 8 + 1) (by omega)
        have v1 : wc.cell? ⟨bL, k * 8 + 1, none⟩ = some (.int .u64 (m.last (k * 8 + 1))) := rL.cell (k := k * 8 + 1) (by omega)
        have g1 : wc.frozen? ⟨bL, k * 8 + 1, none⟩ = false := rL.frozen _
        have n2 : wc.cell? ⟨bN, k * 8 + 2, none⟩ = some (.int .u64 (m.now (k * 8 + 2))) := rN.cell (k := k * 8 + 2) (by omega)
        have v2 : wc.cell? ⟨bL, k * 8 + 2, none⟩ = some (.int .u64 (m.last (k * 8 + 2))) := rL.cell (k := k * 8 + 2) (by omega)
        have g2 : wc.frozen? ⟨bL, k * 8 + 2, none⟩ = false := rL.frozen _
        have n3 : wc.cell? ⟨bN, k * 8 + 3, none⟩ = some (.int .u64 (m.now (k * 8 + 3))) := rN.cell (k := k * 8 + 3) (by omega)
        have v3 : wc.cell? ⟨bL, k * 8 + 3, none⟩ = some (.int .u64 (m.last (k * 8 + 3))) := rL.cell (k := k * 8 + 3) (by omega)
        have g3 : wc.frozen? ⟨bL, k * 8 + 3, none⟩ = false := rL.frozen _
        have n4 : wc.cell? ⟨bN, k * 8 + 4, none⟩ = some (.int .u64 (m.now (k * 8 + 4))) := rN.cell (k := k * 8 + 4) (by omega)
        have v4 : wc.cell? ⟨bL, k * 8 + 4, none⟩ = some (.int .u64 (m.last (k * 8 + 4))) := rL.cell (k := k * 8 + 4) (by omega)
        have g4 : wc.frozen? ⟨bL, k * 8 + 4, none⟩ = false := rL.frozen _
        have n5 : wc.cell? ⟨bN, k * 8 + 5, none⟩ = some (.int .u64 (m.now (k * 8 + 5))) := rN.cell (k := k * 8 + 5) (by omega)
        have v5 : wc.cell? ⟨bL, k * 8 + 5, none⟩ = some (.int .u64 (m.last (k * 8 + 5))) := rL.cell (k := k * 8 + 5) (by omega)
        have g5 : wc.frozen? ⟨bL, k * 8 + 5, none⟩ = false := rL.frozen _
        have n6 : wc.cell? ⟨bN, k * 8 + 6, none⟩ = some (.int .u64 (m.now (k * 8 + 6))) := rN.cell (k := k * 8 + 6) (by omega)
        have v6 : wc.cell? ⟨bL, k * 8 + 6, none⟩ = some (.int .u64 (m.last (k * 8 + 6))) := rL.cell (k := k * 8 + 6) (by omega)
        have g6 : wc.frozen? ⟨bL, k * 8 + 6, none⟩ = false := rL.frozen _
        have n7 : wc.cell? ⟨bN, k * 8 + 7, none⟩ = some (.int .u64 (m.now (k * 8 + 7))) := rN.cell (k := k * 8 + 7) (by omega)
        have v7 : wc.cell? ⟨bL, k * 8 + 7, none⟩ = some (.int .u64 (m.last (k * 8 + 7))) := rL.cell (k := k * 8 + 7) (by omega)
        have g7 : wc.frozen? ⟨bL, k * 8 + 7, none⟩ = false := rL.frozen _
        have hBN : bN ≠ w.heap.size := by omega
        have hBL : w.heap.size ≠ bL := by omega
        have h8 := rL.set8 (k * 8) (fun j => .int .u64 (m.now (k * 8 + j)))
        simp only [Nat.add_zero] at h8
        have H8 := Lib.hid h8
        clear h8
        go_wp2_with fail
        go_region
        have h9 := (H8.out.1.congr (g := fun j => .int .u64 ((Nv.setLast m k (lineOf m.now k)).last j)) fun j _ => by
            simp only [Nv.setLast, lineOf]
            by_cases e : j / 8 = k
            · rw [if_pos (by omega), if_pos e, show k * 8 + (j - k * 8) = j from by omega, show 8 * k + j % 8 = j from by omega]
            · rw [if_neg (by omega), if_neg e]).drew
        have k9 := H8.out.2.drew
        generalize ((((((((wc.setCell ⟨bL, k * 8, none⟩ (.int .u64 (m.now (k * 8)))).setCell ⟨bL, k * 8 + 1, none⟩ (.int .u64 (m.now (k * 8 + 1)))).setCell ⟨bL, k * 8 + 2, none⟩ (.int .u64 (m.now (k * 8 + 2)))).setCell ⟨bL, k * 8 + 3, none⟩ (.int .u64 (m.now (k * 8 + 3)))).setCell ⟨bL, k * 8 + 4, none⟩ (.int .u64 (m.now (k * 8 + 4)))).setCell ⟨bL, k * 8 + 5, none⟩ (.int .u64 (m.now (k * 8 + 5)))).setCell ⟨bL, k * 8 + 6, none⟩ (.int .u64 (m.now (k * 8 + 6)))).setCell ⟨bL, k * 8 + 7, none⟩ (.int .u64 (m.now (k * 8 + 7)))).drew = w8 at h9 k9 ⊢
        clear H8 n0 n1 n2 n3 n4 n5 n6 n7 v0 v1 v2 v3 v4 v5 v6 v7 g0 g1 g2 g3 g4 g5 g6 g7 c0 c1
        have hb8 := hb3.keep k9 hBL
        have c3 : w8.cell? ⟨w.heap.size, 3, none⟩ = some (.slice (some ⟨bD, 0, none⟩) m.L cD) := hb8.cell 3
        have c4 : w8.cell? ⟨w.heap.size, 4, none⟩ = some (.slice (some ⟨bP, 0, none⟩) m.L cP) := hb8.cell 4
        have rD8 := rD.keep (k9.block bD rD.lt hLD.symm)
        have rP8 := rP.keep (k9.block bP rP.lt hLP.symm)
        have cD1 := rD8.cell (k := k) (by omega)
        have fD1 := rD8.frozen k
        have cP1 := rP8.cell (k := k) (by omega)
        have fP1 := rP8.frozen k
        have hBD : w.heap.size ≠ bD := by omega
        have hBP : w.heap.size ≠ bP := by omega
        have hPD := hDP.symm
        have hBD' := hBD.symm
        have hBP' := hBP.symm
        go_wp2_with fail
        go_region
        have hb9 := ((hb8.far (p := ⟨bD, k, none⟩) hBD (.bool false)).far (p := ⟨bP, k, none⟩) hBP (.bool false))
        have hR9 := (((R2.out.keep k3 (by omega)).keep k9 (by omega)).far (p := ⟨bD, k, none⟩) (by show w.heap.size + 1 ≠ bD; omega) (.bool false)).far (p := ⟨bP, k, none⟩) (by show w.heap.size + 1 ≠ bP; omega) (.bool false)
        have HB9 : Hid (Box (((w8.setCell ⟨bD, k, none⟩ (.bool false)).setCell ⟨bP, k, none⟩ (.bool false)).drew) w.heap.size _) := Lib.hid hb9
        have HR9 : Hid (Box (((w8.setCell ⟨bD, k, none⟩ (.bool false)).setCell ⟨bP, k, none⟩ (.bool false)).drew) (w.heap.size + 1) _) := Lib.hid hR9
        clear hb9 hR9 hb8 hb3
        go_wp2_with (first
          | (refine wpList_load_box rfl _ rfl (b := w.heap.size) rfl HB9.out rfl ?_)
          | (refine wpList_store_box rfl _ _ rfl (b := w.heap.size + 1) (cells := #[.slice r.aN m.L r.cN, .slice (some ⟨bL, 0, none⟩) m.L cL, .slice r.aW m.L r.cW, .slice (some ⟨bD, 0, none⟩) m.L cD, .slice (some ⟨bP, 0, none⟩) m.L cP, .int .i64 m.steps, .int .i64 m.fuse, .bool false]) rfl rfl HR9.out rfl rfl (by simp [Value.oneCell']) ?_; intro w6 hb6 k6; have B6 := Lib.hid hb6; have K6 := Lib.hid k6; clear hb6 k6))
        have k36 : Keep (fun b => w.heap.size ≤ b) wc w6 := ((((k9.mono (S' := fun b => w.heap.size ≤ b) (fun i _ e => by omega))).setCell (p := ⟨bD, k, none⟩) (fun _ => by show w.heap.size ≤ bD; omega) (.bool false)).setCell (p := ⟨bP, k, none⟩) (fun _ => by show w.heap.size ≤ bP; omega) (.bool false)).drew.trans K6.out (fun i _ e => by omega)
        have bw : Below w.heap.size w w6 := (k0c.trans' k36).below (Nat.le_refl _) (fun _ h => h)
        have rL6 := ((h9.far (p := ⟨bD, k, none⟩) hLD (.bool false)).far (p := ⟨bP, k, none⟩) hLP (.bool false)).drew.keep (K6.out.block bL (by simp [World.setCell]; exact h9.lt) (by omega))
        have rD6 := ((rD8.set k (.bool false)).far (p := ⟨bP, k, none⟩) hDP (.bool false)).drew.keep (K6.out.block bD (by simp [World.setCell]; exact rD8.lt) (by omega))
        have rP6 := ((rP8.far (p := ⟨bD, k, none⟩) hPD (.bool false)).set k (.bool false)).drew.keep (K6.out.block bP (by simp [World.setCell]; exact rP8.lt) (by omega))
        refine bodyPost_ret (results_box2 rfl _ _ (w.heap.size + 1) _ _ rfl B6.out rfl rfl) rfl ⟨{ r with aL := some ⟨bL, 0, none⟩, cL := cL, aD := some ⟨bD, 0, none⟩, cD := cD, aP := some ⟨bP, 0, none⟩, cP := cP }, ?_, ⟨(H.out.grew bw).hN, ⟨hcL, fun _ => ⟨bL, rfl, .inr ⟨by omega, rL6.lt⟩, rL6⟩⟩, (H.out.grew bw).hW, ⟨hcD, fun _ => ⟨bD, rfl, .inr ⟨by omega, rD6.lt⟩, rD6.congr fun j _ => ?_⟩⟩, ⟨hcP, fun _ => ⟨bP, rfl, .inr ⟨by omega, rP6.lt⟩, rP6.congr fun j _ => ?_⟩⟩, ?_, H.out.lb⟩, bw⟩
        · have e : (evictM m k).dead = false := HS.out
          unfold rv; rw [e]; rfl
        · simp only [evictM, Nv.setWait, Nv.setDirty, Nv.setLast]; split <;> rfl
        · simp only [evictM, Nv.setWait, Nv.setDirty, Nv.setLast]; split <;> rfl
        · intro i c hc j hj
          simp only [evictM, Nv.setWait, Nv.setDirty, Nv.setLast] at hc
          by_cases e : i = k
          · rw [if_pos e] at hc; cases hc
          · rw [if_neg e] at hc; exact H.out.wt i c hc j hj
    · have hr : Nv.evict m k = (m, 3) := by unfold Nv.evict; rw [if_neg (by rw [hw]; decide), if_pos hs]
      rw [hr]
      have H := Lib.hid h
      unfold rv
      rw [hs]
      clear hr hw h
      go_enter Try.func41, Try.ntmps41
      go_wp2_with fail
      exact bodyPost_ret (v := .tuple #[rv r m, .int .i64 3]) (by simp [results, Try.results41, go_sem, rv, hs]) rfl ⟨r, rfl, H.out.grew (below_two _ _ _), below_two _ _ _⟩
  · have hw' : hasL m a = false := by simpa using hw
    have hr : Nv.evict m a = (m, 2) := by unfold Nv.evict; rw [if_pos hw']
    rw [hr]
    have ho : ¬ (0 ≤ a ∧ a < (m.L : Int)) := of_decide_eq_false hw'
    have H := Lib.hid h
    clear hr hw hw' h
    by_cases h1 : a < 0
    · clear ho
      unfold rv
      go_enter Try.func41, Try.ntmps41
      go_wp2_with fail
      exact bodyPost_ret (v := .tuple #[rv r m, .int .i64 2]) (by simp [results, Try.results41, go_sem, rv]) rfl ⟨r, rfl, H.out.grew (below_two _ _ _), below_two _ _ _⟩
    · have h2 : (m.L : Int) ≤ a := by omega
      clear ho
      unfold rv
      go_enter Try.func41, Try.ntmps41
      go_wp2_with fail
      exact bodyPost_ret (v := .tuple #[rv r m, .int .i64 2]) (by simp [results, Try.results41, go_sem, rv]) rfl ⟨r, rfl, H.out.grew (below_two _ _ _), below_two _ _ _⟩
end

end Go.Proofs.Ytnkndhmkamaccaa
