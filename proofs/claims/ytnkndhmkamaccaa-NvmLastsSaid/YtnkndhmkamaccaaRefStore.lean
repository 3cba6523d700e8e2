/- The reference: a word is stored. -/
import Derived.Test.YtnkndhmkamaccaaRefBox
import Derived.Deep.RegionLaw
namespace Go.Proofs.Ytnkndhmkamaccaa
open Go.ChangeShapes Go.WideShapes Go.ChangeAt Go.RowKit Nv
set_option linter.unusedVariables false

section
variable {w : World} {T : Nat → Prop} {r : RV} {m : Mdl}

set_option maxHeartbeats 2000000 in
set_option maxRecDepth 100000 in
theorem refStore_any (h : Ref w T r m) (a x : Int) (h0 : 0 ≤ m.steps) (hb : m.steps < 4611686018427387904) (hf : -1 ≤ m.fuse ∧ m.fuse ≤ 9223372036854775807) :
    Calls Try.prog 37 #[rv r m, .int .i64 a, .int .u64 x] w (RefTo T (Nv.store m a x).1 (.int .i64 (Nv.store m a x).2) w) := by
  have hL := h.lb
  by_cases hw : hasW m a = true
  · obtain ⟨k, rfl, hk⟩ := hasW_cast hw
    have hk1 : ¬ (k : Int) < 0 := by omega
    have hk2 : (k : Int) < 8 * (m.L : Int) := by omega
    have hk3 : decide (8 * (m.L : Int) ≤ (k : Int)) = false := by simp; omega
    cases hs : stops m
    · have hr : Nv.store m k x = (Nv.setDirty (Nv.setNow (stepM m) k x) (k / 8) true, 0) := by unfold Nv.store; rw [if_neg (by rw [hw]; decide), if_neg (by rw [hs]; decide)]; rfl
      rw [hr]
      have hst := fun w => refStep_go (w := w) r hs h0 hb hf
      have HST := Lib.hid hst
      have H := Lib.hid h
      clear hr hs hw hst h
      unfold rv
      go_enter Try.func37, Try.ntmps37
      go_upto_region 6 with (first
        | (go_at_call 51; refine (HST.out _).mono ?_; rintro e w1 ⟨rfl, hb1⟩; have B1 := Lib.hid (boxes_of (cs := rc r m) hb1); clear hb1)
        | (refine wpList_store_box rfl _ _ rfl (b := w.heap.size) (cells := rc r (stepM m)) rfl rfl B1.out.1 rfl rfl (rc_one _ _) ?_; intro w2 hb2 k2; have B2 := Lib.hid hb2; have K2 := Lib.hid k2; clear hb2 k2))
      have hz := B1.out.2.2.2
      have hb2 := B2.out
      have c0 : w2.cell? ⟨w.heap.size, 0, none⟩ = some (.slice r.aN m.L r.cN) := hb2.cell 0
      have c3 : w2.cell? ⟨w.heap.size, 3, none⟩ = some (.slice r.aD m.L r.cD) := hb2.cell 3
      have f0 := hb2.frozen 0
      have f3 := hb2.frozen 3
      have hsz2 : w.heap.size + 2 ≤ w2.heap.size := by have := K2.out.size; omega
      have h2 : Ref w2 T r m := (Ref.keep (S := fun b => b = w.heap.size ∨ w.heap.size + 1 = b) (T := T) (T' := T) H.out ((Keep.ofBelow B1.out.2.2.1).trans K2.out (fun i hi e => by omega)) (fun b hb hlt e => by omega) (fun _ h _ => h))
      have HN := Lib.hid h2.hN
      have HD := Lib.hid h2.hD
      go_cut [] (fun wx => ∃ aN cN aD cD, Box wx w.heap.size (rc { r with aN := aN, cN := cN, aD := aD, cD := cD } (stepM m)) ∧ SRow wx (fun b => w2.heap.size ≤ b) 76 8 aN m.L cN (fun k => .int .u64 (m.now k)) ∧ SRow wx (fun b => w2.heap.size ≤ b) 4 1 aD m.L cD (fun k => .bool (m.dirty k)) ∧ Keep (fun b => b = w.heap.size) w2 wx)
      case first =>
        have BA : Below w2.heap.size w2 w2.drew := (Below.refl _ w2).drew
        clear hb2 h2
        have hlt2 : w.heap.size < w2.heap.size := by omega
        go_region_law ((first
          | (go_simp; go_at_call 52; refine (refLines_new BA HN.out (fun _ => rfl) hL).mono ?_; rintro e wl ⟨aN, cN, rfl, s0, BA2, b0, -⟩; have c0 := (b0.cell (p := ⟨w.heap.size, 0, none⟩) (Nat.lt_of_lt_of_le hlt2 BA.size)).trans c0; have c3 := (b0.cell (p := ⟨w.heap.size, 3, none⟩) (Nat.lt_of_lt_of_le hlt2 BA.size)).trans c3; have f0 := (b0.frozen (p := ⟨w.heap.size, 0, none⟩) (Nat.lt_of_lt_of_le hlt2 BA.size)).trans f0; have f3 := (b0.frozen (p := ⟨w.heap.size, 3, none⟩) (Nat.lt_of_lt_of_le hlt2 BA.size)).trans f3; have SN := Lib.hid s0; (try (have SD := Lib.hid (SD.out.below b0))); have BA := BA2; clear BA2 b0 s0)
          | (go_simp; go_at_call 53; refine (refFlags_new BA HD.out (fun _ => rfl) hL).mono ?_; rintro e wl ⟨aD, cD, rfl, s0, BA2, b0, -⟩; have c0 := (b0.cell (p := ⟨w.heap.size, 0, none⟩) (Nat.lt_of_lt_of_le hlt2 BA.size)).trans c0; have c3 := (b0.cell (p := ⟨w.heap.size, 3, none⟩) (Nat.lt_of_lt_of_le hlt2 BA.size)).trans c3; have f0 := (b0.frozen (p := ⟨w.heap.size, 0, none⟩) (Nat.lt_of_lt_of_le hlt2 BA.size)).trans f0; have f3 := (b0.frozen (p := ⟨w.heap.size, 3, none⟩) (Nat.lt_of_lt_of_le hlt2 BA.size)).trans f3; have SD := Lib.hid s0; (try (have SN := Lib.hid (SN.out.below b0))); have BA := BA2; clear BA2 b0 s0)))
        all_goals
          go_wp2_with fail
          go_meet
          refine ⟨aN, cN, aD, cD, (((B2.out.below BA hlt2).set 0 _).set 3 _), ?_, ?_, ?_⟩
          · exact SN.out.keep (S := fun b => b = w.heap.size) (((Keep.refl (fun b => b = w.heap.size) _).setCell (fun _ => rfl) _).setCell (fun _ => rfl) _) (fun b hb _ e => by omega) (fun _ h _ => h)
          · exact SD.out.keep (S := fun b => b = w.heap.size) (((Keep.refl (fun b => b = w.heap.size) _).setCell (fun _ => rfl) _).setCell (fun _ => rfl) _) (fun b hb _ e => by omega) (fun _ h _ => h)
          · exact ((Keep.ofBelow (S := fun b => b = w.heap.size) BA).setCell (fun _ => rfl) _).setCell (fun _ => rfl) _
      case rest =>
        obtain ⟨aN, cN, aD, cD, hb3, sN, sD, k3⟩ := hcut
        obtain ⟨bN, rfl, hbN, rN⟩ := sN.at_ (by omega)
        obtain ⟨bD, rfl, hbD, rD⟩ := sD.at_ (by omega)
        have hcN := sN.cap
        have hcD := sD.cap
        have hND : bN ≠ bD := rN.ne rD (by decide)
        have c0 : wc.cell? ⟨w.heap.size, 0, none⟩ = some (.slice (some ⟨bN, 0, none⟩) m.L cN) := hb3.cell 0
        have ek : k / 8 * 8 + k % 8 = k := by omega
        have cN1 := rN.cell (k := k) (by omega)
        have fN1 := rN.frozen k
        have hb4 := hb3.far (p := ⟨bN, k, none⟩) (by show w.heap.size ≠ bN; omega) (.int .u64 x)
        have c3 : (wc.setCell ⟨bN, k, none⟩ (.int .u64 x)).cell? ⟨w.heap.size, 3, none⟩ = some (.slice (some ⟨bD, 0, none⟩) m.L cD) := hb4.cell 3
        have rD4 := rD.far (p := ⟨bN, k, none⟩) hND.symm (.int .u64 x)
        have cD1 := rD4.cell (k := k / 8) (by omega)
        have fD1 := rD4.frozen (k / 8)
        have hq : (k : Int) / 8 < (m.L : Int) := by omega
        have hq0 : (0 : Int) ≤ (k : Int) / 8 := by omega
        have hm0 : (0 : Int) ≤ (k : Int) % 8 := by omega
        have hm1 : (k : Int) % 8 < 8 := by omega
        have hb5 := hb4.far (p := ⟨bD, k / 8, none⟩) (by show w.heap.size ≠ bD; omega) (.bool true)
        have hR := ((B1.out.2.1.keep K2.out (by omega)).keep k3 (by omega)).far (p := ⟨bN, k, none⟩) (by show w.heap.size + 1 ≠ bN; omega) (.int .u64 x)
        have hR5 := hR.far (p := ⟨bD, k / 8, none⟩) (by show w.heap.size + 1 ≠ bD; omega) (.bool true)
        have HB5 := Lib.hid hb5
        have HR5 := Lib.hid hR5
        clear hR hR5 hb5 hb4 hb3
        go_wp2_with (first
          | (refine wpList_load_box rfl _ rfl (b := w.heap.size) rfl HB5.out rfl ?_)
          | (refine wpList_store_box rfl _ _ rfl (b := w.heap.size + 1) rfl rfl HR5.out rfl rfl (rc_one _ _) ?_; intro w6 hb6 k6; have B6 := Lib.hid hb6; have K6 := Lib.hid k6; clear hb6 k6))
        have k26 : Keep (fun b => w.heap.size ≤ b) w2 w6 := (((k3.mono (S' := fun b => w.heap.size ≤ b) (fun i _ e => by omega)).setCell (p := ⟨bN, k, none⟩) (fun _ => by show w.heap.size ≤ bN; omega) _).setCell (p := ⟨bD, k / 8, none⟩) (fun _ => by show w.heap.size ≤ bD; omega) _).trans K6.out (fun i _ e => by omega)
        have k16 : Keep (fun b => w.heap.size ≤ b) w w6 := (((Keep.ofBelow (S := fun b => w.heap.size ≤ b) B1.out.2.2.1).trans K2.out (fun i hi e => by omega)).trans' k26)
        have bw : Below w.heap.size w w6 := k16.below (Nat.le_refl _) (fun _ h => h)
        have rN6 := (((rN.set k (.int .u64 x)).far (p := ⟨bD, k / 8, none⟩) hND (.bool true)).keep (K6.out.block bN (by simp [World.setCell]; exact rN.lt) (by omega)))
        have rD6 := ((rD4.set (k / 8) (.bool true)).keep (K6.out.block bD (by simp [World.setCell]; exact rD.lt) (by omega)))
        refine bodyPost_ret (results_box2 rfl _ _ (w.heap.size + 1) _ _ rfl B6.out rfl rfl) rfl ⟨{ r with aN := some ⟨bN, 0, none⟩, cN := cN, aD := some ⟨bD, 0, none⟩, cD := cD }, rfl, ⟨⟨hcN, fun _ => ⟨bN, rfl, .inr ⟨by omega, rN6.lt⟩, rN6.congr fun j _ => ?_⟩⟩, (H.out.grew bw).hL, (H.out.grew bw).hW, ⟨hcD, fun _ => ⟨bD, rfl, .inr ⟨by omega, rD6.lt⟩, rD6.congr fun j _ => ?_⟩⟩, (H.out.grew bw).hP, H.out.wt, H.out.lb⟩, bw⟩
        · simp only [Nv.setDirty, Nv.setNow]; split <;> rfl
        · simp only [Nv.setDirty, Nv.setNow]; split <;> rfl
    · have hr : Nv.store m k x = (deadM m, 3) := by unfold Nv.store; rw [if_neg (by rw [hw]; decide), if_pos hs]
      rw [hr]
      have hst := fun w => refStep_no (w := w) r hs
      have HST := Lib.hid hst
      have H := Lib.hid h
      clear hr hs hw hst h
      unfold rv
      go_enter Try.func37, Try.ntmps37
      go_wp2_with (first
        | (go_at_call 51; refine (HST.out _).mono ?_; rintro e w1 ⟨rfl, hb1⟩; have B1 := Lib.hid (boxes_of (cs := rc r m) hb1); clear hb1)
        | (refine wpList_store_box rfl _ _ rfl (b := w.heap.size) (cells := rc r (deadM m)) rfl rfl B1.out.1 rfl rfl (rc_one _ _) ?_; intro w2 hb2 k2; have B2 := Lib.hid hb2; have K2 := Lib.hid k2; clear hb2 k2)
        | (refine wpList_load_box rfl _ rfl (b := w.heap.size) (cells := rc r (deadM m)) rfl B2.out rfl ?_)
        | (refine wpList_store_box rfl _ _ rfl (b := w.heap.size + 1) (cells := rc r (deadM m)) rfl rfl (B1.out.2.1.keep K2.out (by omega)) rfl rfl (rc_one _ _) ?_; intro w3 hb3 k3; have B3 := Lib.hid hb3; have K3 := Lib.hid k3; clear hb3 k3))
      have hz := B1.out.2.2.2
      have k13 : Keep (fun b => w.heap.size ≤ b) w w3 := (((Keep.ofBelow (S := fun b => w.heap.size ≤ b) B1.out.2.2.1).trans K2.out (fun i hi e => by omega)).trans K3.out (fun i hi e => by omega))
      have bw : Below w.heap.size w w3 := k13.below (Nat.le_refl _) (fun _ h => h)
      exact bodyPost_ret (results_box2 rfl _ _ (w.heap.size + 1) (rc r (deadM m)) _ rfl B3.out rfl rfl) rfl ⟨r, rfl, H.out.dead.grew bw, bw⟩
  · have hw' : hasW m a = false := by simpa using hw
    have hr : Nv.store m a x = (m, 2) := by unfold Nv.store; rw [if_pos hw']
    rw [hr]
    have ho : ¬ (0 ≤ a ∧ a < 8 * (m.L : Int)) := of_decide_eq_false hw'
    have H := Lib.hid h
    clear hr hw hw' h
    by_cases h1 : a < 0
    · clear ho
      unfold rv
      go_enter Try.func37, Try.ntmps37
      go_wp2_with fail
      exact bodyPost_ret (v := .tuple #[rv r m, .int .i64 2]) (by simp [results, Try.results37, go_sem, rv]) rfl ⟨r, rfl, H.out.grew (below_two _ _ _), below_two _ _ _⟩
    · have h2 : 8 * (m.L : Int) ≤ a := by omega
      clear ho
      unfold rv
      go_enter Try.func37, Try.ntmps37
      go_wp2_with fail
      exact bodyPost_ret (v := .tuple #[rv r m, .int .i64 2]) (by simp [results, Try.results37, go_sem, rv]) rfl ⟨r, rfl, H.out.grew (below_two _ _ _), below_two _ _ _⟩
end

end Go.Proofs.Ytnkndhmkamaccaa
