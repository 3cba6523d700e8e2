/- The reference: a fence. -/
import Derived.Test.YtnkndhmkamaccaaRefEvict
import Derived.Test.YtnkndhmkamaccaaEqLine
namespace Go.Proofs.Ytnkndhmkamaccaa
open Go.ChangeShapes Go.WideShapes Go.ChangeAt Go.RowKit Nv
set_option linter.unusedVariables false

theorem fresh_ne0 {w : World} {T : Nat → Prop} {t size n cap : Nat} {a a' : Option Addr} {f : Nat → Value} (h : SRow w T t size a n cap f) (g : 0 < n → ∃ b, a' = some ⟨b, 0, none⟩ ∧ w.heap.size ≤ b) : 0 < n → ∀ b b', a = some ⟨b, 0, none⟩ → a' = some ⟨b', 0, none⟩ → b ≠ b' :=
  fun hn => fresh_ne h hn g

/-- Lines below k are fenced. -/
structure FenceAt (w2 : World) (B0 : Nat) (cs : Array Value) (m : Mdl) (aL aD aP : Option Addr) (cL cD cP : Nat) (k : Nat) (wc wr : World) : Prop where
  hb : Box wr B0 cs
  hL : SRow wr (fun b => w2.heap.size ≤ b) 76 8 aL m.L cL fun j => .int .u64 ((fenced m fun i => decide (i < k)).last j)
  hD : SRow wr (fun b => w2.heap.size ≤ b) 4 1 aD m.L cD fun j => .bool ((fenced m fun i => decide (i < k)).dirty j)
  hP : SRow wr (fun b => w2.heap.size ≤ b) 4 1 aP m.L cP fun j => .bool (if j < k then false else (m.wait j).isSome)
  hk : Keep (fun b => w2.heap.size ≤ b) wc wr

theorem fenced_last_none {m : Mdl} {k : Nat} (h : m.wait k = none) (j : Nat) : (fenced m fun i => decide (i < k)).last j = (fenced m fun i => decide (i < k + 1)).last j := by
  simp only [fenced, decide_eq_true_eq]
  by_cases e : j / 8 = k
  · rw [if_neg (by omega), if_pos (by omega), e, h]
  · by_cases e2 : j / 8 < k
    · rw [if_pos e2, if_pos (by omega)]
    · rw [if_neg e2, if_neg (by omega)]
theorem fenced_dirty_none {m : Mdl} {k : Nat} (h : m.wait k = none) (j : Nat) : (fenced m fun i => decide (i < k)).dirty j = (fenced m fun i => decide (i < k + 1)).dirty j := by
  simp only [fenced, decide_eq_true_eq]
  by_cases e : j = k
  · rw [if_neg (by omega), if_pos (by omega), e, h]
  · by_cases e2 : j < k
    · rw [if_pos e2, if_pos (by omega)]
    · rw [if_neg e2, if_neg (by omega)]
theorem fenced_last_some {m : Mdl} {k : Nat} {c : Nat → Int} (h : m.wait k = some c) (j : Nat) : (fenced m fun i => decide (i < k + 1)).last j = if j / 8 = k then c (j % 8) else (fenced m fun i => decide (i < k)).last j := by
  simp only [fenced, decide_eq_true_eq]
  by_cases e : j / 8 = k
  · rw [if_pos (by omega), if_pos e, e, h]
  · rw [if_neg e]
    by_cases e2 : j / 8 < k
    · rw [if_pos e2, if_pos (by omega)]
    · rw [if_neg e2, if_neg (by omega)]
theorem fenced_dirty_some {m : Mdl} {k : Nat} {c : Nat → Int} (h : m.wait k = some c) (j : Nat) : (fenced m fun i => decide (i < k + 1)).dirty j = if j = k then !eq8 c (lineOf m.now k) else (fenced m fun i => decide (i < k)).dirty j := by
  simp only [fenced, decide_eq_true_eq]
  by_cases e : j = k
  · rw [if_pos (by omega), if_pos e, e, h]
  · rw [if_neg e]
    by_cases e2 : j < k
    · rw [if_pos e2, if_pos (by omega)]
    · rw [if_neg e2, if_neg (by omega)]
theorem FenceAt.skip {w2 wc wr : World} {B0 : Nat} {cs : Array Value} {m : Mdl} {aL aD aP : Option Addr} {cL cD cP k : Nat} (h : FenceAt w2 B0 cs m aL aD aP cL cD cP k wc wr) (hw : m.wait k = none) : FenceAt w2 B0 cs m aL aD aP cL cD cP (k + 1) wc wr :=
  ⟨h.hb, h.hL.congr fun j _ => by rw [fenced_last_none hw], h.hD.congr fun j _ => by rw [fenced_dirty_none hw], h.hP.congr fun j _ => by
    by_cases e : j = k
    · subst e; rw [if_neg (by omega), if_pos (by omega), hw]; rfl
    · by_cases e2 : j < k
      · rw [if_pos e2, if_pos (by omega)]
      · rw [if_neg e2, if_neg (by omega)], h.hk⟩

theorem eq8_unroll (f g : Nat → Int) : eq8 f g = (f 0 == g 0 && f 1 == g 1 && f 2 == g 2 && f 3 == g 3 && f 4 == g 4 && f 5 == g 5 && f 6 == g 6 && f 7 == g 7) := by
  unfold eq8
  simp [List.range_succ, Bool.and_assoc]
theorem eq8_symm (f g : Nat → Int) : eq8 f g = eq8 g f := by
  rw [eq8_unroll, eq8_unroll]
  simp only [BEq.comm]

section
variable {w : World} {T : Nat → Prop} {r : RV} {m : Mdl}

set_option maxHeartbeats 8000000 in
set_option maxRecDepth 100000 in
theorem refFence_any (h : Ref w T r m) (h0 : 0 ≤ m.steps) (hb : m.steps < 4611686018427387904) (hf : -1 ≤ m.fuse ∧ m.fuse ≤ 9223372036854775807) :
    Calls Try.prog 39 #[rv r m] w (RefTo T (Nv.fence m).1 (.int .i64 (Nv.fence m).2) w) := by
  have hL := h.lb
  cases hs : stops m
  · have hr : Nv.fence m = (fenceM m, 0) := by unfold Nv.fence; rw [if_neg (by rw [hs]; decide)]
    rw [hr]
    have hst := fun w => refStep_go (w := w) r hs h0 hb hf
    have HST := Lib.hid hst
    have H := Lib.hid h
    clear hr hs hst h
    unfold rv
    go_enter Try.func39, Try.ntmps39
    go_upto_region 4 with (first
      | (go_at_call 51; refine (HST.out _).mono ?_; rintro e w1 ⟨rfl, hb1⟩; have B1 := Lib.hid (boxes_of (cs := rc r m) hb1); clear hb1)
      | (refine wpList_store_box rfl _ _ rfl (b := w.heap.size) (cells := rc r (stepM m)) rfl rfl B1.out.1 rfl rfl (rc_one _ _) ?_; intro w2 hb2 k2; have B2 := Lib.hid hb2; have K2 := Lib.hid k2; clear hb2 k2))
    have hz := B1.out.2.2.2
    have hb2 := B2.out
    have c1 : w2.cell? ⟨w.heap.size, 1, none⟩ = some (.slice r.aL m.L r.cL) := hb2.cell 1
    have c3 : w2.cell? ⟨w.heap.size, 3, none⟩ = some (.slice r.aD m.L r.cD) := hb2.cell 3
    have c4 : w2.cell? ⟨w.heap.size, 4, none⟩ = some (.slice r.aP m.L r.cP) := hb2.cell 4
    have f1 := hb2.frozen 1
    have f3 := hb2.frozen 3
    have f4 := hb2.frozen 4
    have hsz2 : w.heap.size + 2 ≤ w2.heap.size := by have := K2.out.size; omega
    have h2 : Ref w2 T r m := (Ref.keep (S := fun b => b = w.heap.size ∨ w.heap.size + 1 = b) (T := T) (T' := T) H.out ((Keep.ofBelow B1.out.2.2.1).trans K2.out (fun i hi e => by omega)) (fun b hb hlt e => by omega) (fun _ h _ => h))
    have HL := Lib.hid h2.hL
    have HD := Lib.hid h2.hD
    have HP := Lib.hid h2.hP
    go_cut [] (fun wx => ∃ aL cL aD cD aP cP, Box wx w.heap.size #[.slice r.aN m.L r.cN, .slice aL m.L cL, .slice r.aW m.L r.cW, .slice aD m.L cD, .slice aP m.L cP, .int .i64 (stepM m).steps, .int .i64 (stepM m).fuse, .bool m.dead] ∧ SRow wx (fun b => w2.heap.size ≤ b) 76 8 aL m.L cL (fun k => .int .u64 (m.last k)) ∧ SRow wx (fun b => w2.heap.size ≤ b) 4 1 aD m.L cD (fun k => .bool (m.dirty k)) ∧ SRow wx (fun b => w2.heap.size ≤ b) 4 1 aP m.L cP (fun k => .bool (m.wait k).isSome) ∧ (0 < m.L → ∀ bD bP, aD = some ⟨bD, 0, none⟩ → aP = some ⟨bP, 0, none⟩ → bD ≠ bP) ∧ Keep (fun b => b = w.heap.size) w2 wx)
    case first =>
      have BA : Below w2.heap.size w2 w2.drew := (Below.refl _ w2).drew
      clear hb2 h2
      have hlt2 : w.heap.size < w2.heap.size := by omega
      go_region_law ((first
        | (go_simp; go_at_call 52; refine (refLines_new BA HL.out (fun _ => rfl) hL).mono ?_; rintro e wl ⟨aL, cL, rfl, s0, BA2, b0, g0⟩; have c1 := (b0.cell (p := ⟨w.heap.size, 1, none⟩) (Nat.lt_of_lt_of_le hlt2 BA.size)).trans c1; have f1 := (b0.frozen (p := ⟨w.heap.size, 1, none⟩) (Nat.lt_of_lt_of_le hlt2 BA.size)).trans f1; have c3 := (b0.cell (p := ⟨w.heap.size, 3, none⟩) (Nat.lt_of_lt_of_le hlt2 BA.size)).trans c3; have f3 := (b0.frozen (p := ⟨w.heap.size, 3, none⟩) (Nat.lt_of_lt_of_le hlt2 BA.size)).trans f3; have c4 := (b0.cell (p := ⟨w.heap.size, 4, none⟩) (Nat.lt_of_lt_of_le hlt2 BA.size)).trans c4; have f4 := (b0.frozen (p := ⟨w.heap.size, 4, none⟩) (Nat.lt_of_lt_of_le hlt2 BA.size)).trans f4; have SL := Lib.hid s0; (try (have SD := Lib.hid (SD.out.below b0))); (try (have SP := Lib.hid (SP.out.below b0))); have BA := BA2; clear BA2 b0 s0 g0)
        | (go_simp; go_at_call 53; refine (refFlags_new BA HD.out (fun _ => rfl) hL).mono ?_; rintro e wl ⟨aD, cD, rfl, s0, BA2, b0, g0⟩; (try (have NE := Lib.hid (fresh_ne0 SP.out g0))); have c1 := (b0.cell (p := ⟨w.heap.size, 1, none⟩) (Nat.lt_of_lt_of_le hlt2 BA.size)).trans c1; have f1 := (b0.frozen (p := ⟨w.heap.size, 1, none⟩) (Nat.lt_of_lt_of_le hlt2 BA.size)).trans f1; have c3 := (b0.cell (p := ⟨w.heap.size, 3, none⟩) (Nat.lt_of_lt_of_le hlt2 BA.size)).trans c3; have f3 := (b0.frozen (p := ⟨w.heap.size, 3, none⟩) (Nat.lt_of_lt_of_le hlt2 BA.size)).trans f3; have c4 := (b0.cell (p := ⟨w.heap.size, 4, none⟩) (Nat.lt_of_lt_of_le hlt2 BA.size)).trans c4; have f4 := (b0.frozen (p := ⟨w.heap.size, 4, none⟩) (Nat.lt_of_lt_of_le hlt2 BA.size)).trans f4; have SD := Lib.hid s0; (try (have SL := Lib.hid (SL.out.below b0))); (try (have SP := Lib.hid (SP.out.below b0))); have BA := BA2; clear BA2 b0 s0 g0)
        | (go_simp; go_at_call 53; refine (refFlags_new BA HP.out (fun _ => rfl) hL).mono ?_; rintro e wl ⟨aP, cP, rfl, s0, BA2, b0, g0⟩; (try (have NE := Lib.hid (fresh_ne0 SD.out g0))); have c1 := (b0.cell (p := ⟨w.heap.size, 1, none⟩) (Nat.lt_of_lt_of_le hlt2 BA.size)).trans c1; have f1 := (b0.frozen (p := ⟨w.heap.size, 1, none⟩) (Nat.lt_of_lt_of_le hlt2 BA.size)).trans f1; have c3 := (b0.cell (p := ⟨w.heap.size, 3, none⟩) (Nat.lt_of_lt_of_le hlt2 BA.size)).trans c3; have f3 := (b0.frozen (p := ⟨w.heap.size, 3, none⟩) (Nat.lt_of_lt_of_le hlt2 BA.size)).trans f3; have c4 := (b0.cell (p := ⟨w.heap.size, 4, none⟩) (Nat.lt_of_lt_of_le hlt2 BA.size)).trans c4; have f4 := (b0.frozen (p := ⟨w.heap.size, 4, none⟩) (Nat.lt_of_lt_of_le hlt2 BA.size)).trans f4; have SP := Lib.hid s0; (try (have SL := Lib.hid (SL.out.below b0))); (try (have SD := Lib.hid (SD.out.below b0))); have BA := BA2; clear BA2 b0 s0 g0)))
      all_goals
        go_wp2_with fail
        go_meet
        refine ⟨aL, cL, aD, cD, aP, cP, ((((B2.out.below BA hlt2).set 1 _).set 3 _).set 4 _), ?_, ?_, ?_, ?_, ?_⟩
        · exact SL.out.keep (S := fun b => b = w.heap.size) (((((Keep.refl (fun b => b = w.heap.size) _).setCell (fun _ => rfl) _).setCell (fun _ => rfl) _).setCell (fun _ => rfl) _)) (fun b hb _ e => by omega) (fun _ h _ => h)
        · exact SD.out.keep (S := fun b => b = w.heap.size) (((((Keep.refl (fun b => b = w.heap.size) _).setCell (fun _ => rfl) _).setCell (fun _ => rfl) _).setCell (fun _ => rfl) _)) (fun b hb _ e => by omega) (fun _ h _ => h)
        · exact SP.out.keep (S := fun b => b = w.heap.size) (((((Keep.refl (fun b => b = w.heap.size) _).setCell (fun _ => rfl) _).setCell (fun _ => rfl) _).setCell (fun _ => rfl) _)) (fun b hb _ e => by omega) (fun _ h _ => h)
        · first
            | exact NE.out
            | exact fun h0 bD bP h1 h2 e => NE.out h0 bP bD h2 h1 e.symm
        · exact (((Keep.ofBelow (S := fun b => b = w.heap.size) BA).setCell (fun _ => rfl) _).setCell (fun _ => rfl) _).setCell (fun _ => rfl) _
    case rest =>
      obtain ⟨aL, cL, aD, cD, aP, cP, hb3, sL, sD, sP, hne, k3⟩ := hcut
      have hcL := sL.cap
      have hcD := sD.cap
      have hcP := sP.cap
      have hF0 : FenceAt w2 w.heap.size #[.slice r.aN m.L r.cN, .slice aL m.L cL, .slice r.aW m.L r.cW, .slice aD m.L cD, .slice aP m.L cP, .int .i64 (stepM m).steps, .int .i64 (stepM m).fuse, .bool m.dead] m aL aD aP cL cD cP 0 wc wc := ⟨hb3, sL.congr fun j _ => by rw [fenced_none (by simp)], sD.congr fun j _ => by rw [fenced_none (by simp)], sP.congr fun j _ => by rw [if_neg (by omega)], Keep.refl _ _⟩
      have HF0 := Lib.hid hF0
      have HNE := Lib.hid hne
      have HK3 := Lib.hid k3
      clear hF0 hne k3 hb3 sL sD sP hb2 h2 c1 c3 c4 f1 f3 f4
      go_wp2_with fail
      go_loopw [5] (fun i wr => ∃ k : Nat, k ≤ m.L ∧ i = .int .i64 k ∧ Hid (FenceAt w2 w.heap.size #[.slice r.aN m.L r.cN, .slice aL m.L cL, .slice r.aW m.L r.cW, .slice aD m.L cD, .slice aP m.L cP, .int .i64 (stepM m).steps, .int .i64 (stepM m).fuse, .bool m.dead] m aL aD aP cL cD cP k wc wr)) (fun i _ => m.L - (intOf i).toNat)
      case atStart => exact ⟨0, by omega, rfl, HF0⟩
      case round =>
        obtain ⟨k, hk, rfl, HF⟩ := hrel
        have hb3 := HF.out.hb
        have c0 : wr.cell? ⟨w.heap.size, 0, none⟩ = some (.slice r.aN m.L r.cN) := hb3.cell 0
        have c1 : wr.cell? ⟨w.heap.size, 1, none⟩ = some (.slice aL m.L cL) := hb3.cell 1
        have c2 : wr.cell? ⟨w.heap.size, 2, none⟩ = some (.slice r.aW m.L r.cW) := hb3.cell 2
        have c3 : wr.cell? ⟨w.heap.size, 3, none⟩ = some (.slice aD m.L cD) := hb3.cell 3
        have c4 : wr.cell? ⟨w.heap.size, 4, none⟩ = some (.slice aP m.L cP) := hb3.cell 4
        have k0c : Keep (fun b => w.heap.size ≤ b) w wr := (((Keep.ofBelow (S := fun b => w.heap.size ≤ b) B1.out.2.2.1).trans K2.out (fun i hi e => by omega)).trans HK3.out (fun i hi e => by omega)).trans HF.out.hk (fun i hi e => by omega)
        have K0 := Lib.hid k0c
        clear k0c
        by_cases hlt : k < m.L
        · have hlt' : (k : Int) < (m.L : Int) := by omega
          have hk0 : (0 : Int) ≤ (k : Int) := by omega
          obtain ⟨bP, hbP, hgP, rP⟩ := HF.out.hP.at_ (by omega)
          have cP1 := rP.cell (k := k) (by omega)
          simp only [Nat.lt_irrefl, if_false] at cP1
          rw [hbP] at c4
          cases hw : m.wait k with
          | none =>
            rw [hw] at cP1
            have cP2 : wr.cell? ⟨bP, k, none⟩ = some (.bool false) := cP1
            have HN := Lib.hid (HF.out.skip hw)
            clear cP1 hw hb3 rP HF hbP
            go_wp2_with fail
            go_roundw
            case rel => exact ⟨k + 1, by omega, by go_num, HN⟩
            case measure => simp [intOf]; omega
          | some c =>
            rw [hw] at cP1
            have cP2 : wr.cell? ⟨bP, k, none⟩ = some (.bool true) := cP1
            clear cP1
            obtain ⟨bL, hbL, hgL, rL⟩ := HF.out.hL.at_ (by omega)
            obtain ⟨bD, hbD, hgD, rD⟩ := HF.out.hD.at_ (by omega)
            obtain ⟨bN, hbN, _, rN0⟩ := H.out.hN.at_ (by omega)
            obtain ⟨bW, hbW, _, rW0⟩ := H.out.hW.at_ (by omega)
            have hltN := rN0.lt
            have hltW := rW0.lt
            have rN := rN0.keep (K0.out.block bN hltN (by omega))
            have rW := rW0.keep (K0.out.block bW hltW (by omega))
            have hDP := HNE.out (by omega) bD bP hbD hbP
            have hLD : bL ≠ bD := rL.ne rD (by decide)
            have hLP : bL ≠ bP := rL.ne rP (by decide)
            have hNL : bN ≠ bL := by omega
            have hWL : bW ≠ bL := by omega
            have hcc : ∀ i, i < 8 → c i = r.wf (k * 8 + i) := fun i hi => by rw [← H.out.wt k c hw i hi, Nat.mul_comm]
            rw [hbL] at c1
            rw [hbD] at c3
            rw [hbN] at c0
            rw [hbW] at c2
            have HBL := Lib.hid hbL
            have HBD := Lib.hid hbD
            have HBP := Lib.hid hbP
            have HBW := Lib.hid hbW
            have HBN := Lib.hid hbN
            have hls := fenced_last_some (m := m) hw
            have hds := fenced_dirty_some (m := m) hw
            have hq : (m.now (k * 8) == r.wf (k * 8) && m.now (k * 8 + 1) == r.wf (k * 8 + 1) && m.now (k * 8 + 2) == r.wf (k * 8 + 2) && m.now (k * 8 + 3) == r.wf (k * 8 + 3) && m.now (k * 8 + 4) == r.wf (k * 8 + 4) && m.now (k * 8 + 5) == r.wf (k * 8 + 5) && m.now (k * 8 + 6) == r.wf (k * 8 + 6) && m.now (k * 8 + 7) == r.wf (k * 8 + 7)) = eq8 c (lineOf m.now k) := by
              rw [eq8_symm, eq8_unroll, hcc 0 (by decide), hcc 1 (by decide), hcc 2 (by decide), hcc 3 (by decide), hcc 4 (by decide), hcc 5 (by decide), hcc 6 (by decide), hcc 7 (by decide)]
              simp only [lineOf, Nat.mul_comm 8 k, Nat.add_zero]
            have heq := fun w => eqLine (m.now (k * 8)) (m.now (k * 8 + 1)) (m.now (k * 8 + 2)) (m.now (k * 8 + 3)) (m.now (k * 8 + 4)) (m.now (k * 8 + 5)) (m.now (k * 8 + 6)) (m.now (k * 8 + 7)) (r.wf (k * 8)) (r.wf (k * 8 + 1)) (r.wf (k * 8 + 2)) (r.wf (k * 8 + 3)) (r.wf (k * 8 + 4)) (r.wf (k * 8 + 5)) (r.wf (k * 8 + 6)) (r.wf (k * 8 + 7)) w
            rw [hq] at heq
            have HLS := Lib.hid hls
            have HDS := Lib.hid hds
            have HWT := Lib.hid hcc
            have HRN := Lib.hid rN
            have HRW := Lib.hid rW
            have HRD := Lib.hid rD
            have HRP := Lib.hid rP
            have HB3 := Lib.hid hb3
            have n0 : (wr).cell? ⟨bW, k * 8, none⟩ = some (.int .u64 (r.wf (k * 8))) := rW.cell (k := k * 8) (by omega)
            have n1 : (wr).cell? ⟨bW, k * 8 + 1, none⟩ = some (.int .u64 (r.wf (k * 8 + 1))) := rW.cell (k := k * 8 + 1) (by omega)
            have n2 : (wr).cell? ⟨bW, k * 8 + 2, none⟩ = some (.int .u64 (r.wf (k * 8 + 2))) := rW.cell (k := k * 8 + 2) (by omega)
            have n3 : (wr).cell? ⟨bW, k * 8 + 3, none⟩ = some (.int .u64 (r.wf (k * 8 + 3))) := rW.cell (k := k * 8 + 3) (by omega)
            have n4 : (wr).cell? ⟨bW, k * 8 + 4, none⟩ = some (.int .u64 (r.wf (k * 8 + 4))) := rW.cell (k := k * 8 + 4) (by omega)
            have n5 : (wr).cell? ⟨bW, k * 8 + 5, none⟩ = some (.int .u64 (r.wf (k * 8 + 5))) := rW.cell (k := k * 8 + 5) (by omega)
            have n6 : (wr).cell? ⟨bW, k * 8 + 6, none⟩ = some (.int .u64 (r.wf (k * 8 + 6))) := rW.cell (k := k * 8 + 6) (by omega)
            have n7 : (wr).cell? ⟨bW, k * 8 + 7, none⟩ = some (.int .u64 (r.wf (k * 8 + 7))) := rW.cell (k := k * 8 + 7) (by omega)
            have v0 : (wr).cell? ⟨bL, k * 8, none⟩ = some (.int .u64 ((fenced m fun i => decide (i < k)).last (k * 8))) := rL.cell (k := k * 8) (by omega)
            have v1 : (wr).cell? ⟨bL, k * 8 + 1, none⟩ = some (.int .u64 ((fenced m fun i => decide (i < k)).last (k * 8 + 1))) := rL.cell (k := k * 8 + 1) (by omega)
            have v2 : (wr).cell? ⟨bL, k * 8 + 2, none⟩ = some (.int .u64 ((fenced m fun i => decide (i < k)).last (k * 8 + 2))) := rL.cell (k := k * 8 + 2) (by omega)
            have v3 : (wr).cell? ⟨bL, k * 8 + 3, none⟩ = some (.int .u64 ((fenced m fun i => decide (i < k)).last (k * 8 + 3))) := rL.cell (k := k * 8 + 3) (by omega)
            have v4 : (wr).cell? ⟨bL, k * 8 + 4, none⟩ = some (.int .u64 ((fenced m fun i => decide (i < k)).last (k * 8 + 4))) := rL.cell (k := k * 8 + 4) (by omega)
            have v5 : (wr).cell? ⟨bL, k * 8 + 5, none⟩ = some (.int .u64 ((fenced m fun i => decide (i < k)).last (k * 8 + 5))) := rL.cell (k := k * 8 + 5) (by omega)
            have v6 : (wr).cell? ⟨bL, k * 8 + 6, none⟩ = some (.int .u64 ((fenced m fun i => decide (i < k)).last (k * 8 + 6))) := rL.cell (k := k * 8 + 6) (by omega)
            have v7 : (wr).cell? ⟨bL, k * 8 + 7, none⟩ = some (.int .u64 ((fenced m fun i => decide (i < k)).last (k * 8 + 7))) := rL.cell (k := k * 8 + 7) (by omega)
            have g0 : wr.frozen? ⟨bL, k * 8, none⟩ = false := rL.frozen _
            have g1 : wr.frozen? ⟨bL, k * 8 + 1, none⟩ = false := rL.frozen _
            have g2 : wr.frozen? ⟨bL, k * 8 + 2, none⟩ = false := rL.frozen _
            have g3 : wr.frozen? ⟨bL, k * 8 + 3, none⟩ = false := rL.frozen _
            have g4 : wr.frozen? ⟨bL, k * 8 + 4, none⟩ = false := rL.frozen _
            have g5 : wr.frozen? ⟨bL, k * 8 + 5, none⟩ = false := rL.frozen _
            have g6 : wr.frozen? ⟨bL, k * 8 + 6, none⟩ = false := rL.frozen _
            have g7 : wr.frozen? ⟨bL, k * 8 + 7, none⟩ = false := rL.frozen _
            have hBW : bW ≠ w.heap.size := by omega
            have hBL : w.heap.size ≠ bL := by omega
            have h8 := rL.set8 (k * 8) (fun j => .int .u64 (r.wf (k * 8 + j)))
            simp only [Nat.add_zero] at h8
            have H8 := Lib.hid h8
            clear h8 hq hls hds hcc hbL hbD hbP hbW hbN rN0 rW0 rN rW rD rP rL hb3 hw
            go_wp2_with fail
            go_region
            have h9 := (H8.out.1.congr (g := fun j => .int .u64 ((fenced m fun i => decide (i < k + 1)).last j)) fun j _ => by
              simp only [HLS.out j]
              by_cases e : j / 8 = k
              · rw [if_pos (by omega), if_pos e, HWT.out _ (by omega), show k * 8 + (j - k * 8) = j from by omega, show k * 8 + j % 8 = j from by omega]
              · rw [if_neg (by omega), if_neg e]).drew
            have k9 := H8.out.2.drew
            generalize ((((((((wr.setCell ⟨bL, k * 8, none⟩ (.int .u64 (r.wf (k * 8)))).setCell ⟨bL, k * 8 + 1, none⟩ (.int .u64 (r.wf (k * 8 + 1)))).setCell ⟨bL, k * 8 + 2, none⟩ (.int .u64 (r.wf (k * 8 + 2)))).setCell ⟨bL, k * 8 + 3, none⟩ (.int .u64 (r.wf (k * 8 + 3)))).setCell ⟨bL, k * 8 + 4, none⟩ (.int .u64 (r.wf (k * 8 + 4)))).setCell ⟨bL, k * 8 + 5, none⟩ (.int .u64 (r.wf (k * 8 + 5)))).setCell ⟨bL, k * 8 + 6, none⟩ (.int .u64 (r.wf (k * 8 + 6)))).setCell ⟨bL, k * 8 + 7, none⟩ (.int .u64 (r.wf (k * 8 + 7)))).drew = w8 at h9 k9 ⊢
            clear H8 n0 n1 n2 n3 n4 n5 n6 n7 v0 v1 v2 v3 v4 v5 v6 v7 g0 g1 g2 g3 g4 g5 g6 g7 c0 c1 c2 c3 c4 cP2
            have hb8 := HB3.out.keep k9 hBL
            have c4 : w8.cell? ⟨w.heap.size, 4, none⟩ = some (.slice aP m.L cP) := hb8.cell 4
            rw [HBP.out] at c4
            have rP8 := HRP.out.keep (k9.block bP HRP.out.lt hLP.symm)
            have rD8 := HRD.out.keep (k9.block bD HRD.out.lt hLD.symm)
            have rN8 := HRN.out.keep (k9.block bN HRN.out.lt hNL)
            have rW8 := HRW.out.keep (k9.block bW HRW.out.lt hWL)
            have cP1 := rP8.cell (k := k) (by omega)
            have fP1 := rP8.frozen k
            have hb9 := hb8.far (p := ⟨bP, k, none⟩) (by show w.heap.size ≠ bP; omega) (.bool false)
            have rD9 := rD8.far (p := ⟨bP, k, none⟩) hDP (.bool false)
            have rN9 := rN8.far (p := ⟨bP, k, none⟩) (by show bN ≠ bP; omega) (.bool false)
            have rW9 := rW8.far (p := ⟨bP, k, none⟩) (by show bW ≠ bP; omega) (.bool false)
            have c0 : (w8.setCell ⟨bP, k, none⟩ (.bool false)).cell? ⟨w.heap.size, 0, none⟩ = some (.slice r.aN m.L r.cN) := hb9.cell 0
            have c2 : (w8.setCell ⟨bP, k, none⟩ (.bool false)).cell? ⟨w.heap.size, 2, none⟩ = some (.slice r.aW m.L r.cW) := hb9.cell 2
            have c3 : (w8.setCell ⟨bP, k, none⟩ (.bool false)).cell? ⟨w.heap.size, 3, none⟩ = some (.slice aD m.L cD) := hb9.cell 3
            rw [HBN.out] at c0
            rw [HBW.out] at c2
            rw [HBD.out] at c3
            have cD1 := rD9.cell (k := k) (by omega)
            have fD1 := rD9.frozen k
            have n0 : (w8.setCell ⟨bP, k, none⟩ (.bool false)).cell? ⟨bN, k * 8, none⟩ = some (.int .u64 (m.now (k * 8))) := rN9.cell (k := k * 8) (by omega)
            have n1 : (w8.setCell ⟨bP, k, none⟩ (.bool false)).cell? ⟨bN, k * 8 + 1, none⟩ = some (.int .u64 (m.now (k * 8 + 1))) := rN9.cell (k := k * 8 + 1) (by omega)
            have n2 : (w8.setCell ⟨bP, k, none⟩ (.bool false)).cell? ⟨bN, k * 8 + 2, none⟩ = some (.int .u64 (m.now (k * 8 + 2))) := rN9.cell (k := k * 8 + 2) (by omega)
            have n3 : (w8.setCell ⟨bP, k, none⟩ (.bool false)).cell? ⟨bN, k * 8 + 3, none⟩ = some (.int .u64 (m.now (k * 8 + 3))) := rN9.cell (k := k * 8 + 3) (by omega)
            have n4 : (w8.setCell ⟨bP, k, none⟩ (.bool false)).cell? ⟨bN, k * 8 + 4, none⟩ = some (.int .u64 (m.now (k * 8 + 4))) := rN9.cell (k := k * 8 + 4) (by omega)
            have n5 : (w8.setCell ⟨bP, k, none⟩ (.bool false)).cell? ⟨bN, k * 8 + 5, none⟩ = some (.int .u64 (m.now (k * 8 + 5))) := rN9.cell (k := k * 8 + 5) (by omega)
            have n6 : (w8.setCell ⟨bP, k, none⟩ (.bool false)).cell? ⟨bN, k * 8 + 6, none⟩ = some (.int .u64 (m.now (k * 8 + 6))) := rN9.cell (k := k * 8 + 6) (by omega)
            have n7 : (w8.setCell ⟨bP, k, none⟩ (.bool false)).cell? ⟨bN, k * 8 + 7, none⟩ = some (.int .u64 (m.now (k * 8 + 7))) := rN9.cell (k := k * 8 + 7) (by omega)
            have v0 : (w8.setCell ⟨bP, k, none⟩ (.bool false)).cell? ⟨bW, k * 8, none⟩ = some (.int .u64 (r.wf (k * 8))) := rW9.cell (k := k * 8) (by omega)
            have v1 : (w8.setCell ⟨bP, k, none⟩ (.bool false)).cell? ⟨bW, k * 8 + 1, none⟩ = some (.int .u64 (r.wf (k * 8 + 1))) := rW9.cell (k := k * 8 + 1) (by omega)
            have v2 : (w8.setCell ⟨bP, k, none⟩ (.bool false)).cell? ⟨bW, k * 8 + 2, none⟩ = some (.int .u64 (r.wf (k * 8 + 2))) := rW9.cell (k := k * 8 + 2) (by omega)
            have v3 : (w8.setCell ⟨bP, k, none⟩ (.bool false)).cell? ⟨bW, k * 8 + 3, none⟩ = some (.int .u64 (r.wf (k * 8 + 3))) := rW9.cell (k := k * 8 + 3) (by omega)
            have v4 : (w8.setCell ⟨bP, k, none⟩ (.bool false)).cell? ⟨bW, k * 8 + 4, none⟩ = some (.int .u64 (r.wf (k * 8 + 4))) := rW9.cell (k := k * 8 + 4) (by omega)
            have v5 : (w8.setCell ⟨bP, k, none⟩ (.bool false)).cell? ⟨bW, k * 8 + 5, none⟩ = some (.int .u64 (r.wf (k * 8 + 5))) := rW9.cell (k := k * 8 + 5) (by omega)
            have v6 : (w8.setCell ⟨bP, k, none⟩ (.bool false)).cell? ⟨bW, k * 8 + 6, none⟩ = some (.int .u64 (r.wf (k * 8 + 6))) := rW9.cell (k := k * 8 + 6) (by omega)
            have v7 : (w8.setCell ⟨bP, k, none⟩ (.bool false)).cell? ⟨bW, k * 8 + 7, none⟩ = some (.int .u64 (r.wf (k * 8 + 7))) := rW9.cell (k := k * 8 + 7) (by omega)
            have hFN : FenceAt w2 w.heap.size #[.slice r.aN m.L r.cN, .slice aL m.L cL, .slice r.aW m.L r.cW, .slice aD m.L cD, .slice aP m.L cP, .int .i64 (stepM m).steps, .int .i64 (stepM m).fuse, .bool m.dead] m aL aD aP cL cD cP (k + 1) wc (((w8.setCell ⟨bP, k, none⟩ (.bool false)).setCell ⟨bD, k, none⟩ (.bool !eq8 c (lineOf m.now k))).drew) := by
              refine ⟨hb9.far (p := ⟨bD, k, none⟩) (by show w.heap.size ≠ bD; omega) _, ⟨hcL, fun _ => ⟨bL, HBL.out, hgL, ((h9.far (p := ⟨bP, k, none⟩) hLP _).far (p := ⟨bD, k, none⟩) hLD _).drew⟩⟩, ⟨hcD, fun _ => ⟨bD, HBD.out, hgD, ((rD9.set k (.bool !eq8 c (lineOf m.now k))).drew).congr fun j _ => ?_⟩⟩, ⟨hcP, fun _ => ⟨bP, HBP.out, hgP, (((rP8.set k (.bool false)).far (p := ⟨bD, k, none⟩) hDP.symm _).drew).congr fun j _ => ?_⟩⟩, ?_⟩
              · simp only [HDS.out j]; split <;> rfl
              · by_cases e : j = k
                · subst e; simp
                · by_cases e2 : j < k
                  · rw [if_neg e, if_pos e2, if_pos (by omega)]
                  · rw [if_neg e, if_neg e2, if_neg (by omega)]
              · exact (((HF.out.hk.trans k9 (fun i _ e => by omega)).setCell (p := ⟨bP, k, none⟩) (fun _ => hgP) _).setCell (p := ⟨bD, k, none⟩) (fun _ => hgD) _).drew
            have HFN := Lib.hid hFN
            have hBD : w.heap.size ≠ bD := by omega
            clear hFN hb8 hb9 rP8 rD8 rN8 rW8 rD9 rN9 rW9 h9 k9
            go_wp2_with fail
            go_region
            go_wp2_with fail
            go_roundw
            case rel => exact ⟨k + 1, by omega, by go_num, HFN⟩
            case measure => simp [intOf]; omega
        · have hlt' : ¬ (k : Int) < (m.L : Int) := by omega
          obtain ⟨LL, hLL⟩ : ∃ LL, m.L = LL := ⟨_, rfl⟩
          have hkL : k = m.L := by omega
          have HKL := Lib.hid hkL
          have hR := (B1.out.2.1.keep K2.out (by omega)).keep HK3.out (by omega)
          have hR2 := hR.keep HF.out.hk (by omega)
          have HR2 := Lib.hid hR2
          have HB3 := Lib.hid hb3
          clear hR hR2 hb3 hLL hkL c1 c2 c3 c4
          go_wp2_with (first
            | (refine wpList_load_box rfl _ rfl (b := w.heap.size) rfl HB3.out rfl ?_)
            | (refine wpList_store_box rfl _ _ rfl (b := w.heap.size + 1) (cells := #[.slice r.aN m.L r.cN, .slice aL m.L cL, .slice r.aW m.L r.cW, .slice aD m.L cD, .slice aP m.L cP, .int .i64 (stepM m).steps, .int .i64 (stepM m).fuse, .bool m.dead]) rfl rfl HR2.out rfl rfl (by simp [Value.oneCell']) ?_; intro w6 hb6 k6; have B6 := Lib.hid hb6; have K6 := Lib.hid k6; clear hb6 k6))
          have k6 : Keep (fun b => w.heap.size ≤ b) w w6 := K0.out.trans K6.out (fun i _ e => by omega)
          have bw : Below w.heap.size w w6 := k6.below (Nat.le_refl _) (fun _ h => h)
          have hsR := hsz2
          have hk' := HKL.out
          refine bodyPost_ret (results_box2 rfl _ _ (w.heap.size + 1) _ _ rfl B6.out rfl rfl) rfl ⟨{ r with aL := aL, cL := cL, aD := aD, cD := cD, aP := aP, cP := cP }, rfl, ⟨(H.out.grew bw).hN, ?_, (H.out.grew bw).hW, ?_, ?_, ?_, H.out.lb⟩, bw⟩
          · exact (HF.out.hL.keep K6.out (fun b hb _ e => by omega) (fun b hb hlt => .inr ⟨by omega, Nat.lt_of_lt_of_le hlt K6.out.size⟩)).congr fun j hj => by
              show Value.int .u64 ((fenced m fun i => decide (i < k)).last j) = .int .u64 ((fenced (stepM m) fun _ => true).last j)
              simp only [fenced, stepM, decide_eq_true_eq]
              rw [if_pos (by omega), if_pos trivial]
          · exact (HF.out.hD.keep K6.out (fun b hb _ e => by omega) (fun b hb hlt => .inr ⟨by omega, Nat.lt_of_lt_of_le hlt K6.out.size⟩)).congr fun j hj => by
              show Value.bool ((fenced m fun i => decide (i < k)).dirty j) = .bool ((fenced (stepM m) fun _ => true).dirty j)
              simp only [fenced, stepM, decide_eq_true_eq]
              rw [if_pos (by omega), if_pos trivial]
          · exact (HF.out.hP.keep K6.out (fun b hb _ e => by omega) (fun b hb hlt => .inr ⟨by omega, Nat.lt_of_lt_of_le hlt K6.out.size⟩)).congr fun j hj => by
              rw [if_pos (by omega)]; rfl
          · intro i c hc; simp [fenceM, noWait] at hc
  · have hr : Nv.fence m = (deadM m, 3) := by unfold Nv.fence; rw [if_pos hs]
    rw [hr]
    have hst := fun w => refStep_no (w := w) r hs
    have HST := Lib.hid hst
    have H := Lib.hid h
    clear hr hs hst h
    unfold rv
    go_enter Try.func39, Try.ntmps39
    go_wp2_with (first
      | (go_at_call 51; refine (HST.out _).mono ?_; rintro e w1 ⟨rfl, hb1⟩; have B1 := Lib.hid (boxes_of (cs := rc r m) hb1); clear hb1)
      | (refine wpList_store_box rfl _ _ rfl (b := w.heap.size) (cells := rc r (deadM m)) rfl rfl B1.out.1 rfl rfl (rc_one _ _) ?_; intro w2 hb2 k2; have B2 := Lib.hid hb2; have K2 := Lib.hid k2; clear hb2 k2)
      | (refine wpList_load_box rfl _ rfl (b := w.heap.size) (cells := rc r (deadM m)) rfl B2.out rfl ?_)
      | (refine wpList_store_box rfl _ _ rfl (b := w.heap.size + 1) (cells := rc r (deadM m)) rfl rfl (B1.out.2.1.keep K2.out (by omega)) rfl rfl (rc_one _ _) ?_; intro w3 hb3 k3; have B3 := Lib.hid hb3; have K3 := Lib.hid k3; clear hb3 k3))
    have hz := B1.out.2.2.2
    have k13 : Keep (fun b => w.heap.size ≤ b) w w3 := (((Keep.ofBelow (S := fun b => w.heap.size ≤ b) B1.out.2.2.1).trans K2.out (fun i hi e => by omega)).trans K3.out (fun i hi e => by omega))
    have bw : Below w.heap.size w w3 := k13.below (Nat.le_refl _) (fun _ h => h)
    exact bodyPost_ret (results_box2 rfl _ _ (w.heap.size + 1) (rc r (deadM m)) _ rfl B3.out rfl rfl) rfl ⟨r, rfl, H.out.dead.grew bw, bw⟩
end

end Go.Proofs.Ytnkndhmkamaccaa
