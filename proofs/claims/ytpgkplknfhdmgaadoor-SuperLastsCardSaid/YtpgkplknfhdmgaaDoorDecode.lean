/- super: Decode. -/
import Derived.Test.YtpgkplknfhdmgaaDoorEncode
import Derived.Test.YtpgkplknfhdmgaaDoorFills
import Derived.Deep.RegionHeld3
import Derived.Deep.RegionWith
namespace Go.Proofs.YtpgkplknfhdmgaaDoor
open Go.ChangeShapes Go.WideShapes Go.ChangeAt Go.RowKit Cr Bt Su
set_option linter.unusedVariables false

theorem info2 : (Tryd.prog.info? 27).map (·.size) = some 2 := by kernel_rfl
theorem one2 (a b : Int) : (#[Value.int .i64 a, Value.int .u64 b]).all (·.oneCell') = true := by simp [Value.oneCell']

/-- What a line tells. -/
def Tells (x : Nat → Nat) (w : World) (e : Ending) (w' : World) : Prop := e = .returned (.tuple #[.agg #[.int .i64 (blocksS x : Nat), .int .u64 (idS x : Nat)], .int .i64 (codeS x : Nat)]) ∧ Below w.heap.size w w'

/-- A right line is its own Encode; and the other way. -/
theorem same_line (x : Nat → Nat) (h0 : x 0 = 8390047168116913201) (h7 : x 7 = wordsC [x 0, x 1, x 2, x 3, x 4, x 5, x 6]) :
    ((((8390047168116913201 : Int) == (x 0 : Int)) && ((1 : Int) == (x 1 : Int)) && ((x 2 : Int) == (x 2 : Int)) && ((x 3 : Int) == (x 3 : Int)) && ((0 : Int) == (x 4 : Int)) && ((0 : Int) == (x 5 : Int)) && ((0 : Int) == (x 6 : Int)) && (((sumS (x 2) (x 3) : Nat) : Int) == (x 7 : Int))) = decide (x 1 = 1 ∧ x 4 = 0 ∧ x 5 = 0 ∧ x 6 = 0)) := by
  rw [Bool.eq_iff_iff]
  simp only [Bool.and_eq_true, beq_iff_eq, decide_eq_true_eq]
  constructor
  · rintro ⟨⟨⟨⟨⟨⟨⟨-, a⟩, -⟩, -⟩, b⟩, c⟩, d⟩, -⟩
    exact ⟨by omega, by omega, by omega, by omega⟩
  · rintro ⟨a, b, c, d⟩
    refine ⟨⟨⟨⟨⟨⟨⟨by omega, by omega⟩, trivial⟩, trivial⟩, by omega⟩, by omega⟩, by omega⟩, ?_⟩
    rw [h7, h0, a, b, c, d]; rfl

set_option maxHeartbeats 2000000 in
theorem decode_any (x : Nat → Nat) (w : World) (hx : ∀ i, x i < 2 ^ 64) (hT : HasRests w) :
    Calls Tryd.prog 7 #[(Value.agg #[Value.int .u64 ((x 0 : Nat) : Int), Value.int .u64 ((x 1 : Nat) : Int), Value.int .u64 ((x 2 : Nat) : Int), Value.int .u64 ((x 3 : Nat) : Int), Value.int .u64 ((x 4 : Nat) : Int), Value.int .u64 ((x 5 : Nat) : Int), Value.int .u64 ((x 6 : Nat) : Int), Value.int .u64 ((x 7 : Nat) : Int)])] w (Tells x w) := by
  by_cases h0 : x 0 = 8390047168116913201
  rotate_left
  · have hc : codeS x = 24 := by unfold codeS; rw [if_pos h0]
    have HP : Hid (blocksS x = 0 ∧ idS x = 0 ∧ codeS x = 24) := Lib.hid ⟨by unfold blocksS; rw [hc]; rfl, by unfold idS; rw [hc]; rfl, hc⟩
    have h0' : ((x 0 : Int) == 8390047168116913201) = false := by simp; omega
    have h0'' : ((x 0 : Int) != 8390047168116913201) = true := by simp; omega
    clear hx hT hc h0
    go_enter Tryd.func7, Tryd.ntmps7
    go_wp2_with fail
    exact bodyPost_ret (results_boxT2 rfl _ _ (w.heap.size + 1) #[.int .i64 0, .int .u64 0] (.int .i64 24) rfl (by have := BoxT.new 27 (w.alloc (.cells #[.int .u64 (x 0), .int .u64 (x 1), .int .u64 (x 2), .int .u64 (x 3), .int .u64 (x 4), .int .u64 (x 5), .int .u64 (x 6), .int .u64 (x 7)] 23)) #[.int .i64 0, .int .u64 0]; rwa [show (w.alloc (.cells #[.int .u64 (x 0), .int .u64 (x 1), .int .u64 (x 2), .int .u64 (x 3), .int .u64 (x 4), .int .u64 (x 5), .int .u64 (x 6), .int .u64 (x 7)] 23)).heap.size = w.heap.size + 1 by simp] at this) Tryd.underlying27 rfl info2 rfl) rfl ⟨by rw [HP.out.1, HP.out.2.1, HP.out.2.2]; rfl, ((Below.refl _ _).alloc (Nat.le_refl _) _).alloc (by simp) _⟩
  have h0' : ((x 0 : Int) == 8390047168116913201) = true := by simp; omega
  have h0'' : ((x 0 : Int) != 8390047168116913201) = false := by simp; omega
  have HT : Hid (∀ (o1 o2 : Obj), HasRests ((w.alloc o1).alloc o2).drew) := Lib.hid fun o1 o2 => by
    have h1 := hT.below ((Below.refl _ _).alloc (Nat.le_refl _) o1) (Nat.le_refl _)
    have h2 := h1.below ((Below.refl _ _).alloc (Nat.le_refl _) o2) (Nat.le_refl _)
    exact h2
  have HX := Lib.hid hx
  have HT0 := Lib.hid hT
  have CK : Hid (∀ w' : World, BoxT 23 w' w.heap.size #[.int .u64 (x 0), .int .u64 (x 1), .int .u64 (x 2), .int .u64 (x 3), .int .u64 (x 4), .int .u64 (x 5), .int .u64 (x 6), .int .u64 (x 7)] → w'.cell? ⟨w.heap.size, 0, none⟩ = some (.int .u64 (x 0)) ∧ w'.cell? ⟨w.heap.size, 1, none⟩ = some (.int .u64 (x 1)) ∧ w'.cell? ⟨w.heap.size, 2, none⟩ = some (.int .u64 (x 2)) ∧ w'.cell? ⟨w.heap.size, 3, none⟩ = some (.int .u64 (x 3)) ∧ w'.cell? ⟨w.heap.size, 4, none⟩ = some (.int .u64 (x 4)) ∧ w'.cell? ⟨w.heap.size, 5, none⟩ = some (.int .u64 (x 5)) ∧ w'.cell? ⟨w.heap.size, 6, none⟩ = some (.int .u64 (x 6)) ∧ w'.cell? ⟨w.heap.size, 7, none⟩ = some (.int .u64 (x 7))) := Lib.hid fun w' h => ⟨h.cell 0, h.cell 1, h.cell 2, h.cell 3, h.cell 4, h.cell 5, h.cell 6, h.cell 7⟩
  by_cases h7 : x 7 = wordsC [x 0, x 1, x 2, x 3, x 4, x 5, x 6]
  rotate_left
  · have hc : codeS x = 25 := by unfold codeS; rw [if_neg (by simpa using h0), if_pos h7]
    have HP : Hid (blocksS x = 0 ∧ idS x = 0 ∧ codeS x = 25) := Lib.hid ⟨by unfold blocksS; rw [hc]; rfl, by unfold idS; rw [hc]; rfl, hc⟩
    have h7' : (((x 7 : Nat) : Int) == ((wordsC [x 0, x 1, x 2, x 3, x 4, x 5, x 6] : Nat) : Int)) = false := by simp; omega
    have h7'' : (((x 7 : Nat) : Int) != ((wordsC [x 0, x 1, x 2, x 3, x 4, x 5, x 6] : Nat) : Int)) = true := by simp; omega
    clear hx hT hc h0 h7
    go_enter Tryd.func7, Tryd.ntmps7
    go_wp2_with fail
    go_region_held3 (fun w' => w'.cell? ⟨w.heap.size, 0, none⟩ = some (.int .u64 (x 0)) ∧ w'.cell? ⟨w.heap.size, 1, none⟩ = some (.int .u64 (x 1)) ∧ w'.cell? ⟨w.heap.size, 2, none⟩ = some (.int .u64 (x 2)) ∧ w'.cell? ⟨w.heap.size, 3, none⟩ = some (.int .u64 (x 3)) ∧ w'.cell? ⟨w.heap.size, 4, none⟩ = some (.int .u64 (x 4)) ∧ w'.cell? ⟨w.heap.size, 5, none⟩ = some (.int .u64 (x 5)) ∧ w'.cell? ⟨w.heap.size, 6, none⟩ = some (.int .u64 (x 6)) ∧ w'.cell? ⟨w.heap.size, 7, none⟩ = some (.int .u64 (x 7))) (first | go_keep | exact CK.out _ B1.out)
      (first
        | (go_at_call 18; refine (sumOf_any (x 0) (x 1) (x 2) (x 3) (x 4) (x 5) (x 6) (x 7) _ ⟨HX.out 0, HX.out 1, HX.out 2, HX.out 3, HX.out 4, HX.out 5, HX.out 6⟩ (HT.out _ _)).mono ?_; rintro e W ⟨rfl, hb⟩; obtain ⟨b1, b2, k, s⟩ := boxT_of2d hb; have B1 := Lib.hid b1; have B2 := Lib.hid b2; have K := Lib.hid k; clear hb b1 b2 k))
    go_wp2_with (first
      | (refine wpList_store_boxT rfl _ _ _ rfl (b := w.heap.size + 1) (cells := #[.int .i64 0, .int .u64 0]) rfl rfl B2.out info2 rfl (one2 _ _) ?_)
      | fail)
    exact bodyPost_ret (results_boxT2 rfl _ _ (w.heap.size + 1) #[.int .i64 0, .int .u64 0] (.int .i64 25) rfl (B2.out.row _) Tryd.underlying27 rfl info2 rfl) rfl ⟨by rw [HP.out.1, HP.out.2.1, HP.out.2.2]; rfl, below_setRow K.out (by omega) _⟩
  have HSL := Lib.hid (same_line x h0 h7)
  have h7' : (((x 7 : Nat) : Int) == ((wordsC [x 0, x 1, x 2, x 3, x 4, x 5, x 6] : Nat) : Int)) = true := by simp; omega
  have h7'' : (((x 7 : Nat) : Int) != ((wordsC [x 0, x 1, x 2, x 3, x 4, x 5, x 6] : Nat) : Int)) = false := by simp; omega
  obtain ⟨B, hB⟩ : ∃ B : Int, IntKind.i64.wrap (x 2 : Int) = B := ⟨_, rfl⟩
  have hB2 : IntKind.u64.wrap B = (x 2 : Int) := by rw [← hB]; have := hx 2; simp [IntKind.wrap, IntKind.bits, IntKind.signed]; omega
  have hB3 : 2 ≤ B ∧ B ≤ 256 ↔ 2 ≤ x 2 ∧ x 2 ≤ 256 := by rw [← hB]; have := hx 2; simp [IntKind.wrap, IntKind.bits, IntKind.signed]; omega
  have H0 := Lib.hid h0
  have H7 := Lib.hid h7
  clear hx hT h0 h7
  go_enter Tryd.func7, Tryd.ntmps7
  go_wp2_with fail
  go_region_held3 (fun w' => w'.cell? ⟨w.heap.size, 0, none⟩ = some (.int .u64 (x 0)) ∧ w'.cell? ⟨w.heap.size, 1, none⟩ = some (.int .u64 (x 1)) ∧ w'.cell? ⟨w.heap.size, 2, none⟩ = some (.int .u64 (x 2)) ∧ w'.cell? ⟨w.heap.size, 3, none⟩ = some (.int .u64 (x 3)) ∧ w'.cell? ⟨w.heap.size, 4, none⟩ = some (.int .u64 (x 4)) ∧ w'.cell? ⟨w.heap.size, 5, none⟩ = some (.int .u64 (x 5)) ∧ w'.cell? ⟨w.heap.size, 6, none⟩ = some (.int .u64 (x 6)) ∧ w'.cell? ⟨w.heap.size, 7, none⟩ = some (.int .u64 (x 7))) (first | go_keep | exact CK.out _ B1.out)
    (first
      | (go_at_call 18; refine (sumOf_any (x 0) (x 1) (x 2) (x 3) (x 4) (x 5) (x 6) (x 7) _ ⟨HX.out 0, HX.out 1, HX.out 2, HX.out 3, HX.out 4, HX.out 5, HX.out 6⟩ (HT.out _ _)).mono ?_; rintro e W ⟨rfl, hb⟩; obtain ⟨b1, b2, k, s⟩ := boxT_of2d hb; have B1 := Lib.hid b1; have B2 := Lib.hid b2; have K := Lib.hid k; clear hb b1 b2 k))
  obtain ⟨g0, g1, g2, g3, g4, g5, g6, g7⟩ := CK.out _ B1.out
  go_wp2_with fail
  have b1 := B1.out.alloc (.cells #[.int .i64 B, .int .u64 (x 3)] 27)
  have b2 := B2.out.alloc (.cells #[.int .i64 B, .int .u64 (x 3)] 27)
  have b3 := BoxT.new 27 W #[.int .i64 B, .int .u64 (x 3)]
  have kv := K.out.alloc (by omega) (.cells #[.int .i64 B, .int .u64 (x 3)] 27)
  have hv : HasRests (W.alloc (.cells #[.int .i64 B, .int .u64 (x 3)] 27)) := (HT0.out.below K.out (Nat.le_refl _)).below ((Below.refl _ _).alloc (Nat.le_refl _) _) (Nat.le_refl _)
  generalize W.heap.size = bs at b3 s ⊢
  generalize W.alloc (.cells #[.int .i64 B, .int .u64 (x 3)] 27) = V at b1 b2 b3 kv hv ⊢
  have CV : Hid (∀ w' : World, Below V.heap.size V w' → w'.cell? ⟨w.heap.size, 0, none⟩ = some (.int .u64 (x 0)) ∧ w'.cell? ⟨w.heap.size, 1, none⟩ = some (.int .u64 (x 1)) ∧ w'.cell? ⟨w.heap.size, 2, none⟩ = some (.int .u64 (x 2)) ∧ w'.cell? ⟨w.heap.size, 3, none⟩ = some (.int .u64 (x 3)) ∧ w'.cell? ⟨w.heap.size, 4, none⟩ = some (.int .u64 (x 4)) ∧ w'.cell? ⟨w.heap.size, 5, none⟩ = some (.int .u64 (x 5)) ∧ w'.cell? ⟨w.heap.size, 6, none⟩ = some (.int .u64 (x 6)) ∧ w'.cell? ⟨w.heap.size, 7, none⟩ = some (.int .u64 (x 7)) ∧ w'.cell? ⟨bs, 0, none⟩ = some (.int .i64 B) ∧ w'.cell? ⟨bs, 1, none⟩ = some (.int .u64 (x 3))) := Lib.hid fun w' k => by
    obtain ⟨q0, q1, q2, q3, q4, q5, q6, q7⟩ := CK.out _ (b1.below k b1.lt)
    exact ⟨q0, q1, q2, q3, q4, q5, q6, q7, (b3.below k b3.lt).cell 0, (b3.below k b3.lt).cell 1⟩
  have B2 := Lib.hid b2
  have KV := Lib.hid kv
  have HV : Hid (HasRests V.drew) := Lib.hid hv
  have K0 : Hid (Below V.heap.size V V) := Lib.hid (Below.refl _ _)
  obtain ⟨q0, q1, q2, q3, q4, q5, q6, q7, p0, p1⟩ := CV.out _ K0.out
  clear b1 b2 b3 kv hv g0 g1 g2 g3 g4 g5 g6 g7 B1 K
  have heq := fun w' => eq8V 8390047168116913201 1 (x 2) (x 3) 0 0 0 (sumS (x 2) (x 3) : Nat) (x 0) (x 1) (x 2) (x 3) (x 4) (x 5) (x 6) (x 7) w'
  rw [HSL.out] at heq
  by_cases hg : x 1 = 1 ∧ x 4 = 0 ∧ x 5 = 0 ∧ x 6 = 0
  · rw [decide_eq_true hg] at heq
    have HG := Lib.hid hg
    clear hg
    go_region_held3 (fun w' => w'.cell? ⟨w.heap.size, 0, none⟩ = some (.int .u64 (x 0)) ∧ w'.cell? ⟨w.heap.size, 1, none⟩ = some (.int .u64 (x 1)) ∧ w'.cell? ⟨w.heap.size, 2, none⟩ = some (.int .u64 (x 2)) ∧ w'.cell? ⟨w.heap.size, 3, none⟩ = some (.int .u64 (x 3)) ∧ w'.cell? ⟨w.heap.size, 4, none⟩ = some (.int .u64 (x 4)) ∧ w'.cell? ⟨w.heap.size, 5, none⟩ = some (.int .u64 (x 5)) ∧ w'.cell? ⟨w.heap.size, 6, none⟩ = some (.int .u64 (x 6)) ∧ w'.cell? ⟨w.heap.size, 7, none⟩ = some (.int .u64 (x 7)) ∧ w'.cell? ⟨bs, 0, none⟩ = some (.int .i64 B) ∧ w'.cell? ⟨bs, 1, none⟩ = some (.int .u64 (x 3))) (first | go_keep | exact CV.out _ K1.out | exact CV.out _ K2.out | exact CV.out _ K3.out)
      (first
        | (go_at_call 9; refine (encode_any B (x 2) (x 3) _ hB2 (HX.out 2) (HX.out 3) HV.out).mono ?_; rintro e W1 ⟨rfl, hb⟩; have K1 := Lib.hid (below_undrew hb); clear hb)
        | (go_at_call 19; refine (geometry_any B (x 3) _).mono ?_; rintro e W2 ⟨rfl, hb⟩; have K2 := Lib.hid (K1.out.trans (hb.mono K1.out.size)); clear hb)
        | (go_at_call 20; refine (geoRight_any B _).mono ?_; rintro e W3 ⟨rfl, hb⟩; have K3 := Lib.hid (K2.out.trans (hb.mono K2.out.size)); clear hb))
    have B2' : Hid (BoxT 27 W3 (w.heap.size + 1) #[.int .i64 0, .int .u64 0]) := Lib.hid (B2.out.below K3.out B2.out.lt)
    have K4 : Hid (Below w.heap.size w W3) := Lib.hid (KV.out.trans (K3.out.mono KV.out.size))
    clear K1 K2 K3 KV HV B2 CV CK heq HSL K0
    by_cases hr : 2 ≤ B ∧ B ≤ 256
    · have hR : rightG B = true := decide_eq_true hr
      have hc : codeS x = 0 := (code_zero x).2 ⟨⟨H0.out, HG.out.1, HG.out.2.1, HG.out.2.2.1, HG.out.2.2.2, by rw [H7.out, H0.out, HG.out.1, HG.out.2.1, HG.out.2.2.1, HG.out.2.2.2]; rfl⟩, hB3.1 hr⟩
      have HP : Hid (((blocksS x : Nat) : Int) = B ∧ idS x = x 3 ∧ codeS x = 0) := Lib.hid ⟨by unfold blocksS; rw [hc, if_pos rfl]; have := hB3.1 hr; have := HX.out 2; rw [← hB]; simp [IntKind.wrap, IntKind.bits, IntKind.signed]; omega, by unfold idS; rw [hc]; rfl, hc⟩
      rw [hR]
      clear hr hR hc hB hB2 hB3
      go_wp2_with (first
        | (refine wpList_store_boxT rfl _ _ _ rfl (b := w.heap.size + 1) (cells := #[.int .i64 B, .int .u64 (x 3)]) rfl rfl B2'.out info2 rfl (one2 _ _) ?_)
        | fail)
      exact bodyPost_ret (results_boxT2 rfl _ _ (w.heap.size + 1) #[.int .i64 B, .int .u64 (x 3)] (.int .i64 0) rfl (B2'.out.row _) Tryd.underlying27 rfl info2 rfl) rfl ⟨by rw [HP.out.1, HP.out.2.1, HP.out.2.2]; rfl, below_setRow K4.out (by omega) _⟩
    · have hR : rightG B = false := decide_eq_false hr
      have hc : codeS x = 26 := by unfold codeS; rw [if_neg (by rw [H0.out]; simp), if_neg (by rw [← H7.out]; simp), if_neg (fun h : fitsS x => hr (hB3.2 ⟨h.2.2.2.2.1, h.2.2.2.2.2⟩))]
      have HP : Hid (blocksS x = 0 ∧ idS x = 0 ∧ codeS x = 26) := Lib.hid ⟨by unfold blocksS; rw [hc]; rfl, by unfold idS; rw [hc]; rfl, hc⟩
      rw [hR]
      clear hr hR hc hB hB2 hB3
      go_wp2_with (first
        | (refine wpList_store_boxT rfl _ _ _ rfl (b := w.heap.size + 1) (cells := #[.int .i64 0, .int .u64 0]) rfl rfl B2'.out info2 rfl (one2 _ _) ?_)
        | fail)
      exact bodyPost_ret (results_boxT2 rfl _ _ (w.heap.size + 1) #[.int .i64 0, .int .u64 0] (.int .i64 26) rfl (B2'.out.row _) Tryd.underlying27 rfl info2 rfl) rfl ⟨by rw [HP.out.1, HP.out.2.1, HP.out.2.2]; rfl, below_setRow K4.out (by omega) _⟩
  · rw [decide_eq_false hg] at heq
    have hc : codeS x = 26 := by unfold codeS; rw [if_neg (by rw [H0.out]; simp), if_neg (by rw [← H7.out]; simp), if_neg (fun h : fitsS x => hg ⟨h.1, h.2.1, h.2.2.1, h.2.2.2.1⟩)]
    have HP : Hid (blocksS x = 0 ∧ idS x = 0 ∧ codeS x = 26) := Lib.hid ⟨by unfold blocksS; rw [hc]; rfl, by unfold idS; rw [hc]; rfl, hc⟩
    clear hg hc
    go_region_with
      (go_at_call 9; refine (encode_any B (x 2) (x 3) _ hB2 (HX.out 2) (HX.out 3) HV.out).mono ?_; rintro e W1 ⟨rfl, hb⟩; have K1 := Lib.hid (below_undrew hb); clear hb; obtain ⟨r0, r1, r2, r3, r4, r5, r6, r7, -, -⟩ := CV.out _ K1.out)
    all_goals
      have B2' : Hid (BoxT 27 W1 (w.heap.size + 1) #[.int .i64 0, .int .u64 0]) := Lib.hid (B2.out.below K1.out B2.out.lt)
      have K4 : Hid (Below w.heap.size w W1) := Lib.hid (KV.out.trans (K1.out.mono KV.out.size))
      clear K1 KV HV B2 CV CK heq HSL K0 hB hB2 hB3
      go_wp2_with (first
        | (refine wpList_store_boxT rfl _ _ _ rfl (b := w.heap.size + 1) (cells := #[.int .i64 0, .int .u64 0]) rfl rfl B2'.out info2 rfl (one2 _ _) ?_)
        | fail)
      exact bodyPost_ret (results_boxT2 rfl _ _ (w.heap.size + 1) #[.int .i64 0, .int .u64 0] (.int .i64 26) rfl (B2'.out.row _) Tryd.underlying27 rfl info2 rfl) rfl ⟨by rw [HP.out.1, HP.out.2.1, HP.out.2.2]; rfl, below_setRow K4.out (by omega) _⟩

end Go.Proofs.YtpgkplknfhdmgaaDoor
