/- A device and the reference that hold the same are told to be the same. -/
import Derived.Test.YtnkndhmkamaccaaDoBase
import Derived.Test.YtnkndhmkamaccaaRefInts
import Derived.Test.YtnkndhmkamaccaaRefSame
namespace Go.Proofs.Ytnkndhmkamaccaa
open Go.ChangeShapes Go.WideShapes Go.ChangeAt Go.RowKit Nv
set_option linter.unusedVariables false

theorem ints_row {w : World} {B n : Nat} {f : Nat → Int} (h : Row w B 33 (8 * n) (fun j => .int .u64 (f j))) : IsInts .u64 w (.slice (some ⟨B, 0, none⟩) (8 * n) (8 * n)) (wordsTo f n) :=
  ⟨some ⟨B, 0, none⟩, 8 * n, by rw [wordsTo_len], by rw [wordsTo_len]; omega, .inr ⟨B, 0, rfl, h.lt, fun i hi => by
    rw [wordsTo_len] at hi
    unfold wordsTo
    rw [Nat.zero_add, h.cell hi, List.getD_eq_getElem?_getD, List.getElem?_map, List.getElem?_range hi]; rfl⟩⟩

section
variable {w : World} {p : Nat} {f : Fp} {T : Nat → Prop} {r : RV} {m : Mdl}

set_option maxHeartbeats 4000000 in
set_option maxRecDepth 100000 in
theorem same_any (h : Dev w p f m) (hr : Ref w T r m) :
    Calls Try.prog 28 #[.pointer (some ⟨p, 0, none⟩), rv r m] w fun e w' => e = .returned (.bool true) ∧ Below w.heap.size w w' := by
  have hL := hr.lb
  have H := Lib.hid h
  have HRR := Lib.hid hr
  have hb2 : Box (w.alloc (.cells (rc r m) 30)) w.heap.size (rc r m) := Box.new w _
  have bw2 : Below w.heap.size w (w.alloc (.cells (rc r m) 30)) := (Below.refl _ _).alloc (Nat.le_refl _) _
  have HB := Lib.hid (And.intro hb2 bw2)
  unfold rc at HB
  unfold rv
  clear h hr hb2 bw2
  go_enter Try.func28, Try.ntmps28
  go_upto_region 1 with fail
  have hB := HB.out
  clear HB
  generalize w.alloc (.cells #[.slice r.aN m.L r.cN, .slice r.aL m.L r.cL, .slice r.aW m.L r.cW, .slice r.aD m.L r.cD, .slice r.aP m.L r.cP, .int .i64 m.steps, .int .i64 m.fuse, .bool m.dead] 30) = w2 at hB ⊢
  obtain ⟨hb2, bw2⟩ := hB
  have HBX : Hid (Box w2 w.heap.size (rc r m)) := Lib.hid hb2
  have BW := Lib.hid bw2
  have d2 : Dev w2 p f m := H.out.keep (Keep.ofBelow (S := fun _ => False) bw2) (fun _ _ _ h => h)
  have r2 : Ref w2 T r m := HRR.out.below bw2
  have DK : Hid (∀ w', Keep (fun _ => False) w2 w' → Dev w' p f m) := Lib.hid fun w' k => d2.keep k (fun _ _ _ h => h)
  have RK : Hid (∀ w', Keep (fun _ => False) w2 w' → Ref w' T r m) := Lib.hid fun w' k => r2.keep k (fun _ _ _ h => h) (fun _ h _ => h)
  have CK : Hid (∀ w', Keep (fun _ => False) w2 w' → w'.cell? ⟨w.heap.size, 0, none⟩ = some (.slice r.aN m.L r.cN) ∧ w'.cell? ⟨w.heap.size, 1, none⟩ = some (.slice r.aL m.L r.cL) ∧ w'.cell? ⟨w.heap.size, 2, none⟩ = some (.slice r.aW m.L r.cW) ∧ w'.cell? ⟨w.heap.size, 3, none⟩ = some (.slice r.aD m.L r.cD) ∧ w'.cell? ⟨w.heap.size, 4, none⟩ = some (.slice r.aP m.L r.cP) ∧ w'.cell? ⟨w.heap.size, 5, none⟩ = some (.int .i64 m.steps) ∧ w'.cell? ⟨w.heap.size, 6, none⟩ = some (.int .i64 m.fuse) ∧ w'.cell? ⟨w.heap.size, 7, none⟩ = some (.bool m.dead)) := Lib.hid fun w' k => by
    have hb := HBX.out.keep k (fun h => h)
    exact ⟨hb.cell 0, hb.cell 1, hb.cell 2, hb.cell 3, hb.cell 4, hb.cell 5, hb.cell 6, hb.cell 7⟩
  obtain ⟨c0, c1, c2, c3, c4, c5, c6, c7⟩ := CK.out w2 (Keep.refl _ _)
  have K0 : Hid (Keep (fun _ => False) w2 w2.drew) := Lib.hid (Keep.refl (fun _ => False) w2).drew
  have hn8 : ((8 * m.L : Nat) : Int) = 8 * (m.L : Int) := by omega
  have hLen : Hid (∀ w', Keep (fun _ => False) w2 w' → Calls Try.prog 12 #[.pointer (some ⟨p, 0, none⟩)] w' fun e w'' => e = .returned (.int .i64 (8 * (m.L : Int))) ∧ w' = w'') := Lib.hid fun w' k => by
    have := len_any (DK.out w' k)
    rw [hn8] at this
    exact this
  have hdl : (dirtyTo m m.L).length ≤ 1000000000 := by
    unfold dirtyTo; rw [List.length_map]; exact Nat.le_trans (List.length_filter_le _ _) (by simp; omega)
  have hwl : (wordsTo m.last m.L).length ≤ 1000000000 := by rw [wordsTo_len]; omega
  have HDL := Lib.hid hdl
  have HWL := Lib.hid hwl
  have hwr : IntKind.i64.wrap (8 * (m.L : Int)) = 8 * (m.L : Int) := by simp [IntKind.wrap, IntKind.bits, IntKind.signed]; omega
  clear hb2 bw2 d2 r2 hn8 hdl hwl
  go_region_held3 (fun w' => w'.cell? ⟨w.heap.size, 0, none⟩ = some (.slice r.aN m.L r.cN) ∧ w'.cell? ⟨w.heap.size, 1, none⟩ = some (.slice r.aL m.L r.cL) ∧ w'.cell? ⟨w.heap.size, 2, none⟩ = some (.slice r.aW m.L r.cW) ∧ w'.cell? ⟨w.heap.size, 3, none⟩ = some (.slice r.aD m.L r.cD) ∧ w'.cell? ⟨w.heap.size, 4, none⟩ = some (.slice r.aP m.L r.cP) ∧ w'.cell? ⟨w.heap.size, 5, none⟩ = some (.int .i64 m.steps) ∧ w'.cell? ⟨w.heap.size, 6, none⟩ = some (.int .i64 m.fuse) ∧ w'.cell? ⟨w.heap.size, 7, none⟩ = some (.bool m.dead))
    (first | go_keep | exact CK.out _ K7.out | exact CK.out _ K8.out | exact CK.out _ K6.out | exact CK.out _ K5.out | exact CK.out _ K4.out)
    (first
      | (go_at_call 12; refine (hLen.out _ K0.out).mono ?_; rintro e w' ⟨rfl, rfl⟩)
      | (go_at_call 10; refine (lines_any (DK.out _ K0.out)).mono ?_; rintro e w' ⟨rfl, rfl⟩)
      | (go_at_call 20; refine (steps_any (DK.out _ K0.out)).mono ?_; rintro e w' ⟨rfl, rfl⟩)
      | (go_at_call 19; refine (dead_any (DK.out _ K0.out)).mono ?_; rintro e w' ⟨rfl, rfl⟩)
      | (go_at_call 18; refine (dirty_any (DK.out _ K0.out)).mono ?_; rintro e w4 ⟨va, rfl, hva, b4, -⟩; have K4 := Lib.hid (K0.out.trans' (Keep.ofBelow (S := fun _ => False) b4)); have HA := Lib.hid hva; clear hva b4)
      | (go_at_call 46; refine (refDirty_any (RK.out _ K4.out)).mono ?_; rintro e w5 ⟨vb, rfl, hvb, b5, -⟩; have K5 := Lib.hid (K4.out.trans' (Keep.ofBelow (S := fun _ => False) b5)); have HA5 := Lib.hid (HA.out.below b5 (Nat.le_refl _)); have HB5 := Lib.hid hvb; clear hvb b5)
      | (go_at_call 45; refine (refInts_yes va vb _ w5 HA5.out HB5.out HDL.out).mono ?_; rintro e w6 ⟨rfl, n6, rfl⟩; have K6 := Lib.hid (K5.out.drewN n6))
      | (go_at_call 29; refine (all_any (DK.out _ K6.out)).mono ?_; rintro e w7 ⟨B, rfl, hB, hrow, k7⟩; have K7 := Lib.hid (K6.out.trans' k7); have HC := Lib.hid (ints_row hrow); clear hB hrow k7)
      | (go_at_call 48; refine (refAll_any (RK.out _ K7.out).hL hL).mono ?_; rintro e w8 ⟨vd, rfl, hvd, b8, -⟩; have K8 := Lib.hid (K7.out.trans' (Keep.ofBelow (S := fun _ => False) b8)); have HC8 := Lib.hid (HC.out.below b8 (Nat.le_refl _)); have HD8 := Lib.hid hvd; clear hvd b8)
      | (go_at_call 47; refine (refSame_yes _ vd _ w8 HC8.out HD8.out HWL.out).mono ?_; rintro e w9 ⟨rfl, n9, rfl⟩; have K9 := Lib.hid (K8.out.drewN n9)))
  generalize w8.drewN n9 = w9 at K9 ⊢
  clear HA HA5 HB5 HC HC8 HD8 K4 K5 K6 K7 K8 c0 c1 c2 c3 c4 c5 c6 c7
  go_wp2_with fail
  go_loopw [5] (fun i wr => ∃ k : Nat, k ≤ 8 * m.L ∧ i = .int .i64 k ∧ Hid (Keep (fun _ => False) w2 wr)) (fun i _ => 8 * m.L - (intOf i).toNat)
  case atStart => exact ⟨0, by omega, rfl, K9⟩
  case round =>
    obtain ⟨k, hk, rfl, KR⟩ := hrel
    obtain ⟨c0, c1, c2, c3, c4, c5, c6, c7⟩ := CK.out wr KR.out
    by_cases hlt : k < 8 * m.L
    · have hlt' : (k : Int) < 8 * (m.L : Int) := by omega
      have hk0 : (0 : Int) ≤ (k : Int) := by omega
      have hgn : getNow m k = m.now k := by unfold getNow hasW; rw [if_pos (by simp; omega)]; rfl
      have hgl : getLast m k = m.last k := by unfold getLast hasW; rw [if_pos (by simp; omega)]; rfl
      have hin : 0 ≤ (k : Int) ∧ (k : Int) < 8 * (m.L : Int) := ⟨hk0, hlt'⟩
      have KD : Hid (Keep (fun _ => False) w2 wr.drew) := Lib.hid KR.out.drew
      have e1 := get_any (DK.out _ KD.out) k
      have e2 := lasting_any (DK.out _ KD.out) k
      have e3 := refGet_any (RK.out _ KD.out).hN hL k
      have e4 := refGet_any (RK.out _ KD.out).hL hL k
      rw [hgn] at e1
      rw [hgl] at e2
      rw [if_pos hin, Int.toNat_natCast] at e3 e4
      have E1 := Lib.hid e1
      have E2 := Lib.hid e2
      have E3 := Lib.hid e3
      have E4 := Lib.hid e4
      clear e1 e2 e3 e4 hgn hgl hin
      go_wp2_with fail
      go_region_held3 (fun w' => w'.cell? ⟨w.heap.size, 0, none⟩ = some (.slice r.aN m.L r.cN) ∧ w'.cell? ⟨w.heap.size, 1, none⟩ = some (.slice r.aL m.L r.cL)) (go_keep)
        (first
          | (go_at_call 13; (with_reducible refine E1.out.mono ?_); rintro e w' ⟨rfl, rfl⟩)
          | (go_at_call 14; (with_reducible refine E2.out.mono ?_); rintro e w' ⟨rfl, rfl⟩)
          | (go_at_call 49; (with_reducible refine E3.out.mono ?_); rintro e w' ⟨rfl, rfl⟩)
          | (go_at_call 49; (with_reducible refine E4.out.mono ?_); rintro e w' ⟨rfl, rfl⟩))
      go_wp2_with fail
      go_roundw
      case rel => exact ⟨k + 1, by omega, by go_num, KD⟩
      case measure => simp [intOf]; omega
    · have hlt' : ¬ (k : Int) < 8 * (m.L : Int) := by omega
      go_wp2_with fail
      go_ret
      exact ⟨rfl, BW.out.trans (KR.out.below (B := w.heap.size) BW.out.size (fun _ h => h.elim))⟩
end

end Go.Proofs.Ytnkndhmkamaccaa
