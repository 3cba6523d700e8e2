/- The reference: Persist; a device of noughts. -/
import Derived.Test.YtnkndhmkamaccaaRefFence
import Derived.Test.YtnkndhmkamaccaaRefLoad
namespace Go.Proofs.Ytnkndhmkamaccaa
open Go.ChangeShapes Go.WideShapes Go.ChangeAt Go.RowKit Nv
set_option linter.unusedVariables false

theorem flush_fuse (m : Mdl) (l : Int) (h : -1 ≤ m.fuse ∧ m.fuse ≤ 9223372036854775807) : -1 ≤ (Nv.flush m l).1.fuse ∧ (Nv.flush m l).1.fuse ≤ 9223372036854775807 := by
  have hs : -1 ≤ (stepM m).fuse ∧ (stepM m).fuse ≤ 9223372036854775807 := by
    have e : (stepM m).fuse = if 0 < m.fuse then m.fuse - 1 else m.fuse := rfl
    rw [e]; split <;> omega
  unfold Nv.flush; split
  · exact h
  · split
    · exact h
    · unfold flushM; split
      · exact hs
      · exact hs
theorem flush_steps0 (m : Mdl) (l : Int) (h : 0 ≤ m.steps) : 0 ≤ (Nv.flush m l).1.steps := by
  unfold Nv.flush; split
  · exact h
  · split
    · exact h
    · unfold flushM; split <;> simp only [Nv.setWait, stepM] <;> omega

/-- Where the lines from s to t have been gone over, up to k. -/
def upto (s t k : Nat) : Nat := max s (min k t)

/-- Lines below k have been flushed, where they are to be. -/
structure PersistAt (w : World) (T : Nat → Prop) (m : Mdl) (s t k : Nat) (rk : RV) (mk : Mdl) (wr : World) : Prop where
  hb : Box wr w.heap.size (rc rk mk)
  hr : Box wr (w.heap.size + 1) z30
  ref : Ref wr (fun b => (T b ∧ b < w.heap.size) ∨ w.heap.size + 2 ≤ b) rk mk
  bw : Below w.heap.size w wr
  hL : mk.L = m.L
  s0 : 0 ≤ mk.steps
  s1 : mk.steps ≤ m.steps + k
  hf : -1 ≤ mk.fuse ∧ mk.fuse ≤ 9223372036854775807
  fl : flushes m s (t - s) = flushes mk (upto s t k) (t - upto s t k)

section
variable {w : World} {T : Nat → Prop} {r : RV} {m : Mdl}

theorem persist_back {w w6 : World} {T : Nat → Prop} {r6 : RV} {m6 : Mdl} (h : Ref w6 (fun b => (T b ∧ b < w.heap.size) ∨ w.heap.size + 2 ≤ b) r6 m6) : Ref w6 (fun b => T b ∨ (w.heap.size ≤ b ∧ b < w6.heap.size)) r6 m6 :=
  h.keep (Keep.refl (fun _ => False) w6) (fun _ _ _ h => h) (fun b hb hlt => hb.elim (fun h => .inl h.1) (fun h => .inr ⟨by omega, hlt⟩))

set_option maxHeartbeats 4000000 in
set_option maxRecDepth 100000 in
theorem refPersist_any (h : Ref w T r m) (a n : Int) (h0 : 0 ≤ m.steps) (hb : m.steps < 2305843009213693952) (hf : -1 ≤ m.fuse ∧ m.fuse ≤ 9223372036854775807) (ha1 : -9223372036854775808 ≤ a) (ha2 : a ≤ 9223372036854775807) (hn1 : -9223372036854775808 ≤ n) (hn2 : n ≤ 9223372036854775807) :
    Calls Try.prog 42 #[rv r m, .int .i64 a, .int .i64 n] w (RefTo T (Nv.persist m a n).1 (.int .i64 (Nv.persist m a n).2) w) := by
  have hL := h.lb
  cases hbad : badSpan m a n
  · have hr : Nv.persist m a n = (if (flushes m (firstLine a n) (endLine a n - firstLine a n)).2 = 0 then Nv.fence (flushes m (firstLine a n) (endLine a n - firstLine a n)).1 else flushes m (firstLine a n) (endLine a n - firstLine a n)) := by unfold Nv.persist; rw [if_neg (by rw [hbad]; decide)]
    rw [hr]
    clear hr
    obtain ⟨h1, h2, h3⟩ : 0 ≤ a ∧ 0 ≤ n ∧ a ≤ 8 * (m.L : Int) - n := by unfold badSpan at hbad; simp at hbad; omega
    have hfe : firstLine a n ≤ endLine a n ∧ endLine a n ≤ m.L := by unfold firstLine endLine; split <;> omega
    have hin : ∀ k : Nat, (0 < n ∧ a ≤ 8 * (k : Int) + 7 ∧ 8 * (k : Int) < a + n) ↔ (firstLine a n ≤ k ∧ k < endLine a n) := fun k => by
      unfold firstLine endLine; split <;> omega
    obtain ⟨hfe1, hfe2⟩ := hfe
    generalize firstLine a n = s at hfe1 hin ⊢
    generalize endLine a n = t at hfe1 hfe2 hin ⊢
    generalize hR : (if (flushes m s (t - s)).2 = 0 then Nv.fence (flushes m s (t - s)).1 else flushes m s (t - s)) = R
    have HR := Lib.hid hR
    have HIN := Lib.hid hin
    have g1 : ¬ a < 0 := by omega
    have g2 : ¬ n < 0 := by omega
    have g3 : ¬ 8 * (m.L : Int) < a := by omega
    have g4 : ¬ 8 * (m.L : Int) - a < n := by omega
    have hB := boxes_of (w := w) (cs := rc r m) (Below.refl _ _)
    have hP0 : PersistAt w T m s t 0 r m ((w.alloc (.cells (rc r m) 30)).alloc (.cells z30 30)) :=
      ⟨hB.1, hB.2.1, h.keep (Keep.ofBelow (S := fun _ => False) hB.2.2.1) (fun _ _ _ h => h) (fun b hb hlt => .inl ⟨hb, hlt⟩), hB.2.2.1, rfl, h0, by omega, hf, by
        have e : upto s t 0 = s := by unfold upto; omega
        rw [e]⟩
    have HP0 := Lib.hid hP0
    unfold rc z30 at HP0
    clear hR hin hbad hB hP0 h
    unfold rv
    go_enter Try.func42, Try.ntmps42
    go_wp2_with fail
    go_loopw [8, 9] (fun _ i wr => ∃ (k : Nat) (rk : RV) (mk : Mdl), k ≤ m.L ∧ i = .int .i64 k ∧ Hid (PersistAt w T m s t k rk mk wr)) (fun _ i _ => m.L - (intOf i).toNat)
    case atStart => exact ⟨0, r, m, by omega, rfl, HP0⟩
    case round =>
      obtain ⟨k, rk, mk, hk, rfl, HP⟩ := hrel
      have c0 : wr.cell? ⟨w.heap.size, 0, none⟩ = some (.slice rk.aN m.L rk.cN) := by rw [HP.out.hb.cell 0, ← HP.out.hL]; rfl
      by_cases hlt : k < m.L
      · have hlt' : (k : Int) < (m.L : Int) := by omega
        have hk0 : (0 : Int) ≤ (k : Int) := by omega
        by_cases hst : s ≤ k ∧ k < t
        · obtain ⟨g5, g6, g7⟩ := (HIN.out k).2 hst
          have hc := refFlush_any HP.out.ref (k : Int) HP.out.s0 (by have := HP.out.s1; omega) HP.out.hf
          have hcL := flush_L mk (k : Int)
          have hcs := flush_steps mk (k : Int)
          have hcs0 := flush_steps0 mk (k : Int) HP.out.s0
          have hcf := flush_fuse mk (k : Int) HP.out.hf
          have hfl := HP.out.fl
          rw [show upto s t k = k from by unfold upto; omega, show t - k = (t - k - 1) + 1 from by omega, flushes_succ] at hfl
          rcases hfe : Nv.flush mk (k : Int) with ⟨m1, c⟩
          rw [hfe] at hc hcL hcs hcs0 hcf hfl
          simp only at hcL hcs hcs0 hcf hfl
          have HC := Lib.hid hc
          have HFL := Lib.hid hfl
          have HF := Lib.hid (And.intro hcL (And.intro hcs (And.intro hcs0 hcf)))
          clear hc hcL hcs hcs0 hcf hfl hfe hst
          by_cases hc0 : c = 0
          · have hcb : ((c : Int) != 0) = false := by simpa using hc0
            have HC0 := Lib.hid hc0
            clear hc0
            go_wp2_with (first
              | (go_at_call 38; refine HC.out.mono ?_; rintro e w1 ⟨r1, rfl, ref1, b1⟩; have R1 := Lib.hid ref1; have B1 := Lib.hid b1; have HB1 := Lib.hid (HP.out.hb.below b1 HP.out.hb.lt); clear ref1 b1)
              | (refine wpList_load_box rfl _ rfl (b := w.heap.size) (cells := rc rk mk) rfl HP.out.hb rfl ?_)
              | (refine wpList_store_box rfl _ _ rfl (b := w.heap.size) (cells := rc r1 m1) rfl rfl HB1.out rfl rfl (rc_one _ _) ?_; intro w2 hb2 k2; have HB2 := Lib.hid hb2; have K2 := Lib.hid k2; clear hb2 k2))
            go_roundw
            case rel =>
              obtain ⟨hcL, hcs, hcs0, hcf⟩ := HF.out
              have hlt0 := HP.out.hr.lt
              refine ⟨k + 1, r1, m1, by omega, by go_num, Lib.hid ⟨HB2.out, (HP.out.hr.below B1.out hlt0).keep K2.out (by omega), R1.out.keep K2.out (fun b hb _ e => by omega) (fun b hb _ => ?_), (HP.out.bw.trans (B1.out.mono HP.out.bw.size)).trans (K2.out.below (by have := HP.out.bw.size; have := B1.out.size; omega) (fun i e => by omega)), by rw [hcL, HP.out.hL], hcs0, by have := HP.out.s1; omega, hcf, ?_⟩⟩
              · rcases hb with hb | hb
                · exact hb
                · exact .inr (by omega)
              · rw [HFL.out, if_pos HC0.out]
                by_cases hst : s ≤ k ∧ k < t
                · rw [show upto s t (k + 1) = k + 1 from by unfold upto; omega]; rfl
                · exact absurd ((HIN.out k).1 ⟨g5, g6, g7⟩) hst
            case measure => simp [intOf]; omega
          · have hcb : ((c : Int) != 0) = true := by simpa using hc0
            have HC0 := Lib.hid hc0
            clear hc0
            go_wp2_with (first
              | (go_at_call 38; refine HC.out.mono ?_; rintro e w1 ⟨r1, rfl, ref1, b1⟩; have R1 := Lib.hid ref1; have B1 := Lib.hid b1; have HB1 := Lib.hid (HP.out.hb.below b1 HP.out.hb.lt); have HZ1 := Lib.hid (HP.out.hr.below b1 HP.out.hr.lt); clear ref1 b1)
              | (refine wpList_load_box rfl _ rfl (b := w.heap.size) (cells := rc rk mk) rfl HP.out.hb rfl ?_)
              | (refine wpList_store_box rfl _ _ rfl (b := w.heap.size) (cells := rc r1 m1) rfl rfl HB1.out rfl rfl (rc_one _ _) ?_; intro w2 hb2 k2; have HB2 := Lib.hid hb2; have K2 := Lib.hid k2; clear hb2 k2)
              | (refine wpList_load_box rfl _ rfl (b := w.heap.size) (cells := rc r1 m1) rfl HB2.out rfl ?_)
              | (refine wpList_store_box rfl _ _ rfl (b := w.heap.size + 1) (cells := rc r1 m1) rfl rfl (HZ1.out.keep K2.out (by omega)) rfl rfl (rc_one _ _) ?_; intro w3 hb3 k3; have HB3 := Lib.hid hb3; have K3 := Lib.hid k3; clear hb3 k3))
            have k13 : Keep (fun b => b = w.heap.size ∨ b = w.heap.size + 1) w1 w3 := (K2.out.mono (S' := fun b => b = w.heap.size ∨ b = w.heap.size + 1) (fun i _ e => .inl e)).trans K3.out (fun i _ e => .inr e)
            have bw : Below w.heap.size w w3 := (HP.out.bw.trans (B1.out.mono HP.out.bw.size)).trans (k13.below (by have := HP.out.bw.size; have := B1.out.size; omega) (fun i e => by omega))
            have hlt0 := HP.out.hr.lt
            rw [← HR.out, HFL.out, if_neg HC0.out]
            simp only
            rw [if_neg HC0.out]
            refine bodyPost_ret (results_box2 rfl _ _ (w.heap.size + 1) (rc r1 m1) _ rfl HB3.out rfl rfl) rfl ⟨r1, rfl, persist_back (w := w) (R1.out.keep k13 (fun b hb _ e => by omega) (fun b hb _ => ?_)), bw⟩
            rcases hb with hb | hb
            · exact hb
            · exact .inr (by omega)
        · have hno : ¬ (0 < n ∧ a ≤ 8 * (k : Int) + 7 ∧ 8 * (k : Int) < a + n) := fun h => hst ((HIN.out k).1 h)
          have HN : Hid (PersistAt w T m s t (k + 1) rk mk wr) := by
            obtain ⟨q1, q2, q3, q4, q5, q6, q7, q8, q9⟩ := HP.out
            refine Lib.hid ⟨q1, q2, q3, q4, q5, q6, by omega, q8, ?_⟩
            rw [q9, show upto s t (k + 1) = upto s t k from by unfold upto; omega]
          clear hst
          by_cases g5 : 0 < n
          · by_cases g6 : a ≤ 8 * (k : Int) + 7
            · have g7 : ¬ 8 * (k : Int) < a + n := fun h => hno ⟨g5, g6, h⟩
              have d7 : decide (8 * (k : Int) < a + n) = false := by simpa using g7
              clear hno
              go_wp2_with fail
              go_roundw
              case rel => exact ⟨k + 1, rk, mk, by omega, by go_num, HN⟩
              case measure => simp [intOf]; omega
            · have d6 : decide (a ≤ 8 * (k : Int) + 7) = false := by simpa using g6
              clear hno
              go_wp2_with fail
              go_roundw
              case rel => exact ⟨k + 1, rk, mk, by omega, by go_num, HN⟩
              case measure => simp [intOf]; omega
          · clear hno
            go_wp2_with fail
            go_roundw
            case rel => exact ⟨k + 1, rk, mk, by omega, by go_num, HN⟩
            case measure => simp [intOf]; omega
      · have hlt' : ¬ (k : Int) < (m.L : Int) := by omega
        have hc := refFence_any HP.out.ref HP.out.s0 (by have := HP.out.s1; omega) HP.out.hf
        have hfl := HP.out.fl
        rw [show upto s t k = t from by unfold upto; omega, Nat.sub_self] at hfl
        have hfl' : flushes m s (t - s) = (mk, 0) := hfl
        have HC := Lib.hid hc
        have HFL := Lib.hid hfl'
        clear hc hfl hfl'
        go_wp2_with (first
          | (go_at_call 39; refine HC.out.mono ?_; rintro e w1 ⟨r1, rfl, ref1, b1⟩; have R1 := Lib.hid ref1; have B1 := Lib.hid b1; have HZ1 := Lib.hid (HP.out.hr.below b1 HP.out.hr.lt); clear ref1 b1)
          | (refine wpList_load_box rfl _ rfl (b := w.heap.size) (cells := rc rk mk) rfl HP.out.hb rfl ?_)
          | (refine wpList_store_box rfl _ _ rfl (b := w.heap.size + 1) (cells := rc r1 (Nv.fence mk).1) rfl rfl HZ1.out rfl rfl (rc_one _ _) ?_; intro w3 hb3 k3; have HB3 := Lib.hid hb3; have K3 := Lib.hid k3; clear hb3 k3))
        have bw : Below w.heap.size w w3 := (HP.out.bw.trans (B1.out.mono HP.out.bw.size)).trans (K3.out.below (by have := HP.out.bw.size; have := B1.out.size; omega) (fun i e => by omega))
        have hlt0 := HP.out.hr.lt
        rw [← HR.out, HFL.out]
        simp only
        rw [if_pos trivial]
        refine bodyPost_ret (results_box2 rfl _ _ (w.heap.size + 1) (rc r1 (Nv.fence mk).1) _ rfl HB3.out rfl rfl) rfl ⟨r1, rfl, persist_back (w := w) (R1.out.keep K3.out (fun b hb _ e => by omega) (fun b hb _ => ?_)), bw⟩
        rcases hb with hb | hb
        · exact hb
        · exact .inr (by omega)
  · have hr : Nv.persist m a n = (m, 2) := by unfold Nv.persist; rw [if_pos hbad]
    rw [hr]
    clear hr
    have hbd : a < 0 ∨ n < 0 ∨ 8 * (m.L : Int) - n < a := by unfold badSpan at hbad; simpa using hbad
    have H := Lib.hid h
    unfold rv
    clear hbad h
    by_cases h1 : a < 0
    · clear hbd
      go_enter Try.func42, Try.ntmps42
      go_wp2_with fail
      exact bodyPost_ret (v := .tuple #[rv r m, .int .i64 2]) (by simp [results, Try.results42, go_sem, rv]) rfl ⟨r, rfl, H.out.grew (below_two _ _ _), below_two _ _ _⟩
    · by_cases h2 : n < 0
      · clear hbd
        go_enter Try.func42, Try.ntmps42
        go_wp2_with fail
        exact bodyPost_ret (v := .tuple #[rv r m, .int .i64 2]) (by simp [results, Try.results42, go_sem, rv]) rfl ⟨r, rfl, H.out.grew (below_two _ _ _), below_two _ _ _⟩
      · by_cases h3 : 8 * (m.L : Int) < a
        · clear hbd
          go_enter Try.func42, Try.ntmps42
          go_wp2_with fail
          exact bodyPost_ret (v := .tuple #[rv r m, .int .i64 2]) (by simp [results, Try.results42, go_sem, rv]) rfl ⟨r, rfl, H.out.grew (below_two _ _ _), below_two _ _ _⟩
        · have h4 : 8 * (m.L : Int) - a < n := by omega
          clear hbd
          go_enter Try.func42, Try.ntmps42
          go_wp2_with fail
          exact bodyPost_ret (v := .tuple #[rv r m, .int .i64 2]) (by simp [results, Try.results42, go_sem, rv]) rfl ⟨r, rfl, H.out.grew (below_two _ _ _), below_two _ _ _⟩
end

end Go.Proofs.Ytnkndhmkamaccaa
