/- Lines of words; Persist. -/
import Derived.Test.YtpgkplknfhdmgaaDoorFence
import Derived.Test.YtpgkplknfhdmgaaDoorUpB
namespace Go.Proofs.YtpgkplknfhdmgaaDoor
open Go.ChangeShapes Go.WideShapes Go.ChangeAt Go.RowKit Nv
set_option linter.unusedVariables false

set_option maxHeartbeats 400000 in
theorem linesOf_any (a n : Int) (w : World) (ha : 0 ≤ a) (hn : 0 ≤ n) (hb : a + n ≤ 1000000000) :
    Calls Tryd.prog 38 #[.int .i64 a, .int .i64 n] w fun e w' => e = .returned (.tuple #[.int .i64 (firstLine a n : Nat), .int .i64 (endLine a n : Nat)]) ∧ w = w' := by
  by_cases h0 : n = 0
  · subst h0
    have e1 : firstLine a 0 = 0 := rfl
    have e2 : endLine a 0 = 0 := rfl
    rw [e1, e2]
    clear e1 e2
    go_enter Tryd.func38, Tryd.ntmps38
    go_wp2
    go_ret2
    exact ⟨rfl, rfl⟩
  · have h0' : ((n : Int) == 0) = false := by simpa using h0
    have e1 : ((firstLine a n : Nat) : Int) = a / 8 := by unfold firstLine; rw [if_neg h0]; omega
    have e2 : ((endLine a n : Nat) : Int) = upS (a + n) 8 := by rw [upS_of _ _ (by omega) (by omega)]; unfold endLine; rw [if_neg h0]; omega
    rw [e1, e2]
    clear e1 e2
    go_enter Tryd.func38, Tryd.ntmps38
    go_wp2_with fail
    refine (up_any _ _ _ (by omega) (by omega)).mono ?_
    rintro e w' ⟨rfl, rfl⟩
    go_wp2_with fail
    go_ret2
    exact ⟨rfl, rfl⟩

theorem flush_L (m : Mdl) (l : Int) : (Nv.flush m l).1.L = m.L := by
  unfold Nv.flush; split
  · rfl
  · split
    · rfl
    · unfold flushM; split <;> rfl
theorem flush_steps (m : Mdl) (l : Int) : (Nv.flush m l).1.steps ≤ m.steps + 1 := by
  unfold Nv.flush; split
  · simp only; omega
  · split
    · simp only [deadM]; omega
    · unfold flushM; split <;> simp only [Nv.setWait, stepM] <;> omega
theorem flushes_succ (m : Mdl) (a n : Nat) : flushes m a (n + 1) = if (Nv.flush m a).2 = 0 then flushes (Nv.flush m a).1 (a + 1) n else Nv.flush m a := rfl

section
variable {w : World} {p : Nat} {f : Fp} {m : Mdl}

set_option maxHeartbeats 1000000 in
theorem persist_any (h : Dev w p f m) (a n : Int) (hb : m.steps < 2305843009213693952) (ha1 : -9223372036854775808 ≤ a) (ha2 : a ≤ 9223372036854775807) (hn1 : -9223372036854775808 ≤ n) (hn2 : n ≤ 9223372036854775807) :
    Calls Tryd.prog 26 #[.pointer (some ⟨p, 0, none⟩), .int .i64 a, .int .i64 n] w (CodeTo p f (Nv.persist m a n) w) := by
  have hL := h.hL
  cases hbad : badSpan m a n
  · have hr : Nv.persist m a n = (if (flushes m (firstLine a n) (endLine a n - firstLine a n)).2 = 0 then Nv.fence (flushes m (firstLine a n) (endLine a n - firstLine a n)).1 else flushes m (firstLine a n) (endLine a n - firstLine a n)) := by unfold Nv.persist; rw [if_neg (by rw [hbad]; decide)]
    rw [hr]
    clear hr
    obtain ⟨h1, h2, h3⟩ : 0 ≤ a ∧ 0 ≤ n ∧ a ≤ 8 * (m.L : Int) - n := by unfold badSpan at hbad; simp at hbad; omega
    have hfe : firstLine a n ≤ endLine a n ∧ endLine a n ≤ m.L := by unfold firstLine endLine; split <;> omega
    obtain ⟨hfe1, hfe2⟩ := hfe
    have hln := fun w => linesOf_any a n w h1 h2 (by omega)
    generalize firstLine a n = s at hfe1 hln ⊢
    generalize endLine a n = t at hfe1 hfe2 hln ⊢
    generalize hR : (if (flushes m s (t - s)).2 = 0 then Nv.fence (flushes m s (t - s)).1 else flushes m s (t - s)) = R
    have HR := Lib.hid hR
    have HLN := Lib.hid hln
    have H := Lib.hid h
    have hst := h.hn'
    clear hR hln hbad
    go_enter Tryd.func26, Tryd.ntmps26
    go_wp2_with (first
      | (go_at_call 35; refine (len_any h).mono ?_; rintro e w' ⟨rfl, rfl⟩)
      | (go_at_call 38; refine (HLN.out _).mono ?_; rintro e w' ⟨rfl, rfl⟩))
    clear h
    go_loopw [7, 9] (fun x _ wr => ∃ (k : Nat) (fk : Fp) (mk : Mdl), x = .int .i64 (s + k : Nat) ∧ s + k ≤ t ∧ Dev wr p fk mk ∧ Keep (f.own p) w wr ∧ (∀ b, fk.own p b → f.own p b ∨ w.heap.size ≤ b) ∧ mk.L = m.L ∧ mk.steps ≤ m.steps + k ∧ flushes m s (t - s) = flushes mk (s + k) (t - s - k))
      (fun x _ _ => t - (intOf x).toNat)
    case atStart => exact ⟨0, f, m, rfl, hfe1, H.out, Keep.refl _ _, fun b h => .inl h, rfl, by omega, rfl⟩
    case round =>
      obtain ⟨k, fk, mk, rfl, hk, hd, hkp, ho, hml, hms, hfl⟩ := hrel
      by_cases hlt : s + k < t
      · have hlt' : ((s + k : Nat) : Int) < (t : Int) := by omega
        have hc := flush_any hd ((s + k : Nat) : Int) (by omega)
        have hcL := flush_L mk ((s + k : Nat) : Int)
        have hcs := flush_steps mk ((s + k : Nat) : Int)
        rw [show t - s - k = (t - s - k - 1) + 1 from by omega, flushes_succ] at hfl
        rcases hfe : Nv.flush mk ((s + k : Nat) : Int) with ⟨m1, c⟩
        rw [hfe] at hc hcL hcs hfl
        simp only at hcL hcs hfl
        have HC := Lib.hid hc
        have HFL := Lib.hid hfl
        have HKP := Lib.hid hkp
        have HO := Lib.hid ho
        have HML := Lib.hid hml
        have HCL := Lib.hid hcL
        clear hc hfl hkp ho hml hcL hfe hd
        by_cases hc0 : c = 0
        · have hcb : ((c : Int) != 0) = false := by simpa using hc0
          have HC0 := Lib.hid hc0
          clear hc0
          go_wp2_with fail
          refine HC.out.mono ?_
          rintro e w1 ⟨rfl, f1, hd1, k1, o1⟩
          have HD1 := Lib.hid hd1
          have HK1 := Lib.hid k1
          have HO1 := Lib.hid o1
          clear hd1 k1 o1
          go_wp2_with fail
          go_roundw
          case rel => exact ⟨k + 1, f1, m1, by go_num, by omega, HD1.out, keep_step HKP.out HO.out HK1.out, own_step HKP.out HO.out HO1.out, by rw [HCL.out, HML.out], by omega, by rw [HFL.out, if_pos HC0.out]; rfl⟩
          case measure => simp [intOf]; omega
        · have hcb : ((c : Int) != 0) = true := by simpa using hc0
          have HC0 := Lib.hid hc0
          clear hc0
          go_wp2_with fail
          refine HC.out.mono ?_
          rintro e w1 ⟨rfl, f1, hd1, k1, o1⟩
          have HD1 := Lib.hid hd1
          have HK1 := Lib.hid k1
          have HO1 := Lib.hid o1
          clear hd1 k1 o1
          go_wp2_with fail
          go_ret
          rw [← HR.out, HFL.out, if_neg HC0.out]
          simp only
          rw [if_neg HC0.out]
          exact ⟨rfl, f1, HD1.out, keep_step HKP.out HO.out HK1.out, own_step HKP.out HO.out HO1.out⟩
      · have hlt' : ¬ ((s + k : Nat) : Int) < (t : Int) := by omega
        have hc := fence_any hd (by omega)
        have e0 : t - s - k = 0 := by omega
        rw [e0] at hfl
        have hfl' : flushes m s (t - s) = (mk, 0) := hfl
        have HC := Lib.hid hc
        have HFL := Lib.hid hfl'
        have HKP := Lib.hid hkp
        have HO := Lib.hid ho
        clear hc hfl hkp ho hml e0 hfl' hd
        go_wp2_with fail
        refine HC.out.mono ?_
        rintro e w1 ⟨rfl, f1, hd1, k1, o1⟩
        have HD1 := Lib.hid hd1
        have HK1 := Lib.hid k1
        have HO1 := Lib.hid o1
        clear hd1 k1 o1
        go_wp2_with fail
        go_ret
        rw [← HR.out, HFL.out]
        simp only
        rw [if_pos trivial]
        exact ⟨rfl, f1, HD1.out, keep_step HKP.out HO.out HK1.out, own_step HKP.out HO.out HO1.out⟩
  · have hr : Nv.persist m a n = (m, 2) := by unfold Nv.persist; rw [if_pos hbad]
    rw [hr]
    clear hr
    have hbd : a < 0 ∨ n < 0 ∨ 8 * (m.L : Int) - n < a := by unfold badSpan at hbad; simpa using hbad
    by_cases h1 : a < 0
    · clear hbad hbd
      go_enter Tryd.func26, Tryd.ntmps26
      go_wp2_with fail
      go_ret
      exact ⟨rfl, h.to⟩
    · by_cases h2 : n < 0
      · clear hbad hbd
        go_enter Tryd.func26, Tryd.ntmps26
        go_wp2_with fail
        go_ret
        exact ⟨rfl, h.to⟩
      · have h3 : 8 * (m.L : Int) - n < a := by omega
        clear hbad hbd
        go_enter Tryd.func26, Tryd.ntmps26
        go_wp2_with (go_at_call 35; refine (len_any h).mono ?_; rintro e w' ⟨rfl, rfl⟩)
        go_ret
        exact ⟨rfl, h.to⟩
end

end Go.Proofs.YtpgkplknfhdmgaaDoor
