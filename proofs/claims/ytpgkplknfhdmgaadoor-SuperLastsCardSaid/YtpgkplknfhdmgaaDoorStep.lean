/- A step; small calls on a device. -/
import Derived.Test.YtpgkplknfhdmgaaDoorDev
namespace Go.Proofs.YtpgkplknfhdmgaaDoor
open Go.ChangeShapes Go.WideShapes Go.ChangeAt Go.RowKit Nv
set_option linter.unusedVariables false

theorem stops_false {m : Mdl} (h : stops m = false) : m.dead = false ∧ m.fuse ≠ 0 := by
  unfold stops at h; simpa using h
theorem stops_true {m : Mdl} (h : stops m = true) : m.dead = true ∨ m.fuse = 0 := by
  unfold stops at h; simpa using h

section
variable {w : World} {p : Nat} {f : Fp} {m : Mdl}

set_option maxHeartbeats 400000 in
theorem step_go (h : Dev w p f m) (hs : stops m = false) (hb : m.steps < 4611686018427387904) :
    Calls Tryd.prog 37 #[.pointer (some ⟨p, 0, none⟩)] w fun e w' => e = .returned (.bool true) ∧ ∃ f', Dev w' p f' (stepM m) ∧ Keep (f.own p) w w' ∧ (∀ b, f'.own p b → f.own p b ∨ w.heap.size ≤ b) ∧ f'.n = f.n := by
  obtain ⟨hdead, hfz⟩ := stops_false hs
  have c4 := h.c4
  have c5 := h.c5
  have c6 := h.c6
  rw [hdead] at c6
  have f4 := h.frozen 4
  have f5 := h.frozen 5
  have hf := h.hf
  have hlo := h.hlo
  have hn' := h.hn'
  have hlz : f.left ≠ 0 := fun e => hfz (by rw [← hf, e]; decide)
  have hst0 : 0 ≤ m.steps := by omega
  have H := Lib.hid h
  have HF := Lib.hid hf
  have HD := Lib.hid hdead
  clear h hf hdead hs
  have hle : ((f.left : Int) == 0) = false := by simpa using hlz
  obtain ⟨hlo1, hlo2⟩ := hlo
  by_cases hpos : 0 < f.left
  · go_enter Tryd.func37, Tryd.ntmps37
    go_wp2
    go_ret
    refine ⟨rfl, ?_⟩
    have hf := HF.out
    have h1 := H.out.field { f with left := f.left - 1 } { m with fuse := m.fuse - 1 } 4 (.int .i64 (f.left - 1)) rfl rfl rfl rfl rfl rfl rfl rfl rfl rfl rfl rfl rfl H.out.hn' (by simp only; omega) (by simp only; omega)
    have h2 := h1.field { f with left := f.left - 1 } (stepM m) 5 (.int .i64 (m.steps + 1)) rfl rfl rfl rfl rfl rfl rfl rfl rfl rfl rfl rfl rfl (by simp only [stepM]; omega) (by simp only [stepM]; rw [if_pos (by omega)]; omega) (by simp only; omega)
    exact ⟨_, h2, ((Keep.refl _ w).setCell (fun _ => own_p f p) _).setCell (fun _ => own_p f p) _, fun b h => .inl h, rfl⟩
  · go_enter Tryd.func37, Tryd.ntmps37
    go_wp2
    go_ret
    refine ⟨rfl, ?_⟩
    have hf := HF.out
    have h2 := H.out.field f (stepM m) 5 (.int .i64 (m.steps + 1)) rfl rfl rfl rfl rfl rfl rfl rfl rfl rfl rfl rfl rfl (by simp only [stepM]; omega) (by simp only [stepM]; rw [if_neg (by omega)]; omega) ⟨hlo1, hlo2⟩
    exact ⟨_, h2, (Keep.refl _ w).setCell (fun _ => own_p f p) _, fun b h => .inl h, rfl⟩

set_option maxHeartbeats 400000 in
theorem step_no (h : Dev w p f m) (hs : stops m = true) :
    Calls Tryd.prog 37 #[.pointer (some ⟨p, 0, none⟩)] w fun e w' => e = .returned (.bool false) ∧ DevTo p f (deadM m) w w' := by
  have c4 := h.c4
  have c6 := h.c6
  have f6 := h.frozen 6
  have H := Lib.hid h
  have hf := h.hf
  by_cases hl : f.left = 0
  · have hle : ((f.left : Int) == 0) = true := by simpa using hl
    clear h hl hs hf
    go_enter Tryd.func37, Tryd.ntmps37
    go_wp2
    go_ret
    refine ⟨rfl, ?_⟩
    have h2 := H.out.field f (deadM m) 6 (.bool true) rfl rfl rfl rfl rfl rfl rfl rfl rfl rfl rfl rfl rfl H.out.hn' H.out.hf H.out.hlo
    exact ⟨_, h2, (Keep.refl _ w).setCell (fun _ => own_p f p) _, fun b h => .inl h⟩
  · have hle : ((f.left : Int) == 0) = false := by simpa using hl
    have hd : m.dead = true := (stops_true hs).resolve_right (fun e => hl (by rw [e] at hf; omega))
    have hm : deadM m = m := by cases m; simp only at hd; subst hd; rfl
    rw [hd] at c6
    rw [hm]
    clear h hl hs hf hd hm
    go_enter Tryd.func37, Tryd.ntmps37
    go_wp2
    go_ret
    exact ⟨rfl, H.out.to⟩

theorem len_any (h : Dev w p f m) :
    Calls Tryd.prog 35 #[.pointer (some ⟨p, 0, none⟩)] w fun e w' => e = .returned (.int .i64 ((8 * m.L : Nat) : Int)) ∧ w = w' := by
  have c1 := h.c1
  have hL := h.hL
  clear h
  go_enter Tryd.func35, Tryd.ntmps35
  go_wp2
  go_ret
  exact ⟨by first | rfl | (apply ret_int; omega), rfl⟩

theorem lines_any (h : Dev w p f m) :
    Calls Tryd.prog 46 #[.pointer (some ⟨p, 0, none⟩)] w fun e w' => e = .returned (.int .i64 ((m.L : Nat) : Int)) ∧ w = w' := by
  have c2 := h.c2
  have hL := h.hL
  clear h
  go_enter Tryd.func46, Tryd.ntmps46
  go_wp2
  go_ret
  exact ⟨rfl, rfl⟩

theorem steps_any (h : Dev w p f m) :
    Calls Tryd.prog 16 #[.pointer (some ⟨p, 0, none⟩)] w fun e w' => e = .returned (.int .i64 m.steps) ∧ w = w' := by
  have c5 := h.c5
  clear h
  go_enter Tryd.func16, Tryd.ntmps16
  go_wp2
  go_ret
  exact ⟨rfl, rfl⟩

theorem hasW_cast {m : Mdl} {a : Int} (h : hasW m a = true) : ∃ k : Nat, a = k ∧ k < 8 * m.L := by
  unfold hasW at h
  simp only [decide_eq_true_eq] at h
  exact ⟨a.toNat, by omega, by omega⟩
theorem hasL_cast {m : Mdl} {a : Int} (h : hasL m a = true) : ∃ k : Nat, a = k ∧ k < m.L := by
  unfold hasL at h
  simp only [decide_eq_true_eq] at h
  exact ⟨a.toNat, by omega, by omega⟩

set_option maxHeartbeats 400000 in
theorem hasWord_any (h : Dev w p f m) (a : Int) :
    Calls Tryd.prog 36 #[.pointer (some ⟨p, 0, none⟩), .int .i64 a] w fun e w' => e = .returned (.bool (hasW m a)) ∧ w = w' := by
  have hL := h.hL
  by_cases h0 : 0 ≤ a
  · go_enter Tryd.func36, Tryd.ntmps36
    go_wp2_with (go_at_call 35; refine (len_any h).mono ?_; rintro e w' ⟨rfl, rfl⟩)
    go_ret
    refine ⟨ret_bool ?_, rfl⟩
    unfold hasW
    rw [Bool.eq_iff_iff]; simp; omega
  · go_enter Tryd.func36, Tryd.ntmps36
    go_wp2_with fail
    go_ret
    refine ⟨ret_bool ?_, rfl⟩
    unfold hasW
    rw [Bool.eq_iff_iff]; simp; omega

set_option maxHeartbeats 400000 in
theorem hasLine_any (h : Dev w p f m) (a : Int) :
    Calls Tryd.prog 43 #[.pointer (some ⟨p, 0, none⟩), .int .i64 a] w fun e w' => e = .returned (.bool (hasL m a)) ∧ w = w' := by
  have hL := h.hL
  by_cases h0 : 0 ≤ a
  · go_enter Tryd.func43, Tryd.ntmps43
    go_wp2_with (go_at_call 46; refine (lines_any h).mono ?_; rintro e w' ⟨rfl, rfl⟩)
    go_ret
    refine ⟨ret_bool ?_, rfl⟩
    unfold hasL
    rw [Bool.eq_iff_iff]; simp; omega
  · go_enter Tryd.func43, Tryd.ntmps43
    go_wp2_with fail
    go_ret
    refine ⟨ret_bool ?_, rfl⟩
    unfold hasL
    rw [Bool.eq_iff_iff]; simp; omega

set_option maxHeartbeats 400000 in
theorem get_any (h : Dev w p f m) (a : Int) :
    Calls Tryd.prog 23 #[.pointer (some ⟨p, 0, none⟩), .int .i64 a] w fun e w' => e = .returned (.int .u64 (getNow m a)) ∧ w = w' := by
  have hL := h.hL
  have c1 := h.c1
  by_cases hw : hasW m a = true
  · have hg : getNow m a = m.now a.toNat := by unfold getNow; rw [if_pos hw]
    obtain ⟨k, rfl, hk⟩ := hasW_cast hw
    have ck := h.hn.cell hk
    have hk' : (k : Int) < ((8 * m.L : Nat) : Int) := by omega
    have HG := Lib.hid hg
    clear hg
    go_enter Tryd.func23, Tryd.ntmps23
    go_wp2_with (go_at_call 36; refine (hasWord_any h _).mono ?_; rintro e w' ⟨rfl, rfl⟩)
    go_ret
    exact ⟨ret_int HG.out.symm, rfl⟩
  · have hg : getNow m a = 0 := by unfold getNow; rw [if_neg hw]
    have HG := Lib.hid hg
    have hw' : hasW m a = false := by simpa using hw
    clear hg hw
    go_enter Tryd.func23, Tryd.ntmps23
    go_wp2_with (go_at_call 36; refine (hasWord_any h _).mono ?_; rintro e w' ⟨rfl, rfl⟩)
    go_ret
    exact ⟨ret_int HG.out.symm, rfl⟩

end

end Go.Proofs.YtpgkplknfhdmgaaDoor
