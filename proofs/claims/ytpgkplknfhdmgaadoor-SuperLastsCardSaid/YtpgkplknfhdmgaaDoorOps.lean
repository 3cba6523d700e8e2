/- Parts of a list; are two parts the same? A word is stored, a line is flushed. -/
import Derived.Test.YtpgkplknfhdmgaaDoorCopy
namespace Go.Proofs.YtpgkplknfhdmgaaDoor
open Go.ChangeShapes Go.WideShapes Go.ChangeAt Go.RowKit Nv
set_option linter.unusedVariables false

theorem part_any (w : World) (b n cap i : Nat) (hi : 8 * i + 8 ≤ n) (hc : n ≤ cap) (hn : cap ≤ 1000000000) :
    Calls Tryd.prog 29 #[.slice (some ⟨b, 0, none⟩) n cap, .int .i64 i] w fun e w' => e = .returned (.slice (some ⟨b, 8 * i, none⟩) 8 8) ∧ w = w' := by
  have e1 : ((i : Int) * 8).toNat = 8 * i := by omega
  have e2 : ((i : Int) * 8 + 8).toNat = 8 * i + 8 := by omega
  have h1 : (i : Int) * 8 + 8 ≤ (n : Int) := by omega
  have h2 : (i : Int) * 8 + 8 ≤ (cap : Int) := by omega
  have h0 : 0 ≤ (i : Int) * 8 := by omega
  go_enter Tryd.func29, Tryd.ntmps29
  go_wp2
  go_ret
  exact ⟨rfl, rfl⟩

theorem eq8_true {f g : Nat → Int} (h : ∀ j, j < 8 → f j = g j) : eq8 f g = true := by
  unfold eq8; rw [List.all_eq_true]; intro j hj; simp only [List.mem_range] at hj; simpa using h j hj
theorem eq8_false {f g : Nat → Int} {j : Nat} (hj : j < 8) (h : f j ≠ g j) : eq8 f g = false := by
  unfold eq8; rw [List.all_eq_false]; exact ⟨j, by simpa using hj, by simpa using h⟩

set_option maxHeartbeats 400000 in
theorem equal_any (w : World) (b1 b2 o1 o2 : Nat) (c g : Nat → Int) (h1 : ∀ j, j < 8 → w.cell? ⟨b1, o1 + j, none⟩ = some (.int .u64 (c j))) (h2 : ∀ j, j < 8 → w.cell? ⟨b2, o2 + j, none⟩ = some (.int .u64 (g j))) :
    Calls Tryd.prog 44 #[.slice (some ⟨b1, o1, none⟩) 8 8, .slice (some ⟨b2, o2, none⟩) 8 8] w fun e w' => e = .returned (.bool (eq8 c g)) ∧ ∃ n, w' = w.drewN n := by
  have H1 := Lib.hid h1
  have H2 := Lib.hid h2
  clear h1 h2
  go_enter Tryd.func44, Tryd.ntmps44
  go_wp2
  go_loopw [5, 13] (fun _ i wr => ∃ k n : Nat, k ≤ 8 ∧ i = .int .i64 k ∧ (∀ j, j < k → c j = g j) ∧ wr = w.drewN n) (fun _ i _ => 8 - (intOf i).toNat)
  case atStart => exact ⟨0, 0, by omega, rfl, by intro j hj; omega, rfl⟩
  case round =>
    obtain ⟨k, n, hk, rfl, heq, rfl⟩ := hrel
    have HE := Lib.hid heq
    clear heq
    by_cases hlt : k < 8
    · have c1 := H1.out k hlt
      have c2 := H2.out k hlt
      have hlt' : (k : Int) < 8 := by omega
      have hk0 : (0 : Int) ≤ (k : Int) := by omega
      by_cases hx : c k = g k
      · rw [← hx] at c2
        have HX := Lib.hid hx
        clear hx
        generalize c k = x at c1 c2
        go_wp2_with fail
        go_quiet (fail)
        go_wp2_with fail
        go_roundw
        case rel =>
          refine ⟨k + 1, _, by omega, by go_num, fun j hj => ?_, rfl⟩
          rcases Nat.lt_succ_iff_lt_or_eq.1 hj with h | rfl
          · exact HE.out j h
          · exact HX.out
        case measure => simp [intOf]; omega
      · have hf := eq8_false hlt hx
        generalize c k = x at c1 hx
        generalize g k = y at c2 hx
        have hxy : ((x : Int) != y) = true := by simpa using hx
        have HF := Lib.hid hf
        clear hf hx
        go_wp2_with fail
        go_quiet (fail)
        go_wp2_with fail
        go_ret
        exact ⟨ret_bool HF.out.symm, _, World.drewN_drewN _ _ _⟩
    · have hlt' : ¬ (k : Int) < 8 := by omega
      obtain rfl : k = 8 := by omega
      have ht := eq8_true HE.out
      have HT := Lib.hid ht
      clear ht
      go_wp2_with fail
      go_ret
      exact ⟨ret_bool HT.out.symm, _, rfl⟩

section
variable {w : World} {p : Nat} {f : Fp} {m : Mdl}

def CodeTo (p : Nat) (f : Fp) (r : Mdl × Int) (w : World) (e : Ending) (w' : World) : Prop := e = .returned (.int .i64 r.2) ∧ DevTo p f r.1 w w'

set_option maxHeartbeats 400000 in
theorem store_any (h : Dev w p f m) (a x : Int) (hb : m.steps < 4611686018427387904) :
    Calls Tryd.prog 25 #[.pointer (some ⟨p, 0, none⟩), .int .i64 a, .int .u64 x] w (CodeTo p f (Nv.store m a x) w) := by
  have hL := h.hL
  by_cases hw : hasW m a = true
  · obtain ⟨k, rfl, hk⟩ := hasW_cast hw
    cases hs : stops m
    · have hr : Nv.store m k x = (Nv.setDirty (Nv.setNow (stepM m) k x) (k / 8) true, 0) := by unfold Nv.store; rw [if_neg (by rw [hw]; decide), if_neg (by rw [hs]; decide)]; rfl
      rw [hr]
      clear hr
      go_enter Tryd.func25, Tryd.ntmps25
      go_wp2_with fail
      refine (hasWord_any h _).mono ?_
      rintro e w' ⟨rfl, rfl⟩
      go_wp2_with fail
      refine (step_go h hs hb).mono ?_
      rintro e w1 ⟨rfl, f1, h1, k1, o1, -⟩
      have hs' := Lib.hid hs
      clear hs
      have c1 := h1.c1
      have e1 : w1.frozen? ⟨f1.bn, k, none⟩ = false := h1.hn.frozen k
      have h2 := h1.setNow k x
      have c2 := h2.c2
      have e2 := h2.hd.frozen (k / 8)
      have hkL : k / 8 < m.L := by omega
      have hc1 : w1.cell? ⟨f1.bn, k, none⟩ = some (.int .u64 ((stepM m).now k)) := h1.hn.cell (by exact hk)
      have hc2 := h2.hd.cell (k := k / 8) (by exact hkL)
      have HL : (stepM m).L = m.L := rfl
      have HL2 : (Nv.setNow (stepM m) k x).L = m.L := rfl
      rw [HL] at c1
      rw [HL2] at c2
      have hk' : (k : Int) < ((8 * m.L : Nat) : Int) := by omega
      have hkL' : (k : Int) / 8 < ((m.L : Nat) : Int) := by omega
      have hk0 : (0 : Int) ≤ (k : Int) / 8 := by omega
      have hkn : ((k : Int) / 8).toNat = k / 8 := by omega
      have h3 := h2.setDirty (k / 8) true
      have H3 := Lib.hid h3
      have K1 := Lib.hid k1
      have O1 := Lib.hid o1
      have H0 := Lib.hid h
      clear h3 h2 h1 k1 o1 HL HL2 h hw
      go_wp2_with fail
      go_ret
      exact ⟨rfl, _, H3.out, (K1.out.setCell (fun hl => (O1.out _ (own_bn f1 p)).resolve_right (Nat.not_le.2 hl)) _).setCell (fun hl => (O1.out _ (own_bd f1 p)).resolve_right (Nat.not_le.2 hl)) _, O1.out⟩
    · have hr : Nv.store m k x = (deadM m, 3) := by unfold Nv.store; rw [if_neg (by rw [hw]; decide), if_pos hs]
      rw [hr]
      clear hr
      go_enter Tryd.func25, Tryd.ntmps25
      go_wp2_with fail
      refine (hasWord_any h _).mono ?_
      rintro e w' ⟨rfl, rfl⟩
      go_wp2_with fail
      refine (step_no h hs).mono ?_
      rintro e w1 ⟨rfl, h1⟩
      have H1 := Lib.hid h1
      clear h1 hs hw h
      go_wp2_with fail
      go_ret
      exact ⟨rfl, H1.out⟩
  · have hw' : hasW m a = false := by simpa using hw
    have hr : Nv.store m a x = (m, 2) := by unfold Nv.store; rw [if_pos hw']
    rw [hr]
    clear hr hw
    go_enter Tryd.func25, Tryd.ntmps25
    go_wp2_with fail
    refine (hasWord_any h _).mono ?_
    rintro e w' ⟨rfl, rfl⟩
    go_wp2_with fail
    go_ret
    exact ⟨rfl, h.to⟩

theorem makeLine (w : World) : (Instr.makeSlice 36 (.int .i64 8) (.int .i64 8)).run Tryd.prog w = .ok (.slice (some ⟨w.heap.size, 0, none⟩) 8 8) (w.alloc (.cells #[.int .u64 0, .int .u64 0, .int .u64 0, .int .u64 0, .int .u64 0, .int .u64 0, .int .u64 0, .int .u64 0] 22)) := by kernel_rfl

set_option maxHeartbeats 400000 in
theorem flush_any (h : Dev w p f m) (a : Int) (hb : m.steps < 4611686018427387904) :
    Calls Tryd.prog 39 #[.pointer (some ⟨p, 0, none⟩), .int .i64 a] w (CodeTo p f (Nv.flush m a) w) := by
  have hL := h.hL
  by_cases hw : hasL m a = true
  · obtain ⟨k, rfl, hk⟩ := hasL_cast hw
    have hk' : (k : Int) < ((m.L : Nat) : Int) := by omega
    cases hs : stops m
    · have hr : Nv.flush m k = (flushM m k, 0) := by unfold Nv.flush; rw [if_neg (by rw [hw]; decide), if_neg (by rw [hs]; decide)]; rfl
      rw [hr]
      clear hr
      cases hd : m.dirty k
      · have hfm : flushM m k = stepM m := by unfold flushM; rw [if_neg (by rw [hd]; decide)]
        rw [hfm]
        clear hfm
        go_enter Tryd.func39, Tryd.ntmps39
        go_wp2_with fail
        refine (hasLine_any h _).mono ?_
        rintro e w' ⟨rfl, rfl⟩
        go_wp2_with fail
        refine (step_go h hs hb).mono ?_
        rintro e w1 ⟨rfl, f1, h1, k1, o1, -⟩
        have c2 : w1.cell? ⟨p, 2, none⟩ = some (.slice (some ⟨f1.bd, 0, none⟩) m.L m.L) := h1.c2
        have hc := h1.hd.cell (k := k) (by exact hk)
        rw [show (stepM m).dirty k = m.dirty k from rfl, hd] at hc
        have T := Lib.hid (DevTo.mk h1 k1 o1)
        clear h1 k1 o1 h hs hd
        go_wp2_with fail
        go_ret
        exact ⟨rfl, T.out⟩
      · have hfm : flushM m k = Nv.setWait (stepM m) k (some (lineOf m.now k)) := by unfold flushM; rw [if_pos hd]
        rw [hfm]
        clear hfm
        have hmk := makeLine
        have hst := h.hn'
        go_enter Tryd.func39, Tryd.ntmps39
        go_wp2_with fail
        refine (hasLine_any h _).mono ?_
        rintro e w' ⟨rfl, rfl⟩
        go_wp2_with fail
        refine (step_go h hs hb).mono ?_
        rintro e w1 ⟨rfl, f1, h1, k1, o1, hn1⟩
        have c2 : w1.cell? ⟨p, 2, none⟩ = some (.slice (some ⟨f1.bd, 0, none⟩) m.L m.L) := h1.c2
        have hc := h1.hd.cell (k := k) (by exact hk)
        rw [show (stepM m).dirty k = m.dirty k from rfl, hd] at hc
        have h2 := h1.alloc (.cells #[.int .u64 0, .int .u64 0, .int .u64 0, .int .u64 0, .int .u64 0, .int .u64 0, .int .u64 0, .int .u64 0] 22)
        have r2 : Row (w1.alloc (.cells #[.int .u64 0, .int .u64 0, .int .u64 0, .int .u64 0, .int .u64 0, .int .u64 0, .int .u64 0, .int .u64 0] 22)) w1.heap.size 22 8 (fun _ => .int .u64 0) :=
          Row.new w1 _ _ 8 _ rfl (fun k hk => by match k, hk with | 0, _ | 1, _ | 2, _ | 3, _ | 4, _ | 5, _ | 6, _ | 7, _ => rfl)
        have k2 := k1.alloc (.cells #[.int .u64 0, .int .u64 0, .int .u64 0, .int .u64 0, .int .u64 0, .int .u64 0, .int .u64 0, .int .u64 0] 22)
        have c1 : (w1.alloc (.cells #[.int .u64 0, .int .u64 0, .int .u64 0, .int .u64 0, .int .u64 0, .int .u64 0, .int .u64 0, .int .u64 0] 22)).cell? ⟨p, 1, none⟩ = some (.slice (some ⟨f1.bn, 0, none⟩) (8 * m.L) (8 * m.L)) := h2.c1
        have HN1 := Lib.hid hn1
        have HH := Lib.hid (And.intro h1 (And.intro h2 (And.intro r2 (And.intro k1 (And.intro k2 o1)))))
        have H0 := Lib.hid h
        clear h1 h2 r2 k1 k2 o1 h hs hd hn1
        go_wp2_with fail
        refine (part_any _ f1.bn (8 * m.L) (8 * m.L) k (by omega) (by omega) (by omega)).mono ?_
        rintro e w' ⟨rfl, rfl⟩
        obtain ⟨h1, h2, r2, k1, k2, o1⟩ := HH.out
        have hpos : ∀ j, j < 8 → (w1.alloc (.cells #[.int .u64 0, .int .u64 0, .int .u64 0, .int .u64 0, .int .u64 0, .int .u64 0, .int .u64 0, .int .u64 0] 22)).cell? ((⟨f1.bn, 8 * k, none⟩ : Addr).add j) = some (.int .u64 (m.now (8 * k + j))) :=
          fun j hj => by rw [addr_add]; exact h2.hn.cell (k := 8 * k + j) (by show _ < 8 * m.L; omega)
        have HP := Lib.hid hpos
        have R2 := Lib.hid r2
        have hmax : f1.n < maxLen := by rw [HN1.out]; unfold maxLen; omega
        have hkey : keyOf Tryd.prog 3 (.int .i64 k) = some (.int .i64 k) := Go.Maps.keyOf_int_mk Tryd.underlying3 (WalkArith.wf_i64 (by omega))
        have HK := Lib.hid hkey
        have hsup : ∀ w2, Keep (fun i => i = w1.heap.size) (w1.alloc (.cells #[.int .u64 0, .int .u64 0, .int .u64 0, .int .u64 0, .int .u64 0, .int .u64 0, .int .u64 0, .int .u64 0] 22)) w2 → Dev w2 p f1 (stepM m) :=
          fun w2 k3 => h2.keep k3 (fun b hb ho e => by have := h1.own_all b ho; omega)
        have HS := Lib.hid hsup
        clear h1 h2 r2 k1 k2 o1 hpos hkey hsup
        go_wp2_with (first
          | ((with_reducible refine wpList_copy_cells rfl _ _ 36 36 rfl 22 Tryd.underlying36 infoU64s _ _ 8 8 8 8 rfl rfl w1.heap.size 0 8 22 _ (fun j => .int .u64 (m.now (8 * k + j))) 8 R2.out rfl (fun _ => ⟨rfl, _, rfl, HP.out⟩) (by omega) (fun _ => rfl) ?_); intro w2 r3 k3; have h3 := HS.out w2 k3; have c3 := h3.c3; have H3 := Lib.hid h3; have R3 := Lib.hid r3; have K3 := Lib.hid k3; clear h3 r3 k3)
          | (at_mapUpdate; refine wpList_mapUpdate_own _ rfl _ _ _ 54 rfl 3 36 keyI Tryd.underlying54 blkElem f1.bm f1.n f1.D rfl H3.out.hm hmax _ _ _ rfl rfl HK.out _ [] (blkElem_mk w1.heap.size) ?_; intro w4 ho4 hg4; have HO := Lib.hid ho4; have HG := Lib.hid hg4; clear ho4 hg4))
        go_ret
        obtain ⟨h1, h2, r2, k1, k2, o1⟩ := HH.out
        have h3 := H3.out
        have r3 := R3.out
        have hst' : (f1.n : Int) + 1 ≤ (stepM m).steps := by rw [HN1.out]; show _ ≤ m.steps + 1; omega
        have hlt := h1.own_lt
        have h4 := h3.setWait (c := lineOf m.now k) (i := k) (by exact hk) (r3.congr fun j hj => by rw [if_pos (by omega)]; rfl) (by omega) (by omega) hst' HO.out HG.out
        refine ⟨rfl, _, h4, (k2.trans K3.out fun i hi e => by have := k1.size; omega).trans (Keep.ofGrown (S := fun i => i = f1.bm) HG.out (by intro b hb; cases hb; rfl)) fun i hi e => ?_, fun b hb => ?_⟩
        · subst e; exact (o1 _ (own_bm f1 p)).resolve_right (by omega)
        · have hz := k1.size
          rcases hb with e | e | e | e | e | e | e
          · exact .inl (.inl e)
          · exact o1 b (.inr (.inl e))
          · exact o1 b (.inr (.inr (.inl e)))
          · exact o1 b (.inr (.inr (.inr (.inl e))))
          · exact o1 b (.inr (.inr (.inr (.inr (.inl e)))))
          · exact o1 b (own_pb e)
          · right; omega
    · have hr : Nv.flush m k = (deadM m, 3) := by unfold Nv.flush; rw [if_neg (by rw [hw]; decide), if_pos hs]
      rw [hr]
      clear hr
      go_enter Tryd.func39, Tryd.ntmps39
      go_wp2_with fail
      refine (hasLine_any h _).mono ?_
      rintro e w' ⟨rfl, rfl⟩
      go_wp2_with fail
      refine (step_no h hs).mono ?_
      rintro e w1 ⟨rfl, h1⟩
      have H1 := Lib.hid h1
      clear h1 hs hw h
      go_wp2_with fail
      go_ret
      exact ⟨rfl, H1.out⟩
  · have hw' : hasL m a = false := by simpa using hw
    have hr : Nv.flush m a = (m, 2) := by unfold Nv.flush; rw [if_pos hw']
    rw [hr]
    clear hr hw
    go_enter Tryd.func39, Tryd.ntmps39
    go_wp2_with fail
    refine (hasLine_any h _).mono ?_
    rintro e w' ⟨rfl, rfl⟩
    go_wp2_with fail
    go_ret
    exact ⟨rfl, h.to⟩
end

end Go.Proofs.YtpgkplknfhdmgaaDoor
