/- Texts of the proof, merged: Persist, New, App, Load, Crash, Rv, RefBox, RefSmall, RefRead10. -/
import Derived.Test.YtaigocnnmjjhgaaDoorPk3
import Derived.BigRegion
import Derived.Test.YtaigocnnmjjhgaaDoorPk1
import Derived.Maps.AppendAt
import Derived.Laws.AppendOwnNone
import Derived.Deep.MidRow
import Derived.Deep.DeepCutAuto
import Derived.Test.YtaigocnnmjjhgaaDoorPk2
namespace Go.Proofs.YtaigocnnmjjhgaaDoor
open Go.ChangeShapes Go.WideShapes Go.ChangeAt Go.RowKit Nv
set_option linter.unusedVariables false

set_option maxHeartbeats 400000 in
theorem linesOf_any (a n : Int) (w : World) (ha : 0 ≤ a) (hn : 0 ≤ n) (hb : a + n ≤ 1000000000) :
    Calls Tryd.prog 48 #[.int .i64 a, .int .i64 n] w fun e w' => e = .returned (.tuple #[.int .i64 (firstLine a n : Nat), .int .i64 (endLine a n : Nat)]) ∧ w = w' := by
  by_cases h0 : n = 0
  · subst h0
    have e1 : firstLine a 0 = 0 := rfl
    have e2 : endLine a 0 = 0 := rfl
    rw [e1, e2]
    clear e1 e2
    go_enter Tryd.func48, Tryd.ntmps48
    go_wp2
    go_ret2
    exact ⟨rfl, rfl⟩
  · have h0' : ((n : Int) == 0) = false := by simpa using h0
    have e1 : ((firstLine a n : Nat) : Int) = a / 8 := by unfold firstLine; rw [if_neg h0]; omega
    have e2 : ((endLine a n : Nat) : Int) = upS (a + n) 8 := by rw [upS_of _ _ (by omega) (by omega)]; unfold endLine; rw [if_neg h0]; omega
    rw [e1, e2]
    clear e1 e2
    go_enter Tryd.func48, Tryd.ntmps48
    go_wp2_with fail
    refine (up_any _ _ _ (by omega) (by omega)).mono ?_
    rintro e w' ⟨rfl, rfl⟩
    go_wp2_with fail
    go_ret2
    exact ⟨rfl, rfl⟩

theorem flush_L (m : Mdl) (l : Int) : (Nv.flush m l).1.L = m.L := by
  unfold Nv.flush; split
  · rfl
  · split
    · rfl
    · unfold flushM; split <;> rfl
theorem flush_steps (m : Mdl) (l : Int) : (Nv.flush m l).1.steps ≤ m.steps + 1 := by
  unfold Nv.flush; split
  · simp only; omega
  · split
    · simp only [deadM]; omega
    · unfold flushM; split <;> simp only [Nv.setWait, stepM] <;> omega
theorem flushes_succ (m : Mdl) (a n : Nat) : flushes m a (n + 1) = if (Nv.flush m a).2 = 0 then flushes (Nv.flush m a).1 (a + 1) n else Nv.flush m a := rfl

section
variable {w : World} {p : Nat} {f : Fp} {m : Mdl}

set_option maxHeartbeats 1000000 in
theorem persist_any (h : Dev w p f m) (a n : Int) (hb : m.steps < 2305843009213693952) (ha1 : -9223372036854775808 ≤ a) (ha2 : a ≤ 9223372036854775807) (hn1 : -9223372036854775808 ≤ n) (hn2 : n ≤ 9223372036854775807) :
    Calls Tryd.prog 32 #[.pointer (some ⟨p, 0, none⟩), .int .i64 a, .int .i64 n] w (CodeTo p f (Nv.persist m a n) w) := by
  have hL := h.hL
  cases hbad : badSpan m a n
  · have hr : Nv.persist m a n = (if (flushes m (firstLine a n) (endLine a n - firstLine a n)).2 = 0 then Nv.fence (flushes m (firstLine a n) (endLine a n - firstLine a n)).1 else flushes m (firstLine a n) (endLine a n - firstLine a n)) := by unfold Nv.persist; rw [if_neg (by rw [hbad]; decide)]
    rw [hr]
    clear hr
    obtain ⟨h1, h2, h3⟩ : 0 ≤ a ∧ 0 ≤ n ∧ a ≤ 8 * (m.L : Int) - n := by unfold badSpan at hbad; simp at hbad; omega
    have hfe : firstLine a n ≤ endLine a n ∧ endLine a n ≤ m.L := by unfold firstLine endLine; split <;> omega
    obtain ⟨hfe1, hfe2⟩ := hfe
    have hln := fun w => linesOf_any a n w h1 h2 (by omega)
    generalize firstLine a n = s at hfe1 hln ⊢
    generalize endLine a n = t at hfe1 hfe2 hln ⊢
    generalize hR : (if (flushes m s (t - s)).2 = 0 then Nv.fence (flushes m s (t - s)).1 else flushes m s (t - s)) = R
    have HR := Lib.hid hR
    have HLN := Lib.hid hln
    have H := Lib.hid h
    have hst := h.hn'
    clear hR hln hbad
    go_enter Tryd.func32, Tryd.ntmps32
    go_wp2_with (first
      | (go_at_call 47; refine (len_any h).mono ?_; rintro e w' ⟨rfl, rfl⟩)
      | (go_at_call 48; refine (HLN.out _).mono ?_; rintro e w' ⟨rfl, rfl⟩))
    clear h
    go_loopw [7, 9] (fun x _ wr => ∃ (k : Nat) (fk : Fp) (mk : Mdl), x = .int .i64 (s + k : Nat) ∧ s + k ≤ t ∧ Dev wr p fk mk ∧ Keep (f.own p) w wr ∧ (∀ b, fk.own p b → f.own p b ∨ w.heap.size ≤ b) ∧ mk.L = m.L ∧ mk.steps ≤ m.steps + k ∧ flushes m s (t - s) = flushes mk (s + k) (t - s - k))
      (fun x _ _ => t - (intOf x).toNat)
    case atStart => exact ⟨0, f, m, rfl, hfe1, H.out, Keep.refl _ _, fun b h => .inl h, rfl, by omega, rfl⟩
    case round =>
      obtain ⟨k, fk, mk, rfl, hk, hd, hkp, ho, hml, hms, hfl⟩ := hrel
      by_cases hlt : s + k < t
      · have hlt' : ((s + k : Nat) : Int) < (t : Int) := by omega
        have hc := flush_any hd ((s + k : Nat) : Int) (by omega)
        have hcL := flush_L mk ((s + k : Nat) : Int)
        have hcs := flush_steps mk ((s + k : Nat) : Int)
        rw [show t - s - k = (t - s - k - 1) + 1 from by omega, flushes_succ] at hfl
        rcases hfe : Nv.flush mk ((s + k : Nat) : Int) with ⟨m1, c⟩
        rw [hfe] at hc hcL hcs hfl
        simp only at hcL hcs hfl
        have HC := Lib.hid hc
        have HFL := Lib.hid hfl
        have HKP := Lib.hid hkp
        have HO := Lib.hid ho
        have HML := Lib.hid hml
        have HCL := Lib.hid hcL
        clear hc hfl hkp ho hml hcL hfe hd
        by_cases hc0 : c = 0
        · have hcb : ((c : Int) != 0) = false := by simpa using hc0
          have HC0 := Lib.hid hc0
          clear hc0
          go_wp2_with fail
          refine HC.out.mono ?_
          rintro e w1 ⟨rfl, f1, hd1, k1, o1⟩
          have HD1 := Lib.hid hd1
          have HK1 := Lib.hid k1
          have HO1 := Lib.hid o1
          clear hd1 k1 o1
          go_wp2_with fail
          go_roundw
          case rel => exact ⟨k + 1, f1, m1, by go_num, by omega, HD1.out, keep_step HKP.out HO.out HK1.out, own_step HKP.out HO.out HO1.out, by rw [HCL.out, HML.out], by omega, by rw [HFL.out, if_pos HC0.out]; rfl⟩
          case measure => simp [intOf]; omega
        · have hcb : ((c : Int) != 0) = true := by simpa using hc0
          have HC0 := Lib.hid hc0
          clear hc0
          go_wp2_with fail
          refine HC.out.mono ?_
          rintro e w1 ⟨rfl, f1, hd1, k1, o1⟩
          have HD1 := Lib.hid hd1
          have HK1 := Lib.hid k1
          have HO1 := Lib.hid o1
          clear hd1 k1 o1
          go_wp2_with fail
          go_ret
          rw [← HR.out, HFL.out, if_neg HC0.out]
          simp only
          rw [if_neg HC0.out]
          exact ⟨rfl, f1, HD1.out, keep_step HKP.out HO.out HK1.out, own_step HKP.out HO.out HO1.out⟩
      · have hlt' : ¬ ((s + k : Nat) : Int) < (t : Int) := by omega
        have hc := fence_any hd (by omega)
        have e0 : t - s - k = 0 := by omega
        rw [e0] at hfl
        have hfl' : flushes m s (t - s) = (mk, 0) := hfl
        have HC := Lib.hid hc
        have HFL := Lib.hid hfl'
        have HKP := Lib.hid hkp
        have HO := Lib.hid ho
        clear hc hfl hkp ho hml e0 hfl' hd
        go_wp2_with fail
        refine HC.out.mono ?_
        rintro e w1 ⟨rfl, f1, hd1, k1, o1⟩
        have HD1 := Lib.hid hd1
        have HK1 := Lib.hid k1
        have HO1 := Lib.hid o1
        clear hd1 k1 o1
        go_wp2_with fail
        go_ret
        rw [← HR.out, HFL.out]
        simp only
        rw [if_pos trivial]
        exact ⟨rfl, f1, HD1.out, keep_step HKP.out HO.out HK1.out, own_step HKP.out HO.out HO1.out⟩
  · have hr : Nv.persist m a n = (m, 2) := by unfold Nv.persist; rw [if_pos hbad]
    rw [hr]
    clear hr
    have hbd : a < 0 ∨ n < 0 ∨ 8 * (m.L : Int) - n < a := by unfold badSpan at hbad; simpa using hbad
    by_cases h1 : a < 0
    · clear hbad hbd
      go_enter Tryd.func32, Tryd.ntmps32
      go_wp2_with fail
      go_ret
      exact ⟨rfl, h.to⟩
    · by_cases h2 : n < 0
      · clear hbad hbd
        go_enter Tryd.func32, Tryd.ntmps32
        go_wp2_with fail
        go_ret
        exact ⟨rfl, h.to⟩
      · have h3 : 8 * (m.L : Int) - n < a := by omega
        clear hbad hbd
        go_enter Tryd.func32, Tryd.ntmps32
        go_wp2_with (go_at_call 47; refine (len_any h).mono ?_; rintro e w' ⟨rfl, rfl⟩)
        go_ret
        exact ⟨rfl, h.to⟩
end

end Go.Proofs.YtaigocnnmjjhgaaDoor

namespace Go.Proofs.YtaigocnnmjjhgaaDoor
open Go.ChangeShapes Go.WideShapes Go.ChangeAt Go.RowKit Nv
set_option linter.unusedVariables false

theorem madeCells_get {z : Array Value} {n k : Nat} {v : Value} (hz : z = #[v]) (hk : k < n) : (madeCells z n)[k]? = some v := by
  subst hz
  simp [madeCells, hk, Nat.mod_one]
theorem infoB : (Tryd.prog.info? 4).map (fun i => (i.zero, i.size, i.bytes)) = some (some (.bool false), 1, 1) := by kernel_rfl
theorem info_split {k : Nat} {z : Value} {b : Nat} (h : (Tryd.prog.info? k).map (fun i => (i.zero, i.size, i.bytes)) = some (some z, 1, b)) : ∃ i, Tryd.prog.info? k = some i ∧ i.zero = some z ∧ i.size = 1 ∧ i.bytes = b := by
  cases hi : Tryd.prog.info? k with
  | none => rw [hi] at h; cases h
  | some i => rw [hi] at h; simp at h; exact ⟨i, rfl, h.1, h.2.1, h.2.2⟩

theorem make_words (n : Nat) (hn : n ≤ 300000000) : ∃ C : Array Value, C.size = n ∧ (∀ k, k < n → C[k]? = some (.int .u64 0)) ∧
    ∀ w, (Instr.makeSlice 22 (.int .i64 n) (.int .i64 n)).run Tryd.prog w = .ok (.slice (some ⟨w.heap.size, 0, none⟩) n n) (w.alloc (.cells C 74)) := by
  obtain ⟨i, h1, h2, h3, h4⟩ := info_split infoU64
  refine ⟨madeCells (Value.int .u64 0).cells (n * 1), by simp [madeCells], fun k hk => madeCells_get rfl (by omega), fun w => ?_⟩
  have := run_make (P := Tryd.prog) w 22 74 i _ Tryd.underlying22 h1 h2 .i64 .i64 n n (by omega) (by omega) (by rw [h4]; omega) (by omega)
  rw [h3] at this
  simpa using this
theorem make_flags (n : Nat) (hn : n ≤ 300000000) : ∃ C : Array Value, C.size = n ∧ (∀ k, k < n → C[k]? = some (.bool false)) ∧
    ∀ w, (Instr.makeSlice 29 (.int .i64 n) (.int .i64 n)).run Tryd.prog w = .ok (.slice (some ⟨w.heap.size, 0, none⟩) n n) (w.alloc (.cells C 4)) := by
  obtain ⟨i, h1, h2, h3, h4⟩ := info_split infoB
  refine ⟨madeCells (Value.bool false).cells (n * 1), by simp [madeCells], fun k hk => madeCells_get rfl (by omega), fun w => ?_⟩
  have := run_make (P := Tryd.prog) w 29 4 i _ Tryd.underlying29 h1 h2 .i64 .i64 n n (by omega) (by omega) (by rw [h4]; omega) (by omega)
  rw [h3] at this
  simpa using this

/-- A device that a call has made. -/
def MadeDev (m : Mdl) (w : World) (e : Ending) (w' : World) : Prop := ∃ p f, e = .returned (.pointer (some ⟨p, 0, none⟩)) ∧ Dev w' p f m ∧ Keep (fun _ => False) w w' ∧ ∀ b, f.own p b → w.heap.size ≤ b

theorem get_alloc (w : World) (o : Obj) (k : Nat) : (w.alloc o).heap[k]? = if k = w.heap.size then some o else w.heap[k]? := by
  show (w.heap.push o)[k]? = _
  rw [Array.getElem?_push]
theorem get_hit {w : World} {o : Obj} {k : Nat} (h : k = w.heap.size) : (w.alloc o).heap[k]? = some o := by rw [get_alloc, if_pos h]
theorem get_miss {w : World} {o o' : Obj} {k : Nat} (h : k ≠ w.heap.size) (h2 : w.heap[k]? = some o') : (w.alloc o).heap[k]? = some o' := by rw [get_alloc, if_neg h, h2]
theorem get_drew (w : World) (k : Nat) : (w.drew).heap[k]? = w.heap[k]? := rfl

theorem made_lit {w W : World} {L : Nat} {C1 C2 : Array Value} (hs1 : C1.size = 8 * L) (hc1 : ∀ k, k < 8 * L → C1[k]? = some (.int .u64 0)) (hs2 : C2.size = L) (hc2 : ∀ k, k < L → C2[k]? = some (.bool false)) (hL : L ≤ 33554432)
    (p bl bn bd bm : Nat) (hp : W.heap[p]? = some (.cells #[.slice (some ⟨bl, 0, none⟩) (8 * L) (8 * L), .slice (some ⟨bn, 0, none⟩) (8 * L) (8 * L), .slice (some ⟨bd, 0, none⟩) L L, .map (some bm), .int .i64 (-1), .int .i64 0, .bool false] 73))
    (hl : W.heap[bl]? = some (.cells C1 74)) (hn : W.heap[bn]? = some (.cells C1 74)) (hd : W.heap[bd]? = some (.cells C2 4)) (hm : W.heap[bm]? = some (.map #[] 0)) (ne : bl ≠ bn) (hk : Keep (fun _ => False) w W)
    (g : w.heap.size ≤ p ∧ w.heap.size ≤ bl ∧ w.heap.size ≤ bn ∧ w.heap.size ≤ bd ∧ w.heap.size ≤ bm) : MadeDev (fresh L fun _ => 0) w (.returned (.pointer (some ⟨p, 0, none⟩))) W := by
  refine ⟨p, ⟨bl, bn, bd, bm, -1, 0, .map [], fun _ => False⟩, rfl, ⟨hp, ⟨C1, hl, hs1, hc1⟩, ⟨C1, hn, hs1, hc1⟩, ⟨C2, hd, hs2, hc2⟩, ⟨#[], 0, hm, ⟨by simp, Go.MapKept.stamped_empty 0, by simp⟩, Nat.le_refl _, rfl⟩, ne, ?_, ?_, Int.le_refl 0, rfl, ⟨by show (-9223372036854775808 : Int) ≤ -1; decide, by show (-1 : Int) ≤ 9223372036854775807; decide⟩, hL, fun _ h => h.elim⟩, hk, ?_⟩
  · intro x hx; simp [Go.Maps.has] at hx
  · intro i c hc; simp [fresh] at hc
  · intro b hb
    rcases hb with e | e | e | e | e | e
    · rw [e]; exact g.1
    · rw [e]; exact g.2.1
    · rw [e]; exact g.2.2.1
    · rw [e]; exact g.2.2.2.1
    · rw [e]; exact g.2.2.2.2
    · exact e.elim

set_option maxHeartbeats 8000000 in
theorem new_any (n : Int) (w : World) (h1 : -9223372036854775808 ≤ n) (h2 : n ≤ 268435456) :
    Calls Tryd.prog 20 #[.int .i64 n] w (MadeDev (fresh (upS n 8).toNat fun _ => 0) w) := by
  have hu : 0 ≤ upS n 8 ∧ upS n 8 ≤ 33554432 := by
    unfold upS; split <;> omega
  obtain ⟨L, hL⟩ : ∃ L : Nat, upS n 8 = L := ⟨(upS n 8).toNat, by omega⟩
  have hup := fun w => up_any n 8 w h1 (by omega)
  rw [hL] at hup hu
  rw [hL, show ((L : Int)).toNat = L from by omega]
  obtain ⟨C1, hs1, hc1, hm1⟩ := make_words (8 * L) (by omega)
  obtain ⟨C2, hs2, hc2, hm2⟩ := make_flags L (by omega)
  have hmm := @run_makeMap Tryd.prog
  have e8 : ((8 * L : Nat) : Int) = (L : Int) * 8 := by omega
  rw [e8] at hm1
  clear e8
  have HU := Lib.hid hup
  have HL := Lib.hid hL
  clear hup hL
  have h2' : ¬ (268435456 < n) := by omega
  go_enter Tryd.func20, Tryd.ntmps20
  go_wp2_with (go_at_call 30; refine (HU.out _).mono ?_; rintro e w' ⟨rfl, rfl⟩)
  go_region
  all_goals
    go_wp2_with fail
    go_ret
    refine made_lit hs1 hc1 hs2 hc2 (by omega) _ _ _ _ _ (by simp only [get_drew]; refine get_hit ?_; simp) (by simp only [get_drew]; repeat (first | (refine get_hit ?_; simp; done) | (refine get_miss ?_ ?_; focus (simp <;> omega)))) (by simp only [get_drew]; repeat (first | (refine get_hit ?_; simp; done) | (refine get_miss ?_ ?_; focus (simp <;> omega)))) (by simp only [get_drew]; repeat (first | (refine get_hit ?_; simp; done) | (refine get_miss ?_ ?_; focus (simp <;> omega)))) (by simp only [get_drew]; repeat (first | (refine get_hit ?_; simp; done) | (refine get_miss ?_ ?_; focus (simp <;> omega)))) (by omega) (((((((Keep.refl _ w).alloc _).alloc _).alloc _).alloc _).alloc _).drew) (by omega)

end Go.Proofs.YtaigocnnmjjhgaaDoor

namespace Go.Proofs.YtaigocnnmjjhgaaDoor
open Go.ChangeShapes Go.WideShapes Go.ChangeAt Go.RowKit
set_option linter.unusedVariables false

theorem run_onto {P : Program} {w : World} {k : IntKind} {base bytes n : Nat} {t ty e : TypeId} {i : TypeInfo} (ht : P.underlying t = some (.slice e)) (hi : P.info? e = some i) (hz : i.zero = some (.int k 0)) (h1 : i.size = 1) (hby : i.bytes = bytes)
    {v vs : Value} {xs : List Value} {ys : List Int} (hown : w.ownsRow base e 1 v n xs) (hs : IsInts k w vs ys) (h63 : n + ys.length ≤ maxLen) (hb : (n + ys.length) * bytes ≤ 140737488355328) (hbase : base ≤ w.heap.size) :
    ∃ v' w', (Builtin.append_ #[t, t] ty #[v, vs]).run P w = .ok v' w' ∧ w'.ownsRow base e 1 v' (n + ys.length) (xs ++ ys.map (Value.int k)) ∧ w.grownBy w' v.ownBlock := by
  obtain ⟨a, cap, rfl, hc, h⟩ := hs
  cases a with
  | none =>
    obtain rfl : ys = [] := h.resolve_right (by rintro ⟨_, _, h, _⟩; cases h)
    refine ⟨v, w, ?_, by simpa using hown, ⟨rfl, rfl, rfl, Nat.le_refl _, fun _ _ _ => rfl⟩⟩
    rcases hown.2 with ⟨rfl, rfl⟩ | ⟨g, c, cur, rfl, _, _, hnc, _⟩
    · simp [Builtin.append_, run_underlying ht, sizeOf, typeInfo, hi, Builtin.lenOf, Builtin.firstCells]
    · simp [Builtin.append_, run_underlying ht, sizeOf, typeInfo, hi, Builtin.lenOf, Builtin.firstCells, hnc, storeCells]
  | some x =>
    have hnews : ∀ j u, (ys.map (Value.int k))[j]? = some u → w.cell? (x.add j) = some u := by
      intro j u hu
      rcases h with rfl | ⟨b, off, hx, _, hcell⟩
      · simp at hu
      · cases hx
        have hj : j < ys.length := by
          have := (List.getElem?_eq_some_iff.1 hu).1
          simpa using this
        rw [addr_add, hcell j hj]
        rw [List.getElem?_map, List.getElem?_eq_getElem hj] at hu
        simpa [List.getD, hj] using hu
    obtain ⟨v', w', hr, ho, hg, _⟩ := run_append_own_at (P := P) w base t ty e i _ 1 bytes ht hi hz h1 hby rfl (by decide) v n xs hown x ys.length cap _ (by simp) hnews (by intro u hu; obtain ⟨z, _, rfl⟩ := List.mem_map.1 hu; rfl) h63 hb hbase
    exact ⟨v', w', hr, ho, hg⟩

theorem wpList_onto {P : Program} {w : World} {ops : Array Oper} {rest : List Oper} {o : Oper} {act : Act} {Q : Exit → Act → World → Prop} (hgd : o.guard = none) {k : IntKind} (base bytes n : Nat) (s x : Operand) (t e : TypeId) {i : TypeInfo}
    (ho : o.op = .call { callee := .builtin .append, args := #[s, x], argTypes := #[t, t] }) (ht : P.underlying t = some (.slice e)) (hi : P.info? e = some i) (hz : i.zero = some (.int k 0)) (h1 : i.size = 1) (hby : i.bytes = bytes)
    (v vs : Value) (xs : List Value) (ys : List Int) (hv : act.eval s = v) (hvs : act.eval x = vs) (hown : w.ownsRow base e 1 v n xs) (hs : IsInts k w vs ys) (h63 : n + ys.length ≤ maxLen) (hb : (n + ys.length) * bytes ≤ 140737488355328) (hbase : base ≤ w.heap.size)
    (h : ∀ v' w', w'.ownsRow base e 1 v' (n + ys.length) (xs ++ ys.map (Value.int k)) → w.grownBy w' v.ownBlock → wpList P ops Q rest (act.put o.dst v') w') : wpList P ops Q (o :: rest) act w := by
  refine wpList_plain hgd fun K hK => ?_
  obtain ⟨v', w', hr, h2, h3⟩ := run_onto (ty := o.type) ht hi hz h1 hby hown hs h63 hb hbase
  unfold Oper.wp
  simp [execOp, ho, resolve, invoke, builtin, hv, hvs, hr, Result.andThen]
  exact hK _ _ (h v' w' h2 h3)

end Go.Proofs.YtaigocnnmjjhgaaDoor

namespace Go.Proofs.YtaigocnnmjjhgaaDoor
open Go.ChangeShapes Go.WideShapes Go.ChangeAt Go.RowKit Nv
set_option linter.unusedVariables false

theorem upS_nat (n : Nat) : (upS (n : Int) 8).toNat = linesFor n := by
  unfold upS linesFor; split <;> omega

theorem fresh_congr {w : World} {p : Nat} {f : Fp} {L : Nat} {g g' : Nat → Int} (h : Dev w p f (fresh L g)) (hg : ∀ j, j < 8 * L → g j = g' j) : Dev w p f (fresh L g') where
  hp := h.hp
  hl := h.hl.congr fun k hk => by show Value.int .u64 (g k) = .int .u64 (g' k); rw [hg k hk]
  hn := h.hn.congr fun k hk => by show Value.int .u64 (g k) = .int .u64 (g' k); rw [hg k hk]
  hd := h.hd
  hm := h.hm
  ne := h.ne
  pend := h.pend
  back := h.back
  hn' := h.hn'
  hf := h.hf
  hlo := h.hlo
  hL := h.hL
  hpb := h.hpb

section
variable {w : World} {p : Nat} {f : Fp} {m : Mdl}

/-- All words of a device's line are given anew. -/
theorem Dev.allLast {w' : World} (h : Dev w p f m) (g : Nat → Int) (hk : Keep (fun x => x = f.bl) w w') (hr : Row w' f.bl 74 (8 * m.L) (fun j => .int .u64 (g j))) : Dev w' p f { m with last := g } where
  hp := (hk.block p h.ptr_lt h.lp.symm).trans h.hp
  hl := hr
  hn := hk.row h.hn h.ne.symm
  hd := hk.row h.hd h.ld.symm
  hm := grown_of_keep hk h.hm.lt h.lm.symm h.hm
  ne := h.ne
  pend := fun x hx => by
    obtain ⟨i, b, c, e1, e2, e3, e4, e5, e6, e7, e8⟩ := h.pend x hx
    exact ⟨i, b, c, e1, e2, e3, e4, hk.row e5 e6, e6, e7, e8⟩
  back := h.back
  hn' := h.hn'
  hf := h.hf
  hlo := h.hlo
  hL := h.hL
  hpb := fun b hb => Nat.lt_of_lt_of_le (h.hpb b hb) hk.size
theorem Dev.allNow {w' : World} (h : Dev w p f m) (g : Nat → Int) (hk : Keep (fun x => x = f.bn) w w') (hr : Row w' f.bn 74 (8 * m.L) (fun j => .int .u64 (g j))) : Dev w' p f { m with now := g } where
  hp := (hk.block p h.ptr_lt h.np.symm).trans h.hp
  hl := hk.row h.hl h.ne
  hn := hr
  hd := hk.row h.hd h.nd.symm
  hm := grown_of_keep hk h.hm.lt h.nm.symm h.hm
  ne := h.ne
  pend := fun x hx => by
    obtain ⟨i, b, c, e1, e2, e3, e4, e5, e6, e7, e8⟩ := h.pend x hx
    exact ⟨i, b, c, e1, e2, e3, e4, hk.row e5 e7, e6, e7, e8⟩
  back := h.back
  hn' := h.hn'
  hf := h.hf
  hlo := h.hlo
  hL := h.hL
  hpb := fun b hb => Nat.lt_of_lt_of_le (h.hpb b hb) hk.size

theorem pad_row {w : World} {b n : Nat} {ws : List Int} (hn : ws.length ≤ n) (h : Row w b 74 n (fun j => if 0 ≤ j ∧ j < 0 + ws.length then .int .u64 (ws.getD (j - 0) 0) else .int .u64 0)) : Row w b 74 n (fun j => .int .u64 (padded ws j)) :=
  h.congr fun j _ => by
    by_cases e : j < ws.length
    · rw [if_pos (by omega)]; rfl
    · rw [if_neg (by omega)]; unfold padded; rw [List.getD_eq_getElem?_getD, List.getElem?_eq_none (by omega)]; rfl

set_option maxHeartbeats 400000 in
theorem load_any (v : Value) (ws : List Int) (w : World) (hv : IsInts .u64 w v ws) (hlen : ws.length ≤ 268435456) :
    Calls Tryd.prog 6 #[v] w (MadeDev (fresh (linesFor ws.length) (padded ws)) w) := by
  obtain ⟨a, cap, rfl, hc, hx⟩ := hv
  have hnew := fun w => new_any (ws.length : Int) w (by omega) (by omega)
  simp only [upS_nat] at hnew
  have hfit : ws.length ≤ 8 * linesFor ws.length := by unfold linesFor; omega
  generalize linesFor ws.length = L at hnew hfit ⊢
  have HN := Lib.hid hnew
  have HX := Lib.hid hx
  have hsrc : ∀ w1 : World, Keep (fun _ => False) w w1 → 0 < ws.length → ∃ ad, a = some ad ∧ ∀ j, j < ws.length → w1.cell? (ad.add j) = some (.int .u64 (ws.getD j 0)) := fun w1 hk h0 => by
    obtain ⟨b, off, rfl, hlt, hcell⟩ := hx.resolve_left (by rintro rfl; simp at h0)
    refine ⟨_, rfl, fun j hj => ?_⟩
    rw [addr_add, hk.cell (p := ⟨b, off + j, none⟩) hlt (fun h => h)]
    exact hcell j hj
  have HS := Lib.hid hsrc
  clear hnew hx hsrc
  generalize hn : ws.length = n at hlen hfit hc
  have HL := Lib.hid hn
  clear hn
  go_enter Tryd.func6, Tryd.ntmps6
  go_wp2_with fail
  have hnw := HN.out
  rw [HL.out] at hnw
  refine (hnw _).mono ?_
  clear hnw
  rintro e w1 ⟨p, f, rfl, hd, hk, ho⟩
  have c0 : w1.cell? ⟨p, 0, none⟩ = some (.slice (some ⟨f.bl, 0, none⟩) (8 * L) (8 * L)) := hd.c0
  have hr : Row w1 f.bl 74 (8 * L) (fun _ => .int .u64 0) := hd.hl
  have hsup : ∀ w2, Row w2 f.bl 74 (8 * L) (fun j => if 0 ≤ j ∧ j < 0 + n then .int .u64 (ws.getD (j - 0) 0) else .int .u64 0) → Keep (fun x => x = f.bl) w1 w2 → Dev w2 p f { fresh L (fun _ => 0) with last := padded ws } := fun w2 h2 k2 =>
    hd.allLast (padded ws) k2 (pad_row (by rw [HL.out]; exact hfit) (by rw [HL.out]; exact h2))
  have hsup2 : ∀ w2 w3, Dev w2 p f { fresh L (fun _ => 0) with last := padded ws } → Row w3 f.bn 74 (8 * L) (fun j => if 0 ≤ j ∧ j < 0 + n then .int .u64 (ws.getD (j - 0) 0) else .int .u64 0) → Keep (fun x => x = f.bn) w2 w3 → Dev w3 p f (fresh L (padded ws)) := fun w2 w3 h2 h3 k3 =>
    h2.allNow (padded ws) k3 (pad_row (by rw [HL.out]; exact hfit) (by rw [HL.out]; exact h3))
  have hs1 : 0 < n → ∃ ad, a = some ad ∧ ∀ j, j < n → w1.cell? (ad.add j) = some (.int .u64 (ws.getD j 0)) := by have := HS.out w1 hk; rwa [HL.out] at this
  have hs2 : ∀ w2, Keep (fun x => x = f.bl) w1 w2 → 0 < n → ∃ ad, a = some ad ∧ ∀ j, j < n → w2.cell? (ad.add j) = some (.int .u64 (ws.getD j 0)) := fun w2 k2 => by
    have := HS.out w2 (hk.trans k2 (fun i hi e => by have := ho _ (own_bl f p); omega)); rwa [HL.out] at this
  have H1 := Lib.hid hs1
  have H2 := Lib.hid hs2
  have HR := Lib.hid hr
  have HU := Lib.hid hsup
  have HU2 := Lib.hid hsup2
  have HK := Lib.hid hk
  have HO := Lib.hid ho
  have hmin : n = Nat.min n (8 * L) := (Nat.min_eq_left hfit).symm
  have HM := Lib.hid hmin
  clear hs1 hs2 hr hsup hsup2 hk ho hd hmin
  go_wp2_with (first
    | ((with_reducible refine wpList_copy_cells rfl _ _ 22 22 rfl 74 Tryd.underlying22 infoU64s _ a (8 * L) (8 * L) n cap rfl rfl f.bl 0 (8 * L) 74 _ (fun j => .int .u64 (ws.getD j 0)) n HR.out HM.out (fun h => ⟨rfl, H1.out h⟩) (by omega) (fun _ => rfl) ?_); intro w2 r2 k2; have h2 := HU.out w2 r2 k2; have c1 : w2.cell? ⟨p, 1, none⟩ = some (.slice (some ⟨f.bn, 0, none⟩) (8 * L) (8 * L)) := h2.c1; have R2 : Hid (Row w2 f.bn 74 (8 * L) (fun _ => .int .u64 0)) := h2.hn; have D2 := Lib.hid h2; have K2 := Lib.hid k2; clear h2 r2 k2)
    | ((with_reducible refine wpList_copy_cells rfl _ _ 22 22 rfl 74 Tryd.underlying22 infoU64s _ a (8 * L) (8 * L) n cap rfl rfl f.bn 0 (8 * L) 74 _ (fun j => .int .u64 (ws.getD j 0)) n R2.out HM.out (fun h => ⟨rfl, H2.out _ K2.out h⟩) (by omega) (fun _ => rfl) ?_); intro w3 r3 k3; have D3 := Lib.hid (HU2.out _ w3 D2.out r3 k3); have K3 := Lib.hid k3; clear r3 k3))
  go_ret
  have ho := HO.out
  exact ⟨p, f, rfl, D3.out, (HK.out.trans K2.out (fun i hi e => by have := ho _ (own_bl f p); omega)).trans K3.out (fun i hi e => by have := ho _ (own_bn f p); omega), ho⟩

/-- All words of a device, in a list of its own. -/
def AllTo (m : Mdl) (w : World) (e : Ending) (w' : World) : Prop := ∃ B, e = .returned (.slice (some ⟨B, 0, none⟩) (8 * m.L) (8 * m.L)) ∧ w.heap.size ≤ B ∧ Row w' B 74 (8 * m.L) (fun j => .int .u64 (m.last j)) ∧ Keep (fun _ => False) w w'

set_option maxHeartbeats 400000 in
theorem all_any (h : Dev w p f m) : Calls Tryd.prog 34 #[.pointer (some ⟨p, 0, none⟩)] w (AllTo m w) := by
  have hL := h.hL
  have c0 := h.c0
  obtain ⟨C1, hs1, hc1, hm1⟩ := make_words (8 * m.L) (by omega)
  rw [show ((8 * m.L : Nat) : Int) = 8 * (m.L : Int) from by omega] at hm1
  have h1 := h.alloc (.cells C1 74)
  have c0' := h1.c0
  have hr : Row (w.alloc (.cells C1 74)) w.heap.size 74 (8 * m.L) (fun _ => .int .u64 0) := Row.new w _ C1 _ _ hs1 hc1
  have hsrc : ∀ j, j < 8 * m.L → (w.alloc (.cells C1 74)).cell? ((⟨f.bl, 0, none⟩ : Addr).add j) = some (.int .u64 (m.last j)) := fun j hj => by rw [addr_add, Nat.zero_add]; exact h1.hl.cell hj
  have HR := Lib.hid hr
  have HS := Lib.hid hsrc
  have HD := Lib.hid h1
  clear h1 hr hsrc h
  go_enter Tryd.func34, Tryd.ntmps34
  go_wp2_with ((with_reducible refine wpList_copy_cells rfl _ _ 22 22 rfl 74 Tryd.underlying22 infoU64s _ _ (8 * m.L) (8 * m.L) (8 * m.L) (8 * m.L) rfl rfl w.heap.size 0 (8 * m.L) 74 _ (fun j => .int .u64 (m.last j)) (8 * m.L) HR.out (Nat.min_self _).symm (fun _ => ⟨rfl, _, rfl, HS.out⟩) (by omega) (fun _ => rfl) ?_); intro w2 r2 k2; have R2 := Lib.hid r2; have K2 := Lib.hid k2; clear r2 k2)
  go_ret
  exact ⟨_, rfl, Nat.le_refl _, R2.out.congr fun j hj => by rw [if_pos (by omega)]; rfl, ((Keep.refl _ w).alloc _).trans K2.out (fun i hi e => by omega)⟩

/-- Lines below k that are dirty. -/
def dirtyTo (m : Mdl) (k : Nat) : List Int := ((List.range k).filter m.dirty).map Int.ofNat
theorem dirtyTo_yes {m : Mdl} {k : Nat} (h : m.dirty k = true) : dirtyTo m (k + 1) = dirtyTo m k ++ [(k : Int)] := by
  unfold dirtyTo; rw [List.range_succ, List.filter_append, List.map_append]; simp [h]
theorem dirtyTo_no {m : Mdl} {k : Nat} (h : m.dirty k = false) : dirtyTo m (k + 1) = dirtyTo m k := by
  unfold dirtyTo; rw [List.range_succ, List.filter_append, List.map_append]; simp [h]
theorem dirtyTo_len (m : Mdl) (k : Nat) : (dirtyTo m k).length ≤ k := by
  unfold dirtyTo; rw [List.length_map]; exact Nat.le_trans (List.length_filter_le _ _) (by simp)

def DirtyAt (m : Mdl) (k : Nat) (w : World) (v : Value) (wr : World) : Prop :=
  wr.ownsRow w.heap.size 3 1 v (dirtyTo m k).length ((dirtyTo m k).map (Value.int .i64)) ∧ Below w.heap.size w wr
theorem infoI : (Tryd.prog.info? 3).map (fun i => (i.zero, i.size, i.bytes)) = some (some (.int .i64 0), 1, 8) := by kernel_rfl

/-- A call hands back a slice of these integers, in new memory. -/
def MadeNew (k : IntKind) (xs : List Int) (w : World) (e : Ending) (w' : World) : Prop := ∃ v, e = .returned v ∧ IsInts k w' v xs ∧ Below w.heap.size w w' ∧ ∀ b, v.ownBlock = some b → w.heap.size ≤ b

set_option maxHeartbeats 1000000 in
theorem dirty_any (h : Dev w p f m) : Calls Tryd.prog 35 #[.pointer (some ⟨p, 0, none⟩)] w (MadeNew .i64 (dirtyTo m m.L) w) := by
  obtain ⟨i0, hi, hz0, hz1, hz2⟩ := info_parts infoI
  have hL := h.hL
  have c2 := h.c2
  have hdlt := h.hd.lt
  have hcells : ∀ k, k < m.L → w.cell? ⟨f.bd, k, none⟩ = some (.bool (m.dirty k)) := fun k hk => h.hd.cell hk
  have HC := Lib.hid hcells
  have H0 : Hid (DirtyAt m 0 w (.slice none 0 0) w) := Lib.hid ⟨World.ownsRow_nil _ _ _ _, Below.refl _ _⟩
  clear h hcells
  go_enter Tryd.func35, Tryd.ntmps35
  go_wp2_with fail
  go_loopw [3, 11] (fun v i wr => ∃ k : Nat, k ≤ m.L ∧ i = .int .i64 k ∧ Hid (DirtyAt m k w v wr)) (fun _ i _ => m.L - (intOf i).toNat)
  case atStart => exact ⟨0, by omega, rfl, H0⟩
  case round =>
    obtain ⟨k, hk, rfl, HB⟩ := hrel
    by_cases hlt : k < m.L
    · have hlt' : (k : Int) < ((m.L : Nat) : Int) := by omega
      have hcell : wr.cell? ⟨f.bd, k, none⟩ = some (.bool (m.dirty k)) := by rw [HB.out.2.cell (p := ⟨f.bd, k, none⟩) hdlt]; exact HC.out k hlt
      have hsz : w.heap.size ≤ wr.heap.size := HB.out.2.size
      have hlen := dirtyTo_len m k
      cases hd : m.dirty k
      · have hE := dirtyTo_no hd
        rw [hd] at hcell
        have HN : Hid (DirtyAt m (k + 1) w u3 wr) := Lib.hid (by have := HB.out; unfold DirtyAt at this ⊢; rw [hE]; exact this)
        clear hE hd HB
        go_wp2_with fail
        go_roundw
        case rel => exact ⟨k + 1, by omega, by go_num, HN⟩
        case measure => simp [intOf]; omega
      · have hE := dirtyTo_yes hd
        rw [hd] at hcell
        have HE := Lib.hid hE
        clear hE hd
        go_wp2_with (at_builtin; refine wpList_append_own _ rfl (.tmp 17) (.tmp 19) 89 rfl w.heap.size 3 i0 (.int .i64 0) 1 8 Tryd.underlying89 hi hz0 hz1 hz2 rfl (by decide) _ _ _ rfl (HB.out.1.alloc _) ⟨wr.heap.size, 0, none⟩ 1 1 [.int .i64 (k : Nat)] rfl rfl (cell_new1 _ _ _) (by intro u hu; simp at hu; subst hu; rfl) (by unfold maxLen; omega) (by omega) (by simp; omega) ?_)
        intro v' w1 hown' hgrow _
        have HN : Hid (DirtyAt m (k + 1) w v' w1) := by
          refine Lib.hid ⟨?_, (HB.out.2.alloc hsz _).grown hgrow (by simp; omega) (fun b hb => (HB.out.1.lt b hb).1)⟩
          rw [HE.out, List.map_append, List.length_append]
          exact hown'
        clear hown' hgrow
        go_wp2_with fail
        go_roundw
        case rel => exact ⟨k + 1, by omega, by go_num, HN⟩
        case measure => simp [intOf]; omega
    · have hlt' : ¬ (k : Int) < ((m.L : Nat) : Int) := by omega
      obtain rfl : k = m.L := by omega
      have HF : Hid (∃ v', u3 = v' ∧ IsInts .i64 wr v' (dirtyTo m m.L) ∧ Below w.heap.size w wr ∧ ∀ b, v'.ownBlock = some b → w.heap.size ≤ b) := Lib.hid ⟨u3, rfl, .of_own HB.out.1, HB.out.2, fun b hb => (HB.out.1.lt b hb).1⟩
      clear HB
      go_wp2_with fail
      go_ret
      obtain ⟨v', rfl, hF⟩ := HF.out
      exact ⟨u3, rfl, hF⟩
end

end Go.Proofs.YtaigocnnmjjhgaaDoor

namespace Go.Proofs.YtaigocnnmjjhgaaDoor
open Go.ChangeShapes Go.WideShapes Go.ChangeAt Go.RowKit Nv
set_option linter.unusedVariables false

/-- 'v, ok := pending[line]', by what is there. -/
theorem wpList_pend_yes {w : World} {ops : Array Oper} {rest : List Oper} {o : Oper} {a : Act} {Q : Exit → Act → World → Prop} (hg : o.guard = none) (mo x : Operand) (hop : o.op = Op.lookup 71 mo x true)
    (b n : Nat) (D : DataW Unit) (i c : Nat) (hm : a.eval mo = .map (some b)) (hown : w.ownsMap Tryd.prog 3 blkElem b n D) (hx : a.eval x = .int .i64 i) (hkey : keyOf Tryd.prog 3 (.int .i64 i) = some (.int .i64 i))
    (hh : Go.Maps.has D (.int .i64 i) = true) (hat : ∀ zd, D.atKey (.int .i64 i) zd = .lit (.int .u64 c)) (hK : wpList Tryd.prog ops Q rest (a.put o.dst (.tuple #[.slice (some ⟨c, 0, none⟩) 8 8, .bool true])) w) : wpList Tryd.prog ops Q (o :: rest) a w := by
  refine wpList_lookup_own_ok w hg mo x _ hop _ _ keyI Tryd.underlying71 blkElem (zeroS _) .nil [] blkElem_nil b n D hm hown _ _ hx hkey fun v ps hv => ?_
  rw [hat] at hv
  obtain rfl := blkElem_lit hv
  rw [hh]
  exact hK
theorem wpList_pend_no {w : World} {ops : Array Oper} {rest : List Oper} {o : Oper} {a : Act} {Q : Exit → Act → World → Prop} (hg : o.guard = none) (mo x : Operand) (hop : o.op = Op.lookup 71 mo x true)
    (b n : Nat) (D : DataW Unit) (i : Nat) (hm : a.eval mo = .map (some b)) (hown : w.ownsMap Tryd.prog 3 blkElem b n D) (hx : a.eval x = .int .i64 i) (hkey : keyOf Tryd.prog 3 (.int .i64 i) = some (.int .i64 i))
    (hh : Go.Maps.has D (.int .i64 i) = false) (hK : ∀ v, wpList Tryd.prog ops Q rest (a.put o.dst (.tuple #[v, .bool false])) w) : wpList Tryd.prog ops Q (o :: rest) a w := by
  refine wpList_lookup_own_ok w hg mo x _ hop _ _ keyI Tryd.underlying71 blkElem (zeroS _) .nil [] blkElem_nil b n D hm hown _ _ hx hkey fun v ps hv => ?_
  rw [hh]
  exact hK v

/-- A part of eight words that is there. -/
def OutAt (w : World) (g : Nat → Int) (S : Nat → Prop) (e : Ending) (w' : World) : Prop := (∃ b off, e = .returned (.slice (some ⟨b, off, none⟩) 8 8) ∧ S b ∧ ∀ j, j < 8 → w.cell? ⟨b, off + j, none⟩ = some (.int .u64 (g j))) ∧ w = w'

section
variable {w : World} {p : Nat} {f : Fp} {m : Mdl}

set_option maxHeartbeats 400000 in
theorem outcome_any (h : Dev w p f m) (i : Nat) (c : Int) (hi : i < m.L) (hc0 : 0 ≤ c) (hc1 : c ≤ 255) :
    Calls Tryd.prog 37 #[.pointer (some ⟨p, 0, none⟩), .int .i64 i, .int .u8 c] w (OutAt w (Nv.outcome m i c) (f.own p)) := by
  have hL := h.hL
  have hkey : keyOf Tryd.prog 3 (.int .i64 i) = some (.int .i64 i) := Go.Maps.keyOf_int_mk Tryd.underlying3 (WalkArith.wf_i64 (by omega))
  have HK := Lib.hid hkey
  have H := Lib.hid h
  have hm := Lib.hid h.hm
  have c0 := h.c0
  have c1 := h.c1
  have c3 := h.c3
  clear hkey
  by_cases h2 : c % 3 = 2
  · have ho : Nv.outcome m i c = lineOf m.now i := by unfold Nv.outcome; rw [if_pos h2]
    rw [ho]
    have hb2 : ((c % 3 : Int) == 2) = true := by simpa using h2
    clear h2 ho h
    go_enter Tryd.func37, Tryd.ntmps37
    go_wp2_with (go_at_call 36; refine (part_any _ f.bn (8 * m.L) (8 * m.L) i (by omega) (by omega) (by omega)).mono ?_; rintro e w' ⟨rfl, rfl⟩)
    go_ret
    exact ⟨⟨_, _, rfl, own_bn f p, fun j hj => H.out.hn.cell (k := 8 * i + j) (by omega)⟩, rfl⟩
  · have hb2 : ((c % 3 : Int) == 2) = false := by simpa using h2
    by_cases h1 : c % 3 = 1
    · have hb1 : ((c % 3 : Int) == 1) = true := by simpa using h1
      cases hw : m.wait i with
      | none =>
        have ho : Nv.outcome m i c = lineOf m.last i := by unfold Nv.outcome; rw [if_neg h2, if_pos h1, hw]
        have hh : Go.Maps.has f.D (.int .i64 i) = false := by
          cases hh : Go.Maps.has f.D (.int .i64 i)
          · rfl
          · obtain ⟨i', b, c', e1, e2, e3, _⟩ := h.pend i hh
            obtain rfl : i' = i := by omega
            rw [hw] at e3; cases e3
        have HH := Lib.hid hh
        rw [ho]
        clear h1 h2 ho h hw hh
        go_enter Tryd.func37, Tryd.ntmps37
        go_wp2_with (first
          | (at_lookup; refine wpList_pend_no rfl _ _ rfl f.bm f.n f.D i rfl hm.out rfl HK.out HH.out ?_; intro v)
          | (go_at_call 36; refine (part_any _ f.bl (8 * m.L) (8 * m.L) i (by omega) (by omega) (by omega)).mono ?_; rintro e w' ⟨rfl, rfl⟩))
        go_ret
        exact ⟨⟨_, _, rfl, own_bl f p, fun j hj => H.out.hl.cell (k := 8 * i + j) (by omega)⟩, rfl⟩
      | some c' =>
        have ho : Nv.outcome m i c = c' := by unfold Nv.outcome; rw [if_neg h2, if_pos h1, hw]
        have hh := h.back i c' hw
        obtain ⟨i', b, c2, e1, e2, e3, e4, e5, e6, e7, e8⟩ := h.pend i hh
        obtain rfl : i' = i := by omega
        obtain rfl : c2 = c' := by rw [hw] at e3; cases e3; rfl
        have HH := Lib.hid hh
        have HE := Lib.hid e4
        have H5 := Lib.hid e5
        rw [ho]
        clear h1 h2 ho h hw hh e1 e4 e5 e3
        go_enter Tryd.func37, Tryd.ntmps37
        go_wp2_with (at_lookup; refine wpList_pend_yes rfl _ _ rfl f.bm f.n f.D i' b rfl hm.out rfl HK.out HH.out HE.out ?_)
        go_ret
        exact ⟨⟨_, _, rfl, own_pb e8, fun j hj => by rw [Nat.zero_add]; exact H5.out.cell hj⟩, rfl⟩
    · have hb1 : ((c % 3 : Int) == 1) = false := by simpa using h1
      have ho : Nv.outcome m i c = lineOf m.last i := by unfold Nv.outcome; rw [if_neg h2, if_neg h1]
      rw [ho]
      clear h1 h2 ho h
      go_enter Tryd.func37, Tryd.ntmps37
      go_wp2_with (go_at_call 36; refine (part_any _ f.bl (8 * m.L) (8 * m.L) i (by omega) (by omega) (by omega)).mono ?_; rintro e w' ⟨rfl, rfl⟩)
      go_ret
      exact ⟨⟨_, _, rfl, own_bl f p, fun j hj => H.out.hl.cell (k := 8 * i + j) (by omega)⟩, rfl⟩

/-- The builtin copy as one step of a region that draws its order. -/
theorem step_copy_cells {P : Program} {ops : Array Oper} {o : Oper} {a : Act} {w : World} {K : Act → World → Prop} {Q : Exit → Act → World → Prop} {E : Prop} (hgd : o.guard = none) (d s : Operand) (dT sT : TypeId)
    (ho : o.op = .call { callee := .builtin .copy, args := #[d, s], argTypes := #[dT, sT] }) (elem : TypeId) (hu : P.underlying dT = some (.slice elem)) (hsz : (P.info? elem).map (·.size) = some 1)
    (dp sp : Option Addr) (dLen dCap sLen sCap : Nat) (hd : a.eval d = .slice dp dLen dCap) (hs : a.eval s = .slice sp sLen sCap)
    (b off n t : Nat) (f g : Nat → Value) (k : Nat) (hr : Row w b t n f) (hk : k = Nat.min sLen dLen)
    (hpos : 0 < k → dp = some ⟨b, off, none⟩ ∧ ∃ ad, sp = some ad ∧ ∀ j, j < k → w.cell? (ad.add j) = some (g j)) (hfit : off + k ≤ n) (h1 : ∀ j, (g j).oneCell' = true)
    (h : ∀ w', Row w' b t n (fun j => if off ≤ j ∧ j < off + k then g (j - off) else f j) → Keep (fun i => i = b) w w' → K (a.put o.dst (goInt k)) w') :
    if Region.wanted o (yielded ops a.tmps) = true then Oper.wp P o a w K Q else E := by
  have hw : Region.wanted o (yielded ops a.tmps) = true := by simp [Region.wanted, hgd]
  rw [if_pos hw]
  obtain ⟨w', hrun, r1, r2⟩ := run_copy_cells (P := P) (w := w) dT sT o.type elem hu hsz dp sp dLen dCap sLen sCap b off n t f g k hr hk hpos hfit h1
  unfold Oper.wp
  simp [execOp, ho, resolve, invoke, builtin, hd, hs, hrun, Result.andThen]
  exact h w' r1 r2

theorem dirtyTo_L (m : Mdl) : dirtyTo m m.L = (dirtyL m).map Int.ofNat := rfl
theorem dirtyL_lt {m : Mdl} {k : Nat} (h : k < (dirtyL m).length) : (dirtyL m).getD k 0 < m.L := by
  have h1 : (dirtyL m).getD k 0 ∈ dirtyL m := by
    rw [List.getD_eq_getElem?_getD, List.getElem?_eq_getElem h]; exact List.getElem_mem h
  generalize (dirtyL m).getD k 0 = x at h1
  unfold dirtyL at h1
  simpa using (List.mem_filter.1 h1).1
theorem crashW_step (m : Mdl) (cs : List Int) (k : Nat) {ln : Nat} {c : Int} (h1 : (dirtyL m).getD k 0 = ln) (h2 : cs.getD k 0 = c) (j : Nat) :
    crashW m cs (k + 1) j = if 8 * ln ≤ j ∧ j < 8 * ln + 8 then Nv.outcome m ln c (j - 8 * ln) else crashW m cs k j := by
  simp only [crashW]
  rw [h1, h2]
  by_cases e : j / 8 = ln
  · rw [if_pos e, if_pos (by omega), show j % 8 = j - 8 * ln from by omega]
  · rw [if_neg e, if_neg (by omega)]

set_option maxHeartbeats 1000000 in
theorem crash_any (h : Dev w p f m) (vc : Value) (cs : List Int) (hv : IsInts .u8 w vc cs) (hcs : ∀ k, 0 ≤ cs.getD k 0 ∧ cs.getD k 0 ≤ 255) (hlen : cs.length ≤ 1000000000) :
    Calls Tryd.prog 23 #[.pointer (some ⟨p, 0, none⟩), vc] w (MadeDev (Nv.crash m cs) w) := by
  have hL := h.hL
  obtain ⟨ca, ccap, rfl, hcc, hcx⟩ := hv
  have hall := all_any h
  have HA := Lib.hid hall
  have H := Lib.hid h
  have HX := Lib.hid hcx
  have HCS := Lib.hid hcs
  clear hall h hcx hcs
  go_enter Tryd.func23, Tryd.ntmps23
  go_wp2_with fail
  refine HA.out.mono ?_
  rintro e w1 ⟨B, rfl, hB, r1, k1⟩
  have hd1 : Dev w1 p f m := H.out.keep k1 (fun _ _ _ h => h)
  have hdi := dirty_any hd1
  have HDI := Lib.hid hdi
  have R1 := Lib.hid r1
  have K1 := Lib.hid k1
  have D1 := Lib.hid hd1
  clear r1 k1 hdi hd1
  go_wp2_with fail
  refine HDI.out.mono ?_
  rintro e w2 ⟨vd, rfl, hvd, b2, hob⟩
  obtain ⟨da, dcap, rfl, hdc, hdx⟩ := hvd
  rw [dirtyTo_L] at hdx hdc
  rw [dirtyTo_L]
  simp only [List.length_map] at hdx hdc ⊢
  obtain ⟨dn, hdn⟩ : ∃ dn, (dirtyL m).length = dn := ⟨_, rfl⟩
  obtain ⟨cn, hcn⟩ : ∃ cn, cs.length = cn := ⟨_, rfl⟩
  have hdL : dn ≤ m.L := by rw [← hdn]; unfold dirtyL; exact Nat.le_trans (List.length_filter_le _ _) (by simp)
  rw [hdn] at hdc hdx ⊢
  rw [hcn] at hcc hlen ⊢
  have HDX := Lib.hid hdx
  have HB2 := Lib.hid b2
  have HOB := Lib.hid hob
  have HDN := Lib.hid hdn
  have HCN := Lib.hid hcn
  clear hdx b2 hdn hcn hob
  obtain ⟨K, hK⟩ : ∃ K, K = min dn cn := ⟨_, rfl⟩
  have HK := Lib.hid hK
  clear hK
  have hkd : K ≤ dn := by have := HK.out; omega
  have hkc : K ≤ cn := by have := HK.out; omega
  have HCW : Hid (Nv.crash m cs = fresh m.L (crashW m cs K)) := Lib.hid (by unfold Nv.crash; rw [HDN.out, HCN.out, ← HK.out])
  by_cases hcd : (cn : Int) < (dn : Int)
  obtain rfl : K = cn := by have := HK.out; omega
  clear HK
  go_wp2_with fail
  rotate_left
  obtain rfl : K = dn := by have := HK.out; omega
  clear HK
  go_wp2_with fail
  all_goals
    go_loopw [7, 8, 18] (fun _ _ i wr => ∃ k : Nat, k ≤ K ∧ i = .int .i64 k ∧ Hid (Row wr B 74 (8 * m.L) fun j => .int .u64 (crashW m cs k j)) ∧ Hid (Keep (fun x => x = B) w2 wr)) (fun _ _ i _ => K - (intOf i).toNat)
    case atStart => exact ⟨0, by omega, rfl, Lib.hid (R1.out.keep (HB2.out.block _ R1.out.lt)), Lib.hid (Keep.refl _ _)⟩
    case round =>
      obtain ⟨k, hk, rfl, HR, HKP⟩ := hrel
      by_cases hlt : k < K
      · have hlt' : (k : Int) < (K : Int) := by omega
        have hk0 : (0 : Int) ≤ (k : Int) := by omega
        have hk3 := Int.lt_of_lt_of_le hlt' (Int.ofNat_le.2 hkc)
        have hk4 := Int.lt_of_lt_of_le hlt' (Int.ofNat_le.2 hkd)
        have hdl : (dirtyL m).getD k 0 < m.L := dirtyL_lt (by rw [HDN.out]; omega)
        have hcsk := HCS.out k
        have hst := crashW_step m cs k rfl rfl
        obtain ⟨db, doff, rfl, hdlt, hdcell⟩ := HDX.out.resolve_left (by intro e; have := congrArg List.length e; rw [List.length_map, HDN.out] at this; simp at this; omega)
        obtain ⟨cb, coff, rfl, hclt, hccell⟩ := HX.out.resolve_left (by intro e; have := HCN.out; rw [e] at this; simp at this; omega)
        have hBw1 : B < w1.heap.size := R1.out.lt
        have hdB : db ≠ B := by have := HOB.out db rfl; omega
        have hcB : cb ≠ B := by omega
        have hdc1 : wr.cell? ⟨db, doff + k, none⟩ = some (.int .i64 ((dirtyL m).getD k 0 : Nat)) := by
          rw [HKP.out.cell (p := ⟨db, doff + k, none⟩) hdlt hdB, hdcell k (by omega)]
          rw [List.getD_eq_getElem?_getD, List.getElem?_map, List.getD_eq_getElem?_getD]
          cases (dirtyL m)[k]? <;> rfl
        have hcc1 : wr.cell? ⟨cb, coff + k, none⟩ = some (.int .u8 (cs.getD k 0)) := by
          rw [HKP.out.cell (p := ⟨cb, coff + k, none⟩) (by have := K1.out.size; have := HB2.out.size; simp only; omega) hcB, HB2.out.cell (p := ⟨cb, coff + k, none⟩) (by have := K1.out.size; simp only; omega), K1.out.cell (p := ⟨cb, coff + k, none⟩) hclt (fun h => h)]
          exact hccell k (by rw [HCN.out]; omega)
        generalize (dirtyL m).getD k 0 = ln at hdl hst hdc1
        generalize cs.getD k 0 = c at hcsk hst hcc1
        obtain ⟨hc0, hc1⟩ := hcsk
        have hdw : Dev wr p f m := (D1.out.keep (Keep.ofBelow (S := fun _ => False) HB2.out) (fun _ _ _ h => h)).keep HKP.out (fun b _ ho e => by have := H.out.own_all b ho; omega)
        have hout : Calls Tryd.prog 37 #[.pointer (some ⟨p, 0, none⟩), .int .i64 ln, .int .u8 c] wr.drew (OutAt wr.drew (Nv.outcome m ln c) (f.own p)) := outcome_any (hdw.drewN 1) ln c hdl hc0 hc1
        have hrd : Row wr.drew B 74 (8 * m.L) (fun j => .int .u64 (crashW m cs k j)) := HR.out
        have hcL : cb < wr.drew.heap.size := by show cb < wr.heap.size; have := K1.out.size; have := HB2.out.size; have := HKP.out.size; omega
        have HO := Lib.hid hout
        have HRD := Lib.hid hrd
        have HST := Lib.hid hst
        clear hout hrd hst hdw hdcell hccell
        go_wp2_with fail
        go_region_held3 (fun w' => w'.cell? ⟨cb, coff + k, none⟩ = some (.int .u8 c)) (first | go_keep | exact (k6.cell (p := ⟨cb, coff + k, none⟩) hcL hcB).trans hcc1)
          (first
            | (go_at_call 36; refine (part_any _ B (8 * m.L) (8 * m.L) ln (by omega) (by omega) (by omega)).mono ?_; rintro e w' ⟨rfl, rfl⟩)
            | (go_at_call 37; refine HO.out.mono ?_; rintro e w' ⟨⟨ob, oo, rfl, hob, hoc⟩, rfl⟩)
            | ((with_reducible refine step_copy_cells rfl _ _ 22 22 rfl 74 Tryd.underlying22 infoU64s _ _ 8 8 8 8 rfl rfl B (8 * ln) (8 * m.L) 74 _ (fun j => .int .u64 (Nv.outcome m ln c j)) 8 HRD.out rfl (fun _ => ⟨rfl, _, rfl, fun j hj => by rw [addr_add]; exact hoc j hj⟩) (by omega) (fun _ => rfl) ?_); intro w6 r6 k6))
        go_wp2_with fail
        go_roundw
        case rel => exact ⟨k + 1, by omega, by go_num, Lib.hid (r6.congr fun j hj => by rw [HST.out j]; split <;> rfl), Lib.hid (HKP.out.trans' (Keep.trans' (Keep.refl _ _).drew k6))⟩
        case measure => simp [intOf]; omega
      · have hlt' : ¬ (k : Int) < (K : Int) := by omega
        obtain rfl : k = K := by omega
        have hrow := HR.out
        have hI : IsInts .u64 wr (.slice (some ⟨B, 0, none⟩) (8 * m.L) (8 * m.L)) ((List.range (8 * m.L)).map (crashW m cs k)) := ⟨some ⟨B, 0, none⟩, 8 * m.L, by simp, by simp, .inr ⟨B, 0, rfl, hrow.lt, fun i hi => by
          simp at hi
          rw [Nat.zero_add, hrow.cell hi, List.getD_eq_getElem?_getD, List.getElem?_map, List.getElem?_range hi]; rfl⟩⟩
        have hld := load_any _ _ _ hI (by simp; omega)
        have HLD := Lib.hid hld
        clear hld hI hrow
        go_wp2_with fail
        refine HLD.out.mono ?_
        rintro e w7 ⟨p7, f7, rfl, h7, k7, o7⟩
        have h8 : Dev w7 p7 f7 (Nv.crash m cs) := by
          rw [HCW.out]
          rw [show linesFor ((List.range (8 * m.L)).map (crashW m cs k)).length = m.L from by rw [List.length_map, List.length_range]; unfold linesFor; omega] at h7
          exact fresh_congr h7 fun j hj => by unfold padded; rw [List.getD_eq_getElem?_getD, List.getElem?_map, List.getElem?_range hj]; rfl
        have k8 : Keep (fun _ => False) w w7 := ((K1.out.trans (Keep.ofBelow (S := fun _ => False) HB2.out) (fun _ _ h => h)).trans HKP.out (fun i hi e => by omega)).trans k7 (fun _ _ h => h)
        have o8 : ∀ b, f7.own p7 b → w.heap.size ≤ b := fun b hb => by
          have := o7 b hb; have := K1.out.size; have := HB2.out.size; have := HKP.out.size; omega
        have HE := Lib.hid (And.intro h8 (And.intro k8 o8))
        clear h7 k7 o7 h8 k8 o8
        go_wp2_with fail
        go_ret
        exact ⟨p7, f7, rfl, HE.out.1, HE.out.2.1, HE.out.2.2⟩
end

end Go.Proofs.YtaigocnnmjjhgaaDoor

namespace Go.Proofs.YtaigocnnmjjhgaaDoor
open Go.ChangeShapes Go.WideShapes Go.ChangeAt Go.RowKit Nv
set_option linter.unusedVariables false

/-- Block b begins with n cells of type t, cell k is f k; none is frozen. -/
def RowP (w : World) (b t n : Nat) (f : Nat → Value) : Prop := ∃ cs : Array Value, w.heap[b]? = some (.cells cs t (0, 0)) ∧ n ≤ cs.size ∧ ∀ k, k < n → cs[k]? = some (f k)

section
variable {w w' : World} {b t n : Nat} {f g : Nat → Value}
theorem RowP.lt (h : RowP w b t n f) : b < w.heap.size := by
  obtain ⟨cs, h, _⟩ := h
  exact (Array.getElem?_eq_some_iff.1 h).1
theorem RowP.cell (h : RowP w b t n f) {k : Nat} (hk : k < n) : w.cell? ⟨b, k, none⟩ = some (f k) := by
  obtain ⟨cs, h, _, hc⟩ := h
  simp only [World.cell?, h]
  simpa using hc k hk
theorem RowP.frozen (h : RowP w b t n f) (k : Nat) : w.frozen? ⟨b, k, none⟩ = false := by
  obtain ⟨cs, h, _⟩ := h
  simp [World.frozen?, h]
theorem RowP.congr (h : RowP w b t n f) (hg : ∀ k, k < n → f k = g k) : RowP w b t n g := by
  obtain ⟨cs, h, hs, hc⟩ := h
  exact ⟨cs, h, hs, fun k hk => by rw [hc k hk, hg k hk]⟩
theorem RowP.keep (h : RowP w b t n f) (hb : w'.heap[b]? = w.heap[b]?) : RowP w' b t n f := by
  obtain ⟨cs, h, r⟩ := h
  exact ⟨cs, hb.trans h, r⟩
theorem RowP.drew (h : RowP w b t n f) : RowP w.drew b t n f := h
theorem RowP.far (h : RowP w b t n f) {p : Addr} (hp : b ≠ p.block) (u : Value) : RowP (w.setCell p u) b t n f := h.keep (Below.heap_setCell w p u b hp)
theorem RowP.set (h : RowP w b t n f) (i : Nat) (u : Value) : RowP (w.setCell ⟨b, i, none⟩ u) b t n (fun j => if j = i then u else f j) := by
  obtain ⟨cs, h, hs, hc⟩ := h
  refine ⟨cs.setIfInBounds i u, by simp [World.setCell, Array.getElem?_modify, h], by simpa using hs, fun k hk => ?_⟩
  rw [Array.getElem?_setIfInBounds]
  by_cases e : i = k
  · subst e; rw [if_pos rfl, if_pos (by omega)]; simp
  · rw [if_neg e, hc k hk]; simp only []; rw [if_neg (fun h : k = i => e h.symm)]
theorem RowP.ne {b' t' n' : Nat} (h : RowP w b t n f) (h' : RowP w b' t' n' g) (ht : t ≠ t') : b ≠ b' := by
  rintro rfl
  obtain ⟨cs, h, _⟩ := h
  obtain ⟨cs', h', _⟩ := h'
  rw [h] at h'; cases h'; exact ht rfl
end

/-- A slice of n elements of type t, 'size' cells each: cell k of them is f k; where it has any, it lies at the head of a block of T. -/
structure SRow (w : World) (T : Nat → Prop) (t size : Nat) (a : Option Addr) (n cap : Nat) (f : Nat → Value) : Prop where
  cap : n ≤ cap
  at_ : 0 < n → ∃ b, a = some ⟨b, 0, none⟩ ∧ T b ∧ RowP w b t (n * size) f

theorem SRow.keep {w w' : World} {S T T' : Nat → Prop} {t size n cap : Nat} {a : Option Addr} {f : Nat → Value} (h : SRow w T t size a n cap f) (hk : Keep S w w') (hS : ∀ b, T b → b < w.heap.size → ¬ S b) (hT : ∀ b, T b → b < w.heap.size → T' b) : SRow w' T' t size a n cap f :=
  ⟨h.cap, fun h0 => by
    obtain ⟨b, rfl, hb, hr⟩ := h.at_ h0
    exact ⟨b, rfl, hT b hb hr.lt, hr.keep (hk.block b hr.lt (hS b hb hr.lt))⟩⟩
theorem SRow.congr {w : World} {T : Nat → Prop} {t size n cap : Nat} {a : Option Addr} {f g : Nat → Value} (h : SRow w T t size a n cap f) (hg : ∀ k, k < n * size → f k = g k) : SRow w T t size a n cap g :=
  ⟨h.cap, fun h0 => by
    obtain ⟨b, rfl, hb, hr⟩ := h.at_ h0
    exact ⟨b, rfl, hb, hr.congr hg⟩⟩
theorem SRow.of_own {w : World} {base e size n : Nat} {v : Value} {xs : List Value} {f : Nat → Value} {T : Nat → Prop} (h : w.ownsRow base e size v n xs) (hf : ∀ k, k < n * size → xs[k]? = some (f k)) (hT : ∀ b, base ≤ b → b < w.heap.size → T b) :
    ∃ a cap, v = .slice a n cap ∧ SRow w T e size a n cap f := by
  obtain ⟨hl, h⟩ := h
  rcases h with ⟨rfl, h0⟩ | ⟨g, cap, cur, rfl, hg, hc, hnc, _, hs, ht⟩
  · exact ⟨none, 0, by rw [h0], by omega, fun h => by omega⟩
  · refine ⟨_, cap, rfl, hnc, fun h0 => ⟨g, rfl, hT g hg (Array.getElem?_eq_some_iff.1 hc).1, cur, hc, ?_, fun k hk => ?_⟩⟩
    · rw [hs]; exact Nat.mul_le_mul_right _ hnc
    · have := hf k hk
      rw [← ht, List.getElem?_take_of_lt hk] at this
      simpa using this

/-- The five slices of the reference's device, and what all lines would be pending with. -/
structure RV where
  aN : Option Addr
  aL : Option Addr
  aW : Option Addr
  aD : Option Addr
  aP : Option Addr
  cN : Nat
  cL : Nat
  cW : Nat
  cD : Nat
  cP : Nat
  wf : Nat → Int

def rv (r : RV) (m : Mdl) : Value :=
  .agg #[.slice r.aN m.L r.cN, .slice r.aL m.L r.cL, .slice r.aW m.L r.cW, .slice r.aD m.L r.cD, .slice r.aP m.L r.cP, .int .i64 m.steps, .int .i64 m.fuse, .bool m.dead]

/-- The reference's device is m; its slices lie in blocks of T. -/
structure Ref (w : World) (T : Nat → Prop) (r : RV) (m : Mdl) : Prop where
  hN : SRow w T 76 8 r.aN m.L r.cN fun k => .int .u64 (m.now k)
  hL : SRow w T 76 8 r.aL m.L r.cL fun k => .int .u64 (m.last k)
  hW : SRow w T 76 8 r.aW m.L r.cW fun k => .int .u64 (r.wf k)
  hD : SRow w T 4 1 r.aD m.L r.cD fun k => .bool (m.dirty k)
  hP : SRow w T 4 1 r.aP m.L r.cP fun k => .bool (m.wait k).isSome
  wt : ∀ i c, m.wait i = some c → ∀ j, j < 8 → r.wf (8 * i + j) = c j
  lb : m.L ≤ 33554432

theorem Ref.keep {w w' : World} {S T T' : Nat → Prop} {r : RV} {m : Mdl} (h : Ref w T r m) (hk : Keep S w w') (hS : ∀ b, T b → b < w.heap.size → ¬ S b) (hT : ∀ b, T b → b < w.heap.size → T' b) : Ref w' T' r m :=
  ⟨h.hN.keep hk hS hT, h.hL.keep hk hS hT, h.hW.keep hk hS hT, h.hD.keep hk hS hT, h.hP.keep hk hS hT, h.wt, h.lb⟩
theorem Ref.below {w w' : World} {T : Nat → Prop} {r : RV} {m : Mdl} (h : Ref w T r m) (hb : Below w.heap.size w w') : Ref w' T r m :=
  h.keep (Keep.ofBelow (S := fun _ => False) hb) (fun _ _ _ h => h) (fun _ h _ => h)

/-- A call hands back a device of the reference's and another value; nothing that was there has turned. -/
def RefTo (T : Nat → Prop) (m' : Mdl) (x : Value) (w : World) (e : Ending) (w' : World) : Prop :=
  ∃ r', e = .returned (.tuple #[rv r' m', x]) ∧ Ref w' (fun b => T b ∨ (w.heap.size ≤ b ∧ b < w'.heap.size)) r' m' ∧ Below w.heap.size w w'

section
variable {w : World} {T : Nat → Prop} {r : RV} {m : Mdl}

theorem below_two (w : World) (a b : Obj) : Below w.heap.size w ((w.alloc a).alloc b) := ((Below.refl _ w).alloc (Nat.le_refl _) a).alloc (by simp) b

/-- A copy of a row: what it is, and where. -/
def CopyTo (t size n : Nat) (f : Nat → Value) (w : World) (e : Ending) (w' : World) : Prop :=
  ∃ a cap, e = .returned (.slice a n cap) ∧ SRow w' (fun b => w.heap.size ≤ b ∧ b < w'.heap.size) t size a n cap f ∧ Below w.heap.size w w'

theorem infoL : (Tryd.prog.info? 76).map (fun i => (i.zero, i.size, i.bytes)) = some (some (.agg #[.int .u64 0, .int .u64 0, .int .u64 0, .int .u64 0, .int .u64 0, .int .u64 0, .int .u64 0, .int .u64 0]), 8, 64) := by kernel_rfl

theorem run_append_copy {P : Program} {w : World} {t ty e : TypeId} {i : TypeInfo} {z : Value} {size bytes : Nat} (ht : P.underlying t = some (.slice e)) (hi : P.info? e = some i) (hz : i.zero = some z) (h1 : i.size = size) (hby : i.bytes = bytes) (hzs : z.cells.size = size) (hsz : 0 < size)
    {base : Nat} {v : Value} (hown : w.ownsRow base e size v 0 []) {T : Nat → Prop} {a : Option Addr} {n cap : Nat} {f : Nat → Value} (hs : SRow w T e size a n cap f) (h1c : ∀ k, (f k).oneCell' = true) (h63 : n ≤ maxLen) (hb : n * bytes ≤ 140737488355328) (hbase : base ≤ w.heap.size) :
    ∃ v' w', (Builtin.append_ #[t, t] ty #[v, .slice a n cap]).run P w = .ok v' w' ∧ w'.ownsRow base e size v' n ((List.range (n * size)).map f) ∧ w.grownBy w' v.ownBlock := by
  have hnews : n = 0 ∨ ∃ ad, a = some ad ∧ ∀ j u, ((List.range (n * size)).map f)[j]? = some u → w.cell? (ad.add j) = some u := by
    rcases Nat.eq_zero_or_pos n with h0 | h0
    · exact .inl h0
    · obtain ⟨b, rfl, _, hr⟩ := hs.at_ h0
      refine .inr ⟨_, rfl, fun j u hu => ?_⟩
      have hj : j < n * size := by have := (List.getElem?_eq_some_iff.1 hu).1; simpa using this
      rw [addr_add, Nat.zero_add, hr.cell hj]
      rw [List.getElem?_map, List.getElem?_range hj] at hu
      simpa using hu
  cases a with
  | none =>
    obtain rfl : n = 0 := hnews.resolve_right (by rintro ⟨_, h, _⟩; cases h)
    refine ⟨v, w, ?_, by simpa using hown, ⟨rfl, rfl, rfl, Nat.le_refl _, fun _ _ _ => rfl⟩⟩
    rcases hown.2 with ⟨rfl, _⟩ | ⟨g, c, cur, rfl, _, _, hnc, _⟩
    · simp [Builtin.append_, run_underlying ht, sizeOf, typeInfo, hi, Builtin.lenOf, Builtin.firstCells]
    · simp [Builtin.append_, run_underlying ht, sizeOf, typeInfo, hi, Builtin.lenOf, Builtin.firstCells, hnc, storeCells]
  | some x =>
    have hn2 : ∀ j u, ((List.range (n * size)).map f)[j]? = some u → w.cell? (x.add j) = some u := by
      rcases hnews with rfl | ⟨ad, h, hc⟩
      · intro j u hu; simp at hu
      · cases h; exact hc
    obtain ⟨v', w', hr, ho, hg, _⟩ := run_append_own_at (P := P) w base t ty e i _ size bytes ht hi hz h1 hby hzs hsz v 0 [] hown x n cap ((List.range (n * size)).map f) (by simp) hn2 (by intro u hu; obtain ⟨k, _, rfl⟩ := List.mem_map.1 hu; exact h1c k) (by omega) (by rw [Nat.zero_add]; exact hb) hbase
    exact ⟨v', w', hr, by simpa using ho, hg⟩

theorem wpList_append_copy {P : Program} {w : World} {ops : Array Oper} {rest : List Oper} {o : Oper} {act : Act} {Q : Exit → Act → World → Prop} (hgd : o.guard = none) (s x : Operand) (t e : TypeId) {i : TypeInfo} {z : Value} {size bytes : Nat}
    (ho : o.op = .call { callee := .builtin .append, args := #[s, x], argTypes := #[t, t] }) (ht : P.underlying t = some (.slice e)) (hi : P.info? e = some i) (hz : i.zero = some z) (h1 : i.size = size) (hby : i.bytes = bytes) (hzs : z.cells.size = size) (hsz : 0 < size)
    {base : Nat} {v : Value} {T : Nat → Prop} {a : Option Addr} {n cap : Nat} {f : Nat → Value} (hv : act.eval s = v) (hvs : act.eval x = .slice a n cap) (hown : w.ownsRow base e size v 0 []) (hs : SRow w T e size a n cap f) (h1c : ∀ k, (f k).oneCell' = true) (h63 : n ≤ maxLen) (hb : n * bytes ≤ 140737488355328) (hbase : base ≤ w.heap.size)
    (h : ∀ v' w', w'.ownsRow base e size v' n ((List.range (n * size)).map f) → w.grownBy w' v.ownBlock → wpList P ops Q rest (act.put o.dst v') w') : wpList P ops Q (o :: rest) act w := by
  refine wpList_plain hgd fun K hK => ?_
  obtain ⟨v', w', hr, h2, h3⟩ := run_append_copy (P := P) (ty := o.type) ht hi hz h1 hby hzs hsz hown hs h1c h63 hb hbase
  unfold Oper.wp
  simp [execOp, ho, resolve, invoke, builtin, hv, hvs, hr, Result.andThen]
  exact hK _ _ (h v' w' h2 h3)

end

end Go.Proofs.YtaigocnnmjjhgaaDoor

namespace Go.Proofs.YtaigocnnmjjhgaaDoor
open Go.ChangeShapes Go.WideShapes Go.ChangeAt Go.RowKit Nv
set_option linter.unusedVariables false

/-- Block b is a box that holds these cells. -/
def Box (w : World) (b : Nat) (cs : Array Value) : Prop := w.heap[b]? = some (.cells cs 31 (0, 0))
theorem info30 : (Tryd.prog.info? 31).map (·.size) = some 8 := by kernel_rfl

theorem setCells_keep (b : Nat) : ∀ (vs : List Value) (o : Nat) (w : World), Keep (fun x => x = b) w (w.setCells b o vs)
  | [], _, w => Keep.refl _ w
  | v :: r, o, w => by
    rw [World.setCells]
    exact ((Keep.refl (fun x => x = b) w).setCell (p := ⟨b, o, none⟩) (fun _ => rfl) v).trans' (setCells_keep b r (o + 1) _)
theorem setCells_heap (b t : Nat) : ∀ (vs : List Value) (o : Nat) (w : World) (cur : Array Value), w.heap[b]? = some (.cells cur t (0, 0)) → ∃ cs : Array Value, (w.setCells b o vs).heap[b]? = some (.cells cs t (0, 0)) ∧ cs.size = cur.size ∧
    ∀ j, cs[j]? = if o ≤ j ∧ j < o + vs.length ∧ j < cur.size then vs[j - o]? else cur[j]?
  | [], o, w, cur, h => ⟨cur, h, rfl, fun j => by rw [if_neg (by simp only [List.length_nil]; omega)]⟩
  | v :: r, o, w, cur, h => by
    have h1 := heap_setCell_same w b o cur t v h
    obtain ⟨cs, h2, hs, hc⟩ := setCells_heap b t r (o + 1) _ _ h1
    refine ⟨cs, by rw [World.setCells]; exact h2, by simpa using hs, fun j => ?_⟩
    rw [hc j]
    simp only [List.length_cons, Array.size_setIfInBounds]
    by_cases e1 : j = o
    · subst e1
      rw [if_neg (by omega), Array.getElem?_setIfInBounds, if_pos rfl]
      by_cases e2 : j < cur.size
      · rw [if_pos e2, if_pos (by omega)]; simp
      · rw [if_neg e2, if_neg (by omega), Array.getElem?_eq_none (by omega)]
    · by_cases e2 : o + 1 ≤ j ∧ j < o + 1 + r.length ∧ j < cur.size
      · rw [if_pos e2, if_pos (by omega), show j - o = (j - (o + 1)) + 1 from by omega, List.getElem?_cons_succ]
      · rw [if_neg e2, if_neg (by omega), Array.getElem?_setIfInBounds, if_neg (by omega)]

/-- A value is stored whole into a block that is known. -/
theorem run_store_whole {P : Program} {w : World} {b o n t ty : Nat} {f g : Nat → Value} {cells : Array Value} (hr : RowP w b t n f) (hn : o + cells.size ≤ n) (hi : (P.info? ty).map (·.size) = some cells.size) (h1 : cells.all (·.oneCell') = true) :
    ∃ w', (Instr.storeAt ty (.pointer (some ⟨b, o, none⟩)) (.agg cells)).run P w = .ok () w' ∧ RowP w' b t n (fun j => if o ≤ j ∧ j < o + cells.size then cells.getD (j - o) undef else f j) ∧ Keep (fun x => x = b) w w' := by
  obtain ⟨cur, hb, hs, hc⟩ := id hr
  have ht : w.there b o cells.size := fun j hj => ⟨by rw [hr.cell (by omega)]; rfl, hr.frozen _⟩
  obtain ⟨cs, h2, hs2, hc2⟩ := setCells_heap b t cells.toList o w cur hb
  refine ⟨_, run_storeAt_mid (P := P) w b o ty cells ht hi h1, ⟨cs, h2, by omega, fun k hk => ?_⟩, setCells_keep b _ _ _⟩
  rw [hc2 k]
  simp only [Array.length_toList]
  by_cases e : o ≤ k ∧ k < o + cells.size
  · rw [if_pos (by omega), if_pos e]
    rw [Array.getElem?_toList, Array.getD_eq_getD_getElem?, Array.getElem?_eq_getElem (by omega)]; rfl
  · rw [if_neg (by omega), if_neg e, hc k hk]
theorem wpList_store_whole {P : Program} {ops : Array Oper} {rest : List Oper} {op : Oper} {a : Act} {w : World} {Q : Exit → Act → World → Prop} (hgd : op.guard = none) (ty : TypeId) (x y : Operand) (ho : op.op = .store ty x y)
    {b o n t : Nat} {f : Nat → Value} {cells : Array Value} (hx : a.eval x = .pointer (some ⟨b, o, none⟩)) (hy : a.eval y = .agg cells) (hr : RowP w b t n f) (hn : o + cells.size ≤ n) (hi : (P.info? ty).map (·.size) = some cells.size) (h1 : cells.all (·.oneCell') = true)
    (h : ∀ w', RowP w' b t n (fun j => if o ≤ j ∧ j < o + cells.size then cells.getD (j - o) undef else f j) → Keep (fun x => x = b) w w' → wpList P ops Q rest (a.put op.dst undef) w') : wpList P ops Q (op :: rest) a w := by
  refine wpList_plain hgd fun K hK => ?_
  obtain ⟨w', hrun, r1, r2⟩ := run_store_whole (P := P) (g := f) hr hn hi h1
  unfold Oper.wp
  simp [execOp, ho, hx, hy, hrun, Result.andThen]
  exact hK _ _ (h w' r1 r2)

/-- A box is stored whole. -/
theorem run_store_box {w : World} {b : Nat} {old cells : Array Value} (hb : Box w b old) (ho : old.size = 8) (hc : cells.size = 8) (h1 : cells.all (·.oneCell') = true) :
    ∃ w', (Instr.storeAt 31 (.pointer (some ⟨b, 0, none⟩)) (.agg cells)).run Tryd.prog w = .ok () w' ∧ Box w' b cells ∧ Keep (fun x => x = b) w w' := by
  have ht : w.there b 0 cells.size := fun j hj => ⟨by
    rw [cell_of_row w b _ old _ _ hb, Array.getElem?_eq_getElem (by omega)]; rfl, frozen_of_row w b _ old _ hb⟩
  obtain ⟨cs, h2, hs2, hc2⟩ := setCells_heap b _ cells.toList 0 w old hb
  refine ⟨_, run_storeAt_mid w b 0 _ cells ht (by rw [hc]; exact info30) h1, ?_, setCells_keep b _ _ _⟩
  unfold Box
  rw [h2]
  congr 2
  apply Array.ext_getElem?
  intro j
  rw [hc2 j]
  simp only [Array.length_toList]
  by_cases e : j < 8
  · rw [if_pos (by omega)]; simp
  · rw [if_neg (by omega), Array.getElem?_eq_none (by omega), Array.getElem?_eq_none (by omega)]
theorem wpList_store_box {ops : Array Oper} {rest : List Oper} {op : Oper} {a : Act} {w : World} {Q : Exit → Act → World → Prop} (hgd : op.guard = none) (x y : Operand) (ho : op.op = .store 31 x y)
    {b : Nat} {old cells : Array Value} (hx : a.eval x = .pointer (some ⟨b, 0, none⟩)) (hy : a.eval y = .agg cells) (hb : Box w b old) (hold : old.size = 8) (hc : cells.size = 8) (h1 : cells.all (·.oneCell') = true)
    (h : ∀ w', Box w' b cells → Keep (fun x => x = b) w w' → wpList Tryd.prog ops Q rest (a.put op.dst undef) w') : wpList Tryd.prog ops Q (op :: rest) a w := by
  refine wpList_plain hgd fun K hK => ?_
  obtain ⟨w', hrun, r1, r2⟩ := run_store_box hb hold hc h1
  unfold Oper.wp
  simp [execOp, ho, hx, hy, hrun, Result.andThen]
  exact hK _ _ (h w' r1 r2)
theorem wpList_load_box {ops : Array Oper} {rest : List Oper} {o : Oper} {a : Act} {w : World} {Q : Exit → Act → World → Prop} (hgd : o.guard = none) (x : Operand) (ho : o.op = .load 31 x)
    {b : Nat} {cells : Array Value} (hx : a.eval x = .pointer (some ⟨b, 0, none⟩)) (hb : Box w b cells) (hc : cells.size = 8)
    (h : wpList Tryd.prog ops Q rest (a.put o.dst (.agg cells)) w) : wpList Tryd.prog ops Q (o :: rest) a w :=
  wpList_load_row hgd _ x ho b hx _ cells (0, 0) _ hb Tryd.underlying31 rfl (by rw [hc]; exact info30) h

theorem Box.keep {S : Nat → Prop} {w w' : World} {b : Nat} {cs : Array Value} (h : Box w b cs) (hk : Keep S w w') (hS : ¬ S b) : Box w' b cs := (hk.block b (Array.getElem?_eq_some_iff.1 h).1 hS).trans h
theorem Box.lt {w : World} {b : Nat} {cs : Array Value} (h : Box w b cs) : b < w.heap.size := (Array.getElem?_eq_some_iff.1 h).1
theorem Box.below {w w' : World} {b B : Nat} {cs : Array Value} (h : Box w b cs) (hb : Below B w w') (hB : b < B) : Box w' b cs := (hb.block b hB).trans h
theorem Box.cell {w : World} {b : Nat} {cs : Array Value} (h : Box w b cs) (i : Nat) : w.cell? ⟨b, i, none⟩ = cs[i]? := cell_of_row w b i cs _ _ h
theorem Box.frozen {w : World} {b : Nat} {cs : Array Value} (h : Box w b cs) (i : Nat) : w.frozen? ⟨b, i, none⟩ = false := frozen_of_row w b i cs _ h
theorem Box.set {w : World} {b : Nat} {cs : Array Value} (h : Box w b cs) (i : Nat) (u : Value) : Box (w.setCell ⟨b, i, none⟩ u) b (cs.setIfInBounds i u) := heap_setCell_same w b i cs _ u h
theorem Box.far {w : World} {b : Nat} {cs : Array Value} (h : Box w b cs) {p : Addr} (hp : b ≠ p.block) (u : Value) : Box (w.setCell p u) b cs := (Below.heap_setCell w p u b hp).trans h
theorem Box.alloc {w : World} {b : Nat} {cs : Array Value} (h : Box w b cs) (o : Obj) : Box (w.alloc o) b cs := (Below.heap_alloc _ _ _ h.lt).trans h
theorem Box.new (w : World) (cs : Array Value) : Box (w.alloc (.cells cs 31)) w.heap.size cs := heap_alloc_new w _

/-- A device in a box and a number in a slot are handed back. -/
theorem results_box2 {fn : Func} {p q : Tmp} (h : fn.results = #[.cell p 31, .tmp q]) (tmps : Array Value) (w : World) (b : Nat) (cs : Array Value) (v : Value) (hp : tmps.getD p undef = .pointer (some ⟨b, 0, none⟩)) (hb : Box w b cs) (hc : cs.size = 8) (hq : tmps.getD q undef = v) :
    (results fn tmps).run Tryd.prog w = .ok (.tuple #[.agg cs, v]) w := by
  have hp' : tmps[p]?.getD undef = .pointer (some ⟨b, 0, none⟩) := by simpa using hp
  have hq' : tmps[q]?.getD undef = v := by simpa using hq
  have hl := run_loadVar_row (P := Tryd.prog) w b _ 31 cs (0, 0) _ hb Tryd.underlying31 rfl (by rw [hc]; exact info30)
  simp [results, h, hp', hq', asAddr, hl, Result.andThen]
theorem results_box1 {fn : Func} {p : Tmp} (h : fn.results = #[.cell p 31]) (tmps : Array Value) (w : World) (b : Nat) (cs : Array Value) (hp : tmps.getD p undef = .pointer (some ⟨b, 0, none⟩)) (hb : Box w b cs) (hc : cs.size = 8) :
    (results fn tmps).run Tryd.prog w = .ok (.agg cs) w :=
  results_cell_row h tmps w b _ cs (0, 0) _ hp hb Tryd.underlying31 rfl (by rw [hc]; exact info30)

def rc (r : RV) (m : Mdl) : Array Value :=
  #[.slice r.aN m.L r.cN, .slice r.aL m.L r.cL, .slice r.aW m.L r.cW, .slice r.aD m.L r.cD, .slice r.aP m.L r.cP, .int .i64 m.steps, .int .i64 m.fuse, .bool m.dead]
theorem rc_size (r : RV) (m : Mdl) : (rc r m).size = 8 := rfl
theorem rc_one (r : RV) (m : Mdl) : (rc r m).all (·.oneCell') = true := by simp [rc, Value.oneCell']
theorem rv_rc (r : RV) (m : Mdl) : rv r m = .agg (rc r m) := rfl

/-- An empty device's cells. -/
def z30 : Array Value := #[.slice none 0 0, .slice none 0 0, .slice none 0 0, .slice none 0 0, .slice none 0 0, .int .i64 0, .int .i64 0, .bool false]

theorem boxes_of {w w1 : World} {cs : Array Value} (hb : Below ((w.alloc (.cells cs 31)).alloc (.cells z30 31)).heap.size ((w.alloc (.cells cs 31)).alloc (.cells z30 31)) w1) :
    Box w1 w.heap.size cs ∧ Box w1 (w.heap.size + 1) z30 ∧ Below w.heap.size w w1 ∧ w.heap.size + 2 ≤ w1.heap.size := by
  have e1 : (w.alloc (.cells cs 31)).heap.size = w.heap.size + 1 := by simp
  have e2 : ((w.alloc (.cells cs 31)).alloc (.cells z30 31)).heap.size = w.heap.size + 2 := by simp
  have h0 : Box (w.alloc (.cells cs 31)) w.heap.size cs := Box.new w cs
  have h1 : Box ((w.alloc (.cells cs 31)).alloc (.cells z30 31)) (w.heap.size + 1) z30 := by have := Box.new (w.alloc (.cells cs 31)) z30; rwa [e1] at this
  have h2 : Box ((w.alloc (.cells cs 31)).alloc (.cells z30 31)) w.heap.size cs := (Below.heap_alloc _ _ _ (by omega)).trans h0
  refine ⟨h2.below hb (by omega), h1.below hb (by omega), (below_two w _ _).trans (hb.mono (by omega)), by have := hb.size; omega⟩

theorem Ref.same {w : World} {T : Nat → Prop} {r : RV} {m m' : Mdl} (h : Ref w T r m) (h1 : m'.L = m.L) (h2 : m'.now = m.now) (h3 : m'.last = m.last) (h4 : m'.dirty = m.dirty) (h5 : m'.wait = m.wait) : Ref w T r m' := by
  obtain ⟨a, b, c, d, e, f, g⟩ := h
  refine ⟨?_, ?_, ?_, ?_, ?_, ?_, ?_⟩
  · rw [h1, h2]; exact a
  · rw [h1, h3]; exact b
  · rw [h1]; exact c
  · rw [h1, h4]; exact d
  · rw [h1, h5]; exact e
  · rw [h5]; exact f
  · rw [h1]; exact g
theorem Ref.dead {w : World} {T : Nat → Prop} {r : RV} {m : Mdl} (h : Ref w T r m) : Ref w T r (deadM m) := h.same rfl rfl rfl rfl rfl
theorem Ref.step {w : World} {T : Nat → Prop} {r : RV} {m : Mdl} (h : Ref w T r m) : Ref w T r (stepM m) := h.same rfl rfl rfl rfl rfl
/-- What a call makes of the blocks. -/
def grewT (T : Nat → Prop) (w w' : World) : Nat → Prop := fun b => T b ∨ (w.heap.size ≤ b ∧ b < w'.heap.size)
theorem Ref.grew {w w' : World} {T : Nat → Prop} {r : RV} {m : Mdl} (h : Ref w T r m) (hb : Below w.heap.size w w') : Ref w' (grewT T w w') r m :=
  h.keep (Keep.ofBelow (S := fun _ => False) hb) (fun _ _ _ h => h) (fun _ h _ => .inl h)

/-- A copy that a call has made, told of what was there at w0. -/
def CopyNew (w0 : World) (t size n : Nat) (f : Nat → Value) (w : World) (e : Ending) (w' : World) : Prop :=
  ∃ a cap, e = .returned (.slice a n cap) ∧ SRow w' (fun b => w0.heap.size ≤ b) t size a n cap f ∧ Below w0.heap.size w0 w' ∧ Below w.heap.size w w' ∧ (0 < n → ∃ b, a = some ⟨b, 0, none⟩ ∧ w.heap.size ≤ b)
theorem fresh_ne {w : World} {T : Nat → Prop} {t size n cap : Nat} {a a' : Option Addr} {f : Nat → Value} (h : SRow w T t size a n cap f) (hn : 0 < n) (g : 0 < n → ∃ b, a' = some ⟨b, 0, none⟩ ∧ w.heap.size ≤ b) : ∀ b b', a = some ⟨b, 0, none⟩ → a' = some ⟨b', 0, none⟩ → b ≠ b' := by
  intro b b' e e' hbb
  subst hbb
  obtain ⟨b1, e1, _, hr⟩ := h.at_ hn
  obtain ⟨b2, e2, hb2⟩ := g hn
  have := hr.lt
  rw [e] at e1; rw [e'] at e2
  cases e1; cases e2
  omega
theorem SRow.below {w w' : World} {T : Nat → Prop} {t size n cap : Nat} {a : Option Addr} {f : Nat → Value} (h : SRow w T t size a n cap f) (hb : Below w.heap.size w w') : SRow w' T t size a n cap f :=
  h.keep (Keep.ofBelow (S := fun _ => False) hb) (fun _ _ _ h => h) (fun _ h _ => h)
theorem SRow.mono {w : World} {T T' : Nat → Prop} {t size n cap : Nat} {a : Option Addr} {f : Nat → Value} (h : SRow w T t size a n cap f) (hT : ∀ b, T b → T' b) : SRow w T' t size a n cap f :=
  ⟨h.cap, fun h0 => by obtain ⟨b, e, hb, hr⟩ := h.at_ h0; exact ⟨b, e, hT b hb, hr⟩⟩
theorem below_of {w0 w : World} (h : Below w0.heap.size w0 w) : Below w0.heap.size w0 w.drew := h.drew
end Go.Proofs.YtaigocnnmjjhgaaDoor

namespace Go.Proofs.YtaigocnnmjjhgaaDoor
open Go.ChangeShapes Go.WideShapes Go.ChangeAt Go.RowKit Nv
set_option linter.unusedVariables false

section
variable {w : World} {T : Nat → Prop}

set_option maxHeartbeats 400000 in
theorem refGet03_any {a : Option Addr} {n cap : Nat} {f : Nat → Int} (h : SRow w T 76 8 a n cap fun k => .int .u64 (f k)) (hn : n ≤ 33554432) (x : Int) :
    Calls Tryd.prog 28 #[.slice a n cap, .int .i64 x] w fun e w' => e = .returned (.int .u64 (if 0 ≤ x ∧ x < 8 * (n : Int) then f x.toNat else 0)) ∧ w = w' := by
  have hcap := h.cap
  by_cases h0 : x < 0
  · have hi : (if 0 ≤ x ∧ x < 8 * (n : Int) then f x.toNat else 0) = 0 := if_neg (by omega)
    rw [hi]
    clear hi
    go_enter Tryd.func28, Tryd.ntmps28
    go_wp2
    go_ret
    exact ⟨rfl, rfl⟩
  · by_cases h1 : x < 8 * (n : Int)
    · obtain ⟨k, rfl⟩ : ∃ k : Nat, x = k := ⟨x.toNat, by omega⟩
      have hi : (if 0 ≤ (k : Int) ∧ (k : Int) < 8 * (n : Int) then f (k : Int).toNat else 0) = f k := if_pos (by omega)
      rw [hi]
      obtain ⟨b, rfl, _, hr⟩ := h.at_ (by omega)
      have ek : k / 8 * 8 + k % 8 = k := by omega
      have c1 := hr.cell (k := k) (by omega)
      have hk3 : decide (8 * (n : Int) ≤ (k : Int)) = false := by simp; omega
      have hq : (k : Int) / 8 < (n : Int) := by omega
      have hq0 : (0 : Int) ≤ (k : Int) / 8 := by omega
      have hm0 : (0 : Int) ≤ (k : Int) % 8 := by omega
      have hm1 : (k : Int) % 8 < 8 := by omega
      clear hi h hr
      go_enter Tryd.func28, Tryd.ntmps28
      go_wp2
      go_ret
      exact ⟨rfl, rfl⟩
    · have hi : (if 0 ≤ x ∧ x < 8 * (n : Int) then f x.toNat else 0) = 0 := if_neg (by omega)
      rw [hi]
      have h2 : 8 * (n : Int) ≤ x := by omega
      clear hi h
      go_enter Tryd.func28, Tryd.ntmps28
      go_wp2
      go_ret
      exact ⟨rfl, rfl⟩

def RDirtyAt (m : Mdl) (k : Nat) (B : Nat) (v : Value) (w : World) (wr : World) : Prop :=
  wr.ownsRow B 3 1 v (dirtyTo m k).length ((dirtyTo m k).map (Value.int .i64)) ∧ Below w.heap.size w wr

/-- All words of lines. -/
def wordsTo (f : Nat → Int) (k : Nat) : List Int := (List.range (8 * k)).map f
theorem wordsTo_succ (f : Nat → Int) (k : Nat) : wordsTo f (k + 1) = wordsTo f k ++ (List.range 8).map fun j => f (8 * k + j) := by
  unfold wordsTo
  rw [show 8 * (k + 1) = 8 * k + 8 from by omega, List.range_add, List.map_append, List.map_map]
  rfl
theorem wordsTo_len (f : Nat → Int) (k : Nat) : (wordsTo f k).length = 8 * k := by unfold wordsTo; simp

def RAllAt (f : Nat → Int) (k : Nat) (w : World) (v : Value) (wr : World) : Prop :=
  wr.ownsRow w.heap.size 74 1 v (8 * k) ((wordsTo f k).map (Value.int .u64)) ∧ Below w.heap.size w wr

end

end Go.Proofs.YtaigocnnmjjhgaaDoor

namespace Go.Proofs.YtaigocnnmjjhgaaDoor
open Go.ChangeShapes Go.WideShapes Go.ChangeAt Go.RowKit Bk Bh Nv
set_option linter.unusedVariables false

/-- All headers, or the first block that has none: what a call tells. -/
def ReadIs (f : Nat → Int) (n : Nat) (w : World) (e : Ending) (w' : World) : Prop :=
  ∃ v, e = .returned (.tuple #[v, .int .i64 (readB f n : Nat), .int .i64 (readE f n : Nat)]) ∧ IsHs w' v (readL f n) ∧ Below w.heap.size w w'

theorem own_one {w : World} {base : Nat} {e : TypeId} {x y z : Int} (hb : base ≤ w.heap.size) :
    (w.alloc (.cells #[.int .i64 x, .int .i64 y, .int .i64 z] e)).ownsRow base e 3 (.slice (some ⟨w.heap.size, 0, none⟩) 1 1) 1 ([x, y, z].map (Value.int .i64)) :=
  ⟨by simp, .inr ⟨w.heap.size, 1, #[.int .i64 x, .int .i64 y, .int .i64 z], rfl, hb, heap_alloc_new w _, Nat.le_refl _, by decide, rfl, by simp⟩⟩

set_option maxRecDepth 100000 in
set_option maxHeartbeats 2000000 in
theorem refRead10_any {w : World} {T : Nat → Prop} {r : RV} {m : Mdl} (h : Ref w T r m) (hv : ∀ j, 0 ≤ m.now j ∧ m.now j < 2 ^ 64) (n : Nat) (h1 : 1 ≤ n) (hn : n ≤ 256) (hL : 512 * n ≤ 8 * m.L) :
    Calls Tryd.prog 9 #[rv r m, .int .i64 n] w (ReadIs m.now n w) := by
  obtain ⟨i0, hi, hz0, hz1, hz2⟩ := info_parts infoRH
  have lb := h.lb
  have H := Lib.hid h
  have HN : Hid (∀ W, Below w.heap.size w W → SRow W T 76 8 r.aN m.L r.cN fun k => .int .u64 (m.now k)) := Lib.hid fun W hb => (h.below hb).hN
  have HG : Hid (∀ (b : Nat) W, b < n → Below w.heap.size w W → Calls Tryd.prog 28 #[.slice r.aN m.L r.cN, .int .i64 (256 + (b : Int))] W fun e w' => e = .returned (.int .u64 (m.now (256 + b)).toNat) ∧ W = w') := Lib.hid fun b W hb hW => by
    have := refGet03_any (HN.out W hW) lb (256 + (b : Int))
    rw [if_pos (by omega)] at this
    rwa [show (256 + (b : Int)).toNat = 256 + b by omega, show (m.now (256 + b)) = (((m.now (256 + b)).toNat : Nat) : Int) by have := (hv (256 + b)).1; omega] at this
  have HD : Hid (∀ (b : Nat) W, b < n → Calls Tryd.prog 27 #[.int .i64 b, .int .u64 (m.now (256 + b)).toNat] W (HeadTells (m.now (256 + b)).toNat (256 + b) W)) := Lib.hid fun b W hb =>
    refHeadDec_any b (256 + (b : Int)) _ (256 + b) W (by have := hv (256 + b); omega) (by unfold wrap64; omega) (by rw [IntKind.wrap_u64]; omega) (by omega)
  have bw := (Below.refl w.heap.size w).alloc (Nat.le_refl _) (.cells (rc r m) 31)
  have s0 : (w.alloc (.cells (rc r m) 31)).heap.size = w.heap.size + 1 := by simp
  have x0 : (w.alloc (.cells (rc r m) 31)).cell? ⟨w.heap.size, 0, none⟩ = some (.slice r.aN m.L r.cN) := (Box.new w (rc r m)).cell 0
  have H0 : Hid (HsAt 46 (hdrs m.now 1) 1 (w.alloc (.cells (rc r m) 31)).heap.size (.slice (some ⟨w.heap.size + 1, 0, none⟩) 1 1) (w.alloc (.cells (rc r m) 31)) ((w.alloc (.cells (rc r m) 31)).alloc (.cells #[.int .i64 0, .int .i64 0, .int .i64 0] 46))) := Lib.hid (by
    have := own_one (w := w.alloc (.cells (rc r m) 31)) (e := 46) (x := 0) (y := 0) (z := 0) (Nat.le_refl _)
    rw [s0] at this ⊢
    exact ⟨this, by have := (Below.refl _ (w.alloc (.cells (rc r m) 31))).alloc (Nat.le_refl _) (.cells #[.int .i64 0, .int .i64 0, .int .i64 0] 46); rwa [s0] at this⟩)
  have X0 := Lib.hid x0
  have BW := Lib.hid bw
  clear x0 bw h
  unfold rc at H0 X0 BW s0
  unfold rv
  go_enter Tryd.func9, Tryd.ntmps9
  go_wp2_with fail
  generalize w.alloc (.cells #[.slice r.aN m.L r.cN, .slice r.aL m.L r.cL, .slice r.aW m.L r.cW, .slice r.aD m.L r.cD, .slice r.aP m.L r.cP, .int .i64 m.steps, .int .i64 m.fuse, .bool m.dead] 31) = w0 at *
  go_loopw [7, 8] (fun v i wr => ∃ q : Nat, 1 ≤ q ∧ q ≤ n ∧ i = .int .i64 q ∧ Hid (HsAt 46 (hdrs m.now q) q w0.heap.size v w0 wr) ∧ Hid (∀ b, 1 ≤ b → b < q → badAt m.now b = false)) (fun _ i _ => n - (intOf i).toNat)
  case atStart => exact ⟨1, by omega, h1, rfl, H0, Lib.hid (by omega)⟩
  case round =>
    obtain ⟨q, hq1, hq, rfl, HR, HO⟩ := hrel
    by_cases hlt : q < n
    · have hlt' : ((q : Nat) : Int) < ((n : Nat) : Int) := by omega
      have hbw : Below w.heap.size w wr := BW.out.trans (HR.out.2.mono (by omega))
      have x1 : wr.cell? ⟨w.heap.size, 0, none⟩ = some (.slice r.aN m.L r.cN) := (HR.out.2.cell (p := ⟨w.heap.size, 0, none⟩) (by show w.heap.size < w0.heap.size; omega)).trans X0.out
      have HGQ := Lib.hid (HG.out q wr hlt hbw)
      have HDQ := Lib.hid (fun W => HD.out q W hlt)
      have hcode : badAt m.now q = decide (codeN (m.now (256 + q)).toNat (256 + q) ≠ 0) := rfl
      have hhd : hdrAt m.now q = (((okK (m.now (256 + q)).toNat (256 + q) : Nat) : Int), ((okC (m.now (256 + q)).toNat (256 + q) : Nat) : Int), ((okL (m.now (256 + q)).toNat (256 + q) : Nat) : Int)) := rfl
      have HSU := Lib.hid (hdrs_succ m.now hq1)
      rw [hhd] at HSU
      have hq256 : q ≤ 256 := by omega
      unfold HeadTells at HDQ
      generalize codeN (m.now (256 + q)).toNat (256 + q) = code at *
      generalize okK (m.now (256 + q)).toNat (256 + q) = kk at *
      generalize okC (m.now (256 + q)).toNat (256 + q) = kc at *
      generalize okL (m.now (256 + q)).toNat (256 + q) = kl at *
      generalize (m.now (256 + q)).toNat = x at *
      clear hhd hbw
      go_wp2_with fail
      refine HGQ.out.mono ?_
      rintro e w1 ⟨rfl, rfl⟩
      go_wp2_with fail
      refine (HDQ.out _).mono ?_
      rintro e w2 ⟨rfl, hb2⟩
      have R2 := Lib.hid (HR.out.on hb2 (Nat.le_refl _))
      clear hb2 HR x1
      by_cases hc : code = 0
      · subst hc
        have HO' : Hid (∀ b, 1 ≤ b → b < q + 1 → badAt m.now b = false) := Lib.hid fun b hb1 hb2 => by
          by_cases e : b = q
          · subst e; rw [hcode]; rfl
          · exact HO.out b hb1 (by omega)
        have hs2 := R2.out.2.size
        have R3 : Hid (HsAt 46 (hdrs m.now q) q w0.heap.size u7 w0 (w2.alloc (.cells #[.int .i64 kk, .int .i64 kc, .int .i64 kl] 46))) := Lib.hid (R2.out.on ((Below.refl _ _).alloc (Nat.le_refl _) _) (Nat.le_refl _))
        clear hcode R2 HO
        go_wp2_with (at_builtin; refine wpList_append_own _ rfl (.tmp 31) (.tmp 33) 37 rfl w0.heap.size 46 i0 _ 3 24 Tryd.underlying37 hi hz0 hz1 hz2 rfl (by decide) _ _ _ rfl (R3.out.1.alloc _) ⟨w2.heap.size + 1, 0, none⟩ 1 1 [.int .i64 kk, .int .i64 kc, .int .i64 kl] rfl rfl (by have := three_new (w2.alloc (.cells #[.int .i64 kk, .int .i64 kc, .int .i64 kl] 46)) 46 (.int .i64 kk) (.int .i64 kc) (.int .i64 kl); rwa [World.size_alloc] at this) (by intro u hu; simp at hu; rcases hu with rfl | rfl | rfl <;> rfl) (by unfold maxLen; omega) (by omega) (by simp; omega) ?_)
        intro v' w3 hown' hgrow _
        rw [← s0] at hown'
        have HN1 : Hid (HsAt 46 (hdrs m.now (q + 1)) (q + 1) w0.heap.size v' w0 w3) := Lib.hid (by rw [HSU.out]; exact R3.out.snoc (by simp; omega) hown' hgrow)
        clear hown' hgrow R3
        go_wp2_with fail
        go_roundw
        case rel => exact ⟨q + 1, by omega, by omega, by go_num, HN1, HO'⟩
        case measure => simp [intOf]; omega
      · have hd : ((code : Int) == 0) = false := by simp; omega
        have hd' : ((code : Int) != 0) = true := by simp; omega
        have HB := Lib.hid (read_bad (firstBad_at hq1 hlt (by rw [hcode]; simpa using hc) HO.out))
        have hs2 := R2.out.2.size
        have HBW : Hid (Below w.heap.size w (w2.alloc (.cells #[.int .i64 kk, .int .i64 kc, .int .i64 kl] 46))) := Lib.hid ((BW.out.trans (R2.out.2.mono (by omega))).alloc (by omega) _)
        clear hcode hc
        go_wp2_with fail
        exact bodyPost_ret (v := .tuple #[.slice none 0 0, .int .i64 q, .int .i64 21]) (by simp [results, Tryd.results9, go_sem]) rfl ⟨_, by rw [HB.out.2.1, HB.out.2.2]; rfl, by rw [HB.out.1]; exact ⟨none, 0, rfl, by simp, .inl rfl⟩, HBW.out⟩
    · have hlt' : ¬ ((q : Nat) : Int) < ((n : Nat) : Int) := by omega
      obtain rfl : q = n := by omega
      have HB := Lib.hid (read_good (firstBad_none HO.out))
      clear hlt
      go_wp2_with fail
      exact bodyPost_ret (v := .tuple #[u7, .int .i64 0, .int .i64 0]) (by simp [results, Tryd.results9, go_sem]) rfl ⟨_, by rw [HB.out.2.1, HB.out.2.2]; rfl, by rw [HB.out.1]; exact .of_own HR.out.1 (hdrs_len _ _).symm, BW.out.trans (HR.out.2.mono (by omega))⟩

end Go.Proofs.YtaigocnnmjjhgaaDoor
