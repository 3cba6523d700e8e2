/- A new device. -/
import Derived.Test.YtpgkplknfhdmgaaDoorPersist
import Derived.BigRegion
namespace Go.Proofs.YtpgkplknfhdmgaaDoor
open Go.ChangeShapes Go.WideShapes Go.ChangeAt Go.RowKit Nv
set_option linter.unusedVariables false

theorem madeCells_get {z : Array Value} {n k : Nat} {v : Value} (hz : z = #[v]) (hk : k < n) : (madeCells z n)[k]? = some v := by
  subst hz
  simp [madeCells, hk, Nat.mod_one]
theorem infoB : (Tryd.prog.info? 4).map (fun i => (i.zero, i.size, i.bytes)) = some (some (.bool false), 1, 1) := by kernel_rfl
theorem info_split {k : Nat} {z : Value} {b : Nat} (h : (Tryd.prog.info? k).map (fun i => (i.zero, i.size, i.bytes)) = some (some z, 1, b)) : ∃ i, Tryd.prog.info? k = some i ∧ i.zero = some z ∧ i.size = 1 ∧ i.bytes = b := by
  cases hi : Tryd.prog.info? k with
  | none => rw [hi] at h; cases h
  | some i => rw [hi] at h; simp at h; exact ⟨i, rfl, h.1, h.2.1, h.2.2⟩

theorem make_words (n : Nat) (hn : n ≤ 300000000) : ∃ C : Array Value, C.size = n ∧ (∀ k, k < n → C[k]? = some (.int .u64 0)) ∧
    ∀ w, (Instr.makeSlice 36 (.int .i64 n) (.int .i64 n)).run Tryd.prog w = .ok (.slice (some ⟨w.heap.size, 0, none⟩) n n) (w.alloc (.cells C 22)) := by
  obtain ⟨i, h1, h2, h3, h4⟩ := info_split infoU64
  refine ⟨madeCells (Value.int .u64 0).cells (n * 1), by simp [madeCells], fun k hk => madeCells_get rfl (by omega), fun w => ?_⟩
  have := run_make (P := Tryd.prog) w 36 22 i _ Tryd.underlying36 h1 h2 .i64 .i64 n n (by omega) (by omega) (by rw [h4]; omega) (by omega)
  rw [h3] at this
  simpa using this
theorem make_flags (n : Nat) (hn : n ≤ 300000000) : ∃ C : Array Value, C.size = n ∧ (∀ k, k < n → C[k]? = some (.bool false)) ∧
    ∀ w, (Instr.makeSlice 53 (.int .i64 n) (.int .i64 n)).run Tryd.prog w = .ok (.slice (some ⟨w.heap.size, 0, none⟩) n n) (w.alloc (.cells C 4)) := by
  obtain ⟨i, h1, h2, h3, h4⟩ := info_split infoB
  refine ⟨madeCells (Value.bool false).cells (n * 1), by simp [madeCells], fun k hk => madeCells_get rfl (by omega), fun w => ?_⟩
  have := run_make (P := Tryd.prog) w 53 4 i _ Tryd.underlying53 h1 h2 .i64 .i64 n n (by omega) (by omega) (by rw [h4]; omega) (by omega)
  rw [h3] at this
  simpa using this

/-- A device that a call has made. -/
def MadeDev (m : Mdl) (w : World) (e : Ending) (w' : World) : Prop := ∃ p f, e = .returned (.pointer (some ⟨p, 0, none⟩)) ∧ Dev w' p f m ∧ Keep (fun _ => False) w w' ∧ ∀ b, f.own p b → w.heap.size ≤ b

theorem get_alloc (w : World) (o : Obj) (k : Nat) : (w.alloc o).heap[k]? = if k = w.heap.size then some o else w.heap[k]? := by
  show (w.heap.push o)[k]? = _
  rw [Array.getElem?_push]
theorem get_hit {w : World} {o : Obj} {k : Nat} (h : k = w.heap.size) : (w.alloc o).heap[k]? = some o := by rw [get_alloc, if_pos h]
theorem get_miss {w : World} {o o' : Obj} {k : Nat} (h : k ≠ w.heap.size) (h2 : w.heap[k]? = some o') : (w.alloc o).heap[k]? = some o' := by rw [get_alloc, if_neg h, h2]
theorem get_drew (w : World) (k : Nat) : (w.drew).heap[k]? = w.heap[k]? := rfl

theorem made_lit {w W : World} {L : Nat} {C1 C2 : Array Value} (hs1 : C1.size = 8 * L) (hc1 : ∀ k, k < 8 * L → C1[k]? = some (.int .u64 0)) (hs2 : C2.size = L) (hc2 : ∀ k, k < L → C2[k]? = some (.bool false)) (hL : L ≤ 33554432)
    (p bl bn bd bm : Nat) (hp : W.heap[p]? = some (.cells #[.slice (some ⟨bl, 0, none⟩) (8 * L) (8 * L), .slice (some ⟨bn, 0, none⟩) (8 * L) (8 * L), .slice (some ⟨bd, 0, none⟩) L L, .map (some bm), .int .i64 (-1), .int .i64 0, .bool false] 56))
    (hl : W.heap[bl]? = some (.cells C1 22)) (hn : W.heap[bn]? = some (.cells C1 22)) (hd : W.heap[bd]? = some (.cells C2 4)) (hm : W.heap[bm]? = some (.map #[] 0)) (ne : bl ≠ bn) (hk : Keep (fun _ => False) w W)
    (g : w.heap.size ≤ p ∧ w.heap.size ≤ bl ∧ w.heap.size ≤ bn ∧ w.heap.size ≤ bd ∧ w.heap.size ≤ bm) : MadeDev (fresh L fun _ => 0) w (.returned (.pointer (some ⟨p, 0, none⟩))) W := by
  refine ⟨p, ⟨bl, bn, bd, bm, -1, 0, .map [], fun _ => False⟩, rfl, ⟨hp, ⟨C1, hl, hs1, hc1⟩, ⟨C1, hn, hs1, hc1⟩, ⟨C2, hd, hs2, hc2⟩, ⟨#[], 0, hm, ⟨by simp, Go.MapKept.stamped_empty 0, by simp⟩, Nat.le_refl _, rfl⟩, ne, ?_, ?_, Int.le_refl 0, rfl, ⟨by show (-9223372036854775808 : Int) ≤ -1; decide, by show (-1 : Int) ≤ 9223372036854775807; decide⟩, hL, fun _ h => h.elim⟩, hk, ?_⟩
  · intro x hx; simp [Go.Maps.has] at hx
  · intro i c hc; simp [fresh] at hc
  · intro b hb
    rcases hb with e | e | e | e | e | e
    · rw [e]; exact g.1
    · rw [e]; exact g.2.1
    · rw [e]; exact g.2.2.1
    · rw [e]; exact g.2.2.2.1
    · rw [e]; exact g.2.2.2.2
    · exact e.elim

set_option maxHeartbeats 8000000 in
theorem new_any (n : Int) (w : World) (h1 : -9223372036854775808 ≤ n) (h2 : n ≤ 268435456) :
    Calls Tryd.prog 14 #[.int .i64 n] w (MadeDev (fresh (upS n 8).toNat fun _ => 0) w) := by
  have hu : 0 ≤ upS n 8 ∧ upS n 8 ≤ 33554432 := by
    unfold upS; split <;> omega
  obtain ⟨L, hL⟩ : ∃ L : Nat, upS n 8 = L := ⟨(upS n 8).toNat, by omega⟩
  have hup := fun w => up_any n 8 w h1 (by omega)
  rw [hL] at hup hu
  rw [hL, show ((L : Int)).toNat = L from by omega]
  obtain ⟨C1, hs1, hc1, hm1⟩ := make_words (8 * L) (by omega)
  obtain ⟨C2, hs2, hc2, hm2⟩ := make_flags L (by omega)
  have hmm := @run_makeMap Tryd.prog
  have e8 : ((8 * L : Nat) : Int) = (L : Int) * 8 := by omega
  rw [e8] at hm1
  clear e8
  have HU := Lib.hid hup
  have HL := Lib.hid hL
  clear hup hL
  have h2' : ¬ (268435456 < n) := by omega
  go_enter Tryd.func14, Tryd.ntmps14
  go_wp2_with (go_at_call 24; refine (HU.out _).mono ?_; rintro e w' ⟨rfl, rfl⟩)
  go_region
  all_goals
    go_wp2_with fail
    go_ret
    refine made_lit hs1 hc1 hs2 hc2 (by omega) _ _ _ _ _ (by simp only [get_drew]; refine get_hit ?_; simp) (by simp only [get_drew]; repeat (first | (refine get_hit ?_; simp; done) | (refine get_miss ?_ ?_; focus (simp <;> omega)))) (by simp only [get_drew]; repeat (first | (refine get_hit ?_; simp; done) | (refine get_miss ?_ ?_; focus (simp <;> omega)))) (by simp only [get_drew]; repeat (first | (refine get_hit ?_; simp; done) | (refine get_miss ?_ ?_; focus (simp <;> omega)))) (by simp only [get_drew]; repeat (first | (refine get_hit ?_; simp; done) | (refine get_miss ?_ ?_; focus (simp <;> omega)))) (by omega) (((((((Keep.refl _ w).alloc _).alloc _).alloc _).alloc _).alloc _).drew) (by omega)

end Go.Proofs.YtpgkplknfhdmgaaDoor
