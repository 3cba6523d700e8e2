/- With all kept a crash leaves all as it is now; what was persisted lasts through every crash. -/
import Derived.Test.YtpgkplknfhdmgaaDoorNvmInv
namespace Go.Proofs.YtpgkplknfhdmgaaDoor
namespace Nv
set_option linter.unusedVariables false

theorem crashW_two (m : Mdl) (cs : List Int) (j : Nat) : ∀ k, (∀ i, i < k → cs.getD i 0 = 2) → (∃ i, i < k ∧ (dirtyL m).getD i 0 = j / 8) → crashW m cs k j = m.now j
  | 0, _, h => by obtain ⟨i, hi, _⟩ := h; omega
  | k + 1, hc, h => by
    simp only [crashW]
    by_cases e : j / 8 = (dirtyL m).getD k 0
    · rw [if_pos e, hc k (by omega), ← e]
      unfold outcome lineOf
      rw [if_pos (by decide), show 8 * (j / 8) + j % 8 = j from by omega]
    · rw [if_neg e]
      obtain ⟨i, hi, hd⟩ := h
      refine crashW_two m cs j k (fun i hi => hc i (by omega)) ⟨i, ?_, hd⟩
      rcases Nat.lt_or_ge i k with h | h
      · exact h
      · obtain rfl : i = k := by omega
        exact absurd hd.symm e

theorem mem_dirtyL (m : Mdl) (i : Nat) : i ∈ dirtyL m ↔ i < m.L ∧ m.dirty i = true := by
  unfold dirtyL; rw [List.mem_filter, List.mem_range]

theorem dirtyL_len (m : Mdl) : (dirtyL m).length ≤ m.L := by
  unfold dirtyL; exact Nat.le_trans (List.length_filter_le _ _) (by simp)

/-- All kept. -/
theorem crash_now {m : Mdl} (h : Clean m) (j : Nat) (hj : j < 8 * m.L) : (Nv.crash m (List.replicate m.L 2)).now j = m.now j := by
  show crashW m (List.replicate m.L 2) (min (dirtyL m).length (List.replicate m.L 2).length) j = _
  have hl := dirtyL_len m
  rw [List.length_replicate, Nat.min_eq_left hl]
  cases hd : m.dirty (j / 8)
  · rw [crashW_still m _ j _ fun i hi e => by
      have hm : (dirtyL m).getD i 0 ∈ dirtyL m := by
        rw [List.getD_eq_getElem?_getD, List.getElem?_eq_getElem hi]; exact List.getElem_mem hi
      rw [e, mem_dirtyL, hd] at hm
      cases hm.2]
    exact ((h (j / 8) hd).2 j rfl).symm
  · refine crashW_two m _ j _ (fun i hi => ?_) ?_
    · rw [List.getD_eq_getElem?_getD, List.getElem?_replicate, if_pos (by omega)]; rfl
    · have hm : j / 8 ∈ dirtyL m := (mem_dirtyL m _).2 ⟨by omega, hd⟩
      obtain ⟨i, hi, he⟩ := List.getElem_of_mem hm
      exact ⟨i, hi, by rw [List.getD_eq_getElem?_getD, List.getElem?_eq_getElem hi]; exact he⟩

/-- Line i waits as it is now, if it is dirty. -/
def Ready (m : Mdl) (i : Nat) : Prop := m.dirty i = true → m.wait i = some (lineOf m.now i)

theorem flush_ready {m : Mdl} (l : Int) (h0 : (Nv.flush m l).2 = 0) : Ready (Nv.flush m l).1 l.toNat ∧ (∀ i, Ready m i → Ready (Nv.flush m l).1 i) ∧ (Nv.flush m l).1.now = m.now := by
  unfold Nv.flush at h0 ⊢
  split
  · rename_i h; rw [if_pos h] at h0; exact absurd h0 (by simp)
  · rename_i h
    rw [if_neg h] at h0
    split
    · rename_i h2; rw [if_pos h2] at h0; exact absurd h0 (by simp)
    · rename_i h2
      simp only [flushM]
      split
      · rename_i hd
        refine ⟨fun _ => ?_, fun i hi hdi => ?_, rfl⟩
        · simp [setWait, stepM]
        · simp only [setWait, stepM] at hdi ⊢
          by_cases e : i = l.toNat
          · rw [if_pos e, e]
          · rw [if_neg e]; exact hi hdi
      · rename_i hd
        exact ⟨fun h => absurd h hd, fun i hi => hi, rfl⟩

theorem flushes_ready : ∀ (k a : Nat) {m : Mdl}, (flushes m a k).2 = 0 → (∀ i, a ≤ i → i < a + k → Ready (flushes m a k).1 i) ∧ (∀ i, Ready m i → Ready (flushes m a k).1 i) ∧ (flushes m a k).1.now = m.now
  | 0, a, m, _ => ⟨fun i h1 h2 => by omega, fun i h => h, rfl⟩
  | k + 1, a, m, h0 => by
    simp only [flushes] at h0 ⊢
    by_cases e : (Nv.flush m a).2 = 0
    · rw [if_pos e] at h0 ⊢
      obtain ⟨f1, f2, f3⟩ := flush_ready (m := m) (a : Int) e
      obtain ⟨g1, g2, g3⟩ := flushes_ready k (a + 1) h0
      refine ⟨fun i h1 h2 => ?_, fun i h => g2 i (f2 i h), g3.trans f3⟩
      by_cases ea : i = a
      · subst ea; exact g2 _ (by simpa using f1)
      · exact g1 i (by omega) (by omega)
    · rw [if_neg e] at h0; exact absurd h0 e

theorem flush_L' (m : Mdl) (l : Int) : (Nv.flush m l).1.L = m.L := by
  unfold Nv.flush; split
  · rfl
  · split
    · rfl
    · simp only [flushM]; split <;> rfl
theorem flushes_L' : ∀ (k a : Nat) (m : Mdl), (flushes m a k).1.L = m.L
  | 0, _, _ => rfl
  | k + 1, a, m => by
    simp only [flushes]; split
    · exact (flushes_L' k (a + 1) _).trans (flush_L' m a)
    · exact flush_L' m a

/-- Behind a persist that went through the words of its span last as they are, and are what they were. -/
theorem persist_done {m : Mdl} (hc : Clean m) (a n : Int) (h0 : (Nv.persist m a n).2 = 0) :
    0 ≤ a ∧ 0 ≤ n ∧ a + n ≤ 8 * (m.L : Int) ∧ (Nv.persist m a n).1.L = m.L ∧ Clean (Nv.persist m a n).1 ∧
    ∀ j : Nat, a ≤ j → (j : Int) < a + n → (Nv.persist m a n).1.dirty (j / 8) = false := by
  have hC := clean_persist hc a n
  refine ⟨?_, ?_, ?_, ?_, hC, ?_⟩ <;> clear hC
  iterate 3
    · unfold Nv.persist at h0
      by_cases hb : badSpan m a n = true
      · rw [if_pos hb] at h0; exact absurd h0 (by simp)
      · unfold badSpan at hb; simp at hb; omega
  · unfold Nv.persist at h0 ⊢
    by_cases hb : badSpan m a n = true
    · rw [if_pos hb]
    · rw [if_neg hb]
      simp only
      split
      · unfold Nv.fence; split
        · exact flushes_L' _ _ _
        · exact flushes_L' _ _ _
      · exact flushes_L' _ _ _
  · intro j h1 h2
    unfold Nv.persist at h0 ⊢
    by_cases hb : badSpan m a n = true
    · rw [if_pos hb] at h0; exact absurd h0 (by simp)
    · rw [if_neg hb] at h0 ⊢
      have hb' : 0 ≤ a ∧ 0 ≤ n ∧ a ≤ 8 * (m.L : Int) - n := by unfold badSpan at hb; simp at hb; omega
      simp only at h0 ⊢
      by_cases hf : (flushes m (firstLine a n) (endLine a n - firstLine a n)).2 = 0
      · rw [if_pos hf] at h0 ⊢
        obtain ⟨g1, -, -⟩ := flushes_ready _ _ hf
        have hcf := clean_flushes (endLine a n - firstLine a n) (firstLine a n) hc
        generalize (flushes m (firstLine a n) (endLine a n - firstLine a n)).1 = m1 at h0 g1 hcf ⊢
        have hr : Ready m1 (j / 8) := g1 _ (by unfold firstLine; rw [if_neg (by omega)]; omega) (by unfold firstLine endLine; rw [if_neg (by omega), if_neg (by omega)]; omega)
        unfold Nv.fence at h0 ⊢
        by_cases hs : stops m1 = true
        · rw [if_pos hs] at h0; exact absurd h0 (by simp)
        · rw [if_neg hs]
          simp only [fenceM, noWait, fenced, stepM, if_true]
          cases hd : m1.dirty (j / 8)
          · rw [(hcf _ hd).1]
          · rw [hr hd]
            simp only [Bool.not_eq_false']
            exact (eq8_iff _ _).2 fun _ _ => rfl
      · rw [if_neg hf] at h0; exact absurd h0 hf

/-- It lasts through every crash. -/
theorem persist_lasts {m : Mdl} (hc : Clean m) (j : Nat) (hd : m.dirty (j / 8) = false) (cs : List Int) : (Nv.crash m cs).now j = m.now j ∧ (Nv.crash m cs).last j = m.now j := by
  have h : crashW m cs (min (dirtyL m).length cs.length) j = m.now j := by
    rw [crashW_still m _ j _ fun i hi e => by
      have hi' : i < (dirtyL m).length := by omega
      have hm : (dirtyL m).getD i 0 ∈ dirtyL m := by
        rw [List.getD_eq_getElem?_getD, List.getElem?_eq_getElem hi']; exact List.getElem_mem hi'
      rw [e, mem_dirtyL, hd] at hm
      cases hm.2]
    exact ((hc (j / 8) hd).2 j rfl).symm
  exact ⟨h, h⟩

end Nv
end Go.Proofs.YtpgkplknfhdmgaaDoor
