/- What holds of every device behind any of its operations: a line that is not dirty lasts as it is and nothing of it waits. Behind a persist that went through. -/
import Derived.Test.YtpgkplknfhdmgaaDoorNvmMath
namespace Go.Proofs.YtpgkplknfhdmgaaDoor
namespace Nv
set_option linter.unusedVariables false

/-- A line that is not dirty lasts as it is, and nothing of it waits. -/
def Clean (m : Mdl) : Prop := ∀ i, m.dirty i = false → m.wait i = none ∧ ∀ j, j / 8 = i → m.now j = m.last j

theorem clean_fresh (L : Nat) (f : Nat → Int) : Clean (fresh L f) := fun i _ => ⟨rfl, fun _ _ => rfl⟩
theorem Clean.same {m m' : Mdl} (h : Clean m) (h1 : m'.dirty = m.dirty) (h2 : m'.wait = m.wait) (h3 : m'.now = m.now) (h4 : m'.last = m.last) : Clean m' := fun i hi => by
  rw [h1] at hi; rw [h2, h3, h4]; exact h i hi
theorem clean_store {m : Mdl} (h : Clean m) (a x : Int) : Clean (Nv.store m a x).1 := by
  unfold Nv.store; split
  · exact h
  · split
    · exact h.same rfl rfl rfl rfl
    · intro i hi
      simp only [setDirty, setNow, stepM] at hi ⊢
      by_cases e : i = a.toNat / 8
      · rw [if_pos e] at hi; cases hi
      · rw [if_neg e] at hi
        obtain ⟨h1, h2⟩ := h i hi
        refine ⟨h1, fun j hj => ?_⟩
        rw [if_neg (by intro e2; subst e2; exact e hj.symm)]
        exact h2 j hj
theorem clean_flush {m : Mdl} (h : Clean m) (a : Int) : Clean (Nv.flush m a).1 := by
  unfold Nv.flush; split
  · exact h
  · split
    · exact h.same rfl rfl rfl rfl
    · simp only [flushM]; split
      · rename_i hd
        intro i hi
        simp only [setWait, stepM] at hi ⊢
        have e : ¬ i = a.toNat := by intro e; subst e; rw [hd] at hi; cases hi
        rw [if_neg e]
        exact h i hi
      · exact h.same rfl rfl rfl rfl
theorem eq8_iff (f g : Nat → Int) : eq8 f g = true ↔ ∀ j, j < 8 → f j = g j := by
  unfold eq8; simp
theorem clean_fence {m : Mdl} (h : Clean m) : Clean (Nv.fence m).1 := by
  unfold Nv.fence; split
  · exact h.same rfl rfl rfl rfl
  · intro i hi
    refine ⟨rfl, fun j hj => ?_⟩
    simp only [fenceM, noWait, fenced, stepM, if_true] at hi ⊢
    rw [hj]
    cases hw : m.wait i with
    | none => rw [hw] at hi; exact (h i hi).2 j hj
    | some c =>
      rw [hw] at hi
      simp only [Bool.not_eq_false'] at hi
      have := (eq8_iff _ _).1 hi (j % 8) (by omega)
      simp only [lineOf] at this
      simp only
      rw [this, show 8 * i + j % 8 = j from by omega]
theorem clean_evict {m : Mdl} (h : Clean m) (a : Int) : Clean (Nv.evict m a).1 := by
  unfold Nv.evict; split
  · exact h
  · split
    · exact h
    · intro i hi
      simp only [evictM, setWait, setDirty, setLast] at hi ⊢
      by_cases e : i = a.toNat
      · subst e
        refine ⟨if_pos rfl, fun j hj => ?_⟩
        rw [if_pos hj]; simp only [lineOf]; rw [show 8 * a.toNat + j % 8 = j from by omega]
      · rw [if_neg e] at hi
        rw [if_neg e]
        refine ⟨(h i hi).1, fun j hj => ?_⟩
        rw [if_neg (by omega)]
        exact (h i hi).2 j hj
theorem clean_flushes : ∀ (k a : Nat) {m : Mdl}, Clean m → Clean (flushes m a k).1
  | 0, _, _, h => h
  | k + 1, a, m, h => by
    have h1 := clean_flush h a
    simp only [flushes]; split
    · exact clean_flushes k (a + 1) h1
    · exact h1
theorem clean_persist {m : Mdl} (h : Clean m) (a n : Int) : Clean (Nv.persist m a n).1 := by
  unfold Nv.persist; split
  · exact h
  · simp only; split
    · exact clean_fence (clean_flushes _ _ h)
    · exact clean_flushes _ _ h
/-- Of a crash without choices there is left what lasted. -/
theorem crash_last (m : Mdl) : (Nv.crash m []).now = m.last := by
  show crashW m [] (min (dirtyL m).length 0) = _
  rw [Nat.min_zero]; rfl

end Nv
end Go.Proofs.YtpgkplknfhdmgaaDoor
