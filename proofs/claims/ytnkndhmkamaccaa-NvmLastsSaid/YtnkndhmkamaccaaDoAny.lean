/- One operation, whichever it is. -/
import Derived.Test.YtnkndhmkamaccaaDoStore
import Derived.Test.YtnkndhmkamaccaaDoFlush
import Derived.Test.YtnkndhmkamaccaaDoFence
import Derived.Test.YtnkndhmkamaccaaDoEvict
import Derived.Test.YtnkndhmkamaccaaDoPersist
import Derived.Test.YtnkndhmkamaccaaDoArm
import Derived.Test.YtnkndhmkamaccaaDoCrash
import Derived.Test.YtnkndhmkamaccaaDoNone
namespace Go.Proofs.Ytnkndhmkamaccaa
open Go.ChangeShapes Go.WideShapes Go.ChangeAt Go.RowKit Nv
set_option linter.unusedVariables false

structure OpV where
  k : Int
  a : Int
  n : Int
  x : Int
  ca : Option Addr
  cl : Nat
  ccap : Nat
  cs : List Int
def OpV.val (o : OpV) : Value := .agg #[.int .i64 o.k, .int .i64 o.a, .int .i64 o.n, .int .u64 o.x, .slice o.ca o.cl o.ccap]
/-- The numbers of an operation are numbers of their kinds, its choices lie in the world. -/
structure OpV.Fine (o : OpV) (w : World) : Prop where
  ha : -9223372036854775808 ≤ o.a ∧ o.a ≤ 9223372036854775807
  hn : -9223372036854775808 ≤ o.n ∧ o.n ≤ 9223372036854775807
  hv : IsInts .u8 w (.slice o.ca o.cl o.ccap) o.cs
  hcs : ∀ k, 0 ≤ o.cs.getD k 0 ∧ o.cs.getD k 0 ≤ 255

def opM (o : OpV) (m : Mdl) : Mdl × Int :=
  if o.k = 0 then Nv.store m o.a o.x else if o.k = 1 then Nv.flush m o.a else if o.k = 2 then Nv.fence m else if o.k = 3 then Nv.evict m o.a else if o.k = 4 then Nv.persist m o.a o.n
  else if o.k = 5 then (Nv.arm m o.n, 0) else if o.k = 6 then (Nv.crash m o.cs, 0) else (m, 0)

/-- A device within bounds. -/
structure Okm (L : Nat) (B : Int) (m : Mdl) : Prop where
  hL : m.L = L
  s0 : 0 ≤ m.steps
  s1 : m.steps ≤ B
  hf : -1 ≤ m.fuse ∧ m.fuse ≤ 9223372036854775807

theorem Okm.mono {L : Nat} {B C : Int} {m : Mdl} (h : Okm L B m) (hBC : B ≤ C) : Okm L C m := ⟨h.hL, h.s0, by have := h.s1; omega, h.hf⟩
theorem Okm.step {L : Nat} {B : Int} {m : Mdl} (h : Okm L B m) : Okm L (B + 1) (stepM m) := by
  obtain ⟨h1, h2, h3, h4⟩ := h
  refine ⟨h1, ?_, ?_, ?_⟩
  · show 0 ≤ m.steps + 1; omega
  · show m.steps + 1 ≤ B + 1; omega
  · show -1 ≤ (if 0 < m.fuse then m.fuse - 1 else m.fuse) ∧ (if 0 < m.fuse then m.fuse - 1 else m.fuse) ≤ 9223372036854775807
    split <;> omega
theorem Okm.same {L : Nat} {B : Int} {m m' : Mdl} (h : Okm L B m) (h1 : m'.L = m.L) (h2 : m'.steps = m.steps) (h3 : m'.fuse = m.fuse) : Okm L B m' := ⟨h1.trans h.hL, h2 ▸ h.s0, h2 ▸ h.s1, h3 ▸ h.hf⟩
theorem store_ok {L : Nat} {B : Int} {m : Mdl} (h : Okm L B m) (a x : Int) : Okm L (B + 1) (Nv.store m a x).1 := by
  unfold Nv.store
  split
  · exact h.mono (by omega)
  · split
    · exact (h.same (m' := deadM m) rfl rfl rfl).mono (by omega)
    · exact h.step.same rfl rfl rfl
theorem flush_ok {L : Nat} {B : Int} {m : Mdl} (h : Okm L B m) (a : Int) : Okm L (B + 1) (Nv.flush m a).1 := by
  unfold Nv.flush
  split
  · exact h.mono (by omega)
  · split
    · exact (h.same (m' := deadM m) rfl rfl rfl).mono (by omega)
    · simp only [flushM]
      split
      · exact h.step.same rfl rfl rfl
      · exact h.step
theorem fence_ok {L : Nat} {B : Int} {m : Mdl} (h : Okm L B m) : Okm L (B + 1) (Nv.fence m).1 := by
  unfold Nv.fence
  split
  · exact (h.same (m' := deadM m) rfl rfl rfl).mono (by omega)
  · exact h.step.same rfl rfl rfl
theorem evict_ok {L : Nat} {B : Int} {m : Mdl} (h : Okm L B m) (a : Int) : Okm L B (Nv.evict m a).1 := by
  unfold Nv.evict
  split
  · exact h
  · split
    · exact h
    · exact h.same rfl rfl rfl
theorem flushes_ok {L : Nat} : ∀ (k a : Nat) {B : Int} {m : Mdl}, Okm L B m → Okm L (B + k) (flushes m a k).1
  | 0, _, _, _, h => h.mono (by omega)
  | k + 1, a, B, m, h => by
    have h1 := flush_ok h a
    simp only [flushes]
    split
    · exact (flushes_ok k (a + 1) h1).mono (by omega)
    · exact h1.mono (by omega)
theorem persist_ok {L : Nat} {B : Int} {m : Mdl} (h : Okm L B m) (a n : Int) : Okm L (B + L + 1) (Nv.persist m a n).1 := by
  unfold Nv.persist
  split
  · exact h.mono (by omega)
  · rename_i hb
    have hbb : ¬ (a < 0 ∨ n < 0 ∨ 8 * (m.L : Int) - n < a) := by
      intro e; exact hb (by unfold badSpan; simpa using e)
    have hh := h.hL
    have hk : endLine a n - firstLine a n ≤ L := by unfold endLine firstLine; split <;> omega
    have h1 := flushes_ok (endLine a n - firstLine a n) (firstLine a n) h
    simp only
    split
    · exact (fence_ok h1).mono (by omega)
    · exact h1.mono (by omega)
theorem opM_ok {L : Nat} {B : Int} {m : Mdl} (h : Okm L B m) (hB : 0 ≤ B) (o : OpV) (hn : o.n ≤ 9223372036854775807) : Okm L (B + L + 1) (opM o m).1 := by
  unfold opM
  split
  · exact (store_ok h _ _).mono (by omega)
  · split
    · exact (flush_ok h _).mono (by omega)
    · split
      · exact (fence_ok h).mono (by omega)
      · split
        · exact (evict_ok h _).mono (by omega)
        · split
          · exact persist_ok h _ _
          · split
            · refine (Okm.mono (B := B) ⟨h.hL, h.s0, h.s1, ?_⟩ (by omega))
              show -1 ≤ max o.n (-1) ∧ max o.n (-1) ≤ 9223372036854775807
              omega
            · split
              · exact ⟨h.hL, Int.le_refl 0, by show (0 : Int) ≤ B + L + 1; omega, by show (-1 : Int) ≤ -1 ∧ (-1 : Int) ≤ 9223372036854775807; decide⟩
              · exact h.mono (by omega)

section
variable {w : World} {p : Nat} {f : Fp} {T : Nat → Prop} {r : RV} {m1 m2 : Mdl}

theorem do_any (h : Dev w p f m1) (hr : Ref w T r m2) (hT : ∀ b, T b → ¬ f.own p b) (o : OpV) (hO : o.Fine w) (hlen : o.cl ≤ 1000000000) (h1 : m1.steps < 2305843009213693952) (h0 : 0 ≤ m2.steps) (h2 : m2.steps < 2305843009213693952) (hf : -1 ≤ m2.fuse ∧ m2.fuse ≤ 9223372036854775807) :
    Calls Try.prog 24 #[.pointer (some ⟨p, 0, none⟩), rv r m2, o.val] w (DoTo (o.k ≠ 6) p f T (opM o m1).1 (opM o m2).1 ((opM o m1).2 == (opM o m2).2) w) := by
  obtain ⟨k, a, n, x, ca, cl, ccap, cs⟩ := o
  obtain ⟨ha, hn, hv, hcs⟩ := hO
  simp only at ha hn hv hcs hlen
  have hlen : cs.length ≤ 1000000000 := by obtain ⟨_, _, e, _⟩ := hv; cases e; exact hlen
  unfold opM OpV.val
  simp only
  by_cases e0 : k = 0
  · subst e0; exact (do_store h hr hT a n x ca cl ccap h1 h0 h2 hf ha hn).mono fun _ _ d => d.imp fun _ => trivial
  · by_cases e1 : k = 1
    · subst e1; exact (do_flush h hr hT a n x ca cl ccap h1 h0 h2 hf ha hn).mono fun _ _ d => d.imp fun _ => trivial
    · by_cases e2 : k = 2
      · subst e2; exact (do_fence h hr hT a n x ca cl ccap h1 h0 h2 hf ha hn).mono fun _ _ d => d.imp fun _ => trivial
      · by_cases e3 : k = 3
        · subst e3; exact (do_evict h hr hT a n x ca cl ccap h1 h0 h2 hf ha hn).mono fun _ _ d => d.imp fun _ => trivial
        · by_cases e4 : k = 4
          · subst e4; exact (do_persist h hr hT a n x ca cl ccap h1 h0 h2 hf ha hn).mono fun _ _ d => d.imp fun _ => trivial
          · by_cases e5 : k = 5
            · subst e5; exact (do_arm h hr hT a n x ca cl ccap h1 h0 h2 hf ha hn).mono fun _ _ d => d.imp fun _ => trivial
            · by_cases e6 : k = 6
              · subst e6; exact (do_crash h hr hT a n x ca cl ccap h1 h0 h2 hf ha hn cs hv hcs hlen).mono fun _ _ d => d.imp fun h => h rfl
              · simp only [if_neg e0, if_neg e1, if_neg e2, if_neg e3, if_neg e4, if_neg e5, if_neg e6]
                exact (do_none h hr hT k a n x ca cl ccap h1 h0 h2 hf ha hn e0 e1 e2 e3 e4 e5 e6).mono fun _ _ d => d.imp fun _ => trivial
end

end Go.Proofs.Ytnkndhmkamaccaa
