/- A device that a superblock is written to, as plain mathematics. -/
import Derived.Test.YtpgkplknfhdmgaaDoorSupMath
import Derived.Test.YtpgkplknfhdmgaaDoorNvmLast
namespace Go.Proofs.YtpgkplknfhdmgaaDoor
namespace Su
open Nv
set_option linter.unusedVariables false

/-- The line of so many blocks and that number. -/
def encS (b id : Nat) (i : Nat) : Nat := [8390047168116913201, 1, b, id, 0, 0, 0, sumS b id].getD i 0
/-- Words from place a on, n of them, are stored, one by one; the first error ends it. -/
def storesM (m : Mdl) (x : Nat → Nat) (a : Nat) : Nat → Mdl × Int
  | 0 => (m, 0)
  | n + 1 => let r := Nv.store m a (x a); if r.2 = 0 then storesM r.1 x (a + 1) n else r
theorem storesM_succ (m : Mdl) (x : Nat → Nat) (a n : Nat) : storesM m x a (n + 1) = if (Nv.store m a (x a)).2 = 0 then storesM (Nv.store m a (x a)).1 x (a + 1) n else Nv.store m a (x a) := rfl
/-- A superblock is written. -/
def writeM (m : Mdl) (b id : Nat) : Mdl × Int :=
  if (2 ≤ b ∧ b ≤ 256) ∧ 512 * b = 8 * m.L then
    let r := storesM m (encS b id) 0 8
    if r.2 = 0 then Nv.persist r.1 0 8 else r
  else (m, 26)

theorem store_L (m : Mdl) (a x : Int) : (Nv.store m a x).1.L = m.L := by
  unfold Nv.store; split
  · rfl
  · split <;> rfl
theorem store_steps (m : Mdl) (a x : Int) : (Nv.store m a x).1.steps ≤ m.steps + 1 := by
  unfold Nv.store; split
  · show m.steps ≤ _; omega
  · split
    · show m.steps ≤ _; omega
    · show m.steps + 1 ≤ _; omega

/-- A device that never stops: a store goes through. -/
theorem store_runs {m : Mdl} (hd : m.dead = false) (hf : m.fuse = -1) (a : Nat) (ha : a < 8 * m.L) (x : Int) :
    (Nv.store m a x).2 = 0 ∧ (Nv.store m a x).1.dead = false ∧ (Nv.store m a x).1.fuse = -1 ∧ (Nv.store m a x).1.L = m.L ∧ (Nv.store m a x).1.now = (fun j => if j = a then x else m.now j) ∧ (Nv.Clean m → Nv.Clean (Nv.store m a x).1) := by
  have hw : hasW m a = true := by unfold hasW; simp; omega
  have hs : stops m = false := by unfold stops; rw [hd, hf]; decide
  have e : Nv.store m a x = (setDirty (setNow (stepM m) a x) (a / 8) true, 0) := by unfold Nv.store; rw [if_neg (by rw [hw]; decide), if_neg (by rw [hs]; decide)]; rfl
  refine ⟨by rw [e], by rw [e]; exact hd, ?_, by rw [e]; rfl, by rw [e]; rfl, fun h => clean_store h _ _⟩
  rw [e]
  show (stepM m).fuse = -1
  unfold stepM; simp only [hf]; rfl
theorem stores_run (x : Nat → Nat) : ∀ (n a : Nat) {m : Mdl}, m.dead = false → m.fuse = -1 → a + n ≤ 8 * m.L → Nv.Clean m →
    (storesM m x a n).2 = 0 ∧ (storesM m x a n).1.dead = false ∧ (storesM m x a n).1.fuse = -1 ∧ (storesM m x a n).1.L = m.L ∧ (∀ j, (storesM m x a n).1.now j = if a ≤ j ∧ j < a + n then (x j : Int) else m.now j) ∧ Nv.Clean (storesM m x a n).1
  | 0, a, m, hd, hf, _, hc => ⟨rfl, hd, hf, rfl, fun j => by rw [if_neg (by omega)]; rfl, hc⟩
  | n + 1, a, m, hd, hf, hl, hc => by
    obtain ⟨h1, h2, h3, h4, h5, h6⟩ := store_runs hd hf a (by omega) (x a)
    rw [storesM_succ, if_pos h1]
    obtain ⟨g1, g2, g3, g4, g5, g6⟩ := stores_run x n (a + 1) h2 h3 (by omega) (h6 hc)
    refine ⟨g1, g2, g3, g4.trans h4, fun j => ?_, g6⟩
    rw [g5, h5]
    by_cases e : j = a
    · subst e; rw [if_neg (by omega), if_pos (by omega)]; exact if_pos rfl
    · by_cases e2 : a + 1 ≤ j ∧ j < a + 1 + n
      · rw [if_pos e2, if_pos (by omega)]
      · rw [if_neg e2, if_neg (by omega)]; exact if_neg e
theorem persist_runs {m : Mdl} (hd : m.dead = false) (hf : m.fuse = -1) (hL : 1 ≤ m.L) : (Nv.persist m 0 8).2 = 0 ∧ (Nv.persist m 0 8).1.now = m.now := by
  have hs : stops m = false := by unfold stops; rw [hd, hf]; decide
  have hb : badSpan m 0 8 = false := by unfold badSpan; simp; omega
  have hl : hasL m 0 = true := by unfold hasL; simp; omega
  have e1 : flushes m 0 1 = (flushM m 0, 0) := by
    show (let r := Nv.flush m ((0 : Nat) : Int); if r.2 = 0 then flushes r.1 (0 + 1) 0 else r) = _
    have e : Nv.flush m ((0 : Nat) : Int) = (flushM m 0, 0) := by
      unfold Nv.flush; rw [if_neg (by rw [show (((0 : Nat) : Int)) = 0 from rfl, hl]; decide), if_neg (by rw [hs]; decide)]; rfl
    rw [e]; rfl
  have hfl : stops (flushM m 0) = false := by
    unfold stops flushM
    split
    · show (m.dead || decide ((if 0 < m.fuse then m.fuse - 1 else m.fuse) = 0)) = false
      rw [hd, hf]; decide
    · show (m.dead || decide ((if 0 < m.fuse then m.fuse - 1 else m.fuse) = 0)) = false
      rw [hd, hf]; decide
  have e2 : Nv.persist m 0 8 = (fenceM (flushM m 0), 0) := by
    unfold Nv.persist
    rw [if_neg (by rw [hb]; decide)]
    show (let r := flushes m (firstLine 0 8) (endLine 0 8 - firstLine 0 8); if r.2 = 0 then Nv.fence r.1 else r) = _
    rw [show firstLine 0 8 = 0 from rfl, show endLine 0 8 - 0 = 1 from rfl, e1]
    show Nv.fence (flushM m 0) = _
    unfold Nv.fence; rw [if_neg (by rw [hfl]; decide)]
  rw [e2]
  refine ⟨rfl, ?_⟩
  show (flushM m 0).now = m.now
  unfold flushM; split <;> rfl

/-- What was written on a new device that fits lasts through a crash. -/
theorem written {L b id : Nat} (h2 : 2 ≤ b ∧ b ≤ 256) (hL : 512 * b = 8 * L) (f : Nat → Int) :
    (writeM (fresh L f) b id).2 = 0 ∧ (writeM (fresh L f) b id).1.L = L ∧ ∀ j : Nat, j < 8 → getNow (Nv.crash (writeM (fresh L f) b id).1 []) j = (encS b id j : Int) := by
  obtain ⟨g1, g2, g3, g4, g5, g6⟩ := stores_run (encS b id) 8 0 (m := fresh L f) rfl rfl (by show 0 + 8 ≤ 8 * L; omega) (clean_fresh _ _)
  have e : writeM (fresh L f) b id = Nv.persist (storesM (fresh L f) (encS b id) 0 8).1 0 8 := by
    unfold writeM; rw [if_pos ⟨h2, hL⟩]; simp only []; rw [if_pos g1]
  rw [e]
  have g4' : (storesM (fresh L f) (encS b id) 0 8).1.L = L := g4
  generalize (storesM (fresh L f) (encS b id) 0 8).1 = m at g2 g3 g4' g5 g6 ⊢
  obtain ⟨p1, p2⟩ := persist_runs g2 g3 (by omega)
  obtain ⟨-, -, -, d4, d5, d6⟩ := persist_done g6 0 8 p1
  refine ⟨p1, d4.trans g4', fun j hj => ?_⟩
  have hd := d6 j (by omega) (by omega)
  have hl := (persist_lasts d5 j hd []).1
  unfold getNow hasW
  have hcL : (Nv.crash (Nv.persist m 0 8).1 []).L = L := d4.trans g4'
  rw [if_pos (by rw [hcL]; simp; omega), show ((j : Nat) : Int).toNat = j from by omega, hl, p2, g5, if_pos (by omega)]

theorem enc_code {b id : Nat} (h2 : 2 ≤ b ∧ b ≤ 256) : codeS (encS b id) = 0 := (code_zero _).2 ⟨⟨rfl, rfl, rfl, rfl, rfl, rfl⟩, h2⟩
theorem enc_lt {b id : Nat} (hb : b < 2 ^ 64) (hi : id < 2 ^ 64) (i : Nat) : encS b id i < 2 ^ 64 := by
  have := sumS_lt b id
  match i with
  | 0 => show 8390047168116913201 < 2 ^ 64; decide
  | 1 => show 1 < 2 ^ 64; decide
  | 2 => exact hb
  | 3 => exact hi
  | 4 => show 0 < 2 ^ 64; decide
  | 5 => show 0 < 2 ^ 64; decide
  | 6 => show 0 < 2 ^ 64; decide
  | 7 => show sumS b id < 2 ^ 64; omega
  | i + 8 => show ([] : List Nat).getD i 0 < 2 ^ 64; simp

end Su
end Go.Proofs.YtpgkplknfhdmgaaDoor
