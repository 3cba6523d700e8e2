/- A device of words behind a cache, as plain mathematics: lines by their numbers, words and flags as functions of their places. No program in it. -/
import Derived.Test.YtpgkplknfhdmgaaDoorRows
namespace Go.Proofs.YtpgkplknfhdmgaaDoor
namespace Nv
set_option linter.unusedVariables false

structure Mdl where
  L : Nat
  last : Nat → Int
  now : Nat → Int
  dirty : Nat → Bool
  wait : Nat → Option (Nat → Int)
  fuse : Int
  steps : Int
  dead : Bool

/-- Does it stop at this step? -/
def stops (m : Mdl) : Bool := m.dead || decide (m.fuse = 0)
/-- Behind a step that is done. -/
def stepM (m : Mdl) : Mdl := { m with fuse := if 0 < m.fuse then m.fuse - 1 else m.fuse, steps := m.steps + 1 }
/-- Behind a step at which it stops. -/
def deadM (m : Mdl) : Mdl := { m with dead := true }
def hasW (m : Mdl) (at_ : Int) : Bool := decide (0 ≤ at_ ∧ at_ < 8 * m.L)
def hasL (m : Mdl) (l : Int) : Bool := decide (0 ≤ l ∧ l < m.L)
def getNow (m : Mdl) (at_ : Int) : Int := if hasW m at_ = true then m.now at_.toNat else 0
def getLast (m : Mdl) (at_ : Int) : Int := if hasW m at_ = true then m.last at_.toNat else 0

def setNow (m : Mdl) (k : Nat) (x : Int) : Mdl := { m with now := fun j => if j = k then x else m.now j }
def setDirty (m : Mdl) (i : Nat) (b : Bool) : Mdl := { m with dirty := fun j => if j = i then b else m.dirty j }
def setWait (m : Mdl) (i : Nat) (c : Option (Nat → Int)) : Mdl := { m with wait := fun j => if j = i then c else m.wait j }
/-- Line i lasts as c. -/
def setLast (m : Mdl) (i : Nat) (c : Nat → Int) : Mdl := { m with last := fun j => if j / 8 = i then c (j % 8) else m.last j }
/-- What line i is, out of words. -/
def lineOf (f : Nat → Int) (i : Nat) : Nat → Int := fun j => f (8 * i + j)

def eq8 (f g : Nat → Int) : Bool := (List.range 8).all fun j => f j == g j

def store (m : Mdl) (at_ x : Int) : Mdl × Int :=
  if hasW m at_ = false then (m, 2) else if stops m = true then (deadM m, 3) else (setDirty (setNow (stepM m) at_.toNat x) (at_.toNat / 8) true, 0)
/-- Behind a flush that is done. -/
def flushM (m : Mdl) (i : Nat) : Mdl := if m.dirty i = true then setWait (stepM m) i (some (lineOf m.now i)) else stepM m
def flush (m : Mdl) (l : Int) : Mdl × Int :=
  if hasL m l = false then (m, 2) else if stops m = true then (deadM m, 3) else (flushM m l.toNat, 0)
/-- Lines for which 'p' says so are fenced. -/
def fenced (m : Mdl) (p : Nat → Bool) : Mdl :=
  { m with
    last := fun j => if p (j / 8) = true then (match m.wait (j / 8) with | some c => c (j % 8) | none => m.last j) else m.last j
    dirty := fun i => if p i = true then (match m.wait i with | some c => !eq8 c (lineOf m.now i) | none => m.dirty i) else m.dirty i }
def noWait (m : Mdl) : Mdl := { m with wait := fun _ => none }
def fenceM (m : Mdl) : Mdl := noWait (fenced (stepM m) fun _ => true)
def fence (m : Mdl) : Mdl × Int := if stops m = true then (deadM m, 3) else (fenceM m, 0)
def evictM (m : Mdl) (i : Nat) : Mdl := setWait (setDirty (setLast m i (lineOf m.now i)) i false) i none
def evict (m : Mdl) (l : Int) : Mdl × Int :=
  if hasL m l = false then (m, 2) else if m.dead = true then (m, 3) else (evictM m l.toNat, 0)
/-- Lines from a on, n of them, are flushed; the first error ends it. -/
def flushes (m : Mdl) (a : Nat) : Nat → Mdl × Int
  | 0 => (m, 0)
  | n + 1 => let r := flush m a; if r.2 = 0 then flushes r.1 (a + 1) n else r
/-- The first of the lines of so many words from at_ on, and how many. -/
def firstLine (at_ words : Int) : Nat := if words = 0 then 0 else at_.toNat / 8
def endLine (at_ words : Int) : Nat := if words = 0 then 0 else ((at_ + words).toNat + 7) / 8
def badSpan (m : Mdl) (at_ words : Int) : Bool := decide (at_ < 0 ∨ words < 0 ∨ 8 * (m.L : Int) - words < at_)
def persist (m : Mdl) (at_ words : Int) : Mdl × Int :=
  if badSpan m at_ words = true then (m, 2) else
    let r := flushes m (firstLine at_ words) (endLine at_ words - firstLine at_ words)
    if r.2 = 0 then fence r.1 else r
def arm (m : Mdl) (n : Int) : Mdl := { m with fuse := max n (-1) }

def dirtyL (m : Mdl) : List Nat := (List.range m.L).filter m.dirty
/-- A device that was just made of these words. -/
def fresh (L : Nat) (f : Nat → Int) : Mdl := { L := L, last := f, now := f, dirty := fun _ => false, wait := fun _ => none, fuse := -1, steps := 0, dead := false }
/-- What line i lasts with by a choice. -/
def outcome (m : Mdl) (i : Nat) (c : Int) : Nat → Int :=
  if c % 3 = 2 then lineOf m.now i else if c % 3 = 1 then (match m.wait i with | some c => c | none => lineOf m.last i) else lineOf m.last i
/-- The words behind k of the choices. -/
def crashW (m : Mdl) (cs : List Int) : Nat → Nat → Int
  | 0 => m.last
  | k + 1 => fun j => if j / 8 = (dirtyL m).getD k 0 then outcome m ((dirtyL m).getD k 0) (cs.getD k 0) (j % 8) else crashW m cs k j
def crash (m : Mdl) (cs : List Int) : Mdl := fresh m.L (crashW m cs (min (dirtyL m).length cs.length))

theorem crashW_still (m : Mdl) (cs : List Int) (j : Nat) : ∀ k, (∀ i, i < k → (dirtyL m).getD i 0 ≠ j / 8) → crashW m cs k j = m.last j
  | 0, _ => rfl
  | k + 1, h => by
    simp only [crashW]
    rw [if_neg (fun e => h k (by omega) e.symm)]
    exact crashW_still m cs j k fun i hi => h i (by omega)

/-- Words, with noughts behind. -/
def padded (ws : List Int) : Nat → Int := fun j => ws.getD j 0
def linesFor (n : Nat) : Nat := (n + 7) / 8

end Nv
end Go.Proofs.YtpgkplknfhdmgaaDoor
