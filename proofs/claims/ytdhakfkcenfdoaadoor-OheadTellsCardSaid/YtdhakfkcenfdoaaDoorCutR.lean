/- A region is cut off: all its ways end in one frame, in worlds of one kind; what follows is then shown once. -/
import Derived.Test.YtdhakfkcenfdoaaDoorPre
namespace Go.Proofs.YtdhakfkcenfdoaaDoor
open Go.ChangeShapes Go.WideShapes Go.ChangeAt Go.RowKit

/-- It ends as it should, in that frame, in such a world. -/
def CutTo (fr : Act) (S : World → Prop) : Exit → Act → World → Prop
  | .normal, b, W => b = fr ∧ S W
  | _, _, _ => False
theorem cutR {P : Program} {c : Code} {Q : Exit → Act → World → Prop} {a : Act} {w : World} (S : World → Prop) {fr : Act}
    (first : c.wp P (CutTo fr S) a w) (rest : ∀ W, S W → Q .normal fr W) : c.wp P Q a w :=
  Code.wp_mono (fun e b W hq => by
    cases e <;> first
      | (obtain ⟨rfl, hs⟩ := hq; exact rest W hs)
      | exact (hq : False).elim) first

end Go.Proofs.YtdhakfkcenfdoaaDoor
