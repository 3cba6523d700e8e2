/- class: Words, Most, Cells, Waste. -/
import Derived.Test.YtdhakfkcenfdoaaDoorClassRight
import Derived.Lib.LaidTab
namespace Go.Proofs.YtdhakfkcenfdoaaDoor
open Go.ChangeShapes Go.WideShapes Go.ChangeAt Go.RowKit Cl
set_option linter.unusedVariables false

/-- The table lies in the world. -/
def HasCells (w : World) : Prop := ∀ i, i < 32 → w.cell? ⟨0, i, none⟩ = some (.int .i64 (wd i : Int))
theorem HasCells.drewN {w : World} (h : HasCells w) (n : Nat) : HasCells (w.drewN n) := h
theorem HasCells.lt {w : World} (h : HasCells w) : 0 < w.heap.size := World.block_lt_of_cell? _ _ (h 0 (by decide))
theorem HasCells.below {w w' : World} {B : Nat} (h : HasCells w) (hb : Below B w w') (hB : w.heap.size ≤ B) : HasCells w' := fun i hi =>
  (hb.cell (p := ⟨0, i, none⟩) (Nat.lt_of_lt_of_le h.lt hB)).trans (h i hi)

end Go.Proofs.YtdhakfkcenfdoaaDoor
