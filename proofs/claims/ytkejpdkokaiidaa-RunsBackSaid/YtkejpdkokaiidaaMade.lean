/- A call hands back one value; what was there is as it was. -/
import Derived.Test.YtkejpdkokaiidaaPre
namespace Go.Proofs.Ytkejpdkokaiidaa
open Go.ChangeShapes Go.WideShapes Go.ChangeAt Go.RowKit
/-- A call hands back a value; what was there is as it was. -/
def MadeOne (v : Value) (w : World) (e : Ending) (w' : World) : Prop := e = .returned v ∧ Below w.heap.size w w'
end Go.Proofs.Ytkejpdkokaiidaa
