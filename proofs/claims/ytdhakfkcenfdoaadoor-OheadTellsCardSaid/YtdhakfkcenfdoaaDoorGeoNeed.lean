/- geom: Need. -/
import Derived.Test.YtdhakfkcenfdoaaDoorPre
namespace Go.Proofs.YtdhakfkcenfdoaaDoor
open Go.ChangeShapes Go.WideShapes Go.ChangeAt Go.RowKit
set_option linter.unusedVariables false

def needG (n : Int) : Int := if n < 1 then 0 else (n - 1) / 512 + 1

end Go.Proofs.YtdhakfkcenfdoaaDoor
