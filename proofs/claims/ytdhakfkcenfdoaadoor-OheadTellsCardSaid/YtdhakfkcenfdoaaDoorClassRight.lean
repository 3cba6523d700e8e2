/- class: Right. -/
import Derived.Test.YtdhakfkcenfdoaaDoorClassMath
namespace Go.Proofs.YtdhakfkcenfdoaaDoor
open Go.ChangeShapes Go.WideShapes Go.ChangeAt Go.RowKit Cl
set_option linter.unusedVariables false

end Go.Proofs.YtdhakfkcenfdoaaDoor
