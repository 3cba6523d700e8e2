/- geom: Words. -/
import Derived.Test.YtpgkplknfhdmgaaDoorPre
namespace Go.Proofs.YtpgkplknfhdmgaaDoor
open Go.ChangeShapes Go.WideShapes Go.ChangeAt Go.RowKit
set_option linter.unusedVariables false

set_option maxHeartbeats 400000 in
theorem geoWords_any (n : Int) (w : World) (h0 : 0 ≤ n) (h1 : n ≤ 1048576) :
    Calls Tryd.prog 34 #[.agg #[.int .i64 n]] w fun e w' => e = .returned (.int .i64 (512 * n)) ∧ Below w.heap.size w w' := by
  go_enter Tryd.func34, Tryd.ntmps34
  go_wp2
  go_ret
  exact ⟨ret_int (Int.mul_comm _ _), (Below.refl _ _).alloc (Nat.le_refl _) _⟩

end Go.Proofs.YtpgkplknfhdmgaaDoor
