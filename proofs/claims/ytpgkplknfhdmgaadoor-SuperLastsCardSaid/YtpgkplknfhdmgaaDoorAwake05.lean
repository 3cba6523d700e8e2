/- The page's example of layer 5. -/
import Derived.Test.YtpgkplknfhdmgaaDoorEncode
namespace Go.Proofs.YtpgkplknfhdmgaaDoor
open Go.ChangeShapes Go.WideShapes Go.ChangeAt Go.RowKit Cr Bt Su
set_option linter.unusedVariables false

set_option maxHeartbeats 1000000 in
theorem awake_yes (w : World) (hT : HasRests w) : Calls Tryd.prog 6 #[] w fun e w' => e = .returned (.bool true) ∧ Below w.heap.size w w' := by
  have HT := Lib.hid hT
  clear hT
  go_enter Tryd.func6, Tryd.ntmps6
  go_wp2_with fail
  refine (encode_any 2 2 9 _ rfl (by decide) (by decide) HT.out).mono ?_
  rintro e W ⟨rfl, hb⟩
  have HB := Lib.hid hb
  clear hb
  go_wp2_with fail
  go_ret
  exact ⟨rfl, HB.out.alloc HB.out.size _⟩

end Go.Proofs.YtpgkplknfhdmgaaDoor
