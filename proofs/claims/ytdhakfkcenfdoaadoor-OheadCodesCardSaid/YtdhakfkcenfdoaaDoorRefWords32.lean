/- The reference: Words. -/
import Derived.Test.YtdhakfkcenfdoaaDoorRefMore
import Derived.Test.YtdhakfkcenfdoaaDoorRefBytes
import Derived.Test.YtdhakfkcenfdoaaDoorWords32
namespace Go.Proofs.YtdhakfkcenfdoaaDoor
open Go.ChangeShapes Go.WideShapes Go.ChangeAt Go.RowKit Cr Bt
set_option linter.unusedVariables false

theorem refWords32_any (va : Value) (xs : List Nat) (w : World) (h : IsInts .u64 w va (castL xs)) (hx : ∀ p, xs.getD p 0 < 2 ^ 64) (hlen : xs.length ≤ 100000000) :
    Calls Tryd.prog 37 #[va] w (MadeOne (.int .u32 (wordsC xs : Nat)) w) := by
  have HI := Lib.hid h
  have HX := Lib.hid hx
  clear h hx
  go_enter Tryd.func37, Tryd.ntmps37
  go_wp2_with fail
  refine (refBytes_any va xs _ HI.out HX.out (by omega)).mono ?_
  rintro e W ⟨vb, rfl, hI, hb⟩
  have HI' := Lib.hid hI
  have HB := Lib.hid hb
  clear hI hb
  go_wp2_with fail
  refine (refMore_any 0 vb (bytesN xs) _ (by decide) HI'.out (bytesN_getD_lt xs) (by rw [bytesN_length]; omega)).mono ?_
  rintro e w' ⟨rfl, n, rfl⟩
  go_wp2_with fail
  go_ret
  exact ⟨rfl, below_drewN HB.out n⟩

end Go.Proofs.YtdhakfkcenfdoaaDoor
