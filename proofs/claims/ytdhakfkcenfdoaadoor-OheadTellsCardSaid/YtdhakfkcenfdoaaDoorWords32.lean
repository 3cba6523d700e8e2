/- crc.Words. -/
import Derived.Test.YtdhakfkcenfdoaaDoorMore
import Derived.Test.YtdhakfkcenfdoaaDoorBytes
namespace Go.Proofs.YtdhakfkcenfdoaaDoor
open Go.ChangeShapes Go.WideShapes Go.ChangeAt Go.RowKit Cr Bt
set_option linter.unusedVariables false

theorem bytesN_getD_lt (xs : List Nat) (p : Nat) : (bytesN xs).getD p 0 < 256 := by
  rw [List.getD_eq_getElem?_getD]
  cases h : (bytesN xs)[p]? with
  | none => decide
  | some b => exact bytesN_lt xs b (List.mem_of_getElem? h)

/-- A call hands back a number; what was there is as it was. -/
def MadeOne (v : Value) (w : World) (e : Ending) (w' : World) : Prop := e = .returned v ∧ Below w.heap.size w w'

theorem words32_any (va : Value) (xs : List Nat) (w : World) (h : IsInts .u64 w va (castL xs)) (hx : ∀ p, xs.getD p 0 < 2 ^ 64) (hlen : xs.length ≤ 100000000) (hT : HasRests w) :
    Calls Tryd.prog 36 #[va] w (MadeOne (.int .u32 (wordsC xs : Nat)) w) := by
  have HI := Lib.hid h
  have HX := Lib.hid hx
  have HT := Lib.hid hT
  clear h hx hT
  go_enter Tryd.func36, Tryd.ntmps36
  go_wp2_with fail
  refine (bytes_any va xs _ HI.out HX.out (by omega)).mono ?_
  rintro e W ⟨vb, rfl, hI, hb⟩
  have HI' := Lib.hid hI
  have HB := Lib.hid hb
  clear hI hb
  go_wp2_with fail
  refine (sum_any vb (bytesN xs) _ HI'.out (bytesN_getD_lt xs) (by rw [bytesN_length]; omega) (HT.out.below HB.out (Nat.le_refl _))).mono ?_
  rintro e w' ⟨rfl, n, rfl⟩
  go_wp2_with fail
  go_ret
  exact ⟨rfl, below_drewN HB.out n⟩

end Go.Proofs.YtdhakfkcenfdoaaDoor
