/- geom: SlotAt. -/
import Derived.Test.YtimcpjinndnhfaaPre
namespace Go.Proofs.Ytimcpjinndnhfaa
open Go.ChangeShapes Go.WideShapes Go.ChangeAt Go.RowKit
set_option linter.unusedVariables false

def slotG (i : Int) : Int := if i.tmod 2 = 0 then 64 else 128

set_option maxHeartbeats 400000 in
theorem geoSlotAt_any (i : Int) (w : World) :
    Calls Try.prog 18 #[.int .i64 i] w fun e w' => e = .returned (.int .i64 (slotG i)) ∧ w = w' := by
  by_cases h : i.tmod 2 = 0
  · have hh : slotG i = 64 := if_pos h
    have HH := Lib.hid hh
    clear hh
    have hd : (i.tmod 2 == 0) = true := by simpa using h
    go_enter Try.func18, Try.ntmps18
    go_wp2
    go_ret
    exact ⟨ret_int HH.out.symm, rfl⟩
  · have hh : slotG i = 128 := if_neg h
    have HH := Lib.hid hh
    clear hh
    have hd : (i.tmod 2 == 0) = false := by simpa using h
    go_enter Try.func18, Try.ntmps18
    go_wp2
    go_ret
    exact ⟨ret_int HH.out.symm, rfl⟩

end Go.Proofs.Ytimcpjinndnhfaa
