/- geom: Need. -/
import Derived.Test.YtimcpjinndnhfaaPre
namespace Go.Proofs.Ytimcpjinndnhfaa
open Go.ChangeShapes Go.WideShapes Go.ChangeAt Go.RowKit
set_option linter.unusedVariables false

def needG (n : Int) : Int := if n < 1 then 0 else (n - 1) / 512 + 1

set_option maxHeartbeats 400000 in
theorem geoNeed_any (n : Int) (w : World) (h1 : n ≤ 9223372036854775807) :
    Calls Try.prog 16 #[.int .i64 n] w fun e w' => e = .returned (.int .i64 (needG n)) ∧ w = w' := by
  by_cases h : n < 1
  · have hh : needG n = 0 := if_pos h
    have HH := Lib.hid hh
    clear hh
    go_enter Try.func16, Try.ntmps16
    go_wp2
    go_ret
    exact ⟨ret_int HH.out.symm, rfl⟩
  · have hh : needG n = (n - 1) / 512 + 1 := if_neg h
    have HH := Lib.hid hh
    clear hh
    have h3 : 1 ≤ n := by omega
    have h4 : 0 ≤ (n - 1) / 512 := by omega
    have h5 : (n - 1) / 512 ≤ n - 1 := by omega
    have hd : decide (n < 1) = false := by simpa using h
    go_enter Try.func16, Try.ntmps16
    go_wp2
    go_ret
    exact ⟨ret_int HH.out.symm, rfl⟩

end Go.Proofs.Ytimcpjinndnhfaa
