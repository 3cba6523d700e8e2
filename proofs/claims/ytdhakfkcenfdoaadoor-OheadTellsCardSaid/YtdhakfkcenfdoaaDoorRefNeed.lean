/- taprootref04: Need. -/
import Derived.Test.YtdhakfkcenfdoaaDoorGeoNeed
namespace Go.Proofs.YtdhakfkcenfdoaaDoor
open Go.ChangeShapes Go.WideShapes Go.ChangeAt Go.RowKit
set_option linter.unusedVariables false

set_option maxHeartbeats 400000 in
theorem refNeed04_any (n : Int) (w : World) (h1 : n ≤ 9223372036854775807) :
    Calls Tryd.prog 31 #[.int .i64 n] w fun e w' => e = .returned (.int .i64 (needG n)) ∧ w = w' := by
  by_cases h : n < 1
  · have hh : needG n = 0 := if_pos h
    have HH := Lib.hid hh
    clear hh
    go_enter Tryd.func31, Tryd.ntmps31
    go_wp2
    go_ret
    exact ⟨ret_int HH.out.symm, rfl⟩
  · have hd : decide (n < 1) = false := by simpa using h
    have h3 : 1 ≤ n := by omega
    have h4 : 0 ≤ n / 512 := by omega
    have h5 : n / 512 ≤ n := by omega
    by_cases hm : n % 512 = 0
    · have hh : needG n = n / 512 := by unfold needG; rw [if_neg h]; omega
      have HH := Lib.hid hh
      have hdm : (n % 512 == 0) = true := by simpa using hm
      have hdm' : (n % 512 != 0) = false := by simpa using hm
      clear hh h hm
      go_enter Tryd.func31, Tryd.ntmps31
      go_wp2
      go_ret
      exact ⟨ret_int HH.out.symm, rfl⟩
    · have hh : needG n = n / 512 + 1 := by unfold needG; rw [if_neg h]; omega
      have HH := Lib.hid hh
      have h6 : n / 512 ≤ n - 1 := by omega
      have hdm : (n % 512 == 0) = false := by simpa using hm
      have hdm' : (n % 512 != 0) = true := by simpa using hm
      clear hh h hm
      go_enter Tryd.func31, Tryd.ntmps31
      go_wp2
      go_ret
      exact ⟨ret_int HH.out.symm, rfl⟩

end Go.Proofs.YtdhakfkcenfdoaaDoor
