/- taprootref04: Need, Header, SlotAt. -/
import Derived.Test.YtimcpjinndnhfaaGeoHeader
import Derived.Test.YtimcpjinndnhfaaGeoNeed
import Derived.Test.YtimcpjinndnhfaaGeoSlotAt
namespace Go.Proofs.Ytimcpjinndnhfaa
open Go.ChangeShapes Go.WideShapes Go.ChangeAt Go.RowKit
set_option linter.unusedVariables false

set_option maxHeartbeats 400000 in
theorem refHeader_any (n b : Int) (w : World) (hn : n ≤ 1048576) :
    Calls Try.prog 14 #[.int .i64 n, .int .i64 b] w fun e w' => e = .returned (.int .i64 (headerG n b)) ∧ w = w' := by
  by_cases h0 : 1 ≤ b
  · by_cases h : b < n
    · have hh : headerG n b = 256 + b := if_pos ⟨h0, h⟩
      have HH := Lib.hid hh
      clear hh
      go_enter Try.func14, Try.ntmps14
      go_wp2
      go_ret
      exact ⟨ret_int HH.out.symm, rfl⟩
    · have hh : headerG n b = -1 := if_neg (fun hx => h hx.2)
      have HH := Lib.hid hh
      have hd : decide (b < n) = false := by simpa using h
      clear hh
      go_enter Try.func14, Try.ntmps14
      go_wp2
      go_ret
      exact ⟨ret_int HH.out.symm, rfl⟩
  · have hh : headerG n b = -1 := if_neg (fun hx => h0 hx.1)
    have HH := Lib.hid hh
    have hd : decide (1 ≤ b) = false := by simpa using h0
    clear hh
    go_enter Try.func14, Try.ntmps14
    go_wp2
    go_ret
    exact ⟨ret_int HH.out.symm, rfl⟩

set_option maxHeartbeats 400000 in
theorem refSlotAt_any (i : Int) (w : World) :
    Calls Try.prog 19 #[.int .i64 i] w fun e w' => e = .returned (.int .i64 (slotG i)) ∧ w = w' := by
  by_cases h : i.tmod 2 = 0
  · have hh : slotG i = 64 := if_pos h
    have HH := Lib.hid hh
    clear hh
    have hd : (i.tmod 2 == 0) = true := by simpa using h
    go_enter Try.func19, Try.ntmps19
    go_wp2
    go_ret
    exact ⟨ret_int HH.out.symm, rfl⟩
  · have hh : slotG i = 128 := if_neg h
    have HH := Lib.hid hh
    clear hh
    have hd : (i.tmod 2 == 0) = false := by simpa using h
    go_enter Try.func19, Try.ntmps19
    go_wp2
    go_ret
    exact ⟨ret_int HH.out.symm, rfl⟩

set_option maxHeartbeats 400000 in
theorem refNeed04_any (n : Int) (w : World) (h1 : n ≤ 9223372036854775807) :
    Calls Try.prog 17 #[.int .i64 n] w fun e w' => e = .returned (.int .i64 (needG n)) ∧ w = w' := by
  by_cases h : n < 1
  · have hh : needG n = 0 := if_pos h
    have HH := Lib.hid hh
    clear hh
    go_enter Try.func17, Try.ntmps17
    go_wp2
    go_ret
    exact ⟨ret_int HH.out.symm, rfl⟩
  · have hd : decide (n < 1) = false := by simpa using h
    have h3 : 1 ≤ n := by omega
    have h4 : 0 ≤ n / 512 := by omega
    have h5 : n / 512 ≤ n := by omega
    by_cases hm : n % 512 = 0
    · have hh : needG n = n / 512 := by unfold needG; rw [if_neg h]; omega
      have HH := Lib.hid hh
      have hdm : (n % 512 == 0) = true := by simpa using hm
      have hdm' : (n % 512 != 0) = false := by simpa using hm
      clear hh h hm
      go_enter Try.func17, Try.ntmps17
      go_wp2
      go_ret
      exact ⟨ret_int HH.out.symm, rfl⟩
    · have hh : needG n = n / 512 + 1 := by unfold needG; rw [if_neg h]; omega
      have HH := Lib.hid hh
      have h6 : n / 512 ≤ n - 1 := by omega
      have hdm : (n % 512 == 0) = false := by simpa using hm
      have hdm' : (n % 512 != 0) = true := by simpa using hm
      clear hh h hm
      go_enter Try.func17, Try.ntmps17
      go_wp2
      go_ret
      exact ⟨ret_int HH.out.symm, rfl⟩

end Go.Proofs.Ytimcpjinndnhfaa
