/- class: within, Size. -/
import Derived.Test.YtdhakfkcenfdoaaDoorPre
namespace Go.Proofs.YtdhakfkcenfdoaaDoor
open Go.ChangeShapes Go.WideShapes Go.ChangeAt Go.RowKit
set_option linter.unusedVariables false

set_option maxHeartbeats 400000 in
theorem within_any (n m : Int) (w : World) :
    Calls Tryd.prog 38 #[.int .i64 n, .int .i64 m] w fun e w' => e = .returned (.bool (decide (0 ≤ n ∧ n ≤ m))) ∧ w = w' := by
  by_cases h0 : 0 ≤ n
  · by_cases h1 : n ≤ m
    · have HH := Lib.hid (show decide (0 ≤ n ∧ n ≤ m) = true from decide_eq_true ⟨h0, h1⟩)
      go_enter Tryd.func38, Tryd.ntmps38
      go_wp2
      go_ret
      first | exact ⟨ret_bool HH.out.symm, rfl⟩ | exact ⟨rfl, rfl⟩
    · have HH := Lib.hid (show decide (0 ≤ n ∧ n ≤ m) = false from decide_eq_false (fun h => h1 h.2))
      have hd : decide (n ≤ m) = false := by simpa using h1
      go_enter Tryd.func38, Tryd.ntmps38
      go_wp2
      go_ret
      first | exact ⟨ret_bool HH.out.symm, rfl⟩ | exact ⟨rfl, rfl⟩
  · have HH := Lib.hid (show decide (0 ≤ n ∧ n ≤ m) = false from decide_eq_false (fun h => h0 h.1))
    have hd : decide (0 ≤ n) = false := by simpa using h0
    go_enter Tryd.func38, Tryd.ntmps38
    go_wp2
    go_ret
    first | exact ⟨ret_bool HH.out.symm, rfl⟩ | exact ⟨rfl, rfl⟩

theorem within_yes (n m : Int) (w : World) (h : 0 ≤ n ∧ n ≤ m) :
    Calls Tryd.prog 38 #[.int .i64 n, .int .i64 m] w fun e w' => e = .returned (.bool true) ∧ w = w' := by
  have := within_any n m w
  rwa [show decide (0 ≤ n ∧ n ≤ m) = true from decide_eq_true h] at this
theorem within_no (n m : Int) (w : World) (h : ¬ (0 ≤ n ∧ n ≤ m)) :
    Calls Tryd.prog 38 #[.int .i64 n, .int .i64 m] w fun e w' => e = .returned (.bool false) ∧ w = w' := by
  have := within_any n m w
  rwa [show decide (0 ≤ n ∧ n ≤ m) = false from decide_eq_false h] at this

/-- What Size answers. -/
def SizeIs (p d : Int) (w : World) (e : Ending) (w' : World) : Prop :=
  (if (0 ≤ p ∧ p ≤ 63) ∧ (0 ≤ d ∧ d ≤ 16384) then e = .returned (.tuple #[.int .i64 (1 + p + d), .int .i64 0]) else e = .returned (.tuple #[.int .i64 0, .int .i64 5])) ∧ w = w'

set_option maxHeartbeats 1000000 in
theorem size_any (p d : Int) (w : World) :
    Calls Tryd.prog 28 #[.int .i64 p, .int .i64 d] w (SizeIs p d w) := by
  by_cases h0 : 0 ≤ p ∧ p ≤ 63
  · by_cases h1 : 0 ≤ d ∧ d ≤ 16384
    · have HH := Lib.hid (show SizeIs p d w (.returned (.tuple #[.int .i64 (1 + p + d), .int .i64 0])) w from ⟨by rw [if_pos ⟨h0, h1⟩], rfl⟩)
      have H0 := Lib.hid h0
      have H1 := Lib.hid h1
      obtain ⟨a, b⟩ := h0
      obtain ⟨a', b'⟩ := h1
      go_enter Tryd.func28, Tryd.ntmps28
      go_wp2_with fail
      refine (within_yes _ _ _ H0.out).mono ?_
      rintro e w' ⟨rfl, rfl⟩
      go_wp2_with fail
      refine (within_yes _ _ _ H1.out).mono ?_
      rintro e w' ⟨rfl, rfl⟩
      go_wp2_with fail
      go_ret2
      exact HH.out
    · have HH := Lib.hid (show SizeIs p d w (.returned (.tuple #[.int .i64 0, .int .i64 5])) w from ⟨by rw [if_neg (fun h => h1 h.2)], rfl⟩)
      have H0 := Lib.hid h0
      have H1 := Lib.hid h1
      clear h0 h1
      go_enter Tryd.func28, Tryd.ntmps28
      go_wp2_with fail
      refine (within_yes _ _ _ H0.out).mono ?_
      rintro e w' ⟨rfl, rfl⟩
      go_wp2_with fail
      refine (within_no _ _ _ H1.out).mono ?_
      rintro e w' ⟨rfl, rfl⟩
      go_wp2_with fail
      go_ret2
      exact HH.out
  · have HH := Lib.hid (show SizeIs p d w (.returned (.tuple #[.int .i64 0, .int .i64 5])) w from ⟨by rw [if_neg (fun h => h0 h.1)], rfl⟩)
    have H0 := Lib.hid h0
    clear h0
    go_enter Tryd.func28, Tryd.ntmps28
    go_wp2_with fail
    refine (within_no _ _ _ H0.out).mono ?_
    rintro e w' ⟨rfl, rfl⟩
    go_wp2_with fail
    go_ret2
    exact HH.out

end Go.Proofs.YtdhakfkcenfdoaaDoor
