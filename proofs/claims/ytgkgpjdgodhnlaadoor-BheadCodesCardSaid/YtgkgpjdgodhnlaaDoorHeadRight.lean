/- bhead: Header.Right; the reference's Right. -/
import Derived.Test.YtgkgpjdgodhnlaaDoorHeadV
import Derived.Test.YtgkgpjdgodhnlaaDoorBheadMath
import Derived.Test.YtgkgpjdgodhnlaaDoorClassRight
namespace Go.Proofs.YtgkgpjdgodhnlaaDoor
open Go.ChangeShapes Go.WideShapes Go.ChangeAt Go.RowKit Bh
set_option linter.unusedVariables false

set_option maxHeartbeats 1000000 in
theorem headRight_any (k c l : Int) (w : World) :
    Calls Tryd.prog 8 #[.agg #[.int .i64 k, .int .i64 c, .int .i64 l]] w fun e w' => e = .returned (.bool (rightH k c l)) ∧ Below w.heap.size w w' := by
  have HB : Hid (∀ o, Below w.heap.size w (w.alloc o)) := Lib.hid fun o => (Below.refl _ _).alloc (Nat.le_refl _) _
  by_cases h0 : k = 0
  · subst h0
    have heq := fun w' => eq3V 0 c l 0 0 0 w'
    have hr : rightH 0 c l = ((0 : Int) == 0 && c == 0 && l == 0) := by
      unfold rightH; rw [Bool.eq_iff_iff]; simp
    rw [← hr] at heq
    have HR := Lib.hid hr
    clear hr
    generalize rightH 0 c l = r at *
    go_enter Tryd.func8, Tryd.ntmps8
    go_wp2_with fail
    go_ret
    exact ⟨rfl, HB.out _⟩
  by_cases h1 : k = 1
  · subst h1
    clear h0
    have heq := fun w' => eq3V 1 c l 1 c 0 w'
    have hr : Hid (rightH 1 c l = (Cl.rightC c && (l == 0))) := Lib.hid (by
      unfold rightH Cl.rightC; rw [Bool.eq_iff_iff]; simp)
    have he : ((1 : Int) == 1 && c == c && l == 0) = (l == 0) := by simp
    rw [he] at heq
    clear he
    by_cases hc : Cl.rightC c = true
    · have HC : Hid (∀ w, Calls Tryd.prog 18 #[.int .i64 c] w fun e w' => e = .returned (.bool true) ∧ w = w') := Lib.hid fun w => by
        have := right_any c w; rwa [hc] at this
      rw [hr.out, hc, Bool.true_and]
      clear hr hc
      go_enter Tryd.func8, Tryd.ntmps8
      go_wp2_with fail
      refine (HC.out _).mono ?_
      rintro e w' ⟨rfl, rfl⟩
      go_wp2_with fail
      go_ret
      exact ⟨rfl, HB.out _⟩
    · have hc : Cl.rightC c = false := by simpa using hc
      have HC : Hid (∀ w, Calls Tryd.prog 18 #[.int .i64 c] w fun e w' => e = .returned (.bool false) ∧ w = w') := Lib.hid fun w => by
        have := right_any c w; rwa [hc] at this
      rw [hr.out, hc, Bool.false_and]
      clear hr hc
      go_enter Tryd.func8, Tryd.ntmps8
      go_wp2_with fail
      refine (HC.out _).mono ?_
      rintro e w' ⟨rfl, rfl⟩
      go_wp2_with fail
      go_ret
      exact ⟨rfl, HB.out _⟩
  by_cases h2 : k = 2 ∨ k = 3
  · have heq := fun w' => eq3V k c l k 0 l w'
    have he : (k == k && c == 0 && l == l) = decide (c = 0) := by rw [Bool.eq_iff_iff]; simp
    rw [he] at heq
    clear he h0 h1
    by_cases g : 1 ≤ l
    rotate_left
    · have hr : rightH k c l = false := decide_eq_false (by omega)
      rw [hr]
      have hd : decide (1 ≤ l) = false := by simpa using g
      clear hr g heq
      rcases h2 with rfl | rfl
      all_goals
        go_enter Tryd.func8, Tryd.ntmps8
        go_wp2_with fail
        go_ret
        exact ⟨rfl, HB.out _⟩
    by_cases g' : l ≤ 255
    rotate_left
    · have hr : rightH k c l = false := decide_eq_false (by omega)
      rw [hr]
      have hd : decide (l ≤ 255) = false := by simpa using g'
      clear hr g' heq
      rcases h2 with rfl | rfl
      all_goals
        go_enter Tryd.func8, Tryd.ntmps8
        go_wp2_with fail
        go_ret
        exact ⟨rfl, HB.out _⟩
    have hr : rightH k c l = decide (c = 0) := by unfold rightH; rw [decide_eq_decide]; omega
    rw [hr]
    clear hr
    generalize decide (c = 0) = r at *
    rcases h2 with rfl | rfl
    all_goals
      go_enter Tryd.func8, Tryd.ntmps8
      go_wp2_with fail
      go_ret
      exact ⟨rfl, HB.out _⟩
  · have hr : rightH k c l = false := decide_eq_false (by omega)
    rw [hr]
    have e0 : (k == 0) = false := by simpa using h0
    have e1 : (k == 1) = false := by simpa using h1
    have e2 : (k == 2) = false := by simp; omega
    have e3 : (k == 3) = false := by simp; omega
    clear h0 h1 h2 hr
    go_enter Tryd.func8, Tryd.ntmps8
    go_wp2_with fail
    go_ret
    exact ⟨rfl, HB.out _⟩

set_option maxHeartbeats 2000000 in
theorem refRight_any (k c l : Int) (w : World) :
    Calls Tryd.prog 9 #[.agg #[.int .i64 k, .int .i64 c, .int .i64 l]] w fun e w' => e = .returned (.bool (rightH k c l)) ∧ Below w.heap.size w w' := by
  have HB : Hid (∀ o, Below w.heap.size w (w.alloc o)) := Lib.hid fun o => (Below.refl _ _).alloc (Nat.le_refl _) _
  by_cases h0 : k = 0
  · subst h0
    by_cases g : c = 0
    · subst g
      have HR : Hid (rightH 0 0 l = (l == 0)) := Lib.hid (by unfold rightH; rw [Bool.eq_iff_iff]; simp)
      go_enter Tryd.func9, Tryd.ntmps9
      go_wp2_with fail
      go_ret
      exact ⟨ret_bool HR.out.symm, HB.out _⟩
    · have HR : Hid (rightH 0 c l = false) := Lib.hid (decide_eq_false (by omega))
      have hd : (c == 0) = false := by simpa using g
      clear g
      go_enter Tryd.func9, Tryd.ntmps9
      go_wp2_with fail
      go_ret
      exact ⟨ret_bool HR.out.symm, HB.out _⟩
  have e0 : (k == 0) = false := by simpa using h0
  by_cases h1 : k = 1
  · subst h1
    clear h0 e0
    by_cases g : 0 ≤ c
    rotate_left
    · have HR : Hid (rightH 1 c l = false) := Lib.hid (decide_eq_false (by omega))
      have hd : decide (0 ≤ c) = false := by simpa using g
      clear g
      go_enter Tryd.func9, Tryd.ntmps9
      go_wp2_with fail
      go_ret
      exact ⟨ret_bool HR.out.symm, HB.out _⟩
    by_cases g' : c < 32
    rotate_left
    · have HR : Hid (rightH 1 c l = false) := Lib.hid (decide_eq_false (by omega))
      have hd : decide (c < 32) = false := by simpa using g'
      clear g'
      go_enter Tryd.func9, Tryd.ntmps9
      go_wp2_with fail
      go_ret
      exact ⟨ret_bool HR.out.symm, HB.out _⟩
    have HR : Hid (rightH 1 c l = (l == 0)) := Lib.hid (by unfold rightH; rw [Bool.eq_iff_iff]; simp; omega)
    go_enter Tryd.func9, Tryd.ntmps9
    go_wp2_with fail
    go_ret
    exact ⟨ret_bool HR.out.symm, HB.out _⟩
  have e1 : (k == 1) = false := by simpa using h1
  by_cases h2 : k = 2 ∨ k = 3
  · clear h0 h1 e0 e1
    by_cases h3 : c = 0
    rotate_left
    · have HR : Hid (rightH k c l = false) := Lib.hid (decide_eq_false (by omega))
      have hd : (c == 0) = false := by simpa using h3
      clear h3
      rcases h2 with rfl | rfl
      all_goals
        go_enter Tryd.func9, Tryd.ntmps9
        go_wp2_with fail
        go_ret
        exact ⟨ret_bool HR.out.symm, HB.out _⟩
    subst h3
    by_cases g : 1 ≤ l
    rotate_left
    · have HR : Hid (rightH k 0 l = false) := Lib.hid (decide_eq_false (by omega))
      have hd : decide (1 ≤ l) = false := by simpa using g
      clear g
      rcases h2 with rfl | rfl
      all_goals
        go_enter Tryd.func9, Tryd.ntmps9
        go_wp2_with fail
        go_ret
        exact ⟨ret_bool HR.out.symm, HB.out _⟩
    have HR : Hid (rightH k 0 l = decide (l ≤ 255)) := Lib.hid (by unfold rightH; rw [decide_eq_decide]; omega)
    rcases h2 with rfl | rfl
    all_goals
      go_enter Tryd.func9, Tryd.ntmps9
      go_wp2_with fail
      go_ret
      exact ⟨ret_bool HR.out.symm, HB.out _⟩
  · have HR : Hid (rightH k c l = false) := Lib.hid (decide_eq_false (by omega))
    have e2 : (k == 2) = false := by simp; omega
    have e3 : (k == 3) = false := by simp; omega
    clear h0 h1 h2
    go_enter Tryd.func9, Tryd.ntmps9
    go_wp2_with fail
    go_ret
    exact ⟨ret_bool HR.out.symm, HB.out _⟩

end Go.Proofs.YtgkgpjdgodhnlaaDoor
