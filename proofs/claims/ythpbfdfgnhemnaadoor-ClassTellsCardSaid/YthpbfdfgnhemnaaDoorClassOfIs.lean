/- class: Of, Size. -/
import Derived.Test.YthpbfdfgnhemnaaDoorClass
namespace Go.Proofs.YthpbfdfgnhemnaaDoor
open Go.ChangeShapes Go.WideShapes Go.ChangeAt Go.RowKit Cl
set_option linter.unusedVariables false

/-- What Of answers. -/
def OfIs (n : Int) (w : World) (e : Ending) (w' : World) : Prop :=
  e = .returned (.tuple #[.int .i64 ((clsC n).getD 0 : Nat), .bool (clsC n).isSome]) ∧ w = w'

set_option maxHeartbeats 1000000 in
theorem of_any (n : Int) (w : World) (hT : HasCells w) :
    Calls Tryd.prog 13 #[.int .i64 n] w (OfIs n w) := by
  have HT := Lib.hid hT
  clear hT
  by_cases h : n < 1
  · have HH := Lib.hid (clsC_low h)
    go_enter Tryd.func13, Tryd.ntmps13
    go_wp2_with fail
    go_ret2
    exact ⟨by rw [HH.out]; rfl, rfl⟩
  · have HN := Lib.hid h
    have hd : decide (n < 1) = false := by simpa using h
    have hn : 1 ≤ n := by omega
    clear h
    go_enter Tryd.func13, Tryd.ntmps13
    go_wp2_with fail
    go_loop [7, 4] (fun b _ => ∃ k : Nat, k ≤ 32 ∧ b = .int .i64 k ∧ Hid (∀ j, j < k → (wd j : Int) < n)) (fun b _ => 32 - (intOf b).toNat)
    case atStart => exact ⟨0, by omega, rfl, Lib.hid (by omega)⟩
    case round =>
      obtain ⟨k, hk, rfl, HK⟩ := hrel
      by_cases hlt : k < 32
      · have hlt' : (k : Int) < 32 := by omega
        have hc := HT.out k hlt
        obtain ⟨h1, h2⟩ := wd_in k hlt
        by_cases g : n ≤ (wd k : Int)
        · have HA := Lib.hid (clsC_at (by have := HN.out; omega) hlt HK.out g)
          generalize wd k = t at hc h1 h2 g
          go_wp2_with fail
          go_ret2
          exact ⟨by rw [HA.out]; rfl, rfl⟩
        · have HS : Hid (∀ j, j < k + 1 → (wd j : Int) < n) := Lib.hid fun j hj => by
            by_cases hjk : j = k
            · subst hjk; omega
            · exact HK.out j (by omega)
          have hg : decide (n ≤ (wd k : Int)) = false := by simpa using g
          generalize wd k = t at hc h1 h2 g hg
          go_wp2_with fail
          go_round
          case rel => exact ⟨k + 1, by omega, by go_num, HS⟩
          case measure => simp [intOf]; omega
      · have hlt' : ¬ (k : Int) < 32 := by omega
        have hd : decide ((k : Int) < 32) = false := by simpa using hlt'
        have HE := Lib.hid (clsC_high (n := n) fun j hj => HK.out j (by omega))
        go_wp2_with fail
        go_ret2
        exact ⟨by rw [HE.out]; rfl, rfl⟩

set_option maxHeartbeats 400000 in
theorem within_any (n m : Int) (w : World) :
    Calls Tryd.prog 18 #[.int .i64 n, .int .i64 m] w fun e w' => e = .returned (.bool (decide (0 ≤ n ∧ n ≤ m))) ∧ w = w' := by
  by_cases h0 : 0 ≤ n
  · by_cases h1 : n ≤ m
    · have HH := Lib.hid (show decide (0 ≤ n ∧ n ≤ m) = true from decide_eq_true ⟨h0, h1⟩)
      go_enter Tryd.func18, Tryd.ntmps18
      go_wp2
      go_ret
      first | exact ⟨ret_bool HH.out.symm, rfl⟩ | exact ⟨rfl, rfl⟩
    · have HH := Lib.hid (show decide (0 ≤ n ∧ n ≤ m) = false from decide_eq_false (fun h => h1 h.2))
      have hd : decide (n ≤ m) = false := by simpa using h1
      go_enter Tryd.func18, Tryd.ntmps18
      go_wp2
      go_ret
      first | exact ⟨ret_bool HH.out.symm, rfl⟩ | exact ⟨rfl, rfl⟩
  · have HH := Lib.hid (show decide (0 ≤ n ∧ n ≤ m) = false from decide_eq_false (fun h => h0 h.1))
    have hd : decide (0 ≤ n) = false := by simpa using h0
    go_enter Tryd.func18, Tryd.ntmps18
    go_wp2
    go_ret
    first | exact ⟨ret_bool HH.out.symm, rfl⟩ | exact ⟨rfl, rfl⟩

theorem within_yes (n m : Int) (w : World) (h : 0 ≤ n ∧ n ≤ m) :
    Calls Tryd.prog 18 #[.int .i64 n, .int .i64 m] w fun e w' => e = .returned (.bool true) ∧ w = w' := by
  have := within_any n m w
  rwa [show decide (0 ≤ n ∧ n ≤ m) = true from decide_eq_true h] at this
theorem within_no (n m : Int) (w : World) (h : ¬ (0 ≤ n ∧ n ≤ m)) :
    Calls Tryd.prog 18 #[.int .i64 n, .int .i64 m] w fun e w' => e = .returned (.bool false) ∧ w = w' := by
  have := within_any n m w
  rwa [show decide (0 ≤ n ∧ n ≤ m) = false from decide_eq_false h] at this

/-- What Size answers. -/
def SizeIs (p d : Int) (w : World) (e : Ending) (w' : World) : Prop :=
  (if (0 ≤ p ∧ p ≤ 63) ∧ (0 ≤ d ∧ d ≤ 16384) then e = .returned (.tuple #[.int .i64 (1 + p + d), .int .i64 0]) else e = .returned (.tuple #[.int .i64 0, .int .i64 5])) ∧ w = w'

set_option maxHeartbeats 1000000 in
theorem size_any (p d : Int) (w : World) :
    Calls Tryd.prog 15 #[.int .i64 p, .int .i64 d] w (SizeIs p d w) := by
  by_cases h0 : 0 ≤ p ∧ p ≤ 63
  · by_cases h1 : 0 ≤ d ∧ d ≤ 16384
    · have HH := Lib.hid (show SizeIs p d w (.returned (.tuple #[.int .i64 (1 + p + d), .int .i64 0])) w from ⟨by rw [if_pos ⟨h0, h1⟩], rfl⟩)
      have H0 := Lib.hid h0
      have H1 := Lib.hid h1
      obtain ⟨a, b⟩ := h0
      obtain ⟨a', b'⟩ := h1
      go_enter Tryd.func15, Tryd.ntmps15
      go_wp2_with fail
      refine (within_yes _ _ _ H0.out).mono ?_
      rintro e w' ⟨rfl, rfl⟩
      go_wp2_with fail
      refine (within_yes _ _ _ H1.out).mono ?_
      rintro e w' ⟨rfl, rfl⟩
      go_wp2_with fail
      go_ret2
      exact HH.out
    · have HH := Lib.hid (show SizeIs p d w (.returned (.tuple #[.int .i64 0, .int .i64 5])) w from ⟨by rw [if_neg (fun h => h1 h.2)], rfl⟩)
      have H0 := Lib.hid h0
      have H1 := Lib.hid h1
      clear h0 h1
      go_enter Tryd.func15, Tryd.ntmps15
      go_wp2_with fail
      refine (within_yes _ _ _ H0.out).mono ?_
      rintro e w' ⟨rfl, rfl⟩
      go_wp2_with fail
      refine (within_no _ _ _ H1.out).mono ?_
      rintro e w' ⟨rfl, rfl⟩
      go_wp2_with fail
      go_ret2
      exact HH.out
  · have HH := Lib.hid (show SizeIs p d w (.returned (.tuple #[.int .i64 0, .int .i64 5])) w from ⟨by rw [if_neg (fun h => h0 h.1)], rfl⟩)
    have H0 := Lib.hid h0
    clear h0
    go_enter Tryd.func15, Tryd.ntmps15
    go_wp2_with fail
    refine (within_no _ _ _ H0.out).mono ?_
    rintro e w' ⟨rfl, rfl⟩
    go_wp2_with fail
    go_ret2
    exact HH.out

end Go.Proofs.YthpbfdfgnhemnaaDoor
