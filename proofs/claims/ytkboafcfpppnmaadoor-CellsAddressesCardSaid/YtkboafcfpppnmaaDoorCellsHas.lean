/- cells: has; class.Words and class.Cells of whatever class. -/
import Derived.Test.YtkboafcfpppnmaaDoorClass
import Derived.Test.YtkboafcfpppnmaaDoorCellMath
import Derived.Test.YtkboafcfpppnmaaDoorBoxes
import Derived.Test.YtkboafcfpppnmaaDoorMade
import Derived.Test.YtkboafcfpppnmaaDoorNats
namespace Go.Proofs.YtkboafcfpppnmaaDoor
open Go.ChangeShapes Go.WideShapes Go.ChangeAt Go.RowKit Cl Ce
set_option linter.unusedVariables false

theorem words_all (k : Int) (w : World) (hT : HasCells w) :
    Calls Tryd.prog 17 #[.int .i64 k] w fun e w' => e = .returned (.int .i64 (wordsC k : Nat)) ∧ w = w' := by
  rcases class_or k with h | ⟨n, rfl, h⟩
  · rw [wordsC_no h]; exact words_no k w h
  · rw [wordsC_yes h]; exact words_yes n w h hT
theorem cells_all (k : Int) (w : World) (hT : HasCells w) :
    Calls Tryd.prog 18 #[.int .i64 k] w fun e w' => e = .returned (.int .i64 (cellsC k : Nat)) ∧ w = w' := by
  rcases class_or k with h | ⟨n, rfl, h⟩
  · rw [cellsC_no h]; exact cells_no k w h
  · rw [cellsC_yes h]; exact cells_yes n w h hT

theorem cells_quiet (k : Int) (w : World) (n : Nat) (hT : HasCells w) :
    Calls Tryd.prog 18 #[.int .i64 k] (w.drewN n) fun e w' => e = .returned (.int .i64 (cellsC k : Nat)) ∧ w' = w.drewN n :=
  (cells_all k (w.drewN n) (hT.drewN n)).mono fun _ _ ⟨a, b⟩ => ⟨a, b.symm⟩

theorem infoCell : (Tryd.prog.info? 24).map (·.size) = some 2 := by kernel_rfl
theorem infoGeo : (Tryd.prog.info? 27).map (·.size) = some 1 := by kernel_rfl

set_option maxHeartbeats 1000000 in
theorem cellHas_any (n k b i : Int) (w : World) (hT : HasCells w) :
    Calls Tryd.prog 24 #[.agg #[.int .i64 n], .int .i64 k, .agg #[.int .i64 b, .int .i64 i]] w (MadeOne (.bool (hasC n k b i)) w) := by
  have HB : Hid (∀ o o', Below w.heap.size w ((w.alloc o).alloc o')) := Lib.hid fun o o' => ((Below.refl _ _).alloc (Nat.le_refl _) o).alloc (by simp) o'
  have HT : Hid (∀ o o', HasCells ((w.alloc o).alloc o')) := Lib.hid fun o o' => hT.below (HB.out o o') (Nat.le_refl _)
  have hle := cellsC_le k
  by_cases h0 : 1 ≤ b
  · by_cases h1 : b < n
    · by_cases h2 : 0 ≤ i
      · by_cases h3 : i < (cellsC k : Nat)
        · have HR := Lib.hid (show hasC n k b i = true from decide_eq_true ⟨h0, h1, h2, h3⟩)
          have CC : Hid (∀ w m, HasCells w → Calls Tryd.prog 18 #[.int .i64 k] (w.drewN m) fun e w' => e = .returned (.int .i64 (cellsC k : Nat)) ∧ w' = w.drewN m) := Lib.hid fun w m h => cells_quiet k w m h
          generalize cellsC k = c at *
          go_enter Tryd.func24, Tryd.ntmps24
          go_wp2_with fail
          go_quiet ((go_at_call 18; exact Calls.quiet_of_same (CC.out _ _ (HT.out _ _))))
          go_wp2_with fail
          go_ret
          exact ⟨ret_bool HR.out.symm, below_drewN (HB.out _ _) _⟩
        · have HR := Lib.hid (show hasC n k b i = false from decide_eq_false (fun h => h3 h.2.2.2))
          have CC : Hid (∀ w m, HasCells w → Calls Tryd.prog 18 #[.int .i64 k] (w.drewN m) fun e w' => e = .returned (.int .i64 (cellsC k : Nat)) ∧ w' = w.drewN m) := Lib.hid fun w m h => cells_quiet k w m h
          generalize cellsC k = c at *
          have hd : decide (i < (c : Int)) = false := by simpa using h3
          go_enter Tryd.func24, Tryd.ntmps24
          go_wp2_with fail
          go_quiet ((go_at_call 18; exact Calls.quiet_of_same (CC.out _ _ (HT.out _ _))))
          go_wp2_with fail
          go_ret
          exact ⟨ret_bool HR.out.symm, below_drewN (HB.out _ _) _⟩
      · have HR := Lib.hid (show hasC n k b i = false from decide_eq_false (fun h => h2 h.2.2.1))
        have hd : decide (0 ≤ i) = false := by simpa using h2
        clear h2 hle
        go_enter Tryd.func24, Tryd.ntmps24
        go_wp2_with fail
        go_quiet (fail)
        go_wp2_with fail
        go_ret
        exact ⟨ret_bool HR.out.symm, below_drewN (HB.out _ _) _⟩
    · have HR := Lib.hid (show hasC n k b i = false from decide_eq_false (fun h => h1 h.2.1))
      have hd : decide (b < n) = false := by simpa using h1
      clear h1 hle
      go_enter Tryd.func24, Tryd.ntmps24
      go_wp2_with fail
      go_quiet (fail)
      go_wp2_with fail
      go_ret
      exact ⟨ret_bool HR.out.symm, below_drewN (HB.out _ _) _⟩
  · have HR := Lib.hid (show hasC n k b i = false from decide_eq_false (fun h => h0 h.1))
    have hd : decide (1 ≤ b) = false := by simpa using h0
    clear h0 hle
    go_enter Tryd.func24, Tryd.ntmps24
    go_wp2_with fail
    go_quiet (fail)
    go_wp2_with fail
    go_ret
    exact ⟨ret_bool HR.out.symm, below_drewN (HB.out _ _) _⟩

end Go.Proofs.YtkboafcfpppnmaaDoor
