/- class: Words, Most, Cells, Waste. -/
import Derived.Test.YtkboafcfpppnmaaDoorClassRight
import Derived.Lib.LaidTab
namespace Go.Proofs.YtkboafcfpppnmaaDoor
open Go.ChangeShapes Go.WideShapes Go.ChangeAt Go.RowKit Cl
set_option linter.unusedVariables false

/-- The table lies in the world. -/
def HasCells (w : World) : Prop := ∀ i, i < 32 → w.cell? ⟨0, i, none⟩ = some (.int .i64 (wd i : Int))
theorem HasCells.drewN {w : World} (h : HasCells w) (n : Nat) : HasCells (w.drewN n) := h
theorem HasCells.lt {w : World} (h : HasCells w) : 0 < w.heap.size := World.block_lt_of_cell? _ _ (h 0 (by decide))
theorem HasCells.below {w w' : World} {B : Nat} (h : HasCells w) (hb : Below B w w') (hB : w.heap.size ≤ B) : HasCells w' := fun i hi =>
  (hb.cell (p := ⟨0, i, none⟩) (Nat.lt_of_lt_of_le h.lt hB)).trans (h i hi)

set_option maxHeartbeats 400000 in
theorem words_yes (k : Nat) (w : World) (hk : k < 32) (hT : HasCells w) :
    Calls Tryd.prog 17 #[.int .i64 k] w fun e w' => e = .returned (.int .i64 (wd k : Nat)) ∧ w = w' := by
  have hc := hT k hk
  have hk' : (k : Int) < 32 := by omega
  clear hT
  go_enter Tryd.func17, Tryd.ntmps17
  go_wp2_with fail
  refine (right_yes k _ hk).mono ?_
  rintro e w' ⟨rfl, rfl⟩
  go_wp2_with fail
  go_ret
  exact ⟨rfl, rfl⟩
set_option maxHeartbeats 400000 in
theorem words_no (k : Int) (w : World) (hk : k < 0 ∨ 32 ≤ k) :
    Calls Tryd.prog 17 #[.int .i64 k] w fun e w' => e = .returned (.int .i64 0) ∧ w = w' := by
  have HK := Lib.hid hk
  clear hk
  go_enter Tryd.func17, Tryd.ntmps17
  go_wp2_with fail
  refine (right_no k _ HK.out).mono ?_
  rintro e w' ⟨rfl, rfl⟩
  go_wp2_with fail
  go_ret
  exact ⟨rfl, rfl⟩

set_option maxHeartbeats 400000 in
theorem cells_yes (k : Nat) (w : World) (hk : k < 32) (hT : HasCells w) :
    Calls Tryd.prog 18 #[.int .i64 k] w fun e w' => e = .returned (.int .i64 (512 / wd k : Nat)) ∧ w = w' := by
  have hc := hT k hk
  have hk' : (k : Int) < 32 := by omega
  obtain ⟨h1, h2⟩ := wd_in k hk
  have h3 := div_bounds h1
  clear hT
  generalize wd k = t at hc h1 h2 h3 ⊢
  have h1' : (2 : Int) ≤ (t : Int) := by omega
  go_enter Tryd.func18, Tryd.ntmps18
  go_wp2_with fail
  refine (right_yes k _ hk).mono ?_
  rintro e w' ⟨rfl, rfl⟩
  go_wp2_with fail
  go_ret
  exact ⟨ret_int (by first | rfl | omega), rfl⟩
set_option maxHeartbeats 400000 in
theorem cells_no (k : Int) (w : World) (hk : k < 0 ∨ 32 ≤ k) :
    Calls Tryd.prog 18 #[.int .i64 k] w fun e w' => e = .returned (.int .i64 0) ∧ w = w' := by
  have HK := Lib.hid hk
  clear hk
  go_enter Tryd.func18, Tryd.ntmps18
  go_wp2_with fail
  refine (right_no k _ HK.out).mono ?_
  rintro e w' ⟨rfl, rfl⟩
  go_wp2_with fail
  go_ret
  exact ⟨rfl, rfl⟩

end Go.Proofs.YtkboafcfpppnmaaDoor
