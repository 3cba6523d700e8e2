/- bhead: Run(3); the page's example. -/
import Derived.Test.YtgkgpjdgodhnlaaDoorHeadNum
import Derived.LoopN
import Derived.Test.YtgkgpjdgodhnlaaDoorNats
namespace Go.Proofs.YtgkgpjdgodhnlaaDoor
open Go.ChangeShapes Go.WideShapes Go.ChangeAt Go.RowKit Bh Bt Cr
set_option linter.unusedVariables false

/-- The three headers of a large object of three blocks. -/
def MadeRun3 (w : World) (e : Ending) (w' : World) : Prop := ∃ b, e = .returned (.slice (some ⟨b, 0, none⟩) 3 3) ∧ BoxT 23 w' b #[.int .i64 2, .int .i64 0, .int .i64 3, .int .i64 3, .int .i64 0, .int .i64 1, .int .i64 3, .int .i64 0, .int .i64 2] ∧ Below w.heap.size w w'

set_option maxHeartbeats 1000000 in
theorem run3 (w : World) : Calls Tryd.prog 13 #[.int .i64 3] w (MadeRun3 w) := by
  have hmk : ∀ w, (Instr.makeSlice 38 (.int .i64 3) (.int .i64 3)).run Tryd.prog w = .ok (.slice (some ⟨w.heap.size, 0, none⟩) 3 3) (w.alloc (.cells #[.int .i64 0, .int .i64 0, .int .i64 0, .int .i64 0, .int .i64 0, .int .i64 0, .int .i64 0, .int .i64 0, .int .i64 0] 23)) := fun w => by kernel_rfl
  go_enter Tryd.func13, Tryd.ntmps13
  go_wp2_with fail
  refine wp_loop_rounds 3 ?_
  rw [rounds_succ]
  go_wp2_with fail
  refine (further_any 1 _).mono ?_
  rintro e W ⟨rfl, hb⟩
  obtain ⟨b1, hb, s1⟩ := boxT_of1 hb
  have B1 := Lib.hid b1
  have HB := Lib.hid hb
  have hf : ∀ i, W.frozen? ⟨w.heap.size, i, none⟩ = false := fun i => b1.frozen i
  have c3 : W.cell? ⟨w.heap.size, 3, none⟩ = some (.int .i64 0) := b1.cell 3
  have c4 : W.cell? ⟨w.heap.size, 4, none⟩ = some (.int .i64 0) := b1.cell 4
  have c5 : W.cell? ⟨w.heap.size, 5, none⟩ = some (.int .i64 0) := b1.cell 5
  clear hb b1
  go_wp2_with fail
  rw [rounds_succ]
  go_wp2_with fail
  have b2 := ((B1.out.set 3 (.int .i64 3)).set 4 (.int .i64 0)).set 5 (.int .i64 1)
  have k2 := (((HB.out.setCell (p := ⟨w.heap.size, 3, none⟩) (Nat.le_refl _) (.int .i64 3)).setCell (p := ⟨w.heap.size, 4, none⟩) (Nat.le_refl _) (.int .i64 0)).setCell (p := ⟨w.heap.size, 5, none⟩) (Nat.le_refl _) (.int .i64 1))
  generalize (((W.setCell ⟨w.heap.size, 3, none⟩ (.int .i64 3)).setCell ⟨w.heap.size, 4, none⟩ (.int .i64 0)).setCell ⟨w.heap.size, 5, none⟩ (.int .i64 1)) = V at b2 k2 ⊢
  have B2 := Lib.hid b2
  have K2 := Lib.hid k2
  clear b2 k2 hf B1 HB c3 c4 c5
  refine (further_any 2 _).mono ?_
  rintro e W3 ⟨rfl, hb⟩
  have b3 := B2.out.below hb B2.out.lt
  have B3 := Lib.hid b3
  have K3 := Lib.hid (below_step K2.out hb (Nat.le_refl _))
  have hf : ∀ i, W3.frozen? ⟨w.heap.size, i, none⟩ = false := fun i => b3.frozen i
  have c6 : W3.cell? ⟨w.heap.size, 6, none⟩ = some (.int .i64 0) := b3.cell 6
  have c7 : W3.cell? ⟨w.heap.size, 7, none⟩ = some (.int .i64 0) := b3.cell 7
  have c8 : W3.cell? ⟨w.heap.size, 8, none⟩ = some (.int .i64 0) := b3.cell 8
  clear hb b3
  go_wp2_with fail
  rw [rounds_succ]
  go_wp2_with fail
  have b4 := ((B3.out.set 6 (.int .i64 3)).set 7 (.int .i64 0)).set 8 (.int .i64 2)
  have k4 := (((K3.out.setCell (p := ⟨w.heap.size, 6, none⟩) (Nat.le_refl _) (.int .i64 3)).setCell (p := ⟨w.heap.size, 7, none⟩) (Nat.le_refl _) (.int .i64 0)).setCell (p := ⟨w.heap.size, 8, none⟩) (Nat.le_refl _) (.int .i64 2))
  go_ret
  exact ⟨_, rfl, b4, k4⟩

set_option maxHeartbeats 1000000 in
theorem awake_yes (w : World) : Calls Tryd.prog 5 #[] w fun e w' => e = .returned (.bool true) ∧ Below w.heap.size w w' := by
  have heq1 : ∀ w' : World, (Op.equalIn 10000 23 (.agg #[.int .i64 2, .int .i64 0, .int .i64 3]) (.agg #[.int .i64 2, .int .i64 0, .int .i64 3])).run Tryd.prog w' = .ok true w' := fun w' => by rw [eq3V]; rfl
  have heq2 : ∀ w' : World, (Op.equalIn 10000 23 (.agg #[.int .i64 3, .int .i64 0, .int .i64 2]) (.agg #[.int .i64 3, .int .i64 0, .int .i64 2])).run Tryd.prog w' = .ok true w' := fun w' => by rw [eq3V]; rfl
  go_enter Tryd.func5, Tryd.ntmps5
  go_wp2_with fail
  refine (run3 _).mono ?_
  rintro e W ⟨b, rfl, hb, hk⟩
  have c0 : W.cell? ⟨b, 0, none⟩ = some (.int .i64 2) := hb.cell 0
  have c1 : W.cell? ⟨b, 1, none⟩ = some (.int .i64 0) := hb.cell 1
  have c2 : W.cell? ⟨b, 2, none⟩ = some (.int .i64 3) := hb.cell 2
  have c6 : W.cell? ⟨b, 6, none⟩ = some (.int .i64 3) := hb.cell 6
  have c7 : W.cell? ⟨b, 7, none⟩ = some (.int .i64 0) := hb.cell 7
  have c8 : W.cell? ⟨b, 8, none⟩ = some (.int .i64 2) := hb.cell 8
  have HB := Lib.hid hb
  have HK := Lib.hid hk
  clear hb hk
  go_wp2_with fail
  go_ret
  exact ⟨rfl, HK.out⟩

end Go.Proofs.YtgkgpjdgodhnlaaDoor
