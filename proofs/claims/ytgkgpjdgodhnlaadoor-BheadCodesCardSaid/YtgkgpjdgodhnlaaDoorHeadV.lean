/- Headers by value: boxes of three whole numbers, held against each other. -/
import Derived.Test.YtgkgpjdgodhnlaaDoorBoxes
import Derived.Laws.StructEq
namespace Go.Proofs.YtgkgpjdgodhnlaaDoor
open Go.ChangeShapes Go.WideShapes Go.ChangeAt Go.RowKit
set_option linter.unusedVariables false

theorem info3 : (Tryd.prog.info? 23).map (·.size) = some 3 := by kernel_rfl
theorem one3 (a b c : Int) : (#[Value.int .i64 a, Value.int .i64 b, Value.int .i64 c]).all (·.oneCell') = true := by simp [Value.oneCell']
set_option maxHeartbeats 1000000 in
/-- Two headers are held against each other. -/
theorem eq3V (a b c d e f : Int) (w : World) : (Op.equalIn 10000 23 (.agg #[.int .i64 a, .int .i64 b, .int .i64 c]) (.agg #[.int .i64 d, .int .i64 e, .int .i64 f])).run Tryd.prog w = .ok (a == d && b == e && c == f) w := by
  rw [show (10000 : Nat) = 9999 + 1 from rfl, run_equalIn_agg w 9999 23 _ _ (by kernel_rfl) (by kernel_rfl)]
  by_cases h0 : a = d
  · by_cases h1 : b = e
    · by_cases h2 : c = f
      · simp [h0, h1, h2]; go_simp; done
      · simp [h0, h1]; go_simp
    · simp [h0]; go_simp
  · go_simp
theorem infoR3 : (Tryd.prog.info? 29).map (·.size) = some 3 := by kernel_rfl
set_option maxHeartbeats 1000000 in
theorem eqR3V (a b c d e f : Int) (w : World) : (Op.equalIn 10000 29 (.agg #[.int .i64 a, .int .i64 b, .int .i64 c]) (.agg #[.int .i64 d, .int .i64 e, .int .i64 f])).run Tryd.prog w = .ok (a == d && b == e && c == f) w := by
  rw [show (10000 : Nat) = 9999 + 1 from rfl, run_equalIn_agg w 9999 29 _ _ (by kernel_rfl) (by kernel_rfl)]
  by_cases h0 : a = d
  · by_cases h1 : b = e
    · by_cases h2 : c = f
      · simp [h0, h1, h2]; go_simp; done
      · simp [h0, h1]; go_simp
    · simp [h0]; go_simp
  · go_simp

/-- A box of three that was made empty, and filled. -/
theorem box3_fill (w : World) (o : Obj) (t : TypeId) (x y z a b c : Value) (m : Nat) :
    BoxT t ((((((w.alloc o).alloc (.cells #[x, y, z] t)).drewN m).setCell ⟨w.heap.size + 1, 0, none⟩ a).setCell ⟨w.heap.size + 1, 1, none⟩ b).setCell ⟨w.heap.size + 1, 2, none⟩ c) (w.heap.size + 1) #[a, b, c] := by
  have h := (BoxT.new t (w.alloc o) #[x, y, z]).drewN m
  rw [show (w.alloc o).heap.size = w.heap.size + 1 by simp] at h
  exact ((h.set 0 a).set 1 b).set 2 c
theorem below3_fill (w : World) (o o' : Obj) (a b c : Value) (m : Nat) :
    Below w.heap.size w ((((((w.alloc o).alloc o').drewN m).setCell ⟨w.heap.size + 1, 0, none⟩ a).setCell ⟨w.heap.size + 1, 1, none⟩ b).setCell ⟨w.heap.size + 1, 2, none⟩ c) :=
  (((below_drewN (((Below.refl _ _).alloc (Nat.le_refl _) o).alloc (by simp) o') m).setCell (by simp) _).setCell (by simp) _).setCell (by simp) _

end Go.Proofs.YtgkgpjdgodhnlaaDoor
