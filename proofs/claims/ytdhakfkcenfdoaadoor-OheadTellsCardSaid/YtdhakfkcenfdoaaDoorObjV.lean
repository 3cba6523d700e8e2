/- Objects' headers by value: boxes of two whole numbers, held against each other. -/
import Derived.Test.YtdhakfkcenfdoaaDoorBoxes
import Derived.Laws.StructEq
namespace Go.Proofs.YtdhakfkcenfdoaaDoor
open Go.ChangeShapes Go.WideShapes Go.ChangeAt Go.RowKit
set_option linter.unusedVariables false

theorem infoO : (Tryd.prog.info? 23).map (·.size) = some 2 := by kernel_rfl
theorem infoRO : (Tryd.prog.info? 29).map (·.size) = some 2 := by kernel_rfl
theorem oneO (a b : Int) : (#[Value.int .i64 a, Value.int .i64 b]).all (·.oneCell') = true := by simp [Value.oneCell']
set_option maxHeartbeats 1000000 in
theorem eqO (a b d e : Int) (w : World) : (Op.equalIn 10000 23 (.agg #[.int .i64 a, .int .i64 b]) (.agg #[.int .i64 d, .int .i64 e])).run Tryd.prog w = .ok (a == d && b == e) w := by
  rw [show (10000 : Nat) = 9999 + 1 from rfl, run_equalIn_agg w 9999 23 _ _ (by kernel_rfl) (by kernel_rfl)]
  by_cases h0 : a = d
  · by_cases h1 : b = e
    · simp [h0, h1]; go_simp; done
    · simp [h0]; go_simp
  · go_simp
set_option maxHeartbeats 1000000 in
theorem eqRO (a b d e : Int) (w : World) : (Op.equalIn 10000 29 (.agg #[.int .i64 a, .int .i64 b]) (.agg #[.int .i64 d, .int .i64 e])).run Tryd.prog w = .ok (a == d && b == e) w := by
  rw [show (10000 : Nat) = 9999 + 1 from rfl, run_equalIn_agg w 9999 29 _ _ (by kernel_rfl) (by kernel_rfl)]
  by_cases h0 : a = d
  · by_cases h1 : b = e
    · simp [h0, h1]; go_simp; done
    · simp [h0]; go_simp
  · go_simp

/-- A box of two that was made empty, and filled. -/
theorem box2_fill (w : World) (o : Obj) (t : TypeId) (x y a b : Value) (m : Nat) :
    BoxT t (((((w.alloc o).alloc (.cells #[x, y] t)).drewN m).setCell ⟨w.heap.size + 1, 0, none⟩ a).setCell ⟨w.heap.size + 1, 1, none⟩ b) (w.heap.size + 1) #[a, b] := by
  have h := (BoxT.new t (w.alloc o) #[x, y]).drewN m
  rw [show (w.alloc o).heap.size = w.heap.size + 1 by simp] at h
  exact (h.set 0 a).set 1 b
theorem below2_fill (w : World) (o o' : Obj) (a b : Value) (m : Nat) :
    Below w.heap.size w (((((w.alloc o).alloc o').drewN m).setCell ⟨w.heap.size + 1, 0, none⟩ a).setCell ⟨w.heap.size + 1, 1, none⟩ b) :=
  ((below_drewN (((Below.refl _ _).alloc (Nat.le_refl _) o).alloc (by simp) o') m).setCell (by simp) _).setCell (by simp) _

end Go.Proofs.YtdhakfkcenfdoaaDoor
