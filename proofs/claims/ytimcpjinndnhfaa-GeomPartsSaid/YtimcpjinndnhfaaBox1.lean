/- A struct of one cell in a box of the call's own, behind calls that make memory. -/
import Derived.Test.YtimcpjinndnhfaaPre
namespace Go.Proofs.Ytimcpjinndnhfaa
open Go.ChangeShapes Go.WideShapes Go.ChangeAt Go.RowKit
set_option linter.unusedVariables false

/-- In the world w1 the box at block b holds v; nothing below B has turned since w. -/
structure Box1 (B : Nat) (w : World) (b : Nat) (v : Value) (w1 : World) : Prop where
  below : Below B w w1
  cell : w1.cell? ⟨b, 0, none⟩ = some v
  lt : b < w1.heap.size
  ge : B ≤ w1.heap.size

theorem cell_new1 (w : World) (v : Value) (t : TypeId) : (w.alloc (.cells #[v] t)).cell? ⟨w.heap.size, 0, none⟩ = some v := by
  simp [go_sem]

theorem Box1.new {w0 w w1 : World} {B : Nat} {v : Value} {t : TypeId} (h : Below B w0 w) (hB : B ≤ w.heap.size) (b : Below (w.alloc (.cells #[v] t)).heap.size (w.alloc (.cells #[v] t)) w1) : Box1 B w0 w.heap.size v w1 := by
  have e1 : (w.alloc (.cells #[v] t)).heap.size = w.heap.size + 1 := by simp
  have hs := b.size
  exact ⟨(h.alloc hB _).trans (b.mono (by omega)), (b.cell (p := ⟨w.heap.size, 0, none⟩) (by rw [e1]; exact Nat.lt_succ_self _)).trans (cell_new1 _ _ _), by omega, by omega⟩

theorem Box1.on {w0 w1 w2 : World} {B b : Nat} {v : Value} (h : Box1 B w0 b v w1) (b2 : Below w1.heap.size w1 w2) : Box1 B w0 b v w2 :=
  ⟨h.below.trans (b2.mono h.ge), (b2.cell (p := ⟨b, 0, none⟩) h.lt).trans h.cell, Nat.lt_of_lt_of_le h.lt b2.size, Nat.le_trans h.ge b2.size⟩

theorem Box1.drewN {w0 w1 : World} {B b : Nat} {v : Value} (h : Box1 B w0 b v w1) (n : Nat) : Box1 B w0 b v (w1.drewN n) :=
  ⟨below_drewN h.below n, by simpa using h.cell, by simpa using h.lt, by simpa using h.ge⟩

end Go.Proofs.Ytimcpjinndnhfaa
