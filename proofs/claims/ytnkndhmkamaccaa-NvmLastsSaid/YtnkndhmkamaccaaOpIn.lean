/- One operation that came in by value: opened. -/
import Derived.Test.YtnkndhmkamaccaaOpsIn
namespace Go.Proofs.Ytnkndhmkamaccaa
open Go.ChangeShapes Go.WideShapes Go.ChangeAt Go.RowKit Nv
set_option linter.unusedVariables false

theorem op_of_val {H : Type} {enc : TypeId × Value → H} {w : World} {base : Nat} {v : Value} {d : DataW H} {p : List MemPlace} {r : Reach} {b0 : Nat} (hv : Value.okWide Try.prog w r b0 36 v) (h : DataW.Trod enc Try.prog w base (fun _ => true) true 36 v d p) :
    ∃ o : OpV, v = o.val ∧ o.Fine w := by
  obtain ⟨cs, rfl, hsz⟩ := okWide_struct Try.underlying36 hv
  obtain ⟨fuel, hf⟩ := h
  have c5 : Try.prog.cellsOf 36 = 5 := by kernel_rfl
  rw [c5] at hsz
  obtain ⟨o, e, ho⟩ := op_of_trod (cs := cs.toList) hf (by simpa using hsz)
  refine ⟨o, ?_, ho⟩
  unfold OpV.val
  congr 1
  rw [← e]

end Go.Proofs.Ytnkndhmkamaccaa
