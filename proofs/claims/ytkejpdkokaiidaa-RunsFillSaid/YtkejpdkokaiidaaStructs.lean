/- A struct of whole numbers that came in, by value. -/
import Derived.Test.YtkejpdkokaiidaaPre
import Derived.Deep.Fields
namespace Go.Proofs.Ytkejpdkokaiidaa
open Go.ChangeShapes Go.WideShapes Go.ChangeAt Go.RowKit Go.Deep
set_option linter.unusedVariables false

/-- Values of these kinds, a number each. -/
def vals (ks : List IntKind) (zs : List Int) : List Value := (ks.zip zs).map fun p => .int p.1 p.2

theorem list0 {zs : List Int} (h : zs.length = 0) : zs = [] := List.length_eq_zero_iff.1 h
theorem list4 {zs : List Int} (h : zs.length = 4) : ∃ a b c d, zs = [a, b, c, d] := by
  match zs, h with
  | [a, b, c, d], _ => exact ⟨a, b, c, d, rfl⟩
theorem list5 {zs : List Int} (h : zs.length = 5) : ∃ a b c d e, zs = [a, b, c, d, e] := by
  match zs, h with
  | [a, b, c, d, e], _ => exact ⟨a, b, c, d, e, rfl⟩
theorem list6 {zs : List Int} (h : zs.length = 6) : ∃ a b c d e f, zs = [a, b, c, d, e, f] := by
  match zs, h with
  | [a, b, c, d, e, f], _ => exact ⟨a, b, c, d, e, f, rfl⟩

section
variable {H : Type} {enc : TypeId × Value → H} {P : Program} {w : World} {base : Nat} {held : Bool}
theorem vals_of : ∀ (ks : List IntKind) (cs : List Value), cs.length = ks.length → (∀ (i : Nat) (k : IntKind), ks[i]? = some k → ∃ z, cs[i]? = some (.int k z) ∧ (Lit.int k z).wf = true) →
    ∃ zs : List Int, zs.length = ks.length ∧ cs = vals ks zs ∧ ∀ p ∈ ks.zip zs, (Lit.int p.1 p.2).wf = true
  | [], cs, hl, _ => ⟨[], rfl, by simpa [vals] using hl, by simp⟩
  | k :: ks, [], hl, _ => by simp at hl
  | k :: ks, c :: cs, hl, h => by
    obtain ⟨z, hz, wz⟩ := h 0 k rfl
    obtain ⟨zs, h1, h2, h3⟩ := vals_of ks cs (by simpa using hl) fun i k hk => by
      obtain ⟨z, hz, wz⟩ := h (i + 1) k (by simpa using hk)
      exact ⟨z, by simpa using hz, wz⟩
    simp at hz
    exact ⟨z :: zs, by simp [h1], by simp [vals, hz, h2], by
      intro p hp
      rw [List.zip_cons_cons, List.mem_cons] at hp
      rcases hp with rfl | hp
      · exact wz
      · exact h3 p hp⟩

theorem struct_ints {r : Reach} {b0 : Nat} {t : TypeId} {fs : Array Field} {v : Value} {d : DataW H} {p : List MemPlace} {spare : Nat → Bool} (hs : P.underlying t = some (.struct fs)) (hone : oneCellFields P fs = true) (ks : List IntKind) (hC : P.cellsOf t = ks.length) (hn : fs.size = ks.length)
    (hk : fs.toList.map (fun f => P.underlying f.type) = ks.map fun k => some (.int k))
    (hv : Value.okWide P w r b0 t v) (h : DataW.Trod enc P w base spare held t v d p) :
    ∃ zs : List Int, zs.length = ks.length ∧ v = .agg (vals ks zs).toArray ∧ ∀ p ∈ ks.zip zs, (Lit.int p.1 p.2).wf = true := by
  obtain ⟨cs, rfl, hsz⟩ := okWide_struct hs hv
  obtain ⟨fuel, hf⟩ := h
  obtain ⟨xs, n, _, hx, _, hlen, hg⟩ := DataW.trod_struct hs hf
  have hl : cs.toList.length = ks.length := by simpa [hC] using hsz
  obtain ⟨zs, h1, h2, h3⟩ := vals_of ks cs.toList hl fun i k hki => by
    have hi : i < ks.length := (List.getElem?_eq_some_iff.1 hki).1
    have hfi : fs[i]? = some (fs[i]'(by omega)) := Array.getElem?_eq_getElem (by omega)
    obtain ⟨o, k1⟩ := hone_of hone i _ hfi
    have hu : P.underlying (fs[i]'(by omega)).type = some (.int k) := by
      have := congrArg (fun l => l[i]?) hk
      simp only [List.getElem?_map, hki, Option.map_some] at this
      rw [Array.getElem?_toList, hfi] at this
      simpa using this
    have hg' := hg i _ hfi
    rw [o, k1, List.getElem?_eq_getElem (show i < xs.length by omega)] at hg'
    obtain ⟨z, hz, _, wz⟩ := DataW.trod_int hu hg'
    refine ⟨z, ?_, wz⟩
    have h2 : ((cs.toList.drop i).take 1)[0]? = some (.int k z) := by
      simp only [Value.cells] at hz
      rw [hz]; rfl
    simpa using h2
  refine ⟨zs, h1, ?_, h3⟩
  rw [← h2]
end

end Go.Proofs.Ytkejpdkokaiidaa
