/- append of a slice of integers, wherever it came from (nil or not), to a row of the call's own. -/
import Derived.Test.YtkejpdkokaiidaaSl
import Derived.Maps.AppendAt
import Derived.Laws.AppendOwnNone
namespace Go.Proofs.Ytkejpdkokaiidaa
open Go.ChangeShapes Go.WideShapes Go.ChangeAt Go.RowKit
set_option linter.unusedVariables false

theorem run_onto {P : Program} {w : World} {k : IntKind} {base bytes n : Nat} {t ty e : TypeId} {i : TypeInfo} (ht : P.underlying t = some (.slice e)) (hi : P.info? e = some i) (hz : i.zero = some (.int k 0)) (h1 : i.size = 1) (hby : i.bytes = bytes)
    {v vs : Value} {xs : List Value} {ys : List Int} (hown : w.ownsRow base e 1 v n xs) (hs : IsInts k w vs ys) (h63 : n + ys.length ≤ maxLen) (hb : (n + ys.length) * bytes ≤ 140737488355328) (hbase : base ≤ w.heap.size) :
    ∃ v' w', (Builtin.append_ #[t, t] ty #[v, vs]).run P w = .ok v' w' ∧ w'.ownsRow base e 1 v' (n + ys.length) (xs ++ ys.map (Value.int k)) ∧ w.grownBy w' v.ownBlock := by
  obtain ⟨a, cap, rfl, hc, h⟩ := hs
  cases a with
  | none =>
    obtain rfl : ys = [] := h.resolve_right (by rintro ⟨_, _, h, _⟩; cases h)
    refine ⟨v, w, ?_, by simpa using hown, ⟨rfl, rfl, rfl, Nat.le_refl _, fun _ _ _ => rfl⟩⟩
    rcases hown.2 with ⟨rfl, rfl⟩ | ⟨g, c, cur, rfl, _, _, hnc, _⟩
    · simp [Builtin.append_, run_underlying ht, sizeOf, typeInfo, hi, Builtin.lenOf, Builtin.firstCells]
    · simp [Builtin.append_, run_underlying ht, sizeOf, typeInfo, hi, Builtin.lenOf, Builtin.firstCells, hnc, storeCells]
  | some x =>
    have hnews : ∀ j u, (ys.map (Value.int k))[j]? = some u → w.cell? (x.add j) = some u := by
      intro j u hu
      rcases h with rfl | ⟨b, off, hx, _, hcell⟩
      · simp at hu
      · cases hx
        have hj : j < ys.length := by
          have := (List.getElem?_eq_some_iff.1 hu).1
          simpa using this
        rw [addr_add, hcell j hj]
        rw [List.getElem?_map, List.getElem?_eq_getElem hj] at hu
        simpa [List.getD, hj] using hu
    obtain ⟨v', w', hr, ho, hg, _⟩ := run_append_own_at (P := P) w base t ty e i _ 1 bytes ht hi hz h1 hby rfl (by decide) v n xs hown x ys.length cap _ (by simp) hnews (by intro u hu; obtain ⟨z, _, rfl⟩ := List.mem_map.1 hu; rfl) h63 hb hbase
    exact ⟨v', w', hr, ho, hg⟩

theorem wpList_onto {P : Program} {w : World} {ops : Array Oper} {rest : List Oper} {o : Oper} {act : Act} {Q : Exit → Act → World → Prop} (hgd : o.guard = none) {k : IntKind} (base bytes n : Nat) (s x : Operand) (t e : TypeId) {i : TypeInfo}
    (ho : o.op = .call { callee := .builtin .append, args := #[s, x], argTypes := #[t, t] }) (ht : P.underlying t = some (.slice e)) (hi : P.info? e = some i) (hz : i.zero = some (.int k 0)) (h1 : i.size = 1) (hby : i.bytes = bytes)
    (v vs : Value) (xs : List Value) (ys : List Int) (hv : act.eval s = v) (hvs : act.eval x = vs) (hown : w.ownsRow base e 1 v n xs) (hs : IsInts k w vs ys) (h63 : n + ys.length ≤ maxLen) (hb : (n + ys.length) * bytes ≤ 140737488355328) (hbase : base ≤ w.heap.size)
    (h : ∀ v' w', w'.ownsRow base e 1 v' (n + ys.length) (xs ++ ys.map (Value.int k)) → w.grownBy w' v.ownBlock → wpList P ops Q rest (act.put o.dst v') w') : wpList P ops Q (o :: rest) act w := by
  refine wpList_plain hgd fun K hK => ?_
  obtain ⟨v', w', hr, h2, h3⟩ := run_onto (ty := o.type) ht hi hz h1 hby hown hs h63 hb hbase
  unfold Oper.wp
  simp [execOp, ho, resolve, invoke, builtin, hv, hvs, hr, Result.andThen]
  exact hK _ _ (h v' w' h2 h3)

end Go.Proofs.Ytkejpdkokaiidaa
