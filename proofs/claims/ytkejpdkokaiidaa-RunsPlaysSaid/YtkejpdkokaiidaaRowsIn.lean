/- A slice of structs of whole numbers that came in: opened as rows of numbers. -/
import Derived.Test.YtkejpdkokaiidaaStructs
import Derived.Test.YtkejpdkokaiidaaSps
import Derived.Deep.Slices
namespace Go.Proofs.Ytkejpdkokaiidaa
open Go.ChangeShapes Go.WideShapes Go.ChangeAt Go.RowKit Go.Deep Bk
set_option linter.unusedVariables false

/-- A slice of rows, each of numbers of these kinds. -/
def RowsIn (ks : List IntKind) (w : World) (a : Option Addr) (len cap : Nat) (rows : List (List Int)) : Prop :=
  rows.length = len ∧ len ≤ cap ∧ (∀ r ∈ rows, r.length = ks.length ∧ ∀ p ∈ ks.zip r, (Lit.int p.1 p.2).wf = true) ∧
    (len = 0 ∨ ∃ b off, a = some ⟨b, off, none⟩ ∧ b < w.heap.size ∧ ∀ i, i < len → ∀ j u, (vals ks (rows.getD i []))[j]? = some u → w.cell? ⟨b, off + i * ks.length + j, none⟩ = some u)

section
variable {H : Type} {enc : TypeId × Value → H} {P : Program} {w : World} {base : Nat}
theorem struct_cells {t : TypeId} {fs : Array Field} {fuel : Nat} {cs : List Value} {x : DataW H × List MemPlace} {held : Bool} {spare : Nat → Bool} (hs : P.underlying t = some (.struct fs)) (hone : oneCellFields P fs = true) (ks : List IntKind) (hn : fs.size = ks.length)
    (hk : fs.toList.map (fun f => P.underlying f.type) = ks.map fun k => some (.int k)) (hf : DataW.trod enc P w base spare held fuel t cs = some x) (hl : cs.length = ks.length) :
    ∃ zs : List Int, zs.length = ks.length ∧ cs = vals ks zs ∧ ∀ p ∈ ks.zip zs, (Lit.int p.1 p.2).wf = true := by
  obtain ⟨xs, n, _, hx, _, hlen, hg⟩ := DataW.trod_struct hs hf
  exact vals_of ks cs hl fun i k hki => by
    have hi : i < ks.length := (List.getElem?_eq_some_iff.1 hki).1
    have hfi : fs[i]? = some (fs[i]'(by omega)) := Array.getElem?_eq_getElem (by omega)
    obtain ⟨o, k1⟩ := hone_of hone i _ hfi
    have hu : P.underlying (fs[i]'(by omega)).type = some (.int k) := by
      have := congrArg (fun l => l[i]?) hk
      simp only [List.getElem?_map, hki, Option.map_some] at this
      rw [Array.getElem?_toList, hfi] at this
      simpa using this
    have hg' := hg i _ hfi
    rw [o, k1, List.getElem?_eq_getElem (show i < xs.length by omega)] at hg'
    obtain ⟨z, hz, _, wz⟩ := DataW.trod_int hu hg'
    refine ⟨z, ?_, wz⟩
    have h2 : ((cs.drop i).take 1)[0]? = some (.int k z) := by
      rw [hz]; rfl
    simpa using h2

theorem rows_pick {Q : Nat → List Int → Prop} : ∀ len, (∀ i, i < len → ∃ o, Q i o) → ∃ rows : List (List Int), rows.length = len ∧ ∀ i, i < len → Q i (rows.getD i [])
  | 0, _ => ⟨[], rfl, fun i hi => absurd hi (by simp)⟩
  | n + 1, h => by
    obtain ⟨os, h1, h2⟩ := rows_pick n fun i hi => h i (by omega)
    obtain ⟨o, ho⟩ := h n (by omega)
    refine ⟨os ++ [o], by simp [h1], fun i hi => ?_⟩
    rw [List.getD_eq_getElem?_getD]
    by_cases e : i < os.length
    · rw [List.getElem?_append_left e]
      have := h2 i (by omega)
      rwa [List.getD_eq_getElem?_getD] at this
    · have : i = n := by omega
      subst this
      rw [List.getElem?_append_right (by omega)]
      simpa [h1] using ho

theorem rows_of {tS tE : TypeId} {fs : Array Field} {v : Value} {d : DataW H} {p : List MemPlace} (hS : P.underlying tS = some (.slice tE)) (hE : P.underlying tE = some (.struct fs)) (hone : oneCellFields P fs = true) (ks : List IntKind) (hpos : 0 < ks.length) (hC : P.cellsOf tE = ks.length) (hn : fs.size = ks.length)
    (hk : fs.toList.map (fun f => P.underlying f.type) = ks.map fun k => some (.int k)) (h : DataW.Trod enc P w base (fun _ => true) true tS v d p) :
    ∃ a len cap rows, v.cells = #[.slice a len cap] ∧ RowsIn ks w a len cap rows := by
  obtain ⟨fuel, h⟩ := h
  rcases open_slice hS h with ⟨hcs, _⟩ | ⟨x, l, c, m, n, D, Pl, hcs, _, hl, hm, hmm, hx, hi⟩
  · refine ⟨none, 0, 0, [], ?_, rfl, Nat.le_refl _, by simp, .inl rfl⟩
    exact Array.toList_inj.1 hcs
  · simp at hmm
    have hcs' : v.cells = #[.slice (some x) l m] := by
      apply Array.toList_inj.1
      rw [hmm]
      simpa using hcs
    refine ⟨some x, l, m, ?_⟩
    rw [hC] at hi
    by_cases h0 : l = 0
    · subst h0
      exact ⟨[], hcs', rfl, by omega, by simp, .inl rfl⟩
    · obtain ⟨b, off, spot⟩ := x
      have hat : ∀ i, i < l → ∃ zs : List Int, (zs.length = ks.length ∧ ∀ p ∈ ks.zip zs, (Lit.int p.1 p.2).wf = true) ∧ ∀ j u, (vals ks zs)[j]? = some u → w.cell? (((⟨b, off, spot⟩ : Addr).add (i * ks.length)).add j) = some u := fun i hil => by
        obtain ⟨cs', hc, ht'⟩ := hi i (by omega)
        obtain ⟨_, hcl, hca⟩ := World.cells?_some hc
        obtain ⟨zs, e1, rfl, e3⟩ := struct_cells hE hone ks hn hk ht' hcl
        refine ⟨zs, ⟨e1, e3⟩, fun j u hj => ?_⟩
        have hjl : j < (vals ks zs).length := (List.getElem?_eq_some_iff.1 hj).1
        rw [hca j (by rw [← hcl]; exact hjl), hj]
      have vl : ∀ zs : List Int, zs.length = ks.length → (vals ks zs).length = ks.length := fun zs e => by unfold vals; simp [e]
      obtain ⟨z0, ⟨hz0, _⟩, hc0⟩ := hat 0 (by omega)
      have hc00 := hc0 0 _ (List.getElem?_eq_getElem (by rw [vl z0 hz0]; exact hpos))
      have hspot : spot = none := by
        have := World.cell?_spot hc00
        simpa [Addr.add] using this
      subst hspot
      have hb : b < w.heap.size := by have := World.block_lt_of_cell? _ _ hc00; rw [addr_add, addr_add] at this; exact this
      obtain ⟨rows, hlen, hos⟩ := rows_pick l hat
      refine ⟨rows, hcs', hlen, by omega, fun r hr => ?_, .inr ⟨b, off, rfl, hb, fun i hil j u hj => ?_⟩⟩
      · obtain ⟨i, hil, e⟩ := List.getElem_of_mem hr
        have := (hos i (by omega)).1
        rwa [List.getD_eq_getElem?_getD, List.getElem?_eq_getElem hil, Option.getD_some, e] at this
      · have := (hos i hil).2 j u hj
        rwa [addr_add, addr_add] at this
end

theorem RowsIn.hs {w : World} {a : Option Addr} {len cap : Nat} {rows : List (List Int)} (h : RowsIn [.i64, .i64, .i64] w a len cap rows) :
    ∃ hs : List H3, hs.length = len ∧ IsHs w (.slice a len cap) hs ∧ ∀ i, i < len → (-9223372036854775808 ≤ (hs.getD i (0, 0, 0)).1 ∧ (hs.getD i (0, 0, 0)).1 ≤ 9223372036854775807) ∧ (-9223372036854775808 ≤ (hs.getD i (0, 0, 0)).2.1 ∧ (hs.getD i (0, 0, 0)).2.1 ≤ 9223372036854775807) ∧ (-9223372036854775808 ≤ (hs.getD i (0, 0, 0)).2.2 ∧ (hs.getD i (0, 0, 0)).2.2 ≤ 9223372036854775807) := by
  obtain ⟨hl, hc, hr, hx⟩ := h
  subst hl
  have get : ∀ i, i < rows.length → ∃ x y z, rows.getD i [] = [x, y, z] ∧ (rows.map fun r => (r.getD 0 0, r.getD 1 0, r.getD 2 0)).getD i (0, 0, 0) = (x, y, z) ∧ (Lit.int .i64 x).wf = true ∧ (Lit.int .i64 y).wf = true ∧ (Lit.int .i64 z).wf = true := fun i hi => by
    obtain ⟨e, hw⟩ := hr _ (List.getElem_mem hi)
    rw [List.getD_eq_getElem?_getD, List.getD_eq_getElem?_getD, List.getElem?_map, List.getElem?_eq_getElem hi]
    simp only [Option.map_some, Option.getD_some]
    generalize rows[i] = r at e hw
    match r, e with
    | [x, y, z], _ => exact ⟨x, y, z, rfl, rfl, hw (.i64, x) (by simp), hw (.i64, y) (by simp), hw (.i64, z) (by simp)⟩
  refine ⟨rows.map fun r => (r.getD 0 0, r.getD 1 0, r.getD 2 0), by simp, ⟨a, cap, by simp, by simpa using hc, ?_⟩, fun i hi => ?_⟩
  · rcases hx with h0 | ⟨b, off, rfl, hb, hcell⟩
    · left; rw [List.length_eq_zero_iff.1 h0]; rfl
    · refine .inr ⟨b, off, rfl, hb, fun i hi => ?_⟩
      rw [List.length_map] at hi
      obtain ⟨x, y, z, e1, e2, -⟩ := get i hi
      have := hcell i hi
      rw [e1] at this
      rw [e2]
      exact ⟨this 0 _ rfl, this 1 _ rfl, this 2 _ rfl⟩
  · obtain ⟨x, y, z, e1, e2, wx, wy, wz⟩ := get i hi
    rw [e2]
    exact ⟨bounds_i64 wx, bounds_i64 wy, bounds_i64 wz⟩
theorem RowsIn.sps {w : World} {a : Option Addr} {len cap : Nat} {rows : List (List Int)} (h : RowsIn [.i64, .i64] w a len cap rows) :
    ∃ l : List (Int × Int), l.length = len ∧ IsSps w (.slice a len cap) l ∧ ∀ i, i < len → (-9223372036854775808 ≤ (l.getD i (0, 0)).1 ∧ (l.getD i (0, 0)).1 ≤ 9223372036854775807) ∧ (-9223372036854775808 ≤ (l.getD i (0, 0)).2 ∧ (l.getD i (0, 0)).2 ≤ 9223372036854775807) := by
  obtain ⟨hl, hc, hr, hx⟩ := h
  subst hl
  have get : ∀ i, i < rows.length → ∃ x y, rows.getD i [] = [x, y] ∧ (rows.map fun r => (r.getD 0 0, r.getD 1 0)).getD i (0, 0) = (x, y) ∧ (Lit.int .i64 x).wf = true ∧ (Lit.int .i64 y).wf = true := fun i hi => by
    obtain ⟨e, hw⟩ := hr _ (List.getElem_mem hi)
    rw [List.getD_eq_getElem?_getD, List.getD_eq_getElem?_getD, List.getElem?_map, List.getElem?_eq_getElem hi]
    simp only [Option.map_some, Option.getD_some]
    generalize rows[i] = r at e hw
    match r, e with
    | [x, y], _ => exact ⟨x, y, rfl, rfl, hw (.i64, x) (by simp), hw (.i64, y) (by simp)⟩
  refine ⟨rows.map fun r => (r.getD 0 0, r.getD 1 0), by simp, ⟨a, cap, by simp, by simpa using hc, ?_⟩, fun i hi => ?_⟩
  · rcases hx with h0 | ⟨b, off, rfl, hb, hcell⟩
    · left; rw [List.length_eq_zero_iff.1 h0]; rfl
    · refine .inr ⟨b, off, rfl, hb, fun i hi => ?_⟩
      rw [List.length_map] at hi
      obtain ⟨x, y, e1, e2, -⟩ := get i hi
      have := hcell i hi
      rw [e1] at this
      rw [e2]
      exact ⟨this 0 _ rfl, this 1 _ rfl⟩
  · obtain ⟨x, y, e1, e2, wx, wy⟩ := get i hi
    rw [e2]
    exact ⟨bounds_i64 wx, bounds_i64 wy⟩

end Go.Proofs.Ytkejpdkokaiidaa
