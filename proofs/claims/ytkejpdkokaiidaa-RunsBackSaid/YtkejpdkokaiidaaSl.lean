/- Slices of integers, as walks speak of them. -/
import Derived.Test.YtkejpdkokaiidaaPre
import Derived.Laws.BytesString
import Derived.Laws.Cells
import Derived.Laws.MakeOwn
namespace Go.Proofs.Ytkejpdkokaiidaa
open Go.ChangeShapes Go.WideShapes Go.ChangeAt Go.RowKit
set_option linter.unusedVariables false

/-- v is a slice whose elements are the integers xs, in w. -/
def IsInts (k : IntKind) (w : World) (v : Value) (xs : List Int) : Prop :=
  ∃ a cap, v = .slice a xs.length cap ∧ xs.length ≤ cap ∧ (xs = [] ∨ ∃ b off, a = some ⟨b, off, none⟩ ∧ b < w.heap.size ∧ ∀ i, i < xs.length → w.cell? ⟨b, off + i, none⟩ = some (.int k (xs.getD i 0)))

theorem IsInts.below {k : IntKind} {w w' : World} {v : Value} {xs : List Int} {B : Nat} (h : IsInts k w v xs) (hb : Below B w w') (hB : w.heap.size ≤ B) : IsInts k w' v xs := by
  obtain ⟨a, cap, rfl, hc, h⟩ := h
  refine ⟨a, cap, rfl, hc, ?_⟩
  rcases h with h | ⟨b, off, rfl, hlt, h⟩
  · exact .inl h
  · refine .inr ⟨b, off, rfl, Nat.lt_of_lt_of_le hlt hb.size, fun i hi => ?_⟩
    rw [hb.cell (p := ⟨b, off + i, none⟩) (Nat.lt_of_lt_of_le hlt hB)]; exact h i hi

theorem addr_add (b off i : Nat) : (⟨b, off, none⟩ : Addr).add i = ⟨b, off + i, none⟩ := by unfold Addr.add; split <;> simp_all

theorem IsRow.ints {k : IntKind} {w : World} {a : Option Addr} {len cap : Nat} {zs : List Int} (h : IsRow k w a len cap zs) :
    IsInts k w (.slice a len cap) (zs.take len) ∧ (zs.take len).length = len ∧ ∀ n ∈ zs.take len, (Lit.int k n).wf = true := by
  rcases h with ⟨rfl, rfl, rfl, rfl⟩ | ⟨x, rfl, hl, hm, hz, hcell, hwz⟩
  · exact ⟨⟨none, 0, rfl, by simp, .inl rfl⟩, rfl, by simp⟩
  · have hlen : (zs.take len).length = len := by simp; omega
    refine ⟨⟨some x, cap, by rw [hlen], by omega, ?_⟩, hlen, fun n hn => hwz n (List.mem_of_mem_take hn)⟩
    by_cases h0 : len = 0
    · exact .inl (by rw [h0]; rfl)
    · obtain ⟨b, off, spot⟩ := x
      have hc := hcell 0 (by omega)
      have hspot : spot = none := by simpa [Addr.add] using World.cell?_spot hc
      subst hspot
      refine .inr ⟨b, off, rfl, (by have := World.block_lt_of_cell? _ _ hc; rw [addr_add] at this; exact this), fun i hi => ?_⟩
      have := hcell i (by omega)
      rw [addr_add] at this
      rw [this]
      have e : (zs.take len).getD i 0 = zs.getD i 0 := by
        rw [List.getD_eq_getElem?_getD, List.getD_eq_getElem?_getD, List.getElem?_take_of_lt (by omega)]
      rw [e]

theorem IsInts.of_own {k : IntKind} {w : World} {v : Value} {xs : List Int} {base n : Nat} {e : TypeId} (h : w.ownsRow base e 1 v n (xs.map (Value.int k))) : IsInts k w v xs := by
  obtain ⟨hl, h⟩ := h
  have hn : n = xs.length := by simpa using hl.symm
  subst hn
  rcases h with ⟨rfl, h0⟩ | ⟨g, cap, cur, rfl, _, hg, hc, _, hs, ht⟩
  · exact ⟨none, 0, by rw [h0], by omega, .inl (List.length_eq_zero_iff.1 h0)⟩
  · refine ⟨_, cap, rfl, hc, .inr ⟨g, 0, rfl, ?_, fun i hi => ?_⟩⟩
    · rcases Nat.lt_or_ge g w.heap.size with h | h
      · exact h
      · rw [Array.getElem?_eq_none h] at hg; cases hg
    · have h1 : (cur.toList.take (xs.length * 1))[i]? = some (.int k (xs.getD i 0)) := by
        rw [ht, List.getElem?_map, List.getElem?_eq_getElem hi]; simp [List.getD, hi]
      rw [List.getElem?_take_of_lt (by omega)] at h1
      simp only [World.cell?, hg, Nat.zero_add]
      simpa using h1

/-- The text that these bytes are. -/
def textOf (ns : List Int) : ByteArray := ns.foldl (fun r n => r.push (UInt8.ofNat n.toNat)) ByteArray.empty

theorem run_text {P : Program} {w : World} {v : Value} {ns : List Int} {src dst e : TypeId} (hs : P.underlying src = some (.slice e)) (he : P.underlying e = some (.int .u8)) (hd : P.underlying dst = some .string)
    (h : IsInts .u8 w v ns) : (convert src dst v).run P w = .ok (.string (textOf ns)) w := by
  obtain ⟨a, cap, rfl, hc, h⟩ := h
  rw [run_convert_bytes_string w src dst e a _ _ hs he hd]
  rcases h with rfl | ⟨b, off, rfl, _, h⟩
  · cases a with
    | none => simp [Conv.bytesToString, textOf, Sem.run_pure]
    | some x =>
      have := run_bytesToString (P := P) w x 0 cap [] (by
        have := run_loadCells (P := P) w x 0 (fun _ => undef) (fun j hj => by omega)
        simpa using this)
      simpa [textOf] using this
  · refine run_bytesToString w _ _ _ ns ?_
    have := run_loadCells (P := P) w ⟨b, off, none⟩ ns.length (fun j => .int .u8 (ns.getD j 0)) (fun j hj => by rw [addr_add]; exact h j hj)
    rw [this]
    congr 2
    apply List.ext_getElem?
    intro j
    by_cases hj : j < ns.length
    · simp [List.getElem?_range hj, List.getElem?_eq_getElem hj]
    · rw [List.getElem?_eq_none (by simpa using hj), List.getElem?_eq_none (by simpa using hj)]

theorem cell_new1 (w : World) (x : Value) (t : TypeId) : ∀ j u, [x][j]? = some u → (w.alloc (.cells #[x] t)).cell? ((⟨w.heap.size, 0, none⟩ : Addr).add j) = some u := by
  intro j u h
  match j, h with
  | 0, h =>
    simp at h; subst h
    rw [addr_add]
    simp

/-- A slice that was just built of these integers. -/
theorem IsInts.built {k : IntKind} (w : World) (t : TypeId) (zs : List Int) (n : Nat) (vs : Array Value) (hn : n = zs.length) (hv : vs = (zs.map (Value.int k)).toArray) :
    IsInts k (w.alloc (.cells vs t)) (.slice (some ⟨w.heap.size, 0, none⟩) n n) zs := by
  subst hn hv
  refine ⟨_, _, rfl, Nat.le_refl _, .inr ⟨w.heap.size, 0, rfl, by simp, fun i hi => ?_⟩⟩
  simp [List.getD, hi]

/-- A call hands back a slice of these integers, in new memory; what was there is as it was. -/
def MadeInts (k : IntKind) (xs : List Int) (w : World) (e : Ending) (w' : World) : Prop := ∃ v, e = .returned v ∧ IsInts k w' v xs ∧ Below w.heap.size w w'

theorem infoU8 : (Try.prog.info? 5).map (fun i => (i.zero, i.size, i.bytes)) = some (some (.int .u8 0), 1, 1) := by kernel_rfl
theorem infoU64 : (Try.prog.info? 82).map (fun i => (i.zero, i.size, i.bytes)) = some (some (.int .u64 0), 1, 8) := by kernel_rfl

end Go.Proofs.Ytkejpdkokaiidaa
