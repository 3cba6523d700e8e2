/- Texts of the proof, merged: RefLoad. -/
import Derived.Test.YtaigocnnmjjhgaaDoorPk4
import Derived.BigRegion
namespace Go.Proofs.YtaigocnnmjjhgaaDoor
open Go.ChangeShapes Go.WideShapes Go.ChangeAt Go.RowKit Nv
set_option linter.unusedVariables false

def lcells (ws : List Int) (k q : Nat) : List Value := (List.range (q * 8)).map fun j => .int .u64 (if j < k then ws.getD j 0 else 0)
def zeros8 : List Value := [.int .u64 0, .int .u64 0, .int .u64 0, .int .u64 0, .int .u64 0, .int .u64 0, .int .u64 0, .int .u64 0]
theorem lcells_grow (ws : List Int) (k q : Nat) (h : k ≤ q * 8) : lcells ws k q ++ zeros8 = lcells ws k (q + 1) := by
  unfold lcells
  rw [show (q + 1) * 8 = q * 8 + 8 from by omega, List.range_add, List.map_append, List.map_map]
  congr 1
  have e : ∀ i, i < 8 → ((fun j => Value.int .u64 (if j < k then ws.getD j 0 else 0)) ∘ fun x => q * 8 + x) i = .int .u64 0 := fun i _ => by
    simp only [Function.comp]; rw [if_neg (by omega)]
  show zeros8 = [_, _, _, _, _, _, _, _]
  rw [e 0 (by decide), e 1 (by decide), e 2 (by decide), e 3 (by decide), e 4 (by decide), e 5 (by decide), e 6 (by decide), e 7 (by decide)]; rfl
theorem lcells_get (ws : List Int) (k q j : Nat) (h : j < q * 8) : (lcells ws k q)[j]? = some (.int .u64 (if j < k then ws.getD j 0 else 0)) := by
  unfold lcells; rw [List.getElem?_map, List.getElem?_range h]; rfl
theorem lcells_set (ws : List Int) (k q : Nat) : (lcells ws k q).set k (.int .u64 (ws.getD k 0)) = lcells ws (k + 1) q := by
  apply List.ext_getElem?
  intro j
  rw [List.getElem?_set]
  by_cases h : j < q * 8
  · by_cases e : k = j
    · subst e
      rw [if_pos rfl, lcells_get _ _ _ _ h, if_pos (by unfold lcells; simpa using h)]
      rw [if_pos (by omega)]
    · rw [if_neg e, lcells_get _ _ _ _ h, lcells_get _ _ _ _ h]
      by_cases e2 : j < k
      · rw [if_pos e2, if_pos (by omega)]
      · rw [if_neg e2, if_neg (by omega)]
  · have e1 : (lcells ws k q)[j]? = none := by unfold lcells; rw [List.getElem?_eq_none (by simp; omega)]
    have e2 : (lcells ws (k + 1) q)[j]? = none := by unfold lcells; rw [List.getElem?_eq_none (by simp; omega)]
    rw [e1, e2]
    split
    · rw [if_neg (by unfold lcells; simp; omega)]
    · rfl

/-- Eight cells in a new block. -/
theorem zeros_new (w : World) (t : Nat) : ∀ j u, zeros8[j]? = some u → (w.alloc (.cells #[.int .u64 0, .int .u64 0, .int .u64 0, .int .u64 0, .int .u64 0, .int .u64 0, .int .u64 0, .int .u64 0] t)).cell? ((⟨w.heap.size, 0, none⟩ : Addr).add j) = some u := by
  intro j u hu
  have hj : j < 8 := (List.getElem?_eq_some_iff.1 hu).1
  rw [addr_add, cell_of_row _ _ _ _ _ _ (heap_alloc_new w _), ← hu]
  match j, hj with
  | 0, _ | 1, _ | 2, _ | 3, _ | 4, _ | 5, _ | 6, _ | 7, _ => rfl

/-- A device of the reference's that a call has made. -/
def RefMade (m : Mdl) (w : World) (e : Ending) (w' : World) : Prop := ∃ r, e = .returned (rv r m) ∧ Ref w' (fun b => w.heap.size ≤ b ∧ b < w'.heap.size) r m ∧ Below w.heap.size w w'

def dbox (v : Value) : Array Value := #[v, .slice none 0 0, .slice none 0 0, .slice none 0 0, .slice none 0 0, .int .i64 0, .int .i64 0, .bool false]
/-- The words so far. -/
def RLoadAt (ws : List Int) (k : Nat) (w : World) (wr : World) : Prop :=
  ∃ v, Box wr (w.heap.size + 1) (dbox v) ∧ wr.ownsRow (w.heap.size + 2) 76 8 v (linesFor k) (lcells ws k (linesFor k)) ∧ Box wr w.heap.size (dbox (.slice none 0 0)) ∧ Below w.heap.size w wr

theorem make_lines (n : Nat) (hn : n ≤ 33554432) : ∃ C : Array Value, C.size = n * 8 ∧ (∀ k, k < n * 8 → C[k]? = some (.int .u64 0)) ∧
    ∀ w, (Instr.makeSlice 28 (.int .i64 n) (.int .i64 n)).run Tryd.prog w = .ok (.slice (some ⟨w.heap.size, 0, none⟩) n n) (w.alloc (.cells C 76)) := by
  obtain ⟨i, h1, h2, h3, h4⟩ := info_parts infoL
  refine ⟨madeCells (zeros8.toArray) (n * 8), by simp [madeCells], fun k hk => ?_, fun w => ?_⟩
  · simp only [madeCells, Array.getElem?_map, Array.getElem?_range, if_pos hk, Option.map_some]
    have : k % 8 < 8 := by omega
    have e8 : zeros8.toArray.size = 8 := rfl
    rw [e8]
    generalize k % 8 = q at this
    match q, this with
    | 0, _ | 1, _ | 2, _ | 3, _ | 4, _ | 5, _ | 6, _ | 7, _ => rfl
  · have := run_make (P := Tryd.prog) w 28 76 i _ Tryd.underlying28 h1 h2 .i64 .i64 n n (by omega) (by omega) (by rw [h4]; omega) (by omega)
    rw [h3] at this
    simp only [Int.toNat_natCast] at this
    exact this
theorem load_grown {w wr w1 : World} {ws : List Int} {k q : Nat} {v v' : Value} (hk : k ≤ q * 8) (hbx : Box wr (w.heap.size + 1) (dbox v)) (hown : wr.ownsRow (w.heap.size + 2) 76 8 v q (lcells ws k q)) (hb1 : Box wr w.heap.size (dbox (.slice none 0 0))) (hbw : Below w.heap.size w wr) {o : Obj}
    (h : w1.ownsRow (w.heap.size + 2) 76 8 v' (q + 1) (lcells ws k q ++ zeros8)) (hg : (wr.alloc o).grownBy w1 v.ownBlock) :
    ∃ g cg, v' = .slice (some ⟨g, 0, none⟩) (q + 1) cg ∧ w.heap.size + 2 ≤ g ∧ q + 1 ≤ cg ∧ Box w1 (w.heap.size + 1) (dbox v) ∧ Box w1 w.heap.size (dbox (.slice none 0 0)) ∧ Below w.heap.size w w1 ∧ w1.ownsRow (w.heap.size + 2) 76 8 (.slice (some ⟨g, 0, none⟩) (q + 1) cg) (q + 1) (lcells ws k (q + 1)) := by
  rw [lcells_grow _ _ _ hk] at h
  have hlt := hbx.lt
  have hv : ∀ b, v.ownBlock = some b → w.heap.size + 2 ≤ b := fun b hb => (hown.lt b hb).1
  have hbb : ∀ b cs, b < w.heap.size + 2 → Box wr b cs → Box w1 b cs := fun b cs hb hx =>
    (hg.block b (by simp; have := hx.lt; omega) (fun e => by have := hv b e.symm; omega)).trans ((Below.heap_alloc _ _ _ hx.lt).trans hx)
  rcases h.2 with ⟨_, h0⟩ | ⟨g, cg, cur, rfl, hgb, _, hnc, _⟩
  · omega
  · exact ⟨g, cg, rfl, hgb, hnc, hbb _ _ (by omega) hbx, hbb _ _ (by omega) hb1, (hbw.alloc hbw.size o).grown hg (by simp; have := hbw.size; omega) (fun b hb => by have := hv b hb; omega), h⟩

/-- A word is stored into the last line. -/
theorem load_set {w wr : World} {ws : List Int} {k q g cg : Nat} (hq : q = linesFor (k + 1)) (hg : w.heap.size + 2 ≤ g) (hbx : Box wr (w.heap.size + 1) (dbox (.slice (some ⟨g, 0, none⟩) q cg))) (hown : wr.ownsRow (w.heap.size + 2) 76 8 (.slice (some ⟨g, 0, none⟩) q cg) q (lcells ws k q)) (hb1 : Box wr w.heap.size (dbox (.slice none 0 0))) (hbw : Below w.heap.size w wr) :
    RLoadAt ws (k + 1) w ((wr.setCell ⟨g, k, none⟩ (.int .u64 (ws.getD k 0))).drew) := by
  subst hq
  have hs := (hown.stored k (.int .u64 (ws.getD k 0))).1
  rw [lcells_set] at hs
  exact ⟨.slice (some ⟨g, 0, none⟩) (linesFor (k + 1)) cg, hbx.far (p := ⟨g, k, none⟩) (by show w.heap.size + 1 ≠ g; omega) _, hs, hb1.far (p := ⟨g, k, none⟩) (by show w.heap.size ≠ g; omega) _, (hbw.setCell (p := ⟨g, k, none⟩) (by show w.heap.size ≤ g; omega) _).drew⟩

section
variable {w : World}

set_option maxRecDepth 100000 in
set_option maxHeartbeats 2000000 in
theorem refLoad_any (v : Value) (ws : List Int) (hv : IsInts .u64 w v ws) (hlen : ws.length ≤ 268435456) :
    Calls Tryd.prog 7 #[v] w (RefMade (fresh (linesFor ws.length) (padded ws)) w) := by
  obtain ⟨i0, hi, hz0, hz1, hz2⟩ := info_parts infoL
  obtain ⟨a, cap, rfl, hc, hx⟩ := hv
  obtain ⟨n, hn⟩ : ∃ n, ws.length = n := ⟨_, rfl⟩
  rw [hn] at hc hlen ⊢
  rw [hn] at hx
  have HX := Lib.hid hx
  have HN := Lib.hid hn
  have hb0 : RLoadAt ws 0 w ((w.alloc (.cells (dbox (.slice none 0 0)) 31)).alloc (.cells (dbox (.slice none 0 0)) 31)) := by
    have hB := boxes_of (w := w) (cs := dbox (.slice none 0 0)) (Below.refl _ _)
    exact ⟨.slice none 0 0, hB.2.1, World.ownsRow_nil _ _ _ _, hB.1, hB.2.2.1⟩
  have HB0 := Lib.hid hb0
  unfold dbox at HB0
  clear hx hn hb0
  go_enter Tryd.func7, Tryd.ntmps7
  go_wp2_with fail
  go_loopw [4] (fun i wr => ∃ k : Nat, k ≤ n ∧ i = .int .i64 k ∧ Hid (RLoadAt ws k w wr)) (fun i _ => n - (intOf i).toNat)
  case atStart => exact ⟨0, by omega, rfl, HB0⟩
  case round =>
    obtain ⟨k, hk, rfl, HB⟩ := hrel
    by_cases hlt : k < n
    · have hlt' : (k : Int) < (n : Int) := by omega
      have hk0 : (0 : Int) ≤ (k : Int) := by omega
      obtain ⟨v, hbx, hown, hb1, hbw⟩ := HB.out
      obtain ⟨b, off, rfl, hblt, hcell⟩ := HX.out.resolve_left (by intro e; have := HN.out; rw [e] at this; simp at this; omega)
      have hcw : wr.cell? ⟨b, off + k, none⟩ = some (.int .u64 (ws.getD k 0)) := by rw [hbw.cell (p := ⟨b, off + k, none⟩) hblt]; exact hcell k (by omega)
      have c0 : wr.cell? ⟨w.heap.size + 1, 0, none⟩ = some v := hbx.cell 0
      have f0 := hbx.frozen 0
      have hbl : w.heap.size + 1 < wr.heap.size := hbx.lt
      by_cases h8 : k % 8 = 0
      · have h8' : (((k : Int) % 8 : Int) == 0) = true := by simp; omega
        have hq : linesFor k = k / 8 := by unfold linesFor; omega
        have hq2 : linesFor (k + 1) = k / 8 + 1 := by unfold linesFor; omega
        rw [hq] at hown
        have hsup : ∀ v' w1, w1.ownsRow (w.heap.size + 2) 76 8 v' (k / 8 + 1) (lcells ws k (k / 8) ++ zeros8) → (wr.alloc (.cells #[.int .u64 0, .int .u64 0, .int .u64 0, .int .u64 0, .int .u64 0, .int .u64 0, .int .u64 0, .int .u64 0] 76)).grownBy w1 v.ownBlock → _ := fun v' w1 h g => load_grown (v' := v') (w1 := w1) (by omega) hbx hown hb1 hbw h g
        have HSU := Lib.hid hsup
        have HO := Lib.hid hown
        have HBW := Lib.hid hbw
        have HQ2 := Lib.hid hq2
        clear hbx hown hb1 hbw hq hq2 h8 hcell HB hsup
        go_upto_region 7 with (at_builtin; refine wpList_append_own _ rfl (.tmp 15) (.tmp 17) 28 rfl (w.heap.size + 2) 76 i0 _ 8 64 Tryd.underlying28 hi hz0 hz1 hz2 rfl (by decide) _ _ _ rfl (HO.out.alloc _) ⟨wr.heap.size, 0, none⟩ 1 1 zeros8 rfl rfl (zeros_new _ _) (by intro u hu; simp [zeros8] at hu; subst hu; rfl) (by unfold maxLen; omega) (by omega) (by simp; omega) ?_; intro v' w1 hown' hgrow _; obtain ⟨g, cg, rfl, hge, hcg, hb1', hb2', hbw', hown2⟩ := HSU.out v' w1 hown' hgrow; have c0 := hb1'.cell 0; have f0 := hb1'.frozen 0; have HBB := Lib.hid (And.intro hb1' (And.intro hb2' (And.intro hbw' hown2))); clear hb1' hb2' hbw' hown2 hown' hgrow)
        obtain ⟨hb1', hb2', hbw', hown2⟩ := HBB.out
        have hown3 := hown2.kept (w' := w1.setCell ⟨w.heap.size + 1, 0, none⟩ (.slice (some ⟨g, 0, none⟩) (k / 8 + 1) cg)) (row := some (w.heap.size + 1)) ⟨rfl, rfl, rfl, by simp [World.setCell], fun i _ hi => Below.heap_setCell _ _ _ _ (fun e => hi (by rw [e]))⟩ (.inr (by simp [Value.ownBlock]; omega))
        have hbx3 : Box (w1.setCell ⟨w.heap.size + 1, 0, none⟩ (.slice (some ⟨g, 0, none⟩) (k / 8 + 1) cg)) (w.heap.size + 1) (dbox (.slice (some ⟨g, 0, none⟩) (k / 8 + 1) cg)) := hb1'.set 0 _
        have hb13 := hb2'.far (p := ⟨w.heap.size + 1, 0, none⟩) (by show w.heap.size ≠ w.heap.size + 1; omega) (.slice (some ⟨g, 0, none⟩) (k / 8 + 1) cg)
        have hbw3 := hbw'.setCell (p := ⟨w.heap.size + 1, 0, none⟩) (by show w.heap.size ≤ w.heap.size + 1; omega) (.slice (some ⟨g, 0, none⟩) (k / 8 + 1) cg)
        have HE := Lib.hid (load_set HQ2.out.symm hge hbx3 hown3 hb13 hbw3)
        have ek : k / 8 * 8 + k % 8 = k := by omega
        have c1 := hown3.cellAt k (by omega)
        rw [lcells_get _ _ _ _ (by omega)] at c1
        have f1 := hown3.frozenAt k
        have hcw' := hcw
        have hcw3 : (w1.setCell ⟨w.heap.size + 1, 0, none⟩ (.slice (some ⟨g, 0, none⟩) (k / 8 + 1) cg)).cell? ⟨b, off + k, none⟩ = some (.int .u64 (ws.getD k 0)) := by
          rw [hbw3.cell (p := ⟨b, off + k, none⟩) hblt, ← HBW.out.cell (p := ⟨b, off + k, none⟩) hblt]; exact hcw
        have c03 : (w1.setCell ⟨w.heap.size + 1, 0, none⟩ (.slice (some ⟨g, 0, none⟩) (k / 8 + 1) cg)).cell? ⟨w.heap.size + 1, 0, none⟩ = some (.slice (some ⟨g, 0, none⟩) (k / 8 + 1) cg) := hbx3.cell 0
        have hq1 : (k : Int) / 8 < ((k / 8 + 1 : Nat) : Int) := by omega
        have hq0 : (0 : Int) ≤ (k : Int) / 8 := by omega
        have hm0 : (0 : Int) ≤ (k : Int) % 8 := by omega
        have hm1 : (k : Int) % 8 < 8 := by omega
        generalize ws.getD k 0 = x at HE hcw3
        clear hb1' hb2' hbw' hown2 hown3 hbx3 hb13 hbw3 c0 f0 hcw hcw' HBB
        go_region
        go_wp2_with fail
        go_roundw
        case rel => exact ⟨k + 1, by omega, by go_num, HE⟩
        case measure => simp [intOf]; omega
      · have h8' : (((k : Int) % 8 : Int) == 0) = false := by simp; omega
        have hq : linesFor k = k / 8 + 1 := by unfold linesFor; omega
        have hq2 : k / 8 + 1 = linesFor (k + 1) := by unfold linesFor; omega
        rw [hq] at hown
        have hge : ∃ g cg, v = .slice (some ⟨g, 0, none⟩) (k / 8 + 1) cg ∧ w.heap.size + 2 ≤ g := by
          rcases hown.2 with ⟨_, h0⟩ | ⟨g, cg, _, rfl, hgb, _⟩
          · omega
          · exact ⟨g, cg, rfl, hgb⟩
        obtain ⟨g, cg, rfl, hge⟩ := hge
        have HE := Lib.hid (load_set hq2 hge hbx hown hb1 hbw)
        have ek : k / 8 * 8 + k % 8 = k := by omega
        have c1 := hown.cellAt k (by omega)
        rw [lcells_get _ _ _ _ (by omega)] at c1
        have f1 := hown.frozenAt k
        have hq1 : (k : Int) / 8 < ((k / 8 + 1 : Nat) : Int) := by omega
        have hq0 : (0 : Int) ≤ (k : Int) / 8 := by omega
        have hm0 : (0 : Int) ≤ (k : Int) % 8 := by omega
        have hm1 : (k : Int) % 8 < 8 := by omega
        generalize ws.getD k 0 = x at HE hcw
        clear hbx hown hb1 hbw hq hq2 h8 hcell HB
        go_wp2_with fail
        go_region
        go_wp2_with fail
        go_roundw
        case rel => exact ⟨k + 1, by omega, by go_num, HE⟩
        case measure => simp [intOf]; omega
    · have hlt' : ¬ (k : Int) < (n : Int) := by omega
      obtain rfl : k = n := by omega
      obtain ⟨v, hbx, hown, hb1, hbw⟩ := HB.out
      obtain ⟨L, hL⟩ : ∃ L, linesFor k = L := ⟨_, rfl⟩
      rw [hL] at hown
      have HLK := Lib.hid hL
      have hLb : L ≤ 33554432 := by rw [← hL]; unfold linesFor; omega
      obtain ⟨C3, hs3, hc3, hm3⟩ := make_lines L hLb
      obtain ⟨C4, hs4, hc4, hm4⟩ := make_flags L (by omega)
      obtain ⟨aN, cN, rfl, hsN⟩ := SRow.of_own (T := fun b => w.heap.size + 2 ≤ b) (f := fun j => .int .u64 (padded ws j)) hown (fun j hj => by
        rw [lcells_get _ _ _ _ hj]
        unfold padded
        by_cases e : j < k
        · rw [if_pos e]
        · rw [if_neg e, List.getD_eq_getElem?_getD, List.getElem?_eq_none (by rw [HN.out]; omega)]; rfl) (fun b h1 h2 => h1)
      have HS := Lib.hid hsN
      have HBX := Lib.hid hbx
      have HB1 := Lib.hid hb1
      have HBW := Lib.hid hbw
      have c0 : wr.cell? ⟨w.heap.size + 1, 0, none⟩ = some (.slice aN L cN) := hbx.cell 0
      have c1 : wr.cell? ⟨w.heap.size + 1, 1, none⟩ = some (.slice none 0 0) := hbx.cell 1
      have hlt1 := hbx.lt
      have hsup : ∀ v' w1, w1.ownsRow (w.heap.size + 2) 76 8 v' L ((List.range (L * 8)).map fun j => .int .u64 (padded ws j)) → wr.grownBy w1 none → ∃ aL cL, v' = .slice aL L cL ∧ SRow w1 (fun b => w.heap.size + 2 ≤ b) 76 8 aL L cL (fun j => .int .u64 (padded ws j)) ∧ SRow w1 (fun b => w.heap.size + 2 ≤ b) 76 8 aN L cN (fun j => .int .u64 (padded ws j)) ∧ Box w1 (w.heap.size + 1) (dbox (.slice aN L cN)) ∧ Box w1 w.heap.size (dbox (.slice none 0 0)) ∧ Below w.heap.size w w1 := fun v' w1 h g => by
        obtain ⟨aL, cL, rfl, hsL⟩ := SRow.of_own (T := fun b => w.heap.size + 2 ≤ b) (f := fun j => .int .u64 (padded ws j)) h (fun j hj => by rw [List.getElem?_map, List.getElem?_range hj]; rfl) (fun b h1 h2 => h1)
        have hk : Keep (fun _ => False) wr w1 := Keep.ofGrown g (by intro k hk; cases hk)
        exact ⟨aL, cL, rfl, hsL, hsN.keep hk (fun _ _ _ h => h) (fun _ h _ => h), hbx.keep hk (fun h => h), hb1.keep hk (fun h => h), hbw.grown g hbw.size (by intro k hk; cases hk)⟩
      have HSU := Lib.hid hsup
      clear hsN hbx hb1 hbw hown HB hL hsup
      go_upto_region 13 with (at_builtin; refine wpList_append_copy rfl _ _ 28 76 rfl Tryd.underlying28 hi hz0 hz1 hz2 rfl (by decide) rfl rfl (World.ownsRow_nil _ (w.heap.size + 2) _ _) HS.out (fun _ => rfl) (by unfold maxLen; omega) (by omega) hlt1 ?_; intro v' w1 ho hg; obtain ⟨aL, cL, rfl, hsL, hsN, hbx, hb1, hbw⟩ := HSU.out v' w1 ho hg; have HH := Lib.hid (And.intro hsL (And.intro hsN (And.intro hbx (And.intro hb1 hbw)))); have c0 : w1.cell? ⟨w.heap.size + 1, 0, none⟩ = some (.slice aN L cN) := hbx.cell 0; have c1 : w1.cell? ⟨w.heap.size + 1, 1, none⟩ = some (.slice none 0 0) := hbx.cell 1; have c2 : w1.cell? ⟨w.heap.size + 1, 2, none⟩ = some (.slice none 0 0) := hbx.cell 2; have c3 : w1.cell? ⟨w.heap.size + 1, 3, none⟩ = some (.slice none 0 0) := hbx.cell 3; have c4 : w1.cell? ⟨w.heap.size + 1, 4, none⟩ = some (.slice none 0 0) := hbx.cell 4; have c6 : w1.cell? ⟨w.heap.size + 1, 6, none⟩ = some (.int .i64 0) := hbx.cell 6; have f1 := hbx.frozen 1; have f2 := hbx.frozen 2; have f3 := hbx.frozen 3; have f4 := hbx.frozen 4; have f6 := hbx.frozen 6; have hlt2 := hbx.lt; have hlt3 := Nat.lt_of_succ_lt hlt2; have hlt4 := Nat.lt_succ_of_lt hlt3; clear hsL hsN hbx hb1 hbw ho hg)
      obtain ⟨hsL, hsN, hbx, hb1, hbw⟩ := HH.out
      have hz2 := hbw.size
      have hb5 : Box ((((((((w1.setCell ⟨w.heap.size + 1, 1, none⟩ (.slice aL L cL)).setCell ⟨w.heap.size + 1, 2, none⟩ (.slice (some ⟨w1.heap.size, 0, none⟩) L L)).setCell ⟨w.heap.size + 1, 3, none⟩ (.slice (some ⟨w1.heap.size + 1, 0, none⟩) L L)).setCell ⟨w.heap.size + 1, 4, none⟩ (.slice (some ⟨w1.heap.size + 1 + 1, 0, none⟩) L L)).setCell ⟨w.heap.size + 1, 6, none⟩ (.int .i64 (-1))).alloc (.cells C3 76)).alloc (.cells C4 4)).alloc (.cells C4 4)) (w.heap.size + 1) #[.slice aN L cN, .slice aL L cL, .slice (some ⟨w1.heap.size, 0, none⟩) L L, .slice (some ⟨w1.heap.size + 1, 0, none⟩) L L, .slice (some ⟨w1.heap.size + 1 + 1, 0, none⟩) L L, .int .i64 0, .int .i64 (-1), .bool false] :=
        (((((((hbx.set 1 _).set 2 _).set 3 _).set 4 _).set 6 _).alloc _).alloc _).alloc _
      have hk5 : Keep (fun b => b = w.heap.size + 1) w1 ((((((((w1.setCell ⟨w.heap.size + 1, 1, none⟩ (.slice aL L cL)).setCell ⟨w.heap.size + 1, 2, none⟩ (.slice (some ⟨w1.heap.size, 0, none⟩) L L)).setCell ⟨w.heap.size + 1, 3, none⟩ (.slice (some ⟨w1.heap.size + 1, 0, none⟩) L L)).setCell ⟨w.heap.size + 1, 4, none⟩ (.slice (some ⟨w1.heap.size + 1 + 1, 0, none⟩) L L)).setCell ⟨w.heap.size + 1, 6, none⟩ (.int .i64 (-1))).alloc (.cells C3 76)).alloc (.cells C4 4)).alloc (.cells C4 4)) := (((((((((Keep.refl (fun b => b = w.heap.size + 1) w1).setCell (fun _ => rfl) _).setCell (fun _ => rfl) _).setCell (fun _ => rfl) _).setCell (fun _ => rfl) _).setCell (fun _ => rfl) _).alloc _).alloc _).alloc _)
      have r3 : ((((((((w1.setCell ⟨w.heap.size + 1, 1, none⟩ (.slice aL L cL)).setCell ⟨w.heap.size + 1, 2, none⟩ (.slice (some ⟨w1.heap.size, 0, none⟩) L L)).setCell ⟨w.heap.size + 1, 3, none⟩ (.slice (some ⟨w1.heap.size + 1, 0, none⟩) L L)).setCell ⟨w.heap.size + 1, 4, none⟩ (.slice (some ⟨w1.heap.size + 1 + 1, 0, none⟩) L L)).setCell ⟨w.heap.size + 1, 6, none⟩ (.int .i64 (-1))).alloc (.cells C3 76)).alloc (.cells C4 4)).alloc (.cells C4 4)).heap[w1.heap.size]? = some (.cells C3 76 (0, 0)) := (by repeat (first | (refine get_hit ?_; simp [World.setCell]; done) | (refine get_miss ?_ ?_; focus (simp [World.setCell] <;> omega))))
      have r4 : ((((((((w1.setCell ⟨w.heap.size + 1, 1, none⟩ (.slice aL L cL)).setCell ⟨w.heap.size + 1, 2, none⟩ (.slice (some ⟨w1.heap.size, 0, none⟩) L L)).setCell ⟨w.heap.size + 1, 3, none⟩ (.slice (some ⟨w1.heap.size + 1, 0, none⟩) L L)).setCell ⟨w.heap.size + 1, 4, none⟩ (.slice (some ⟨w1.heap.size + 1 + 1, 0, none⟩) L L)).setCell ⟨w.heap.size + 1, 6, none⟩ (.int .i64 (-1))).alloc (.cells C3 76)).alloc (.cells C4 4)).alloc (.cells C4 4)).heap[w1.heap.size + 1]? = some (.cells C4 4 (0, 0)) := (by repeat (first | (refine get_hit ?_; simp [World.setCell]; done) | (refine get_miss ?_ ?_; focus (simp [World.setCell] <;> omega))))
      have r5 : ((((((((w1.setCell ⟨w.heap.size + 1, 1, none⟩ (.slice aL L cL)).setCell ⟨w.heap.size + 1, 2, none⟩ (.slice (some ⟨w1.heap.size, 0, none⟩) L L)).setCell ⟨w.heap.size + 1, 3, none⟩ (.slice (some ⟨w1.heap.size + 1, 0, none⟩) L L)).setCell ⟨w.heap.size + 1, 4, none⟩ (.slice (some ⟨w1.heap.size + 1 + 1, 0, none⟩) L L)).setCell ⟨w.heap.size + 1, 6, none⟩ (.int .i64 (-1))).alloc (.cells C3 76)).alloc (.cells C4 4)).alloc (.cells C4 4)).heap[w1.heap.size + 1 + 1]? = some (.cells C4 4 (0, 0)) := (by repeat (first | (refine get_hit ?_; simp [World.setCell]; done) | (refine get_miss ?_ ?_; focus (simp [World.setCell] <;> omega))))
      generalize (((((((w1.setCell ⟨w.heap.size + 1, 1, none⟩ (.slice aL L cL)).setCell ⟨w.heap.size + 1, 2, none⟩ (.slice (some ⟨w1.heap.size, 0, none⟩) L L)).setCell ⟨w.heap.size + 1, 3, none⟩ (.slice (some ⟨w1.heap.size + 1, 0, none⟩) L L)).setCell ⟨w.heap.size + 1, 4, none⟩ (.slice (some ⟨w1.heap.size + 1 + 1, 0, none⟩) L L)).setCell ⟨w.heap.size + 1, 6, none⟩ (.int .i64 (-1))).alloc (.cells C3 76)).alloc (.cells C4 4)).alloc (.cells C4 4) = w5 at hb5 hk5 r3 r4 r5 ⊢
      have hR5 := hb1.keep hk5 (by omega)
      have HB5 := Lib.hid hb5
      have HR5 := Lib.hid hR5
      have HK5 := Lib.hid hk5
      have HR := Lib.hid (And.intro r3 (And.intro r4 r5))
      clear hsL hsN hbx hb1 hbw hb5 hk5 r3 r4 r5 hR5 c0 c1 c2 c3 c4 c6 f1 f2 f3 f4 f6
      go_wp2_with (first
        | (refine wpList_load_box rfl _ rfl (b := w.heap.size + 1) rfl HB5.out rfl ?_)
        | (refine wpList_store_box rfl _ _ rfl (b := w.heap.size) (cells := #[.slice aN L cN, .slice aL L cL, .slice (some ⟨w1.heap.size, 0, none⟩) L L, .slice (some ⟨w1.heap.size + 1, 0, none⟩) L L, .slice (some ⟨w1.heap.size + 1 + 1, 0, none⟩) L L, .int .i64 0, .int .i64 (-1), .bool false]) rfl rfl HR5.out rfl rfl (by simp [Value.oneCell']) ?_; intro w6 hb6 k6; have B6 := Lib.hid hb6; have K6 := Lib.hid k6; clear hb6 k6))
      obtain ⟨hsL, hsN, hbx, hb1, hbw⟩ := HH.out
      obtain ⟨r3, r4, r5⟩ := HR.out
      have hk6 : Keep (fun b => b = w.heap.size + 1 ∨ b = w.heap.size) w1 w6 := (HK5.out.mono (S' := fun b => b = w.heap.size + 1 ∨ b = w.heap.size) (fun i _ e => .inl e)).trans K6.out (fun i _ e => .inr e)
      have bw : Below w.heap.size w w6 := hbw.trans (hk6.below hbw.size (fun i h => by omega))
      have hlt6 : ∀ b o, w5.heap[b]? = some o → b < w6.heap.size := fun b o h => Nat.lt_of_lt_of_le (Array.getElem?_eq_some_iff.1 h).1 K6.out.size
      have hz6 := hk6.size
      have hL' := HLK.out
      rw [hL']
      refine bodyPost_ret (results_box1 rfl _ _ w.heap.size _ rfl B6.out rfl) rfl ⟨⟨aN, aL, some ⟨w1.heap.size, 0, none⟩, some ⟨w1.heap.size + 1, 0, none⟩, some ⟨w1.heap.size + 1 + 1, 0, none⟩, cN, cL, L, L, L, fun _ => 0⟩, rfl, ⟨?_, ?_, ⟨Nat.le_refl _, fun _ => ⟨_, rfl, ⟨by omega, hlt6 _ _ r3⟩, C3, (K6.out.block _ (Array.getElem?_eq_some_iff.1 r3).1 (by omega)).trans r3, by show L * 8 ≤ _; omega, hc3⟩⟩, ⟨Nat.le_refl _, fun _ => ⟨_, rfl, ⟨by omega, hlt6 _ _ r4⟩, C4, (K6.out.block _ (Array.getElem?_eq_some_iff.1 r4).1 (by omega)).trans r4, by show L * 1 ≤ _; omega, fun k hk => hc4 k (by have h1 : k < L * 1 := hk; omega)⟩⟩, ⟨Nat.le_refl _, fun _ => ⟨_, rfl, ⟨by omega, hlt6 _ _ r5⟩, C4, (K6.out.block _ (Array.getElem?_eq_some_iff.1 r5).1 (by omega)).trans r5, by show L * 1 ≤ _; omega, fun k hk => hc4 k (by have h1 : k < L * 1 := hk; omega)⟩⟩, ?_, hLb⟩, bw⟩
      · exact hsN.keep hk6 (fun b hb _ e => by omega) (fun b hb hlt => ⟨by omega, by omega⟩)
      · exact hsL.keep hk6 (fun b hb _ e => by omega) (fun b hb hlt => ⟨by omega, by omega⟩)
      · intro i c hc; simp [fresh] at hc
end

end Go.Proofs.YtaigocnnmjjhgaaDoor
