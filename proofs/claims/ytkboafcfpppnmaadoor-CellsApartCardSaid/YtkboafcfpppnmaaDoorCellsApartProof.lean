/-
  Cells of a block of any class don't overlap, lie within it, and are as many as the class has; for blocks 1 to 255 of a device of 256 blocks.
  Conditions: none beyond the row (every argument that can be read as data); the tables that the row lists hold what the text lays, which the card ties.
-/
import Derived.Test.YtkboafcfpppnmaaDoorPre
import Derived.Test.YtkboafcfpppnmaaDoorCards
import Derived.Test.YtkboafcfpppnmaaDoorTie
import Derived.Deep.DeepHandedRow
import Derived.Lib.LaidTab
import Derived.Test.YtkboafcfpppnmaaDoorAwake09
import Derived.Test.YtkboafcfpppnmaaDoorCellsIter
namespace Go.Proofs.YtkboafcfpppnmaaDoor.cellsApart
open Go.ChangeShapes Go.WideShapes Go.ChangeAt Go.RowKit
open Go.ChangeMaps (open_string shut_string)
set_option linter.unusedVariables false

open Cl Ce

theorem cells_same : ∀ i, i < 32 → sizesI.getD i 0 = (wd i : Int) := by decide

/-- What the law's loop has: where the last cell ends, and whether each began behind the end of the one ahead of it. -/
def stA (b : Int) (m : Nat) (pre : List Int) : Int × Bool := pre.foldl (fun s x => (wrap64 (x + m), s.2 && decide (s.1 ≤ x))) (512 * b, true)
theorem stA_snoc (b : Int) (m : Nat) (pre : List Int) (x : Int) : stA b m (pre ++ [x]) = (wrap64 (x + m), (stA b m pre).2 && decide ((stA b m pre).1 ≤ x)) := by unfold stA; rw [List.foldl_append]; rfl
theorem stA_first (k b : Int) (hb0 : 1 ≤ b) (hb1 : b ≤ 255) : ∀ j, j ≤ cellsC k → stA b (wordsC k) (firstC k b j) = (512 * b + (j : Int) * (wordsC k : Nat), true)
  | 0, _ => by simp [stA, firstC]
  | j + 1, h => by
    rw [firstC_succ, stA_snoc, stA_first k b hb0 hb1 j (by omega)]
    have h1 := one_fits (k := k) (i := j) (by omega)
    have h2 : ((j : Int) + 1) * (wordsC k : Nat) = (j : Int) * (wordsC k : Nat) + (wordsC k : Nat) := by rw [Int.add_mul, Int.one_mul]
    have h3 : (((j * wordsC k : Nat) : Nat) : Int) = (j : Int) * (wordsC k : Nat) := by simp
    have h4 : wrap64 (512 * b + (j : Int) * (wordsC k : Nat) + (wordsC k : Nat)) = 512 * b + ((j : Int) + 1) * (wordsC k : Nat) := by
      rw [h2, ← h3]; unfold wrap64; omega
    rw [h4]
    simp
/-- Between two rounds. -/
def inA (b : Int) (m n₀ : Nat) (w : World) (pre : List Int) (W : World) : Prop :=
  (stA b m pre).2 = true ∧ BoxT 3 W n₀ #[.int .i64 (stA b m pre).1] ∧ BoxT 3 W (n₀ + 1) #[.int .i64 (pre.length : Nat)] ∧ Below n₀ w W
theorem inA_own (b : Int) (m n₀ B : Nat) (w : World) (h0 : n₀ ≤ w.heap.size) (hB : n₀ + 2 ≤ B) : OwnFrom B (inA b m n₀ w) := fun s W W' row hs hg hr =>
  ⟨hs.1, hs.2.1.grown hg (fun r e => by have := (hr r e).1; omega), hs.2.2.1.grown hg (fun r e => by have := (hr r e).1; omega), hs.2.2.2.grown hg (Nat.le_trans h0 hs.2.2.2.size) (fun r e => by have := (hr r e).1; omega)⟩
attribute [local go_sem] Oper.semAt_some

set_option maxRecDepth 100000 in
set_option maxHeartbeats 1000000 in
theorem walk  (a0 : Int) (a1 : Int) (w : World) (w0 : (Lit.int .u8 a0).wf = true) (w1 : (Lit.int .u8 a1).wf = true) (t0 : Lib.TabIs Tryd.prog w "taproot/class.cell" .i64 [2, 3, 4, 5, 6, 7, 8, 10, 12, 14, 16, 18, 20, 24, 28, 32, 36, 40, 46, 51, 56, 64, 73, 85, 92, 102, 113, 128, 146, 170, 204, 256]) :
    Calls Tryd.prog 6 #[.int .u8 a0, .int .u8 a1] w fun e w' => e = .returned (.bool true) ∧ Below w.heap.size w w' := by
  have hT : HasCells w := fun i hi => by
    have := t0.cell (g := 0) (by kernel_rfl) i hi
    exact this.trans (by rw [← cells_same i hi]; rfl)
  have b0 := bounds_u8 w0
  have b1 := bounds_u8 w1
  have HT := Lib.hid hT
  clear hT t0 w0 w1
  refine (callsIn_wide (n := 6)).1 ?_
  refine callsIn_of_wp_marks Tryd.func6 rfl trivial ?_ rfl
  refine wpIn_wide.2 ?_
  simp only [Tryd.ntmps6, List.size_toArray, List.length_cons, List.length_nil, Nat.reduceAdd, Nat.reduceSub, Array.replicate_succ, Array.replicate_zero, List.push_toArray, List.append_toArray, List.nil_append, List.cons_append]
  go_wp2_with fail
  refine (awake_yes _ (HT.out.below ((Below.refl _ _).alloc (Nat.le_refl _) _) (Nat.le_refl _))).mono ?_
  rintro e W ⟨rfl, hb⟩
  obtain ⟨r1, hb, s1⟩ := boxT_of1 hb
  have HB := Lib.hid hb
  have HT1 := Lib.hid (HT.out.below hb (Nat.le_refl _))
  have R1 := Lib.hid r1
  clear hb r1
  have hnil := eqNil
  have hK0 : 0 ≤ a0 % 32 := by omega
  have hK1 : a0 % 32 < 32 := by omega
  have hB0 : 1 ≤ 1 + a1 % 255 := by omega
  have hB1 : 1 + a1 % 255 ≤ 255 := by omega
  go_wp2_with fail
  generalize a0 % 32 = K at *
  generalize 1 + a1 % 255 = B at *
  refine (cellAll_any _ _ _ _).mono ?_
  rintro e W2 ⟨rfl, hW2⟩
  have HI := iterHas_new (W.alloc (.cells #[.int .i64 K] 3)) 256 K B (HT1.out.below ((Below.refl _ _).alloc (Nat.le_refl _) _) (Nat.le_refl _))
  rw [← hW2] at HI
  have hs2 : W2.heap.size = W.heap.size + 4 := by rw [hW2]; simp
  have hb2 : Below (W.heap.size + 1) (W.alloc (.cells #[.int .i64 K] 3)) W2 := by
    rw [hW2]
    exact (((Below.refl _ _).alloc (by simp) _).alloc (by simp) _).alloc (by simp) _
  have N2 : Hid (BoxT 3 W2 W.heap.size #[.int .i64 K]) := Lib.hid ((BoxT.new _ W _).below hb2 (by omega))
  have hb3 : Below W.heap.size W W2 := ((Below.refl _ _).alloc (Nat.le_refl _) _).trans (hb2.mono (by omega))
  have R2 := Lib.hid (R1.out.below hb3 R1.out.lt)
  have HB2 := Lib.hid (below_step HB.out hb3 (Nat.le_refl _))
  have HT2 := Lib.hid (HT1.out.below hb3 (Nat.le_refl _))
  have e1 : (W.alloc (.cells #[.int .i64 K] 3)).heap.size = W.heap.size + 1 := by simp
  rw [e1] at HI ⊢
  have HI' : Hid (IterHas (W.heap.size + 4) 256 K B (W.heap.size + 1) W2) := Lib.hid HI
  clear HI hb2 hb3 e1 hW2 R1 HB HT1
  go_wp2_with fail
  obtain ⟨V, hV⟩ : ∃ V, ((W2.alloc (.cells #[.int .i64 (512 * B)] 3)).alloc (.cells #[.int .i64 0] 3)) = V := ⟨_, rfl⟩
  rw [hV]
  have hVs : V.heap.size = W.heap.size + 6 := by rw [← hV]; simp [hs2]
  have hbV : Below (W.heap.size + 4) W2 V := by
    rw [← hV]
    exact ((Below.refl _ _).alloc (by omega) _).alloc (by simp; omega) _
  have x8 : BoxT 3 V (W.heap.size + 4) #[.int .i64 (512 * B)] := by
    rw [← hV, ← hs2]; exact (BoxT.new _ W2 _).alloc _
  have x9 : BoxT 3 V (W.heap.size + 4 + 1) #[.int .i64 0] := by
    have := BoxT.new 3 (W2.alloc (.cells #[.int .i64 (512 * B)] 3)) #[.int .i64 0]
    rw [hV] at this
    rwa [show (W2.alloc (.cells #[.int .i64 (512 * B)] 3)).heap.size = W.heap.size + 4 + 1 by simp [hs2]] at this
  have hst : stA B (wordsC K) [] = (512 * B, true) := rfl
  have H0 : inA B (wordsC K) (W.heap.size + 4) W2 [] V := ⟨by rw [hst], by rw [hst]; exact x8, x9, hbV⟩
  have X8 := Lib.hid x8
  have HV := Lib.hid hbV
  clear hV hst x8 x9 hbV
  refine (wpIn_wide (n := 5)).1 ?_
  refine wpIn_rangeFunc_ownF (F := Fence.wide) rfl (by omega) (gf := 26) (lb := #[.pointer (some ⟨W.heap.size + 1 + 1, 0, none⟩), .pointer (some ⟨W.heap.size + 1, 0, none⟩), .pointer (some ⟨W.heap.size + 1 + 2, 0, none⟩)]) rfl trivial (enters_of Tryd.func26 (by kernel_rfl) rfl)
    (cellIter_stops 4 256 K B (W.heap.size + 4) (W.heap.size + 1) V (by omega) (by omega) (HI'.out.on HV.out) (by omega)) belowK_t (belowK_b (by omega)) (Below.refl _ _) (fun _ => rfl)
    (inA B (wordsC K) (W.heap.size + 4) W2) (fun c pre _ => (stA B (wordsC K) pre).2 = false)
    (inA_own _ _ _ _ _ (by omega) (by omega)) (fun _ _ _ _ _ hs _ _ => hs) H0 ?a1 ?assign ?body ?done ?stop
  case assign =>
    intro l x W K hK
    gi_wp2
    exact hK
  case body =>
    rintro l pre x Z ⟨hs, h8, h9, hbl⟩ hlen
    have hmy := manyC_le 256 K B
    have HT3 := Lib.hid (HT2.out.below hbl (by omega))
    have n3 := N2.out.below hbl (by omega)
    have r3 := R2.out.below hbl (by omega)
    have cN : Z.cell? ⟨W.heap.size, 0, none⟩ = some (.int .i64 K) := n3.cell 0
    have cR : Z.cell? ⟨w.heap.size, 0, none⟩ = some (.bool false) := r3.cell 0
    have fR : Z.frozen? ⟨w.heap.size, 0, none⟩ = false := r3.frozen 0
    have hsn := stA_snoc B (wordsC K) pre x
    have WO : Hid (∀ w, HasCells w → Calls Tryd.prog 17 #[.int .i64 K] w fun e w' => e = .returned (.int .i64 (wordsC K : Nat)) ∧ w = w') := Lib.hid fun w h => words_all K w h
    have hfn : Fence.wide.fn 17 := trivial
    have hwl := wordsC_le K
    generalize wordsC K = m at *
    obtain ⟨e, hse⟩ : ∃ e, stA B m pre = (e, true) := ⟨_, Prod.ext rfl hs⟩
    rw [hse] at hsn h8
    simp only [Bool.true_and] at hsn h8
    clear hse
    have c8 : Z.cell? ⟨W.heap.size + 4, 0, none⟩ = some (.int .i64 e) := h8.cell 0
    have f8 : Z.frozen? ⟨W.heap.size + 4, 0, none⟩ = false := h8.frozen 0
    have c9 : Z.cell? ⟨W.heap.size + 4 + 1, 0, none⟩ = some (.int .i64 (pre.length : Nat)) := h9.cell 0
    have f9 : Z.frozen? ⟨W.heap.size + 4 + 1, 0, none⟩ = false := h9.frozen 0
    have HSN := Lib.hid hsn
    have H8 := Lib.hid h8
    have H9 := Lib.hid h9
    have HBL := Lib.hid hbl
    have hpl : ((pre.length : Nat) : Int) ≤ 256 := by omega
    clear hsn h8 h9 hbl hs n3 r3 HT HI' N2 R2 HB2 HT2 X8 HV hnil H0 hmy
    by_cases hx : e ≤ x
    · have hlt : ¬ x < e := by omega
      rw [decide_eq_true hx] at HSN
      clear hx
      gi_wp2_with fail
      refine (CallsIn.inRound l (callsIn_wide.2 (WO.out _ HT3.out))).mono ?_
      rintro e w3 ⟨rfl, rfl⟩
      gi_wp2_with fail
      exact ⟨(KeepsOthers.setCell _ _ _).trans (KeepsOthers.setCell _ _ _), ((Below.refl _ _).setCell (p := ⟨W.heap.size + 4, 0, none⟩) (Nat.le_refl _) _).setCell (p := ⟨W.heap.size + 4 + 1, 0, none⟩) (Nat.le_succ _) _,
        by rw [HSN.out], by rw [HSN.out]; exact (H8.out.set 0 _).far (Nat.ne_of_lt (Nat.lt_succ_self _)) _,
        by rw [show (((pre ++ [x]).length : Nat) : Int) = (pre.length : Nat) + 1 by simp]; exact (H9.out.far (Nat.ne_of_gt (Nat.lt_succ_self _)) _).set 0 _,
        (HBL.out.setCell (p := ⟨W.heap.size + 4, 0, none⟩) (Nat.le_refl _) _).setCell (p := ⟨W.heap.size + 4 + 1, 0, none⟩) (Nat.le_succ _) _⟩
    · have hlt : x < e := by omega
      rw [decide_eq_false hx] at HSN
      clear hx
      gi_wp2_with fail
      exact ⟨KeepsOthers.setCell _ _ _, (congrArg Prod.snd HSN.out : _)⟩
  case done =>
    rintro D ys Z hD rfl ⟨hs, h8, h9, hbl⟩ hK
    have hmc : manyC 256 K B = cellsC K := by unfold manyC; rw [if_pos (by omega)]
    have hall : allC 256 K B = firstC K B (cellsC K) := by unfold allC; rw [hmc]
    have hst := stA_first K B hB0 hB1 (cellsC K) (Nat.le_refl _)
    rw [hall] at h8 h9
    rw [hst] at h8
    rw [firstC_len] at h9
    have hfit := all_fit K
    have hfit' : (cellsC K : Int) * (wordsC K : Nat) ≤ 512 := by
      have : (((cellsC K * wordsC K : Nat) : Nat) : Int) = (cellsC K : Int) * (wordsC K : Nat) := by simp
      omega
    have hfit0 : 0 ≤ (cellsC K : Int) * (wordsC K : Nat) := Int.mul_nonneg (by omega) (by omega)
    have hcl := cellsC_le K
    have HT3 := Lib.hid (HT2.out.below hbl (by omega))
    have HCC : Hid (∀ w, HasCells w → Calls Tryd.prog 18 #[.int .i64 K] w fun e w' => e = .returned (.int .i64 (cellsC K : Nat)) ∧ w = w') := Lib.hid fun w h => cells_all K w h
    have n3 := N2.out.below hbl (by omega)
    have r3 := R2.out.below hbl (by omega)
    have HBZ := Lib.hid (HB2.out.trans (hbl.mono (by omega)))
    obtain ⟨E, hE⟩ : ∃ E : Int, 512 * B + (cellsC K : Int) * (wordsC K : Nat) = E := ⟨_, rfl⟩
    have hE1 : E ≤ 512 * B + 512 := by omega
    dsimp only at h8
    rw [hE] at h8
    generalize cellsC K = q at *
    have cN : Z.cell? ⟨W.heap.size, 0, none⟩ = some (.int .i64 K) := n3.cell 0
    have cR : Z.cell? ⟨w.heap.size, 0, none⟩ = some (.bool false) := r3.cell 0
    have fR : Z.frozen? ⟨w.heap.size, 0, none⟩ = false := r3.frozen 0
    have c8 : Z.cell? ⟨W.heap.size + 4, 0, none⟩ = some (.int .i64 E) := h8.cell 0
    have c9 : Z.cell? ⟨W.heap.size + 4 + 1, 0, none⟩ = some (.int .i64 (q : Nat)) := h9.cell 0
    have hg : decide (E ≤ IntKind.i64.wrap (IntKind.i64.wrap (512 * B) + 512)) = true := decide_eq_true (by rw [IntWalk.i64_left, IntWalk.i64_left]; unfold wrap64; omega)
    have g1 : (Z.setCell ⟨w.heap.size, 0, none⟩ (.bool true)).drew.cell? ⟨W.heap.size, 0, none⟩ = some (.int .i64 K) := ((n3.far (p := ⟨w.heap.size, 0, none⟩) (by simp; omega) _).drew).cell 0
    have g2 : (Z.setCell ⟨w.heap.size, 0, none⟩ (.bool true)).drew.cell? ⟨W.heap.size + 4, 0, none⟩ = some (.int .i64 E) := ((h8.far (p := ⟨w.heap.size, 0, none⟩) (by simp; omega) _).drew).cell 0
    have g3 : (Z.setCell ⟨w.heap.size, 0, none⟩ (.bool true)).drew.cell? ⟨W.heap.size + 4 + 1, 0, none⟩ = some (.int .i64 (q : Nat)) := ((h9.far (p := ⟨w.heap.size, 0, none⟩) (by simp; omega) _).drew).cell 0
    have HK := Lib.hid hK
    have R3 := Lib.hid r3
    clear hmc hall hst hfit hfit' hfit0 hE h8 h9 hbl hs n3 r3 HT HI' N2 R2 HB2 HT2 X8 HV hnil H0 hK
    go_wp2_with fail
    go_region_held3 (fun w' => w'.cell? ⟨W.heap.size, 0, none⟩ = some (.int .i64 K) ∧ w'.frozen? ⟨w.heap.size, 0, none⟩ = false ∧ w'.cell? ⟨W.heap.size + 4, 0, none⟩ = some (.int .i64 E) ∧ w'.cell? ⟨W.heap.size + 4 + 1, 0, none⟩ = some (.int .i64 (q : Nat))) (first | go_keep | exact ⟨g1, by go_keep, g2, g3⟩ | (refine ⟨?_, ?_, ?_, ?_⟩; exact g1; go_keep; exact g2; exact g3))
      (first
        | (go_at_call 18; refine (HCC.out _ (show HasCells (World.drew _) from HT3.out)).mono ?_; rintro e w3 ⟨rfl, rfl⟩))
    go_wp2_with fail
    have hKE : (Z.setCell ⟨w.heap.size, 0, none⟩ (.bool true)).drew.heap[D]? = some (.deferred (some [])) := ((KeepsOthers.setCell Z _ _).trans (KeepsOthers.drew _)).same D _ HK.out rfl
    have hbE : Below w.heap.size w (Z.setCell ⟨w.heap.size, 0, none⟩ (.bool true)).drew := (HBZ.out.setCell (p := ⟨w.heap.size, 0, none⟩) (Nat.le_refl _) _).drew
    have hcE : (((Z.setCell ⟨w.heap.size, 0, none⟩ (.bool true)).drew).putObj D (.deferred none)).cell? ⟨w.heap.size, 0, none⟩ = some (.bool true) :=
      (World.cell?_of_block (World.putObj_heap_other (k := w.heap.size) (by omega))).trans (((R3.out.set 0 _).drew).cell 0)
    refine ⟨by simp, .inl ⟨_, _, rfl, run_takeDeferred hKE, ?_⟩⟩
    refine ⟨.bool true, ?_, rfl, hbE.trans (belowK_b (w := V) (by omega) _ D _ _ (by omega) hKE rfl rfl)⟩
    simp [results, Tryd.f6, go_sem, hcE]
  case stop =>
    rintro D c pre Z hD hp hx hK
    obtain ⟨j, hj, rfl⟩ : ∃ j, j ≤ cellsC K ∧ pre = firstC K B j := by
      have hmc : manyC 256 K B = cellsC K := by unfold manyC; rw [if_pos (by omega)]
      obtain ⟨suf, he⟩ := hp
      have hl := congrArg List.length he
      rw [List.length_append] at hl
      unfold allC at he hl
      rw [firstC_len, hmc] at hl
      refine ⟨pre.length, by omega, ?_⟩
      rw [hmc] at he
      rw [← firstC_take K B (show pre.length ≤ cellsC K by omega), ← he, List.take_left]
    rw [stA_first K B hB0 hB1 j hj] at hx
    cases hx

theorem gTab0 : Tryd.prog.globalNamed "taproot/class.cell" = some 0 := by kernel_rfl
theorem gType0 : (Tryd.prog.globals[0]?).map (·.type) = some 48 := by kernel_rfl
theorem table0 {W : World} (h : laidMetH Tryd.prog Rows.cellsApartRow.laid W) : Lib.TabIs Tryd.prog W "taproot/class.cell" .i64 [2, 3, 4, 5, 6, 7, 8, 10, 12, 14, 16, 18, 20, 24, 28, 32, 36, 40, 46, 51, 56, 64, 73, 85, 92, 102, 113, 128, 146, 170, 204, 256] :=
  Lib.tabIs_of_head gTab0 gType0 Tryd.underlying48 Tryd.underlying3 (by kernel_rfl) (by kernel_rfl) h

theorem contract (H : Type) (enc : TypeId × Value → H) (W : World) (base : Nat) (args : Array Value) (ds gs : List (DataW H)) (before : List MemPlace)
    (hval : ∀ (j : Nat) t v, Tryd.f6.params[j]? = some t → args[j]? = some v → Value.okWide Tryd.prog W .any base t v)
    (hW : DataW.Whole enc Tryd.prog Tryd.f6.params.toList Rows.cellsApartSpec.vars false W args.toList ds gs before) (hL : laidMetH Tryd.prog Rows.cellsApartRow.laid W) :
    Calls Tryd.prog 6 args W fun e W' => ∃ v, e = .returned v ∧ Rows.cellsApartSpec.post enc Tryd.prog Tryd.f6 false true false false W args v W' := by
  have hW' := hW
  obtain ⟨p, q, hA0, hV, rfl, hfz, hnd⟩ := hW
  have hA : DataW.TrodAll enc Tryd.prog W 0 (fun _ => true) true Tryd.f6.params.toList args.toList ds p := hA0
  rw [Tryd.params6] at hA hval
  obtain ⟨v0, vs0, d0, ds0, p0, q0, hargs, rfl, rfl, h0, r0⟩ := trodAll_cons hA
  obtain ⟨v1, vs1, d1, ds1, p1, q1, rfl, rfl, rfl, h1, r1⟩ := trodAll_cons r0
  obtain ⟨rfl, rfl, rfl⟩ := trodAll_nil r1
  obtain rfl : args = #[v0, v1] := by cases args; simp_all
  obtain ⟨rfl, rfl⟩ := trodVars_none hV
  obtain ⟨a0, rfl, rfl, rfl, w0⟩ := open_int Tryd.underlying5 (hval 0 5 v0 rfl rfl) h0
  obtain ⟨a1, rfl, rfl, rfl, w1⟩ := open_int Tryd.underlying5 (hval 1 5 v1 rfl rfl) h1
  clear hA0
  refine (walk a0 a1 W w0 w1 (table0 hL)).mono fun e W' ⟨he, bel⟩ => ?_
  subst he
  exact ⟨_, rfl, _, _, _, [], _, [], hW', trodAll_mk1 (shut_bool Tryd.underlying4 _), (trodAll_cons_mk (shut_int Tryd.underlying5 w0) (trodAll_cons_mk (shut_int Tryd.underlying5 w1) trodAll_mk0)), rfl, bel.frame _, fun h => by cases h⟩

noncomputable def laidWorld (os : Os) : World :=
  { World.holding Tryd.prog os ⟨#[], #[], []⟩ with heap := ((World.holding Tryd.prog os ⟨#[], #[], []⟩).heap).modify 0 fun
      | .cells _ t frozen => .cells #[.int .i64 2, .int .i64 3, .int .i64 4, .int .i64 5, .int .i64 6, .int .i64 7, .int .i64 8, .int .i64 10, .int .i64 12, .int .i64 14, .int .i64 16, .int .i64 18, .int .i64 20, .int .i64 24, .int .i64 28, .int .i64 32, .int .i64 36, .int .i64 40, .int .i64 46, .int .i64 51, .int .i64 56, .int .i64 64, .int .i64 73, .int .i64 85, .int .i64 92, .int .i64 102, .int .i64 113, .int .i64 128, .int .i64 146, .int .i64 170, .int .i64 204, .int .i64 256] t frozen
      | o => o }
theorem laid_met (os : Os) : laidMet Tryd.prog Rows.cellsApartRow.laid ((laidWorld os).forCall (fun _ _ => 0) ⟨#[], #[.int .u8 0, .int .u8 0], []⟩).memory :=
  laidMet_of_run' 8 (by kernel_rfl) (by kernel_rfl)
theorem reads (os : Os) {H : Type} (enc : TypeId × Value → H) : ∃ x, DataW.whole enc Tryd.prog ((laidWorld os).forCall (fun _ _ => 0) ⟨#[], #[.int .u8 0, .int .u8 0], []⟩).memory Tryd.f6.params.toList Rows.cellsApartSpec.vars false (#[.int .u8 0, .int .u8 0] : Array Value).toList 8 = some ([.lit (.int .u8 0), .lit (.int .u8 0)], [], x) :=
  ⟨[], by kernel_rfl⟩

set_option maxRecDepth 100000 in
theorem lifted (os : Os) (started : os.Started) (H : Type) (enc : TypeId × Value → H) (F : Stop.Interp) :
    ReturnsInHanded {} Tryd.checked os 6 .any ((OpenSpec.ofChange Rows.cellsApartSpec).preRow enc Tryd.prog Tryd.f6 Rows.cellsApartRow.domain false Rows.cellsApartRow.laid) (((OpenSpec.ofChange Rows.cellsApartSpec).at F).post enc Tryd.prog Tryd.f6 false true false false) := by
  obtain ⟨places, hx⟩ := reads os enc
  refine returnsInHanded_of_row (C := Tryd.checked) (s := OpenSpec.ofChange Rows.cellsApartSpec) own started (by kernel_rfl) Tryd.func6
    (witness_row_at (enc := enc) (C := Tryd.checked) false (laidWorld os) #[.int .u8 0, .int .u8 0] rfl (by kernel_rfl) (by kernel_rfl) (by kernel_rfl)
      (OpenSpec.preRow_of_cond 8 hx (by kernel_rfl) (fun k hk => by cases hk) (by kernel_rfl) (laid_met os))) ?_
  intro W base args ds gs before hval hW _ hcond hreach hL hsh _
  exact contract H enc W base args ds gs before hval hW hL

theorem said : Rows.CellsApartSaid :=
  OpenClaim.holds_of_cond 6 Tryd.f6 rfl rfl rfl rfl rfl rfl rfl ⟨rfl, rfl, rfl, rfl, rfl⟩ rfl rfl rfl rfl rfl (by kernel_rfl) Tryd.func6 (by kernel_rfl)
    (of_decide_eq_true (by kernel_rfl)) (by unfold Func.isWrapper; first | (rw [if_pos (by decide +kernel)]; kernel_rfl) | (rw [if_neg (by decide +kernel)]; exact ⟨rfl, rfl⟩))
    (fun os started H enc _ F => by rw [OpenClaim.pre_eq_preRow]; exact lifted os started H enc F)

theorem plain (f : FuncId) (fn : Func) (hf : Tryd.pinned.checked.prog.funcNamed "taproot/taprootlaw09.CellsApart" = some f) (hfn : Tryd.pinned.checked.prog.funcs[f]? = some fn) :
    false = Tryd.pinned.checked.prog.looks [] ∧ ∀ (j : Nat) t, fn.params[j]? = some t → Tryd.pinned.checked.prog.wantsStandIn t = false := by
  obtain rfl : f = 6 := Option.some.inj ((show Tryd.prog.funcNamed "taproot/taprootlaw09.CellsApart" = some 6 by kernel_rfl).symm.trans hf) |>.symm
  obtain rfl : fn = Tryd.f6 := (Option.some.inj (Tryd.func6.symm.trans hfn)).symm
  refine ⟨by kernel_rfl, fun j t ht => ?_⟩
  rw [Tryd.params6] at ht
  have hm := Array.mem_of_getElem? ht
  simp only [List.mem_toArray, List.mem_cons, List.not_mem_nil, or_false] at hm
  rcases hm with rfl | rfl
  · exact (show Tryd.prog.wantsStandIn 5 = false by kernel_rfl)
  · exact (show Tryd.prog.wantsStandIn 5 = false by kernel_rfl)

/-- The card: the statement. -/
theorem proved : Rows.CellsApartCardSaid :=
  Claim7.holds_tied_plain_at .later [] _ _ _ _ said (fun _ h => by cases h) (by kernel_rfl) (fun _ h => by cases h) cellsApart_row_tie rfl ⟨rfl, rfl⟩ (by kernel_rfl) rfl plain (by kernel_rfl)
#print axioms proved
end Go.Proofs.YtkboafcfpppnmaaDoor.cellsApart
