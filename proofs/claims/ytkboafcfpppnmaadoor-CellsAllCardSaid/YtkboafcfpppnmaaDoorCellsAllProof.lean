/-
  All cells of any block, in order, are what the page says, up to where one breaks off; for devices of 0 to 255 blocks, any class, any block.
  Conditions: none beyond the row (every argument that can be read as data); the tables that the row lists hold what the text lays, which the card ties.
-/
import Derived.Test.YtkboafcfpppnmaaDoorPre
import Derived.Test.YtkboafcfpppnmaaDoorCards
import Derived.Test.YtkboafcfpppnmaaDoorTie
import Derived.Deep.DeepHandedRow
import Derived.Lib.LaidTab
import Derived.Test.YtkboafcfpppnmaaDoorAwake09
import Derived.Test.YtkboafcfpppnmaaDoorCellsIter
import Derived.Test.YtkboafcfpppnmaaDoorRefCells
import Derived.Test.YtkboafcfpppnmaaDoorRefInts
import Derived.RangeFuncBox
import Derived.Maps.AppendAt
namespace Go.Proofs.YtkboafcfpppnmaaDoor.cellsAll
open Go.ChangeShapes Go.WideShapes Go.ChangeAt Go.RowKit
open Go.ChangeMaps (open_string shut_string)
set_option linter.unusedVariables false

open Cl Ce

theorem cells_same : ∀ i, i < 32 → sizesI.getD i 0 = (wd i : Int) := by decide

/-- What has come lies in the slice, whose box is block n₀. -/
def inL (n₀ : Nat) (w : World) (pre : List Int) (W : World) : Prop :=
  (∃ v, Boxed W n₀ 28 v ∧ W.ownsRow n₀ 3 1 v pre.length (pre.map (Value.int .i64)) ∧ True) ∧ Below n₀ w W
theorem inL_own (n₀ B : Nat) (w : World) (h0 : n₀ ≤ w.heap.size) (hB : n₀ ≤ B) : OwnFrom B (inL n₀ w) :=
  OwnFrom.and (Own.from (holdsRow_own n₀ n₀ 28 3 1 (fun pre : List Int => pre.length) (fun pre : List Int => pre.map (Value.int .i64)) (fun _ _ => True)) _) (ownFrom_below h0 hB)
/-- The first elements of a slice. -/
theorem ints_take {k : IntKind} {w : World} {ad : Option Addr} {len cap : Nat} {xs : List Int} (h : IsInts k w (.slice ad len cap) xs) {j : Nat} (hj : j ≤ len) : IsInts k w (.slice ad j cap) (xs.take j) := by
  obtain ⟨a', cap', he, hcap, h⟩ := h
  cases he
  have hlen : (xs.take j).length = j := by simp; omega
  refine ⟨ad, cap, by rw [hlen], by omega, ?_⟩
  rcases h with rfl | ⟨b, off, rfl, hb, hc⟩
  · exact .inl (by simp)
  · refine .inr ⟨b, off, rfl, hb, fun i hi => ?_⟩
    rw [hlen] at hi
    rw [hc i (by omega), List.getD_eq_getElem?_getD, List.getD_eq_getElem?_getD, List.getElem?_take_of_lt hi]
attribute [local go_sem] Oper.semAt_some

set_option maxRecDepth 100000 in
set_option maxHeartbeats 1000000 in
theorem walk  (a0 : Int) (a1_0 a1_1 : Int) (a2 : Int) (w : World) (w0 : (Lit.int .u8 a0).wf = true) (w1_0 : (Lit.int .i64 a1_0).wf = true) (w1_1 : (Lit.int .i64 a1_1).wf = true) (w2 : (Lit.int .u8 a2).wf = true) (t0 : Lib.TabIs Tryd.prog w "taproot/class.cell" .i64 [2, 3, 4, 5, 6, 7, 8, 10, 12, 14, 16, 18, 20, 24, 28, 32, 36, 40, 46, 51, 56, 64, 73, 85, 92, 102, 113, 128, 146, 170, 204, 256]) :
    Calls Tryd.prog 4 #[.int .u8 a0, .agg #[.int .i64 a1_0, .int .i64 a1_1], .int .u8 a2] w fun e w' => e = .returned (.bool true) ∧ Below w.heap.size w w' := by
  have hT : HasCells w := fun i hi => by
    have := t0.cell (g := 0) (by kernel_rfl) i hi
    exact this.trans (by rw [← cells_same i hi]; rfl)
  have b0 := bounds_u8 w0
  have b2 := bounds_u8 w2
  have HT := Lib.hid hT
  clear hT t0 w0 w2 w1_0 w1_1
  have HW1 : Hid (∀ W, Below ((w.alloc (.cells #[.int .i64 a1_0, .int .i64 a1_1] 22)).alloc (.cells #[.int .u8 a2] 5)).heap.size ((w.alloc (.cells #[.int .i64 a1_0, .int .i64 a1_1] 22)).alloc (.cells #[.int .u8 a2] 5)) W → BoxT 22 W w.heap.size #[.int .i64 a1_0, .int .i64 a1_1] ∧ BoxT 5 W (w.heap.size + 1) #[.int .u8 a2] ∧ Below w.heap.size w W ∧ w.heap.size + 2 ≤ W.heap.size) := Lib.hid fun W h => boxT_of2 h
  refine (callsIn_wide (n := 6)).1 ?_
  refine callsIn_of_wp_marks Tryd.func4 rfl trivial ?_ rfl
  refine wpIn_wide.2 ?_
  simp only [Tryd.ntmps4, List.size_toArray, List.length_cons, List.length_nil, Nat.reduceAdd, Nat.reduceSub, Array.replicate_succ, Array.replicate_zero, List.push_toArray, List.append_toArray, List.nil_append, List.cons_append]
  go_wp2_with fail
  refine (awake_yes _ (HT.out.below (((Below.refl _ _).alloc (Nat.le_refl _) _).alloc (by simp) _) (Nat.le_refl _))).mono ?_
  rintro e W ⟨rfl, hb⟩
  obtain ⟨p1, p2, hb, s1⟩ := HW1.out _ hb
  have c0 : W.cell? ⟨w.heap.size, 0, none⟩ = some (.int .i64 a1_0) := p1.cell 0
  have c1 : W.cell? ⟨w.heap.size, 1, none⟩ = some (.int .i64 a1_1) := p1.cell 1
  have HB := Lib.hid hb
  have HT1 := Lib.hid (HT.out.below hb (Nat.le_refl _))
  have P2 := Lib.hid p2
  clear hb p1 p2
  have hnil := eqNil
  go_wp2_with fail
  go_quiet (fail)
  clear c0 c1
  go_wp2_with fail
  have s1' : w.heap.size + 2 ≤ (W.drewN nq).heap.size := s1
  have HB1 := Lib.hid (below_drewN HB.out nq)
  have HT2 := Lib.hid (HT1.out.drewN nq)
  have P3 := Lib.hid (P2.out.drewN nq)
  generalize W.drewN nq = V at *
  clear HB HT1 P2 HW1 s1
  refine (cellAll_any _ _ _ _).mono ?_
  rintro e V2 ⟨rfl, hV2⟩
  have HI := iterHas_new V a0 a1_0 a1_1 HT2.out
  rw [← hV2] at HI
  have hs2 : V2.heap.size = V.heap.size + 3 := by rw [hV2]; simp
  have hb2 : Below V.heap.size V V2 := by
    rw [hV2]
    exact (((Below.refl _ _).alloc (by simp) _).alloc (by simp) _).alloc (by simp; omega) _
  have P4 := Lib.hid (P3.out.below hb2 P3.out.lt)
  have HB2 := Lib.hid (below_step HB1.out hb2 (Nat.le_refl _))
  have HI2 := Lib.hid HI
  clear HI hb2 hV2 P3 HB1 HT2
  go_wp2_with fail
  refine (refAll_any _ _ _ _ (by omega)).mono ?_
  rintro e V3 ⟨vw, rfl, hI, hb⟩
  have HWA := Lib.hid hI
  have P5 := Lib.hid (P4.out.below hb P4.out.lt)
  have HB3 := Lib.hid (below_step HB2.out hb (Nat.le_refl _))
  have hs3 : V.heap.size + 3 ≤ V3.heap.size := by have := hb.size; omega
  have HI3 : Hid (IterHas (V.heap.size + 3) a0 a1_0 a1_1 V.heap.size V3) := Lib.hid (HI2.out.on (hb.mono (by omega)))
  clear hI hb P4 HB2 HI2
  go_wp2_with fail
  obtain ⟨U, hU⟩ : ∃ U, V3.alloc (.cells #[.slice none 0 0] 28) = U := ⟨_, rfl⟩
  rw [hU]
  have hUs : U.heap.size = V3.heap.size + 1 := by rw [← hU]; simp
  have hbU : Below V3.heap.size V3 U := by rw [← hU]; exact (Below.refl _ _).alloc (Nat.le_refl _) _
  have H0 : (([] : List Int).length : Int) ≤ a2 ∧ inL V3.heap.size V3 [] U := ⟨by simpa using b2.1, ⟨_, by rw [← hU]; exact Boxed.new V3 28 _, World.ownsRow_nil _ _ _ _, trivial⟩, hbU⟩
  obtain ⟨i0, hi, hz0, hz1, hz2⟩ := info_parts infoInt
  have HBU := Lib.hid hbU
  have hmy := manyC_le a0 a1_0 a1_1
  have HI4 : Hid (IterHas V3.heap.size a0 a1_0 a1_1 V.heap.size U) := Lib.hid fun X h => HI3.out X ((hbU.trans h).mono hs3)
  clear hU hbU hnil HI3
  refine (wpIn_wide (n := 5)).1 ?_
  refine wpIn_rangeFunc_ownF (F := Fence.wide) rfl (by omega) (gf := 26) (lb := #[.pointer (some ⟨V.heap.size + 1, 0, none⟩), .pointer (some ⟨V.heap.size, 0, none⟩), .pointer (some ⟨V.heap.size + 2, 0, none⟩)]) rfl trivial (enters_of Tryd.func26 (by kernel_rfl) rfl)
    (cellIter_stops 4 a0 a1_0 a1_1 V3.heap.size V.heap.size U (by omega) (by omega) HI4.out (by omega)) belowK_t (belowK_b (by omega)) (Below.refl _ _) (fun _ => rfl)
    (fun pre W => ((pre.length : Nat) : Int) ≤ a2 ∧ inL V3.heap.size V3 pre W) (fun c pre W => (c = .exit 0 ∧ ((pre.length : Nat) : Int) = a2 + 1) ∧ inL V3.heap.size V3 pre W)
    (OwnFrom.and (fun _ _ _ _ hs _ _ => hs) (inL_own _ _ _ (Nat.le_refl _) (by omega))) (fun c => OwnFrom.and (fun _ _ _ _ hs _ _ => hs) (inL_own _ _ _ (Nat.le_refl _) (by omega))) H0 ?a1 ?assign ?body ?done ?stop
  case assign =>
    intro l x W K hK
    gi_wp2
    exact hK
  case body =>
    rintro l pre x Z ⟨hN, ⟨v, hv, hrow, -⟩, hbl⟩ hlen
    have p6 := P5.out.below hbl P5.out.lt
    have c2 : Z.cell? ⟨w.heap.size + 1, 0, none⟩ = some (.int .u8 a2) := p6.cell 0
    have hc := hv.cell
    have hp5 := P5.out.lt
    have hps : pre.length ≤ 256 := by omega
    have hsz := hbl.size
    have HP6 := Lib.hid p6
    clear H0 HI4 HWA p6
    by_cases hx : ((pre.length : Nat) : Int) + 1 ≤ a2
    · have hlt : ¬ a2 < ((pre.length : Nat) : Int) + 1 := by omega
      gi_wp2_with (gi_at_builtin; refine wpListIn_append_own _ rfl _ _ 28 rfl V3.heap.size 3 i0 (.int .i64 0) 1 8 Tryd.underlying28 hi hz0 hz1 hz2 rfl (by decide) _ _ _ rfl (hrow.alloc _) ⟨Z.heap.size, 0, none⟩ 1 1 [.int .i64 x] rfl rfl (cell_one_new _ _ _) (by simp [Value.oneCell']) (by unfold maxLen; omega) (by omega) (by simp; omega) ?_; intro v' w1 hown' hgrow _; obtain ⟨g', cap', rfl⟩ := ownsRow_succ hown'; obtain ⟨hv1, hv2, hr2, hk2, hb2⟩ := hv.appended (by decide) hrow hsz (Nat.le_refl _) hown' hgrow; have hc1 := hv1.cell; have hf1 := hv1.frozen; have c3 := (HP6.out.below hb2 (Nat.lt_of_lt_of_le hp5 (Nat.le_refl _))).cell 0; have c4 := hv2.cell)
      refine ⟨hk2, hb2, by simp; omega, ⟨_, hv2, ?_, trivial⟩, hbl.trans hb2⟩
      rw [List.length_append, List.map_append]
      exact hr2
    · have hlt : a2 < ((pre.length : Nat) : Int) + 1 := by omega
      gi_wp2_with (gi_at_builtin; refine wpListIn_append_own _ rfl _ _ 28 rfl V3.heap.size 3 i0 (.int .i64 0) 1 8 Tryd.underlying28 hi hz0 hz1 hz2 rfl (by decide) _ _ _ rfl (hrow.alloc _) ⟨Z.heap.size, 0, none⟩ 1 1 [.int .i64 x] rfl rfl (cell_one_new _ _ _) (by simp [Value.oneCell']) (by unfold maxLen; omega) (by omega) (by simp; omega) ?_; intro v' w1 hown' hgrow _; obtain ⟨g', cap', rfl⟩ := ownsRow_succ hown'; obtain ⟨hv1, hv2, hr2, hk2, hb2⟩ := hv.appended (by decide) hrow hsz (Nat.le_refl _) hown' hgrow; have hc1 := hv1.cell; have hf1 := hv1.frozen; have c3 := (HP6.out.below hb2 (Nat.lt_of_lt_of_le hp5 (Nat.le_refl _))).cell 0; have c4 := hv2.cell)
      refine ⟨hk2, ⟨rfl, by simp; omega⟩, ⟨_, hv2, ?_, trivial⟩, hbl.trans hb2⟩
      rw [List.length_append, List.map_append]
      exact hr2
  case done =>
    rintro D ys Z hD rfl ⟨hN, ⟨v, hv, hrow, -⟩, hbl⟩ hK
    have c2 : Z.cell? ⟨w.heap.size + 1, 0, none⟩ = some (.int .u8 a2) := (P5.out.below hbl P5.out.lt).cell 0
    have hc := hv.cell
    have hgot := IsInts.of_own hrow
    have hwant := HWA.out.below hbl (Nat.le_refl _)
    obtain ⟨ad, cap, rfl, hcap, hw2⟩ := hwant
    have hlen : (allC a0 a1_0 a1_1).length = manyC a0 a1_0 a1_1 := firstC_len _ _ _
    have hwant : IsInts .i64 Z (.slice ad (allC a0 a1_0 a1_1).length cap) (allC a0 a1_0 a1_1) := ⟨ad, cap, rfl, hcap, hw2⟩
    have HK := Lib.hid hK
    have HG := Lib.hid hgot
    have HBZ := Lib.hid (HB3.out.trans (hbl.mono (by have := P5.out.lt; omega)))
    obtain ⟨L, hL⟩ : ∃ L, (allC a0 a1_0 a1_1).length = L := ⟨_, rfl⟩
    rw [hL] at hN hcap hwant ⊢
    have hIu := ints_take hwant (Nat.le_refl L)
    rw [List.take_of_length_le (by omega)] at hIu
    have hw0 : IntKind.i64.wrap a2 = a2 := by rw [IntWalk.i64_left]; unfold wrap64; omega
    have hwr : IntKind.i64.wrap (a2 + 1) = a2 + 1 := by rw [IntWalk.i64_left]; unfold wrap64; omega
    have hite : (if a2 + 1 < (L : Int) then a2 + 1 else (L : Int)) = (L : Int) := if_neg (by omega)
    have hL256 : L ≤ 256 := by omega
    have e1 : (0 : Int) ≤ (L : Nat) := by omega
    have e2 : ((L : Nat) : Int) ≤ (cap : Nat) := by omega
    have HU := Lib.hid hIu
    have RI : Hid (∀ X va vb, IsInts .i64 X va (allC a0 a1_0 a1_1) → IsInts .i64 X vb (allC a0 a1_0 a1_1) → Calls Tryd.prog 15 #[va, vb] X fun e w' => e = .returned (.bool true) ∧ ∃ n, w' = X.drewN n) := Lib.hid fun X va vb h1 h2 => refInts_yes va vb _ X h1 h2 (by omega)
    clear H0 HI4 hK hgot hrow hbl hlen hIu hw2 hcap hwant
    go_wp2_with fail
    go_region_held3 (fun w' => w'.cell? ⟨w.heap.size + 1, 0, none⟩ = some (.int .u8 a2) ∧ w'.cell? ⟨V3.heap.size, 0, none⟩ = some v) (go_keep)
      (first
        | (go_at_call 15; refine (RI.out _ _ _ (show IsInts .i64 (World.drew _) _ _ from HG.out) (show IsInts .i64 (World.drew _) _ _ from HU.out)).mono ?_; rintro e w3 ⟨rfl, m, rfl⟩))
    go_wp2_with fail
    have hKE : (Z.drewN (1 + m)).heap[D]? = some (.deferred (some [])) := HK.out
    refine ⟨by simp, .inl ⟨_, _, rfl, run_takeDeferred hKE, ?_⟩⟩
    exact ⟨_, results_tmp rfl _ _ _, rfl, (below_drewN HBZ.out _).trans (belowK_b (w := U) (by omega) _ D _ _ (by omega) hKE rfl rfl)⟩
  case stop =>
    rintro D c pre Z hD hp ⟨⟨rfl, hN⟩, ⟨v, hv, hrow, -⟩, hbl⟩ hK
    refine wpIn_wide.2 ?_
    have c2 : Z.cell? ⟨w.heap.size + 1, 0, none⟩ = some (.int .u8 a2) := (P5.out.below hbl P5.out.lt).cell 0
    have hc := hv.cell
    have hgot := IsInts.of_own hrow
    have hwant := HWA.out.below hbl (Nat.le_refl _)
    obtain ⟨ad, cap, rfl, hcap, hw2⟩ := hwant
    have hlen : (allC a0 a1_0 a1_1).length = manyC a0 a1_0 a1_1 := firstC_len _ _ _
    have hwant : IsInts .i64 Z (.slice ad (allC a0 a1_0 a1_1).length cap) (allC a0 a1_0 a1_1) := ⟨ad, cap, rfl, hcap, hw2⟩
    have HK := Lib.hid hK
    have HG := Lib.hid hgot
    have HBZ := Lib.hid (HB3.out.trans (hbl.mono (by have := P5.out.lt; omega)))
    obtain ⟨L, hL⟩ : ∃ L, (allC a0 a1_0 a1_1).length = L := ⟨_, rfl⟩
    have hJL : pre.length ≤ L := by rw [← hL]; exact hp.length_le
    have htk : (allC a0 a1_0 a1_1).take pre.length = pre := (List.prefix_iff_eq_take.1 hp).symm
    rw [hL] at hcap hwant ⊢
    have hIu := ints_take hwant hJL
    rw [htk] at hIu
    obtain ⟨J, hJ⟩ : ∃ J, pre.length = J := ⟨_, rfl⟩
    rw [hJ] at hN hJL hIu
    have hw0 : IntKind.i64.wrap a2 = a2 := by rw [IntWalk.i64_left]; unfold wrap64; omega
    have hwr : IntKind.i64.wrap (a2 + 1) = a2 + 1 := by rw [IntWalk.i64_left]; unfold wrap64; omega
    have hite : (if a2 + 1 < (L : Int) then a2 + 1 else (L : Int)) = (J : Int) := by split <;> omega
    have hL256 : L ≤ 256 := by omega
    have e1 : (0 : Int) ≤ (J : Nat) := by omega
    have e2 : ((J : Nat) : Int) ≤ (cap : Nat) := by omega
    have HU := Lib.hid hIu
    have RI : Hid (∀ X va vb, IsInts .i64 X va pre → IsInts .i64 X vb pre → Calls Tryd.prog 15 #[va, vb] X fun e w' => e = .returned (.bool true) ∧ ∃ n, w' = X.drewN n) := Lib.hid fun X va vb h1 h2 => refInts_yes va vb _ X h1 h2 (by omega)
    clear H0 HI4 hK hgot hrow hbl hlen hIu hw2 hcap hwant htk hp hN hJ hL hJL
    go_wp2_with fail
    go_region_held3 (fun w' => w'.cell? ⟨w.heap.size + 1, 0, none⟩ = some (.int .u8 a2) ∧ w'.cell? ⟨V3.heap.size, 0, none⟩ = some v) (go_keep)
      (first
        | (go_at_call 15; refine (RI.out _ _ _ (show IsInts .i64 (World.drew _) _ _ from HG.out) (show IsInts .i64 (World.drew _) _ _ from HU.out)).mono ?_; rintro e w3 ⟨rfl, m, rfl⟩))
    go_wp2_with fail
    have hKE : (Z.drewN (1 + m)).heap[D]? = some (.deferred (some [])) := HK.out
    refine ⟨by simp, .inl ⟨_, _, rfl, run_takeDeferred hKE, ?_⟩⟩
    exact ⟨_, results_tmp rfl _ _ _, rfl, (below_drewN HBZ.out _).trans (belowK_b (w := U) (by omega) _ D _ _ (by omega) hKE rfl rfl)⟩

theorem gTab0 : Tryd.prog.globalNamed "taproot/class.cell" = some 0 := by kernel_rfl
theorem gType0 : (Tryd.prog.globals[0]?).map (·.type) = some 48 := by kernel_rfl
theorem table0 {W : World} (h : laidMetH Tryd.prog Rows.cellsAllRow.laid W) : Lib.TabIs Tryd.prog W "taproot/class.cell" .i64 [2, 3, 4, 5, 6, 7, 8, 10, 12, 14, 16, 18, 20, 24, 28, 32, 36, 40, 46, 51, 56, 64, 73, 85, 92, 102, 113, 128, 146, 170, 204, 256] :=
  Lib.tabIs_of_head gTab0 gType0 Tryd.underlying48 Tryd.underlying3 (by kernel_rfl) (by kernel_rfl) h

theorem contract (H : Type) (enc : TypeId × Value → H) (W : World) (base : Nat) (args : Array Value) (ds gs : List (DataW H)) (before : List MemPlace)
    (hval : ∀ (j : Nat) t v, Tryd.f4.params[j]? = some t → args[j]? = some v → Value.okWide Tryd.prog W .any base t v)
    (hW : DataW.Whole enc Tryd.prog Tryd.f4.params.toList Rows.cellsAllSpec.vars false W args.toList ds gs before) (hL : laidMetH Tryd.prog Rows.cellsAllRow.laid W) :
    Calls Tryd.prog 4 args W fun e W' => ∃ v, e = .returned v ∧ Rows.cellsAllSpec.post enc Tryd.prog Tryd.f4 false true false false W args v W' := by
  have hW' := hW
  obtain ⟨p, q, hA0, hV, rfl, hfz, hnd⟩ := hW
  have hA : DataW.TrodAll enc Tryd.prog W 0 (fun _ => true) true Tryd.f4.params.toList args.toList ds p := hA0
  rw [Tryd.params4] at hA hval
  obtain ⟨v0, vs0, d0, ds0, p0, q0, hargs, rfl, rfl, h0, r0⟩ := trodAll_cons hA
  obtain ⟨v1, vs1, d1, ds1, p1, q1, rfl, rfl, rfl, h1, r1⟩ := trodAll_cons r0
  obtain ⟨v2, vs2, d2, ds2, p2, q2, rfl, rfl, rfl, h2, r2⟩ := trodAll_cons r1
  obtain ⟨rfl, rfl, rfl⟩ := trodAll_nil r2
  obtain rfl : args = #[v0, v1, v2] := by cases args; simp_all
  obtain ⟨rfl, rfl⟩ := trodVars_none hV
  obtain ⟨a0, rfl, rfl, rfl, w0⟩ := open_int Tryd.underlying5 (hval 0 5 v0 rfl rfl) h0
  have k1 := h1
  have lt1 : ∀ x ∈ p1, x.block < W.heap.size := by obtain ⟨m, hm⟩ := k1; exact DataW.trod_lt m _ _ _ hm
  obtain ⟨z1, rfl, hz1, wz1⟩ := arr_of Tryd.underlying22 Tryd.underlying3 (by kernel_rfl) (by kernel_rfl) (hval 1 22 v1 rfl rfl) h1
  obtain ⟨a1_0, a1_1, rfl⟩ := list2 hz1
  have w1_0 : (Lit.int .i64 a1_0).wf = true := wz1 _ (by simp)
  have w1_1 : (Lit.int .i64 a1_1).wf = true := wz1 _ (by simp)
  clear wz1 hz1
  simp only [List.map_cons, List.map_nil] at k1 ⊢
  obtain ⟨a2, rfl, rfl, rfl, w2⟩ := open_int Tryd.underlying5 (hval 2 5 v2 rfl rfl) h2
  clear hA0
  refine (walk a0 a1_0 a1_1 a2 W w0 w1_0 w1_1 w2 (table0 hL)).mono fun e W' ⟨he, bel⟩ => ?_
  subst he
  exact ⟨_, rfl, _, _, _, [], _, [], hW', trodAll_mk1 (shut_bool Tryd.underlying4 _), (trodAll_cons_mk (shut_int Tryd.underlying5 w0) (trodAll_cons_mk (Below.trod laidOut (by kernel_rfl) (of_decide_eq_true (by kernel_rfl)) k1 bel lt1) (trodAll_cons_mk (shut_int Tryd.underlying5 w2) trodAll_mk0))), rfl, bel.frame _, fun h => by cases h⟩

noncomputable def laidWorld (os : Os) : World :=
  { World.holding Tryd.prog os ⟨#[], #[], []⟩ with heap := ((World.holding Tryd.prog os ⟨#[], #[], []⟩).heap).modify 0 fun
      | .cells _ t frozen => .cells #[.int .i64 2, .int .i64 3, .int .i64 4, .int .i64 5, .int .i64 6, .int .i64 7, .int .i64 8, .int .i64 10, .int .i64 12, .int .i64 14, .int .i64 16, .int .i64 18, .int .i64 20, .int .i64 24, .int .i64 28, .int .i64 32, .int .i64 36, .int .i64 40, .int .i64 46, .int .i64 51, .int .i64 56, .int .i64 64, .int .i64 73, .int .i64 85, .int .i64 92, .int .i64 102, .int .i64 113, .int .i64 128, .int .i64 146, .int .i64 170, .int .i64 204, .int .i64 256] t frozen
      | o => o }
theorem laid_met (os : Os) : laidMet Tryd.prog Rows.cellsAllRow.laid ((laidWorld os).forCall (fun _ _ => 0) ⟨#[], #[.int .u8 0, .agg #[.int .i64 0, .int .i64 0], .int .u8 0], []⟩).memory :=
  laidMet_of_run' 8 (by kernel_rfl) (by kernel_rfl)
theorem reads (os : Os) {H : Type} (enc : TypeId × Value → H) : ∃ x, DataW.whole enc Tryd.prog ((laidWorld os).forCall (fun _ _ => 0) ⟨#[], #[.int .u8 0, .agg #[.int .i64 0, .int .i64 0], .int .u8 0], []⟩).memory Tryd.f4.params.toList Rows.cellsAllSpec.vars false (#[.int .u8 0, .agg #[.int .i64 0, .int .i64 0], .int .u8 0] : Array Value).toList 8 = some ([.lit (.int .u8 0), .agg [.lit (.int .i64 0), .lit (.int .i64 0)], .lit (.int .u8 0)], [], x) :=
  ⟨[], by kernel_rfl⟩

set_option maxRecDepth 100000 in
theorem lifted (os : Os) (started : os.Started) (H : Type) (enc : TypeId × Value → H) (F : Stop.Interp) :
    ReturnsInHanded {} Tryd.checked os 4 .any ((OpenSpec.ofChange Rows.cellsAllSpec).preRow enc Tryd.prog Tryd.f4 Rows.cellsAllRow.domain false Rows.cellsAllRow.laid) (((OpenSpec.ofChange Rows.cellsAllSpec).at F).post enc Tryd.prog Tryd.f4 false true false false) := by
  obtain ⟨places, hx⟩ := reads os enc
  refine returnsInHanded_of_row (C := Tryd.checked) (s := OpenSpec.ofChange Rows.cellsAllSpec) own started (by kernel_rfl) Tryd.func4
    (witness_row_at (enc := enc) (C := Tryd.checked) false (laidWorld os) #[.int .u8 0, .agg #[.int .i64 0, .int .i64 0], .int .u8 0] rfl (by kernel_rfl) (by kernel_rfl) (by kernel_rfl)
      (OpenSpec.preRow_of_cond 8 hx (by kernel_rfl) (fun k hk => by cases hk) (by kernel_rfl) (laid_met os))) ?_
  intro W base args ds gs before hval hW _ hcond hreach hL hsh _
  exact contract H enc W base args ds gs before hval hW hL

theorem said : Rows.CellsAllSaid :=
  OpenClaim.holds_of_cond 4 Tryd.f4 rfl rfl rfl rfl rfl rfl rfl ⟨rfl, rfl, rfl, rfl, rfl⟩ rfl rfl rfl rfl rfl (by kernel_rfl) Tryd.func4 (by kernel_rfl)
    (of_decide_eq_true (by kernel_rfl)) (by unfold Func.isWrapper; first | (rw [if_pos (by decide +kernel)]; kernel_rfl) | (rw [if_neg (by decide +kernel)]; exact ⟨rfl, rfl⟩))
    (fun os started H enc _ F => by rw [OpenClaim.pre_eq_preRow]; exact lifted os started H enc F)

theorem plain (f : FuncId) (fn : Func) (hf : Tryd.pinned.checked.prog.funcNamed "taproot/taprootlaw09.CellsAll" = some f) (hfn : Tryd.pinned.checked.prog.funcs[f]? = some fn) :
    false = Tryd.pinned.checked.prog.looks [] ∧ ∀ (j : Nat) t, fn.params[j]? = some t → Tryd.pinned.checked.prog.wantsStandIn t = false := by
  obtain rfl : f = 4 := Option.some.inj ((show Tryd.prog.funcNamed "taproot/taprootlaw09.CellsAll" = some 4 by kernel_rfl).symm.trans hf) |>.symm
  obtain rfl : fn = Tryd.f4 := (Option.some.inj (Tryd.func4.symm.trans hfn)).symm
  refine ⟨by kernel_rfl, fun j t ht => ?_⟩
  rw [Tryd.params4] at ht
  have hm := Array.mem_of_getElem? ht
  simp only [List.mem_toArray, List.mem_cons, List.not_mem_nil, or_false] at hm
  rcases hm with rfl | rfl | rfl
  · exact (show Tryd.prog.wantsStandIn 5 = false by kernel_rfl)
  · exact (show Tryd.prog.wantsStandIn 22 = false by kernel_rfl)
  · exact (show Tryd.prog.wantsStandIn 5 = false by kernel_rfl)

/-- The card: the statement. -/
theorem proved : Rows.CellsAllCardSaid :=
  Claim7.holds_tied_plain_at .later [] _ _ _ _ said (fun _ h => by cases h) (by kernel_rfl) (fun _ h => by cases h) cellsAll_row_tie rfl ⟨rfl, rfl⟩ (by kernel_rfl) rfl plain (by kernel_rfl)
#print axioms proved
end Go.Proofs.YtkboafcfpppnmaaDoor.cellsAll
