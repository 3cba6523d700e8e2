/-
  Of which class any number of words is, and how many words any object has, is what the page says, for all numbers.
  Conditions: none beyond the row (every argument that can be read as data); the tables that the row lists hold what the text lays, which the card ties.
-/
import Derived.Test.YthpbfdfgnhemnaaDoorPre
import Derived.Test.YthpbfdfgnhemnaaDoorCards
import Derived.Test.YthpbfdfgnhemnaaDoorTie
import Derived.Deep.DeepHandedRow
import Derived.Lib.LaidTab
import Derived.Test.YthpbfdfgnhemnaaDoorAwake06
import Derived.Test.YthpbfdfgnhemnaaDoorRefClass
namespace Go.Proofs.YthpbfdfgnhemnaaDoor.classOf
open Go.ChangeShapes Go.WideShapes Go.ChangeAt Go.RowKit
open Go.ChangeMaps (open_string shut_string)
set_option linter.unusedVariables false

open Cl

theorem cells_same : ∀ i, i < 32 → sizesI.getD i 0 = (wd i : Int) := by decide

set_option maxRecDepth 100000 in
set_option maxHeartbeats 1000000 in
theorem walk  (a0 : Int) (a1 : Int) (a2 : Int) (w : World) (w0 : (Lit.int .i64 a0).wf = true) (w1 : (Lit.int .i64 a1).wf = true) (w2 : (Lit.int .i64 a2).wf = true) (t0 : Lib.TabIs Tryd.prog w "taproot/class.cell" .i64 [2, 3, 4, 5, 6, 7, 8, 10, 12, 14, 16, 18, 20, 24, 28, 32, 36, 40, 46, 51, 56, 64, 73, 85, 92, 102, 113, 128, 146, 170, 204, 256]) :
    Calls Tryd.prog 4 #[.int .i64 a0, .int .i64 a1, .int .i64 a2] w fun e w' => e = .returned (.bool true) ∧ Below w.heap.size w w' := by
  have hT : HasCells w := fun i hi => by
    have := t0.cell (g := 0) (by kernel_rfl) i hi
    exact this.trans (by rw [← cells_same i hi]; rfl)
  have HT := Lib.hid hT
  clear hT t0 w0 w1 w2
  have HO : Hid (∃ (k : Nat) (ok : Bool) (z : Int), (ok = true ∧ z = k ∨ ok = false ∧ z = -1 ∧ k = 0) ∧
      (∀ w, HasCells w → Calls Tryd.prog 13 #[.int .i64 a0] w fun e w' => e = .returned (.tuple #[.int .i64 (k : Nat), .bool ok]) ∧ w = w') ∧
      (∀ w, Calls Tryd.prog 14 #[.int .i64 a0] w fun e w' => e = .returned (.int .i64 z) ∧ Below w.heap.size w w')) := Lib.hid (by
    cases hc : clsC a0 with
    | none =>
      refine ⟨0, false, -1, .inr ⟨rfl, rfl, rfl⟩, fun w h => ?_, fun w => ?_⟩
      · have := of_any a0 w h
        unfold OfIs at this
        rwa [hc] at this
      · have := refOf_any a0 w
        unfold RefOfIs at this
        rwa [hc] at this
    | some k =>
      refine ⟨k, true, k, .inl ⟨rfl, rfl⟩, fun w h => ?_, fun w => ?_⟩
      · have := of_any a0 w h
        unfold OfIs at this
        rwa [hc] at this
      · have := refOf_any a0 w
        unfold RefOfIs at this
        rwa [hc] at this)
  obtain ⟨k, ok, z, hz, ho, hr⟩ := HO.out
  clear HO
  have HO := Lib.hid ho
  have HR := Lib.hid hr
  clear ho hr
  have HS : Hid (∃ n e : Int, ((0 ≤ a1 ∧ a1 ≤ 63) ∧ (0 ≤ a2 ∧ a2 ≤ 16384) ∧ n = 1 + a1 + a2 ∧ e = 0 ∨ ¬ ((0 ≤ a1 ∧ a1 ≤ 63) ∧ (0 ≤ a2 ∧ a2 ≤ 16384)) ∧ n = 0 ∧ e = 5) ∧
      ∀ w, Calls Tryd.prog 15 #[.int .i64 a1, .int .i64 a2] w fun x w' => x = .returned (.tuple #[.int .i64 n, .int .i64 e]) ∧ w = w') := Lib.hid (by
    by_cases h : (0 ≤ a1 ∧ a1 ≤ 63) ∧ (0 ≤ a2 ∧ a2 ≤ 16384)
    · refine ⟨1 + a1 + a2, 0, .inl ⟨h.1, h.2, rfl, rfl⟩, fun w => ?_⟩
      have := size_any a1 a2 w
      unfold SizeIs at this
      simpa only [if_pos h] using this
    · refine ⟨0, 5, .inr ⟨h, rfl, rfl⟩, fun w => ?_⟩
      have := size_any a1 a2 w
      unfold SizeIs at this
      simpa only [if_neg h] using this)
  obtain ⟨n, e, hne, hs⟩ := HS.out
  clear HS
  have HS := Lib.hid hs
  have HNE := Lib.hid hne
  clear hs hne
  have BAD : ¬ ((0 ≤ a1 ∧ a1 ≤ 63) ∧ (0 ≤ a2 ∧ a2 ≤ 16384)) → a1 < 0 ∨ (decide (a1 < 0) = false ∧ 63 < a1) ∨ (decide (a1 < 0) = false ∧ decide (63 < a1) = false ∧ a2 < 0) ∨ (decide (a1 < 0) = false ∧ decide (63 < a1) = false ∧ decide (a2 < 0) = false ∧ 16384 < a2) := by
    intro h
    simp only [decide_eq_false_iff_not]
    omega
  have enter : Calls Tryd.prog 4 #[.int .i64 a0, .int .i64 a1, .int .i64 a2] w fun e w' => e = .returned (.bool true) ∧ Below w.heap.size w w' := by
    rcases hz with ⟨rfl, rfl⟩ | ⟨rfl, rfl, rfl⟩
    all_goals
      go_enter Tryd.func4, Tryd.ntmps4
      go_wp2_with fail
      refine (awake_yes _ HT.out).mono ?_
      rintro e w' ⟨rfl, rfl⟩
      go_wp2_with fail
      refine (HO.out _ HT.out).mono ?_
      rintro e w' ⟨rfl, rfl⟩
      go_wp2_with fail
      refine (HR.out _).mono ?_
      rintro e w1 ⟨rfl, b1⟩
      have B1 := Lib.hid b1
      clear b1
      go_wp2_with fail
      refine (HS.out _).mono ?_
      rintro e w' ⟨rfl, rfl⟩
    · have hk0 : 0 ≤ (k : Int) := by omega
      rcases HNE.out with ⟨⟨g1, g2⟩, ⟨g3, g4⟩, rfl, rfl⟩ | ⟨hb, rfl, rfl⟩
      · go_wp2_with fail
        go_ret
        exact ⟨rfl, B1.out⟩
      · rcases BAD hb with h | ⟨h, h'⟩ | ⟨h, h', h''⟩ | ⟨h, h', h'', h'''⟩
        all_goals
          clear hb
          go_wp2_with fail
          go_ret
          exact ⟨rfl, B1.out⟩
    · rcases HNE.out with ⟨⟨g1, g2⟩, ⟨g3, g4⟩, rfl, rfl⟩ | ⟨hb, rfl, rfl⟩
      · go_wp2_with fail
        go_ret
        exact ⟨rfl, B1.out⟩
      · rcases BAD hb with h | ⟨h, h'⟩ | ⟨h, h', h''⟩ | ⟨h, h', h'', h'''⟩
        all_goals
          clear hb
          go_wp2_with fail
          go_ret
          exact ⟨rfl, B1.out⟩
  exact enter

theorem gTab0 : Tryd.prog.globalNamed "taproot/class.cell" = some 0 := by kernel_rfl
theorem gType0 : (Tryd.prog.globals[0]?).map (·.type) = some 36 := by kernel_rfl
theorem table0 {W : World} (h : laidMetH Tryd.prog Rows.classOfRow.laid W) : Lib.TabIs Tryd.prog W "taproot/class.cell" .i64 [2, 3, 4, 5, 6, 7, 8, 10, 12, 14, 16, 18, 20, 24, 28, 32, 36, 40, 46, 51, 56, 64, 73, 85, 92, 102, 113, 128, 146, 170, 204, 256] :=
  Lib.tabIs_of_head gTab0 gType0 Tryd.underlying36 Tryd.underlying3 (by kernel_rfl) (by kernel_rfl) h

theorem contract (H : Type) (enc : TypeId × Value → H) (W : World) (base : Nat) (args : Array Value) (ds gs : List (DataW H)) (before : List MemPlace)
    (hval : ∀ (j : Nat) t v, Tryd.f4.params[j]? = some t → args[j]? = some v → Value.okWide Tryd.prog W .any base t v)
    (hW : DataW.Whole enc Tryd.prog Tryd.f4.params.toList Rows.classOfSpec.vars false W args.toList ds gs before) (hL : laidMetH Tryd.prog Rows.classOfRow.laid W) :
    Calls Tryd.prog 4 args W fun e W' => ∃ v, e = .returned v ∧ Rows.classOfSpec.post enc Tryd.prog Tryd.f4 false true false false W args v W' := by
  have hW' := hW
  obtain ⟨p, q, hA0, hV, rfl, hfz, hnd⟩ := hW
  have hA : DataW.TrodAll enc Tryd.prog W 0 (fun _ => true) true Tryd.f4.params.toList args.toList ds p := hA0
  rw [Tryd.params4] at hA hval
  obtain ⟨v0, vs0, d0, ds0, p0, q0, hargs, rfl, rfl, h0, r0⟩ := trodAll_cons hA
  obtain ⟨v1, vs1, d1, ds1, p1, q1, rfl, rfl, rfl, h1, r1⟩ := trodAll_cons r0
  obtain ⟨v2, vs2, d2, ds2, p2, q2, rfl, rfl, rfl, h2, r2⟩ := trodAll_cons r1
  obtain ⟨rfl, rfl, rfl⟩ := trodAll_nil r2
  obtain rfl : args = #[v0, v1, v2] := by cases args; simp_all
  obtain ⟨rfl, rfl⟩ := trodVars_none hV
  obtain ⟨a0, rfl, rfl, rfl, w0⟩ := open_int Tryd.underlying3 (hval 0 3 v0 rfl rfl) h0
  obtain ⟨a1, rfl, rfl, rfl, w1⟩ := open_int Tryd.underlying3 (hval 1 3 v1 rfl rfl) h1
  obtain ⟨a2, rfl, rfl, rfl, w2⟩ := open_int Tryd.underlying3 (hval 2 3 v2 rfl rfl) h2
  clear hA0
  refine (walk a0 a1 a2 W w0 w1 w2 (table0 hL)).mono fun e W' ⟨he, bel⟩ => ?_
  subst he
  exact ⟨_, rfl, _, _, _, [], _, [], hW', trodAll_mk1 (shut_bool Tryd.underlying4 _), (trodAll_cons_mk (shut_int Tryd.underlying3 w0) (trodAll_cons_mk (shut_int Tryd.underlying3 w1) (trodAll_cons_mk (shut_int Tryd.underlying3 w2) trodAll_mk0))), rfl, bel.frame _, fun h => by cases h⟩

noncomputable def laidWorld (os : Os) : World :=
  { World.holding Tryd.prog os ⟨#[], #[], []⟩ with heap := ((World.holding Tryd.prog os ⟨#[], #[], []⟩).heap).modify 0 fun
      | .cells _ t frozen => .cells #[.int .i64 2, .int .i64 3, .int .i64 4, .int .i64 5, .int .i64 6, .int .i64 7, .int .i64 8, .int .i64 10, .int .i64 12, .int .i64 14, .int .i64 16, .int .i64 18, .int .i64 20, .int .i64 24, .int .i64 28, .int .i64 32, .int .i64 36, .int .i64 40, .int .i64 46, .int .i64 51, .int .i64 56, .int .i64 64, .int .i64 73, .int .i64 85, .int .i64 92, .int .i64 102, .int .i64 113, .int .i64 128, .int .i64 146, .int .i64 170, .int .i64 204, .int .i64 256] t frozen
      | o => o }
theorem laid_met (os : Os) : laidMet Tryd.prog Rows.classOfRow.laid ((laidWorld os).forCall (fun _ _ => 0) ⟨#[], #[.int .i64 0, .int .i64 0, .int .i64 0], []⟩).memory :=
  laidMet_of_run' 8 (by kernel_rfl) (by kernel_rfl)
theorem reads (os : Os) {H : Type} (enc : TypeId × Value → H) : ∃ x, DataW.whole enc Tryd.prog ((laidWorld os).forCall (fun _ _ => 0) ⟨#[], #[.int .i64 0, .int .i64 0, .int .i64 0], []⟩).memory Tryd.f4.params.toList Rows.classOfSpec.vars false (#[.int .i64 0, .int .i64 0, .int .i64 0] : Array Value).toList 8 = some ([.lit (.int .i64 0), .lit (.int .i64 0), .lit (.int .i64 0)], [], x) :=
  ⟨[], by kernel_rfl⟩

set_option maxRecDepth 100000 in
theorem lifted (os : Os) (started : os.Started) (H : Type) (enc : TypeId × Value → H) (F : Stop.Interp) :
    ReturnsInHanded {} Tryd.checked os 4 .any ((OpenSpec.ofChange Rows.classOfSpec).preRow enc Tryd.prog Tryd.f4 Rows.classOfRow.domain false Rows.classOfRow.laid) (((OpenSpec.ofChange Rows.classOfSpec).at F).post enc Tryd.prog Tryd.f4 false true false false) := by
  obtain ⟨places, hx⟩ := reads os enc
  refine returnsInHanded_of_row (C := Tryd.checked) (s := OpenSpec.ofChange Rows.classOfSpec) own started (by kernel_rfl) Tryd.func4
    (witness_row_at (enc := enc) (C := Tryd.checked) false (laidWorld os) #[.int .i64 0, .int .i64 0, .int .i64 0] rfl (by kernel_rfl) (by kernel_rfl) (by kernel_rfl)
      (OpenSpec.preRow_of_cond 8 hx (by kernel_rfl) (fun k hk => by cases hk) (by kernel_rfl) (laid_met os))) ?_
  intro W base args ds gs before hval hW _ hcond hreach hL hsh _
  exact contract H enc W base args ds gs before hval hW hL

theorem said : Rows.ClassOfSaid :=
  OpenClaim.holds_of_cond 4 Tryd.f4 rfl rfl rfl rfl rfl rfl rfl ⟨rfl, rfl, rfl, rfl, rfl⟩ rfl rfl rfl rfl rfl (by kernel_rfl) Tryd.func4 (by kernel_rfl)
    (of_decide_eq_true (by kernel_rfl)) (by unfold Func.isWrapper; first | (rw [if_pos (by decide +kernel)]; kernel_rfl) | (rw [if_neg (by decide +kernel)]; exact ⟨rfl, rfl⟩))
    (fun os started H enc _ F => by rw [OpenClaim.pre_eq_preRow]; exact lifted os started H enc F)

theorem plain (f : FuncId) (fn : Func) (hf : Tryd.pinned.checked.prog.funcNamed "taproot/taprootlaw06.ClassOf" = some f) (hfn : Tryd.pinned.checked.prog.funcs[f]? = some fn) :
    false = Tryd.pinned.checked.prog.looks [] ∧ ∀ (j : Nat) t, fn.params[j]? = some t → Tryd.pinned.checked.prog.wantsStandIn t = false := by
  obtain rfl : f = 4 := Option.some.inj ((show Tryd.prog.funcNamed "taproot/taprootlaw06.ClassOf" = some 4 by kernel_rfl).symm.trans hf) |>.symm
  obtain rfl : fn = Tryd.f4 := (Option.some.inj (Tryd.func4.symm.trans hfn)).symm
  refine ⟨by kernel_rfl, fun j t ht => ?_⟩
  rw [Tryd.params4] at ht
  have hm := Array.mem_of_getElem? ht
  simp only [List.mem_toArray, List.mem_cons, List.not_mem_nil, or_false] at hm
  rcases hm with rfl | rfl | rfl
  · exact (show Tryd.prog.wantsStandIn 3 = false by kernel_rfl)
  · exact (show Tryd.prog.wantsStandIn 3 = false by kernel_rfl)
  · exact (show Tryd.prog.wantsStandIn 3 = false by kernel_rfl)

/-- The card: the statement. -/
theorem proved : Rows.ClassOfCardSaid :=
  Claim7.holds_tied_plain_at .later [] _ _ _ _ said (fun _ h => by cases h) (by kernel_rfl) (fun _ h => by cases h) classOf_row_tie rfl ⟨rfl, rfl⟩ (by kernel_rfl) rfl plain (by kernel_rfl)
#print axioms proved
end Go.Proofs.YthpbfdfgnhemnaaDoor.classOf
