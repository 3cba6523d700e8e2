/-
  Any header that is right is read from its word; one that isn't is not, for any block from 0 to 255.
  Conditions: none beyond the row (every argument that can be read as data); the tables that the row lists hold what the text lays, which the card ties.
-/
import Derived.Test.YtgkgpjdgodhnlaaDoorPre
import Derived.Test.YtgkgpjdgodhnlaaDoorCards
import Derived.Test.YtgkgpjdgodhnlaaDoorTie
import Derived.Deep.DeepHandedRow
import Derived.Lib.LaidTab
import Derived.Test.YtgkgpjdgodhnlaaDoorHeadRun
import Derived.Test.YtgkgpjdgodhnlaaDoorHeadDec
import Derived.Test.YtgkgpjdgodhnlaaDoorStructs
namespace Go.Proofs.YtgkgpjdgodhnlaaDoor.bheadBack
open Go.ChangeShapes Go.WideShapes Go.ChangeAt Go.RowKit
open Go.ChangeMaps (open_string shut_string)
set_option linter.unusedVariables false

open Bt Cr Bh

theorem rests_same : ∀ i, i < 16 → ([0, 498536548, 997073096, 651767980, 1994146192, 1802195444, 1303535960, 1342533948, 3988292384, 4027552580, 3604390888, 3412177804, 2607071920, 2262029012, 2685067896, 3183342108] : List Int).getD i 0 = ((tab.getD i 0 : Nat) : Int) := by decide +kernel

set_option maxRecDepth 100000 in
set_option maxHeartbeats 1000000 in
theorem walk  (a0 : Int) (a1_0 a1_1 a1_2 : Int) (w : World) (w0 : (Lit.int .u8 a0).wf = true) (w1_0 : (Lit.int .i64 a1_0).wf = true) (w1_1 : (Lit.int .i64 a1_1).wf = true) (w1_2 : (Lit.int .i64 a1_2).wf = true) (t0 : Lib.TabIs Tryd.prog w "taproot/crc.rests" .u32 [0, 498536548, 997073096, 651767980, 1994146192, 1802195444, 1303535960, 1342533948, 3988292384, 4027552580, 3604390888, 3412177804, 2607071920, 2262029012, 2685067896, 3183342108]) :
    Calls Tryd.prog 4 #[.int .u8 a0, .agg #[.int .i64 a1_0, .int .i64 a1_1, .int .i64 a1_2]] w fun e w' => e = .returned (.bool true) ∧ Below w.heap.size w w' := by
  have hT : HasRests w := fun i hi => by
    have := t0.cell (g := 0) (by kernel_rfl) i hi
    rw [rests_same i hi] at this
    exact this
  have b0 := bounds_u8 w0
  obtain ⟨n, rfl⟩ := Int.eq_ofNat_of_zero_le b0.1
  have hn : n < 256 := by omega
  have hq : wrap64 (256 + (n : Int)) = ((256 + n : Nat) : Int) := by unfold wrap64; omega
  have hp : IntKind.u64.wrap (((256 + n : Nat) : Nat) : Int) = ((256 + n : Nat) : Int) := by rw [IntKind.wrap_u64]; omega
  have hp64 : 256 + n < 2 ^ 64 := by omega
  have hn' : (n : Int) ≤ 255 := by omega
  generalize hpp : 256 + n = p at *
  have HT := Lib.hid hT
  have HQ := Lib.hid hq
  have HP := Lib.hid hp
  clear t0 w0 w1_0 w1_1 w1_2 b0 hT hq hp hpp hn
  have ENC : Hid (∀ w, HasRests w → Calls Tryd.prog 11 #[.int .i64 n, .agg #[.int .i64 a1_0, .int .i64 a1_1, .int .i64 a1_2]] w (MadeOne (.int .u64 (encN a1_0 a1_1 a1_2 p : Nat)) w)) := Lib.hid fun w h => headEnc_any n p p a1_0 a1_1 a1_2 w HQ.out HP.out hp64 h
  have hx := encN_lt a1_0 a1_1 a1_2 p
  have DEC : Hid (∀ w, HasRests w → Calls Tryd.prog 6 #[.int .i64 n, .int .u64 (encN a1_0 a1_1 a1_2 p : Nat)] w (HeadTells (encN a1_0 a1_1 a1_2 p) p w)) := Lib.hid fun w h => headDec_any n p _ p w hx HQ.out HP.out hp64 h
  have RT : Hid (∀ w, Calls Tryd.prog 8 #[.agg #[.int .i64 a1_0, .int .i64 a1_1, .int .i64 a1_2]] w fun e w' => e = .returned (.bool (rightH a1_0 a1_1 a1_2)) ∧ Below w.heap.size w w') := Lib.hid fun w => headRight_any a1_0 a1_1 a1_2 w
  -- what comes back
  have RES : Hid (rightH a1_0 a1_1 a1_2 = true ∧ (codeN (encN a1_0 a1_1 a1_2 p) p = 0 ∧ (okK (encN a1_0 a1_1 a1_2 p) p : Int) = a1_0 ∧ (okC (encN a1_0 a1_1 a1_2 p) p : Int) = a1_1 ∧ (okL (encN a1_0 a1_1 a1_2 p) p : Int) = a1_2) ∨
      rightH a1_0 a1_1 a1_2 = false ∧ ¬ (codeN (encN a1_0 a1_1 a1_2 p) p = 0 ∧ (okK (encN a1_0 a1_1 a1_2 p) p : Int) = a1_0 ∧ (okC (encN a1_0 a1_1 a1_2 p) p : Int) = a1_1 ∧ (okL (encN a1_0 a1_1 a1_2 p) p : Int) = a1_2)) := Lib.hid (by
    cases hr : rightH a1_0 a1_1 a1_2 with
    | true =>
      refine .inl ⟨rfl, ?_⟩
      obtain ⟨k, c, l, e1, e2, e3, -⟩ := right_nat hr
      subst e1 e2 e3
      obtain ⟨g0, g1, g2, g3⟩ := back_all p hr
      exact ⟨g0, by rw [g1], by rw [g2], by rw [g3]⟩
    | false =>
      refine .inr ⟨rfl, ?_⟩
      rw [encN_wrong p hr]
      exact back_none p hr)
  unfold HeadTells at DEC
  generalize codeN (encN a1_0 a1_1 a1_2 p) p = code at *
  generalize okK (encN a1_0 a1_1 a1_2 p) p = k at *
  generalize okC (encN a1_0 a1_1 a1_2 p) p = c at *
  generalize okL (encN a1_0 a1_1 a1_2 p) p = l at *
  generalize encN a1_0 a1_1 a1_2 p = x at *
  generalize rightH a1_0 a1_1 a1_2 = r at *
  have B0 := Lib.hid (fun o => (Below.refl w.heap.size w).alloc (Nat.le_refl _) o)
  go_enter Tryd.func4, Tryd.ntmps4
  go_wp2_with fail
  refine (awake_yes _).mono ?_
  rintro e W ⟨rfl, hb⟩
  obtain ⟨b1, hb, s1⟩ := boxT_of1 hb
  have HB := Lib.hid hb
  have c0 : W.cell? ⟨w.heap.size, 0, none⟩ = some (.int .i64 a1_0) := b1.cell 0
  have c1 : W.cell? ⟨w.heap.size, 1, none⟩ = some (.int .i64 a1_1) := b1.cell 1
  have c2 : W.cell? ⟨w.heap.size, 2, none⟩ = some (.int .i64 a1_2) := b1.cell 2
  have B1 := Lib.hid b1
  clear hb b1
  go_wp2_with fail
  refine (ENC.out _ (HT.out.below HB.out (Nat.le_refl _))).mono ?_
  rintro e W2 ⟨rfl, hb⟩
  have HB2 := Lib.hid (below_step HB.out hb (Nat.le_refl _))
  have B2 := Lib.hid (B1.out.below hb B1.out.lt)
  clear hb c0 c1 c2 B1 HB
  go_wp2_with fail
  refine (DEC.out _ (HT.out.below HB2.out (Nat.le_refl _))).mono ?_
  rintro e W3 ⟨rfl, hb⟩
  have HB3 : Hid (Below w.heap.size w (W3.alloc (.cells #[.int .i64 k, .int .i64 c, .int .i64 l] 23))) := Lib.hid ((below_step HB2.out hb (Nat.le_refl _)).alloc (Nat.le_trans HB2.out.size hb.size) _)
  have B3 : Hid (BoxT 23 (W3.alloc (.cells #[.int .i64 k, .int .i64 c, .int .i64 l] 23)) w.heap.size #[.int .i64 a1_0, .int .i64 a1_1, .int .i64 a1_2]) := Lib.hid ((B2.out.below hb B2.out.lt).alloc _)
  have n3 := BoxT.new 23 W3 #[.int .i64 k, .int .i64 c, .int .i64 l]
  clear hb B2 HB2
  go_wp2_with (first
    | (refine wpList_load_boxT rfl _ _ rfl (b := w.heap.size) rfl B3.out Tryd.underlying23 rfl info3 ?_)
    | fail)
  generalize W3.alloc (.cells #[.int .i64 k, .int .i64 c, .int .i64 l] 23) = V at HB3 B3 n3 ⊢
  generalize W3.heap.size = g at n3 ⊢
  have N3 := Lib.hid n3
  clear n3
  refine (RT.out _).mono ?_
  rintro e W4 ⟨rfl, hb⟩
  have HB4 := Lib.hid (below_step HB3.out hb (Nat.le_refl _))
  have b4 := B3.out.below hb B3.out.lt
  have n4 := N3.out.below hb N3.out.lt
  have c0 : W4.cell? ⟨w.heap.size, 0, none⟩ = some (.int .i64 a1_0) := b4.cell 0
  have c1 : W4.cell? ⟨w.heap.size, 1, none⟩ = some (.int .i64 a1_1) := b4.cell 1
  have c2 : W4.cell? ⟨w.heap.size, 2, none⟩ = some (.int .i64 a1_2) := b4.cell 2
  have d0 : W4.cell? ⟨g, 0, none⟩ = some (.int .i64 k) := n4.cell 0
  have d1 : W4.cell? ⟨g, 1, none⟩ = some (.int .i64 c) := n4.cell 1
  have d2 : W4.cell? ⟨g, 2, none⟩ = some (.int .i64 l) := n4.cell 2
  clear hb b4 n4 B3 N3 HB3
  rcases RES.out with ⟨hr, h0, h1, h2, h3⟩ | ⟨hr, hne⟩
  · subst hr h0
    have heq : ∀ w' : World, (Op.equalIn 10000 23 (.agg #[.int .i64 k, .int .i64 c, .int .i64 l]) (.agg #[.int .i64 a1_0, .int .i64 a1_1, .int .i64 a1_2])).run Tryd.prog w' = .ok true w' := fun w' => by rw [eq3V, h1, h2, h3]; simp
    clear h1 h2 h3
    go_wp2_with fail
    go_ret
    exact ⟨rfl, HB4.out⟩
  · subst hr
    by_cases h0 : code = 0
    · subst h0
      have heq : ∀ w' : World, (Op.equalIn 10000 23 (.agg #[.int .i64 k, .int .i64 c, .int .i64 l]) (.agg #[.int .i64 a1_0, .int .i64 a1_1, .int .i64 a1_2])).run Tryd.prog w' = .ok false w' := fun w' => by
        rw [eq3V]
        congr 1
        rw [← Bool.not_eq_true]
        intro h
        simp only [Bool.and_eq_true, beq_iff_eq] at h
        exact hne ⟨rfl, h.1.1, h.1.2, h.2⟩
      clear hne
      go_wp2_with fail
      go_ret
      exact ⟨rfl, HB4.out⟩
    · have hd : ((code : Int) == 0) = false := by simp; omega
      have hd' : ((code : Int) != 0) = true := by simp; omega
      clear hne h0
      go_wp2_with fail
      go_ret
      exact ⟨rfl, HB4.out⟩

theorem gTab0 : Tryd.prog.globalNamed "taproot/crc.rests" = some 0 := by kernel_rfl
theorem gType0 : (Tryd.prog.globals[0]?).map (·.type) = some 64 := by kernel_rfl
theorem table0 {W : World} (h : laidMetH Tryd.prog Rows.bheadBackRow.laid W) : Lib.TabIs Tryd.prog W "taproot/crc.rests" .u32 [0, 498536548, 997073096, 651767980, 1994146192, 1802195444, 1303535960, 1342533948, 3988292384, 4027552580, 3604390888, 3412177804, 2607071920, 2262029012, 2685067896, 3183342108] :=
  Lib.tabIs_of_head gTab0 gType0 Tryd.underlying64 Tryd.underlying40 (by kernel_rfl) (by kernel_rfl) h

theorem contract (H : Type) (enc : TypeId × Value → H) (W : World) (base : Nat) (args : Array Value) (ds gs : List (DataW H)) (before : List MemPlace)
    (hval : ∀ (j : Nat) t v, Tryd.f4.params[j]? = some t → args[j]? = some v → Value.okWide Tryd.prog W .any base t v)
    (hW : DataW.Whole enc Tryd.prog Tryd.f4.params.toList Rows.bheadBackSpec.vars false W args.toList ds gs before) (hL : laidMetH Tryd.prog Rows.bheadBackRow.laid W) :
    Calls Tryd.prog 4 args W fun e W' => ∃ v, e = .returned v ∧ Rows.bheadBackSpec.post enc Tryd.prog Tryd.f4 false true false false W args v W' := by
  have hW' := hW
  obtain ⟨p, q, hA0, hV, rfl, hfz, hnd⟩ := hW
  have hA : DataW.TrodAll enc Tryd.prog W 0 (fun _ => true) true Tryd.f4.params.toList args.toList ds p := hA0
  rw [Tryd.params4] at hA hval
  obtain ⟨v0, vs0, d0, ds0, p0, q0, hargs, rfl, rfl, h0, r0⟩ := trodAll_cons hA
  obtain ⟨v1, vs1, d1, ds1, p1, q1, rfl, rfl, rfl, h1, r1⟩ := trodAll_cons r0
  obtain ⟨rfl, rfl, rfl⟩ := trodAll_nil r1
  obtain rfl : args = #[v0, v1] := by cases args; simp_all
  obtain ⟨rfl, rfl⟩ := trodVars_none hV
  obtain ⟨a0, rfl, rfl, rfl, w0⟩ := open_int Tryd.underlying5 (hval 0 5 v0 rfl rfl) h0
  have k1 := h1
  have lt1 : ∀ x ∈ p1, x.block < W.heap.size := by obtain ⟨m, hm⟩ := k1; exact DataW.trod_lt m _ _ _ hm
  obtain ⟨z1, hz1, rfl, wz1⟩ := struct_ints Tryd.underlying23 (by kernel_rfl) [.i64, .i64, .i64] (by kernel_rfl) (by kernel_rfl) (by kernel_rfl) (hval 1 23 v1 rfl rfl) h1
  obtain ⟨a1_0, a1_1, a1_2, rfl⟩ := list3 hz1
  have w1_0 : (Lit.int .i64 a1_0).wf = true := wz1 (.i64, a1_0) (by simp)
  have w1_1 : (Lit.int .i64 a1_1).wf = true := wz1 (.i64, a1_1) (by simp)
  have w1_2 : (Lit.int .i64 a1_2).wf = true := wz1 (.i64, a1_2) (by simp)
  clear wz1 hz1
  simp only [vals, List.zip_cons_cons, List.zip_nil_right, List.map_cons, List.map_nil] at k1 ⊢
  clear hA0
  refine (walk a0 a1_0 a1_1 a1_2 W w0 w1_0 w1_1 w1_2 (table0 hL)).mono fun e W' ⟨he, bel⟩ => ?_
  subst he
  exact ⟨_, rfl, _, _, _, [], _, [], hW', trodAll_mk1 (shut_bool Tryd.underlying4 _), (trodAll_cons_mk (shut_int Tryd.underlying5 w0) (trodAll_cons_mk (Below.trod laidOut (by kernel_rfl) (of_decide_eq_true (by kernel_rfl)) k1 bel lt1) trodAll_mk0)), rfl, bel.frame _, fun h => by cases h⟩

noncomputable def laidWorld (os : Os) : World :=
  { World.holding Tryd.prog os ⟨#[], #[], []⟩ with heap := ((World.holding Tryd.prog os ⟨#[], #[], []⟩).heap).modify 0 fun
      | .cells _ t frozen => .cells #[.int .u32 0, .int .u32 498536548, .int .u32 997073096, .int .u32 651767980, .int .u32 1994146192, .int .u32 1802195444, .int .u32 1303535960, .int .u32 1342533948, .int .u32 3988292384, .int .u32 4027552580, .int .u32 3604390888, .int .u32 3412177804, .int .u32 2607071920, .int .u32 2262029012, .int .u32 2685067896, .int .u32 3183342108] t frozen
      | o => o }
theorem laid_met (os : Os) : laidMet Tryd.prog Rows.bheadBackRow.laid ((laidWorld os).forCall (fun _ _ => 0) ⟨#[], #[.int .u8 0, .agg #[.int .i64 0, .int .i64 0, .int .i64 0]], []⟩).memory :=
  laidMet_of_run' 8 (by kernel_rfl) (by kernel_rfl)
theorem reads (os : Os) {H : Type} (enc : TypeId × Value → H) : ∃ x, DataW.whole enc Tryd.prog ((laidWorld os).forCall (fun _ _ => 0) ⟨#[], #[.int .u8 0, .agg #[.int .i64 0, .int .i64 0, .int .i64 0]], []⟩).memory Tryd.f4.params.toList Rows.bheadBackSpec.vars false (#[.int .u8 0, .agg #[.int .i64 0, .int .i64 0, .int .i64 0]] : Array Value).toList 8 = some ([.lit (.int .u8 0), .agg [.lit (.int .i64 0), .lit (.int .i64 0), .lit (.int .i64 0)]], [], x) :=
  ⟨[], by kernel_rfl⟩

set_option maxRecDepth 100000 in
theorem lifted (os : Os) (started : os.Started) (H : Type) (enc : TypeId × Value → H) (F : Stop.Interp) :
    ReturnsInHanded {} Tryd.checked os 4 .any ((OpenSpec.ofChange Rows.bheadBackSpec).preRow enc Tryd.prog Tryd.f4 Rows.bheadBackRow.domain false Rows.bheadBackRow.laid) (((OpenSpec.ofChange Rows.bheadBackSpec).at F).post enc Tryd.prog Tryd.f4 false true false false) := by
  obtain ⟨places, hx⟩ := reads os enc
  refine returnsInHanded_of_row (C := Tryd.checked) (s := OpenSpec.ofChange Rows.bheadBackSpec) own started (by kernel_rfl) Tryd.func4
    (witness_row_at (enc := enc) (C := Tryd.checked) false (laidWorld os) #[.int .u8 0, .agg #[.int .i64 0, .int .i64 0, .int .i64 0]] rfl (by kernel_rfl) (by kernel_rfl) (by kernel_rfl)
      (OpenSpec.preRow_of_cond 8 hx (by kernel_rfl) (fun k hk => by cases hk) (by kernel_rfl) (laid_met os))) ?_
  intro W base args ds gs before hval hW _ hcond hreach hL hsh _
  exact contract H enc W base args ds gs before hval hW hL

theorem said : Rows.BheadBackSaid :=
  OpenClaim.holds_of_cond 4 Tryd.f4 rfl rfl rfl rfl rfl rfl rfl ⟨rfl, rfl, rfl, rfl, rfl⟩ rfl rfl rfl rfl rfl (by kernel_rfl) Tryd.func4 (by kernel_rfl)
    (of_decide_eq_true (by kernel_rfl)) (by unfold Func.isWrapper; first | (rw [if_pos (by decide +kernel)]; kernel_rfl) | (rw [if_neg (by decide +kernel)]; exact ⟨rfl, rfl⟩))
    (fun os started H enc _ F => by rw [OpenClaim.pre_eq_preRow]; exact lifted os started H enc F)

theorem plain (f : FuncId) (fn : Func) (hf : Tryd.pinned.checked.prog.funcNamed "taproot/taprootlaw07.BheadBack" = some f) (hfn : Tryd.pinned.checked.prog.funcs[f]? = some fn) :
    false = Tryd.pinned.checked.prog.looks [] ∧ ∀ (j : Nat) t, fn.params[j]? = some t → Tryd.pinned.checked.prog.wantsStandIn t = false := by
  obtain rfl : f = 4 := Option.some.inj ((show Tryd.prog.funcNamed "taproot/taprootlaw07.BheadBack" = some 4 by kernel_rfl).symm.trans hf) |>.symm
  obtain rfl : fn = Tryd.f4 := (Option.some.inj (Tryd.func4.symm.trans hfn)).symm
  refine ⟨by kernel_rfl, fun j t ht => ?_⟩
  rw [Tryd.params4] at ht
  have hm := Array.mem_of_getElem? ht
  simp only [List.mem_toArray, List.mem_cons, List.not_mem_nil, or_false] at hm
  rcases hm with rfl | rfl
  · exact (show Tryd.prog.wantsStandIn 5 = false by kernel_rfl)
  · exact (show Tryd.prog.wantsStandIn 23 = false by kernel_rfl)

/-- The card: the statement. -/
theorem proved : Rows.BheadBackCardSaid :=
  Claim7.holds_tied_plain_at .later [] _ _ _ _ said (fun _ h => by cases h) (by kernel_rfl) (fun _ h => by cases h) bheadBack_row_tie rfl ⟨rfl, rfl⟩ (by kernel_rfl) rfl plain (by kernel_rfl)
#print axioms proved
end Go.Proofs.YtgkgpjdgodhnlaaDoor.bheadBack
