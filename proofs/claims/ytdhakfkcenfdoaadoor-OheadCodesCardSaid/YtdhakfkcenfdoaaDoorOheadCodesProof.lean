/-
  Any object has the page's word at any address; any word is, at any address, the page's object, or its fault; for all addresses, objects and words.
  Conditions: none beyond the row (every argument that can be read as data); the tables that the row lists hold what the text lays, which the card ties.
-/
import Derived.Test.YtdhakfkcenfdoaaDoorPre
import Derived.Test.YtdhakfkcenfdoaaDoorCards
import Derived.Test.YtdhakfkcenfdoaaDoorTie
import Derived.Deep.DeepHandedRow
import Derived.Lib.LaidTab
import Derived.Test.YtdhakfkcenfdoaaDoorAwake08
import Derived.Test.YtdhakfkcenfdoaaDoorObjDec
import Derived.Deep.RegionHeld3
import Derived.Test.YtdhakfkcenfdoaaDoorStructs
namespace Go.Proofs.YtdhakfkcenfdoaaDoor.oheadCodes
open Go.ChangeShapes Go.WideShapes Go.ChangeAt Go.RowKit
open Go.ChangeMaps (open_string shut_string)
set_option linter.unusedVariables false

open Bt Cr Oh

theorem rests_same : ∀ i, i < 16 → ([0, 498536548, 997073096, 651767980, 1994146192, 1802195444, 1303535960, 1342533948, 3988292384, 4027552580, 3604390888, 3412177804, 2607071920, 2262029012, 2685067896, 3183342108] : List Int).getD i 0 = ((tab.getD i 0 : Nat) : Int) := by decide +kernel
theorem selfR (k c : Nat) (w : World) : (Op.equalIn 10000 29 (.agg #[.int .i64 k, .int .i64 c]) (.agg #[.int .i64 k, .int .i64 c])).run Tryd.prog w = .ok true w := by
  rw [eqRO]; simp
/-- The law's three boxes. -/
structure Bx (w : World) (W : World) (b g g' : Nat) (x y k c : Int) : Prop where
  below : Below w.heap.size w W
  h : BoxT 23 W b #[.int .i64 x, .int .i64 y]
  d : BoxT 23 W g #[.int .i64 k, .int .i64 c]
  r : BoxT 29 W g' #[.int .i64 k, .int .i64 c]
theorem Bx.step {w W W' : World} {b g g' : Nat} {x y k c : Int} (i : Bx w W b g g' x y k c) (hb : Below W.heap.size W W') : Bx w W' b g g' x y k c :=
  ⟨i.below.trans (hb.mono i.below.size), i.h.below hb i.h.lt, i.d.below hb i.d.lt, i.r.below hb i.r.lt⟩
theorem Bx.drew {w W : World} {b g g' : Nat} {x y k c : Int} (i : Bx w W b g g' x y k c) : Bx w W.drew b g g' x y k c := ⟨below_drewN i.below 1, i.h, i.d, i.r⟩
theorem Bx.facts {w W : World} {b g g' : Nat} {x y k c : Int} (i : Bx w W b g g' x y k c) :
    W.cell? ⟨b, 0, none⟩ = some (.int .i64 x) ∧ W.cell? ⟨b, 1, none⟩ = some (.int .i64 y) ∧
    W.cell? ⟨g, 0, none⟩ = some (.int .i64 k) ∧ W.cell? ⟨g, 1, none⟩ = some (.int .i64 c) ∧
    W.cell? ⟨g', 0, none⟩ = some (.int .i64 k) ∧ W.cell? ⟨g', 1, none⟩ = some (.int .i64 c) :=
  ⟨i.h.cell 0, i.h.cell 1, i.d.cell 0, i.d.cell 1, i.r.cell 0, i.r.cell 1⟩

set_option maxRecDepth 100000 in
set_option maxHeartbeats 1000000 in
theorem walk  (a0 : Int) (a1_0 a1_1 : Int) (a2 : Int) (w : World) (w0 : (Lit.int .i64 a0).wf = true) (w1_0 : (Lit.int .i64 a1_0).wf = true) (w1_1 : (Lit.int .i64 a1_1).wf = true) (w2 : (Lit.int .u64 a2).wf = true) (t0 : Lib.TabIs Tryd.prog w "taproot/crc.rests" .u32 [0, 498536548, 997073096, 651767980, 1994146192, 1802195444, 1303535960, 1342533948, 3988292384, 4027552580, 3604390888, 3412177804, 2607071920, 2262029012, 2685067896, 3183342108]) :
    Calls Tryd.prog 3 #[.int .i64 a0, .agg #[.int .i64 a1_0, .int .i64 a1_1], .int .u64 a2] w fun e w' => e = .returned (.bool true) ∧ Below w.heap.size w w' := by
  have hT : HasRests w := fun i hi => by
    have := t0.cell (g := 1) (by kernel_rfl) i hi
    rw [rests_same i hi] at this
    exact this
  have b2 := bounds_u64 w2
  obtain ⟨x, rfl⟩ := Int.eq_ofNat_of_zero_le b2.1
  have hx : x < 2 ^ 64 := by omega
  obtain ⟨p, hp, hp64⟩ : ∃ p : Nat, IntKind.u64.wrap a0 = (p : Int) ∧ p < 2 ^ 64 := ⟨(IntKind.u64.wrap a0).toNat, by rw [IntKind.wrap_u64]; omega, by rw [IntKind.wrap_u64]; omega⟩
  have HT := Lib.hid hT
  have HP := Lib.hid hp
  clear t0 w0 w1_0 w1_1 w2 b2 hT hp
  have ENC : Hid (∀ w, HasRests w → Calls Tryd.prog 9 #[.agg #[.int .i64 a1_0, .int .i64 a1_1], .int .i64 a0] w (MadeOne (.int .u64 (encO a1_0 a1_1 p : Nat)) w)) := Lib.hid fun w h => objEnc_any a0 p a1_0 a1_1 w HP.out hp64 h
  have RENC : Hid (∀ w, Calls Tryd.prog 10 #[.agg #[.int .i64 a1_0, .int .i64 a1_1], .int .i64 a0] w (MadeOne (.int .u64 (encO a1_0 a1_1 p : Nat)) w)) := Lib.hid fun w => refObjEnc_any a0 p a1_0 a1_1 w HP.out hp64
  have DEC : Hid (∀ w, HasRests w → Calls Tryd.prog 7 #[.int .i64 a0, .int .u64 x] w (ObjTells x p w)) := Lib.hid fun w h => objDec_any a0 x p w hx HP.out hp64 h
  have RDEC : Hid (∀ w, Calls Tryd.prog 8 #[.int .i64 a0, .int .u64 x] w (ObjTells x p w)) := Lib.hid fun w => refObjDec_any a0 x p w hx HP.out hp64
  unfold ObjTells at DEC RDEC
  generalize codeO x p = code at *
  generalize okP x p = k at *
  generalize okD x p = c at *
  generalize encO a1_0 a1_1 p = y at *
  have heq := selfR k c
  go_enter Tryd.func3, Tryd.ntmps3
  go_wp2_with fail
  refine (awake_yes _).mono ?_
  rintro e W ⟨rfl, hb⟩
  obtain ⟨b1, hb, s1⟩ := boxT_of1 hb
  have HB := Lib.hid hb
  have B1 := Lib.hid b1
  clear hb b1
  go_wp2_with fail
  refine (DEC.out _ (HT.out.below HB.out (Nat.le_refl _))).mono ?_
  rintro e W2 ⟨rfl, hb⟩
  have HB2 : Hid (Below w.heap.size w (W2.alloc (.cells #[.int .i64 k, .int .i64 c] 23))) := Lib.hid ((below_step HB.out hb (Nat.le_refl _)).alloc (Nat.le_trans HB.out.size hb.size) _)
  have B2 : Hid (BoxT 23 (W2.alloc (.cells #[.int .i64 k, .int .i64 c] 23)) w.heap.size #[.int .i64 a1_0, .int .i64 a1_1]) := Lib.hid ((B1.out.below hb B1.out.lt).alloc _)
  have N2 := Lib.hid (BoxT.new 23 W2 #[.int .i64 k, .int .i64 c])
  clear hb B1 HB
  go_wp2_with fail
  generalize W2.alloc (.cells #[.int .i64 k, .int .i64 c] 23) = V at HB2 B2 N2 ⊢
  generalize W2.heap.size = g at N2 ⊢
  refine (RDEC.out _).mono ?_
  rintro e W3 ⟨rfl, hb⟩
  have INV : Hid (Bx w (W3.alloc (.cells #[.int .i64 k, .int .i64 c] 29)) w.heap.size g W3.heap.size a1_0 a1_1 k c) := Lib.hid ⟨(below_step HB2.out hb (Nat.le_refl _)).alloc (Nat.le_trans HB2.out.size hb.size) _, (B2.out.below hb B2.out.lt).alloc _, (N2.out.below hb N2.out.lt).alloc _, BoxT.new _ _ _⟩
  clear hb B2 HB2 N2
  go_wp2_with fail
  generalize W3.alloc (.cells #[.int .i64 k, .int .i64 c] 29) = V3 at INV ⊢
  generalize W3.heap.size = g' at INV ⊢
  obtain ⟨c0, c1, d0, d1, e0, e1⟩ := INV.out.facts
  as_aux_lemma =>
    go_region_held3 (fun w' => w'.cell? ⟨w.heap.size, 0, none⟩ = some (.int .i64 a1_0) ∧ w'.cell? ⟨w.heap.size, 1, none⟩ = some (.int .i64 a1_1) ∧ w'.cell? ⟨g, 0, none⟩ = some (.int .i64 k) ∧ w'.cell? ⟨g, 1, none⟩ = some (.int .i64 c) ∧ w'.cell? ⟨g', 0, none⟩ = some (.int .i64 k) ∧ w'.cell? ⟨g', 1, none⟩ = some (.int .i64 c))
      (first | go_keep | exact INV.out.facts)
      (first
        | (go_at_call 9; refine (ENC.out _ (HT.out.below INV.out.drew.below (Nat.le_refl _))).mono ?_; rintro e w' ⟨rfl, hb⟩; have INV := Lib.hid (INV.out.drew.step hb); clear hb)
        | (go_at_call 11; refine (ref08_any _ _ _).mono ?_; rintro e w' ⟨rfl, hb⟩; have INV := Lib.hid (INV.out.step hb); clear hb)
        | (go_at_call 10; refine (RENC.out _).mono ?_; rintro e w' ⟨rfl, hb⟩; have INV := Lib.hid (INV.out.step hb); clear hb))
    go_wp2_with fail
    go_ret
    exact ⟨by simp, INV.out.below⟩

theorem gTab0 : Tryd.prog.globalNamed "taproot/crc.rests" = some 1 := by kernel_rfl
theorem gType0 : (Tryd.prog.globals[1]?).map (·.type) = some 72 := by kernel_rfl
theorem table0 {W : World} (h : laidMetH Tryd.prog Rows.oheadCodesRow.laid W) : Lib.TabIs Tryd.prog W "taproot/crc.rests" .u32 [0, 498536548, 997073096, 651767980, 1994146192, 1802195444, 1303535960, 1342533948, 3988292384, 4027552580, 3604390888, 3412177804, 2607071920, 2262029012, 2685067896, 3183342108] :=
  Lib.tabIs_of_head gTab0 gType0 Tryd.underlying72 Tryd.underlying43 (by kernel_rfl) (by kernel_rfl) h

theorem contract (H : Type) (enc : TypeId × Value → H) (W : World) (base : Nat) (args : Array Value) (ds gs : List (DataW H)) (before : List MemPlace)
    (hval : ∀ (j : Nat) t v, Tryd.f3.params[j]? = some t → args[j]? = some v → Value.okWide Tryd.prog W .any base t v)
    (hW : DataW.Whole enc Tryd.prog Tryd.f3.params.toList Rows.oheadCodesSpec.vars false W args.toList ds gs before) (hL : laidMetH Tryd.prog Rows.oheadCodesRow.laid W) :
    Calls Tryd.prog 3 args W fun e W' => ∃ v, e = .returned v ∧ Rows.oheadCodesSpec.post enc Tryd.prog Tryd.f3 false true false false W args v W' := by
  have hW' := hW
  obtain ⟨p, q, hA0, hV, rfl, hfz, hnd⟩ := hW
  have hA : DataW.TrodAll enc Tryd.prog W 0 (fun _ => true) true Tryd.f3.params.toList args.toList ds p := hA0
  rw [Tryd.params3] at hA hval
  obtain ⟨v0, vs0, d0, ds0, p0, q0, hargs, rfl, rfl, h0, r0⟩ := trodAll_cons hA
  obtain ⟨v1, vs1, d1, ds1, p1, q1, rfl, rfl, rfl, h1, r1⟩ := trodAll_cons r0
  obtain ⟨v2, vs2, d2, ds2, p2, q2, rfl, rfl, rfl, h2, r2⟩ := trodAll_cons r1
  obtain ⟨rfl, rfl, rfl⟩ := trodAll_nil r2
  obtain rfl : args = #[v0, v1, v2] := by cases args; simp_all
  obtain ⟨rfl, rfl⟩ := trodVars_none hV
  obtain ⟨a0, rfl, rfl, rfl, w0⟩ := open_int Tryd.underlying3 (hval 0 3 v0 rfl rfl) h0
  have k1 := h1
  have lt1 : ∀ x ∈ p1, x.block < W.heap.size := by obtain ⟨m, hm⟩ := k1; exact DataW.trod_lt m _ _ _ hm
  obtain ⟨z1, hz1, rfl, wz1⟩ := struct_ints Tryd.underlying23 (by kernel_rfl) [.i64, .i64] (by kernel_rfl) (by kernel_rfl) (by kernel_rfl) (hval 1 23 v1 rfl rfl) h1
  obtain ⟨a1_0, a1_1, rfl⟩ := list2 hz1
  have w1_0 : (Lit.int .i64 a1_0).wf = true := wz1 (.i64, a1_0) (by simp)
  have w1_1 : (Lit.int .i64 a1_1).wf = true := wz1 (.i64, a1_1) (by simp)
  clear wz1 hz1
  simp only [vals, List.zip_cons_cons, List.zip_nil_right, List.map_cons, List.map_nil] at k1 ⊢
  obtain ⟨a2, rfl, rfl, rfl, w2⟩ := open_int Tryd.underlying24 (hval 2 24 v2 rfl rfl) h2
  clear hA0
  refine (walk a0 a1_0 a1_1 a2 W w0 w1_0 w1_1 w2 (table0 hL)).mono fun e W' ⟨he, bel⟩ => ?_
  subst he
  exact ⟨_, rfl, _, _, _, [], _, [], hW', trodAll_mk1 (shut_bool Tryd.underlying4 _), (trodAll_cons_mk (shut_int Tryd.underlying3 w0) (trodAll_cons_mk (Below.trod laidOut (by kernel_rfl) (of_decide_eq_true (by kernel_rfl)) k1 bel lt1) (trodAll_cons_mk (shut_int Tryd.underlying24 w2) trodAll_mk0))), rfl, bel.frame _, fun h => by cases h⟩

noncomputable def laidWorld (os : Os) : World :=
  { World.holding Tryd.prog os ⟨#[], #[], []⟩ with heap := ((World.holding Tryd.prog os ⟨#[], #[], []⟩).heap).modify 1 fun
      | .cells _ t frozen => .cells #[.int .u32 0, .int .u32 498536548, .int .u32 997073096, .int .u32 651767980, .int .u32 1994146192, .int .u32 1802195444, .int .u32 1303535960, .int .u32 1342533948, .int .u32 3988292384, .int .u32 4027552580, .int .u32 3604390888, .int .u32 3412177804, .int .u32 2607071920, .int .u32 2262029012, .int .u32 2685067896, .int .u32 3183342108] t frozen
      | o => o }
theorem laid_met (os : Os) : laidMet Tryd.prog Rows.oheadCodesRow.laid ((laidWorld os).forCall (fun _ _ => 0) ⟨#[], #[.int .i64 0, .agg #[.int .i64 0, .int .i64 0], .int .u64 0], []⟩).memory :=
  laidMet_of_run' 8 (by kernel_rfl) (by kernel_rfl)
theorem reads (os : Os) {H : Type} (enc : TypeId × Value → H) : ∃ x, DataW.whole enc Tryd.prog ((laidWorld os).forCall (fun _ _ => 0) ⟨#[], #[.int .i64 0, .agg #[.int .i64 0, .int .i64 0], .int .u64 0], []⟩).memory Tryd.f3.params.toList Rows.oheadCodesSpec.vars false (#[.int .i64 0, .agg #[.int .i64 0, .int .i64 0], .int .u64 0] : Array Value).toList 8 = some ([.lit (.int .i64 0), .agg [.lit (.int .i64 0), .lit (.int .i64 0)], .lit (.int .u64 0)], [], x) :=
  ⟨[], by kernel_rfl⟩

set_option maxRecDepth 100000 in
theorem lifted (os : Os) (started : os.Started) (H : Type) (enc : TypeId × Value → H) (F : Stop.Interp) :
    ReturnsInHanded {} Tryd.checked os 3 .any ((OpenSpec.ofChange Rows.oheadCodesSpec).preRow enc Tryd.prog Tryd.f3 Rows.oheadCodesRow.domain false Rows.oheadCodesRow.laid) (((OpenSpec.ofChange Rows.oheadCodesSpec).at F).post enc Tryd.prog Tryd.f3 false true false false) := by
  obtain ⟨places, hx⟩ := reads os enc
  refine returnsInHanded_of_row (C := Tryd.checked) (s := OpenSpec.ofChange Rows.oheadCodesSpec) own started (by kernel_rfl) Tryd.func3
    (witness_row_at (enc := enc) (C := Tryd.checked) false (laidWorld os) #[.int .i64 0, .agg #[.int .i64 0, .int .i64 0], .int .u64 0] rfl (by kernel_rfl) (by kernel_rfl) (by kernel_rfl)
      (OpenSpec.preRow_of_cond 8 hx (by kernel_rfl) (fun k hk => by cases hk) (by kernel_rfl) (laid_met os))) ?_
  intro W base args ds gs before hval hW _ hcond hreach hL hsh _
  exact contract H enc W base args ds gs before hval hW hL

theorem said : Rows.OheadCodesSaid :=
  OpenClaim.holds_of_cond 3 Tryd.f3 rfl rfl rfl rfl rfl rfl rfl ⟨rfl, rfl, rfl, rfl, rfl⟩ rfl rfl rfl rfl rfl (by kernel_rfl) Tryd.func3 (by kernel_rfl)
    (of_decide_eq_true (by kernel_rfl)) (by unfold Func.isWrapper; first | (rw [if_pos (by decide +kernel)]; kernel_rfl) | (rw [if_neg (by decide +kernel)]; exact ⟨rfl, rfl⟩))
    (fun os started H enc _ F => by rw [OpenClaim.pre_eq_preRow]; exact lifted os started H enc F)

theorem plain (f : FuncId) (fn : Func) (hf : Tryd.pinned.checked.prog.funcNamed "taproot/taprootlaw08.OheadCodes" = some f) (hfn : Tryd.pinned.checked.prog.funcs[f]? = some fn) :
    false = Tryd.pinned.checked.prog.looks [] ∧ ∀ (j : Nat) t, fn.params[j]? = some t → Tryd.pinned.checked.prog.wantsStandIn t = false := by
  obtain rfl : f = 3 := Option.some.inj ((show Tryd.prog.funcNamed "taproot/taprootlaw08.OheadCodes" = some 3 by kernel_rfl).symm.trans hf) |>.symm
  obtain rfl : fn = Tryd.f3 := (Option.some.inj (Tryd.func3.symm.trans hfn)).symm
  refine ⟨by kernel_rfl, fun j t ht => ?_⟩
  rw [Tryd.params3] at ht
  have hm := Array.mem_of_getElem? ht
  simp only [List.mem_toArray, List.mem_cons, List.not_mem_nil, or_false] at hm
  rcases hm with rfl | rfl | rfl
  · exact (show Tryd.prog.wantsStandIn 3 = false by kernel_rfl)
  · exact (show Tryd.prog.wantsStandIn 23 = false by kernel_rfl)
  · exact (show Tryd.prog.wantsStandIn 24 = false by kernel_rfl)

/-- The card: the statement. -/
theorem proved : Rows.OheadCodesCardSaid :=
  Claim7.holds_tied_plain_at .later [] _ _ _ _ said (fun _ h => by cases h) (by kernel_rfl) (fun _ h => by cases h) oheadCodes_row_tie rfl ⟨rfl, rfl⟩ (by kernel_rfl) rfl plain (by kernel_rfl)
#print axioms proved
end Go.Proofs.YtdhakfkcenfdoaaDoor.oheadCodes
