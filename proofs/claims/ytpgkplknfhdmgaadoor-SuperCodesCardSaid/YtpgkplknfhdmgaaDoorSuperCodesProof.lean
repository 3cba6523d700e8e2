/-
  Any line is what the page says, or its first fault; any superblock has the page's line.
  Conditions: none beyond the row (every argument that can be read as data); the tables that the row lists hold what the text lays, which the card ties.
-/
import Derived.Test.YtpgkplknfhdmgaaDoorPre
import Derived.Test.YtpgkplknfhdmgaaDoorCards
import Derived.Test.YtpgkplknfhdmgaaDoorTie
import Derived.Deep.DeepHandedRow
import Derived.Lib.LaidTab
import Derived.Test.YtpgkplknfhdmgaaDoorAwake05
import Derived.Test.YtpgkplknfhdmgaaDoorDecode
import Derived.Test.YtpgkplknfhdmgaaDoorRefDecode
namespace Go.Proofs.YtpgkplknfhdmgaaDoor.superCodes
open Go.ChangeShapes Go.WideShapes Go.ChangeAt Go.RowKit
open Go.ChangeMaps (open_string shut_string)
set_option linter.unusedVariables false

open Bt Cr Su

theorem rests_same : ∀ i, i < 16 → ([0, 498536548, 997073096, 651767980, 1994146192, 1802195444, 1303535960, 1342533948, 3988292384, 4027552580, 3604390888, 3412177804, 2607071920, 2262029012, 2685067896, 3183342108] : List Int).getD i 0 = ((tab.getD i 0 : Nat) : Int) := by decide +kernel
theorem same_self (b id : Nat) (w : World) : (Op.equalIn 10000 23 (.agg #[.int .u64 8390047168116913201, .int .u64 1, .int .u64 (b : Nat), .int .u64 (id : Nat), .int .u64 0, .int .u64 0, .int .u64 0, .int .u64 (sumS b id : Nat)]) (.agg #[.int .u64 8390047168116913201, .int .u64 1, .int .u64 (b : Nat), .int .u64 (id : Nat), .int .u64 0, .int .u64 0, .int .u64 0, .int .u64 (sumS b id : Nat)])).run Tryd.prog w = .ok true w := by
  rw [eq8V]; simp

set_option maxRecDepth 100000 in
set_option maxHeartbeats 1000000 in
theorem walk  (a0_0 a0_1 a0_2 a0_3 a0_4 a0_5 a0_6 a0_7 : Int) (a1 : Int) (a2 : Int) (w : World) (w0_0 : (Lit.int .u64 a0_0).wf = true) (w0_1 : (Lit.int .u64 a0_1).wf = true) (w0_2 : (Lit.int .u64 a0_2).wf = true) (w0_3 : (Lit.int .u64 a0_3).wf = true) (w0_4 : (Lit.int .u64 a0_4).wf = true) (w0_5 : (Lit.int .u64 a0_5).wf = true) (w0_6 : (Lit.int .u64 a0_6).wf = true) (w0_7 : (Lit.int .u64 a0_7).wf = true) (w1 : (Lit.int .u16 a1).wf = true) (w2 : (Lit.int .u64 a2).wf = true) (t0 : Lib.TabIs Tryd.prog w "taproot/crc.rests" .u32 [0, 498536548, 997073096, 651767980, 1994146192, 1802195444, 1303535960, 1342533948, 3988292384, 4027552580, 3604390888, 3412177804, 2607071920, 2262029012, 2685067896, 3183342108]) :
    Calls Tryd.prog 3 #[.agg #[.int .u64 a0_0, .int .u64 a0_1, .int .u64 a0_2, .int .u64 a0_3, .int .u64 a0_4, .int .u64 a0_5, .int .u64 a0_6, .int .u64 a0_7], .int .u16 a1, .int .u64 a2] w fun e w' => e = .returned (.bool true) ∧ Below w.heap.size w w' := by
  have hT : HasRests w := fun i hi => by
    have := t0.cell (g := 0) (by kernel_rfl) i hi
    rw [rests_same i hi] at this
    exact this
  obtain ⟨x, hx, rfl, rfl, rfl, rfl, rfl, rfl, rfl, rfl⟩ := line_fn w0_0 w0_1 w0_2 w0_3 w0_4 w0_5 w0_6 w0_7
  have b1 := bounds_u16 w1
  have b2 := bounds_u64 w2
  obtain ⟨n, rfl⟩ := Int.eq_ofNat_of_zero_le b1.1
  obtain ⟨id, rfl⟩ := Int.eq_ofNat_of_zero_le b2.1
  have hn : n < 65536 := by omega
  have hid : id < 2 ^ 64 := by omega
  have hw : IntKind.u64.wrap (n : Int) = (n : Int) := by simp [IntKind.wrap, IntKind.bits, IntKind.signed]; omega
  have heq := same_self n id
  have HT := Lib.hid hT
  have HX := Lib.hid hx
  have HW := Lib.hid hw
  clear t0 w0_0 w0_1 w0_2 w0_3 w0_4 w0_5 w0_6 w0_7 w1 w2 b1 b2 hT hx hw
  go_enter Tryd.func3, Tryd.ntmps3
  go_wp2_with fail
  refine (awake_yes _ (HT.out.below ((Below.refl _ _).alloc (Nat.le_refl _) _) (Nat.le_refl _))).mono ?_
  rintro e w1 ⟨rfl, k1⟩
  obtain ⟨b1, k1, s1⟩ := boxT_of1 k1
  have B1 := Lib.hid b1
  have K1 := Lib.hid k1
  clear b1 k1
  go_wp2_with (first
    | (refine wpList_load_boxT rfl _ _ rfl (b := w.heap.size) rfl B1.out Tryd.underlying23 rfl info8 ?_)
    | fail)
  refine (decode_any x _ HX.out (HT.out.below K1.out (Nat.le_refl _))).mono ?_
  rintro e w2 ⟨rfl, k2⟩
  have K2 := Lib.hid (K1.out.trans (k2.mono K1.out.size))
  have B2 := Lib.hid ((B1.out.below k2 B1.out.lt).alloc (.cells #[.int .i64 (blocksS x : Nat), .int .u64 (idS x : Nat)] 27))
  have b3 := BoxT.new 27 w2 #[.int .i64 (blocksS x : Nat), .int .u64 (idS x : Nat)]
  have K3 : Hid (Below w.heap.size w (w2.alloc (.cells #[.int .i64 (blocksS x : Nat), .int .u64 (idS x : Nat)] 27))) := Lib.hid (K2.out.alloc K2.out.size _)
  have s2 := K2.out.size
  clear k2 B1 K1
  go_wp2_with (first
    | (refine wpList_load_boxT rfl _ _ rfl (b := w.heap.size) rfl B2.out Tryd.underlying23 rfl info8 ?_)
    | fail)
  generalize w2.alloc (.cells #[.int .i64 (blocksS x : Nat), .int .u64 (idS x : Nat)] 27) = V at B2 b3 K3 ⊢
  generalize w2.heap.size = bd at b3 s2 ⊢
  have B3 := Lib.hid b3
  clear b3
  refine (refDecode_any x _ HX.out).mono ?_
  rintro e w4 ⟨rfl, k4⟩
  have b5 := (B3.out.below k4 B3.out.lt)
  have B5 : Hid (BoxT 27 (w4.alloc (.cells #[.int .i64 (n : Nat), .int .u64 (id : Nat)] 27)) bd #[.int .i64 (blocksS x : Nat), .int .u64 (idS x : Nat)]) := Lib.hid (b5.alloc _)
  have K4 := Lib.hid (K3.out.trans (k4.mono K3.out.size))
  have K5 : Hid (Below w.heap.size w (w4.alloc (.cells #[.int .i64 (n : Nat), .int .u64 (id : Nat)] 27))) := Lib.hid (K4.out.alloc K4.out.size _)
  have g0 : w4.cell? ⟨bd, 0, none⟩ = some (.int .i64 (blocksS x : Nat)) := b5.cell 0
  have g1 : w4.cell? ⟨bd, 1, none⟩ = some (.int .u64 (idS x : Nat)) := b5.cell 1
  have hbd : bd < w4.heap.size := b5.lt
  have hne : bd ≠ w4.heap.size := by omega
  have hne2 : w4.heap.size ≠ bd := by omega
  have T5 : Hid (HasRests (w4.alloc (.cells #[.int .i64 (n : Nat), .int .u64 (id : Nat)] 27))) := Lib.hid (HT.out.below K5.out (Nat.le_refl _))
  clear k4 b5 B2 B3 K2 K3 HX
  go_wp2_with fail
  refine (encode_any n n id _ HW.out (by omega) hid T5.out).mono ?_
  rintro e w6 ⟨rfl, k6⟩
  have K6 := Lib.hid (K5.out.trans (k6.mono K5.out.size))
  clear k6 K4 K5 T5 B5
  go_wp2_with fail
  refine (refEncode_any n n id _ HW.out (by omega) hid).mono ?_
  rintro e w7 ⟨rfl, k7⟩
  have K7 := Lib.hid (K6.out.trans (k7.mono K6.out.size))
  clear k7 K6
  go_wp2_with fail
  go_ret
  exact ⟨rfl, K7.out⟩

theorem gTab0 : Tryd.prog.globalNamed "taproot/crc.rests" = some 0 := by kernel_rfl
theorem gType0 : (Tryd.prog.globals[0]?).map (·.type) = some 83 := by kernel_rfl
theorem table0 {W : World} (h : laidMetH Tryd.prog Rows.superCodesRow.laid W) : Lib.TabIs Tryd.prog W "taproot/crc.rests" .u32 [0, 498536548, 997073096, 651767980, 1994146192, 1802195444, 1303535960, 1342533948, 3988292384, 4027552580, 3604390888, 3412177804, 2607071920, 2262029012, 2685067896, 3183342108] :=
  Lib.tabIs_of_head gTab0 gType0 Tryd.underlying83 Tryd.underlying51 (by kernel_rfl) (by kernel_rfl) h

theorem contract (H : Type) (enc : TypeId × Value → H) (W : World) (base : Nat) (args : Array Value) (ds gs : List (DataW H)) (before : List MemPlace)
    (hval : ∀ (j : Nat) t v, Tryd.f3.params[j]? = some t → args[j]? = some v → Value.okWide Tryd.prog W .any base t v)
    (hW : DataW.Whole enc Tryd.prog Tryd.f3.params.toList Rows.superCodesSpec.vars false W args.toList ds gs before) (hL : laidMetH Tryd.prog Rows.superCodesRow.laid W) :
    Calls Tryd.prog 3 args W fun e W' => ∃ v, e = .returned v ∧ Rows.superCodesSpec.post enc Tryd.prog Tryd.f3 false true false false W args v W' := by
  have hW' := hW
  obtain ⟨p, q, hA0, hV, rfl, hfz, hnd⟩ := hW
  have hA : DataW.TrodAll enc Tryd.prog W 0 (fun _ => true) true Tryd.f3.params.toList args.toList ds p := hA0
  rw [Tryd.params3] at hA hval
  obtain ⟨v0, vs0, d0, ds0, p0, q0, hargs, rfl, rfl, h0, r0⟩ := trodAll_cons hA
  obtain ⟨v1, vs1, d1, ds1, p1, q1, rfl, rfl, rfl, h1, r1⟩ := trodAll_cons r0
  obtain ⟨v2, vs2, d2, ds2, p2, q2, rfl, rfl, rfl, h2, r2⟩ := trodAll_cons r1
  obtain ⟨rfl, rfl, rfl⟩ := trodAll_nil r2
  obtain rfl : args = #[v0, v1, v2] := by cases args; simp_all
  obtain ⟨rfl, rfl⟩ := trodVars_none hV
  have k0 := h0
  have lt0 : ∀ x ∈ p0, x.block < W.heap.size := by obtain ⟨m, hm⟩ := k0; exact DataW.trod_lt m _ _ _ hm
  obtain ⟨z0, rfl, hz0, wz0⟩ := arr_of Tryd.underlying23 Tryd.underlying22 (by kernel_rfl) (by kernel_rfl) (hval 0 23 v0 rfl rfl) h0
  obtain ⟨a0_0, a0_1, a0_2, a0_3, a0_4, a0_5, a0_6, a0_7, rfl⟩ := list8 hz0
  have w0_0 : (Lit.int .u64 a0_0).wf = true := wz0 _ (by simp)
  have w0_1 : (Lit.int .u64 a0_1).wf = true := wz0 _ (by simp)
  have w0_2 : (Lit.int .u64 a0_2).wf = true := wz0 _ (by simp)
  have w0_3 : (Lit.int .u64 a0_3).wf = true := wz0 _ (by simp)
  have w0_4 : (Lit.int .u64 a0_4).wf = true := wz0 _ (by simp)
  have w0_5 : (Lit.int .u64 a0_5).wf = true := wz0 _ (by simp)
  have w0_6 : (Lit.int .u64 a0_6).wf = true := wz0 _ (by simp)
  have w0_7 : (Lit.int .u64 a0_7).wf = true := wz0 _ (by simp)
  clear wz0 hz0
  simp only [List.map_cons, List.map_nil] at k0 ⊢
  obtain ⟨a1, rfl, rfl, rfl, w1⟩ := open_int Tryd.underlying24 (hval 1 24 v1 rfl rfl) h1
  obtain ⟨a2, rfl, rfl, rfl, w2⟩ := open_int Tryd.underlying22 (hval 2 22 v2 rfl rfl) h2
  clear hA0
  refine (walk a0_0 a0_1 a0_2 a0_3 a0_4 a0_5 a0_6 a0_7 a1 a2 W w0_0 w0_1 w0_2 w0_3 w0_4 w0_5 w0_6 w0_7 w1 w2 (table0 hL)).mono fun e W' ⟨he, bel⟩ => ?_
  subst he
  exact ⟨_, rfl, _, _, _, [], _, [], hW', trodAll_mk1 (shut_bool Tryd.underlying4 _), (trodAll_cons_mk (Below.trod laidOut (by kernel_rfl) (of_decide_eq_true (by kernel_rfl)) k0 bel lt0) (trodAll_cons_mk (shut_int Tryd.underlying24 w1) (trodAll_cons_mk (shut_int Tryd.underlying22 w2) trodAll_mk0))), rfl, bel.frame _, fun h => by cases h⟩

noncomputable def laidWorld (os : Os) : World :=
  { World.holding Tryd.prog os ⟨#[], #[], []⟩ with heap := ((World.holding Tryd.prog os ⟨#[], #[], []⟩).heap).modify 0 fun
      | .cells _ t frozen => .cells #[.int .u32 0, .int .u32 498536548, .int .u32 997073096, .int .u32 651767980, .int .u32 1994146192, .int .u32 1802195444, .int .u32 1303535960, .int .u32 1342533948, .int .u32 3988292384, .int .u32 4027552580, .int .u32 3604390888, .int .u32 3412177804, .int .u32 2607071920, .int .u32 2262029012, .int .u32 2685067896, .int .u32 3183342108] t frozen
      | o => o }
theorem laid_met (os : Os) : laidMet Tryd.prog Rows.superCodesRow.laid ((laidWorld os).forCall (fun _ _ => 0) ⟨#[], #[.agg #[.int .u64 0, .int .u64 0, .int .u64 0, .int .u64 0, .int .u64 0, .int .u64 0, .int .u64 0, .int .u64 0], .int .u16 0, .int .u64 0], []⟩).memory :=
  laidMet_of_run' 8 (by kernel_rfl) (by kernel_rfl)
theorem reads (os : Os) {H : Type} (enc : TypeId × Value → H) : ∃ x, DataW.whole enc Tryd.prog ((laidWorld os).forCall (fun _ _ => 0) ⟨#[], #[.agg #[.int .u64 0, .int .u64 0, .int .u64 0, .int .u64 0, .int .u64 0, .int .u64 0, .int .u64 0, .int .u64 0], .int .u16 0, .int .u64 0], []⟩).memory Tryd.f3.params.toList Rows.superCodesSpec.vars false (#[.agg #[.int .u64 0, .int .u64 0, .int .u64 0, .int .u64 0, .int .u64 0, .int .u64 0, .int .u64 0, .int .u64 0], .int .u16 0, .int .u64 0] : Array Value).toList 8 = some ([.agg [.lit (.int .u64 0), .lit (.int .u64 0), .lit (.int .u64 0), .lit (.int .u64 0), .lit (.int .u64 0), .lit (.int .u64 0), .lit (.int .u64 0), .lit (.int .u64 0)], .lit (.int .u16 0), .lit (.int .u64 0)], [], x) :=
  ⟨[], by kernel_rfl⟩

set_option maxRecDepth 100000 in
theorem lifted (os : Os) (started : os.Started) (H : Type) (enc : TypeId × Value → H) (F : Stop.Interp) :
    ReturnsInHanded {} Tryd.checked os 3 .any ((OpenSpec.ofChange Rows.superCodesSpec).preRow enc Tryd.prog Tryd.f3 Rows.superCodesRow.domain false Rows.superCodesRow.laid) (((OpenSpec.ofChange Rows.superCodesSpec).at F).post enc Tryd.prog Tryd.f3 false true false false) := by
  obtain ⟨places, hx⟩ := reads os enc
  refine returnsInHanded_of_row (C := Tryd.checked) (s := OpenSpec.ofChange Rows.superCodesSpec) own started (by kernel_rfl) Tryd.func3
    (witness_row_at (enc := enc) (C := Tryd.checked) false (laidWorld os) #[.agg #[.int .u64 0, .int .u64 0, .int .u64 0, .int .u64 0, .int .u64 0, .int .u64 0, .int .u64 0, .int .u64 0], .int .u16 0, .int .u64 0] rfl (by kernel_rfl) (by kernel_rfl) (by kernel_rfl)
      (OpenSpec.preRow_of_cond 8 hx (by kernel_rfl) (fun k hk => by cases hk) (by kernel_rfl) (laid_met os))) ?_
  intro W base args ds gs before hval hW _ hcond hreach hL hsh _
  exact contract H enc W base args ds gs before hval hW hL

theorem said : Rows.SuperCodesSaid :=
  OpenClaim.holds_of_cond 3 Tryd.f3 rfl rfl rfl rfl rfl rfl rfl ⟨rfl, rfl, rfl, rfl, rfl⟩ rfl rfl rfl rfl rfl (by kernel_rfl) Tryd.func3 (by kernel_rfl)
    (of_decide_eq_true (by kernel_rfl)) (by unfold Func.isWrapper; first | (rw [if_pos (by decide +kernel)]; kernel_rfl) | (rw [if_neg (by decide +kernel)]; exact ⟨rfl, rfl⟩))
    (fun os started H enc _ F => by rw [OpenClaim.pre_eq_preRow]; exact lifted os started H enc F)

theorem plain (f : FuncId) (fn : Func) (hf : Tryd.pinned.checked.prog.funcNamed "taproot/taprootlaw05.SuperCodes" = some f) (hfn : Tryd.pinned.checked.prog.funcs[f]? = some fn) :
    false = Tryd.pinned.checked.prog.looks [] ∧ ∀ (j : Nat) t, fn.params[j]? = some t → Tryd.pinned.checked.prog.wantsStandIn t = false := by
  obtain rfl : f = 3 := Option.some.inj ((show Tryd.prog.funcNamed "taproot/taprootlaw05.SuperCodes" = some 3 by kernel_rfl).symm.trans hf) |>.symm
  obtain rfl : fn = Tryd.f3 := (Option.some.inj (Tryd.func3.symm.trans hfn)).symm
  refine ⟨by kernel_rfl, fun j t ht => ?_⟩
  rw [Tryd.params3] at ht
  have hm := Array.mem_of_getElem? ht
  simp only [List.mem_toArray, List.mem_cons, List.not_mem_nil, or_false] at hm
  rcases hm with rfl | rfl | rfl
  · exact (show Tryd.prog.wantsStandIn 23 = false by kernel_rfl)
  · exact (show Tryd.prog.wantsStandIn 24 = false by kernel_rfl)
  · exact (show Tryd.prog.wantsStandIn 22 = false by kernel_rfl)

/-- The card: the statement. -/
theorem proved : Rows.SuperCodesCardSaid :=
  Claim7.holds_tied_plain_at .later [] _ _ _ _ said (fun _ h => by cases h) (by kernel_rfl) (fun _ h => by cases h) superCodes_row_tie rfl ⟨rfl, rfl⟩ (by kernel_rfl) rfl plain (by kernel_rfl)
#print axioms proved
end Go.Proofs.YtpgkplknfhdmgaaDoor.superCodes
