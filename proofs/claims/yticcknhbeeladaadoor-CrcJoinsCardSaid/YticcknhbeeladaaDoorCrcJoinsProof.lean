/-
  The sum of one text behind another one is that of the second, added to the first one's; so are those of words.
  Conditions: none beyond the row (every argument that can be read as data); the tables that the row lists hold what the text lays, which the card ties.
-/
import Derived.Test.YticcknhbeeladaaDoorPre
import Derived.Test.YticcknhbeeladaaDoorCards
import Derived.Test.YticcknhbeeladaaDoorTie
import Derived.Deep.DeepHandedRow
import Derived.Lib.LaidTab
import Derived.Test.YticcknhbeeladaaDoorAwake02
import Derived.Test.YticcknhbeeladaaDoorRefSeal
import Derived.Test.YticcknhbeeladaaDoorNats
import Derived.Test.YticcknhbeeladaaDoorApp
namespace Go.Proofs.YticcknhbeeladaaDoor.crcJoins
open Go.ChangeShapes Go.WideShapes Go.ChangeAt Go.RowKit
open Go.ChangeMaps (open_string shut_string)
set_option linter.unusedVariables false

open Bt Cr

theorem rests_same : ∀ i, i < 16 → ([0, 498536548, 997073096, 651767980, 1994146192, 1802195444, 1303535960, 1342533948, 3988292384, 4027552580, 3604390888, 3412177804, 2607071920, 2262029012, 2685067896, 3183342108] : List Int).getD i 0 = ((tab.getD i 0 : Nat) : Int) := by decide +kernel
theorem join_below {W w' : World} {B : Nat} {v : Value} {w1 : World} (h : Below B W w') (hB : B ≤ w'.heap.size) {base : Nat} {e : TypeId} {n : Nat} {xs : List Value} (ho : w'.ownsRow base e 1 v n xs) (hb : B ≤ base) (hg : w'.grownBy w1 v.ownBlock) : Below B W w1 :=
  h.grown hg hB fun k hk => Nat.le_trans hb (ho.lt k hk).1

set_option maxHeartbeats 1000000 in
theorem walk  (a0 : Option Addr) (len0 cap0 : Nat) (z0 : List Int) (a1 : Option Addr) (len1 cap1 : Nat) (z1 : List Int) (a2 : Option Addr) (len2 cap2 : Nat) (z2 : List Int) (w : World) (w0 : IsRow .u8 w a0 len0 cap0 z0) (w1 : IsRow .u8 w a1 len1 cap1 z1) (w2 : IsRow .u64 w a2 len2 cap2 z2) (t0 : Lib.TabIs Tryd.prog w "taproot/crc.rests" .u32 [0, 498536548, 997073096, 651767980, 1994146192, 1802195444, 1303535960, 1342533948, 3988292384, 4027552580, 3604390888, 3412177804, 2607071920, 2262029012, 2685067896, 3183342108]) :
    Calls Tryd.prog 5 #[.slice a0 len0 cap0, .slice a1 len1 cap1, .slice a2 len2 cap2] w fun e w' => e = .returned (.bool true) ∧ Below w.heap.size w w' := by
  have hT : HasRests w := fun i hi => by
    have := t0.cell (g := 0) (by kernel_rfl) i hi
    rw [rests_same i hi] at this
    exact this
  obtain ⟨la, hIa, hLa, hda⟩ := w0.bytes
  obtain ⟨lb, hIb, hLb, hdb⟩ := w1.bytes
  obtain ⟨xs, hIx, hLx, hdx⟩ := w2.words
  clear t0 w0 w1 w2
  have HT := Lib.hid hT
  have HIa := Lib.hid hIa
  have HLa := Lib.hid hLa
  have HDa := Lib.hid hda
  have HIb := Lib.hid hIb
  have HLb := Lib.hid hLb
  have HDb := Lib.hid hdb
  have HIx := Lib.hid hIx
  have HLx := Lib.hid hLx
  have HDx := Lib.hid hdx
  clear hT hIa hLa hda hIb hLb hdb hIx hLx hdx
  by_cases hl : (1000 : Int) < (len0 : Int) ∨ (1000 : Int) < (len1 : Int) ∨ (100 : Int) < (len2 : Int)
  · by_cases h0 : (1000 : Int) < (len0 : Int)
    · clear hl
      go_enter Tryd.func5, Tryd.ntmps5
      go_wp2_with fail
      refine (awake_yes _ HT.out).mono ?_
      rintro e W ⟨rfl, hb⟩
      go_wp2_with fail
      go_ret
      exact ⟨rfl, hb⟩
    · by_cases h1 : (1000 : Int) < (len1 : Int)
      · clear hl
        go_enter Tryd.func5, Tryd.ntmps5
        go_wp2_with fail
        refine (awake_yes _ HT.out).mono ?_
        rintro e W ⟨rfl, hb⟩
        go_wp2_with fail
        go_ret
        exact ⟨rfl, hb⟩
      · have h2 : (100 : Int) < (len2 : Int) := by omega
        clear hl
        go_enter Tryd.func5, Tryd.ntmps5
        go_wp2_with fail
        refine (awake_yes _ HT.out).mono ?_
        rintro e W ⟨rfl, hb⟩
        go_wp2_with fail
        go_ret
        exact ⟨rfl, hb⟩
  · have h0 : ¬ (1000 : Int) < (len0 : Int) := by omega
    have h1 : ¬ (1000 : Int) < (len1 : Int) := by omega
    have h2 : ¬ (100 : Int) < (len2 : Int) := by omega
    clear hl
    have ha : la.length ≤ 1000 := by have := HLa.out; omega
    have hb' : lb.length ≤ 1000 := by have := HLb.out; omega
    have hx : xs.length ≤ 100 := by have := HLx.out; omega
    obtain ⟨i0, hi, hz0, hz1, hz2⟩ := info_parts infoU8
    have HJ := Lib.hid (moreN_join la lb (mem_lt_of_getD HDa.out))
    go_enter Tryd.func5, Tryd.ntmps5
    go_wp2_with fail
    refine (awake_yes _ HT.out).mono ?_
    rintro e W ⟨rfl, hb⟩
    have HB := Lib.hid hb
    clear hb
    go_wp2_with fail
    have sz : w.heap.size ≤ W.heap.size := HB.out.size
    have HT1 := Lib.hid (HT.out.below HB.out (Nat.le_refl _))
    refine (sum_any _ la _ (HIa.out.below HB.out (Nat.le_refl _)) HDa.out (by omega) HT1.out).mono ?_
    rintro e w' ⟨rfl, n1, rfl⟩
    go_wp2_with fail
    refine (more_any _ _ lb _ (moreN_lt _ _) ((HIb.out.below HB.out (Nat.le_refl _)).drewN _) HDb.out (by omega) (HT1.out.drewN _)).mono ?_
    rintro e w' ⟨rfl, n2, rfl⟩
    rw [HJ.out]
    have HIa1 : Hid (∀ w', Below W.heap.size W w' → IsInts .u8 w' (.slice a0 len0 cap0) (castL la)) := Lib.hid fun w' h => (HIa.out.below HB.out (Nat.le_refl _)).below h (Nat.le_refl _)
    have HIb1 : Hid (∀ w', Below W.heap.size W w' → IsInts .u8 w' (.slice a1 len1 cap1) (castL lb)) := Lib.hid fun w' h => (HIb.out.below HB.out (Nat.le_refl _)).below h (Nat.le_refl _)
    have HIx1 : Hid (∀ w', Below W.heap.size W w' → IsInts .u64 w' (.slice a2 len2 cap2) (castL xs)) := Lib.hid fun w' h => (HIx.out.below HB.out (Nat.le_refl _)).below h (Nat.le_refl _)
    have B1 : ∀ o, Below W.heap.size W ((W.drewN (n1 + n2)).alloc o) := fun o => (below_drewN (Below.refl _ _) (n1 + n2)).alloc (Nat.le_refl _) _
    have HB1 := Lib.hid B1
    have HOWN : Hid (∀ t, ((W.drewN (n1 + n2)).alloc (.cells #[] t)).ownsRow W.heap.size t 1 (.slice (some ⟨W.heap.size, 0, none⟩) 0 0) 0 []) := Lib.hid fun t => World.ownsRow_made (W.drewN (n1 + n2)) #[] 0 (Nat.le_refl _) (by decide) rfl
    clear B1
    go_wp2_with (at_builtin; refine wpList_onto rfl W.heap.size 1 0 (.tmp 26) (.tmp 27) 23 5 rfl Tryd.underlying23 hi hz0 hz1 hz2 _ _ [] (castL la) rfl rfl (HOWN.out _) (HIa1.out _ (HB1.out _)) (by unfold maxLen; rw [castL_length]; omega) (by rw [castL_length]; omega) (HB1.out _).size ?_)
    intro v1 w1 ho1 hg1
    have hb1 : Below W.heap.size W w1 := join_below (HB1.out _) (HB1.out _).size (HOWN.out _) (Nat.le_refl _) hg1
    have HG1 := Lib.hid hb1
    have HO1 := Lib.hid ho1
    clear hg1 ho1 hb1
    go_wp2_with (at_builtin; refine wpList_onto rfl W.heap.size 1 _ (.tmp 28) (.tmp 29) 23 5 rfl Tryd.underlying23 hi hz0 hz1 hz2 _ _ _ (castL lb) rfl rfl HO1.out (HIb1.out _ HG1.out) (by unfold maxLen; rw [castL_length, castL_length]; omega) (by rw [castL_length, castL_length]; omega) HG1.out.size ?_)
    intro v2 w2 ho2 hg2
    have hb2 : Below W.heap.size W w2 := join_below HG1.out HG1.out.size HO1.out (Nat.le_refl _) hg2
    have HG2 := Lib.hid hb2
    have HI2 : Hid (IsInts .u8 w2 v2 (castL (la ++ lb))) := by
      refine Lib.hid (.of_own (base := W.heap.size) (e := 5) (n := (castL la).length + (castL lb).length) ?_)
      rw [castL_append, List.map_append]
      exact ho2
    clear hg2 ho2 hb2
    go_wp2_with fail
    refine (sum_any _ (la ++ lb) _ HI2.out (getD_lt_append (by decide) (mem_lt_of_getD HDa.out) (mem_lt_of_getD HDb.out)) (by simp; omega) (HT1.out.below HG2.out (Nat.le_refl _))).mono ?_
    rintro e w' ⟨rfl, n3, rfl⟩
    go_wp2_with fail
    refine (words32_any _ xs _ ((HIx1.out _ HG2.out).drewN _) HDx.out (by omega) ((HT1.out.below HG2.out (Nat.le_refl _)).drewN _)).mono ?_
    rintro e w3 ⟨rfl, hb3⟩
    have HG3 := Lib.hid (below_step (below_drewN HG2.out n3) hb3 (Nat.le_refl _))
    clear hb3
    go_wp2_with fail
    refine (refWords32_any _ xs _ (HIx1.out _ HG3.out) HDx.out (by omega)).mono ?_
    rintro e w4 ⟨rfl, hb4⟩
    have HG4 := Lib.hid (below_step HG3.out hb4 (Nat.le_refl _))
    clear hb4
    go_wp2_with fail
    go_ret
    exact ⟨rfl, HB.out.trans (HG4.out.mono HB.out.size)⟩

theorem gTab0 : Tryd.prog.globalNamed "taproot/crc.rests" = some 0 := by kernel_rfl
theorem gType0 : (Tryd.prog.globals[0]?).map (·.type) = some 44 := by kernel_rfl
theorem table0 {W : World} (h : laidMetH Tryd.prog Rows.crcJoinsRow.laid W) : Lib.TabIs Tryd.prog W "taproot/crc.rests" .u32 [0, 498536548, 997073096, 651767980, 1994146192, 1802195444, 1303535960, 1342533948, 3988292384, 4027552580, 3604390888, 3412177804, 2607071920, 2262029012, 2685067896, 3183342108] :=
  Lib.tabIs_of_head gTab0 gType0 Tryd.underlying44 Tryd.underlying22 (by kernel_rfl) (by kernel_rfl) h

theorem contract (H : Type) (enc : TypeId × Value → H) (W : World) (base : Nat) (args : Array Value) (ds gs : List (DataW H)) (before : List MemPlace)
    (hval : ∀ (j : Nat) t v, Tryd.f5.params[j]? = some t → args[j]? = some v → Value.okWide Tryd.prog W .any base t v)
    (hW : DataW.Whole enc Tryd.prog Tryd.f5.params.toList Rows.crcJoinsSpec.vars false W args.toList ds gs before) (hL : laidMetH Tryd.prog Rows.crcJoinsRow.laid W) :
    Calls Tryd.prog 5 args W fun e W' => ∃ v, e = .returned v ∧ Rows.crcJoinsSpec.post enc Tryd.prog Tryd.f5 false true false false W args v W' := by
  have hW' := hW
  obtain ⟨p, q, hA0, hV, rfl, hfz, hnd⟩ := hW
  have hA : DataW.TrodAll enc Tryd.prog W 0 (fun _ => true) true Tryd.f5.params.toList args.toList ds p := hA0
  rw [Tryd.params5] at hA hval
  obtain ⟨v0, vs0, d0, ds0, p0, q0, hargs, rfl, rfl, h0, r0⟩ := trodAll_cons hA
  obtain ⟨v1, vs1, d1, ds1, p1, q1, rfl, rfl, rfl, h1, r1⟩ := trodAll_cons r0
  obtain ⟨v2, vs2, d2, ds2, p2, q2, rfl, rfl, rfl, h2, r2⟩ := trodAll_cons r1
  obtain ⟨rfl, rfl, rfl⟩ := trodAll_nil r2
  obtain rfl : args = #[v0, v1, v2] := by cases args; simp_all
  obtain ⟨rfl, rfl⟩ := trodVars_none hV
  obtain ⟨a0, len0, cap0, rfl⟩ := okWide_slice Tryd.underlying23 (hval 0 23 v0 rfl rfl)
  have k0 := h0
  have lt0 : ∀ x ∈ p0, x.block < W.heap.size := by obtain ⟨m, hm⟩ := k0; exact DataW.trod_lt m _ _ _ hm
  obtain ⟨z0, w0⟩ : ∃ zs, IsRow .u8 W a0 len0 cap0 zs := isRow_of Tryd.underlying23 Tryd.underlying5 (by kernel_rfl) h0
  obtain ⟨a1, len1, cap1, rfl⟩ := okWide_slice Tryd.underlying23 (hval 1 23 v1 rfl rfl)
  have k1 := h1
  have lt1 : ∀ x ∈ p1, x.block < W.heap.size := by obtain ⟨m, hm⟩ := k1; exact DataW.trod_lt m _ _ _ hm
  obtain ⟨z1, w1⟩ : ∃ zs, IsRow .u8 W a1 len1 cap1 zs := isRow_of Tryd.underlying23 Tryd.underlying5 (by kernel_rfl) h1
  obtain ⟨a2, len2, cap2, rfl⟩ := okWide_slice Tryd.underlying34 (hval 2 34 v2 rfl rfl)
  have k2 := h2
  have lt2 : ∀ x ∈ p2, x.block < W.heap.size := by obtain ⟨m, hm⟩ := k2; exact DataW.trod_lt m _ _ _ hm
  obtain ⟨z2, w2⟩ : ∃ zs, IsRow .u64 W a2 len2 cap2 zs := isRow_of Tryd.underlying34 Tryd.underlying29 (by kernel_rfl) h2
  clear hA0
  refine (walk a0 len0 cap0 z0 a1 len1 cap1 z1 a2 len2 cap2 z2 W w0 w1 w2 (table0 hL)).mono fun e W' ⟨he, bel⟩ => ?_
  subst he
  exact ⟨_, rfl, _, _, _, [], _, [], hW', trodAll_mk1 (shut_bool Tryd.underlying4 _), (trodAll_cons_mk (Below.trod laidOut (by kernel_rfl) (of_decide_eq_true (by kernel_rfl)) k0 bel lt0) (trodAll_cons_mk (Below.trod laidOut (by kernel_rfl) (of_decide_eq_true (by kernel_rfl)) k1 bel lt1) (trodAll_cons_mk (Below.trod laidOut (by kernel_rfl) (of_decide_eq_true (by kernel_rfl)) k2 bel lt2) trodAll_mk0))), rfl, bel.frame _, fun h => by cases h⟩

noncomputable def laidWorld (os : Os) : World :=
  { World.holding Tryd.prog os ⟨#[], #[], []⟩ with heap := ((World.holding Tryd.prog os ⟨#[], #[], []⟩).heap).modify 0 fun
      | .cells _ t frozen => .cells #[.int .u32 0, .int .u32 498536548, .int .u32 997073096, .int .u32 651767980, .int .u32 1994146192, .int .u32 1802195444, .int .u32 1303535960, .int .u32 1342533948, .int .u32 3988292384, .int .u32 4027552580, .int .u32 3604390888, .int .u32 3412177804, .int .u32 2607071920, .int .u32 2262029012, .int .u32 2685067896, .int .u32 3183342108] t frozen
      | o => o }
theorem laid_met (os : Os) : laidMet Tryd.prog Rows.crcJoinsRow.laid ((laidWorld os).forCall (fun _ _ => 0) ⟨#[], #[.slice none 0 0, .slice none 0 0, .slice none 0 0], []⟩).memory :=
  laidMet_of_run' 8 (by kernel_rfl) (by kernel_rfl)
theorem reads (os : Os) {H : Type} (enc : TypeId × Value → H) : ∃ x, DataW.whole enc Tryd.prog ((laidWorld os).forCall (fun _ _ => 0) ⟨#[], #[.slice none 0 0, .slice none 0 0, .slice none 0 0], []⟩).memory Tryd.f5.params.toList Rows.crcJoinsSpec.vars false (#[.slice none 0 0, .slice none 0 0, .slice none 0 0] : Array Value).toList 8 = some ([.nil, .nil, .nil], [], x) :=
  ⟨[], by kernel_rfl⟩

set_option maxRecDepth 100000 in
theorem lifted (os : Os) (started : os.Started) (H : Type) (enc : TypeId × Value → H) (F : Stop.Interp) :
    ReturnsInHanded {} Tryd.checked os 5 .any ((OpenSpec.ofChange Rows.crcJoinsSpec).preRow enc Tryd.prog Tryd.f5 Rows.crcJoinsRow.domain false Rows.crcJoinsRow.laid) (((OpenSpec.ofChange Rows.crcJoinsSpec).at F).post enc Tryd.prog Tryd.f5 false true false false) := by
  obtain ⟨places, hx⟩ := reads os enc
  refine returnsInHanded_of_row (C := Tryd.checked) (s := OpenSpec.ofChange Rows.crcJoinsSpec) own started (by kernel_rfl) Tryd.func5
    (witness_row_at (enc := enc) (C := Tryd.checked) false (laidWorld os) #[.slice none 0 0, .slice none 0 0, .slice none 0 0] rfl (by kernel_rfl) (by kernel_rfl) (by kernel_rfl)
      (OpenSpec.preRow_of_cond 8 hx (by kernel_rfl) (fun k hk => by cases hk) (by kernel_rfl) (laid_met os))) ?_
  intro W base args ds gs before hval hW _ hcond hreach hL hsh _
  exact contract H enc W base args ds gs before hval hW hL

theorem said : Rows.CrcJoinsSaid :=
  OpenClaim.holds_of_cond 5 Tryd.f5 rfl rfl rfl rfl rfl rfl rfl ⟨rfl, rfl, rfl, rfl, rfl⟩ rfl rfl rfl rfl rfl (by kernel_rfl) Tryd.func5 (by kernel_rfl)
    (of_decide_eq_true (by kernel_rfl)) (by unfold Func.isWrapper; first | (rw [if_pos (by decide +kernel)]; kernel_rfl) | (rw [if_neg (by decide +kernel)]; exact ⟨rfl, rfl⟩))
    (fun os started H enc _ F => by rw [OpenClaim.pre_eq_preRow]; exact lifted os started H enc F)

theorem plain (f : FuncId) (fn : Func) (hf : Tryd.pinned.checked.prog.funcNamed "taproot/taprootlaw02.CrcJoins" = some f) (hfn : Tryd.pinned.checked.prog.funcs[f]? = some fn) :
    false = Tryd.pinned.checked.prog.looks [] ∧ ∀ (j : Nat) t, fn.params[j]? = some t → Tryd.pinned.checked.prog.wantsStandIn t = false := by
  obtain rfl : f = 5 := Option.some.inj ((show Tryd.prog.funcNamed "taproot/taprootlaw02.CrcJoins" = some 5 by kernel_rfl).symm.trans hf) |>.symm
  obtain rfl : fn = Tryd.f5 := (Option.some.inj (Tryd.func5.symm.trans hfn)).symm
  refine ⟨by kernel_rfl, fun j t ht => ?_⟩
  rw [Tryd.params5] at ht
  have hm := Array.mem_of_getElem? ht
  simp only [List.mem_toArray, List.mem_cons, List.not_mem_nil, or_false] at hm
  rcases hm with rfl | rfl | rfl
  · exact (show Tryd.prog.wantsStandIn 23 = false by kernel_rfl)
  · exact (show Tryd.prog.wantsStandIn 23 = false by kernel_rfl)
  · exact (show Tryd.prog.wantsStandIn 34 = false by kernel_rfl)

/-- The card: the statement. -/
theorem proved : Rows.CrcJoinsCardSaid :=
  Claim7.holds_tied_plain_at .later [] _ _ _ _ said (fun _ h => by cases h) (by kernel_rfl) (fun _ h => by cases h) crcJoins_row_tie rfl ⟨rfl, rfl⟩ (by kernel_rfl) rfl plain (by kernel_rfl)
#print axioms proved
end Go.Proofs.YticcknhbeeladaaDoor.crcJoins
