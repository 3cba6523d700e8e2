/-
  Any object that may be is read from its word, and its fields lie apart; one that may not be is not read; for any address from 0 to 4294967295.
  Conditions: none beyond the row (every argument that can be read as data); the tables that the row lists hold what the text lays, which the card ties.
-/
import Derived.Test.YtdhakfkcenfdoaaDoorPre
import Derived.Test.YtdhakfkcenfdoaaDoorCards
import Derived.Test.YtdhakfkcenfdoaaDoorTie
import Derived.Deep.DeepHandedRow
import Derived.Lib.LaidTab
import Derived.Test.YtdhakfkcenfdoaaDoorAwake08
import Derived.Test.YtdhakfkcenfdoaaDoorObjDec
import Derived.Test.YtdhakfkcenfdoaaDoorStructs
namespace Go.Proofs.YtdhakfkcenfdoaaDoor.oheadBack
open Go.ChangeShapes Go.WideShapes Go.ChangeAt Go.RowKit
open Go.ChangeMaps (open_string shut_string)
set_option linter.unusedVariables false

open Bt Cr Oh

theorem rests_same : ∀ i, i < 16 → ([0, 498536548, 997073096, 651767980, 1994146192, 1802195444, 1303535960, 1342533948, 3988292384, 4027552580, 3604390888, 3412177804, 2607071920, 2262029012, 2685067896, 3183342108] : List Int).getD i 0 = ((tab.getD i 0 : Nat) : Int) := by decide +kernel

set_option maxRecDepth 100000 in
set_option maxHeartbeats 1000000 in
theorem walk  (a0 : Int) (a1_0 a1_1 : Int) (w : World) (w0 : (Lit.int .u32 a0).wf = true) (w1_0 : (Lit.int .i64 a1_0).wf = true) (w1_1 : (Lit.int .i64 a1_1).wf = true) (t0 : Lib.TabIs Tryd.prog w "taproot/crc.rests" .u32 [0, 498536548, 997073096, 651767980, 1994146192, 1802195444, 1303535960, 1342533948, 3988292384, 4027552580, 3604390888, 3412177804, 2607071920, 2262029012, 2685067896, 3183342108]) :
    Calls Tryd.prog 5 #[.int .u32 a0, .agg #[.int .i64 a1_0, .int .i64 a1_1]] w fun e w' => e = .returned (.bool true) ∧ Below w.heap.size w w' := by
  have hT : HasRests w := fun i hi => by
    have := t0.cell (g := 1) (by kernel_rfl) i hi
    rw [rests_same i hi] at this
    exact this
  have b0 := bounds_u32 w0
  obtain ⟨n, rfl⟩ := Int.eq_ofNat_of_zero_le b0.1
  have hp : IntKind.u64.wrap ((n : Nat) : Int) = ((n : Nat) : Int) := by rw [IntKind.wrap_u64]; omega
  have hp64 : n < 2 ^ 64 := by omega
  have hn' : (n : Int) ≤ 4294967295 := by omega
  have HT := Lib.hid hT
  have HP := Lib.hid hp
  clear t0 w0 w1_0 w1_1 b0 hT hp
  have ENC : Hid (∀ w, HasRests w → Calls Tryd.prog 9 #[.agg #[.int .i64 a1_0, .int .i64 a1_1], .int .i64 n] w (MadeOne (.int .u64 (encO a1_0 a1_1 n : Nat)) w)) := Lib.hid fun w h => objEnc_any n n a1_0 a1_1 w HP.out hp64 h
  have hx := encO_lt a1_0 a1_1 n
  have DEC : Hid (∀ w, HasRests w → Calls Tryd.prog 7 #[.int .i64 n, .int .u64 (encO a1_0 a1_1 n : Nat)] w (ObjTells (encO a1_0 a1_1 n) n w)) := Lib.hid fun w h => objDec_any n _ n w hx HP.out hp64 h
  have SZ : Hid (∀ w, Calls Tryd.prog 13 #[.agg #[.int .i64 a1_0, .int .i64 a1_1]] w (MadeOne (.int .i64 (sizeO a1_0 a1_1)) w)) := Lib.hid fun w => objSize_any a1_0 a1_1 w
  have B0 := Lib.hid (fun o => (Below.refl w.heap.size w).alloc (Nat.le_refl _) o)
  unfold ObjTells at DEC
  cases hr : mayO a1_0 a1_1 with
  | false =>
    have RES := Lib.hid (back_none n hr)
    rw [encO_not n hr] at ENC DEC
    rw [sizeO_no hr] at SZ
    clear hr hx
    generalize codeO 0 n = code at *
    generalize okP 0 n = k at *
    generalize okD 0 n = c at *
    go_enter Tryd.func5, Tryd.ntmps5
    go_wp2_with fail
    refine (awake_yes _).mono ?_
    rintro e W ⟨rfl, hb⟩
    obtain ⟨b1, hb, s1⟩ := boxT_of1 hb
    have HB := Lib.hid hb
    have c0 : W.cell? ⟨w.heap.size, 0, none⟩ = some (.int .i64 a1_0) := b1.cell 0
    have c1 : W.cell? ⟨w.heap.size, 1, none⟩ = some (.int .i64 a1_1) := b1.cell 1
    have B1 := Lib.hid b1
    clear hb b1
    go_wp2_with fail
    refine (ENC.out _ (HT.out.below HB.out (Nat.le_refl _))).mono ?_
    rintro e W2 ⟨rfl, hb⟩
    have HB2 := Lib.hid (below_step HB.out hb (Nat.le_refl _))
    have B2 := Lib.hid (B1.out.below hb B1.out.lt)
    clear hb c0 c1 B1 HB
    go_wp2_with fail
    refine (DEC.out _ (HT.out.below HB2.out (Nat.le_refl _))).mono ?_
    rintro e W3 ⟨rfl, hb⟩
    have HB3 : Hid (Below w.heap.size w (W3.alloc (.cells #[.int .i64 k, .int .i64 c] 23))) := Lib.hid ((below_step HB2.out hb (Nat.le_refl _)).alloc (Nat.le_trans HB2.out.size hb.size) _)
    have B3 : Hid (BoxT 23 (W3.alloc (.cells #[.int .i64 k, .int .i64 c] 23)) w.heap.size #[.int .i64 a1_0, .int .i64 a1_1]) := Lib.hid ((B2.out.below hb B2.out.lt).alloc _)
    have n3 := BoxT.new 23 W3 #[.int .i64 k, .int .i64 c]
    clear hb B2 HB2
    go_wp2_with (first
      | (refine wpList_load_boxT rfl _ _ rfl (b := w.heap.size) rfl B3.out Tryd.underlying23 rfl infoO ?_)
      | fail)
    generalize W3.alloc (.cells #[.int .i64 k, .int .i64 c] 23) = V at HB3 B3 n3 ⊢
    generalize W3.heap.size = g at n3 ⊢
    have N3 := Lib.hid n3
    clear n3
    refine (SZ.out _).mono ?_
    rintro e W4 ⟨rfl, hb⟩
    have HB4 := Lib.hid (below_step HB3.out hb (Nat.le_refl _))
    have b4 := B3.out.below hb B3.out.lt
    have n4 := N3.out.below hb N3.out.lt
    have c0 : W4.cell? ⟨w.heap.size, 0, none⟩ = some (.int .i64 a1_0) := b4.cell 0
    have c1 : W4.cell? ⟨w.heap.size, 1, none⟩ = some (.int .i64 a1_1) := b4.cell 1
    have d0 : W4.cell? ⟨g, 0, none⟩ = some (.int .i64 k) := n4.cell 0
    have d1 : W4.cell? ⟨g, 1, none⟩ = some (.int .i64 c) := n4.cell 1
    clear hb b4 n4 B3 N3 HB3
    by_cases h0 : code = 0
    · subst h0
      have heq : ∀ w' : World, (Op.equalIn 10000 23 (.agg #[.int .i64 k, .int .i64 c]) (.agg #[.int .i64 a1_0, .int .i64 a1_1])).run Tryd.prog w' = .ok false w' := fun w' => by
        rw [eqO]
        congr 1
        rw [← Bool.not_eq_true]
        intro h
        simp only [Bool.and_eq_true, beq_iff_eq] at h
        exact RES.out ⟨rfl, h.1, h.2⟩
      go_wp2_with fail
      go_ret
      exact ⟨rfl, HB4.out⟩
    · have hd : ((code : Int) == 0) = false := by simp; omega
      have hd' : ((code : Int) != 0) = true := by simp; omega
      clear h0
      go_wp2_with fail
      go_ret
      exact ⟨rfl, HB4.out⟩
  | true =>
    obtain ⟨p, d, rfl, rfl, h1, h2⟩ := may_nat hr
    obtain ⟨g0, g1, g2⟩ := back_all n hr
    have hz := sizeO_yes hr
    rw [g0, g1, g2] at DEC
    rw [hz] at SZ
    clear g0 g1 g2 hz hr
    generalize encO (p : Int) (d : Int) n = x at *
    have hp' : (p : Int) ≤ 63 := by omega
    have hd' : (d : Int) ≤ 16384 := by omega
    have PTR : Hid (∀ w, Calls Tryd.prog 18 #[.agg #[.int .i64 p, .int .i64 d], .int .i64 ((p : Int) - 1)] w (MadeOne (.tuple #[.int .i64 p, .bool (decide (1 ≤ p))]) w)) := Lib.hid fun w => by
      have := objPtr_any p d ((p : Int) - 1) w
      rwa [show wrap64 (1 + ((p : Int) - 1)) = p by unfold wrap64; omega, show inO ((p : Int) - 1) p = decide (1 ≤ p) by unfold inO; rw [decide_eq_decide]; omega] at this
    have DAT0 : Hid (∀ w, Calls Tryd.prog 19 #[.agg #[.int .i64 p, .int .i64 d], .int .i64 0] w (MadeOne (.tuple #[.int .i64 (1 + p), .bool (decide (1 ≤ d))]) w)) := Lib.hid fun w => by
      have := objData_any p d 0 w
      rwa [show wrap64 (wrap64 (1 + (p : Int)) + 0) = 1 + p by unfold wrap64; omega, show inO 0 d = decide (1 ≤ d) by unfold inO; rw [decide_eq_decide]; omega] at this
    have DATL : Hid (∀ w, Calls Tryd.prog 19 #[.agg #[.int .i64 p, .int .i64 d], .int .i64 ((d : Int) - 1)] w (MadeOne (.tuple #[.int .i64 (p + d), .bool (decide (1 ≤ d))]) w)) := Lib.hid fun w => by
      have := objData_any p d ((d : Int) - 1) w
      rwa [show wrap64 (wrap64 (1 + (p : Int)) + ((d : Int) - 1)) = p + d by unfold wrap64; omega, show inO ((d : Int) - 1) d = decide (1 ≤ d) by unfold inO; rw [decide_eq_decide]; omega] at this
    have heq : ∀ w' : World, (Op.equalIn 10000 23 (.agg #[.int .i64 p, .int .i64 d]) (.agg #[.int .i64 p, .int .i64 d])).run Tryd.prog w' = .ok true w' := fun w' => by
      rw [eqO]; simp
    have fz : ((1 + (p : Int) + (d : Int)) == 0) = false := by simp; omega
    have f1 : decide ((p : Int) < 1 + (p : Int)) = true := by simp; omega
    have f2 : ((p : Int) + (d : Int) == 1 + (p : Int) + (d : Int) - 1) = true := by simp; omega
    have f3 : decide ((p : Int) < 1 + (p : Int) + (d : Int)) = true := by simp; omega
    go_enter Tryd.func5, Tryd.ntmps5
    go_wp2_with fail
    refine (awake_yes _).mono ?_
    rintro e W ⟨rfl, hb⟩
    obtain ⟨b1, hb, s1⟩ := boxT_of1 hb
    have HB := Lib.hid hb
    have c0 : W.cell? ⟨w.heap.size, 0, none⟩ = some (.int .i64 p) := b1.cell 0
    have c1 : W.cell? ⟨w.heap.size, 1, none⟩ = some (.int .i64 d) := b1.cell 1
    have B1 := Lib.hid b1
    clear hb b1
    go_wp2_with fail
    refine (ENC.out _ (HT.out.below HB.out (Nat.le_refl _))).mono ?_
    rintro e W2 ⟨rfl, hb⟩
    have HB2 := Lib.hid (below_step HB.out hb (Nat.le_refl _))
    have B2 := Lib.hid (B1.out.below hb B1.out.lt)
    clear hb c0 c1 B1 HB
    go_wp2_with fail
    refine (DEC.out _ (HT.out.below HB2.out (Nat.le_refl _))).mono ?_
    rintro e W3 ⟨rfl, hb⟩
    have HB3 : Hid (Below w.heap.size w (W3.alloc (.cells #[.int .i64 p, .int .i64 d] 23))) := Lib.hid ((below_step HB2.out hb (Nat.le_refl _)).alloc (Nat.le_trans HB2.out.size hb.size) _)
    have B3 : Hid (BoxT 23 (W3.alloc (.cells #[.int .i64 p, .int .i64 d] 23)) w.heap.size #[.int .i64 p, .int .i64 d]) := Lib.hid ((B2.out.below hb B2.out.lt).alloc _)
    have n3 := BoxT.new 23 W3 #[.int .i64 p, .int .i64 d]
    clear hb B2 HB2
    go_wp2_with (first
      | (refine wpList_load_boxT rfl _ _ rfl (b := w.heap.size) rfl B3.out Tryd.underlying23 rfl infoO ?_)
      | fail)
    generalize W3.alloc (.cells #[.int .i64 p, .int .i64 d] 23) = V at HB3 B3 n3 ⊢
    generalize W3.heap.size = g at n3 ⊢
    have N3 := Lib.hid n3
    clear n3
    refine (SZ.out _).mono ?_
    rintro e W4 ⟨rfl, hb⟩
    have HB4 := Lib.hid (below_step HB3.out hb (Nat.le_refl _))
    have b4 := B3.out.below hb B3.out.lt
    have B4 := Lib.hid b4
    have N4 := Lib.hid (N3.out.below hb N3.out.lt)
    have c0 : W4.cell? ⟨w.heap.size, 0, none⟩ = some (.int .i64 p) := b4.cell 0
    have c1 : W4.cell? ⟨w.heap.size, 1, none⟩ = some (.int .i64 d) := b4.cell 1
    clear hb b4 B3 N3 HB3
    go_wp2_with fail
    refine (PTR.out _).mono ?_
    rintro e W5 ⟨rfl, hb⟩
    have HB5 := Lib.hid (below_step HB4.out hb (Nat.le_refl _))
    have b5 := B4.out.below hb B4.out.lt
    have B5 := Lib.hid b5
    have N5 := Lib.hid (N4.out.below hb N4.out.lt)
    clear c0 c1
    have c0 : W5.cell? ⟨w.heap.size, 0, none⟩ = some (.int .i64 p) := b5.cell 0
    have c1 : W5.cell? ⟨w.heap.size, 1, none⟩ = some (.int .i64 d) := b5.cell 1
    clear hb b5 B4 N4 HB4
    go_wp2_with fail
    refine (DAT0.out _).mono ?_
    rintro e W6 ⟨rfl, hb⟩
    have HB6 := Lib.hid (below_step HB5.out hb (Nat.le_refl _))
    have b6 := B5.out.below hb B5.out.lt
    have B6 := Lib.hid b6
    have N6 := Lib.hid (N5.out.below hb N5.out.lt)
    clear c0 c1
    have c0 : W6.cell? ⟨w.heap.size, 0, none⟩ = some (.int .i64 p) := b6.cell 0
    have c1 : W6.cell? ⟨w.heap.size, 1, none⟩ = some (.int .i64 d) := b6.cell 1
    clear hb b6 B5 N5 HB5
    go_wp2_with fail
    refine (DATL.out _).mono ?_
    rintro e W7 ⟨rfl, hb⟩
    have HB7 := Lib.hid (below_step HB6.out hb (Nat.le_refl _))
    have b7 := B6.out.below hb B6.out.lt
    have n7 := N6.out.below hb N6.out.lt
    have B7 := Lib.hid b7
    clear c0 c1
    have c0 : W7.cell? ⟨w.heap.size, 0, none⟩ = some (.int .i64 p) := b7.cell 0
    have c1 : W7.cell? ⟨w.heap.size, 1, none⟩ = some (.int .i64 d) := b7.cell 1
    have d0 : W7.cell? ⟨g, 0, none⟩ = some (.int .i64 p) := n7.cell 0
    have d1 : W7.cell? ⟨g, 1, none⟩ = some (.int .i64 d) := n7.cell 1
    clear hb b7 n7 B6 N6 HB6
    by_cases hq : 1 ≤ p
    · rw [decide_eq_true hq]
      clear hq
      by_cases hs : 1 ≤ d
      · rw [decide_eq_true hs]
        clear hs
        go_wp2_with fail
        refine (SZ.out _).mono ?_
        rintro e W8 ⟨rfl, hb⟩
        have HB8 := Lib.hid (below_step HB7.out hb (Nat.le_refl _))
        have b8 := B7.out.below hb B7.out.lt
        clear c0 c1 d0 d1
        have c0 : W8.cell? ⟨w.heap.size, 0, none⟩ = some (.int .i64 p) := b8.cell 0
        have c1 : W8.cell? ⟨w.heap.size, 1, none⟩ = some (.int .i64 d) := b8.cell 1
        clear hb b8 HB7
        go_wp2_with fail
        refine (SZ.out _).mono ?_
        rintro e W9 ⟨rfl, hb⟩
        have HB9 := Lib.hid (below_step HB8.out hb (Nat.le_refl _))
        clear hb
        go_wp2_with fail
        go_ret
        exact ⟨rfl, HB9.out⟩
      · rw [decide_eq_false hs]
        clear hs
        go_wp2_with fail
        refine (SZ.out _).mono ?_
        rintro e W9 ⟨rfl, hb⟩
        have HB9 := Lib.hid (below_step HB7.out hb (Nat.le_refl _))
        clear hb
        go_wp2_with fail
        go_ret
        exact ⟨rfl, HB9.out⟩
    · rw [decide_eq_false hq]
      clear hq
      by_cases hs : 1 ≤ d
      · rw [decide_eq_true hs]
        clear hs
        go_wp2_with fail
        refine (SZ.out _).mono ?_
        rintro e W8 ⟨rfl, hb⟩
        have HB8 := Lib.hid (below_step HB7.out hb (Nat.le_refl _))
        clear hb
        go_wp2_with fail
        go_ret
        exact ⟨rfl, HB8.out⟩
      · rw [decide_eq_false hs]
        clear hs
        go_wp2_with fail
        go_ret
        exact ⟨rfl, HB7.out⟩

theorem gTab0 : Tryd.prog.globalNamed "taproot/crc.rests" = some 1 := by kernel_rfl
theorem gType0 : (Tryd.prog.globals[1]?).map (·.type) = some 72 := by kernel_rfl
theorem table0 {W : World} (h : laidMetH Tryd.prog Rows.oheadBackRow.laid W) : Lib.TabIs Tryd.prog W "taproot/crc.rests" .u32 [0, 498536548, 997073096, 651767980, 1994146192, 1802195444, 1303535960, 1342533948, 3988292384, 4027552580, 3604390888, 3412177804, 2607071920, 2262029012, 2685067896, 3183342108] :=
  Lib.tabIs_of_head gTab0 gType0 Tryd.underlying72 Tryd.underlying43 (by kernel_rfl) (by kernel_rfl) h

theorem contract (H : Type) (enc : TypeId × Value → H) (W : World) (base : Nat) (args : Array Value) (ds gs : List (DataW H)) (before : List MemPlace)
    (hval : ∀ (j : Nat) t v, Tryd.f5.params[j]? = some t → args[j]? = some v → Value.okWide Tryd.prog W .any base t v)
    (hW : DataW.Whole enc Tryd.prog Tryd.f5.params.toList Rows.oheadBackSpec.vars false W args.toList ds gs before) (hL : laidMetH Tryd.prog Rows.oheadBackRow.laid W) :
    Calls Tryd.prog 5 args W fun e W' => ∃ v, e = .returned v ∧ Rows.oheadBackSpec.post enc Tryd.prog Tryd.f5 false true false false W args v W' := by
  have hW' := hW
  obtain ⟨p, q, hA0, hV, rfl, hfz, hnd⟩ := hW
  have hA : DataW.TrodAll enc Tryd.prog W 0 (fun _ => true) true Tryd.f5.params.toList args.toList ds p := hA0
  rw [Tryd.params5] at hA hval
  obtain ⟨v0, vs0, d0, ds0, p0, q0, hargs, rfl, rfl, h0, r0⟩ := trodAll_cons hA
  obtain ⟨v1, vs1, d1, ds1, p1, q1, rfl, rfl, rfl, h1, r1⟩ := trodAll_cons r0
  obtain ⟨rfl, rfl, rfl⟩ := trodAll_nil r1
  obtain rfl : args = #[v0, v1] := by cases args; simp_all
  obtain ⟨rfl, rfl⟩ := trodVars_none hV
  obtain ⟨a0, rfl, rfl, rfl, w0⟩ := open_int Tryd.underlying43 (hval 0 43 v0 rfl rfl) h0
  have k1 := h1
  have lt1 : ∀ x ∈ p1, x.block < W.heap.size := by obtain ⟨m, hm⟩ := k1; exact DataW.trod_lt m _ _ _ hm
  obtain ⟨z1, hz1, rfl, wz1⟩ := struct_ints Tryd.underlying23 (by kernel_rfl) [.i64, .i64] (by kernel_rfl) (by kernel_rfl) (by kernel_rfl) (hval 1 23 v1 rfl rfl) h1
  obtain ⟨a1_0, a1_1, rfl⟩ := list2 hz1
  have w1_0 : (Lit.int .i64 a1_0).wf = true := wz1 (.i64, a1_0) (by simp)
  have w1_1 : (Lit.int .i64 a1_1).wf = true := wz1 (.i64, a1_1) (by simp)
  clear wz1 hz1
  simp only [vals, List.zip_cons_cons, List.zip_nil_right, List.map_cons, List.map_nil] at k1 ⊢
  clear hA0
  refine (walk a0 a1_0 a1_1 W w0 w1_0 w1_1 (table0 hL)).mono fun e W' ⟨he, bel⟩ => ?_
  subst he
  exact ⟨_, rfl, _, _, _, [], _, [], hW', trodAll_mk1 (shut_bool Tryd.underlying4 _), (trodAll_cons_mk (shut_int Tryd.underlying43 w0) (trodAll_cons_mk (Below.trod laidOut (by kernel_rfl) (of_decide_eq_true (by kernel_rfl)) k1 bel lt1) trodAll_mk0)), rfl, bel.frame _, fun h => by cases h⟩

noncomputable def laidWorld (os : Os) : World :=
  { World.holding Tryd.prog os ⟨#[], #[], []⟩ with heap := ((World.holding Tryd.prog os ⟨#[], #[], []⟩).heap).modify 1 fun
      | .cells _ t frozen => .cells #[.int .u32 0, .int .u32 498536548, .int .u32 997073096, .int .u32 651767980, .int .u32 1994146192, .int .u32 1802195444, .int .u32 1303535960, .int .u32 1342533948, .int .u32 3988292384, .int .u32 4027552580, .int .u32 3604390888, .int .u32 3412177804, .int .u32 2607071920, .int .u32 2262029012, .int .u32 2685067896, .int .u32 3183342108] t frozen
      | o => o }
theorem laid_met (os : Os) : laidMet Tryd.prog Rows.oheadBackRow.laid ((laidWorld os).forCall (fun _ _ => 0) ⟨#[], #[.int .u32 0, .agg #[.int .i64 0, .int .i64 0]], []⟩).memory :=
  laidMet_of_run' 8 (by kernel_rfl) (by kernel_rfl)
theorem reads (os : Os) {H : Type} (enc : TypeId × Value → H) : ∃ x, DataW.whole enc Tryd.prog ((laidWorld os).forCall (fun _ _ => 0) ⟨#[], #[.int .u32 0, .agg #[.int .i64 0, .int .i64 0]], []⟩).memory Tryd.f5.params.toList Rows.oheadBackSpec.vars false (#[.int .u32 0, .agg #[.int .i64 0, .int .i64 0]] : Array Value).toList 8 = some ([.lit (.int .u32 0), .agg [.lit (.int .i64 0), .lit (.int .i64 0)]], [], x) :=
  ⟨[], by kernel_rfl⟩

set_option maxRecDepth 100000 in
theorem lifted (os : Os) (started : os.Started) (H : Type) (enc : TypeId × Value → H) (F : Stop.Interp) :
    ReturnsInHanded {} Tryd.checked os 5 .any ((OpenSpec.ofChange Rows.oheadBackSpec).preRow enc Tryd.prog Tryd.f5 Rows.oheadBackRow.domain false Rows.oheadBackRow.laid) (((OpenSpec.ofChange Rows.oheadBackSpec).at F).post enc Tryd.prog Tryd.f5 false true false false) := by
  obtain ⟨places, hx⟩ := reads os enc
  refine returnsInHanded_of_row (C := Tryd.checked) (s := OpenSpec.ofChange Rows.oheadBackSpec) own started (by kernel_rfl) Tryd.func5
    (witness_row_at (enc := enc) (C := Tryd.checked) false (laidWorld os) #[.int .u32 0, .agg #[.int .i64 0, .int .i64 0]] rfl (by kernel_rfl) (by kernel_rfl) (by kernel_rfl)
      (OpenSpec.preRow_of_cond 8 hx (by kernel_rfl) (fun k hk => by cases hk) (by kernel_rfl) (laid_met os))) ?_
  intro W base args ds gs before hval hW _ hcond hreach hL hsh _
  exact contract H enc W base args ds gs before hval hW hL

theorem said : Rows.OheadBackSaid :=
  OpenClaim.holds_of_cond 5 Tryd.f5 rfl rfl rfl rfl rfl rfl rfl ⟨rfl, rfl, rfl, rfl, rfl⟩ rfl rfl rfl rfl rfl (by kernel_rfl) Tryd.func5 (by kernel_rfl)
    (of_decide_eq_true (by kernel_rfl)) (by unfold Func.isWrapper; first | (rw [if_pos (by decide +kernel)]; kernel_rfl) | (rw [if_neg (by decide +kernel)]; exact ⟨rfl, rfl⟩))
    (fun os started H enc _ F => by rw [OpenClaim.pre_eq_preRow]; exact lifted os started H enc F)

theorem plain (f : FuncId) (fn : Func) (hf : Tryd.pinned.checked.prog.funcNamed "taproot/taprootlaw08.OheadBack" = some f) (hfn : Tryd.pinned.checked.prog.funcs[f]? = some fn) :
    false = Tryd.pinned.checked.prog.looks [] ∧ ∀ (j : Nat) t, fn.params[j]? = some t → Tryd.pinned.checked.prog.wantsStandIn t = false := by
  obtain rfl : f = 5 := Option.some.inj ((show Tryd.prog.funcNamed "taproot/taprootlaw08.OheadBack" = some 5 by kernel_rfl).symm.trans hf) |>.symm
  obtain rfl : fn = Tryd.f5 := (Option.some.inj (Tryd.func5.symm.trans hfn)).symm
  refine ⟨by kernel_rfl, fun j t ht => ?_⟩
  rw [Tryd.params5] at ht
  have hm := Array.mem_of_getElem? ht
  simp only [List.mem_toArray, List.mem_cons, List.not_mem_nil, or_false] at hm
  rcases hm with rfl | rfl
  · exact (show Tryd.prog.wantsStandIn 43 = false by kernel_rfl)
  · exact (show Tryd.prog.wantsStandIn 23 = false by kernel_rfl)

/-- The card: the statement. -/
theorem proved : Rows.OheadBackCardSaid :=
  Claim7.holds_tied_plain_at .later [] _ _ _ _ said (fun _ h => by cases h) (by kernel_rfl) (fun _ h => by cases h) oheadBack_row_tie rfl ⟨rfl, rfl⟩ (by kernel_rfl) rfl plain (by kernel_rfl)
#print axioms proved
end Go.Proofs.YtdhakfkcenfdoaaDoor.oheadBack
