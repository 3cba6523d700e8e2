/- runs: Take. -/
import Derived.Test.YtkejpdkokaiidaaIdxShort
import Derived.StillTailTactics
namespace Go.Proofs.Ytkejpdkokaiidaa
open Go.ChangeShapes Go.WideShapes Go.ChangeAt Go.RowKit Bk Rn
set_option linter.unusedVariables false

theorem grown_undrew {w w' : World} {row : Option Nat} (h : w.drew.grownBy w' row) : w.grownBy w' row := ⟨h.os, h.tape, h.output, h.size, h.block⟩

set_option maxRecDepth 100000 in
set_option maxHeartbeats 2000000 in
theorem idxTake_any {w : World} {x : Nat} {own : Nat → Prop} {lim : Int} {f : Nat → Bool} (h : Ix w x own lim f) (h2 : lim ≤ 1000) (n : Int) (hn1 : -9223372036854775808 ≤ n) (hn2 : n ≤ 9223372036854775807) :
    Calls Try.prog 13 #[.pointer (some ⟨x, 0, none⟩), .int .i64 n] w fun e w' => e = .returned (.tuple #[.int .i64 (takeR f lim.toNat n).2.1, .int .i64 (takeR f lim.toNat n).2.2]) ∧ IxTo x own lim (takeR f lim.toNat n).1 w w' := by
  by_cases hn : n < 1
  · have hr : takeR f lim.toNat n = (f, 0, 1) := by unfold takeR; rw [if_pos hn]
    rw [hr]
    have HT := Lib.hid (IxTo.same h (Below.refl _ _))
    clear h hr
    go_enter Try.func13, Try.ntmps13
    go_wp2_with fail
    go_ret2
    exact ⟨rfl, HT.out⟩
  have hs := idxShortest_any h h2 n hn1 hn2
  obtain ⟨g1, g2, g3⟩ := bestTo_in (runsTo f lim.toNat) n (runsTo f lim.toNat).length
  by_cases hb : bestTo (runsTo f lim.toNat) n (runsTo f lim.toNat).length < 0
  · have hr : takeR f lim.toNat n = (f, 0, 4) := by unfold takeR; rw [if_neg hn, if_pos hb]
    rw [hr]
    unfold ShortIs at hs
    rw [decide_eq_false (by omega : ¬ 0 ≤ bestTo (runsTo f lim.toNat) n (runsTo f lim.toNat).length)] at hs
    have HS := Lib.hid hs
    have HI := Lib.hid h
    clear h hr hs g1 g2 g3 hb
    go_enter Try.func13, Try.ntmps13
    go_wp2_with (go_at_call 27; refine HS.out.mono ?_; rintro e w2 ⟨hb2, rfl⟩; have HB2 := Lib.hid hb2; clear hb2)
    go_ret2
    exact ⟨rfl, IxTo.same HI.out (HB2.out.alloc HB2.out.size _)⟩
  obtain ⟨N, rfl⟩ := Int.eq_ofNat_of_zero_le (show 0 ≤ n by omega)
  obtain ⟨B, hB⟩ := Int.eq_ofNat_of_zero_le (show 0 ≤ bestTo (runsTo f lim.toNat) N (runsTo f lim.toNat).length by omega)
  have g3 := g3 (by omega)
  rw [hB] at g2 g3
  rw [Int.toNat_natCast] at g3
  obtain ⟨s, k, e, hrun⟩ := runs_get (f := f) (b := lim.toNat) (i := B) (by omega)
  rw [e] at g3
  have hr : takeR f lim.toNat N = (setF f s N false, (s : Int), 0) := by
    unfold takeR
    rw [if_neg hn, if_neg hb, hB]
    simp only [Int.toNat_natCast]
    rw [e]
    simp only [Int.toNat_natCast]
  have hbp : bestP (runsTo f lim.toNat) N (runsTo f lim.toNat).length = ((s : Int), (k : Int)) := by
    unfold bestP
    rw [hB, if_pos (by omega), Int.toNat_natCast, e]
  rw [hr]
  unfold ShortIs at hs
  rw [decide_eq_true (by omega : 0 ≤ bestTo (runsTo f lim.toNat) N (runsTo f lim.toNat).length), hbp] at hs
  obtain ⟨bm, hbx, hm, hob⟩ := h.at_
  have hxl := hbx.lt
  have hxne := ixNe hbx hm
  have hlen := runsTo_len f lim.toNat
  have hle := hrun.le
  have hs1 := (h.run hrun).1
  have hkn : N ≤ k := by simp only at g3; omega
  have HI := Lib.hid h
  have HX := Lib.hid hbx
  have HM := Lib.hid hm
  have HS := Lib.hid hs
  have HR := Lib.hid hrun
  clear h hbx hm hs hr hbp e hrun g1 g2 g3 hB hb
  go_enter Try.func13, Try.ntmps13
  go_wp2_with fail
  refine HS.out.mono ?_
  rintro e w2 ⟨hb2, rfl⟩
  have HB2 := Lib.hid hb2
  have hz2 := HB2.out.size
  have HBA := Lib.hid (HB2.out.alloc hz2 (.cells #[.int .i64 s, .int .i64 k] 38))
  have HXA : Hid (BoxT 62 (w2.alloc (.cells #[.int .i64 s, .int .i64 k] 38)) x #[.int .i64 lim, .map (some bm)]) := Lib.hid ((HBA.out.block x hxl).trans HX.out)
  have HMA := Lib.hid (ixMap_keep HM.out (S := fun _ => False) (Keep.ofBelow HBA.out) (fun h => h))
  have c1 := HXA.out.cell 1
  have e0 := (BoxT.new 38 w2 #[.int .i64 s, .int .i64 k]).cell 0
  have e1 := (BoxT.new 38 w2 #[.int .i64 s, .int .i64 k]).cell 1
  have HNW := Lib.hid (BoxT.new 38 w2 #[.int .i64 s, .int .i64 k])
  have hbmA : bm < w2.heap.size := Nat.lt_of_lt_of_le HM.out.lt hz2
  clear hb2
  go_wp2_with fail
  generalize w2.alloc (.cells #[.int .i64 s, .int .i64 k] 38) = wA at *
  go_still_tail 6, (by kernel_rfl)
  change wpList _ _ _ _ _ wA.drew
  have hkt : (N : Int) ≤ k := by omega
  by_cases hkn2 : (N : Int) < k
  · go_wp2_with (
      at_delete; refine wpList_delete_own _ rfl _ _ 60 3 rfl 3 ixKey Try.underlying60 (plainElem (H := Unit) Try.prog 3) bm _ (mapOf f lim.toNat) rfl HMA.out.drew _ (.int .i64 (s : Int)) rfl (ixKl _ (by omega)) ?_; intro w4 hown4 ht4;
      have HO4 := Lib.hid hown4;
      have HG4 : Hid (wA.grownBy w4 (some bm)) := Lib.hid (grown_undrew ht4.grown);
      have c14 : w4.cell? ⟨x, 1, none⟩ = some (.map (some bm)) := (World.cell?_of_block (HG4.out.block x (Nat.lt_of_lt_of_le hxl HBA.out.size) (fun e => hxne (by injection e)))).trans c1;
      have e04 : w4.cell? ⟨w2.heap.size, 0, none⟩ = some (.int .i64 s) := (World.cell?_of_block (HG4.out.block w2.heap.size HNW.out.lt (fun e => by injection e with e; omega))).trans e0;
      have e14 : w4.cell? ⟨w2.heap.size, 1, none⟩ = some (.int .i64 k) := (World.cell?_of_block (HG4.out.block w2.heap.size HNW.out.lt (fun e => by injection e with e; omega))).trans e1;
      have hwz : w2.heap.size < w4.heap.size := Nat.lt_of_lt_of_le HNW.out.lt HG4.out.size;
      clear hown4 ht4 c1 e0 e1)
    have EW1 : Hid (IntKind.i64.wrap ((s : Int) + (N : Int)) = ((s + N : Nat) : Int)) := Lib.hid (by rw [IntKind.wrap_i64] <;> omega)
    have EW2 : Hid (IntKind.i64.wrap ((k : Int) - (N : Int)) = ((k - N : Nat) : Int)) := Lib.hid (by rw [IntKind.wrap_i64] <;> omega)
    go_still_tail 12, (by kernel_rfl)
    change wpList _ _ _ _ _ w4.drew
    go_wp2_with (
      at_mapUpdate; refine wpList_mapUpdate_own _ rfl _ _ _ 60 rfl 3 3 ixKey Try.underlying60 (plainElem (H := Unit) Try.prog 3) bm _ _ rfl HO4.out.drew (by unfold maxLen; omega) (.int .i64 ((s + N : Nat) : Int)) (.int .i64 ((k - N : Nat) : Int)) (.int .i64 ((s + N : Nat) : Int)) (congrArg (Value.int .i64) EW1.out) (congrArg (Value.int .i64) EW2.out) (ixKl _ (by omega)) (.lit (.int .i64 ((k - N : Nat) : Int))) [] (ixEl _ (by omega)) ?_; intro w5 hown5 hg5;
      have HO5 := Lib.hid hown5;
      have HG5 : Hid (w4.grownBy w5 (some bm)) := Lib.hid (grown_undrew hg5);
      have e05 : w5.cell? ⟨w2.heap.size, 0, none⟩ = some (.int .i64 s) := (World.cell?_of_block (HG5.out.block w2.heap.size hwz (fun e => by injection e with e; omega))).trans e04;
      clear hown5 hg5)
    go_ret2
    have hm5 := HO5.out
    exact ⟨rfl, IxTo.turned HI.out HBA.out HX.out hob (HG4.out.andThen HG5.out (fun j hj => .inr hj)) hm5 (mapOf_take HR.out (by omega) (by omega) (hm5.canon ixKey)) (setF_free HI.out.free hs1 (by omega) false)⟩
  · go_wp2_with (
      at_delete; refine wpList_delete_own _ rfl _ _ 60 3 rfl 3 ixKey Try.underlying60 (plainElem (H := Unit) Try.prog 3) bm _ (mapOf f lim.toNat) rfl HMA.out.drew _ (.int .i64 (s : Int)) rfl (ixKl _ (by omega)) ?_; intro w4 hown4 ht4;
      have HO4 := Lib.hid hown4;
      have HG4 : Hid (wA.grownBy w4 (some bm)) := Lib.hid (grown_undrew ht4.grown);
      have c14 : w4.cell? ⟨x, 1, none⟩ = some (.map (some bm)) := (World.cell?_of_block (HG4.out.block x (Nat.lt_of_lt_of_le hxl HBA.out.size) (fun e => hxne (by injection e)))).trans c1;
      have e04 : w4.cell? ⟨w2.heap.size, 0, none⟩ = some (.int .i64 s) := (World.cell?_of_block (HG4.out.block w2.heap.size HNW.out.lt (fun e => by injection e with e; omega))).trans e0;
      have e14 : w4.cell? ⟨w2.heap.size, 1, none⟩ = some (.int .i64 k) := (World.cell?_of_block (HG4.out.block w2.heap.size HNW.out.lt (fun e => by injection e with e; omega))).trans e1;
      have hwz : w2.heap.size < w4.heap.size := Nat.lt_of_lt_of_le HNW.out.lt HG4.out.size;
      clear hown4 ht4 c1 e0 e1)
    obtain rfl : k = N := by omega
    go_ret2
    have hm4 := HO4.out
    exact ⟨rfl, IxTo.turned HI.out HBA.out HX.out hob HG4.out hm4 (mapOf_takeAll HR.out (hm4.canon ixKey)) (setF_free HI.out.free hs1 (by omega) false)⟩

end Go.Proofs.Ytkejpdkokaiidaa
