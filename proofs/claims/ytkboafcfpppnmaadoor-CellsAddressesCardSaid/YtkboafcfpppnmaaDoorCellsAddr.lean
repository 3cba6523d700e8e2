/- cells: Address. -/
import Derived.Test.YtkboafcfpppnmaaDoorCellsHas
import Derived.Test.YtkboafcfpppnmaaDoorGeoFirst
import Derived.Deep.RegionHeld3
namespace Go.Proofs.YtkboafcfpppnmaaDoor
open Go.ChangeShapes Go.WideShapes Go.ChangeAt Go.RowKit Cl Ce
set_option linter.unusedVariables false

set_option maxHeartbeats 1000000 in
theorem cellAddr_any (n k b i : Int) (w : World) (hT : HasCells w) (hn : n ≤ 1048576) :
    Calls Tryd.prog 12 #[.agg #[.int .i64 n], .int .i64 k, .agg #[.int .i64 b, .int .i64 i]] w (MadeOne (.int .i64 (addrC n k b i)) w) := by
  have HB : Hid (∀ o o', Below w.heap.size w ((w.alloc o).alloc o')) := Lib.hid fun o o' => ((Below.refl _ _).alloc (Nat.le_refl _) o).alloc (by simp) o'
  have HT := Lib.hid hT
  have HTA : Hid (∀ o o', HasCells ((w.alloc o).alloc o')) := Lib.hid fun o o' => hT.below (HB.out o o') (Nat.le_refl _)
  have HAS : Hid (∀ w, HasCells w → Calls Tryd.prog 24 #[.agg #[.int .i64 n], .int .i64 k, .agg #[.int .i64 b, .int .i64 i]] w (MadeOne (.bool (hasC n k b i)) w)) := Lib.hid fun w h => cellHas_any n k b i w h
  clear hT
  cases hr : hasC n k b i with
  | false =>
    have HA := Lib.hid (addrC_no hr)
    rw [hr] at HAS
    clear hr
    go_enter Tryd.func12, Tryd.ntmps12
    go_wp2_with fail
    refine (HAS.out _ (HTA.out _ _)).mono ?_
    rintro e W ⟨rfl, hb⟩
    obtain ⟨-, -, hb, -⟩ := boxT_of2 hb
    have HBW := Lib.hid hb
    clear hb
    go_wp2_with fail
    go_ret
    exact ⟨ret_int HA.out.symm, HBW.out⟩
  | true =>
    have HA := Lib.hid (addrC_yes hr)
    obtain ⟨h1, h2, h3, h4⟩ := hasC_iff.1 hr
    have hc := cellsC_le k
    have hw := wordsC_le k
    rw [hr] at HAS
    have hF : firstG n b = 512 * b := by unfold firstG; rw [if_pos (by omega)]
    have HFI : Hid (∀ w, Calls Tryd.prog 23 #[.agg #[.int .i64 n], .int .i64 b] w (MadeOne (.int .i64 (512 * b)) w)) := Lib.hid fun w => by
      have := geoFirst_any n b w hn
      rwa [hF] at this
    have HWO : Hid (∀ w, HasCells w → Calls Tryd.prog 17 #[.int .i64 k] w fun e w' => e = .returned (.int .i64 (wordsC k : Nat)) ∧ w = w') := Lib.hid fun w h => words_all k w h
    have hi : i ≤ 256 := by omega
    generalize wordsC k = m at *
    have hm0 : 0 ≤ i * (m : Int) := Int.mul_nonneg h3 (by omega)
    have hm1 : i * (m : Int) ≤ 65536 := by
      have : i * (m : Int) ≤ 256 * 256 := Int.mul_le_mul hi (by omega) (by omega) (by omega)
      omega
    clear hr hF h4 hc
    go_enter Tryd.func12, Tryd.ntmps12
    go_wp2_with fail
    refine (HAS.out _ (HTA.out _ _)).mono ?_
    rintro e W ⟨rfl, hb⟩
    obtain ⟨b1, b2, hb, -⟩ := boxT_of2 hb
    have HBW := Lib.hid hb
    have HT2 : Hid (HasCells W) := Lib.hid (HT.out.below hb (Nat.le_refl _))
    have c0 : W.cell? ⟨w.heap.size, 0, none⟩ = some (.int .i64 n) := b1.cell 0
    have d0 : W.cell? ⟨w.heap.size + 1, 0, none⟩ = some (.int .i64 b) := b2.cell 0
    have d1 : W.cell? ⟨w.heap.size + 1, 1, none⟩ = some (.int .i64 i) := b2.cell 1
    have CV : Hid (∀ w', Below W.heap.size W w' → w'.cell? ⟨w.heap.size, 0, none⟩ = some (.int .i64 n) ∧ w'.cell? ⟨w.heap.size + 1, 0, none⟩ = some (.int .i64 b) ∧ w'.cell? ⟨w.heap.size + 1, 1, none⟩ = some (.int .i64 i)) := Lib.hid fun w' h =>
      ⟨(h.cell (p := ⟨w.heap.size, 0, none⟩) b1.lt).trans c0, (h.cell (p := ⟨w.heap.size + 1, 0, none⟩) b2.lt).trans d0, (h.cell (p := ⟨w.heap.size + 1, 1, none⟩) b2.lt).trans d1⟩
    clear hb b1 b2 HAS HT HTA
    go_wp2_with fail
    go_region_held3 (fun w' => w'.cell? ⟨w.heap.size, 0, none⟩ = some (.int .i64 n) ∧ w'.cell? ⟨w.heap.size + 1, 0, none⟩ = some (.int .i64 b) ∧ w'.cell? ⟨w.heap.size + 1, 1, none⟩ = some (.int .i64 i)) (first | go_keep | exact CV.out _ K1.out)
      (first
        | (go_at_call 23; refine (HFI.out _).mono ?_; rintro e W1 ⟨rfl, hb⟩; have K1 := Lib.hid (below_undrew hb); clear hb)
        | (go_at_call 17; refine (HWO.out _ (HT2.out.below K1.out (Nat.le_refl _))).mono ?_; rintro e W2 ⟨rfl, rfl⟩))
    go_wp2_with fail
    go_ret
    exact ⟨ret_int (by rw [HA.out, Int.mul_comm b, IntWalk.i64_left, IntWalk.i64_left]; generalize i * (m : Int) = q at hm0 hm1 ⊢; unfold wrap64; omega), below_step HBW.out K1.out (Nat.le_refl _)⟩

end Go.Proofs.YtkboafcfpppnmaaDoor
