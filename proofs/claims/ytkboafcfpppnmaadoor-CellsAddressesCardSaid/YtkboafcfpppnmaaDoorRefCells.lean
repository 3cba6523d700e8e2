/- The reference: All (the addresses of a block's cells), Holding. -/
import Derived.Test.YtkboafcfpppnmaaDoorRefClass
import Derived.Test.YtkboafcfpppnmaaDoorCellMath
import Derived.Test.YtkboafcfpppnmaaDoorMade
import Derived.Test.YtkboafcfpppnmaaDoorApp
import Derived.Test.YtkboafcfpppnmaaDoorBoxes
import Derived.Test.YtkboafcfpppnmaaDoorNats
import Derived.Deep.RegionHeld3
namespace Go.Proofs.YtkboafcfpppnmaaDoor
open Go.ChangeShapes Go.WideShapes Go.ChangeAt Go.RowKit Cl Ce
set_option linter.unusedVariables false

theorem infoInt : (Tryd.prog.info? 3).map (fun i => (i.zero, i.size, i.bytes)) = some (some (.int .i64 0), 1, 8) := by kernel_rfl

theorem refWords_all (k : Int) (w : World) :
    Calls Tryd.prog 13 #[.int .i64 k] w (MadeOne (.int .i64 (wordsC k : Nat)) w) := by
  rcases class_or k with h | ⟨n, rfl, h⟩
  · rw [wordsC_no h]
    refine (refWords06_no k w h).mono ?_
    rintro e w' ⟨rfl, rfl⟩
    exact ⟨rfl, Below.refl _ _⟩
  · rw [wordsC_yes h]; exact refWords06_yes n w h
theorem refCells_all (k : Int) (w : World) :
    Calls Tryd.prog 19 #[.int .i64 k] w (MadeOne (.int .i64 (cellsC k : Nat)) w) := by
  rcases class_or k with h | ⟨n, rfl, h⟩
  · rw [cellsC_no h]
    refine (refCells06_no k w h).mono ?_
    rintro e w' ⟨rfl, rfl⟩
    exact ⟨rfl, Below.refl _ _⟩
  · rw [cellsC_yes h]; exact refCells06_yes n w h

/-- The row so far: the first cells' first words. -/
def RowAt (k b : Int) (m B : Nat) (v : Value) (w wr : World) : Prop :=
  wr.ownsRow B 3 1 v m ((firstC k b m).map (Value.int .i64)) ∧ Below B w wr

theorem RowAt.on {k b : Int} {m B : Nat} {v : Value} {w wr w1 : World} (h : RowAt k b m B v w wr) (hb : Below wr.heap.size wr w1) (hB : B ≤ w.heap.size) : RowAt k b m B v w w1 :=
  ⟨h.1.kept (row := none) ⟨hb.os, hb.tape, hb.output, hb.size, fun k hk _ => hb.block k hk⟩ (by cases v.ownBlock <;> simp), below_step h.2 hb hB⟩

set_option maxHeartbeats 1000000 in
theorem refAll_any (n k b : Int) (w : World) (hn : n ≤ 1048576) :
    Calls Tryd.prog 8 #[.int .i64 n, .int .i64 k, .int .i64 b] w (MadeInts .i64 (allC n k b) w) := by
  have HNO : Hid (¬ (1 ≤ b ∧ b < n) → MadeInts .i64 (allC n k b) w (.returned (.slice none 0 0)) w) := Lib.hid fun h => by
    have : allC n k b = [] := by unfold allC manyC; rw [if_neg h]; rfl
    rw [this]
    exact ⟨_, rfl, ⟨none, 0, rfl, by simp, .inl rfl⟩, Below.refl _ _⟩
  by_cases h0 : b < 1
  · have HN := Lib.hid (HNO.out (by omega))
    clear HNO
    go_enter Tryd.func8, Tryd.ntmps8
    go_wp2_with fail
    go_ret
    exact HN.out
  have hd0 : decide (b < 1) = false := by simpa using h0
  by_cases h1 : n ≤ b
  · have HN := Lib.hid (HNO.out (by omega))
    clear HNO h0
    go_enter Tryd.func8, Tryd.ntmps8
    go_wp2_with fail
    go_ret
    exact HN.out
  have hd1 : decide (n ≤ b) = false := by simpa using h1
  clear HNO
  have g0 : 1 ≤ b := by omega
  have g1 : b < 1048576 := by omega
  have hall : allC n k b = firstC k b (cellsC k) := by unfold allC manyC; rw [if_pos (by omega)]
  rw [hall]
  clear hall
  have HCE : Hid (∀ w, Calls Tryd.prog 19 #[.int .i64 k] w (MadeOne (.int .i64 (cellsC k : Nat)) w)) := Lib.hid fun w => refCells_all k w
  have HWO : Hid (∀ w, Calls Tryd.prog 13 #[.int .i64 k] w (MadeOne (.int .i64 (wordsC k : Nat)) w)) := Lib.hid fun w => refWords_all k w
  have hcl := cellsC_le k
  have HFIT : Hid (∀ i : Nat, i < cellsC k → 0 ≤ (i : Int) * (wordsC k : Nat) ∧ (i : Int) * (wordsC k : Nat) ≤ 512) := Lib.hid fun i hi => by
    have h1 := one_fits (k := k) hi
    have h2 : (((i * wordsC k : Nat) : Nat) : Int) = (i : Int) * (wordsC k : Nat) := by simp
    omega
  obtain ⟨i0, hi, hz0, hz1, hz2⟩ := info_parts infoInt
  have H0 : Hid (RowAt k b 0 w.heap.size (.slice none 0 0) w w) := Lib.hid ⟨World.ownsRow_nil _ _ _ _, Below.refl _ _⟩
  clear h0 h1
  go_enter Tryd.func8, Tryd.ntmps8
  go_wp2_with fail
  go_loopw [7, 8] (fun v i wr => ∃ m : Nat, m ≤ cellsC k ∧ i = .int .i64 m ∧ Hid (RowAt k b m w.heap.size v w wr)) (fun _ i _ => 257 - (intOf i).toNat)
  case atStart => exact ⟨0, by omega, rfl, H0⟩
  case round =>
    obtain ⟨m, hm, rfl, HR⟩ := hrel
    go_wp2_with fail
    refine (HCE.out _).mono ?_
    rintro e w1 ⟨rfl, hb1⟩
    have R1 := Lib.hid (HR.out.on hb1 (Nat.le_refl _))
    clear hb1
    by_cases hlt : m < cellsC k
    · have hlt' : ((m : Nat) : Int) < ((cellsC k : Nat) : Int) := by omega
      have hf := HFIT.out m hlt
      clear HR
      go_wp2_with fail
      refine (HWO.out _).mono ?_
      rintro e w2 ⟨rfl, hb2⟩
      have R2 := Lib.hid (R1.out.on hb2 (Nat.le_refl _))
      clear hb2 R1
      have hs2 := R2.out.2.size
      have HS := Lib.hid (firstC_succ k b m)
      obtain ⟨hf0, hf1⟩ := hf
      generalize hp : (m : Int) * (wordsC k : Nat) = p at *
      have hm256 : m ≤ 256 := by omega
      go_wp2_with (at_builtin; refine wpList_append_own _ rfl (.tmp 22) (.tmp 30) 28 rfl w.heap.size 3 i0 (.int .i64 0) 1 8 Tryd.underlying28 hi hz0 hz1 hz2 rfl (by decide) _ _ _ rfl (R2.out.1.alloc _) ⟨w2.heap.size, 0, none⟩ 1 1 [.int .i64 (512 * b + p)] rfl rfl (cell_new1 _ _ _) (by intro u hu; simp at hu; subst hu; rfl) (by unfold maxLen; omega) (by omega) (by simp; omega) ?_)
      intro v' w3 hown' hgrow _
      have HN : Hid (RowAt k b (m + 1) w.heap.size v' w w3) := by
        refine Lib.hid ⟨?_, (R2.out.2.alloc hs2 _).grown hgrow (by simp; omega) (fun b hb => (R2.out.1.lt b hb).1)⟩
        rw [HS.out, List.map_append]
        exact hown'
      clear hown' hgrow R2
      go_wp2_with fail
      go_roundw
      case rel => exact ⟨m + 1, by omega, by go_num, HN⟩
      case measure => simp [intOf]; omega
    · have hlt' : ¬ ((m : Nat) : Int) < ((cellsC k : Nat) : Int) := by omega
      have hmc : m = cellsC k := by omega
      have HM := Lib.hid hmc
      clear hlt hmc HR
      go_wp2_with fail
      go_ret
      have := R1.out
      rw [HM.out] at this
      exact ⟨_, rfl, .of_own this.1, this.2⟩

/-- What the reference tells of a word: its block, its cell; -1. -/
def ridxC (n k a : Int) : Int := if inC n k a = true then a % 512 / (wordsC k : Nat) else -1

set_option maxHeartbeats 1000000 in
theorem refHold_any (n k a : Int) (w : World) (hn0 : 0 ≤ n) (hn : n ≤ 1048576) :
    Calls Tryd.prog 9 #[.int .i64 n, .int .i64 k, .int .i64 a] w (MadeOne (.tuple #[.int .i64 (blkC n k a), .int .i64 (ridxC n k a)]) w) := by
  have HNO : Hid (inC n k a = false → blkC n k a = 0 ∧ ridxC n k a = -1) := Lib.hid fun h => by
    unfold blkC ridxC; rw [h]; simp
  by_cases h0 : a < 512
  · have HN := Lib.hid (HNO.out (by unfold inC; rw [decide_eq_false]; omega))
    clear HNO
    go_enter Tryd.func9, Tryd.ntmps9
    go_wp2_with fail
    go_ret2
    exact ⟨by rw [HN.out.1, HN.out.2]; rfl, Below.refl _ _⟩
  have hd0 : decide (a < 512) = false := by simpa using h0
  by_cases h1 : 512 * n ≤ a
  · have HN := Lib.hid (HNO.out (by unfold inC; rw [decide_eq_false]; omega))
    clear HNO h0
    go_enter Tryd.func9, Tryd.ntmps9
    go_wp2_with fail
    go_ret2
    exact ⟨by rw [HN.out.1, HN.out.2]; rfl, Below.refl _ _⟩
  have hd1 : decide (512 * n ≤ a) = false := by simpa using h1
  have g0 : 512 ≤ a := by omega
  have g1 : a < 512 * n := by omega
  obtain ⟨b, hb⟩ : ∃ b, a / 512 = b := ⟨_, rfl⟩
  obtain ⟨r, hr⟩ : ∃ r, a % 512 = r := ⟨_, rfl⟩
  have e0 : a = 512 * b + r := by omega
  have e1 : 0 ≤ r := by omega
  have e2 : r < 512 := by omega
  have e3 : 1 ≤ b := by omega
  have e4 : b < n := by omega
  have hall : allC n k b = firstC k b (cellsC k) := by unfold allC manyC; rw [if_pos (by omega)]
  have HAL : Hid (∀ w, Calls Tryd.prog 8 #[.int .i64 n, .int .i64 k, .int .i64 b] w (MadeInts .i64 (firstC k b (cellsC k)) w)) := Lib.hid fun w => by rw [← hall]; exact refAll_any n k b w hn
  have HWO : Hid (∀ w, Calls Tryd.prog 13 #[.int .i64 k] w (MadeOne (.int .i64 (wordsC k : Nat)) w)) := Lib.hid fun w => refWords_all k w
  have hcl := cellsC_le k
  have HFIT : Hid (∀ i : Nat, i < cellsC k → 0 ≤ (i : Int) * (wordsC k : Nat) ∧ (i : Int) * (wordsC k : Nat) + (wordsC k : Nat) ≤ 512) := Lib.hid fun i hi => by
    have h1 := one_fits (k := k) hi
    have h2 : (((i * wordsC k : Nat) : Nat) : Int) = (i : Int) * (wordsC k : Nat) := by simp
    omega
  have HYES : Hid (∀ q : Nat, q < cellsC k → (q : Int) * (wordsC k : Nat) ≤ r → r < (q : Int) * (wordsC k : Nat) + (wordsC k : Nat) → blkC n k a = b ∧ ridxC n k a = q) := Lib.hid fun q hq h2 h3 => by
    have hqq := quot_of h2 h3
    have hin : inC n k a = true := inC_iff.2 ⟨g0, g1, by rw [hr, hqq]; omega⟩
    unfold blkC ridxC
    rw [if_pos hin, if_pos hin, hb, hr, hqq]
    exact ⟨rfl, rfl⟩
  have HLAST : Hid ((cellsC k : Int) * (wordsC k : Nat) ≤ r → blkC n k a = 0 ∧ ridxC n k a = -1) := Lib.hid fun h2 => HNO.out (by
    unfold inC
    rw [decide_eq_false]
    rintro ⟨-, -, h3⟩
    rw [hr] at h3
    by_cases hc : 0 < cellsC k
    · have hw := words_pos hc
      have h4 : r < (cellsC k : Int) * (wordsC k : Nat) := Int.lt_of_lt_of_le (Int.lt_ediv_add_one_mul_self r (by omega)) (Int.mul_le_mul_of_nonneg_right (by omega) (by omega))
      omega
    · have h5 : 0 ≤ r / ((wordsC k : Nat) : Int) := Int.ediv_nonneg e1 (by omega)
      omega)
  have H0 : Hid (((0 : Nat) : Int) * (wordsC k : Nat) ≤ r) := Lib.hid (by simpa using e1)
  have HSUC : Hid (∀ q : Nat, ((q : Int) + 1) * (wordsC k : Nat) = (q : Int) * (wordsC k : Nat) + (wordsC k : Nat)) := Lib.hid fun q => by rw [Int.add_mul, Int.one_mul]
  have HAT : Hid (∀ q : Nat, q < cellsC k → (firstC k b (cellsC k)).getD q 0 = 512 * b + (q : Int) * (wordsC k : Nat)) := Lib.hid fun q hq => firstC_at k b hq
  have HLEN : Hid ((firstC k b (cellsC k)).length = cellsC k) := Lib.hid (firstC_len _ _ _)
  have hb' : b < 1048576 := by omega
  have HB' := Lib.hid hb
  have E0 := Lib.hid e0
  generalize firstC k b (cellsC k) = xs at *
  generalize wordsC k = m at *
  generalize cellsC k = c at *
  clear hall hr h0 h1 HNO hb e0
  go_enter Tryd.func9, Tryd.ntmps9
  go_wp2_with fail
  rw [HB'.out]
  refine (HAL.out _).mono ?_
  rintro e W ⟨v, rfl, hI, hbl⟩
  obtain ⟨ad, cap, rfl, hcap, hc⟩ := hI
  rw [HLEN.out] at hc hcap ⊢
  have HC := Lib.hid hc
  have HB := Lib.hid hbl
  clear hc hbl
  go_wp2_with fail
  go_loopw [9] (fun i wr => ∃ q : Nat, q ≤ c ∧ i = .int .i64 q ∧ Hid ((q : Int) * (m : Nat) ≤ r) ∧ Hid (Below W.heap.size W wr)) (fun i _ => 257 - (intOf i).toNat)
  case atStart => exact ⟨0, by omega, rfl, H0, Lib.hid (Below.refl _ _)⟩
  case round =>
    obtain ⟨q, hq, rfl, HQ, HW⟩ := hrel
    by_cases hlt : q < c
    · have hlt' : ((q : Nat) : Int) < ((c : Nat) : Int) := by omega
      have hq0 : (0 : Int) ≤ ((q : Nat) : Int) := by omega
      obtain ⟨bb, off, rfl, hbb, hcell⟩ := HC.out.resolve_left (fun h => by have := HLEN.out; rw [h] at this; simp at this; omega)
      have hc1 := hcell q hlt
      rw [HAT.out q hlt] at hc1
      obtain ⟨f0, f1⟩ := HFIT.out q hlt
      have hs := HSUC.out q
      have hy := HYES.out q hlt
      have hle := HQ.out
      generalize (q : Int) * (m : Nat) = p at *
      have hcW := (HW.out.cell (p := ⟨bb, off + q, none⟩) hbb).trans hc1
      have CV : Hid (∀ w', Below wr.heap.size wr w' → w'.cell? ⟨bb, off + q, none⟩ = some (.int .i64 (512 * b + p))) := Lib.hid fun w' h => (h.cell (p := ⟨bb, off + q, none⟩) (Nat.lt_of_lt_of_le hbb HW.out.size)).trans hcW
      have hge : decide (512 * b + p ≤ a) = true := decide_eq_true (by rw [E0.out]; omega)
      clear hcell hc1 HC
      have hw : IntKind.i64.wrap (512 * b + p + (m : Nat)) = 512 * b + p + (m : Nat) := by rw [IntWalk.i64_left]; unfold wrap64; omega
      go_wp2_with fail
      by_cases hx : r < p + (m : Nat)
      · have hg : decide (a < IntKind.i64.wrap (512 * b + p + (m : Nat))) = true := decide_eq_true (by rw [hw, E0.out]; omega)
        have HY := Lib.hid (hy hle hx)
        clear hx hw hy
        go_region_held3 (fun w' => w'.cell? ⟨bb, off + q, none⟩ = some (.int .i64 (512 * b + p))) (first | go_keep | exact CV.out _ K1.out)
          (first
            | (go_at_call 13; refine (HWO.out _).mono ?_; rintro e W1 ⟨rfl, hb1⟩; have K1 := Lib.hid (below_undrew hb1); clear hb1))
        go_wp2_with fail
        go_ret2
        exact ⟨by rw [HY.out.1, HY.out.2, ← HB'.out]; rfl, below_step (below_step HB.out HW.out (Nat.le_refl _)) K1.out (Nat.le_refl _)⟩
      · have hg : decide (a < IntKind.i64.wrap (512 * b + p + (m : Nat))) = false := decide_eq_false (by rw [hw, E0.out]; omega)
        have HQ1 : Hid (((q + 1 : Nat) : Int) * (m : Nat) ≤ r) := Lib.hid (by push_cast; omega)
        clear hx hw hy
        go_region_held3 (fun w' => w'.cell? ⟨bb, off + q, none⟩ = some (.int .i64 (512 * b + p))) (first | go_keep | exact CV.out _ K1.out)
          (first
            | (go_at_call 13; refine (HWO.out _).mono ?_; rintro e W1 ⟨rfl, hb1⟩; have K1 := Lib.hid (below_undrew hb1); clear hb1))
        go_wp2_with fail
        go_roundw
        case rel => exact ⟨q + 1, by omega, by go_num, HQ1, Lib.hid (below_step HW.out K1.out (Nat.le_refl _))⟩
        case measure => simp [intOf]; omega
    · have hlt' : ¬ ((q : Nat) : Int) < ((c : Nat) : Int) := by omega
      have hqc : q = c := by omega
      have HN := Lib.hid (HLAST.out (by rw [← hqc]; exact HQ.out))
      clear hlt hqc
      go_wp2_with fail
      go_ret2
      exact ⟨by rw [HN.out.1, HN.out.2]; rfl, below_step HB.out HW.out (Nat.le_refl _)⟩

end Go.Proofs.YtkboafcfpppnmaaDoor
