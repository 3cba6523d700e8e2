/- The reference: Sizes, Words, Of, Cells. -/
import Derived.Test.YtkboafcfpppnmaaDoorClassMath
import Derived.Test.YtkboafcfpppnmaaDoorSl
import Derived.Test.YtkboafcfpppnmaaDoorNats
namespace Go.Proofs.YtkboafcfpppnmaaDoor
open Go.ChangeShapes Go.WideShapes Go.ChangeAt Go.RowKit Cl
set_option linter.unusedVariables false

/-- A new slice of all sizes. -/
def MadeSizes (w : World) (e : Ending) (w' : World) : Prop :=
  ∃ b, e = .returned (.slice (some ⟨b, 0, none⟩) 32 32) ∧ b < w'.heap.size ∧ (∀ i, i < 32 → w'.cell? ⟨b, i, none⟩ = some (.int .i64 (wd i : Int))) ∧ Below w.heap.size w w'

set_option maxHeartbeats 1000000 in
theorem sizes_any (w : World) : Calls Tryd.prog 25 #[] w (MadeSizes w) := by
  have HI : Hid (∀ (vs : Array Value) (t : TypeId), vs = (sizesI.map (Value.int .i64)).toArray → MadeSizes w (.returned (.slice (some ⟨w.heap.size, 0, none⟩) 32 32)) (w.alloc (.cells vs t))) := Lib.hid fun vs t hv => by
    refine ⟨w.heap.size, rfl, by simp, fun i hi => ?_, (Below.refl _ _).alloc (Nat.le_refl _) _⟩
    subst hv
    rw [← sizesI_at i hi]
    have : i < sizesI.length := hi
    simp [List.getD, this]
  go_enter Tryd.func25, Tryd.ntmps25
  go_wp2_with fail
  go_ret
  exact HI.out _ _ rfl

set_option maxHeartbeats 1000000 in
theorem refWords06_yes (k : Nat) (w : World) (hk : k < 32) :
    Calls Tryd.prog 13 #[.int .i64 k] w fun e w' => e = .returned (.int .i64 (wd k : Nat)) ∧ Below w.heap.size w w' := by
  have hk' : (k : Int) < 32 := by omega
  have hd : decide (32 ≤ (k : Int)) = false := by simpa using hk'
  go_enter Tryd.func13, Tryd.ntmps13
  go_wp2_with fail
  refine (sizes_any _).mono ?_
  rintro e w' ⟨b, rfl, hb, hc, hw⟩
  have hc := hc k hk
  have HW := Lib.hid hw
  clear hw
  go_wp2_with fail
  go_ret
  exact ⟨rfl, HW.out⟩
set_option maxHeartbeats 1000000 in
theorem refWords06_no (k : Int) (w : World) (hk : k < 0 ∨ 32 ≤ k) :
    Calls Tryd.prog 13 #[.int .i64 k] w fun e w' => e = .returned (.int .i64 0) ∧ w = w' := by
  rcases hk with h | h
  · go_enter Tryd.func13, Tryd.ntmps13
    go_wp2
    go_ret
    exact ⟨rfl, rfl⟩
  · have hd : decide (k < 0) = false := by simp; omega
    go_enter Tryd.func13, Tryd.ntmps13
    go_wp2
    go_ret
    exact ⟨rfl, rfl⟩

/-- What the reference's Of answers. -/
def RefOfIs (n : Int) (w : World) (e : Ending) (w' : World) : Prop :=
  e = .returned (.int .i64 ((clsC n).elim (-1) fun k => (k : Int))) ∧ Below w.heap.size w w'

/-- How many cells of so many words fit, counted. -/
theorem count_end {t m : Nat} (ht : 2 ≤ t) (h0 : m * t ≤ 512) (h1 : ¬ (m + 1) * t ≤ 512) : m = 512 / t := by
  have hp : 0 < t := by omega
  apply Nat.le_antisymm
  · exact (Nat.le_div_iff_mul_le hp).mpr h0
  · exact Nat.le_of_lt_succ ((Nat.div_lt_iff_lt_mul hp).mpr (by simpa using Nat.lt_of_not_le h1))

set_option maxHeartbeats 1000000 in
theorem refCells06_no (k : Int) (w : World) (hk : k < 0 ∨ 32 ≤ k) :
    Calls Tryd.prog 19 #[.int .i64 k] w fun e w' => e = .returned (.int .i64 0) ∧ w = w' := by
  have HK := Lib.hid hk
  clear hk
  go_enter Tryd.func19, Tryd.ntmps19
  go_wp2_with fail
  go_loopw [3] (fun b wr => b = .int .i64 0 ∧ w = wr) (fun b _ => 1)
  case atStart => exact ⟨rfl, rfl⟩
  case round =>
    obtain ⟨rfl, rfl⟩ := hrel
    go_wp2_with fail
    refine (refWords06_no k _ HK.out).mono ?_
    rintro e w' ⟨rfl, rfl⟩
    go_wp2_with fail
    go_ret
    exact ⟨rfl, rfl⟩

set_option maxHeartbeats 1000000 in
theorem refCells06_yes (k : Nat) (w : World) (hk : k < 32) :
    Calls Tryd.prog 19 #[.int .i64 k] w fun e w' => e = .returned (.int .i64 (512 / wd k : Nat)) ∧ Below w.heap.size w w' := by
  obtain ⟨h1, h2⟩ := wd_in k hk
  have HR : Hid (∀ w, Calls Tryd.prog 13 #[.int .i64 k] w fun e w' => e = .returned (.int .i64 (wd k : Nat)) ∧ Below w.heap.size w w') := Lib.hid fun w => refWords06_yes k w hk
  generalize wd k = t at h1 h2 HR ⊢
  have h1' : (2 : Int) ≤ (t : Int) := by omega
  have hp : decide (0 < (t : Int)) = true := by simp; omega
  go_enter Tryd.func19, Tryd.ntmps19
  go_wp2_with fail
  go_loopw [3] (fun b wr => ∃ m : Nat, m ≤ 256 ∧ b = .int .i64 m ∧ Hid (m * t ≤ 512) ∧ Hid (Below w.heap.size w wr)) (fun b _ => 257 - (intOf b).toNat)
  case atStart => exact ⟨0, by omega, rfl, Lib.hid (by omega), Lib.hid (Below.refl _ _)⟩
  case round =>
    obtain ⟨m, hm, rfl, HM, HB⟩ := hrel
    go_wp2_with fail
    refine (HR.out _).mono ?_
    rintro e w1 ⟨rfl, b1⟩
    have B1 := Lib.hid (below_step HB.out b1 (Nat.le_refl _))
    clear b1
    go_wp2_with fail
    refine (HR.out _).mono ?_
    rintro e w2 ⟨rfl, b2⟩
    have B2 := Lib.hid (below_step B1.out b2 (Nat.le_refl _))
    clear b2
    have hb : (m + 1) * t ≤ 257 * 256 := Nat.mul_le_mul (by omega) h2
    have hx : ((m : Int) + 1) * (t : Int) = (((m + 1) * t : Nat) : Int) := by simp
    by_cases g : (m + 1) * t ≤ 512
    · have HG := Lib.hid g
      have hm2 : m + 1 ≤ 256 := by
        by_cases hq : m + 1 ≤ 256
        · exact hq
        · have := Nat.mul_le_mul (show 257 ≤ m + 1 by omega) h1; omega
      have hy : ((m : Int) + 1) * (t : Int) ≤ 512 := by omega
      have hy0 : 0 ≤ ((m : Int) + 1) * (t : Int) := by omega
      clear hx g hb
      go_wp2_with fail
      go_roundw
      case rel => exact ⟨m + 1, hm2, by go_num, HG, B2⟩
      case measure => simp [intOf]; omega
    · have HE := Lib.hid (count_end h1 HM.out g)
      have hy : decide (((m : Int) + 1) * (t : Int) ≤ 512) = false := by simp; omega
      have hy0 : 0 ≤ ((m : Int) + 1) * (t : Int) := by omega
      have hy1 : ((m : Int) + 1) * (t : Int) ≤ 65792 := by omega
      clear hx g hb
      go_wp2_with fail
      go_ret
      exact ⟨ret_int (by rw [HE.out]), B2.out⟩

end Go.Proofs.YtkboafcfpppnmaaDoor
