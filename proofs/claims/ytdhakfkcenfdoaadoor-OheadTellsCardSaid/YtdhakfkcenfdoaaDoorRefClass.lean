/- The reference: Sizes, Words, Of, Cells. -/
import Derived.Test.YtdhakfkcenfdoaaDoorClassMath
import Derived.Test.YtdhakfkcenfdoaaDoorSl
import Derived.Test.YtdhakfkcenfdoaaDoorNats
namespace Go.Proofs.YtdhakfkcenfdoaaDoor
open Go.ChangeShapes Go.WideShapes Go.ChangeAt Go.RowKit Cl
set_option linter.unusedVariables false

/-- A new slice of all sizes. -/
def MadeSizes (w : World) (e : Ending) (w' : World) : Prop :=
  ∃ b, e = .returned (.slice (some ⟨b, 0, none⟩) 32 32) ∧ b < w'.heap.size ∧ (∀ i, i < 32 → w'.cell? ⟨b, i, none⟩ = some (.int .i64 (wd i : Int))) ∧ Below w.heap.size w w'

set_option maxHeartbeats 1000000 in
theorem sizes_any (w : World) : Calls Tryd.prog 39 #[] w (MadeSizes w) := by
  have HI : Hid (∀ (vs : Array Value) (t : TypeId), vs = (sizesI.map (Value.int .i64)).toArray → MadeSizes w (.returned (.slice (some ⟨w.heap.size, 0, none⟩) 32 32)) (w.alloc (.cells vs t))) := Lib.hid fun vs t hv => by
    refine ⟨w.heap.size, rfl, by simp, fun i hi => ?_, (Below.refl _ _).alloc (Nat.le_refl _) _⟩
    subst hv
    rw [← sizesI_at i hi]
    have : i < sizesI.length := hi
    simp [List.getD, this]
  go_enter Tryd.func39, Tryd.ntmps39
  go_wp2_with fail
  go_ret
  exact HI.out _ _ rfl

/-- What the reference's Of answers. -/
def RefOfIs (n : Int) (w : World) (e : Ending) (w' : World) : Prop :=
  e = .returned (.int .i64 ((clsC n).elim (-1) fun k => (k : Int))) ∧ Below w.heap.size w w'

set_option maxHeartbeats 1000000 in
theorem refOf_any (n : Int) (w : World) :
    Calls Tryd.prog 29 #[.int .i64 n] w (RefOfIs n w) := by
  by_cases h : 0 < n
  rotate_left
  · have HH := Lib.hid (clsC_low (n := n) (by omega))
    have hd : decide (0 < n) = false := by simpa using h
    go_enter Tryd.func29, Tryd.ntmps29
    go_wp2_with fail
    go_loopw [3] (fun b wr => b = .int .i64 0 ∧ w = wr) (fun b _ => 1)
    case atStart => exact ⟨rfl, rfl⟩
    case round =>
      obtain ⟨rfl, rfl⟩ := hrel
      go_wp2_with fail
      go_ret
      exact ⟨by rw [HH.out]; rfl, Below.refl _ _⟩
  · have HN := Lib.hid h
    go_enter Tryd.func29, Tryd.ntmps29
    go_wp2_with fail
    go_loopw [3] (fun b wr => ∃ k : Nat, k ≤ 32 ∧ b = .int .i64 k ∧ Hid (∀ j, j < k → (wd j : Int) < n) ∧ Hid (Below w.heap.size w wr)) (fun b _ => 32 - (intOf b).toNat)
    case atStart => exact ⟨0, by omega, rfl, Lib.hid (by omega), Lib.hid (Below.refl _ _)⟩
    case round =>
      obtain ⟨k, hk, rfl, HK, HB⟩ := hrel
      by_cases hlt : k < 32
      · have hlt' : (k : Int) < 32 := by omega
        obtain ⟨h1, h2⟩ := wd_in k hlt
        go_wp2_with fail
        refine (sizes_any _).mono ?_
        rintro e w' ⟨b, rfl, hb, hc, hw⟩
        have hck := hc k hlt
        clear hc
        have HW := Lib.hid (below_step HB.out hw (Nat.le_refl _))
        clear hw
        by_cases g : n ≤ (wd k : Int)
        · have HA := Lib.hid (clsC_at (n := n) (by omega) hlt HK.out g)
          generalize wd k = t at hck h1 h2 g
          go_wp2_with fail
          go_ret
          exact ⟨by rw [HA.out]; rfl, HW.out⟩
        · have HS : Hid (∀ j, j < k + 1 → (wd j : Int) < n) := Lib.hid fun j hj => by
            by_cases hjk : j = k
            · subst hjk; omega
            · exact HK.out j (by omega)
          have hg : decide (n ≤ (wd k : Int)) = false := by simpa using g
          generalize wd k = t at hck h1 h2 g hg
          go_wp2_with fail
          go_roundw
          case rel => exact ⟨k + 1, by omega, by go_num, HS, HW⟩
          case measure => simp [intOf]; omega
      · have hd : decide ((k : Int) < 32) = false := by simp; omega
        have HE := Lib.hid (clsC_high (n := n) fun j hj => HK.out j (by omega))
        go_wp2_with fail
        go_ret
        exact ⟨by rw [HE.out]; rfl, HB.out⟩

/-- How many cells of so many words fit, counted. -/
theorem count_end {t m : Nat} (ht : 2 ≤ t) (h0 : m * t ≤ 512) (h1 : ¬ (m + 1) * t ≤ 512) : m = 512 / t := by
  have hp : 0 < t := by omega
  apply Nat.le_antisymm
  · exact (Nat.le_div_iff_mul_le hp).mpr h0
  · exact Nat.le_of_lt_succ ((Nat.div_lt_iff_lt_mul hp).mpr (by simpa using Nat.lt_of_not_le h1))

end Go.Proofs.YtdhakfkcenfdoaaDoor
