/- class: Of. -/
import Derived.Test.YtdhakfkcenfdoaaDoorClass
import Derived.Test.YtdhakfkcenfdoaaDoorClassSize
namespace Go.Proofs.YtdhakfkcenfdoaaDoor
open Go.ChangeShapes Go.WideShapes Go.ChangeAt Go.RowKit Cl
set_option linter.unusedVariables false

/-- What Of answers. -/
def OfIs (n : Int) (w : World) (e : Ending) (w' : World) : Prop :=
  e = .returned (.tuple #[.int .i64 ((clsC n).getD 0 : Nat), .bool (clsC n).isSome]) ∧ w = w'

set_option maxHeartbeats 1000000 in
theorem of_any (n : Int) (w : World) (hT : HasCells w) :
    Calls Tryd.prog 27 #[.int .i64 n] w (OfIs n w) := by
  have HT := Lib.hid hT
  clear hT
  by_cases h : n < 1
  · have HH := Lib.hid (clsC_low h)
    go_enter Tryd.func27, Tryd.ntmps27
    go_wp2_with fail
    go_ret2
    exact ⟨by rw [HH.out]; rfl, rfl⟩
  · have HN := Lib.hid h
    have hd : decide (n < 1) = false := by simpa using h
    have hn : 1 ≤ n := by omega
    clear h
    go_enter Tryd.func27, Tryd.ntmps27
    go_wp2_with fail
    go_loop [7, 4] (fun b _ => ∃ k : Nat, k ≤ 32 ∧ b = .int .i64 k ∧ Hid (∀ j, j < k → (wd j : Int) < n)) (fun b _ => 32 - (intOf b).toNat)
    case atStart => exact ⟨0, by omega, rfl, Lib.hid (by omega)⟩
    case round =>
      obtain ⟨k, hk, rfl, HK⟩ := hrel
      by_cases hlt : k < 32
      · have hlt' : (k : Int) < 32 := by omega
        have hc := HT.out k hlt
        obtain ⟨h1, h2⟩ := wd_in k hlt
        by_cases g : n ≤ (wd k : Int)
        · have HA := Lib.hid (clsC_at (by have := HN.out; omega) hlt HK.out g)
          generalize wd k = t at hc h1 h2 g
          go_wp2_with fail
          go_ret2
          exact ⟨by rw [HA.out]; rfl, rfl⟩
        · have HS : Hid (∀ j, j < k + 1 → (wd j : Int) < n) := Lib.hid fun j hj => by
            by_cases hjk : j = k
            · subst hjk; omega
            · exact HK.out j (by omega)
          have hg : decide (n ≤ (wd k : Int)) = false := by simpa using g
          generalize wd k = t at hc h1 h2 g hg
          go_wp2_with fail
          go_round
          case rel => exact ⟨k + 1, by omega, by go_num, HS⟩
          case measure => simp [intOf]; omega
      · have hlt' : ¬ (k : Int) < 32 := by omega
        have hd : decide ((k : Int) < 32) = false := by simpa using hlt'
        have HE := Lib.hid (clsC_high (n := n) fun j hj => HK.out j (by omega))
        go_wp2_with fail
        go_ret2
        exact ⟨by rw [HE.out]; rfl, rfl⟩

end Go.Proofs.YtdhakfkcenfdoaaDoor
