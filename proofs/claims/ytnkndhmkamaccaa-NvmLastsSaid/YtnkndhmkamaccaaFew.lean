/- Are the arguments few? -/
import Derived.Test.YtnkndhmkamaccaaOpsIn
namespace Go.Proofs.Ytnkndhmkamaccaa
open Go.ChangeShapes Go.WideShapes Go.ChangeAt Go.RowKit Nv
set_option linter.unusedVariables false

/-- Operations whose choices are few. -/
def Few (os : List OpV) : Prop := os.length ≤ 60 ∧ ∀ i (hi : i < os.length), os[i].cl ≤ 100

def FewTo (len0 : Nat) (os : List OpV) (w : World) (e : Ending) (w' : World) : Prop := ∃ b, e = .returned (.bool b) ∧ (b = true → len0 ≤ 200 ∧ Few os) ∧ w = w'

section
variable {w : World}

set_option maxHeartbeats 2000000 in
theorem few_any (a0 : Option Addr) (len0 cap0 : Nat) (v : Value) (os : List OpV) (h : OpsIn w v os) :
    Calls Try.prog 8 #[.slice a0 len0 cap0, v] w (FewTo len0 os w) := by
  obtain ⟨a, cap, rfl, hc, h⟩ := h
  by_cases h1 : (200 : Int) < (len0 : Int)
  · have d1 : decide ((200 : Int) < (len0 : Int)) = true := by simpa using h1
    clear h
    go_enter Try.func8, Try.ntmps8
    go_wp2_with fail
    exact bodyPost_ret (v := .bool false) (by simp [results, Try.results8, go_sem]) rfl ⟨false, rfl, by simp, rfl⟩
  · have d1 : decide ((200 : Int) < (len0 : Int)) = false := by simpa using h1
    have H := Lib.hid h
    clear h
    by_cases h2 : (60 : Int) < (os.length : Int)
    · have d2 : decide ((60 : Int) < (os.length : Int)) = true := by simpa using h2
      go_enter Try.func8, Try.ntmps8
      go_wp2_with fail
      exact bodyPost_ret (v := .bool false) (by simp [results, Try.results8, go_sem]) rfl ⟨false, rfl, by simp, rfl⟩
    · have d2 : decide ((60 : Int) < (os.length : Int)) = false := by simpa using h2
      go_enter Try.func8, Try.ntmps8
      go_wp2_with fail
      go_loop [5] (fun i => ∃ k : Nat, k ≤ os.length ∧ i = .int .i64 k ∧ Hid (∀ j (hj : j < os.length), j < k → os[j].cl ≤ 100)) (fun i => os.length - (intOf i).toNat)
      case atStart => exact ⟨0, by omega, rfl, Lib.hid fun j hj h => absurd h (by omega)⟩
      case round =>
        obtain ⟨k, hk, rfl, HK⟩ := hrel
        by_cases hlt : k < os.length
        · have hlt' : (k : Int) < (os.length : Int) := by omega
          have hk0 : (0 : Int) ≤ (k : Int) := by omega
          obtain ⟨b, off, rfl, hb, hat⟩ := H.out.resolve_left (by intro e; rw [e] at hlt; simp at hlt)
          have c4 : w.cell? ⟨b, off + k * 5 + 4, none⟩ = some (.slice os[k].ca os[k].cl os[k].ccap) := by rw [show off + k * 5 + 4 = off + 5 * k + 4 from by omega]; exact (hat k hlt).c
          have HE : Hid (os[k].cl ≤ 100 → ∀ j (hj : j < os.length), j < k + 1 → os[j].cl ≤ 100) := Lib.hid fun hle j hj hjk => by
            by_cases e : j = k
            · subst e; exact hle
            · exact HK.out j hj (by omega)
          generalize os[k].ca = ca at c4
          generalize os[k].ccap = ccap at c4
          generalize os[k].cl = cl at c4 HE
          clear hat HK
          by_cases h3 : (100 : Int) < (cl : Int)
          · have d3 : decide ((100 : Int) < (cl : Int)) = true := by simpa using h3
            go_wp2_with fail
            exact bodyPost_ret (v := .bool false) (by simp [results, Try.results8, go_sem]) rfl ⟨false, rfl, by simp, rfl⟩
          · have d3 : decide ((100 : Int) < (cl : Int)) = false := by simpa using h3
            go_wp2_with fail
            go_round
            case rel => exact ⟨k + 1, by omega, by go_num, Lib.hid (HE.out (by omega))⟩
            case measure => simp [intOf]; omega
        · have hlt' : ¬ (k : Int) < (os.length : Int) := by omega
          go_wp2_with fail
          exact bodyPost_ret (v := .bool true) (by simp [results, Try.results8, go_sem]) rfl ⟨true, rfl, fun _ => ⟨by omega, by omega, fun j hj => HK.out j hj (by omega)⟩, rfl⟩
end

end Go.Proofs.Ytnkndhmkamaccaa
