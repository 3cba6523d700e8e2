/- taprootref04: BlockOf. -/
import Derived.Test.YtimcpjinndnhfaaGeoBlockOf
namespace Go.Proofs.Ytimcpjinndnhfaa
open Go.ChangeShapes Go.WideShapes Go.ChangeAt Go.RowKit
set_option linter.unusedVariables false

set_option maxHeartbeats 1000000 in
theorem refBlockOf_any (n : Nat) (a : Int) (w : World) (hn : n ≤ 600) :
    Calls Try.prog 7 #[.int .i64 n, .int .i64 a] w fun e w' => e = .returned (.int .i64 (blockOfG n a)) ∧ w = w' := by
  have H0 : Hid (a < 0 → blockOfG n a = -1) := Lib.hid fun h => if_neg (by omega)
  have H1 : Hid (512 * (n : Int) ≤ a → blockOfG n a = -1) := Lib.hid fun h => if_neg (by omega)
  have H2 : Hid (∀ k : Nat, k < n → 512 * (k : Int) ≤ a → a < 512 * (k : Int) + 512 → blockOfG n a = k) := Lib.hid fun k h h1 h2 => by
    unfold blockOfG; rw [if_pos (by omega)]; omega
  go_enter Try.func7, Try.ntmps7
  go_wp2
  go_loop [5] (fun b => ∃ k : Nat, k ≤ n ∧ b = .int .i64 k ∧ Hid (a < 0 ∨ 512 * (k : Int) ≤ a)) (fun b => n - (intOf b).toNat)
  case atStart => exact ⟨0, by omega, rfl, Lib.hid (by omega)⟩
  case round =>
    obtain ⟨k, hk, rfl, HK⟩ := hrel
    by_cases hlt : k < n
    · have hlt' : (k : Int) < (n : Int) := by omega
      by_cases g1 : 512 * (k : Int) ≤ a
      · by_cases g2 : a < 512 * (k : Int) + 512
        · go_wp2
          go_ret
          exact ⟨ret_int (H2.out k hlt g1 g2).symm, rfl⟩
        · have hd : decide (a < 512 * (k : Int) + 512) = false := by simpa using g2
          have HN : Hid (a < 0 ∨ 512 * ((k + 1 : Nat) : Int) ≤ a) := Lib.hid (by omega)
          go_wp2
          go_round
          case rel => exact ⟨k + 1, by omega, by go_num, HN⟩
          case measure => simp [intOf]; omega
      · have hd : decide (512 * (k : Int) ≤ a) = false := by simpa using g1
        have HN : Hid (a < 0 ∨ 512 * ((k + 1 : Nat) : Int) ≤ a) := Lib.hid (by have := HK.out; omega)
        go_wp2
        go_round
        case rel => exact ⟨k + 1, by omega, by go_num, HN⟩
        case measure => simp [intOf]; omega
    · have hlt' : ¬ (k : Int) < (n : Int) := by omega
      have hd : decide ((k : Int) < (n : Int)) = false := by simpa using hlt'
      have HE : Hid (blockOfG n a = -1) := Lib.hid (by
        have := HK.out
        by_cases ha : a < 0
        · exact H0.out ha
        · exact H1.out (by omega))
      go_wp2
      go_ret
      exact ⟨ret_int HE.out.symm, rfl⟩

end Go.Proofs.Ytimcpjinndnhfaa
