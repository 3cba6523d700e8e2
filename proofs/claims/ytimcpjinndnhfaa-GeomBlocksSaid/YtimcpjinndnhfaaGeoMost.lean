/- geom: Most. -/
import Derived.Test.YtimcpjinndnhfaaPre
namespace Go.Proofs.Ytimcpjinndnhfaa
open Go.ChangeShapes Go.WideShapes Go.ChangeAt Go.RowKit
set_option linter.unusedVariables false

def mostG (n : Int) : Int := if n ≤ 1 then 0 else 512 * (n - 1)

set_option maxHeartbeats 400000 in
theorem geoMost_any (n : Int) (w : World) (h0 : 0 ≤ n) (h1 : n ≤ 1048576) :
    Calls Try.prog 15 #[.agg #[.int .i64 n]] w fun e w' => e = .returned (.int .i64 (mostG n)) ∧ Below w.heap.size w w' := by
  have H1 : Hid (∀ x : Int, 0 ≤ n - 1 → x = (n - 1) * 512 → Ending.returned (.int .i64 x) = .returned (.int .i64 (mostG n))) := Lib.hid fun x h hx => by
    refine ret_int ?_
    unfold mostG; rw [hx]; split <;> omega
  have H2 : Hid (n - 1 < 0 → Ending.returned (.int .i64 0) = .returned (.int .i64 (mostG n))) := Lib.hid fun h => by
    unfold mostG; rw [if_pos (by omega)]
  go_enter Try.func15, Try.ntmps15
  go_wp2
  case inl =>
    have h : n - 1 < 0 := by assumption
    go_ret
    exact ⟨H2.out (by omega), (Below.refl _ _).alloc (Nat.le_refl _) _⟩
  case inr =>
    have h : 0 ≤ n - 1 := by assumption
    go_ret
    exact ⟨H1.out _ (by omega) rfl, (Below.refl _ _).alloc (Nat.le_refl _) _⟩

end Go.Proofs.Ytimcpjinndnhfaa
