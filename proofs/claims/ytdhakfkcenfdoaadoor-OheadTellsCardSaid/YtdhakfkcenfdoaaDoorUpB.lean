/- bits.Up. -/
import Derived.Test.YtdhakfkcenfdoaaDoorPre
import Derived.Test.YtdhakfkcenfdoaaDoorBitMath
namespace Go.Proofs.YtdhakfkcenfdoaaDoor
open Go.ChangeShapes Go.WideShapes Go.ChangeAt Go.RowKit Bt
set_option linter.unusedVariables false

/-- n pieces of size s, rounded up. -/
def upS (n s : Int) : Int := if n ≤ 0 ∨ s ≤ 0 then 0 else (n - 1) / s + 1

theorem upS_of (n s : Int) (h : 0 < n) (hs : 0 < s) : upS n s = (n - 1) / s + 1 := by
  unfold upS; rw [if_neg (by omega)]

theorem div_le_self' (n s : Int) (h : 0 ≤ n) : n / s ≤ n := Int.ediv_le_self s h

set_option maxHeartbeats 400000 in
theorem up_any (n s : Int) (w : World) (h1 : -9223372036854775808 ≤ n) (h2 : n ≤ 9223372036854775807) :
    Calls Tryd.prog 30 #[.int .i64 n, .int .i64 s] w fun e w' => e = .returned (.int .i64 (upS n s)) ∧ w = w' := by
  by_cases hn : n ≤ 0
  · have hu : upS n s = 0 := by unfold upS; rw [if_pos (Or.inl hn)]
    have hb : decide (n ≤ 0) = true := by simpa using hn
    have HU := Lib.hid hu
    clear hu
    go_enter Tryd.func30, Tryd.ntmps30
    go_wp2
    go_ret
    exact ⟨ret_int HU.out.symm, rfl⟩
  · by_cases hs : s ≤ 0
    · have hu : upS n s = 0 := by unfold upS; rw [if_pos (Or.inr hs)]
      have hb : decide (n ≤ 0) = false := by simpa using hn
      have hc : decide (s ≤ 0) = true := by simpa using hs
      have HU := Lib.hid hu
      clear hu
      go_enter Tryd.func30, Tryd.ntmps30
      go_wp2
      go_ret
      exact ⟨ret_int HU.out.symm, rfl⟩
    · have hu := upS_of n s (by omega) (by omega)
      have h3 := div_le_self' (n - 1) s (by omega)
      have h4 : 0 ≤ (n - 1) / s := Int.ediv_nonneg (by omega) (by omega)
      have hn' : 1 ≤ n := by omega
      have hs' : 1 ≤ s := by omega
      have hb : decide (n ≤ 0) = false := by simpa using hn
      have hc : decide (s ≤ 0) = false := by simpa using hs
      have HU := Lib.hid hu
      clear hu
      go_enter Tryd.func30, Tryd.ntmps30
      go_wp2
      go_ret
      exact ⟨ret_int HU.out.symm, rfl⟩

end Go.Proofs.YtdhakfkcenfdoaaDoor
