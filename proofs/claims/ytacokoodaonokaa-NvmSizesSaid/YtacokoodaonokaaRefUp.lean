/- The reference: Up. -/
import Derived.Test.YtacokoodaonokaaUpB
namespace Go.Proofs.Ytacokoodaonokaa
open Go.ChangeShapes Go.WideShapes Go.ChangeAt Go.RowKit Bt
set_option linter.unusedVariables false

theorem upS_eq (n s : Int) (hn : 0 < n) (hs : 0 < s) : upS n s = if n % s = 0 then n / s else n / s + 1 := by
  rw [upS_of n s hn hs]
  have h1 := Int.mul_ediv_add_emod n s
  have h2 := Int.emod_nonneg n (by omega : s ≠ 0)
  have h3 := Int.emod_lt_of_pos n hs
  split
  · rename_i h
    have : (n - 1) / s = n / s - 1 := by
      rw [Int.ediv_eq_iff_of_pos hs]
      rw [h] at h1
      have e : s * (n / s - 1) = s * (n / s) - s := by rw [Int.mul_sub, Int.mul_one]
      constructor <;> (try rw [Int.mul_comm] ) <;> (try rw [e]) <;> omega
    omega
  · rename_i h
    have : (n - 1) / s = n / s := by
      rw [Int.ediv_eq_iff_of_pos hs]
      rw [Int.mul_comm]
      constructor <;> omega
    omega

set_option maxHeartbeats 400000 in
theorem refUp_any (n s : Int) (w : World) (h1 : -9223372036854775808 ≤ n) (h2 : n ≤ 9223372036854775807) :
    Calls Try.prog 17 #[.int .i64 n, .int .i64 s] w fun e w' => e = .returned (.int .i64 (upS n s)) ∧ w = w' := by
  by_cases hn : n ≤ 0
  · have hu : upS n s = 0 := by unfold upS; rw [if_pos (Or.inl hn)]
    have hb : decide (n ≤ 0) = true := by simpa using hn
    have HU := Lib.hid hu
    clear hu
    go_enter Try.func17, Try.ntmps17
    go_wp2
    go_ret
    exact ⟨ret_int HU.out.symm, rfl⟩
  · by_cases hs : s ≤ 0
    · have hu : upS n s = 0 := by unfold upS; rw [if_pos (Or.inr hs)]
      have hb : decide (n ≤ 0) = false := by simpa using hn
      have hc : decide (s ≤ 0) = true := by simpa using hs
      have HU := Lib.hid hu
      clear hu
      go_enter Try.func17, Try.ntmps17
      go_wp2
      go_ret
      exact ⟨ret_int HU.out.symm, rfl⟩
    · have hu := upS_eq n s (by omega) (by omega)
      have h3 := div_le_self' n s (by omega)
      have h4 : 0 ≤ n / s := Int.ediv_nonneg (by omega) (by omega)
      have h5 : 0 ≤ n % s := Int.emod_nonneg n (by omega)
      have h6 : n / s * s ≤ n := by have := Int.ediv_mul_le n (show s ≠ 0 by omega); exact this
      have hn' : 1 ≤ n := by omega
      have hs' : 1 ≤ s := by omega
      have hb : decide (n ≤ 0) = false := by simpa using hn
      have hc : decide (s ≤ 0) = false := by simpa using hs
      by_cases hm : n % s = 0
      · rw [if_pos hm] at hu
        have hd : (n % s != 0) = false := by rw [hm]; rfl
        have HU := Lib.hid hu
        clear hu hm
        go_enter Try.func17, Try.ntmps17
        go_wp2
        go_ret
        exact ⟨ret_int HU.out.symm, rfl⟩
      · rw [if_neg hm] at hu
        have hd : (n % s != 0) = true := by rw [bne_iff_ne]; exact hm
        have h7 : n / s < 9223372036854775807 := by
          by_cases e : s = 1
          · exfalso; apply hm; rw [e]; omega
          · have : n / s * 2 ≤ n / s * s := Int.mul_le_mul_of_nonneg_left (by omega) h4
            omega
        have HU := Lib.hid hu
        clear hu hm
        go_enter Try.func17, Try.ntmps17
        go_wp2
        go_ret
        exact ⟨ret_int HU.out.symm, rfl⟩

end Go.Proofs.Ytacokoodaonokaa
