/- math/bits.Len64 and bits.Highest. -/
import Derived.Test.YtggbhjhnhgkiiaaDoorPre
import Derived.Test.YtggbhjhnhgkiiaaDoorBitMath
import Derived.Lib.Strings
import Derived.Lib.Slices
import Derived.Lib.Small
import Derived.Lib.Walk
import Derived.Lib.BitFns
namespace Go.Proofs.YtggbhjhnhgkiiaaDoor
open Go.ChangeShapes Go.WideShapes Go.ChangeAt Go.RowKit Bt
set_option linter.unusedVariables false

theorem len8_val (i : Int) (h0 : 0 ≤ i) (h1 : i ≤ 255) : Lib.len8 i = (Lib.bitLen i.toNat : Nat) ∧ 0 ≤ Lib.len8 i ∧ Lib.len8 i ≤ 8 := by
  have e := Lib.len8_of i h0 h1
  have l := Lib.bitLen_le8' i h0 h1
  omega

set_option maxHeartbeats 400000 in
set_option maxRecDepth 100000 in
theorem len64_0 (x : Int) (w : World) (h0 : 0 ≤ x) (h1 : x ≤ 255) :
    Calls Tryd.prog 16 #[.int .u64 x] w fun e w' => e = .returned (.int .i64 (Lib.bitLen x.toNat)) ∧ w = w' := by
  have q0 : 0 ≤ x := by omega
  have q1 : x ≤ 255 := by omega
  obtain ⟨l0, l1, l2⟩ := len8_val (x) q0 q1
  have r : 0 + Lib.len8 (x) = (Lib.bitLen x.toNat : Nat) := by
    rw [l0]
    omega
  have R := Lib.hid r
  clear r l0
  go_enter Tryd.func16, Tryd.ntmps16
  go_wp2
  go_ret
  exact ⟨ret_int (by have := R.out; omega), rfl⟩

set_option maxHeartbeats 400000 in
set_option maxRecDepth 100000 in
theorem len64_8 (x : Int) (w : World) (h0 : 256 ≤ x) (h1 : x ≤ 65535) :
    Calls Tryd.prog 16 #[.int .u64 x] w fun e w' => e = .returned (.int .i64 (Lib.bitLen x.toNat)) ∧ w = w' := by
  have q0 : 0 ≤ x / 256 := by omega
  have q1 : x / 256 ≤ 255 := by omega
  obtain ⟨l0, l1, l2⟩ := len8_val (x / 256) q0 q1
  have r : 8 + Lib.len8 (x / 256) = (Lib.bitLen x.toNat : Nat) := by
    rw [l0]
    have s := Lib.bitLen_shift8 x.toNat (by omega) (by omega)
    rw [show (x / 256).toNat = x.toNat / 256 from by omega]
    omega
  have R := Lib.hid r
  clear r l0
  go_enter Tryd.func16, Tryd.ntmps16
  go_wp2
  go_ret
  exact ⟨ret_int (by have := R.out; omega), rfl⟩

set_option maxHeartbeats 400000 in
set_option maxRecDepth 100000 in
theorem len64_16 (x : Int) (w : World) (h0 : 65536 ≤ x) (h1 : x ≤ 16777215) :
    Calls Tryd.prog 16 #[.int .u64 x] w fun e w' => e = .returned (.int .i64 (Lib.bitLen x.toNat)) ∧ w = w' := by
  have q0 : 0 ≤ x / 65536 := by omega
  have q1 : x / 65536 ≤ 255 := by omega
  obtain ⟨l0, l1, l2⟩ := len8_val (x / 65536) q0 q1
  have r : 16 + Lib.len8 (x / 65536) = (Lib.bitLen x.toNat : Nat) := by
    rw [l0]
    have s := Lib.bitLen_shift16 x.toNat (by omega) (by omega)
    rw [show (x / 65536).toNat = x.toNat / 65536 from by omega]
    omega
  have R := Lib.hid r
  clear r l0
  go_enter Tryd.func16, Tryd.ntmps16
  go_wp2
  go_ret
  exact ⟨ret_int (by have := R.out; omega), rfl⟩

set_option maxHeartbeats 400000 in
set_option maxRecDepth 100000 in
theorem len64_24 (x : Int) (w : World) (h0 : 16777216 ≤ x) (h1 : x ≤ 4294967295) :
    Calls Tryd.prog 16 #[.int .u64 x] w fun e w' => e = .returned (.int .i64 (Lib.bitLen x.toNat)) ∧ w = w' := by
  have q0 : 0 ≤ x / 65536 / 256 := by omega
  have q1 : x / 65536 / 256 ≤ 255 := by omega
  obtain ⟨l0, l1, l2⟩ := len8_val (x / 65536 / 256) q0 q1
  have r : 24 + Lib.len8 (x / 65536 / 256) = (Lib.bitLen x.toNat : Nat) := by
    rw [l0]
    have s := Lib.bitLen_shift24 x.toNat (by omega) (by omega)
    rw [show (x / 65536 / 256).toNat = x.toNat / 16777216 from by omega]
    omega
  have R := Lib.hid r
  clear r l0
  go_enter Tryd.func16, Tryd.ntmps16
  go_wp2
  go_ret
  exact ⟨ret_int (by have := R.out; omega), rfl⟩

set_option maxHeartbeats 400000 in
set_option maxRecDepth 100000 in
theorem len64_32 (x : Int) (w : World) (h0 : 4294967296 ≤ x) (h1 : x ≤ 1099511627775) :
    Calls Tryd.prog 16 #[.int .u64 x] w fun e w' => e = .returned (.int .i64 (Lib.bitLen x.toNat)) ∧ w = w' := by
  have q0 : 0 ≤ x / 4294967296 := by omega
  have q1 : x / 4294967296 ≤ 255 := by omega
  obtain ⟨l0, l1, l2⟩ := len8_val (x / 4294967296) q0 q1
  have r : 32 + Lib.len8 (x / 4294967296) = (Lib.bitLen x.toNat : Nat) := by
    rw [l0]
    have s := Lib.bitLen_shift32 x.toNat (by omega) (by omega)
    rw [show (x / 4294967296).toNat = x.toNat / 4294967296 from by omega]
    omega
  have R := Lib.hid r
  clear r l0
  go_enter Tryd.func16, Tryd.ntmps16
  go_wp2
  go_ret
  exact ⟨ret_int (by have := R.out; omega), rfl⟩

set_option maxHeartbeats 400000 in
set_option maxRecDepth 100000 in
theorem len64_40 (x : Int) (w : World) (h0 : 1099511627776 ≤ x) (h1 : x ≤ 281474976710655) :
    Calls Tryd.prog 16 #[.int .u64 x] w fun e w' => e = .returned (.int .i64 (Lib.bitLen x.toNat)) ∧ w = w' := by
  have q0 : 0 ≤ x / 4294967296 / 256 := by omega
  have q1 : x / 4294967296 / 256 ≤ 255 := by omega
  obtain ⟨l0, l1, l2⟩ := len8_val (x / 4294967296 / 256) q0 q1
  have r : 40 + Lib.len8 (x / 4294967296 / 256) = (Lib.bitLen x.toNat : Nat) := by
    rw [l0]
    have s := Lib.bitLen_shift40 x.toNat (by omega) (by omega)
    rw [show (x / 4294967296 / 256).toNat = x.toNat / 1099511627776 from by omega]
    omega
  have R := Lib.hid r
  clear r l0
  go_enter Tryd.func16, Tryd.ntmps16
  go_wp2
  go_ret
  exact ⟨ret_int (by have := R.out; omega), rfl⟩

set_option maxHeartbeats 400000 in
set_option maxRecDepth 100000 in
theorem len64_48 (x : Int) (w : World) (h0 : 281474976710656 ≤ x) (h1 : x ≤ 72057594037927935) :
    Calls Tryd.prog 16 #[.int .u64 x] w fun e w' => e = .returned (.int .i64 (Lib.bitLen x.toNat)) ∧ w = w' := by
  have q0 : 0 ≤ x / 4294967296 / 65536 := by omega
  have q1 : x / 4294967296 / 65536 ≤ 255 := by omega
  obtain ⟨l0, l1, l2⟩ := len8_val (x / 4294967296 / 65536) q0 q1
  have r : 48 + Lib.len8 (x / 4294967296 / 65536) = (Lib.bitLen x.toNat : Nat) := by
    rw [l0]
    have s := Lib.bitLen_shift48 x.toNat (by omega) (by omega)
    rw [show (x / 4294967296 / 65536).toNat = x.toNat / 281474976710656 from by omega]
    omega
  have R := Lib.hid r
  clear r l0
  go_enter Tryd.func16, Tryd.ntmps16
  go_wp2
  go_ret
  exact ⟨ret_int (by have := R.out; omega), rfl⟩

set_option maxHeartbeats 400000 in
set_option maxRecDepth 100000 in
theorem len64_56 (x : Int) (w : World) (h0 : 72057594037927936 ≤ x) (h1 : x ≤ 18446744073709551615) :
    Calls Tryd.prog 16 #[.int .u64 x] w fun e w' => e = .returned (.int .i64 (Lib.bitLen x.toNat)) ∧ w = w' := by
  have q0 : 0 ≤ x / 4294967296 / 65536 / 256 := by omega
  have q1 : x / 4294967296 / 65536 / 256 ≤ 255 := by omega
  obtain ⟨l0, l1, l2⟩ := len8_val (x / 4294967296 / 65536 / 256) q0 q1
  have r : 56 + Lib.len8 (x / 4294967296 / 65536 / 256) = (Lib.bitLen x.toNat : Nat) := by
    rw [l0]
    have s := Lib.bitLen_shift56 x.toNat (by omega) (by omega)
    rw [show (x / 4294967296 / 65536 / 256).toNat = x.toNat / 72057594037927936 from by omega]
    omega
  have R := Lib.hid r
  clear r l0
  go_enter Tryd.func16, Tryd.ntmps16
  go_wp2
  go_ret
  exact ⟨ret_int (by have := R.out; omega), rfl⟩

theorem len64_any (x : Int) (w : World) (h0 : 0 ≤ x) (h1 : x ≤ 18446744073709551615) :
    Calls Tryd.prog 16 #[.int .u64 x] w fun e w' => e = .returned (.int .i64 (Lib.bitLen x.toNat)) ∧ w = w' := by
  by_cases c0 : x ≤ 255
  · exact len64_0 x w (by omega) c0
  by_cases c8 : x ≤ 65535
  · exact len64_8 x w (by omega) c8
  by_cases c16 : x ≤ 16777215
  · exact len64_16 x w (by omega) c16
  by_cases c24 : x ≤ 4294967295
  · exact len64_24 x w (by omega) c24
  by_cases c32 : x ≤ 1099511627775
  · exact len64_32 x w (by omega) c32
  by_cases c40 : x ≤ 281474976710655
  · exact len64_40 x w (by omega) c40
  by_cases c48 : x ≤ 72057594037927935
  · exact len64_48 x w (by omega) c48
  exact len64_56 x w (by omega) h1

theorem highest_any (X : Nat) (w : World) (hX : X < 2 ^ 64) :
    Calls Tryd.prog 9 #[.int .u64 X] w fun e w' => e = .returned (.int .i64 ((Lib.bitLen X : Nat) - 1)) ∧ w = w' := by
  have hl := Lib.bitLen_le X 64 (by omega) hX
  go_enter Tryd.func9, Tryd.ntmps9
  go_wp2_with fail
  refine (len64_any X _ (by omega) (by omega)).mono ?_
  rintro e w' ⟨rfl, rfl⟩
  rw [Int.toNat_natCast]
  go_wp2_with fail
  go_ret
  exact ⟨rfl, rfl⟩

/-- Where the highest one stands. -/
theorem bitLen_zero : Lib.bitLen 0 = 0 := by decide
theorem bitLen_bits : ∀ (n X : Nat), X < 2 ^ n → n ≤ 64 → (∀ i, Lib.bitLen X ≤ i → X.testBit i = false) ∧ (0 < Lib.bitLen X → X.testBit (Lib.bitLen X - 1) = true) := by
  intro n
  induction n with
  | zero => intro X h _; obtain rfl : X = 0 := by simpa using h
            rw [bitLen_zero]; exact ⟨fun i _ => by simp, fun h => by omega⟩
  | succ n ih =>
    intro X h hn
    by_cases h0 : X = 0
    · subst h0; rw [bitLen_zero]; exact ⟨fun i _ => by simp, fun h => by omega⟩
    · have e := Lib.bitLen_half X h0 (Nat.lt_of_lt_of_le h (Nat.pow_le_pow_right (by decide) hn))
      obtain ⟨h1, h2⟩ := ih (X / 2) (by rw [Nat.pow_succ] at h; omega) (by omega)
      rw [e]
      refine ⟨fun i hi => ?_, fun _ => ?_⟩
      · obtain ⟨j, rfl⟩ : ∃ j, i = j + 1 := ⟨i - 1, by omega⟩
        rw [Nat.testBit_succ]; exact h1 j (by omega)
      · rw [show 1 + Lib.bitLen (X / 2) - 1 = Lib.bitLen (X / 2) by omega]
        by_cases hz : Lib.bitLen (X / 2) = 0
        · rw [hz]
          have hX2 : X / 2 = 0 := by
            apply Nat.eq_of_testBit_eq; intro i
            rw [h1 i (by omega)]; simp
          rw [Nat.testBit_zero]; simp; omega
        · have := h2 (by omega)
          obtain ⟨j, hj⟩ : ∃ j, Lib.bitLen (X / 2) = j + 1 := ⟨_, (Nat.succ_pred hz).symm⟩
          rw [hj] at this ⊢
          rw [Nat.testBit_succ]; exact this

end Go.Proofs.YtggbhjhnhgkiiaaDoor
