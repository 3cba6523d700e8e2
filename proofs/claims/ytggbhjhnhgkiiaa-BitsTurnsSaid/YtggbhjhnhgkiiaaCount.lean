/- Contracts: math/bits.OnesCount64, bits.Count, the reference's Count; bits.Turn and the reference's Turn. -/
import Derived.Test.YtggbhjhnhgkiiaaRef2
import Derived.Test.YtggbhjhnhgkiiaaCountMath
namespace Go.Proofs.Ytggbhjhnhgkiiaa
open Go.ChangeShapes Go.WideShapes Go.ChangeAt Go.RowKit Bt
set_option linter.unusedVariables false

theorem and127 (V : Nat) (h : V < 2 ^ 63) : bits .and .i64 (V : Int) 127 = ((V % 128 : Nat) : Int) := by
  have e1 : (BitVec.ofInt 64 (V : Int)).toNat = V := by rw [BitVec.toNat_ofInt]; omega
  have e2 : (BitVec.ofInt 64 (127 : Int)).toNat = 127 := by decide
  have e3 : (BitVec.ofInt 64 (V : Int) &&& BitVec.ofInt 64 127).toNat = V % 128 := by
    rw [BitVec.toNat_and, e1, e2]; exact Nat.and_two_pow_sub_one_eq_mod V 7
  show IntKind.i64.wrap ((BitVec.ofInt 64 (V : Int) &&& BitVec.ofInt 64 127).toNat : Int) = _
  rw [e3]
  exact IntWalk.i64_in _ (by omega)

set_option maxHeartbeats 400000 in
theorem ones64_any (X : Nat) (w : World) (hX : X < 2 ^ 64) :
    Calls Try.prog 30 #[.int .u64 X] w fun e w' => e = .returned (.int .i64 (countN X : Nat)) ∧ w = w' := by
  have b0 : (X : Int) ≤ 18446744073709551615 := by omega
  have l1 := y1_le X
  have l2 := y2_le X
  have l3 := y3_le X
  have h1 : IntKind.u64.wrap (bits .and .u64 ((X : Int) / 2) 6148914691236517205 + bits .and .u64 (X : Int) 6148914691236517205) = (y1 X : Nat) := by
    rw [show ((X : Int) / 2) = ((X / 2 : Nat) : Int) from rfl, show (6148914691236517205 : Int) = ((6148914691236517205 : Nat) : Int) from rfl,
      and_nat _ _ (by omega) (by decide), and_nat _ _ hX (by decide), ← Int.natCast_add, swar1 X hX, wrap_nat _ (by omega)]
  have h2 : IntKind.u64.wrap (bits .and .u64 ((y1 X : Nat) / 4 : Int) 3689348814741910323 + bits .and .u64 (y1 X : Nat) 3689348814741910323) = (y2 X : Nat) := by
    rw [show ((y1 X : Nat) / 4 : Int) = ((y1 X / 4 : Nat) : Int) from rfl, show (3689348814741910323 : Int) = ((3689348814741910323 : Nat) : Int) from rfl,
      and_nat _ _ (by omega) (by decide), and_nat _ _ (by omega) (by decide), ← Int.natCast_add, swar2 X, wrap_nat _ (by omega)]
  have h3 : bits .and .u64 ((y2 X : Nat) / 16 + (y2 X : Nat) : Int) 1085102592571150095 = (y3 X : Nat) := by
    rw [show ((y2 X : Nat) / 16 + (y2 X : Nat) : Int) = ((y2 X / 16 + y2 X : Nat) : Int) from rfl, show (1085102592571150095 : Int) = ((1085102592571150095 : Nat) : Int) from rfl,
      and_nat _ _ (by omega) (by decide), swar3 X]
  have h4 : bits .and .i64 (((y3 X : Nat) : Int) + (y3 X : Nat) / 256 + ((y3 X : Nat) + (y3 X : Nat) / 256) / 65536 + ((y3 X : Nat) + (y3 X : Nat) / 256 + ((y3 X : Nat) + (y3 X : Nat) / 256) / 65536) / 4294967296) 127 = (countN X : Nat) := by
    rw [← swar_end X, ← and127 _ (by omega)]; rfl
  have H4 := Lib.hid h4
  clear h4
  generalize y1 X = Y1 at *
  generalize y2 X = Y2 at *
  generalize y3 X = Y3 at *
  go_enter Try.func30, Try.ntmps30
  go_wp2
  go_ret
  exact ⟨ret_int H4.out, rfl⟩

theorem count_any (X : Nat) (w : World) (hX : X < 2 ^ 64) :
    Calls Try.prog 17 #[.int .u64 X] w fun e w' => e = .returned (.int .i64 (countN X : Nat)) ∧ w = w' := by
  go_enter Try.func17, Try.ntmps17
  go_wp2_with fail
  refine (ones64_any X _ hX).mono ?_
  rintro e w' ⟨rfl, rfl⟩
  go_wp2_with fail
  go_ret
  exact ⟨rfl, rfl⟩

set_option maxHeartbeats 400000 in
theorem refCount_any (X : Nat) (w : World) (hX : X < 2 ^ 64) :
    Calls Try.prog 18 #[.int .u64 X] w fun e w' => e = .returned (.int .i64 (countN X : Nat)) ∧ w = w' := by
  go_enter Try.func18, Try.ntmps18
  go_wp2
  go_loop [3, 4] (fun c i => ∃ j C : Nat, j ≤ 64 ∧ C ≤ j ∧ Hid (C = countTo j X) ∧ i = .int .i64 j ∧ c = .int .i64 C) (fun _ i => 64 - (intOf i).toNat)
  case atStart => exact ⟨0, 0, by omega, by omega, Lib.hid rfl, rfl, rfl⟩
  case round =>
    obtain ⟨j, C, hj, hC, HC, rfl, rfl⟩ := hrel
    by_cases hlt : j < 64
    · have hs := countTo_succ j X
      unfold bitN at hs
      cases hb : X.testBit j
      · rw [hb, ← HC.out] at hs
        have HS := Lib.hid hs
        have HB := Lib.hid hb
        clear hs hb
        go_wp2_with fail
        refine (refBit_any X j _ hX (by omega)).mono ?_
        rintro e w' ⟨rfl, rfl⟩
        rw [HB.out]
        go_wp2_with fail
        go_round
        case rel => exact ⟨j + 1, C, by omega, by omega, Lib.hid (by rw [HS.out]; rfl), by go_num, rfl⟩
        case measure => simp [intOf]; omega
      · rw [hb, ← HC.out] at hs
        have HS := Lib.hid hs
        have HB := Lib.hid hb
        clear hs hb
        go_wp2_with fail
        refine (refBit_any X j _ hX (by omega)).mono ?_
        rintro e w' ⟨rfl, rfl⟩
        rw [HB.out]
        go_wp2_with fail
        go_round
        case rel => exact ⟨j + 1, C + 1, by omega, by omega, Lib.hid (by rw [HS.out]; rfl), by go_num, by go_num⟩
        case measure => simp [intOf]; omega
    · have e : ((C : Nat) : Int) = (countN X : Nat) := by rw [HC.out, show j = 64 by omega]; rfl
      have HE := Lib.hid e
      clear e
      go_wp2_with fail
      go_ret
      exact ⟨ret_int HE.out, rfl⟩

/-! ### Turn -/
theorem left_val (b : Int) : (IntKind.u64.wrap b).tmod 64 = (((b % 64).toNat : Nat) : Int) := by
  rw [IntKind.wrap_u64, tmod_of_emod]; omega
theorem rot_val (X c : Nat) (hX : X < 2 ^ 64) (hc : c < 64) : bits .or .u64 (IntKind.u64.wrap ((X : Int) * 2 ^ c)) ((X : Int) / 2 ^ (64 - c)) = (rotN X c : Nat) := by
  have e1 := shl_wrap X c hc
  rw [show min c 64 = c from by omega] at e1
  rw [e1, cast_pow, show ((X : Int) / ((2 ^ (64 - c) : Nat) : Int)) = ((X / 2 ^ (64 - c) : Nat) : Int) from rfl]
  rw [or_nat _ _ (Nat.mod_lt _ (two_pow_pos 64)) (Nat.lt_of_le_of_lt (Nat.div_le_self _ _) hX)]; rfl

set_option maxHeartbeats 400000 in
theorem turn_any (X : Nat) (b : Int) (w : World) (hX : X < 2 ^ 64) :
    Calls Try.prog 15 #[.int .u64 X, .int .i64 b] w fun e w' => e = .returned (.int .u64 (rotN X (b % 64).toNat : Nat)) ∧ w = w' := by
  have b0 : (X : Int) ≤ 18446744073709551615 := by omega
  have hl := left_val b
  have hc : (b % 64).toNat < 64 := by omega
  generalize (b % 64).toNat = c at hl hc ⊢
  have HR := Lib.hid (rot_val X c hX hc)
  go_enter Try.func15, Try.ntmps15
  go_wp2
  go_ret
  exact ⟨ret_int HR.out, rfl⟩

theorem step_on (Y : Nat) (h : Y.testBit 63 = true) : IntKind.u64.wrap (IntKind.u64.wrap ((Y : Int) * 2) + 1) = ((Y * 2 % 2 ^ 64 + 1 : Nat) : Int) := by
  rw [IntKind.wrap_u64, IntKind.wrap_u64]; omega
theorem step_off (Y : Nat) (h : Y.testBit 63 = false) : IntKind.u64.wrap ((Y : Int) * 2) = ((Y * 2 % 2 ^ 64 : Nat) : Int) := by
  rw [IntKind.wrap_u64]; omega
theorem tmod_below (b : Int) (h : b < 0) : b.tmod 64 = -(-b % 64) := by
  have h1 := Int.neg_tmod (-b) 64
  rw [Int.neg_neg] at h1
  rw [h1, Int.tmod_eq_emod_of_nonneg (a := -b) (by omega)]

/-- The loop: from the word as it is, c times. -/
def TurnAt (X : Nat) (j : Nat) (Y : Nat) : Prop := IsRot X j Y

set_option maxHeartbeats 1000000 in
theorem refTurn_any (X : Nat) (b : Int) (w : World) (hX : X < 2 ^ 64) (h1 : -128 ≤ b) (h2 : b ≤ 127) :
    Calls Try.prog 16 #[.int .u64 X, .int .i64 b] w fun e w' => e = .returned (.int .u64 (rotN X (b % 64).toNat : Nat)) ∧ w = w' := by
  have hc : (b % 64).toNat < 64 := by omega
  have hcase : (0 ≤ b ∧ b.tmod 64 = ((b % 64).toNat : Nat)) ∨ (b < 0 ∧ b.tmod 64 = 0 ∧ (b % 64).toNat = 0) ∨ (b < 0 ∧ ∃ m : Int, b.tmod 64 = m ∧ m < 0 ∧ m + 64 = ((b % 64).toNat : Nat)) := by
    rcases Int.lt_or_le b 0 with h | h
    · have ht := tmod_below b h
      by_cases e : b % 64 = 0
      · right; left
        exact ⟨h, by omega, by omega⟩
      · right; right
        exact ⟨h, _, ht, by omega, by omega⟩
    · left
      exact ⟨h, by rw [Int.tmod_eq_emod_of_nonneg h]; omega⟩
  have hrot : ∀ Y, TurnAt X (b % 64).toNat Y → ((Y : Nat) : Int) = (rotN X (b % 64).toNat : Nat) := fun Y h => by rw [IsRot.same h (rotN_is X _ hX hc)]
  have hnext : ∀ j Y, j < (b % 64).toNat → TurnAt X j Y → TurnAt X (j + 1) (Y * 2 % 2 ^ 64 + if Y.testBit 63 then 1 else 0) := fun j Y hj h => IsRot.step h (by omega)
  have hzero : TurnAt X 0 X := IsRot.zero X hX
  have hlt : ∀ j Y, TurnAt X j Y → Y < 2 ^ 64 := fun j Y h => h.1
  generalize (b % 64).toNat = c at hc hcase hrot hnext ⊢
  have HR := Lib.hid hrot
  have HN := Lib.hid hnext
  have HZ := Lib.hid hzero
  have HL := Lib.hid hlt
  clear hrot hnext hzero hlt
  rcases hcase with ⟨h, ht⟩ | ⟨h, ht, hz⟩ | ⟨h, m, ht, hm, hz⟩
  · have hd : decide ((c : Int) < 0) = false := by simp
    go_enter Try.func16, Try.ntmps16
    go_wp2
    go_loop [0, 6] (fun v i => ∃ j Y : Nat, j ≤ c ∧ Hid (TurnAt X j Y) ∧ i = .int .i64 j ∧ v = .int .u64 Y) (fun _ i => c - (intOf i).toNat)
    case atStart => exact ⟨0, X, by omega, HZ, rfl, rfl⟩
    case round =>
      obtain ⟨j, Y, hj, HY, rfl, rfl⟩ := hrel
      by_cases hlt : j < c
      · have hn := HN.out j Y hlt HY.out
        have hy := HL.out j Y HY.out
        cases hb : Y.testBit 63
        · have e := step_off Y hb
          have HE := Lib.hid e
          have HX : Hid (TurnAt X (j + 1) (Y * 2 % 2 ^ 64)) := by rw [hb] at hn; exact Lib.hid hn
          have HB := Lib.hid hb
          clear hn hb e
          go_wp2_with fail
          refine (refBit_int Y _ _ hy (by omega) (by omega)).mono ?_
          rintro e w' ⟨rfl, rfl⟩
          rw [show ((63 : Int)).toNat = 63 from rfl, HB.out]
          go_wp2_with fail
          rw [HE.out]
          go_round
          case rel => exact ⟨j + 1, _, by omega, HX, by go_num, rfl⟩
          case measure => simp [intOf]; omega
        · have e := step_on Y hb
          have HE := Lib.hid e
          have HX : Hid (TurnAt X (j + 1) (Y * 2 % 2 ^ 64 + 1)) := by rw [hb] at hn; exact Lib.hid hn
          have HB := Lib.hid hb
          clear hn hb e
          go_wp2_with fail
          refine (refBit_int Y _ _ hy (by omega) (by omega)).mono ?_
          rintro e w' ⟨rfl, rfl⟩
          rw [show ((63 : Int)).toNat = 63 from rfl, HB.out]
          go_wp2_with fail
          rw [HE.out]
          go_round
          case rel => exact ⟨j + 1, _, by omega, HX, by go_num, rfl⟩
          case measure => simp [intOf]; omega
      · have e := HR.out Y (by have := HY.out; rwa [show j = c by omega] at this)
        have HE := Lib.hid e
        clear e
        go_wp2_with fail
        go_ret
        exact ⟨ret_int HE.out, rfl⟩
  · have e := HR.out X (by rw [hz]; exact HZ.out)
    have HE := Lib.hid e
    clear e hz
    go_enter Try.func16, Try.ntmps16
    go_wp2
    go_loop [0, 6] (fun v i => i = .int .i64 0 ∧ v = .int .u64 X) (fun _ i => 0)
    case atStart => exact ⟨rfl, rfl⟩
    case round =>
      obtain ⟨rfl, rfl⟩ := hrel
      go_wp2_with fail
      go_ret
      exact ⟨ret_int HE.out, rfl⟩
  · go_enter Try.func16, Try.ntmps16
    go_wp2
    go_loop [0, 6] (fun v i => ∃ j Y : Nat, j ≤ c ∧ Hid (TurnAt X j Y) ∧ i = .int .i64 j ∧ v = .int .u64 Y) (fun _ i => c - (intOf i).toNat)
    case atStart => exact ⟨0, X, by omega, HZ, rfl, rfl⟩
    case round =>
      obtain ⟨j, Y, hj, HY, rfl, rfl⟩ := hrel
      by_cases hlt : j < c
      · have hn := HN.out j Y hlt HY.out
        have hy := HL.out j Y HY.out
        cases hb : Y.testBit 63
        · have e := step_off Y hb
          have HE := Lib.hid e
          have HX : Hid (TurnAt X (j + 1) (Y * 2 % 2 ^ 64)) := by rw [hb] at hn; exact Lib.hid hn
          have HB := Lib.hid hb
          clear hn hb e
          go_wp2_with fail
          refine (refBit_int Y _ _ hy (by omega) (by omega)).mono ?_
          rintro e w' ⟨rfl, rfl⟩
          rw [show ((63 : Int)).toNat = 63 from rfl, HB.out]
          go_wp2_with fail
          rw [HE.out]
          go_round
          case rel => exact ⟨j + 1, _, by omega, HX, by go_num, rfl⟩
          case measure => simp [intOf]; omega
        · have e := step_on Y hb
          have HE := Lib.hid e
          have HX : Hid (TurnAt X (j + 1) (Y * 2 % 2 ^ 64 + 1)) := by rw [hb] at hn; exact Lib.hid hn
          have HB := Lib.hid hb
          clear hn hb e
          go_wp2_with fail
          refine (refBit_int Y _ _ hy (by omega) (by omega)).mono ?_
          rintro e w' ⟨rfl, rfl⟩
          rw [show ((63 : Int)).toNat = 63 from rfl, HB.out]
          go_wp2_with fail
          rw [HE.out]
          go_round
          case rel => exact ⟨j + 1, _, by omega, HX, by go_num, rfl⟩
          case measure => simp [intOf]; omega
      · have e := HR.out Y (by have := HY.out; rwa [show j = c by omega] at this)
        have HE := Lib.hid e
        clear e
        go_wp2_with fail
        go_ret
        exact ⟨ret_int HE.out, rfl⟩

end Go.Proofs.Ytggbhjhnhgkiiaa
