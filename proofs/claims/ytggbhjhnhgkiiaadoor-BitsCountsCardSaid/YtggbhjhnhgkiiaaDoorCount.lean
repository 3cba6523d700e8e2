/- math/bits.OnesCount64 and bits.Count. -/
import Derived.Test.YtggbhjhnhgkiiaaDoorPre
import Derived.Test.YtggbhjhnhgkiiaaDoorCountMath
namespace Go.Proofs.YtggbhjhnhgkiiaaDoor
open Go.ChangeShapes Go.WideShapes Go.ChangeAt Go.RowKit Bt
set_option linter.unusedVariables false

theorem and127 (V : Nat) (h : V < 2 ^ 63) : bits .and .i64 (V : Int) 127 = ((V % 128 : Nat) : Int) := by
  have e1 : (BitVec.ofInt 64 (V : Int)).toNat = V := by rw [BitVec.toNat_ofInt]; omega
  have e2 : (BitVec.ofInt 64 (127 : Int)).toNat = 127 := by decide
  have e3 : (BitVec.ofInt 64 (V : Int) &&& BitVec.ofInt 64 127).toNat = V % 128 := by
    rw [BitVec.toNat_and, e1, e2]; exact Nat.and_two_pow_sub_one_eq_mod V 7
  show IntKind.i64.wrap ((BitVec.ofInt 64 (V : Int) &&& BitVec.ofInt 64 127).toNat : Int) = _
  rw [e3]
  exact IntWalk.i64_in _ (by omega)

set_option maxHeartbeats 400000 in
theorem ones64_any (X : Nat) (w : World) (hX : X < 2 ^ 64) :
    Calls Tryd.prog 13 #[.int .u64 X] w fun e w' => e = .returned (.int .i64 (countN X : Nat)) ∧ w = w' := by
  have b0 : (X : Int) ≤ 18446744073709551615 := by omega
  have l1 := y1_le X
  have l2 := y2_le X
  have l3 := y3_le X
  have h1 : IntKind.u64.wrap (bits .and .u64 ((X : Int) / 2) 6148914691236517205 + bits .and .u64 (X : Int) 6148914691236517205) = (y1 X : Nat) := by
    rw [show ((X : Int) / 2) = ((X / 2 : Nat) : Int) from rfl, show (6148914691236517205 : Int) = ((6148914691236517205 : Nat) : Int) from rfl,
      and_nat _ _ (by omega) (by decide), and_nat _ _ hX (by decide), ← Int.natCast_add, swar1 X hX, wrap_nat _ (by omega)]
  have h2 : IntKind.u64.wrap (bits .and .u64 ((y1 X : Nat) / 4 : Int) 3689348814741910323 + bits .and .u64 (y1 X : Nat) 3689348814741910323) = (y2 X : Nat) := by
    rw [show ((y1 X : Nat) / 4 : Int) = ((y1 X / 4 : Nat) : Int) from rfl, show (3689348814741910323 : Int) = ((3689348814741910323 : Nat) : Int) from rfl,
      and_nat _ _ (by omega) (by decide), and_nat _ _ (by omega) (by decide), ← Int.natCast_add, swar2 X, wrap_nat _ (by omega)]
  have h3 : bits .and .u64 ((y2 X : Nat) / 16 + (y2 X : Nat) : Int) 1085102592571150095 = (y3 X : Nat) := by
    rw [show ((y2 X : Nat) / 16 + (y2 X : Nat) : Int) = ((y2 X / 16 + y2 X : Nat) : Int) from rfl, show (1085102592571150095 : Int) = ((1085102592571150095 : Nat) : Int) from rfl,
      and_nat _ _ (by omega) (by decide), swar3 X]
  have h4 : bits .and .i64 (((y3 X : Nat) : Int) + (y3 X : Nat) / 256 + ((y3 X : Nat) + (y3 X : Nat) / 256) / 65536 + ((y3 X : Nat) + (y3 X : Nat) / 256 + ((y3 X : Nat) + (y3 X : Nat) / 256) / 65536) / 4294967296) 127 = (countN X : Nat) := by
    rw [← swar_end X, ← and127 _ (by omega)]; rfl
  have H4 := Lib.hid h4
  clear h4
  generalize y1 X = Y1 at *
  generalize y2 X = Y2 at *
  generalize y3 X = Y3 at *
  go_enter Tryd.func13, Tryd.ntmps13
  go_wp2
  go_ret
  exact ⟨ret_int H4.out, rfl⟩

theorem count_any (X : Nat) (w : World) (hX : X < 2 ^ 64) :
    Calls Tryd.prog 5 #[.int .u64 X] w fun e w' => e = .returned (.int .i64 (countN X : Nat)) ∧ w = w' := by
  go_enter Tryd.func5, Tryd.ntmps5
  go_wp2_with fail
  refine (ones64_any X _ hX).mono ?_
  rintro e w' ⟨rfl, rfl⟩
  go_wp2_with fail
  go_ret
  exact ⟨rfl, rfl⟩

end Go.Proofs.YtggbhjhnhgkiiaaDoor
