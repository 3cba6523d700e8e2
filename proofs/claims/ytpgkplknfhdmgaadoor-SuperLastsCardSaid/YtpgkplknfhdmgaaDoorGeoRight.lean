/- geom: Right, Words, Most. -/
import Derived.Test.YtpgkplknfhdmgaaDoorPre
namespace Go.Proofs.YtpgkplknfhdmgaaDoor
open Go.ChangeShapes Go.WideShapes Go.ChangeAt Go.RowKit
set_option linter.unusedVariables false

/-- May a device have so many blocks? -/
def rightG (n : Int) : Bool := decide (2 ≤ n ∧ n ≤ 256)

set_option maxHeartbeats 400000 in
theorem geoRight_any (n : Int) (w : World) :
    Calls Tryd.prog 20 #[.agg #[.int .i64 n]] w fun e w' => e = .returned (.bool (rightG n)) ∧ Below w.heap.size w w' := by
  by_cases h0 : 2 ≤ n
  · by_cases h1 : n ≤ 256
    · have hh : rightG n = true := decide_eq_true ⟨h0, h1⟩
      have HH := Lib.hid hh
      clear hh
      go_enter Tryd.func20, Tryd.ntmps20
      go_wp2
      go_ret
      exact ⟨ret_bool HH.out.symm, (Below.refl _ _).alloc (Nat.le_refl _) _⟩
    · have hh : rightG n = false := decide_eq_false (fun h => h1 h.2)
      have HH := Lib.hid hh
      clear hh
      have hd : decide (n ≤ 256) = false := by simpa using h1
      go_enter Tryd.func20, Tryd.ntmps20
      go_wp2
      go_ret
      exact ⟨ret_bool HH.out.symm, (Below.refl _ _).alloc (Nat.le_refl _) _⟩
  · have hh : rightG n = false := decide_eq_false (fun h => h0 h.1)
    have HH := Lib.hid hh
    clear hh
    have hd : decide (2 ≤ n) = false := by simpa using h0
    go_enter Tryd.func20, Tryd.ntmps20
    go_wp2
    go_ret
    exact ⟨ret_bool HH.out.symm, (Below.refl _ _).alloc (Nat.le_refl _) _⟩

end Go.Proofs.YtpgkplknfhdmgaaDoor
