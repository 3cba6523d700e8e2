/- bits.has and bits.ones. -/
import Derived.Test.YtdhakfkcenfdoaaDoorPre
import Derived.Test.YtdhakfkcenfdoaaDoorBitMath
import Derived.Lib.MinMax
namespace Go.Proofs.YtdhakfkcenfdoaaDoor
open Go.ChangeShapes Go.WideShapes Go.ChangeAt Go.RowKit Bt
set_option linter.unusedVariables false

theorem has_yes (a : Int) (w : World) (h0 : 0 ≤ a) (h1 : a < 64) :
    Calls Tryd.prog 40 #[.int .i64 a] w fun e w' => e = .returned (.bool true) ∧ w = w' := by
  go_enter Tryd.func40, Tryd.ntmps40
  go_wp2
  go_ret
  exact ⟨rfl, rfl⟩

theorem has_no (a : Int) (w : World) (h : ¬ (0 ≤ a ∧ a < 64)) :
    Calls Tryd.prog 40 #[.int .i64 a] w fun e w' => e = .returned (.bool false) ∧ w = w' := by
  by_cases h0 : 0 ≤ a
  · have h1 : ¬ a < 64 := fun x => h ⟨h0, x⟩
    clear h
    go_enter Tryd.func40, Tryd.ntmps40
    go_wp2
    go_ret
    exact ⟨rfl, rfl⟩
  · clear h
    go_enter Tryd.func40, Tryd.ntmps40
    go_wp2
    go_ret
    exact ⟨rfl, rfl⟩

theorem ones_any (k : Int) (w : World) (h1 : -9223372036854775808 ≤ k) (h2 : k ≤ 9223372036854775807) :
    Calls Tryd.prog 41 #[.int .i64 k] w fun e w' => e = .returned (.int .u64 (onesN k : Nat)) ∧ w = w' := by
  obtain ⟨m, hm⟩ : ∃ m : Nat, max k 0 = (m : Int) := ⟨k.toNat, by omega⟩
  have e := ones_wrap m k hm
  have HE := Lib.hid e
  clear e
  go_enter Tryd.func41, Tryd.ntmps41
  go_wp2
  go_ret
  exact ⟨ret_int HE.out, rfl⟩

theorem ones_quiet (k : Int) (w : World) (n : Nat) (h1 : -9223372036854775808 ≤ k) (h2 : k ≤ 9223372036854775807) :
    Calls Tryd.prog 41 #[.int .i64 k] (w.drewN n) fun e w' => e = .returned (.int .u64 (onesN k : Nat)) ∧ w' = w.drewN n :=
  (ones_any k _ h1 h2).mono fun _ _ ⟨he, hw⟩ => ⟨he, hw.symm⟩

end Go.Proofs.YtdhakfkcenfdoaaDoor
