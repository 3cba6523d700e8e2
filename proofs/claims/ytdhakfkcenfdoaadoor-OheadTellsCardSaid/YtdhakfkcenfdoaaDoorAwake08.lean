/- The page's example of layer 8. -/
import Derived.Test.YtdhakfkcenfdoaaDoorObjSize
import Derived.Test.YtdhakfkcenfdoaaDoorNats
namespace Go.Proofs.YtdhakfkcenfdoaaDoor
open Go.ChangeShapes Go.WideShapes Go.ChangeAt Go.RowKit Oh
set_option linter.unusedVariables false

set_option maxHeartbeats 1000000 in
theorem awake_yes (w : World) : Calls Tryd.prog 6 #[] w fun e w' => e = .returned (.bool true) ∧ Below w.heap.size w w' := by
  have B0 := Lib.hid (fun o => (Below.refl w.heap.size w).alloc (Nat.le_refl _) o)
  have HD : Hid (∀ w, Calls Tryd.prog 19 #[.agg #[.int .i64 2, .int .i64 3], .int .i64 0] w (MadeOne (.tuple #[.int .i64 3, .bool true]) w)) := Lib.hid fun w => by
    have := objData_any 2 3 0 w
    rwa [show wrap64 (wrap64 (1 + 2) + 0) = 3 by unfold wrap64; omega, show inO 0 3 = true by decide] at this
  have HS : Hid (∀ w, Calls Tryd.prog 13 #[.agg #[.int .i64 2, .int .i64 3]] w (MadeOne (.int .i64 6) w)) := Lib.hid fun w => by
    have := objSize_any 2 3 w
    rwa [show sizeO 2 3 = 6 by decide] at this
  go_enter Tryd.func6, Tryd.ntmps6
  go_wp2_with (first
    | (refine wpList_load_boxT rfl _ _ rfl (b := w.heap.size) rfl (BoxT.new _ w _) Tryd.underlying23 rfl infoO ?_)
    | fail)
  refine (HD.out _).mono ?_
  rintro e W ⟨rfl, hb⟩
  obtain ⟨b1, hb, s1⟩ := boxT_of1 hb
  have HB := Lib.hid hb
  have B1 := Lib.hid b1
  clear hb b1
  go_wp2_with (first
    | (refine wpList_load_boxT rfl _ _ rfl (b := w.heap.size) rfl B1.out Tryd.underlying23 rfl infoO ?_)
    | fail)
  refine (HS.out _).mono ?_
  rintro e W2 ⟨rfl, hb⟩
  have HB2 := Lib.hid (below_step HB.out hb (Nat.le_refl _))
  clear hb
  go_wp2_with fail
  go_ret
  exact ⟨rfl, HB2.out⟩

end Go.Proofs.YtdhakfkcenfdoaaDoor
