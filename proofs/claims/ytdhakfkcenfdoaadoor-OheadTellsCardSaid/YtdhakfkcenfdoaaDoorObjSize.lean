/- ohead: Size, mayBe, Ptr, Data; the reference's Size. -/
import Derived.Test.YtdhakfkcenfdoaaDoorObjV
import Derived.Test.YtdhakfkcenfdoaaDoorOheadMath
import Derived.Test.YtdhakfkcenfdoaaDoorClassSize
import Derived.Test.YtdhakfkcenfdoaaDoorWords32
import Derived.Deep.RegionHeld3
namespace Go.Proofs.YtdhakfkcenfdoaaDoor
open Go.ChangeShapes Go.WideShapes Go.ChangeAt Go.RowKit Oh
set_option linter.unusedVariables false

/-- class.Size, of what may be, and of what may not. -/
theorem classSize_yes {p d : Int} (h : mayO p d = true) (w : World) : Calls Tryd.prog 28 #[.int .i64 p, .int .i64 d] w fun e w' => e = .returned (.tuple #[.int .i64 (sizeO p d), .int .i64 0]) ∧ w = w' := by
  have := size_any p d w
  unfold SizeIs at this
  simp only [if_pos (may_iff.1 h)] at this
  rwa [sizeO_yes h]
theorem classSize_no {p d : Int} (h : mayO p d = false) (w : World) : Calls Tryd.prog 28 #[.int .i64 p, .int .i64 d] w fun e w' => e = .returned (.tuple #[.int .i64 0, .int .i64 5]) ∧ w = w' := by
  have := size_any p d w
  unfold SizeIs at this
  have hn : ¬ ((0 ≤ p ∧ p ≤ 63) ∧ (0 ≤ d ∧ d ≤ 16384)) := of_decide_eq_false h
  simpa only [if_neg hn] using this

set_option maxHeartbeats 400000 in
theorem objSize_any (p d : Int) (w : World) :
    Calls Tryd.prog 13 #[.agg #[.int .i64 p, .int .i64 d]] w (MadeOne (.int .i64 (sizeO p d)) w) := by
  have B0 := Lib.hid (fun o => (Below.refl w.heap.size w).alloc (Nat.le_refl _) o)
  have HS : Hid (∃ c : Int, ∀ w, Calls Tryd.prog 28 #[.int .i64 p, .int .i64 d] w fun e w' => e = .returned (.tuple #[.int .i64 (sizeO p d), .int .i64 c]) ∧ w = w') := Lib.hid (by
    cases h : mayO p d with
    | true => exact ⟨0, fun w => classSize_yes h w⟩
    | false => exact ⟨5, fun w => by have := classSize_no h w; rwa [sizeO_no h]⟩)
  generalize sizeO p d = n at *
  obtain ⟨c, hs⟩ := HS.out
  clear HS
  have HS := Lib.hid hs
  clear hs
  go_enter Tryd.func13, Tryd.ntmps13
  go_wp2_with fail
  refine (HS.out _).mono ?_
  rintro e W ⟨rfl, rfl⟩
  go_wp2_with fail
  go_ret
  exact ⟨rfl, B0.out _⟩

set_option maxHeartbeats 400000 in
theorem objMay_any (p d : Int) (w : World) :
    Calls Tryd.prog 23 #[.agg #[.int .i64 p, .int .i64 d]] w (MadeOne (.bool (mayO p d)) w) := by
  have B0 := Lib.hid (fun o => (Below.refl w.heap.size w).alloc (Nat.le_refl _) o)
  cases h : mayO p d with
  | true =>
    have HS := Lib.hid (classSize_yes h)
    generalize sizeO p d = n at *
    go_enter Tryd.func23, Tryd.ntmps23
    go_wp2_with fail
    refine (HS.out _).mono ?_
    rintro e W ⟨rfl, rfl⟩
    go_wp2_with fail
    go_ret
    exact ⟨rfl, B0.out _⟩
  | false =>
    have HS := Lib.hid (classSize_no h)
    go_enter Tryd.func23, Tryd.ntmps23
    go_wp2_with fail
    refine (HS.out _).mono ?_
    rintro e W ⟨rfl, rfl⟩
    go_wp2_with fail
    go_ret
    exact ⟨rfl, B0.out _⟩

/-- Is there a number i among so many? -/
def inO (i m : Int) : Bool := decide (0 ≤ i ∧ i < m)
set_option maxHeartbeats 400000 in
theorem ohWithin_any (i m : Int) (w : World) :
    Calls Tryd.prog 32 #[.int .i64 i, .int .i64 m] w fun e w' => e = .returned (.bool (inO i m)) ∧ w = w' := by
  by_cases h0 : 0 ≤ i
  · by_cases h1 : i < m
    · have HH := Lib.hid (show inO i m = true from decide_eq_true ⟨h0, h1⟩)
      go_enter Tryd.func32, Tryd.ntmps32
      go_wp2
      go_ret
      first | exact ⟨ret_bool HH.out.symm, rfl⟩ | exact ⟨rfl, rfl⟩
    · have HH := Lib.hid (show inO i m = false from decide_eq_false (fun h => h1 h.2))
      have hd : decide (i < m) = false := by simpa using h1
      go_enter Tryd.func32, Tryd.ntmps32
      go_wp2
      go_ret
      first | exact ⟨ret_bool HH.out.symm, rfl⟩ | exact ⟨rfl, rfl⟩
  · have HH := Lib.hid (show inO i m = false from decide_eq_false (fun h => h0 h.1))
    have hd : decide (0 ≤ i) = false := by simpa using h0
    go_enter Tryd.func32, Tryd.ntmps32
    go_wp2
    go_ret
    first | exact ⟨ret_bool HH.out.symm, rfl⟩ | exact ⟨rfl, rfl⟩

set_option maxHeartbeats 400000 in
theorem objPtr_any (p d i : Int) (w : World) :
    Calls Tryd.prog 18 #[.agg #[.int .i64 p, .int .i64 d], .int .i64 i] w (MadeOne (.tuple #[.int .i64 (wrap64 (1 + i)), .bool (inO i p)]) w) := by
  have B0 := Lib.hid (fun o => (Below.refl w.heap.size w).alloc (Nat.le_refl _) o)
  obtain ⟨z, hz⟩ : ∃ z, wrap64 (1 + i) = z := ⟨_, rfl⟩
  have HZ := Lib.hid hz
  clear hz
  rw [HZ.out]
  have HW := Lib.hid (ohWithin_any i p)
  generalize inO i p = r at *
  go_enter Tryd.func18, Tryd.ntmps18
  go_wp2_with fail
  refine (HW.out _).mono ?_
  rintro e W ⟨rfl, rfl⟩
  go_wp2_with fail
  go_ret2
  exact ⟨by rw [← HZ.out]; rfl, B0.out _⟩

set_option maxHeartbeats 400000 in
theorem objData_any (p d i : Int) (w : World) :
    Calls Tryd.prog 19 #[.agg #[.int .i64 p, .int .i64 d], .int .i64 i] w (MadeOne (.tuple #[.int .i64 (wrap64 (wrap64 (1 + p) + i)), .bool (inO i d)]) w) := by
  have B0 := Lib.hid (fun o => (Below.refl w.heap.size w).alloc (Nat.le_refl _) o)
  obtain ⟨z, hz⟩ : ∃ z, wrap64 (wrap64 (1 + p) + i) = z := ⟨_, rfl⟩
  have HZ := Lib.hid hz
  clear hz
  rw [HZ.out]
  have HW := Lib.hid (ohWithin_any i d)
  generalize inO i d = r at *
  go_enter Tryd.func19, Tryd.ntmps19
  go_wp2_with fail
  have hb := B0.out (.cells #[.int .i64 p, .int .i64 d] 23)
  have c0 : (w.alloc (.cells #[.int .i64 p, .int .i64 d] 23)).cell? ⟨w.heap.size, 0, none⟩ = some (.int .i64 p) := (BoxT.new _ w _).cell 0
  have c1 : (w.alloc (.cells #[.int .i64 p, .int .i64 d] 23)).cell? ⟨w.heap.size, 1, none⟩ = some (.int .i64 d) := (BoxT.new _ w _).cell 1
  generalize w.alloc (.cells #[.int .i64 p, .int .i64 d] 23) = V at hb c0 c1 ⊢
  have HB := Lib.hid hb
  clear hb B0
  go_region_held3 (fun w' => w'.cell? ⟨w.heap.size, 0, none⟩ = some (.int .i64 p) ∧ w'.cell? ⟨w.heap.size, 1, none⟩ = some (.int .i64 d))
    (go_keep)
    (first
      | (go_at_call 32; refine (HW.out _).mono ?_; rintro e W ⟨rfl, rfl⟩))
  go_wp2_with fail
  go_ret2
  exact ⟨by rw [← HZ.out, ← IntWalk.i64_left, ← IntWalk.i64_left]; rfl, below_drewN HB.out 1⟩

set_option maxHeartbeats 1000000 in
theorem refSize08_any (p d : Int) (w : World) :
    Calls Tryd.prog 14 #[.agg #[.int .i64 p, .int .i64 d]] w (MadeOne (.int .i64 (sizeO p d)) w) := by
  have B0 := Lib.hid (fun o => (Below.refl w.heap.size w).alloc (Nat.le_refl _) o)
  have BAD : mayO p d = false → p < 0 ∨ (decide (p < 0) = false ∧ 63 < p) ∨ (decide (p < 0) = false ∧ decide (63 < p) = false ∧ d < 0) ∨ (decide (p < 0) = false ∧ decide (63 < p) = false ∧ decide (d < 0) = false ∧ 16384 < d) := by
    intro h
    have := of_decide_eq_false h
    simp only [decide_eq_false_iff_not]
    omega
  cases h : mayO p d with
  | true =>
    have HZ := Lib.hid (sizeO_yes h)
    obtain ⟨⟨a, b⟩, c, e⟩ := may_iff.1 h
    clear h BAD
    go_enter Tryd.func14, Tryd.ntmps14
    go_wp2_with fail
    go_ret
    exact ⟨ret_int HZ.out.symm, B0.out _⟩
  | false =>
    have HZ := Lib.hid (sizeO_no h)
    rcases BAD h with h | ⟨h, h'⟩ | ⟨h, h', h''⟩ | ⟨h, h', h'', h'''⟩
    all_goals
      clear BAD
      go_enter Tryd.func14, Tryd.ntmps14
      go_wp2_with fail
      go_ret
      exact ⟨ret_int HZ.out.symm, B0.out _⟩

end Go.Proofs.YtdhakfkcenfdoaaDoor
