/- ohead: number, objectOf; Ref of the law. -/
import Derived.Test.YtdhakfkcenfdoaaDoorObjV
import Derived.Test.YtdhakfkcenfdoaaDoorOheadMath
import Derived.Test.YtdhakfkcenfdoaaDoorPut
import Derived.Test.YtdhakfkcenfdoaaDoorGet
import Derived.Test.YtdhakfkcenfdoaaDoorSeal
namespace Go.Proofs.YtdhakfkcenfdoaaDoor
open Go.ChangeShapes Go.WideShapes Go.ChangeAt Go.RowKit Oh Bt
set_option linter.unusedVariables false

set_option maxHeartbeats 1000000 in
theorem objNumber_any (p d : Nat) (w : World) (hp : p < 64) (hd : d < 32768) :
    Calls Tryd.prog 25 #[.agg #[.int .i64 p, .int .i64 d]] w fun e w' => e = .returned (.int .u32 (numO p d : Nat)) ∧ Below w.heap.size w w' := by
  have E0 := Lib.hid put0
  have E1 := Lib.hid (put1 p hp)
  have E2 := Lib.hid (put2 p d hp hd)
  have hn := numO_lt hp hd
  have hp' : (p : Int) < 64 := by omega
  have hd' : (d : Int) < 32768 := by omega
  have hp0 : (0 : Int) ≤ p := by omega
  have hd0 : (0 : Int) ≤ d := by omega
  go_enter Tryd.func25, Tryd.ntmps25
  go_wp2_with fail
  refine (put_any 0 165 0 8 _ (by decide) (by decide) (by decide)).mono ?_
  rintro e w' ⟨rfl, rfl⟩
  rw [E0.out]
  go_wp2_with fail
  refine (put_any 165 p 8 6 _ (by decide) (by decide) (by decide)).mono ?_
  rintro e w' ⟨rfl, rfl⟩
  rw [E1.out]
  go_wp2_with fail
  refine (put_any (165 + 256 * p) d 14 15 _ (by omega) (by decide) (by decide)).mono ?_
  rintro e w' ⟨rfl, rfl⟩
  rw [E2.out]
  generalize hz : numO p d = n at hn
  have HN := Lib.hid hz
  clear hz
  have hn' : (n : Int) ≤ 536870911 := by omega
  go_wp2_with fail
  go_ret
  exact ⟨by rw [HN.out]; rfl, (Below.refl _ _).alloc (Nat.le_refl _) _⟩

set_option maxHeartbeats 1000000 in
theorem objField_any (n : Nat) (a k : Int) (b : Nat) (w : World) (hn : n < 4294967296) (hb : w.cell? ⟨b, 0, none⟩ = some (.int .u32 n)) (hg : getN n a k < 65536) (ha : 0 ≤ a ∧ a < 64) (hk : 0 ≤ k ∧ k < 64) :
    Calls Tryd.prog 34 #[.int .i64 a, .int .i64 k, .pointer (some ⟨b, 0, none⟩)] w fun e w' => e = .returned (.int .i64 (getN n a k : Nat)) ∧ ∃ m, w' = w.drewN m := by
  have hn' : (n : Int) ≤ 4294967295 := by omega
  go_enter Tryd.func34, Tryd.ntmps34
  go_wp2_with fail
  refine (get_any n a k _ (by omega) (by omega) (by omega)).mono ?_
  rintro e w' ⟨rfl, m, rfl⟩
  generalize hz : getN n a k = g at hg
  have HN := Lib.hid hz
  clear hz
  have hg' : (g : Int) < 65536 := by omega
  go_wp2_with fail
  go_ret
  exact ⟨by rw [HN.out]; rfl, _, rfl⟩

set_option maxHeartbeats 1000000 in
theorem objectOf_any (n : Nat) (w : World) (hn : n < 4294967296) :
    Calls Tryd.prog 21 #[.int .u32 n] w (MadeOne (.agg #[.int .i64 (pOf n : Nat), .int .i64 (dOf n : Nat)]) w) := by
  have hmf : ∀ (fn : Fn) (first cap : Array Value) (w : World), (Instr.makeFunc fn first cap).run Tryd.prog w = .ok (.func fn first cap) w := fun _ _ _ _ => rfl
  have B0 : Hid (∀ o m, (((w.alloc (.cells #[.int .u32 n] 43)).alloc o).drewN m).cell? ⟨w.heap.size, 0, none⟩ = some (.int .u32 n)) := Lib.hid fun o m => by
    have := ((BoxT.new 43 w #[.int .u32 n]).alloc o).drewN m
    exact this.cell 0
  have F1 : Hid (∀ W : World, W.cell? ⟨w.heap.size, 0, none⟩ = some (.int .u32 n) → Calls Tryd.prog 34 #[.int .i64 8, .int .i64 6, .pointer (some ⟨w.heap.size, 0, none⟩)] W fun e w' => e = .returned (.int .i64 (pOf n : Nat)) ∧ ∃ m, w' = W.drewN m) := Lib.hid fun W h => by
    have := objField_any n 8 6 w.heap.size W hn h (by rw [get1]; have := pOf_lt n; omega) (by decide) (by decide)
    rwa [get1] at this
  have F2 : Hid (∀ W : World, W.cell? ⟨w.heap.size, 0, none⟩ = some (.int .u32 n) → Calls Tryd.prog 34 #[.int .i64 14, .int .i64 15, .pointer (some ⟨w.heap.size, 0, none⟩)] W fun e w' => e = .returned (.int .i64 (dOf n : Nat)) ∧ ∃ m, w' = W.drewN m) := Lib.hid fun W h => by
    have := objField_any n 14 15 w.heap.size W hn h (by rw [get2]; have := dOf_lt n; omega) (by decide) (by decide)
    rwa [get2] at this
  go_enter Tryd.func21, Tryd.ntmps21
  go_wp2_with fail
  refine (F1.out _ (B0.out _ 0)).mono ?_
  rintro e w' ⟨rfl, m1, rfl⟩
  go_wp2_with fail
  refine (F2.out _ (B0.out _ m1)).mono ?_
  rintro e w' ⟨rfl, m2, rfl⟩
  go_wp2_with fail
  exact bodyPost_ret (results_boxT1 rfl _ _ (w.heap.size + 1) _ rfl (box2_fill _ _ _ _ _ _ _ _) Tryd.underlying23 rfl infoO) rfl ⟨rfl, below2_fill _ _ _ _ _ _⟩

set_option maxHeartbeats 400000 in
theorem ref08_any (p d : Int) (w : World) :
    Calls Tryd.prog 11 #[.agg #[.int .i64 p, .int .i64 d]] w (MadeOne (.agg #[.int .i64 p, .int .i64 d]) w) := by
  go_enter Tryd.func11, Tryd.ntmps11
  go_wp2_with fail
  refine bodyPost_ret (v := .agg #[.int .i64 p, .int .i64 d]) (by simp [results, Tryd.results11, go_sem]) rfl ⟨rfl, ?_⟩
  exact ((Below.refl _ _).alloc (Nat.le_refl _) _).alloc (by simp) _

end Go.Proofs.YtdhakfkcenfdoaaDoor
