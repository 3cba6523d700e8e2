/- bhead: number, headerOf, place, further; Ref of the law. -/
import Derived.Test.YtgkgpjdgodhnlaaDoorHeadV
import Derived.Test.YtgkgpjdgodhnlaaDoorBheadMath
import Derived.Test.YtgkgpjdgodhnlaaDoorPut
import Derived.Test.YtgkgpjdgodhnlaaDoorGet
import Derived.Test.YtgkgpjdgodhnlaaDoorSeal
namespace Go.Proofs.YtgkgpjdgodhnlaaDoor
open Go.ChangeShapes Go.WideShapes Go.ChangeAt Go.RowKit Bh Bt
set_option linter.unusedVariables false

set_option maxHeartbeats 1000000 in
theorem number_any (k c l : Nat) (w : World) (hk : k < 4) (hc : c < 64) (hl : l < 65536) :
    Calls Tryd.prog 20 #[.agg #[.int .i64 k, .int .i64 c, .int .i64 l]] w fun e w' => e = .returned (.int .u32 (numN k c l : Nat)) ∧ Below w.heap.size w w' := by
  have E0 := Lib.hid (put0 k hk)
  have E1 := Lib.hid (put1 k c hk hc)
  have E2 := Lib.hid (put2 k c l hk hc hl)
  have hn := numN_lt hk hc hl
  have hk' : (k : Int) < 4 := by omega
  have hc' : (c : Int) < 64 := by omega
  have hl' : (l : Int) < 65536 := by omega
  have hk0 : (0 : Int) ≤ k := by omega
  have hc0 : (0 : Int) ≤ c := by omega
  have hl0 : (0 : Int) ≤ l := by omega
  go_enter Tryd.func20, Tryd.ntmps20
  go_wp2_with fail
  refine (put_any 0 k 0 2 _ (by decide) (by decide) (by decide)).mono ?_
  rintro e w' ⟨rfl, rfl⟩
  rw [E0.out]
  go_wp2_with fail
  refine (put_any k c 2 6 _ (by omega) (by decide) (by decide)).mono ?_
  rintro e w' ⟨rfl, rfl⟩
  rw [E1.out]
  go_wp2_with fail
  refine (put_any (k + 4 * c) l 8 16 _ (by omega) (by decide) (by decide)).mono ?_
  rintro e w' ⟨rfl, rfl⟩
  rw [E2.out]
  generalize hz : numN k c l = n at hn
  have HN := Lib.hid hz
  clear hz
  have hn' : (n : Int) ≤ 16777215 := by omega
  go_wp2_with fail
  go_ret
  exact ⟨by rw [HN.out]; rfl, (Below.refl _ _).alloc (Nat.le_refl _) _⟩

theorem place_any (b q : Int) (w : World) (hq : wrap64 (256 + b) = q) :
    Calls Tryd.prog 15 #[.int .i64 b] w fun e w' => e = .returned (.int .i64 q) ∧ w = w' := by
  have HQ := Lib.hid hq
  clear hq
  go_enter Tryd.func15, Tryd.ntmps15
  go_wp2_with fail
  go_ret
  exact ⟨by rw [← HQ.out]; rfl, rfl⟩

set_option maxHeartbeats 1000000 in
theorem fieldOf_any (n : Nat) (a k : Int) (b : Nat) (w : World) (hn : n < 4294967296) (hb : w.cell? ⟨b, 0, none⟩ = some (.int .u32 n)) (hg : getN n a k < 65536) (ha : 0 ≤ a ∧ a < 64) (hk : 0 ≤ k ∧ k < 64) :
    Calls Tryd.prog 24 #[.int .i64 a, .int .i64 k, .pointer (some ⟨b, 0, none⟩)] w fun e w' => e = .returned (.int .i64 (getN n a k : Nat)) ∧ ∃ m, w' = w.drewN m := by
  have hn' : (n : Int) ≤ 4294967295 := by omega
  go_enter Tryd.func24, Tryd.ntmps24
  go_wp2_with fail
  refine (get_any n a k _ (by omega) (by omega) (by omega)).mono ?_
  rintro e w' ⟨rfl, m, rfl⟩
  generalize hz : getN n a k = g at hg
  have HN := Lib.hid hz
  clear hz
  have hg' : (g : Int) < 65536 := by omega
  go_wp2_with fail
  go_ret
  exact ⟨by rw [HN.out]; rfl, _, rfl⟩

set_option maxHeartbeats 1000000 in
theorem headerOf_any (n : Nat) (w : World) (hn : n < 4294967296) :
    Calls Tryd.prog 16 #[.int .u32 n] w (MadeOne (.agg #[.int .i64 (kOf n : Nat), .int .i64 (cOf n : Nat), .int .i64 (lOf n : Nat)]) w) := by
  have hmf : ∀ (fn : Fn) (first cap : Array Value) (w : World), (Instr.makeFunc fn first cap).run Tryd.prog w = .ok (.func fn first cap) w := fun _ _ _ _ => rfl
  have B0 : Hid (∀ o m, (((w.alloc (.cells #[.int .u32 n] 40)).alloc o).drewN m).cell? ⟨w.heap.size, 0, none⟩ = some (.int .u32 n)) := Lib.hid fun o m => by
    have := ((BoxT.new 40 w #[.int .u32 n]).alloc o).drewN m
    exact this.cell 0
  have F0 : Hid (∀ W : World, W.cell? ⟨w.heap.size, 0, none⟩ = some (.int .u32 n) → Calls Tryd.prog 24 #[.int .i64 0, .int .i64 2, .pointer (some ⟨w.heap.size, 0, none⟩)] W fun e w' => e = .returned (.int .i64 (kOf n : Nat)) ∧ ∃ m, w' = W.drewN m) := Lib.hid fun W h => by
    have := fieldOf_any n 0 2 w.heap.size W hn h (by rw [get0]; omega) (by decide) (by decide)
    rwa [get0] at this
  have F1 : Hid (∀ W : World, W.cell? ⟨w.heap.size, 0, none⟩ = some (.int .u32 n) → Calls Tryd.prog 24 #[.int .i64 2, .int .i64 6, .pointer (some ⟨w.heap.size, 0, none⟩)] W fun e w' => e = .returned (.int .i64 (cOf n : Nat)) ∧ ∃ m, w' = W.drewN m) := Lib.hid fun W h => by
    have := fieldOf_any n 2 6 w.heap.size W hn h (by rw [get1]; omega) (by decide) (by decide)
    rwa [get1] at this
  have F2 : Hid (∀ W : World, W.cell? ⟨w.heap.size, 0, none⟩ = some (.int .u32 n) → Calls Tryd.prog 24 #[.int .i64 8, .int .i64 16, .pointer (some ⟨w.heap.size, 0, none⟩)] W fun e w' => e = .returned (.int .i64 (lOf n : Nat)) ∧ ∃ m, w' = W.drewN m) := Lib.hid fun W h => by
    have := fieldOf_any n 8 16 w.heap.size W hn h (by rw [get2]; omega) (by decide) (by decide)
    rwa [get2] at this
  go_enter Tryd.func16, Tryd.ntmps16
  go_wp2_with fail
  refine (F0.out _ (B0.out _ 0)).mono ?_
  rintro e w' ⟨rfl, m1, rfl⟩
  go_wp2_with fail
  refine (F1.out _ (B0.out _ m1)).mono ?_
  rintro e w' ⟨rfl, m2, rfl⟩
  go_wp2_with fail
  refine (F2.out _ (B0.out _ _)).mono ?_
  rintro e w' ⟨rfl, m3, rfl⟩
  go_wp2_with fail
  exact bodyPost_ret (results_boxT1 rfl _ _ (w.heap.size + 1) _ rfl (box3_fill _ _ _ _ _ _ _ _ _ _) Tryd.underlying23 rfl info3) rfl ⟨rfl, below3_fill _ _ _ _ _ _ _⟩

set_option maxHeartbeats 400000 in
theorem further_any (n : Int) (w : World) :
    Calls Tryd.prog 22 #[.int .i64 n] w (MadeOne (.agg #[.int .i64 3, .int .i64 0, .int .i64 n]) w) := by
  go_enter Tryd.func22, Tryd.ntmps22
  go_wp2_with fail
  refine bodyPost_ret (v := .agg #[.int .i64 3, .int .i64 0, .int .i64 n]) (by simp [results, Tryd.results22, go_sem]) rfl ⟨rfl, ?_⟩
  exact (Below.refl _ _).alloc (Nat.le_refl _) _

set_option maxHeartbeats 400000 in
theorem ref_any (k c l : Int) (w : World) :
    Calls Tryd.prog 10 #[.agg #[.int .i64 k, .int .i64 c, .int .i64 l]] w (MadeOne (.agg #[.int .i64 k, .int .i64 c, .int .i64 l]) w) := by
  go_enter Tryd.func10, Tryd.ntmps10
  go_wp2_with fail
  refine bodyPost_ret (v := .agg #[.int .i64 k, .int .i64 c, .int .i64 l]) (by simp [results, Tryd.results10, go_sem]) rfl ⟨rfl, ?_⟩
  exact ((Below.refl _ _).alloc (Nat.le_refl _) _).alloc (by simp) _

end Go.Proofs.YtgkgpjdgodhnlaaDoor
