/- The page's example of layer 11. -/
import Derived.Test.YtkejpdkokaiidaaPlays
namespace Go.Proofs.Ytkejpdkokaiidaa
open Go.ChangeShapes Go.WideShapes Go.ChangeAt Go.RowKit Bk Rn
set_option linter.unusedVariables false

set_option maxHeartbeats 1000000 in
/-- Two spans are held against each other. -/
theorem eqSpV (a b c d : Int) (w : World) : (Op.equalIn 10000 38 (.agg #[.int .i64 a, .int .i64 b]) (.agg #[.int .i64 c, .int .i64 d])).run Try.prog w = .ok (a == c && b == d) w := by
  rw [show (10000 : Nat) = 9999 + 1 from rfl, run_equalIn_agg w 9999 38 _ _ (by kernel_rfl) (by kernel_rfl)]
  by_cases h0 : a = c
  · by_cases h1 : b = d
    · simp [h0, h1]; go_simp; done
    · go_simp
  · go_simp

/-- The example's truths. -/
def aF1 : Nat → Bool := (giveR (fun _ => false) 9 1 5).1
def aF2 : Nat → Bool := (takeR aF1 9 2).1
theorem aG : (giveR (fun _ => false) 9 1 5).2 = 0 := by decide
theorem aT : (takeR aF1 9 2).2 = (1, 0) := by decide
theorem aL : runsTo aF2 9 = [(3, 3)] := by decide

set_option maxHeartbeats 1000000 in
theorem awake11_yes (w : World) : Calls Try.prog 6 #[] w fun e w' => e = .returned (.bool true) ∧ Below w.heap.size w w' := by
  have heq : ∀ w' : World, (Op.equalIn 10000 38 (.agg #[.int .i64 3, .int .i64 3]) (.agg #[.int .i64 3, .int .i64 3])).run Try.prog w' = .ok true w' := fun w' => by rw [eqSpV]; rfl
  have GV : Hid (∀ x own W, Ix W x own 9 (fun _ => false) → Calls Try.prog 15 #[.pointer (some ⟨x, 0, none⟩), .int .i64 1, .int .i64 5] W fun e w' => e = .returned (.int .i64 0) ∧ IxTo x own 9 aF1 W w') := Lib.hid fun x own W h => by
    have := idxGive_any h (by decide) 1 5 (by decide) (by decide) (by decide) (by decide)
    rw [show ((9 : Int).toNat) = 9 from rfl, aG] at this
    exact this
  have TK : Hid (∀ x own W, Ix W x own 9 aF1 → Calls Try.prog 13 #[.pointer (some ⟨x, 0, none⟩), .int .i64 2] W fun e w' => e = .returned (.tuple #[.int .i64 1, .int .i64 0]) ∧ IxTo x own 9 aF2 W w') := Lib.hid fun x own W h => by
    have := idxTake_any h (by decide) 2 (by decide) (by decide)
    rw [show ((9 : Int).toNat) = 9 from rfl, aT] at this
    exact this
  have LI : Hid (∀ x own W, Ix W x own 9 aF2 → Calls Try.prog 12 #[.pointer (some ⟨x, 0, none⟩)] W fun e w' => ∃ v, e = .returned v ∧ IsSps w' v [(3, 3)] ∧ Below W.heap.size W w') := Lib.hid fun x own W h => by
    have := idxList_any h (by decide)
    rw [show ((9 : Int).toNat) = 9 from rfl, aL] at this
    exact this.mono fun e w' ⟨v, h1, h2, _, h3⟩ => ⟨v, h1, h2, h3⟩
  go_enter Try.func6, Try.ntmps6
  go_wp2_with fail
  refine (idxNew_any 9 w (by decide) (by decide)).mono ?_
  rintro e w1 ⟨x, own, rfl, hx, hb, ho⟩
  have I1 := Lib.hid (And.intro hx (And.intro hb ho))
  clear hx hb ho
  go_wp2_with fail
  refine (GV.out _ _ _ I1.out.1).mono ?_
  rintro e w2 ⟨rfl, own2, h2, k2, o2⟩
  have I2 : Hid (Ix w2 x own2 9 aF1 ∧ Below w.heap.size w w2 ∧ ∀ b, own2 b → w.heap.size ≤ b) := Lib.hid ⟨h2, I1.out.2.1.trans (k2.below (B := w.heap.size) I1.out.2.1.size I1.out.2.2), fun b hb => (o2 b hb).elim (I1.out.2.2 b) fun h => Nat.le_trans I1.out.2.1.size h⟩
  clear h2 k2 o2 I1 GV
  go_wp2_with fail
  refine (TK.out _ _ _ I2.out.1).mono ?_
  rintro e w3 ⟨rfl, own3, h3, k3, o3⟩
  have I3 : Hid (Ix w3 x own3 9 aF2 ∧ Below w.heap.size w w3) := Lib.hid ⟨h3, I2.out.2.1.trans (k3.below (B := w.heap.size) I2.out.2.1.size I2.out.2.2)⟩
  clear h3 k3 o3 I2 TK
  go_wp2_with fail
  refine (LI.out _ _ _ I3.out.1).mono ?_
  rintro e w4 ⟨l, rfl, hl, hb⟩
  have K4 : Hid (Below w.heap.size w w4) := Lib.hid (I3.out.2.trans (hb.mono I3.out.2.size))
  obtain ⟨la, lc, rfl, hlc, hcell⟩ := hl
  obtain ⟨b, off, rfl, -, hc⟩ := hcell.resolve_left (by simp)
  obtain ⟨c0, c1⟩ := hc 0 (by simp)
  have d0 : w4.cell? ⟨b, off, none⟩ = some (.int .i64 3) := by simpa using c0
  have d1 : w4.cell? ⟨b, off + 1, none⟩ = some (.int .i64 3) := by simpa using c1
  clear hb hcell hc c0 c1 I3 LI
  go_wp2_with fail
  go_ret
  exact ⟨rfl, K4.out⟩

end Go.Proofs.Ytkejpdkokaiidaa
