/- super.sumOf. -/
import Derived.Test.YtpgkplknfhdmgaaDoorLineV
import Derived.Test.YtpgkplknfhdmgaaDoorWords32
namespace Go.Proofs.YtpgkplknfhdmgaaDoor
open Go.ChangeShapes Go.WideShapes Go.ChangeAt Go.RowKit Cr Bt
set_option linter.unusedVariables false

/-- The first seven words of a line in a box. -/
theorem seven_of {w : World} {t : TypeId} {n : Nat} {a b c d e f g h : Nat} (hb : BoxT t w n #[.int .u64 a, .int .u64 b, .int .u64 c, .int .u64 d, .int .u64 e, .int .u64 f, .int .u64 g, .int .u64 h]) : IsInts .u64 w (.slice (some ⟨n, 0, none⟩) 7 8) (castL [a, b, c, d, e, f, g]) := by
  refine ⟨_, 8, rfl, by simp [castL], .inr ⟨n, 0, rfl, hb.lt, fun i hi => ?_⟩⟩
  simp [castL] at hi
  rw [Nat.zero_add, hb.cell]
  match i, hi with
  | 0, _ => simp [castL]
  | 1, _ => simp [castL]
  | 2, _ => simp [castL]
  | 3, _ => simp [castL]
  | 4, _ => simp [castL]
  | 5, _ => simp [castL]
  | 6, _ => simp [castL]

theorem lt_all7 {a b c d e f g : Nat} (K : Nat) (h : a < K ∧ b < K ∧ c < K ∧ d < K ∧ e < K ∧ f < K ∧ g < K) : ∀ p, [a, b, c, d, e, f, g].getD p 0 < K := by
  intro p
  match p with
  | 0 => exact h.1
  | 1 => exact h.2.1
  | 2 => exact h.2.2.1
  | 3 => exact h.2.2.2.1
  | 4 => exact h.2.2.2.2.1
  | 5 => exact h.2.2.2.2.2.1
  | 6 => exact h.2.2.2.2.2.2
  | p + 7 => simp; omega

set_option maxHeartbeats 400000 in
theorem sumOf_any (a b c d e f g h : Nat) (w : World) (hx : a < 2 ^ 64 ∧ b < 2 ^ 64 ∧ c < 2 ^ 64 ∧ d < 2 ^ 64 ∧ e < 2 ^ 64 ∧ f < 2 ^ 64 ∧ g < 2 ^ 64) (hT : HasRests w) :
    Calls Tryd.prog 18 #[(Value.agg #[Value.int .u64 ((a : Nat) : Int), Value.int .u64 ((b : Nat) : Int), Value.int .u64 ((c : Nat) : Int), Value.int .u64 ((d : Nat) : Int), Value.int .u64 ((e : Nat) : Int), Value.int .u64 ((f : Nat) : Int), Value.int .u64 ((g : Nat) : Int), Value.int .u64 ((h : Nat) : Int)])] w (MadeOne (.int .u64 (wordsC [a, b, c, d, e, f, g] : Nat)) w) := by
  have H7 := Lib.hid (lt_all7 _ hx)
  have HI := Lib.hid (seven_of (BoxT.new 23 w #[.int .u64 a, .int .u64 b, .int .u64 c, .int .u64 d, .int .u64 e, .int .u64 f, .int .u64 g, .int .u64 h]))
  have HT := Lib.hid (hT.below ((Below.refl _ _).alloc (Nat.le_refl _) (.cells #[.int .u64 a, .int .u64 b, .int .u64 c, .int .u64 d, .int .u64 e, .int .u64 f, .int .u64 g, .int .u64 h] 23)) (Nat.le_refl _))
  clear hx hT
  go_enter Tryd.func18, Tryd.ntmps18
  go_wp2_with fail
  refine (words32_any _ [a, b, c, d, e, f, g] _ HI.out H7.out (by simp) HT.out).mono ?_
  rintro e' W ⟨rfl, hb⟩
  have HB := Lib.hid (((Below.refl w.heap.size w).alloc (Nat.le_refl _) _).trans (hb.mono (by simp)))
  have hc : wordsC [a, b, c, d, e, f, g] < 4294967296 := moreN_lt _ _
  clear hb HI HT H7
  go_wp2_with fail
  go_ret
  exact ⟨rfl, HB.out⟩

end Go.Proofs.YtpgkplknfhdmgaaDoor
