/-
  Any words have the page's bytes, any bytes its words.
  Conditions: none beyond the row (every argument that can be read as data).
-/
import Derived.Test.YtggbhjhnhgkiiaaPre
import Derived.Test.YtggbhjhnhgkiiaaAwake01
import Derived.Test.YtggbhjhnhgkiiaaBytes
import Derived.Test.YtggbhjhnhgkiiaaRefBytes
import Derived.Test.YtggbhjhnhgkiiaaWords
import Derived.Test.YtggbhjhnhgkiiaaRefWords
import Derived.Test.YtggbhjhnhgkiiaaRefSame
import Derived.Deep.RegionHeld3
namespace Go.Proofs.Ytggbhjhnhgkiiaa.bitsBytes
open Go.ChangeShapes Go.WideShapes Go.ChangeAt Go.RowKit
open Go.ChangeMaps (open_string shut_string)
set_option linter.unusedVariables false

open Bt

theorem nats_of (K : Nat) : ∀ l : List Int, (∀ n ∈ l, 0 ≤ n ∧ n < K) → 0 < K → ∃ xs : List Nat, l = castL xs ∧ ∀ p, xs.getD p 0 < K
  | [], _, hK => ⟨[], rfl, fun p => by simpa using hK⟩
  | a :: l, h, hK => by
    obtain ⟨xs, hxs, hp⟩ := nats_of K l (fun n hn => h n (by simp [hn])) hK
    have ha := h a (by simp)
    refine ⟨a.toNat :: xs, by rw [hxs]; simp [castL]; omega, fun p => ?_⟩
    cases p with
    | zero => simp; omega
    | succ p => simpa using hp p
theorem bytes_getD_lt (xs : List Nat) (p : Nat) : (bytesN xs).getD p 0 < 256 := by
  rw [List.getD_eq_getElem?_getD]
  cases h : (bytesN xs)[p]? with
  | none => decide
  | some b => exact bytesN_lt xs b (List.mem_of_getElem? h)
theorem words_again (xs : List Nat) (h : ∀ p, xs.getD p 0 < 2 ^ 64) : wordsN (bytesN xs) (upN (bytesN xs).length) = xs := by
  rw [bytesN_length, show upN (8 * xs.length) = xs.length from by unfold upN; omega, wordsN_back xs h]
theorem below_step {W w' w1 : World} {B : Nat} (h : Below B W w') (k : Below w'.heap.size w' w1) (hB : B ≤ W.heap.size) : Below B W w1 := h.trans (k.mono (Nat.le_trans hB h.size))

set_option maxHeartbeats 1000000 in
theorem walk  (a0 : Option Addr) (len0 cap0 : Nat) (z0 : List Int) (a1 : Option Addr) (len1 cap1 : Nat) (z1 : List Int) (w : World) (w0 : IsRow .u64 w a0 len0 cap0 z0) (w1 : IsRow .u8 w a1 len1 cap1 z1)  :
    Calls Try.prog 6 #[.slice a0 len0 cap0, .slice a1 len1 cap1] w fun e w' => e = .returned (.bool true) ∧ Below w.heap.size w w' := by
  obtain ⟨hI0, hL0, hw0⟩ := w0.ints
  obtain ⟨hI1, hL1, hw1⟩ := w1.ints
  obtain ⟨xs, hxs, hx64⟩ := nats_of (2 ^ 64) _ (fun n hn => by have := bounds_u64 (hw0 n hn); omega) (by decide)
  obtain ⟨ds, hds, hd256⟩ := nats_of 256 _ (fun n hn => by have := bounds_u8 (hw1 n hn); omega) (by decide)
  rw [hxs] at hI0 hL0
  rw [hds] at hI1 hL1
  rw [castL_length] at hL0 hL1
  clear w0 w1 hw0 hw1 hxs hds
  have HX := Lib.hid hx64
  have HD := Lib.hid hd256
  have HI0 := Lib.hid hI0
  have HI1 := Lib.hid hI1
  have HL0 := Lib.hid hL0
  have HL1 := Lib.hid hL1
  clear hx64 hd256 hI0 hI1 hL0 hL1
  by_cases hl0 : (300 : Int) < (len0 : Int)
  · go_enter Try.func6, Try.ntmps6
    go_wp2_with fail
    refine (awake_yes _).mono ?_
    rintro e w' ⟨rfl, n0, rfl⟩
    go_wp2_with fail
    go_ret
    exact ⟨rfl, below_drewN (Below.refl _ _) _⟩
  by_cases hl1 : (300 : Int) < (len1 : Int)
  · go_enter Try.func6, Try.ntmps6
    go_wp2_with fail
    refine (awake_yes _).mono ?_
    rintro e w' ⟨rfl, n0, rfl⟩
    go_wp2_with fail
    go_ret
    exact ⟨rfl, below_drewN (Below.refl _ _) _⟩
  have hxl : xs.length ≤ 1000000000 := by have := HL0.out; omega
  have hdl : ds.length ≤ 1000000000 := by have := HL1.out; omega
  have hbl : (bytesN xs).length ≤ 1000000000 := by rw [bytesN_length]; have := HL0.out; omega
  go_enter Try.func6, Try.ntmps6
  go_wp2_with fail
  refine (awake_yes _).mono ?_
  rintro e w' ⟨rfl, n0, rfl⟩
  go_wp2_with fail
  refine (bytes_any _ xs _ (HI0.out.below (below_drewN (Below.refl _ _) _) (Nat.le_refl _)) HX.out hxl).mono ?_
  rintro e W ⟨vb, rfl, hIb, hb0⟩
  have hB0 : Below w.heap.size w W := (below_drewN (Below.refl _ _) _).trans hb0
  have FA : ∀ w', Below W.heap.size W w' → IsInts .u64 w' (.slice a0 len0 cap0) (castL xs) := fun w' h => (HI0.out.below hB0 (Nat.le_refl _)).below h (Nat.le_refl _)
  have FD : ∀ w', Below W.heap.size W w' → IsInts .u8 w' (.slice a1 len1 cap1) (castL ds) := fun w' h => (HI1.out.below hB0 (Nat.le_refl _)).below h (Nat.le_refl _)
  have FB : ∀ w', Below W.heap.size W w' → IsInts .u8 w' vb (castL (bytesN xs)) := fun w' h => hIb.below h (Nat.le_refl _)
  have FC : ∀ w', Below W.heap.size W w' → (convert 37 9 vb).run Try.prog w' = .ok (.string (textOf (castL (bytesN xs)))) w' := fun w' h => run_text Try.underlying37 Try.underlying5 Try.underlying9 (FB w' h)
  have HBL := Lib.hid (bytes_getD_lt xs)
  have HWB := Lib.hid (words_again xs HX.out)
  have hwl : (castL (wordsN ds (upN ds.length))).length ≤ 1000000000 := by rw [castL_length, wordsN_length]; unfold upN; omega
  have hxl' : (castL xs).length ≤ 1000000000 := by rw [castL_length]; omega
  have HFA := Lib.hid FA
  have HFD := Lib.hid FD
  have HFB := Lib.hid FB
  have HB0 := Lib.hid hB0
  clear FA FD FB hIb hb0 hB0
  go_wp2_with fail
  have hS0 : Below W.heap.size W W.drew := Below.drew (Below.refl _ _)
  go_region_with
    (first
      | (go_at_call 22; refine (refBytes_any _ xs _ (HFA.out _ (by assumption)) HX.out hxl).mono ?_; rintro e w1 ⟨v2, rfl, hI2, hb2⟩; have hS2 := below_step (B := W.heap.size) (by assumption) hb2 (Nat.le_refl _); have hc2 := run_text (P := Try.prog) Try.underlying37 Try.underlying5 Try.underlying9 hI2)
      | (go_at_call_of 24 (Value.slice a1 len1 cap1); refine (words_any _ ds _ (HFD.out _ (by assumption)) HD.out hdl).mono ?_; rintro e w3 ⟨v3, rfl, hI3, hb3⟩; have hS3 := below_step (B := W.heap.size) (by assumption) hb3 (Nat.le_refl _))
      | (go_at_call 25; refine (refWords_any _ ds _ (HFD.out _ (by assumption)) HD.out hdl).mono ?_; rintro e w4 ⟨v4, rfl, hI4, hb4⟩; have hS4 := below_step (B := W.heap.size) (by assumption) hb4 (Nat.le_refl _); have hI3' := hI3.below hb4 (Nat.le_refl _))
      | (go_at_call_of 24 vb; refine (words_any _ (bytesN xs) _ (HFB.out _ (by assumption)) HBL.out hbl).mono ?_; rintro e w6 ⟨v6, rfl, hI6, hb6⟩; have hS6 := below_step (B := W.heap.size) (by assumption) hb6 (Nat.le_refl _); rw [HWB.out] at hI6)
      | (go_at_call_of 23 v4; refine (refSame_yes _ _ (castL (wordsN ds (upN ds.length))) _ hI3' hI4 hwl).mono ?_; rintro e w5 ⟨rfl, n5, rfl⟩; have hS5 := below_drewN hS4 n5)
      | (go_at_call_of 23 v6; refine (refSame_yes _ _ (castL xs) _ hI6 (HFA.out _ (by assumption)) hxl').mono ?_; rintro e w7 ⟨rfl, n7, rfl⟩; have hS7 := below_drewN hS6 n7))
  all_goals
    clear HFA HFD HFB FC HX HD HBL HWB hS0
    go_wp2
    go_ret
    exact ⟨rfl, HB0.out.trans (hS7.mono HB0.out.size)⟩

set_option maxRecDepth 100000 in
theorem lifted (os : Os) (started : os.Started) (H : Type) (enc : TypeId × Value → H) :
    ReturnsInHanded {} Try.checked os 6 .any (Rows.bitsBytesSpec.pre6 enc Try.prog Try.f6 Rows.bitsBytesRow.domain false) (Rows.bitsBytesSpec.post enc Try.prog Try.f6 false true false false) := by
  refine returnsInHanded_of_change (C := Try.checked) own started (by kernel_rfl) Try.func6
    (ChangeSpec.witness6 (enc := enc) (C := Try.checked) false ⟨#[], #[.slice none 0 0, .slice none 0 0], []⟩ 8 (by kernel_rfl) (by kernel_rfl) (by kernel_rfl) (by kernel_rfl)) ?_
  intro W base args ds gs before hval0 hW hcnd _
  have hval : ∀ (j : Nat) t v, Try.f6.params[j]? = some t → args[j]? = some v → Value.okWide Try.prog W .any base t v := hval0
  have hW' := hW
  obtain ⟨p, q, hA0, hV, rfl, hfz, hnd⟩ := hW
  have hA : DataW.TrodAll enc Try.prog W 0 (fun _ => true) true Try.f6.params.toList args.toList ds p := hA0
  rw [Try.params6] at hA hval
  obtain ⟨v0, vs0, d0, ds0, p0, q0, hargs, rfl, rfl, h0, r0⟩ := trodAll_cons hA
  obtain ⟨v1, vs1, d1, ds1, p1, q1, rfl, rfl, rfl, h1, r1⟩ := trodAll_cons r0
  obtain ⟨rfl, rfl, rfl⟩ := trodAll_nil r1
  obtain rfl : args = #[v0, v1] := by cases args; simp_all
  obtain ⟨rfl, rfl⟩ := trodVars_none hV
  obtain ⟨a0, len0, cap0, rfl⟩ := okWide_slice Try.underlying36 (hval 0 36 v0 rfl rfl)
  have k0 := h0
  have lt0 : ∀ x ∈ p0, x.block < W.heap.size := by obtain ⟨m, hm⟩ := k0; exact DataW.trod_lt m _ _ _ hm
  obtain ⟨z0, w0⟩ : ∃ zs, IsRow .u64 W a0 len0 cap0 zs := isRow_of Try.underlying36 Try.underlying22 (by kernel_rfl) h0
  obtain ⟨a1, len1, cap1, rfl⟩ := okWide_slice Try.underlying37 (hval 1 37 v1 rfl rfl)
  have k1 := h1
  have lt1 : ∀ x ∈ p1, x.block < W.heap.size := by obtain ⟨m, hm⟩ := k1; exact DataW.trod_lt m _ _ _ hm
  obtain ⟨z1, w1⟩ : ∃ zs, IsRow .u8 W a1 len1 cap1 zs := isRow_of Try.underlying37 Try.underlying5 (by kernel_rfl) h1
  clear hA0 hval0
  refine (walk a0 len0 cap0 z0 a1 len1 cap1 z1 W w0 w1 ).mono fun e W' ⟨he, bel⟩ => ?_
  subst he
  exact ⟨_, rfl, _, _, _, [], _, [], hW', trodAll_mk1 (shut_bool Try.underlying4 _), (trodAll_cons_mk (Below.trod laidOut (by kernel_rfl) (of_decide_eq_true (by kernel_rfl)) k0 bel lt0) (trodAll_cons_mk (Below.trod laidOut (by kernel_rfl) (of_decide_eq_true (by kernel_rfl)) k1 bel lt1) trodAll_mk0)), rfl, bel.frame _, fun h => by cases h⟩

theorem over : Rows.bitsBytesRow.holds Try.pinned (OpenSpec.ofChange Rows.bitsBytesSpec) :=
  OpenClaim.holds_of_wide 6 Try.f6 rfl rfl rfl rfl rfl rfl rfl ⟨rfl, rfl, rfl, rfl, rfl⟩ rfl rfl rfl rfl rfl (by kernel_rfl) Try.func6 (by kernel_rfl)
    (of_decide_eq_true (by kernel_rfl)) (by unfold Func.isWrapper; first | (rw [if_pos (by decide +kernel)]; kernel_rfl) | (rw [if_neg (by decide +kernel)]; exact ⟨rfl, rfl⟩))
    (fun os started H enc _ => lifted os started H enc)

/-- The statement. -/
theorem proved : Rows.BitsBytesSaid := over
#print axioms proved
end Go.Proofs.Ytggbhjhnhgkiiaa.bitsBytes
