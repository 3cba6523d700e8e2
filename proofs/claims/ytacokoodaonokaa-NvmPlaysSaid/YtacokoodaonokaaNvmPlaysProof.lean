/-
  A device and the reference, given the same words and the same operations, answer alike and hold the same, for all words and operations.
  Conditions: none beyond the row (every argument that can be read as data).
-/
import Derived.Test.YtacokoodaonokaaPre
import Derived.Test.YtacokoodaonokaaPlayed
namespace Go.Proofs.Ytacokoodaonokaa.nvmPlays
open Go.ChangeShapes Go.WideShapes Go.ChangeAt Go.RowKit
open Go.ChangeMaps (open_string shut_string)
set_option linter.unusedVariables false

open Nv

set_option maxHeartbeats 1000000 in
theorem walk {H : Type} {enc : TypeId × Value → H} {base : Nat} {d1 : DataW H} {p1 : List MemPlace} (a0 : Option Addr) (len0 cap0 : Nat) (z0 : List Int) (a1 : Value) (w : World) (w0 : IsRow .u64 w a0 len0 cap0 z0) (w1 : Value.okWide Try.prog w .any base 23 a1) (k1 : DataW.Trod enc Try.prog w 0 (fun _ => true) true 23 a1 d1 p1)  :
    Calls Try.prog 3 #[.slice a0 len0 cap0, a1] w fun e w' => e = .returned (.bool true) ∧ Below w.heap.size w w' := by
  obtain ⟨q1, q2, q3⟩ := w0.ints
  obtain ⟨os, hos⟩ := ops_of_trod w1 k1
  have HQ := Lib.hid q1
  have HOS := Lib.hid hos
  clear q1 q3 hos w0 w1 k1
  go_enter Try.func3, Try.ntmps3
  go_wp2_with fail
  refine (awake_yes _).mono ?_
  rintro e wa ⟨rfl, hb1⟩
  have B1 := Lib.hid hb1
  clear hb1
  go_wp2_with fail
  refine (few_any a0 len0 cap0 a1 os (HOS.out.below B1.out (Nat.le_refl _))).mono ?_
  rintro e w' ⟨b, rfl, hF, rfl⟩
  cases b
  · go_wp2_with fail
    go_ret
    exact ⟨rfl, B1.out⟩
  · obtain ⟨h200, hfew⟩ := hF rfl
    have HP := Lib.hid (played_any _ (z0.take len0) (HQ.out.below B1.out (Nat.le_refl _)) (by rw [q2]; exact h200) a1 os (HOS.out.below B1.out (Nat.le_refl _)) hfew)
    clear hF h200 hfew
    go_wp2_with fail
    refine HP.out.mono ?_
    rintro e wb ⟨p, f, r, T, rfl, -, -, -, -, -, hb2, -⟩
    have B2 : Hid (Below w.heap.size w wb) := Lib.hid (B1.out.trans (hb2.mono B1.out.size))
    have HZ : Hid (Box (wb.alloc (.cells z30 30)) wb.heap.size z30) := Lib.hid (Box.new wb _)
    clear hb2 HP
    go_wp2_with (refine wpList_store_box rfl _ _ rfl (b := wb.heap.size) (old := z30) (cells := rc r _) rfl rfl HZ.out rfl rfl (rc_one _ _) ?_; intro wc hbc kc; have B3 : Hid (Below w.heap.size w wc) := Lib.hid ((B2.out.alloc B2.out.size _).trans (kc.below (B := w.heap.size) (by have := B2.out.size; simp; omega) (fun i e => by have := B2.out.size; omega))); clear hbc kc)
    go_ret
    exact ⟨rfl, B3.out⟩

set_option maxRecDepth 100000 in
theorem lifted (os : Os) (started : os.Started) (H : Type) (enc : TypeId × Value → H) :
    ReturnsInHanded {} Try.checked os 3 .any (Rows.nvmPlaysSpec.pre6 enc Try.prog Try.f3 Rows.nvmPlaysRow.domain false) (Rows.nvmPlaysSpec.post enc Try.prog Try.f3 false true false false) := by
  refine returnsInHanded_of_change (C := Try.checked) own started (by kernel_rfl) Try.func3
    (ChangeSpec.witness6 (enc := enc) (C := Try.checked) false ⟨#[], #[.slice none 0 0, .slice none 0 0], []⟩ 8 (by kernel_rfl) (by kernel_rfl) (by kernel_rfl) (by kernel_rfl)) ?_
  intro W base args ds gs before hval0 hW hcnd _
  have hval : ∀ (j : Nat) t v, Try.f3.params[j]? = some t → args[j]? = some v → Value.okWide Try.prog W .any base t v := hval0
  have hW' := hW
  obtain ⟨p, q, hA0, hV, rfl, hfz, hnd⟩ := hW
  have hA : DataW.TrodAll enc Try.prog W 0 (fun _ => true) true Try.f3.params.toList args.toList ds p := hA0
  rw [Try.params3] at hA hval
  obtain ⟨v0, vs0, d0, ds0, p0, q0, hargs, rfl, rfl, h0, r0⟩ := trodAll_cons hA
  obtain ⟨v1, vs1, d1, ds1, p1, q1, rfl, rfl, rfl, h1, r1⟩ := trodAll_cons r0
  obtain ⟨rfl, rfl, rfl⟩ := trodAll_nil r1
  obtain rfl : args = #[v0, v1] := by cases args; simp_all
  obtain ⟨rfl, rfl⟩ := trodVars_none hV
  obtain ⟨a0, len0, cap0, rfl⟩ := okWide_slice Try.underlying22 (hval 0 22 v0 rfl rfl)
  have k0 := h0
  have lt0 : ∀ x ∈ p0, x.block < W.heap.size := by obtain ⟨m, hm⟩ := k0; exact DataW.trod_lt m _ _ _ hm
  obtain ⟨z0, w0⟩ : ∃ zs, IsRow .u64 W a0 len0 cap0 zs := isRow_of Try.underlying22 Try.underlying33 (by kernel_rfl) h0
  have k1 := h1
  have lt1 : ∀ x ∈ p1, x.block < W.heap.size := by obtain ⟨m, hm⟩ := k1; exact DataW.trod_lt m _ _ _ hm
  clear hA0 hval0
  refine (walk a0 len0 cap0 z0 v1 W w0 (hval 1 23 v1 rfl rfl) k1 ).mono fun e W' ⟨he, bel⟩ => ?_
  subst he
  exact ⟨_, rfl, _, _, _, [], _, [], hW', trodAll_mk1 (shut_bool Try.underlying4 _), (trodAll_cons_mk (Below.trod laidOut (by kernel_rfl) (of_decide_eq_true (by kernel_rfl)) k0 bel lt0) (trodAll_cons_mk (Below.trod laidOut (by kernel_rfl) (of_decide_eq_true (by kernel_rfl)) k1 bel lt1) trodAll_mk0)), rfl, bel.frame _, fun h => by cases h⟩

theorem over : Rows.nvmPlaysRow.holds Try.pinned (OpenSpec.ofChange Rows.nvmPlaysSpec) :=
  OpenClaim.holds_of_wide 3 Try.f3 rfl rfl rfl rfl rfl rfl rfl ⟨rfl, rfl, rfl, rfl, rfl⟩ rfl rfl rfl rfl rfl (by kernel_rfl) Try.func3 (by kernel_rfl)
    (of_decide_eq_true (by kernel_rfl)) (by unfold Func.isWrapper; first | (rw [if_pos (by decide +kernel)]; kernel_rfl) | (rw [if_neg (by decide +kernel)]; exact ⟨rfl, rfl⟩))
    (fun os started H enc _ => lifted os started H enc)

/-- The statement. -/
theorem proved : Rows.NvmPlaysSaid := over
#print axioms proved
end Go.Proofs.Ytacokoodaonokaa.nvmPlays
