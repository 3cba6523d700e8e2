/-
  Whatever blocks are given and taken, which are free, by runs, is what the page says.
  Conditions: none beyond the row (every argument that can be read as data).
-/
import Derived.Test.YtkejpdkokaiidaaPre
import Derived.Test.YtkejpdkokaiidaaAwake11
import Derived.Test.YtkejpdkokaiidaaRowsIn
namespace Go.Proofs.Ytkejpdkokaiidaa.runsPlays
open Go.ChangeShapes Go.WideShapes Go.ChangeAt Go.RowKit
open Go.ChangeMaps (open_string shut_string)
set_option linter.unusedVariables false

-- ROWS
open Bk Rn


set_option maxRecDepth 100000 in
set_option maxHeartbeats 1000000 in
theorem walk  (a0 : Int) (a1 : Option Addr) (len1 cap1 : Nat) (z1 : List (List Int)) (a2 : Int) (w : World) (w0 : (Lit.int .i8 a0).wf = true) (w1 : RowsIn [.i64, .i64, .i64] w a1 len1 cap1 z1) (w2 : (Lit.int .i64 a2).wf = true)  :
    Calls Try.prog 3 #[.int .i8 a0, .slice a1 len1 cap1, .int .i64 a2] w fun e w' => e = .returned (.bool true) ∧ Below w.heap.size w w' := by
  have b0 := bounds_i8 w0
  have b2 := bounds_i64 w2
  obtain ⟨hs, hl, hv, hb⟩ := w1.hs
  have HV := Lib.hid hv
  have HB := Lib.hid hb
  have HL := Lib.hid hl
  clear w0 w1 w2 hv hb hl
  have K0 : Hid (∀ W, Below w.heap.size w W → Calls Try.prog 7 #[.int .i64 a0, .slice a1 len1 cap1] W (PlayedIs a0 W)) := Lib.hid fun W h =>
    played_any a0 W (by omega) (by omega) _ hs (HV.out.below h (Nat.le_refl _)) (by rw [HL.out]; exact HB.out)
  go_enter Try.func3, Try.ntmps3
  go_wp2_with fail
  refine (awake11_yes _).mono ?_
  rintro e w1 ⟨rfl, hb1⟩
  have B1 := Lib.hid hb1
  clear hb1
  go_wp2_with fail
  refine (K0.out _ B1.out).mono ?_
  rintro e w2 ⟨x, own, f, u, rfl, hp⟩
  have P2 := Lib.hid hp
  have B2 : Hid (Below w.heap.size w w2) := Lib.hid (B1.out.trans (hp.b.mono B1.out.size))
  obtain ⟨ua, uc, rfl, hr⟩ := id hp.s
  have HR := Lib.hid hr
  clear hp hr K0 B1
  go_wp2_with fail
  refine (idxHas_any P2.out.ix (by omega) a2 b2.1 b2.2).mono ?_
  rintro e w3 ⟨rfl, hb3⟩
  have B3 : Hid (Below w.heap.size w w3) := Lib.hid (B2.out.trans (hb3.mono B2.out.size))
  have HF : Hid (∀ b : Bool, hasF f a0.toNat a2 = b → hasF f a0.toNat a2 = b) := Lib.hid fun b h => h
  by_cases c0 : 0 ≤ a2
  rotate_left
  · have hh : hasF f a0.toNat a2 = false := by unfold hasF; simp [c0]
    rw [hh]
    clear hb3 HR P2 HF hh
    go_wp2_with fail
    go_ret
    exact ⟨rfl, B3.out⟩
  by_cases c1 : a2 < (a0.toNat : Int)
  rotate_left
  · have hh : hasF f a0.toNat a2 = false := by unfold hasF; rw [decide_eq_false c1]; simp
    rw [hh]
    clear hb3 HR P2 HF hh
    go_wp2_with fail
    go_ret
    exact ⟨rfl, B3.out⟩
  obtain ⟨q, rfl⟩ := Int.eq_ofNat_of_zero_le c0
  obtain ⟨N, hN⟩ : ∃ N, a0.toNat = N := ⟨_, rfl⟩
  rw [hN] at HR c1 ⊢
  have hq : q < N := by omega
  obtain ⟨b, rfl, -, hrow⟩ := HR.out.at_ (by omega)
  have d0 : w3.cell? ⟨b, q, none⟩ = some (.bool (f q)) := (hb3.cell (p := ⟨b, q, none⟩) hrow.lt).trans (hrow.cell (by omega))
  have hh : hasF f N q = f q := by unfold hasF; simp [hq]
  rw [hh]
  generalize f q = fq at *
  clear hb3 HR P2 HF hh hrow hN
  go_wp2_with fail
  go_ret
  exact ⟨by simp, B3.out⟩

set_option maxRecDepth 100000 in
theorem lifted (os : Os) (started : os.Started) (H : Type) (enc : TypeId × Value → H) :
    ReturnsInHanded {} Try.checked os 3 .any (Rows.runsPlaysSpec.pre6 enc Try.prog Try.f3 Rows.runsPlaysRow.domain false) (Rows.runsPlaysSpec.post enc Try.prog Try.f3 false true false false) := by
  refine returnsInHanded_of_change (C := Try.checked) own started (by kernel_rfl) Try.func3
    (ChangeSpec.witness6 (enc := enc) (C := Try.checked) false ⟨#[], #[.int .i8 0, .slice none 0 0, .int .i64 0], []⟩ 8 (by kernel_rfl) (by kernel_rfl) (by kernel_rfl) (by kernel_rfl)) ?_
  intro W base args ds gs before hval0 hW hcnd _
  have hval : ∀ (j : Nat) t v, Try.f3.params[j]? = some t → args[j]? = some v → Value.okWide Try.prog W .any base t v := hval0
  have hW' := hW
  obtain ⟨p, q, hA0, hV, rfl, hfz, hnd⟩ := hW
  have hA : DataW.TrodAll enc Try.prog W 0 (fun _ => true) true Try.f3.params.toList args.toList ds p := hA0
  rw [Try.params3] at hA hval
  obtain ⟨v0, vs0, d0, ds0, p0, q0, hargs, rfl, rfl, h0, r0⟩ := trodAll_cons hA
  obtain ⟨v1, vs1, d1, ds1, p1, q1, rfl, rfl, rfl, h1, r1⟩ := trodAll_cons r0
  obtain ⟨v2, vs2, d2, ds2, p2, q2, rfl, rfl, rfl, h2, r2⟩ := trodAll_cons r1
  obtain ⟨rfl, rfl, rfl⟩ := trodAll_nil r2
  obtain rfl : args = #[v0, v1, v2] := by cases args; simp_all
  obtain ⟨rfl, rfl⟩ := trodVars_none hV
  obtain ⟨a0, rfl, rfl, rfl, w0⟩ := open_int Try.underlying22 (hval 0 22 v0 rfl rfl) h0
  obtain ⟨a1, len1, cap1, rfl⟩ := okWide_slice Try.underlying23 (hval 1 23 v1 rfl rfl)
  have k1 := h1
  have lt1 : ∀ x ∈ p1, x.block < W.heap.size := by obtain ⟨m, hm⟩ := k1; exact DataW.trod_lt m _ _ _ hm
  obtain ⟨a1_, len1_, cap1_, z1, e1_, w1⟩ := rows_of Try.underlying23 Try.underlying49 (by kernel_rfl) [.i64, .i64, .i64] (by decide) (by kernel_rfl) (by kernel_rfl) (by kernel_rfl) h1
  obtain ⟨rfl, rfl, rfl⟩ : a1 = a1_ ∧ len1 = len1_ ∧ cap1 = cap1_ := by simp [Value.cells] at e1_; exact ⟨e1_.1, e1_.2.1, e1_.2.2⟩
  obtain ⟨a2, rfl, rfl, rfl, w2⟩ := open_int Try.underlying3 (hval 2 3 v2 rfl rfl) h2
  clear hA0 hval0
  refine (walk a0 a1 len1 cap1 z1 a2 W w0 w1 w2 ).mono fun e W' ⟨he, bel⟩ => ?_
  subst he
  exact ⟨_, rfl, _, _, _, [], _, [], hW', trodAll_mk1 (shut_bool Try.underlying4 _), (trodAll_cons_mk (shut_int Try.underlying22 w0) (trodAll_cons_mk (Below.trod laidOut (by kernel_rfl) (of_decide_eq_true (by kernel_rfl)) k1 bel lt1) (trodAll_cons_mk (shut_int Try.underlying3 w2) trodAll_mk0))), rfl, bel.frame _, fun h => by cases h⟩

theorem over : Rows.runsPlaysRow.holds Try.pinned (OpenSpec.ofChange Rows.runsPlaysSpec) :=
  OpenClaim.holds_of_wide 3 Try.f3 rfl rfl rfl rfl rfl rfl rfl ⟨rfl, rfl, rfl, rfl, rfl⟩ rfl rfl rfl rfl rfl (by kernel_rfl) Try.func3 (by kernel_rfl)
    (of_decide_eq_true (by kernel_rfl)) (by unfold Func.isWrapper; first | (rw [if_pos (by decide +kernel)]; kernel_rfl) | (rw [if_neg (by decide +kernel)]; exact ⟨rfl, rfl⟩))
    (fun os started H enc _ => lifted os started H enc)

/-- The statement. -/
theorem proved : Rows.RunsPlaysSaid := over
#print axioms proved
end Go.Proofs.Ytkejpdkokaiidaa.runsPlays
