/-
  Of any number of words a device has whole lines, of noughts, and a word is stored just where there is one, for all numbers and places.
  Conditions: none beyond the row (every argument that can be read as data).
-/
import Derived.Test.YtacokoodaonokaaPre
import Derived.Test.YtacokoodaonokaaAwake03
import Derived.Test.YtacokoodaonokaaRefUp
namespace Go.Proofs.Ytacokoodaonokaa.nvmSizes
open Go.ChangeShapes Go.WideShapes Go.ChangeAt Go.RowKit
open Go.ChangeMaps (open_string shut_string)
set_option linter.unusedVariables false

theorem dirtyTo_fresh (L : Nat) (g : Nat → Int) (k : Nat) : dirtyTo (Nv.fresh L g) k = [] := by
  unfold dirtyTo Nv.fresh; simp
theorem ints_empty {k : IntKind} {w : World} {v : Value} (h : IsInts k w v []) : ∃ a cap, v = .slice a 0 cap := by
  obtain ⟨a, cap, rfl, _⟩ := h; exact ⟨a, cap, rfl⟩
theorem get_zero (L : Nat) (a : Int) : Nv.getNow (Nv.fresh L fun _ => 0) a = 0 ∧ Nv.getLast (Nv.fresh L fun _ => 0) a = 0 := by
  unfold Nv.getNow Nv.getLast; constructor <;> split <;> rfl

set_option maxHeartbeats 1000000 in
theorem walk  (a0 : Int) (a1 : Int) (w : World) (w0 : (Lit.int .i16 a0).wf = true) (w1 : (Lit.int .i64 a1).wf = true)  :
    Calls Try.prog 5 #[.int .i16 a0, .int .i64 a1] w fun e w' => e = .returned (.bool true) ∧ Below w.heap.size w w' := by
  have b0 := bounds_i16 w0
  have b1 := bounds_i64 w1
  have hnew := fun w => new_any a0 w (by omega) (by omega)
  have hup := fun w => refUp_any a0 8 w (by omega) (by omega)
  have hu : 0 ≤ upS a0 8 ∧ upS a0 8 ≤ 10000 := by unfold upS; split <;> omega
  obtain ⟨L, hL⟩ : ∃ L : Nat, upS a0 8 = L := ⟨(upS a0 8).toNat, by omega⟩
  rw [hL] at hup hu
  simp only [hL, Int.toNat_natCast] at hnew
  have hLs : L ≤ 10000 := by omega
  have HN := Lib.hid hnew
  have HU := Lib.hid hup
  have HL := Lib.hid hL
  clear hnew hup hL hu
  go_enter Try.func5, Try.ntmps5
  go_wp2_with fail
  refine (awake_yes _).mono ?_
  rintro e w1 ⟨rfl, hb1⟩
  have B1 := Lib.hid hb1
  clear hb1
  go_wp2_with fail
  refine (HN.out _).mono ?_
  rintro e w2 ⟨p, f, rfl, d2, k2, o2⟩
  have D2 := Lib.hid d2
  have B2 : Hid (Below w.heap.size w w2) := Lib.hid (B1.out.trans (k2.below B1.out.size (fun _ h => h.elim)))
  have O2 : Hid (∀ b, f.own p b → w.heap.size ≤ b) := Lib.hid fun b hb => Nat.le_trans B1.out.size (o2 b hb)
  have hg := get_any d2 a1
  have hl := lasting_any d2 a1
  rw [(get_zero L a1).1] at hg
  rw [(get_zero L a1).2] at hl
  have hdi := dirty_any d2
  rw [dirtyTo_fresh] at hdi
  have HG := Lib.hid hg
  have HLA := Lib.hid hl
  have HDI := Lib.hid hdi
  clear d2 k2 o2 hg hl hdi B1
  go_wp2_with fail
  refine (HU.out _).mono ?_
  rintro e w' ⟨rfl, rfl⟩
  go_wp2_with (first
    | (go_at_call 10; refine (lines_any D2.out).mono ?_; rintro e w' ⟨rfl, rfl⟩)
    | (go_at_call 12; refine (len_any D2.out).mono ?_; rintro e w' ⟨rfl, rfl⟩)
    | (go_at_call 13; refine HG.out.mono ?_; rintro e w' ⟨rfl, rfl⟩)
    | (go_at_call 14; refine HLA.out.mono ?_; rintro e w' ⟨rfl, rfl⟩)
    | fail)
  refine HDI.out.mono ?_
  rintro e w3 ⟨v, rfl, hv, b3, -⟩
  obtain ⟨va, vcap, rfl⟩ := ints_empty hv
  have d3 : Dev w3 p f (Nv.fresh L fun _ => 0) := D2.out.keep (Keep.ofBelow (S := fun _ => False) b3) (fun _ _ _ h => h)
  have D3 := Lib.hid d3
  have B3 : Hid (Below w.heap.size w w3) := Lib.hid (B2.out.trans (b3.mono B2.out.size))
  have hst := store_any d3 a1 1 (by show (0 : Int) < _; decide)
  have hdd := dead_any d3
  have hss := steps_any d3
  have HDD : Hid (Calls Try.prog 19 #[.pointer (some ⟨p, 0, none⟩)] w3 fun e w' => e = .returned (.bool false) ∧ w3 = w') := hdd
  have HSS : Hid (Calls Try.prog 20 #[.pointer (some ⟨p, 0, none⟩)] w3 fun e w' => e = .returned (.int .i64 0) ∧ w3 = w') := hss
  clear hv b3 d3 hdd hss
  by_cases hw : Nv.hasW (Nv.fresh L fun _ => 0) a1 = true
  · have hc : (Nv.store (Nv.fresh L fun _ => 0) a1 1).2 = 0 := by unfold Nv.store; rw [if_neg (by rw [hw]; decide)]; rfl
    unfold CodeTo at hst
    rw [hc] at hst
    have hin : 0 ≤ a1 ∧ a1 < 8 * (L : Int) := of_decide_eq_true hw
    obtain ⟨h0, h1⟩ := hin
    have HST := Lib.hid hst
    clear hst hc hw
    go_wp2_with (first
      | (go_at_call 19; refine HDD.out.mono ?_; rintro e w' ⟨rfl, rfl⟩)
      | (go_at_call 20; refine HSS.out.mono ?_; rintro e w' ⟨rfl, rfl⟩)
      | fail)
    refine HST.out.mono ?_
    rintro e w4 ⟨rfl, f4, d4, k4, o4⟩
    have B4 : Hid (Below w.heap.size w w4) := Lib.hid (B3.out.trans (k4.below B3.out.size O2.out))
    clear d4 k4 o4
    go_wp2_with fail
    go_ret
    exact ⟨rfl, B4.out⟩
  · have hw' : Nv.hasW (Nv.fresh L fun _ => 0) a1 = false := by simpa using hw
    have hc : (Nv.store (Nv.fresh L fun _ => 0) a1 1).2 = 2 := by unfold Nv.store; rw [if_pos hw']
    unfold CodeTo at hst
    rw [hc] at hst
    have hin : ¬ (0 ≤ a1 ∧ a1 < 8 * (L : Int)) := of_decide_eq_false hw'
    have HST := Lib.hid hst
    clear hst hc hw hw'
    by_cases h0 : 0 ≤ a1
    · have h1 : ¬ a1 < 8 * (L : Int) := fun h => hin ⟨h0, h⟩
      have hd1 : decide (a1 < 8 * (L : Int)) = false := by simpa using h1
      clear hin
      go_wp2_with (first
        | (go_at_call 19; refine HDD.out.mono ?_; rintro e w' ⟨rfl, rfl⟩)
        | (go_at_call 20; refine HSS.out.mono ?_; rintro e w' ⟨rfl, rfl⟩)
        | fail)
      refine HST.out.mono ?_
      rintro e w4 ⟨rfl, f4, d4, k4, o4⟩
      have B4 : Hid (Below w.heap.size w w4) := Lib.hid (B3.out.trans (k4.below B3.out.size O2.out))
      clear d4 k4 o4
      go_wp2_with fail
      go_ret
      exact ⟨rfl, B4.out⟩
    · clear hin
      go_wp2_with (first
        | (go_at_call 19; refine HDD.out.mono ?_; rintro e w' ⟨rfl, rfl⟩)
        | (go_at_call 20; refine HSS.out.mono ?_; rintro e w' ⟨rfl, rfl⟩)
        | fail)
      refine HST.out.mono ?_
      rintro e w4 ⟨rfl, f4, d4, k4, o4⟩
      have B4 : Hid (Below w.heap.size w w4) := Lib.hid (B3.out.trans (k4.below B3.out.size O2.out))
      clear d4 k4 o4
      go_wp2_with fail
      go_ret
      exact ⟨rfl, B4.out⟩

set_option maxRecDepth 100000 in
theorem lifted (os : Os) (started : os.Started) (H : Type) (enc : TypeId × Value → H) :
    ReturnsInHanded {} Try.checked os 5 .any (Rows.nvmSizesSpec.pre6 enc Try.prog Try.f5 Rows.nvmSizesRow.domain false) (Rows.nvmSizesSpec.post enc Try.prog Try.f5 false true false false) := by
  refine returnsInHanded_of_change (C := Try.checked) own started (by kernel_rfl) Try.func5
    (ChangeSpec.witness6 (enc := enc) (C := Try.checked) false ⟨#[], #[.int .i16 0, .int .i64 0], []⟩ 8 (by kernel_rfl) (by kernel_rfl) (by kernel_rfl) (by kernel_rfl)) ?_
  intro W base args ds gs before hval0 hW hcnd _
  have hval : ∀ (j : Nat) t v, Try.f5.params[j]? = some t → args[j]? = some v → Value.okWide Try.prog W .any base t v := hval0
  have hW' := hW
  obtain ⟨p, q, hA0, hV, rfl, hfz, hnd⟩ := hW
  have hA : DataW.TrodAll enc Try.prog W 0 (fun _ => true) true Try.f5.params.toList args.toList ds p := hA0
  rw [Try.params5] at hA hval
  obtain ⟨v0, vs0, d0, ds0, p0, q0, hargs, rfl, rfl, h0, r0⟩ := trodAll_cons hA
  obtain ⟨v1, vs1, d1, ds1, p1, q1, rfl, rfl, rfl, h1, r1⟩ := trodAll_cons r0
  obtain ⟨rfl, rfl, rfl⟩ := trodAll_nil r1
  obtain rfl : args = #[v0, v1] := by cases args; simp_all
  obtain ⟨rfl, rfl⟩ := trodVars_none hV
  obtain ⟨a0, rfl, rfl, rfl, w0⟩ := open_int Try.underlying43 (hval 0 43 v0 rfl rfl) h0
  obtain ⟨a1, rfl, rfl, rfl, w1⟩ := open_int Try.underlying3 (hval 1 3 v1 rfl rfl) h1
  clear hA0 hval0
  refine (walk a0 a1 W w0 w1 ).mono fun e W' ⟨he, bel⟩ => ?_
  subst he
  exact ⟨_, rfl, _, _, _, [], _, [], hW', trodAll_mk1 (shut_bool Try.underlying4 _), (trodAll_cons_mk (shut_int Try.underlying43 w0) (trodAll_cons_mk (shut_int Try.underlying3 w1) trodAll_mk0)), rfl, bel.frame _, fun h => by cases h⟩

theorem over : Rows.nvmSizesRow.holds Try.pinned (OpenSpec.ofChange Rows.nvmSizesSpec) :=
  OpenClaim.holds_of_wide 5 Try.f5 rfl rfl rfl rfl rfl rfl rfl ⟨rfl, rfl, rfl, rfl, rfl⟩ rfl rfl rfl rfl rfl (by kernel_rfl) Try.func5 (by kernel_rfl)
    (of_decide_eq_true (by kernel_rfl)) (by unfold Func.isWrapper; first | (rw [if_pos (by decide +kernel)]; kernel_rfl) | (rw [if_neg (by decide +kernel)]; exact ⟨rfl, rfl⟩))
    (fun os started H enc _ => lifted os started H enc)

/-- The statement. -/
theorem proved : Rows.NvmSizesSaid := over
#print axioms proved
end Go.Proofs.Ytacokoodaonokaa.nvmSizes
