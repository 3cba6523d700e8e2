/-
  In which block any word is, where any block begins, and has its header, is what the page says, for all geometries up to 599 blocks and all numbers.
  Conditions: none beyond the row (every argument that can be read as data).
-/
import Derived.Test.YtimcpjinndnhfaaPre
import Derived.Test.YtimcpjinndnhfaaAwake04
import Derived.Test.YtimcpjinndnhfaaRefBlockOf
import Derived.Test.YtimcpjinndnhfaaRefGeo
import Derived.Test.YtimcpjinndnhfaaGeoRight
import Derived.Test.YtimcpjinndnhfaaGeoWords
import Derived.Test.YtimcpjinndnhfaaGeoData
import Derived.Test.YtimcpjinndnhfaaGeoFirst
import Derived.Test.YtimcpjinndnhfaaGeoMost
import Derived.Deep.RegionHeld3
import Derived.Deep.DeepCutAuto
namespace Go.Proofs.Ytimcpjinndnhfaa.geomBlocks
open Go.ChangeShapes Go.WideShapes Go.ChangeAt Go.RowKit
open Go.ChangeMaps (open_string shut_string)
set_option linter.unusedVariables false



set_option maxRecDepth 100000 in
set_option maxHeartbeats 1000000 in
theorem walk  (a0 : Int) (a1 : Int) (a2 : Int) (w : World) (w0 : (Lit.int .u16 a0).wf = true) (w1 : (Lit.int .i64 a1).wf = true) (w2 : (Lit.int .i64 a2).wf = true)  :
    Calls Try.prog 3 #[.int .u16 a0, .int .i64 a1, .int .i64 a2] w fun e w' => e = .returned (.bool true) ∧ Below w.heap.size w w' := by
  have b0 := bounds_u16 w0
  have b1 := bounds_i64 w1
  have b2 := bounds_i64 w2
  obtain ⟨n, hn⟩ : ∃ n : Nat, a0 % 600 = n := ⟨(a0 % 600).toNat, by omega⟩
  have hn6 : (n : Int) < 600 := by omega
  have hn0 : (0 : Int) ≤ n := by omega
  have HN := Lib.hid hn
  clear hn w0 w1 w2
  have HF1 : Hid (0 ≤ a2 → a2 < n → firstG n a2 = 512 * a2) := Lib.hid fun h h' => if_pos ⟨h, h'⟩
  have HF2 : Hid ((n : Int) ≤ a2 → firstG n a2 = -1) := Lib.hid fun h => if_neg (by omega)
  have HF3 : Hid (a2 < 0 → firstG n a2 = -1) := Lib.hid fun h => if_neg (by omega)
  have HM1 : Hid ((n : Int) - 1 < 0 → mostG n = 0) := Lib.hid fun h => if_pos (by omega)
  have HM2 : Hid (0 ≤ (n : Int) - 1 → mostG n = 512 * ((n : Int) - 1)) := Lib.hid fun h => by unfold mostG; split <;> omega
  have HR : (∃ b : Bool, Hid (rightG n = b) ∧ decide (2 ≤ (n : Int)) = b ∧ decide ((n : Int) ≤ 256) = true) ∨ (Hid (rightG n = false) ∧ decide (2 ≤ (n : Int)) = true ∧ decide ((n : Int) ≤ 256) = false) := by
    unfold rightG
    by_cases h1 : 2 ≤ (n : Int) <;> by_cases h2 : (n : Int) ≤ 256
    · exact .inl ⟨true, by show _ = _; simp [h1, h2], by simp [h1], by simp [h2]⟩
    · exact .inr ⟨by show _ = _; simp [h1, h2], by simp [h1], by simp [h2]⟩
    · exact .inl ⟨false, by show _ = _; simp [h1, h2], by simp [h1], by simp [h2]⟩
    · omega
  have walkG : ∀ r1 r2 r : Bool, Hid (rightG n = r) → decide (2 ≤ (n : Int)) = r1 → decide ((n : Int) ≤ 256) = r2 → r = (r1 && r2) → Calls Try.prog 3 #[.int .u16 a0, .int .i64 a1, .int .i64 a2] w fun e w' => e = .returned (.bool true) ∧ Below w.heap.size w w' := by
    intro r1 r2 r HR hr1 hr2 hr
    cases r1 <;> cases r2 <;> simp only [Bool.and_true, Bool.and_false] at hr <;> subst hr
    all_goals
      go_enter Try.func3, Try.ntmps3
      go_wp2_with fail
      refine (awake_yes _).mono ?_
      rintro e w1 ⟨rfl, b1⟩
      have B1 := Lib.hid b1
      clear b1
      go_wp2_with fail
      rw [HN.out]
      refine (refBlockOf_any n _ _ (by omega)).mono ?_
      rintro e w' ⟨rfl, rfl⟩
      go_wp2_with fail
    all_goals
      refine (geoRight_any _ _).mono ?_
      rintro e w2 ⟨rfl, b2⟩
      rw [HR.out]
      have B2 := Lib.hid (Box1.new B1.out B1.out.size b2)
      clear b2
      have g2 := B2.out.cell
      go_wp2_with fail
      refine (geoWords_any n _ (by omega) (by omega)).mono ?_
      rintro e w3 ⟨rfl, b3⟩
      have B3 := Lib.hid (B2.out.on b3)
      clear b3 g2 B2
      have g3 := B3.out.cell
      go_wp2_with fail
      refine (geoBlockOf_any n a1 _ (by omega)).mono ?_
      rintro e w4 ⟨rfl, b4⟩
      have B4 := Lib.hid (B3.out.on b4)
      clear b4 g3 B3
      have g4 := B4.out.cell
      go_wp2_with fail
      refine (geoData_any n a1 _ (by omega)).mono ?_
      rintro e w5 ⟨rfl, b5⟩
      have B5 := Lib.hid (B4.out.on b5)
      clear b5 g4 B4
      have g5 := B5.out.cell
      go_wp2_with fail
      refine (geoFirst_any n a2 _ (by omega)).mono ?_
      rintro e w6 ⟨rfl, b6⟩
      first | rw [HF1.out (by assumption) (by assumption)] | rw [HF2.out (by assumption)] | rw [HF3.out (by assumption)]
      have B6 := Lib.hid (B5.out.on b6)
      clear b6 g5 B5
      have g6 := B6.out.cell
      go_wp2_with fail
      refine (geoHeader_any n a2 _ (by omega)).mono ?_
      rintro e w7 ⟨rfl, b7⟩
      have B7 := Lib.hid (B6.out.on b7)
      clear b7 g6 B6
      have g7 := B7.out.cell
      go_wp2_with fail
      refine (refHeader_any n a2 _ (by omega)).mono ?_
      rintro e w' ⟨rfl, rfl⟩
      go_wp2_with fail
      refine (geoMost_any n _ (by omega) (by omega)).mono ?_
      rintro e w8 ⟨rfl, b8⟩
      have B8 := Lib.hid (B7.out.on b8)
      clear b8 g7 B7
    all_goals
      by_cases hm : (n : Int) - 1 < 0
      · rw [HM1.out hm]
        go_wp2_with fail
        go_ret
        exact ⟨rfl, B8.out.below⟩
      · have hm' : 0 ≤ (n : Int) - 1 := by omega
        rw [HM2.out hm']
        go_wp2_with fail
        go_ret
        exact ⟨rfl, B8.out.below⟩
  rcases HR with ⟨b, h1, h2, h3⟩ | ⟨h1, h2, h3⟩
  · exact walkG b true b h1 h2 h3 (by simp)
  · exact walkG true false false h1 h2 h3 rfl

set_option maxRecDepth 100000 in
theorem lifted (os : Os) (started : os.Started) (H : Type) (enc : TypeId × Value → H) :
    ReturnsInHanded {} Try.checked os 3 .any (Rows.geomBlocksSpec.pre6 enc Try.prog Try.f3 Rows.geomBlocksRow.domain false) (Rows.geomBlocksSpec.post enc Try.prog Try.f3 false true false false) := by
  refine returnsInHanded_of_change (C := Try.checked) own started (by kernel_rfl) Try.func3
    (ChangeSpec.witness6 (enc := enc) (C := Try.checked) false ⟨#[], #[.int .u16 0, .int .i64 0, .int .i64 0], []⟩ 8 (by kernel_rfl) (by kernel_rfl) (by kernel_rfl) (by kernel_rfl)) ?_
  intro W base args ds gs before hval0 hW hcnd _
  have hval : ∀ (j : Nat) t v, Try.f3.params[j]? = some t → args[j]? = some v → Value.okWide Try.prog W .any base t v := hval0
  have hW' := hW
  obtain ⟨p, q, hA0, hV, rfl, hfz, hnd⟩ := hW
  have hA : DataW.TrodAll enc Try.prog W 0 (fun _ => true) true Try.f3.params.toList args.toList ds p := hA0
  rw [Try.params3] at hA hval
  obtain ⟨v0, vs0, d0, ds0, p0, q0, hargs, rfl, rfl, h0, r0⟩ := trodAll_cons hA
  obtain ⟨v1, vs1, d1, ds1, p1, q1, rfl, rfl, rfl, h1, r1⟩ := trodAll_cons r0
  obtain ⟨v2, vs2, d2, ds2, p2, q2, rfl, rfl, rfl, h2, r2⟩ := trodAll_cons r1
  obtain ⟨rfl, rfl, rfl⟩ := trodAll_nil r2
  obtain rfl : args = #[v0, v1, v2] := by cases args; simp_all
  obtain ⟨rfl, rfl⟩ := trodVars_none hV
  obtain ⟨a0, rfl, rfl, rfl, w0⟩ := open_int Try.underlying22 (hval 0 22 v0 rfl rfl) h0
  obtain ⟨a1, rfl, rfl, rfl, w1⟩ := open_int Try.underlying3 (hval 1 3 v1 rfl rfl) h1
  obtain ⟨a2, rfl, rfl, rfl, w2⟩ := open_int Try.underlying3 (hval 2 3 v2 rfl rfl) h2
  clear hA0 hval0
  refine (walk a0 a1 a2 W w0 w1 w2 ).mono fun e W' ⟨he, bel⟩ => ?_
  subst he
  exact ⟨_, rfl, _, _, _, [], _, [], hW', trodAll_mk1 (shut_bool Try.underlying4 _), (trodAll_cons_mk (shut_int Try.underlying22 w0) (trodAll_cons_mk (shut_int Try.underlying3 w1) (trodAll_cons_mk (shut_int Try.underlying3 w2) trodAll_mk0))), rfl, bel.frame _, fun h => by cases h⟩

theorem over : Rows.geomBlocksRow.holds Try.pinned (OpenSpec.ofChange Rows.geomBlocksSpec) :=
  OpenClaim.holds_of_wide 3 Try.f3 rfl rfl rfl rfl rfl rfl rfl ⟨rfl, rfl, rfl, rfl, rfl⟩ rfl rfl rfl rfl rfl (by kernel_rfl) Try.func3 (by kernel_rfl)
    (of_decide_eq_true (by kernel_rfl)) (by unfold Func.isWrapper; first | (rw [if_pos (by decide +kernel)]; kernel_rfl) | (rw [if_neg (by decide +kernel)]; exact ⟨rfl, rfl⟩))
    (fun os started H enc _ => lifted os started H enc)

/-- The statement. -/
theorem proved : Rows.GeomBlocksSaid := over
#print axioms proved
end Go.Proofs.Ytimcpjinndnhfaa.geomBlocks
