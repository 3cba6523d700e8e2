/-
  Each word of a block is of that block, and of no other; headers and slots are in the first one, and apart, for all geometries of 2 to 256 blocks.
  Conditions: none beyond the row (every argument that can be read as data).
-/
import Derived.Test.YtimcpjinndnhfaaPre
import Derived.Test.YtimcpjinndnhfaaAwake04
import Derived.Test.YtimcpjinndnhfaaGeoWords
import Derived.Test.YtimcpjinndnhfaaGeoFirst
import Derived.Test.YtimcpjinndnhfaaGeoSlotAt
namespace Go.Proofs.Ytimcpjinndnhfaa.geomParts
open Go.ChangeShapes Go.WideShapes Go.ChangeAt Go.RowKit
open Go.ChangeMaps (open_string shut_string)
set_option linter.unusedVariables false



set_option maxRecDepth 100000 in
set_option maxHeartbeats 1000000 in
theorem walk  (a0 : Int) (a1 : Int) (a2 : Int) (w : World) (w0 : (Lit.int .u8 a0).wf = true) (w1 : (Lit.int .u8 a1).wf = true) (w2 : (Lit.int .u16 a2).wf = true)  :
    Calls Try.prog 5 #[.int .u8 a0, .int .u8 a1, .int .u16 a2] w fun e w' => e = .returned (.bool true) ∧ Below w.heap.size w w' := by
  have b0 := bounds_u8 w0
  have b1 := bounds_u8 w1
  have b2 := bounds_u16 w2
  obtain ⟨n, hn⟩ : ∃ n : Int, 2 + a0 % 255 = n := ⟨_, rfl⟩
  obtain ⟨k, hk⟩ : ∃ k : Int, a1 % n = k := ⟨_, rfl⟩
  have hn2 : 2 ≤ n := by omega
  have hn6 : n ≤ 256 := by omega
  have hk0 : 0 ≤ k := by rw [← hk]; exact Int.emod_nonneg _ (by omega)
  have hk1 : k < n := by rw [← hk]; exact Int.emod_lt_of_pos _ (by omega)
  have HN := Lib.hid hn
  have HK := Lib.hid hk
  have HF : Hid (firstG n k = 512 * k) := Lib.hid (if_pos ⟨hk0, hk1⟩)
  have HB : Hid (blockOfG n (512 * k + a2 % 512) = k) := Lib.hid (by unfold blockOfG; rw [if_pos (by omega)]; omega)
  have HS0 : Hid (slotG 0 = 64) := Lib.hid rfl
  have HS1 : Hid (slotG 1 = 128) := Lib.hid (by decide)
  clear hn hk w0 w1 w2
  go_enter Try.func5, Try.ntmps5
  go_wp2_with fail
  refine (awake_yes _).mono ?_
  rintro e w1 ⟨rfl, b1⟩
  have B1 := Lib.hid b1
  clear b1
  go_wp2_with fail
  rw [HN.out, HK.out]
  refine (geoFirst_any n k _ (by omega)).mono ?_
  rintro e w2 ⟨rfl, b2⟩
  rw [HF.out]
  have B2 := Lib.hid (Box1.new B1.out B1.out.size b2)
  clear b2
  have g2 := B2.out.cell
  go_wp2_with fail
  refine (geoHeader_any n k _ (by omega)).mono ?_
  rintro e w3 ⟨rfl, b3⟩
  have B3 := Lib.hid (B2.out.on b3)
  clear b3 g2 B2
  have g3 := B3.out.cell
  go_wp2_with fail
  refine (geoBlockOf_any n _ _ (by omega)).mono ?_
  rintro e w4 ⟨rfl, b4⟩
  rw [HB.out]
  have B4 := Lib.hid (B3.out.on b4)
  clear b4 g3 B3
  have g4 := B4.out.cell
  go_wp2_with fail
  refine (geoWords_any n _ (by omega) (by omega)).mono ?_
  rintro e w5 ⟨rfl, b5⟩
  have B5 := Lib.hid (B4.out.on b5)
  clear b5 g4 B4
  have hlt : 512 * k + a2 % 512 < 512 * n := by omega
  by_cases hz : k = 0
  · subst hz
    have hh : headerG n 0 = -1 := if_neg (by omega)
    rw [hh]
    clear hh
    go_wp2_with fail
    go_ret
    exact ⟨rfl, B5.out.below⟩
  · have hh : headerG n k = 256 + k := if_pos (by omega)
    rw [hh]
    have hd : (k == 0) = false := by simpa using hz
    clear hh hz
    go_wp2_with (first
      | (refine (geoSlotAt_any 1 _).mono ?_; rintro e w' ⟨rfl, rfl⟩; rw [HS1.out])
      | (refine (geoSlotAt_any 0 _).mono ?_; rintro e w' ⟨rfl, rfl⟩; rw [HS0.out])
      | fail)
    go_ret
    exact ⟨rfl, B5.out.below⟩

set_option maxRecDepth 100000 in
theorem lifted (os : Os) (started : os.Started) (H : Type) (enc : TypeId × Value → H) :
    ReturnsInHanded {} Try.checked os 5 .any (Rows.geomPartsSpec.pre6 enc Try.prog Try.f5 Rows.geomPartsRow.domain false) (Rows.geomPartsSpec.post enc Try.prog Try.f5 false true false false) := by
  refine returnsInHanded_of_change (C := Try.checked) own started (by kernel_rfl) Try.func5
    (ChangeSpec.witness6 (enc := enc) (C := Try.checked) false ⟨#[], #[.int .u8 0, .int .u8 0, .int .u16 0], []⟩ 8 (by kernel_rfl) (by kernel_rfl) (by kernel_rfl) (by kernel_rfl)) ?_
  intro W base args ds gs before hval0 hW hcnd _
  have hval : ∀ (j : Nat) t v, Try.f5.params[j]? = some t → args[j]? = some v → Value.okWide Try.prog W .any base t v := hval0
  have hW' := hW
  obtain ⟨p, q, hA0, hV, rfl, hfz, hnd⟩ := hW
  have hA : DataW.TrodAll enc Try.prog W 0 (fun _ => true) true Try.f5.params.toList args.toList ds p := hA0
  rw [Try.params5] at hA hval
  obtain ⟨v0, vs0, d0, ds0, p0, q0, hargs, rfl, rfl, h0, r0⟩ := trodAll_cons hA
  obtain ⟨v1, vs1, d1, ds1, p1, q1, rfl, rfl, rfl, h1, r1⟩ := trodAll_cons r0
  obtain ⟨v2, vs2, d2, ds2, p2, q2, rfl, rfl, rfl, h2, r2⟩ := trodAll_cons r1
  obtain ⟨rfl, rfl, rfl⟩ := trodAll_nil r2
  obtain rfl : args = #[v0, v1, v2] := by cases args; simp_all
  obtain ⟨rfl, rfl⟩ := trodVars_none hV
  obtain ⟨a0, rfl, rfl, rfl, w0⟩ := open_int Try.underlying5 (hval 0 5 v0 rfl rfl) h0
  obtain ⟨a1, rfl, rfl, rfl, w1⟩ := open_int Try.underlying5 (hval 1 5 v1 rfl rfl) h1
  obtain ⟨a2, rfl, rfl, rfl, w2⟩ := open_int Try.underlying22 (hval 2 22 v2 rfl rfl) h2
  clear hA0 hval0
  refine (walk a0 a1 a2 W w0 w1 w2 ).mono fun e W' ⟨he, bel⟩ => ?_
  subst he
  exact ⟨_, rfl, _, _, _, [], _, [], hW', trodAll_mk1 (shut_bool Try.underlying4 _), (trodAll_cons_mk (shut_int Try.underlying5 w0) (trodAll_cons_mk (shut_int Try.underlying5 w1) (trodAll_cons_mk (shut_int Try.underlying22 w2) trodAll_mk0))), rfl, bel.frame _, fun h => by cases h⟩

theorem over : Rows.geomPartsRow.holds Try.pinned (OpenSpec.ofChange Rows.geomPartsSpec) :=
  OpenClaim.holds_of_wide 5 Try.f5 rfl rfl rfl rfl rfl rfl rfl ⟨rfl, rfl, rfl, rfl, rfl⟩ rfl rfl rfl rfl rfl (by kernel_rfl) Try.func5 (by kernel_rfl)
    (of_decide_eq_true (by kernel_rfl)) (by unfold Func.isWrapper; first | (rw [if_pos (by decide +kernel)]; kernel_rfl) | (rw [if_neg (by decide +kernel)]; exact ⟨rfl, rfl⟩))
    (fun os started H enc _ => lifted os started H enc)

/-- The statement. -/
theorem proved : Rows.GeomPartsSaid := over
#print axioms proved
end Go.Proofs.Ytimcpjinndnhfaa.geomParts
