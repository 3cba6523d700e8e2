/-
  A field that was put is got, and fields beside it stay; what was there, put again, leaves the word as it was.
  Conditions: none beyond the row (every argument that can be read as data).
-/
import Derived.Test.YtggbhjhnhgkiiaaPre
import Derived.Test.YtggbhjhnhgkiiaaRef2
namespace Go.Proofs.Ytggbhjhnhgkiiaa.bitsBack
open Go.ChangeShapes Go.WideShapes Go.ChangeAt Go.RowKit
open Go.ChangeMaps (open_string shut_string)
set_option linter.unusedVariables false

open Bt

theorem wid_nat (k : Nat) (h : k ≤ 64) : wid (k : Int) = k := by unfold wid; omega
theorem back1 (X N a k e : Nat) (ha : a < 64) (hk : k ≤ 64) (he : e = min (a + k) 64) : getN (putN X a k N) a k = getN N 0 ((e : Int) - a) := by
  apply Nat.eq_of_testBit_eq; intro i
  rw [bit_getN _ _ _ (by omega), bit_getN _ _ _ (by omega), bit_putN _ _ _ _ (by omega), wid_nat k hk, show wid ((e : Int) - a) = e - a from by unfold wid; omega]
  by_cases h1 : i < k
  · by_cases h2 : i + a < 64
    · rw [if_pos (by omega)]
      simp [h1, h2, show i < e - a from by omega]
    · simp [h1, h2, show ¬ i < e - a from by omega]
  · simp [h1, show ¬ i < e - a from by omega]
theorem back2 (X N a k : Nat) (hX : X < 2 ^ 64) (ha : a < 64) (hk : k ≤ 64) : getN (putN X a k N) 0 a = getN X 0 a := by
  apply Nat.eq_of_testBit_eq; intro i
  rw [bit_getN _ _ _ (by omega), bit_getN _ _ _ (by omega), bit_putN _ _ _ _ (by omega), wid_nat a (by omega)]
  by_cases h1 : i < a
  · rw [if_neg (by omega)]
    simp [h1, show i < 64 from by omega]
  · simp [h1]
theorem back3 (X N a k e : Nat) (hX : X < 2 ^ 64) (ha : a < 64) (hk : k ≤ 64) (he : e = min (a + k) 64) : getN (putN X a k N) e 64 = getN X e 64 := by
  by_cases h : e < 64
  · apply Nat.eq_of_testBit_eq; intro i
    rw [bit_getN _ _ _ (by omega), bit_getN _ _ _ (by omega), bit_putN _ _ _ _ (by omega), wid_nat k hk, if_neg (by omega)]
    by_cases h2 : i + (e : Int).toNat < 64
    · simp [show i + e < 64 from by omega]
    · rw [bit_hi hX (by omega)]; simp
  · unfold getN; rw [if_neg (by omega), if_neg (by omega)]
theorem back4 (X N a k : Nat) (hX : X < 2 ^ 64) (ha : a < 64) (hk : k ≤ 64) : putN (putN X a k N) a k (getN X a k) = X := by
  apply Nat.eq_of_testBit_eq; intro i
  rw [bit_putN _ _ _ _ (by omega), bit_putN _ _ _ _ (by omega), wid_nat k hk]
  by_cases h1 : i < 64
  · by_cases h2 : (a : Int).toNat ≤ i ∧ i - (a : Int).toNat < k
    · rw [if_pos h2, bit_getN _ _ _ (by omega), wid_nat k hk, show i - (a : Int).toNat + (a : Int).toNat = i from by omega]
      simp [h1]
      intro; omega
    · rw [if_neg h2, if_neg h2]; simp [h1]
  · rw [bit_hi hX (by omega)]; simp [h1]

set_option maxHeartbeats 1000000 in
theorem walk  (a0 : Int) (a1 : Int) (a2_0 a2_1 : Int) (w : World) (w0 : (Lit.int .u64 a0).wf = true) (w1 : (Lit.int .u64 a1).wf = true) (w2_0 : (Lit.int .u8 a2_0).wf = true) (w2_1 : (Lit.int .u8 a2_1).wf = true) :
    Calls Try.prog 7 #[.int .u64 a0, .int .u64 a1, .agg #[.int .u8 a2_0, .int .u8 a2_1]] w fun e w' => e = .returned (.bool true) ∧ Below w.heap.size w w' := by
  have b0 := bounds_u64 w0
  have b1 := bounds_u64 w1
  have b2 := bounds_u8 w2_0
  have b3 := bounds_u8 w2_1
  obtain ⟨X, rfl⟩ := Int.eq_ofNat_of_zero_le b0.1
  obtain ⟨N, rfl⟩ := Int.eq_ofNat_of_zero_le b1.1
  have hX : X < 2 ^ 64 := by omega
  have hN : N < 2 ^ 64 := by omega
  obtain ⟨a, ha⟩ : ∃ a : Nat, a2_0 % 64 = (a : Int) := ⟨(a2_0 % 64).toNat, by omega⟩
  obtain ⟨k, hk⟩ : ∃ k : Nat, a2_1 % 65 = (k : Int) := ⟨(a2_1 % 65).toNat, by omega⟩
  have ha' : a < 64 := by omega
  have hk' : k ≤ 64 := by omega
  clear w0 w1 w2_0 w2_1
  go_enter Try.func7, Try.ntmps7
  go_wp2_with fail
  refine (awake_yes _).mono ?_
  rintro e w' ⟨rfl, n0, rfl⟩
  go_wp2_with fail
  go_quiet (fail)
  go_wp2_with fail
  refine (put_any X N _ _ _ hX (by omega) (by omega)).mono ?_
  rintro e w' ⟨rfl, rfl⟩
  have hP := putN_lt X a k N hX
  obtain ⟨e, he⟩ : ∃ e : Nat, min ((a : Int) + k) 64 = (e : Int) := ⟨min (a + k) 64, by omega⟩
  have he' : e = min (a + k) 64 := by omega
  have HE := Lib.hid he'
  have he1 : a ≤ e := by omega
  have he2 : e ≤ 64 := by omega
  clear he'
  go_wp2_with fail
  refine (get_any _ _ _ _ hP (by omega) (by omega)).mono ?_
  rintro e w' ⟨rfl, n1, rfl⟩
  rw [back1 X N a k e ha' hk' HE.out]
  go_wp2_with fail
  refine (get_any N 0 _ _ hN (by omega) (by omega)).mono ?_
  rintro e w' ⟨rfl, n2, rfl⟩
  go_wp2_with fail
  refine (get_any _ 0 _ _ hP (by omega) (by omega)).mono ?_
  rintro e w' ⟨rfl, n3, rfl⟩
  rw [back2 X N a k hX ha' hk']
  go_wp2_with fail
  refine (get_any X 0 _ _ hX (by omega) (by omega)).mono ?_
  rintro e w' ⟨rfl, n4, rfl⟩
  go_wp2_with fail
  refine (get_any _ _ 64 _ hP (by omega) (by omega)).mono ?_
  rintro e w' ⟨rfl, n5, rfl⟩
  rw [back3 X N a k e hX ha' hk' HE.out]
  go_wp2_with fail
  refine (get_any X _ 64 _ hX (by omega) (by omega)).mono ?_
  rintro e w' ⟨rfl, n6, rfl⟩
  go_wp2_with fail
  refine (get_any X _ _ _ hX (by omega) (by omega)).mono ?_
  rintro e w' ⟨rfl, n7, rfl⟩
  go_wp2_with fail
  refine (put_any _ (getN X a k) _ _ _ hP (by omega) (by omega)).mono ?_
  rintro e w' ⟨rfl, rfl⟩
  rw [back4 X N a k hX ha' hk']
  go_wp2_with fail
  go_ret
  exact ⟨rfl, below_drewN ((Below.refl _ _).alloc (Nat.le_refl _) _) _⟩

set_option maxRecDepth 100000 in
theorem lifted (os : Os) (started : os.Started) (H : Type) (enc : TypeId × Value → H) :
    ReturnsInHanded {} Try.checked os 7 .any (Rows.bitsBackSpec.pre6 enc Try.prog Try.f7 Rows.bitsBackRow.domain false) (Rows.bitsBackSpec.post enc Try.prog Try.f7 false true false false) := by
  refine returnsInHanded_of_change (C := Try.checked) own started (by kernel_rfl) Try.func7
    (ChangeSpec.witness6 (enc := enc) (C := Try.checked) false ⟨#[], #[.int .u64 0, .int .u64 0, .agg #[.int .u8 0, .int .u8 0]], []⟩ 8 (by kernel_rfl) (by kernel_rfl) (by kernel_rfl) (by kernel_rfl)) ?_
  intro W base args ds gs before hval0 hW hcnd _
  have hval : ∀ (j : Nat) t v, Try.f7.params[j]? = some t → args[j]? = some v → Value.okWide Try.prog W .any base t v := hval0
  have hW' := hW
  obtain ⟨p, q, hA0, hV, rfl, hfz, hnd⟩ := hW
  have hA : DataW.TrodAll enc Try.prog W 0 (fun _ => true) true Try.f7.params.toList args.toList ds p := hA0
  rw [Try.params7] at hA hval
  obtain ⟨v0, vs0, d0, ds0, p0, q0, hargs, rfl, rfl, h0, r0⟩ := trodAll_cons hA
  obtain ⟨v1, vs1, d1, ds1, p1, q1, rfl, rfl, rfl, h1, r1⟩ := trodAll_cons r0
  obtain ⟨v2, vs2, d2, ds2, p2, q2, rfl, rfl, rfl, h2, r2⟩ := trodAll_cons r1
  obtain ⟨rfl, rfl, rfl⟩ := trodAll_nil r2
  obtain rfl : args = #[v0, v1, v2] := by cases args; simp_all
  obtain ⟨rfl, rfl⟩ := trodVars_none hV
  obtain ⟨a0, rfl, rfl, rfl, w0⟩ := open_int Try.underlying22 (hval 0 22 v0 rfl rfl) h0
  obtain ⟨a1, rfl, rfl, rfl, w1⟩ := open_int Try.underlying22 (hval 1 22 v1 rfl rfl) h1
  have k2 := h2
  have lt2 : ∀ x ∈ p2, x.block < W.heap.size := by obtain ⟨m, hm⟩ := k2; exact DataW.trod_lt m _ _ _ hm
  obtain ⟨z2, rfl, hz2, wz2⟩ := arr_of Try.underlying43 Try.underlying5 (by kernel_rfl) (by kernel_rfl) (hval 2 43 v2 rfl rfl) h2
  obtain ⟨a2_0, a2_1, rfl⟩ := list2 hz2
  have w2_0 : (Lit.int .u8 a2_0).wf = true := wz2 _ (by simp)
  have w2_1 : (Lit.int .u8 a2_1).wf = true := wz2 _ (by simp)
  clear wz2 hz2
  simp only [List.map_cons, List.map_nil] at k2 ⊢
  clear hA0 hval0
  refine (walk a0 a1 a2_0 a2_1 W w0 w1 w2_0 w2_1).mono fun e W' ⟨he, bel⟩ => ?_
  subst he
  exact ⟨_, rfl, _, _, _, [], _, [], hW', trodAll_mk1 (shut_bool Try.underlying4 _), (trodAll_cons_mk (shut_int Try.underlying22 w0) (trodAll_cons_mk (shut_int Try.underlying22 w1) (trodAll_cons_mk (Below.trod laidOut (by kernel_rfl) (of_decide_eq_true (by kernel_rfl)) k2 bel lt2) trodAll_mk0))), rfl, bel.frame _, fun h => by cases h⟩

theorem over : Rows.bitsBackRow.holds Try.pinned (OpenSpec.ofChange Rows.bitsBackSpec) :=
  OpenClaim.holds_of_wide 7 Try.f7 rfl rfl rfl rfl rfl rfl rfl ⟨rfl, rfl, rfl, rfl, rfl⟩ rfl rfl rfl rfl rfl (by kernel_rfl) Try.func7 (by kernel_rfl)
    (of_decide_eq_true (by kernel_rfl)) (by unfold Func.isWrapper; first | (rw [if_pos (by decide +kernel)]; kernel_rfl) | (rw [if_neg (by decide +kernel)]; exact ⟨rfl, rfl⟩))
    (fun os started H enc _ => lifted os started H enc)

/-- The statement. -/
theorem proved : Rows.BitsBackSaid := over
#print axioms proved
end Go.Proofs.Ytggbhjhnhgkiiaa.bitsBack
