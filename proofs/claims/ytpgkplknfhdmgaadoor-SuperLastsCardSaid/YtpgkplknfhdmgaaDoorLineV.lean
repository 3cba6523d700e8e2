/- Lines of eight words, by value. -/
import Derived.Test.YtpgkplknfhdmgaaDoorBoxes
import Derived.Laws.StructEq
namespace Go.Proofs.YtpgkplknfhdmgaaDoor
open Go.ChangeShapes Go.WideShapes Go.ChangeAt Go.RowKit
set_option linter.unusedVariables false

theorem info8 : (Tryd.prog.info? 23).map (·.size) = some 8 := by kernel_rfl

theorem list8 {zs : List Int} (h : zs.length = 8) : ∃ a b c d e f g i, zs = [a, b, c, d, e, f, g, i] := by
  match zs, h with
  | [a, b, c, d, e, f, g, i], _ => exact ⟨a, b, c, d, e, f, g, i, rfl⟩
/-- Eight words as a function of their places. -/
theorem line_fn {a b c d e f g h : Int} (ha : (Lit.int .u64 a).wf = true) (hb : (Lit.int .u64 b).wf = true) (hc : (Lit.int .u64 c).wf = true) (hd : (Lit.int .u64 d).wf = true) (he : (Lit.int .u64 e).wf = true) (hf : (Lit.int .u64 f).wf = true) (hg : (Lit.int .u64 g).wf = true) (hh : (Lit.int .u64 h).wf = true) :
    ∃ x : Nat → Nat, (∀ i, x i < 2 ^ 64) ∧ a = (x 0 : Int) ∧ b = (x 1 : Int) ∧ c = (x 2 : Int) ∧ d = (x 3 : Int) ∧ e = (x 4 : Int) ∧ f = (x 5 : Int) ∧ g = (x 6 : Int) ∧ h = (x 7 : Int) := by
  have ba := bounds_u64 ha
  have bb := bounds_u64 hb
  have bc := bounds_u64 hc
  have bd := bounds_u64 hd
  have be := bounds_u64 he
  have bf := bounds_u64 hf
  have bg := bounds_u64 hg
  have bh := bounds_u64 hh
  refine ⟨fun i => [a.toNat, b.toNat, c.toNat, d.toNat, e.toNat, f.toNat, g.toNat, h.toNat].getD i 0, fun i => ?_, ?_, ?_, ?_, ?_, ?_, ?_, ?_, ?_⟩
  · match i with
    | 0 => show a.toNat < _; omega
    | 1 => show b.toNat < _; omega
    | 2 => show c.toNat < _; omega
    | 3 => show d.toNat < _; omega
    | 4 => show e.toNat < _; omega
    | 5 => show f.toNat < _; omega
    | 6 => show g.toNat < _; omega
    | 7 => show h.toNat < _; omega
    | i + 8 => show ([] : List Nat).getD i 0 < _; simp
  all_goals simp only [List.getD_cons_zero, List.getD_cons_succ]; omega
theorem one8 (a b c d e f g h : Int) : (#[Value.int .u64 a, .int .u64 b, .int .u64 c, .int .u64 d, .int .u64 e, .int .u64 f, .int .u64 g, .int .u64 h]).all (·.oneCell') = true := by simp [Value.oneCell']

set_option maxHeartbeats 2000000 in
/-- Two lines are held against each other. -/
theorem eq8V (a0 a1 a2 a3 a4 a5 a6 a7 b0 b1 b2 b3 b4 b5 b6 b7 : Int) (w : World) : (Op.equalIn 10000 23 (.agg #[.int .u64 a0, .int .u64 a1, .int .u64 a2, .int .u64 a3, .int .u64 a4, .int .u64 a5, .int .u64 a6, .int .u64 a7]) (.agg #[.int .u64 b0, .int .u64 b1, .int .u64 b2, .int .u64 b3, .int .u64 b4, .int .u64 b5, .int .u64 b6, .int .u64 b7])).run Tryd.prog w = .ok (a0 == b0 && a1 == b1 && a2 == b2 && a3 == b3 && a4 == b4 && a5 == b5 && a6 == b6 && a7 == b7) w := by
  have u3 := Tryd.underlying22
  have z3 : ∀ w : World, (sizeOf 22).run Tryd.prog w = .ok 1 w := fun w => by kernel_rfl
  rw [show (10000 : Nat) = 9999 + 1 from rfl, Op.equalIn]
  simp only [Sem.run_bind, run_underlying Tryd.underlying23, Result.andThen_ok]
  simp only [Std.Legacy.Range.forIn_eq_forIn_range', Std.Legacy.Range.size, Nat.sub_zero, Nat.add_sub_cancel, Nat.div_one, List.range'_succ, List.range'_zero, List.forIn_cons, List.forIn_nil]
  go_simp
  by_cases h0 : a0 = b0
  rotate_left
  · simp [h0]
  by_cases h1 : a1 = b1
  rotate_left
  · simp [h0, h1]
  by_cases h2 : a2 = b2
  rotate_left
  · simp [h0, h1, h2]
  by_cases h3 : a3 = b3
  rotate_left
  · simp [h0, h1, h2, h3]
  by_cases h4 : a4 = b4
  rotate_left
  · simp [h0, h1, h2, h3, h4]
  by_cases h5 : a5 = b5
  rotate_left
  · simp [h0, h1, h2, h3, h4, h5]
  by_cases h6 : a6 = b6
  rotate_left
  · simp [h0, h1, h2, h3, h4, h5, h6]
  by_cases h7 : a7 = b7
  rotate_left
  · simp [h0, h1, h2, h3, h4, h5, h6, h7]
  simp [h0, h1, h2, h3, h4, h5, h6, h7]

set_option maxHeartbeats 1000000 in
/-- Two superblocks are held against each other. -/
theorem eq2V (a b c d : Int) (w : World) : (Op.equalIn 10000 27 (.agg #[.int .i64 a, .int .u64 b]) (.agg #[.int .i64 c, .int .u64 d])).run Tryd.prog w = .ok (a == c && b == d) w := by
  rw [show (10000 : Nat) = 9999 + 1 from rfl, run_equalIn_agg w 9999 27 _ _ (by kernel_rfl) (by kernel_rfl)]
  by_cases h0 : a = c
  · by_cases h1 : b = d
    · simp [h0, h1]; go_simp; done
    · go_simp
  · go_simp

theorem row_ints {w : World} {b n : Nat} {g : Nat → Int} (h : Row w b 22 n (fun j => .int .u64 (g j))) : IsInts .u64 w (.slice (some ⟨b, 0, none⟩) n n) ((List.range n).map g) :=
  ⟨some ⟨b, 0, none⟩, n, by simp, by simp, .inr ⟨b, 0, rfl, h.lt, fun i hi => by
    simp at hi
    rw [Nat.zero_add, h.cell hi, List.getD_eq_getElem?_getD, List.getElem?_map, List.getElem?_range hi]; rfl⟩⟩

end Go.Proofs.YtpgkplknfhdmgaaDoor
