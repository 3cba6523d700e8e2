/- One operation, of the device and of the reference. -/
import Derived.Test.YtnkndhmkamaccaaDoBase
import Derived.Test.YtnkndhmkamaccaaEvict
namespace Go.Proofs.Ytnkndhmkamaccaa
open Go.ChangeShapes Go.WideShapes Go.ChangeAt Go.RowKit Nv
set_option linter.unusedVariables false

section
variable {w : World} {p : Nat} {f : Fp} {T : Nat → Prop} {r : RV} {m1 m2 : Mdl}
set_option maxHeartbeats 4000000 in
set_option maxRecDepth 100000 in
theorem do_none (h : Dev w p f m1) (hr : Ref w T r m2) (hT : ∀ b, T b → ¬ f.own p b) (k a n x : Int) (ca : Option Addr) (cl ccap : Nat) (h1 : m1.steps < 2305843009213693952) (h0 : 0 ≤ m2.steps) (h2 : m2.steps < 2305843009213693952) (hf : -1 ≤ m2.fuse ∧ m2.fuse ≤ 9223372036854775807) (ha : -9223372036854775808 ≤ a ∧ a ≤ 9223372036854775807) (hn : -9223372036854775808 ≤ n ∧ n ≤ 9223372036854775807) (e0 : k ≠ 0) (e1 : k ≠ 1) (e2 : k ≠ 2) (e3 : k ≠ 3) (e4 : k ≠ 4) (e5 : k ≠ 5) (e6 : k ≠ 6) :
    Calls Try.prog 24 #[.pointer (some ⟨p, 0, none⟩), rv r m2, .agg #[.int .i64 k, .int .i64 a, .int .i64 n, .int .u64 x, .slice ca cl ccap]] w (DoTo True p f T m1 m2 true w) := by
  have z0 : ((k : Int) == 0) = false := by simpa using e0
  have z1 : ((k : Int) == 1) = false := by simpa using e1
  have z2 : ((k : Int) == 2) = false := by simpa using e2
  have z3 : ((k : Int) == 3) = false := by simpa using e3
  have z4 : ((k : Int) == 4) = false := by simpa using e4
  have z5 : ((k : Int) == 5) = false := by simpa using e5
  have z6 : ((k : Int) == 6) = false := by simpa using e6
  have H := Lib.hid h
  have HTT := Lib.hid hT
  have hB := do_boxes w (rc r m2) #[.int .i64 k, .int .i64 a, .int .i64 n, .int .u64 x, .slice ca cl ccap]
  unfold rc z30 at hB
  have HB := Lib.hid hB
  have HRR := Lib.hid hr
  unfold rv
  clear h hB hr hT
  go_enter Try.func24, Try.ntmps24
  go_upto_region 1 with fail
  have hB := HB.out
  clear HB
  generalize ((w.alloc (.cells #[.slice r.aN m2.L r.cN, .slice r.aL m2.L r.cL, .slice r.aW m2.L r.cW, .slice r.aD m2.L r.cD, .slice r.aP m2.L r.cP, .int .i64 m2.steps, .int .i64 m2.fuse, .bool m2.dead] 30)).alloc (.cells #[.int .i64 k, .int .i64 a, .int .i64 n, .int .u64 x, .slice ca cl ccap] 36)).alloc (.cells #[.slice none 0 0, .slice none 0 0, .slice none 0 0, .slice none 0 0, .slice none 0 0, .int .i64 0, .int .i64 0, .bool false] 30) = w3 at hB ⊢
  obtain ⟨hb3, ho3, hz3, bw3, z3⟩ := hB
  have hb3' : Box w3 w.heap.size (rc r m2) := hb3
  have hz3' : Box w3 (w.heap.size + 2) z30 := hz3
  have HBX := Lib.hid hb3'
  have HO := Lib.hid ho3
  have HZ := Lib.hid hz3'
  have BW := Lib.hid bw3
  have Z3 := Lib.hid z3
  have D3 := Lib.hid (H.out.keep (Keep.ofBelow (S := fun _ => False) bw3) (fun _ _ _ h => h))
  have R3 := Lib.hid (HRR.out.keep (T' := fun b => T b ∧ b < w.heap.size) (Keep.ofBelow (S := fun _ => False) bw3) (fun _ _ _ h => h) (fun b hb hlt => ⟨hb, hlt⟩))
  have o0 : w3.cell? ⟨w.heap.size + 1, 0, none⟩ = some (.int .i64 k) := ho3.cell 0
  have o1 : w3.cell? ⟨w.heap.size + 1, 1, none⟩ = some (.int .i64 a) := ho3.cell 1
  have o2 : w3.cell? ⟨w.heap.size + 1, 2, none⟩ = some (.int .i64 n) := ho3.cell 2
  have o3 : w3.cell? ⟨w.heap.size + 1, 3, none⟩ = some (.int .u64 x) := ho3.cell 3
  have o4 : w3.cell? ⟨w.heap.size + 1, 4, none⟩ = some (.slice ca cl ccap) := ho3.cell 4
  have hsup : ∀ (S : Nat → Prop) w4, (∀ b, S b → f.own p b) → Keep S w3 w4 → Box w4 w.heap.size (rc r m2) ∧ OBox w4 (w.heap.size + 1) #[.int .i64 k, .int .i64 a, .int .i64 n, .int .u64 x, .slice ca cl ccap] ∧ Box w4 (w.heap.size + 2) z30 ∧ Ref w4 (fun b => T b ∧ b < w.heap.size) r m2 := fun S w4 hS k4 =>
    ⟨HBX.out.keep k4 (fun e => by have := H.out.own_all _ (hS _ e); omega), HO.out.keep k4 (fun e => by have := H.out.own_all _ (hS _ e); omega), HZ.out.keep k4 (fun e => by have := H.out.own_all _ (hS _ e); omega), R3.out.keep k4 (fun b hb _ e => HTT.out b hb.1 (hS _ e)) (fun b hb _ => hb)⟩
  have HS := Lib.hid hsup
  clear hb3 hb3' ho3 hz3 hz3' bw3 z3 hsup
  have hb3 := HBX.out
  have hz3 := HZ.out
  go_wp2_with fail
  have s0 : w3.cell? ⟨w.heap.size, 0, none⟩ = some (.slice r.aN m2.L r.cN) := hb3.cell 0
  have d0 : w3.cell? ⟨w.heap.size + 2, 0, none⟩ = some (.slice none 0 0) := hz3.cell 0
  have g0 := hz3.frozen 0
  have s1 : w3.cell? ⟨w.heap.size, 1, none⟩ = some (.slice r.aL m2.L r.cL) := hb3.cell 1
  have d1 : w3.cell? ⟨w.heap.size + 2, 1, none⟩ = some (.slice none 0 0) := hz3.cell 1
  have g1 := hz3.frozen 1
  have s2 : w3.cell? ⟨w.heap.size, 2, none⟩ = some (.slice r.aW m2.L r.cW) := hb3.cell 2
  have d2 : w3.cell? ⟨w.heap.size + 2, 2, none⟩ = some (.slice none 0 0) := hz3.cell 2
  have g2 := hz3.frozen 2
  have s3 : w3.cell? ⟨w.heap.size, 3, none⟩ = some (.slice r.aD m2.L r.cD) := hb3.cell 3
  have d3 : w3.cell? ⟨w.heap.size + 2, 3, none⟩ = some (.slice none 0 0) := hz3.cell 3
  have g3 := hz3.frozen 3
  have s4 : w3.cell? ⟨w.heap.size, 4, none⟩ = some (.slice r.aP m2.L r.cP) := hb3.cell 4
  have d4 : w3.cell? ⟨w.heap.size + 2, 4, none⟩ = some (.slice none 0 0) := hz3.cell 4
  have g4 := hz3.frozen 4
  have s5 : w3.cell? ⟨w.heap.size, 5, none⟩ = some (.int .i64 m2.steps) := hb3.cell 5
  have d5 : w3.cell? ⟨w.heap.size + 2, 5, none⟩ = some (.int .i64 0) := hz3.cell 5
  have g5 := hz3.frozen 5
  have s6 : w3.cell? ⟨w.heap.size, 6, none⟩ = some (.int .i64 m2.fuse) := hb3.cell 6
  have d6 : w3.cell? ⟨w.heap.size + 2, 6, none⟩ = some (.int .i64 0) := hz3.cell 6
  have g6 := hz3.frozen 6
  have s7 : w3.cell? ⟨w.heap.size, 7, none⟩ = some (.bool m2.dead) := hb3.cell 7
  have d7 : w3.cell? ⟨w.heap.size + 2, 7, none⟩ = some (.bool false) := hz3.cell 7
  have g7 := hz3.frozen 7
  clear hb3 hz3 o0 o1 o2 o3 o4
  go_big_region
  have hz7 : Box w3 (w.heap.size + 1 + 1) z30 := HZ.out
  have hk7 := hz7.fill (.slice r.aN m2.L r.cN) (.slice r.aL m2.L r.cL) (.slice r.aW m2.L r.cW) (.slice r.aD m2.L r.cD) (.slice r.aP m2.L r.cP) (.int .i64 m2.steps) (.int .i64 m2.fuse) (.bool m2.dead)
  obtain ⟨hb7, k7⟩ := hk7
  generalize ((((((((w3.setCell ⟨w.heap.size + 1 + 1, 0, none⟩ (.slice r.aN m2.L r.cN)).setCell ⟨w.heap.size + 1 + 1, 1, none⟩ (.slice r.aL m2.L r.cL)).setCell ⟨w.heap.size + 1 + 1, 2, none⟩ (.slice r.aW m2.L r.cW)).setCell ⟨w.heap.size + 1 + 1, 3, none⟩ (.slice r.aD m2.L r.cD)).setCell ⟨w.heap.size + 1 + 1, 4, none⟩ (.slice r.aP m2.L r.cP)).setCell ⟨w.heap.size + 1 + 1, 5, none⟩ (.int .i64 m2.steps)).setCell ⟨w.heap.size + 1 + 1, 6, none⟩ (.int .i64 m2.fuse)).setCell ⟨w.heap.size + 1 + 1, 7, none⟩ (.bool m2.dead)).drew = w7 at hb7 k7 ⊢
  have HB7 : Hid (Box w7 (w.heap.size + 2) (rc r m2)) := Lib.hid hb7
  have K7 := Lib.hid k7
  clear hb7 k7 hz7 s0 d0 g0 s1 d1 g1 s2 d2 g2 s3 d3 g3 s4 d4 g4 s5 d5 g5 s6 d6 g6 s7 d7 g7
  go_wp2_with fail
  exact bodyPost_ret (results_box3 rfl _ _ (w.heap.size + 2) (rc r m2) _ _ rfl HB7.out rfl rfl rfl) rfl (do_done (w4 := w3) (w5 := w3) (w6 := w3) (fun _ => rfl) H.out HTT.out BW.out Z3.out D3.out (Keep.refl _ _) (fun b hb => .inl hb) (R3.out.keep (Keep.refl (fun _ => False) w3) (fun _ _ _ h => h) (fun b hb _ => .inl hb)) (Below.refl _ _) (Keep.refl _ _) K7.out)

end

end Go.Proofs.Ytnkndhmkamaccaa
