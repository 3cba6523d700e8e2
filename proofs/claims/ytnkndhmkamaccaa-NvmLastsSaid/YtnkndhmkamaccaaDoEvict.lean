/- One operation, of the device and of the reference. -/
import Derived.Test.YtnkndhmkamaccaaDoBase
import Derived.Test.YtnkndhmkamaccaaEvict
namespace Go.Proofs.Ytnkndhmkamaccaa
open Go.ChangeShapes Go.WideShapes Go.ChangeAt Go.RowKit Nv
set_option linter.unusedVariables false

section
variable {w : World} {p : Nat} {f : Fp} {T : Nat → Prop} {r : RV} {m1 m2 : Mdl}
set_option maxHeartbeats 4000000 in
set_option maxRecDepth 100000 in
theorem do_evict (h : Dev w p f m1) (hr : Ref w T r m2) (hT : ∀ b, T b → ¬ f.own p b) (a n x : Int) (ca : Option Addr) (cl ccap : Nat) (h1 : m1.steps < 2305843009213693952) (h0 : 0 ≤ m2.steps) (h2 : m2.steps < 2305843009213693952) (hf : -1 ≤ m2.fuse ∧ m2.fuse ≤ 9223372036854775807) (ha : -9223372036854775808 ≤ a ∧ a ≤ 9223372036854775807) (hn : -9223372036854775808 ≤ n ∧ n ≤ 9223372036854775807) :
    Calls Try.prog 24 #[.pointer (some ⟨p, 0, none⟩), rv r m2, .agg #[.int .i64 3, .int .i64 a, .int .i64 n, .int .u64 x, .slice ca cl ccap]] w (DoTo True p f T (Nv.evict m1 a).1 (Nv.evict m2 a).1 ((Nv.evict m1 a).2 == (Nv.evict m2 a).2) w) := by
  rcases e1 : (Nv.evict m1 a) with ⟨n1, c1⟩
  rcases e2 : (Nv.evict m2 a) with ⟨n2, c2⟩
  have E1 := Lib.hid e1
  have E2 := Lib.hid e2
  clear e1 e2
  show Calls _ _ _ _ (DoTo True p f T n1 n2 (c1 == c2) w)
  have H := Lib.hid h
  have HTT := Lib.hid hT
  have hB := do_boxes w (rc r m2) #[.int .i64 3, .int .i64 a, .int .i64 n, .int .u64 x, .slice ca cl ccap]
  unfold rc z30 at hB
  have HB := Lib.hid hB
  have HRR := Lib.hid hr
  unfold rv
  clear h hB hr hT
  go_enter Try.func24, Try.ntmps24
  go_upto_region 1 with fail
  have hB := HB.out
  clear HB
  generalize ((w.alloc (.cells #[.slice r.aN m2.L r.cN, .slice r.aL m2.L r.cL, .slice r.aW m2.L r.cW, .slice r.aD m2.L r.cD, .slice r.aP m2.L r.cP, .int .i64 m2.steps, .int .i64 m2.fuse, .bool m2.dead] 30)).alloc (.cells #[.int .i64 3, .int .i64 a, .int .i64 n, .int .u64 x, .slice ca cl ccap] 36)).alloc (.cells #[.slice none 0 0, .slice none 0 0, .slice none 0 0, .slice none 0 0, .slice none 0 0, .int .i64 0, .int .i64 0, .bool false] 30) = w3 at hB ⊢
  obtain ⟨hb3, ho3, hz3, bw3, z3⟩ := hB
  have hb3' : Box w3 w.heap.size (rc r m2) := hb3
  have hz3' : Box w3 (w.heap.size + 2) z30 := hz3
  have HBX := Lib.hid hb3'
  have HO := Lib.hid ho3
  have HZ := Lib.hid hz3'
  have BW := Lib.hid bw3
  have Z3 := Lib.hid z3
  have D3 := Lib.hid (H.out.keep (Keep.ofBelow (S := fun _ => False) bw3) (fun _ _ _ h => h))
  have R3 := Lib.hid (HRR.out.keep (T' := fun b => T b ∧ b < w.heap.size) (Keep.ofBelow (S := fun _ => False) bw3) (fun _ _ _ h => h) (fun b hb hlt => ⟨hb, hlt⟩))
  have o0 : w3.cell? ⟨w.heap.size + 1, 0, none⟩ = some (.int .i64 3) := ho3.cell 0
  have o1 : w3.cell? ⟨w.heap.size + 1, 1, none⟩ = some (.int .i64 a) := ho3.cell 1
  have o2 : w3.cell? ⟨w.heap.size + 1, 2, none⟩ = some (.int .i64 n) := ho3.cell 2
  have o3 : w3.cell? ⟨w.heap.size + 1, 3, none⟩ = some (.int .u64 x) := ho3.cell 3
  have o4 : w3.cell? ⟨w.heap.size + 1, 4, none⟩ = some (.slice ca cl ccap) := ho3.cell 4
  have hsup : ∀ (S : Nat → Prop) w4, (∀ b, S b → f.own p b) → Keep S w3 w4 → Box w4 w.heap.size (rc r m2) ∧ OBox w4 (w.heap.size + 1) #[.int .i64 3, .int .i64 a, .int .i64 n, .int .u64 x, .slice ca cl ccap] ∧ Box w4 (w.heap.size + 2) z30 ∧ Ref w4 (fun b => T b ∧ b < w.heap.size) r m2 := fun S w4 hS k4 =>
    ⟨HBX.out.keep k4 (fun e => by have := H.out.own_all _ (hS _ e); omega), HO.out.keep k4 (fun e => by have := H.out.own_all _ (hS _ e); omega), HZ.out.keep k4 (fun e => by have := H.out.own_all _ (hS _ e); omega), R3.out.keep k4 (fun b hb _ e => HTT.out b hb.1 (hS _ e)) (fun b hb _ => hb)⟩
  have HS := Lib.hid hsup
  clear hb3 hb3' ho3 hz3 hz3' bw3 z3 hsup
  have hc1 := evict_any D3.out a
  have hc2 : ∀ w4, Ref w4 (fun b => T b ∧ b < w.heap.size) r m2 → Calls Try.prog 41 #[rv r m2, .int .i64 a] w4 (RefTo (fun b => T b ∧ b < w.heap.size) (Nv.evict m2 a).1 (.int .i64 (Nv.evict m2 a).2) w4) := fun w4 HR => by
    have HR4 := Lib.hid HR
    exact refEvict_any HR4.out a
  rw [E1.out] at hc1
  rw [E2.out] at hc2
  have HC1 := Lib.hid hc1
  have HC2 := Lib.hid hc2
  clear hc1 hc2
  go_wp2_with (first
    | (go_at_call 40; refine HC1.out.mono ?_; rintro e w4 ⟨rfl, f4, d4, k4, own4⟩; obtain ⟨bx4, ob4, bz4, rf4⟩ := HS.out _ w4 (fun _ h => h) k4; have D4 := Lib.hid d4; have K4 := Lib.hid k4; have O4 := Lib.hid own4; have BX4 := Lib.hid bx4; have BZ4 := Lib.hid bz4; have RF4 := Lib.hid rf4; have q1 : w4.cell? ⟨w.heap.size + 1, 1, none⟩ = some (.int .i64 a) := ob4.cell 1; have q2 : w4.cell? ⟨w.heap.size + 1, 2, none⟩ = some (.int .i64 n) := ob4.cell 2; have q3 : w4.cell? ⟨w.heap.size + 1, 3, none⟩ = some (.int .u64 x) := ob4.cell 3; have q4 : w4.cell? ⟨w.heap.size + 1, 4, none⟩ = some (.slice ca cl ccap) := ob4.cell 4; clear d4 k4 own4 bx4 bz4 rf4 ob4)
    | (refine wpList_load_box rfl _ rfl (b := w.heap.size) (cells := rc r m2) rfl BX4.out rfl ?_)
    | (go_at_call 41; refine (HC2.out w4 RF4.out).mono ?_; rintro e w5 ⟨r5, rfl, ref5, b5⟩; have R5 := Lib.hid ref5; have B5 := Lib.hid b5; have BX5 := Lib.hid (BX4.out.below b5 BX4.out.lt); have BZ5 := Lib.hid (BZ4.out.below b5 BZ4.out.lt); clear ref5 b5)
    | (refine wpList_store_box rfl _ _ rfl (b := w.heap.size) (cells := rc r5 n2) rfl rfl BX5.out rfl rfl (rc_one _ _) ?_; intro w6 hb6 k6; have BX6 := Lib.hid hb6; have K6 := Lib.hid k6; clear hb6 k6))
  have hz6 : Box w6 (w.heap.size + 2) z30 := BZ5.out.keep K6.out (by omega)
  have s0 : w6.cell? ⟨w.heap.size, 0, none⟩ = some (.slice r5.aN n2.L r5.cN) := BX6.out.cell 0
  have d0 : w6.cell? ⟨w.heap.size + 2, 0, none⟩ = some (.slice none 0 0) := hz6.cell 0
  have g0 := hz6.frozen 0
  have s1 : w6.cell? ⟨w.heap.size, 1, none⟩ = some (.slice r5.aL n2.L r5.cL) := BX6.out.cell 1
  have d1 : w6.cell? ⟨w.heap.size + 2, 1, none⟩ = some (.slice none 0 0) := hz6.cell 1
  have g1 := hz6.frozen 1
  have s2 : w6.cell? ⟨w.heap.size, 2, none⟩ = some (.slice r5.aW n2.L r5.cW) := BX6.out.cell 2
  have d2 : w6.cell? ⟨w.heap.size + 2, 2, none⟩ = some (.slice none 0 0) := hz6.cell 2
  have g2 := hz6.frozen 2
  have s3 : w6.cell? ⟨w.heap.size, 3, none⟩ = some (.slice r5.aD n2.L r5.cD) := BX6.out.cell 3
  have d3 : w6.cell? ⟨w.heap.size + 2, 3, none⟩ = some (.slice none 0 0) := hz6.cell 3
  have g3 := hz6.frozen 3
  have s4 : w6.cell? ⟨w.heap.size, 4, none⟩ = some (.slice r5.aP n2.L r5.cP) := BX6.out.cell 4
  have d4 : w6.cell? ⟨w.heap.size + 2, 4, none⟩ = some (.slice none 0 0) := hz6.cell 4
  have g4 := hz6.frozen 4
  have s5 : w6.cell? ⟨w.heap.size, 5, none⟩ = some (.int .i64 n2.steps) := BX6.out.cell 5
  have d5 : w6.cell? ⟨w.heap.size + 2, 5, none⟩ = some (.int .i64 0) := hz6.cell 5
  have g5 := hz6.frozen 5
  have s6 : w6.cell? ⟨w.heap.size, 6, none⟩ = some (.int .i64 n2.fuse) := BX6.out.cell 6
  have d6 : w6.cell? ⟨w.heap.size + 2, 6, none⟩ = some (.int .i64 0) := hz6.cell 6
  have g6 := hz6.frozen 6
  have s7 : w6.cell? ⟨w.heap.size, 7, none⟩ = some (.bool n2.dead) := BX6.out.cell 7
  have d7 : w6.cell? ⟨w.heap.size + 2, 7, none⟩ = some (.bool false) := hz6.cell 7
  have g7 := hz6.frozen 7
  have HZ6 := Lib.hid hz6
  clear hz6 o0 o1 o2 o3 o4 q1 q2 q3 q4 E1 E2
  go_big_region
  have hz6 := HZ6.out
  have hz7 : Box w6 (w.heap.size + 1 + 1) z30 := hz6
  have hk7 := hz7.fill (.slice r5.aN n2.L r5.cN) (.slice r5.aL n2.L r5.cL) (.slice r5.aW n2.L r5.cW) (.slice r5.aD n2.L r5.cD) (.slice r5.aP n2.L r5.cP) (.int .i64 n2.steps) (.int .i64 n2.fuse) (.bool n2.dead)
  obtain ⟨hb7, k7⟩ := hk7
  generalize ((((((((w6.setCell ⟨w.heap.size + 1 + 1, 0, none⟩ (.slice r5.aN n2.L r5.cN)).setCell ⟨w.heap.size + 1 + 1, 1, none⟩ (.slice r5.aL n2.L r5.cL)).setCell ⟨w.heap.size + 1 + 1, 2, none⟩ (.slice r5.aW n2.L r5.cW)).setCell ⟨w.heap.size + 1 + 1, 3, none⟩ (.slice r5.aD n2.L r5.cD)).setCell ⟨w.heap.size + 1 + 1, 4, none⟩ (.slice r5.aP n2.L r5.cP)).setCell ⟨w.heap.size + 1 + 1, 5, none⟩ (.int .i64 n2.steps)).setCell ⟨w.heap.size + 1 + 1, 6, none⟩ (.int .i64 n2.fuse)).setCell ⟨w.heap.size + 1 + 1, 7, none⟩ (.bool n2.dead)).drew = w7 at hb7 k7 ⊢
  have HB7 : Hid (Box w7 (w.heap.size + 2) (rc r5 n2)) := Lib.hid hb7
  have K7 := Lib.hid k7
  clear hb7 k7 hz7 s0 d0 g0 s1 d1 g1 s2 d2 g2 s3 d3 g3 s4 d4 g4 s5 d5 g5 s6 d6 g6 s7 d7 g7
  go_wp2_with fail
  exact bodyPost_ret (results_box3 rfl _ _ (w.heap.size + 2) (rc r5 n2) _ _ rfl HB7.out rfl rfl rfl) rfl (do_done (fun _ => rfl) H.out HTT.out BW.out Z3.out D4.out K4.out O4.out R5.out B5.out K6.out K7.out)

end

end Go.Proofs.Ytnkndhmkamaccaa
