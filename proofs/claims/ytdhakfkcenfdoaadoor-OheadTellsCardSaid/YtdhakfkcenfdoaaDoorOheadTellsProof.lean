/-
  How many words any object has, where its fields are, of which class it is, and how many blocks it needs, is what the page says, for all objects and all numbers from 0 to 65535.
  Conditions: none beyond the row (every argument that can be read as data); the tables that the row lists hold what the text lays, which the card ties.
-/
import Derived.Test.YtdhakfkcenfdoaaDoorPre
import Derived.Test.YtdhakfkcenfdoaaDoorCards
import Derived.Test.YtdhakfkcenfdoaaDoorTie
import Derived.Deep.DeepHandedRow
import Derived.Lib.LaidTab
import Derived.Test.YtdhakfkcenfdoaaDoorAwake08
import Derived.Test.YtdhakfkcenfdoaaDoorObjSmall
import Derived.Test.YtdhakfkcenfdoaaDoorObjNum
import Derived.Test.YtdhakfkcenfdoaaDoorCutR
import Derived.Deep.RegionHeld3
import Derived.Test.YtdhakfkcenfdoaaDoorStructs
namespace Go.Proofs.YtdhakfkcenfdoaaDoor.oheadTells
open Go.ChangeShapes Go.WideShapes Go.ChangeAt Go.RowKit
open Go.ChangeMaps (open_string shut_string)
set_option linter.unusedVariables false

open Oh Cl

theorem cells_same : ∀ i, i < 32 → sizesI.getD i 0 = (wd i : Int) := by decide
/-- The law's two boxes. -/
structure Bx (w : World) (W : World) (b g : Nat) (x y : Int) : Prop where
  below : Below w.heap.size w W
  h : BoxT 23 W b #[.int .i64 x, .int .i64 y]
  r : BoxT 29 W g #[.int .i64 x, .int .i64 y]
theorem Bx.step {w W W' : World} {b g : Nat} {x y : Int} (i : Bx w W b g x y) (hb : Below W.heap.size W W') : Bx w W' b g x y :=
  ⟨i.below.trans (hb.mono i.below.size), i.h.below hb i.h.lt, i.r.below hb i.r.lt⟩
theorem Bx.drew {w W : World} {b g : Nat} {x y : Int} (i : Bx w W b g x y) : Bx w W.drew b g x y := ⟨below_drewN i.below 1, i.h, i.r⟩
theorem Bx.facts {w W : World} {b g : Nat} {x y : Int} (i : Bx w W b g x y) :
    W.cell? ⟨b, 0, none⟩ = some (.int .i64 x) ∧ W.cell? ⟨b, 1, none⟩ = some (.int .i64 y) ∧
    W.cell? ⟨g, 0, none⟩ = some (.int .i64 x) ∧ W.cell? ⟨g, 1, none⟩ = some (.int .i64 y) :=
  ⟨i.h.cell 0, i.h.cell 1, i.r.cell 0, i.r.cell 1⟩
/-- What the answers are, by three kinds of objects. -/
theorem kinds (p d : Int) :
    (mayO p d = false ∧ sizeO p d = 0 ∧ clsC (sizeO p d) = none ∧ zC (sizeO p d) = -1) ∨
    (mayO p d = true ∧ (sizeO p d == 0) = false ∧ clsC (sizeO p d) = none ∧ zC (sizeO p d) = -1) ∨
    (mayO p d = true ∧ (sizeO p d == 0) = false ∧ ∃ k : Nat, clsC (sizeO p d) = some k ∧ zC (sizeO p d) = k) := by
  cases hm : mayO p d with
  | false =>
    have hz := sizeO_no hm
    have hc : clsC (sizeO p d) = none := clsC_low (by omega)
    exact .inl ⟨rfl, hz, hc, zC_none hc⟩
  | true =>
    have hz := sizeO_yes hm
    have := may_iff.1 hm
    have h0 : (sizeO p d == 0) = false := by simp; omega
    cases hc : clsC (sizeO p d) with
    | none => exact .inr (.inl ⟨rfl, h0, rfl, zC_none hc⟩)
    | some k => exact .inr (.inr ⟨rfl, h0, k, rfl, zC_some hc⟩)
set_option maxRecDepth 100000 in
set_option maxHeartbeats 4000000 in
theorem tellsT (w : World) (a0_0 a0_1 a1 bl n : Int) (k : Nat) (HT : Hid (HasCells w)) (b0 : 0 ≤ a1) (b1 : a1 ≤ 65535) (HN : Hid (n = 0 ∨ mayO a0_0 a0_1 = true ∧ (n == 0) = false))
    (SM : Hid (∀ w, HasCells w → Calls Tryd.prog 12 #[.agg #[.int .i64 a0_0, .int .i64 a0_1]] w (MadeOne (.tuple #[.int .i64 k, .bool true]) w)))
    (SZ : Hid (∀ w, Calls Tryd.prog 13 #[.agg #[.int .i64 a0_0, .int .i64 a0_1]] w (MadeOne (.int .i64 n) w)))
    (RSZ : Hid (∀ w, Calls Tryd.prog 14 #[.agg #[.int .i64 a0_0, .int .i64 a0_1]] w (MadeOne (.int .i64 n) w)))
    (CL : Hid (∀ w, Calls Tryd.prog 15 #[.agg #[.int .i64 a0_0, .int .i64 a0_1]] w (MadeOne (.int .i64 k) w)))
    (BL : Hid (∀ w, HasCells w → Calls Tryd.prog 16 #[.agg #[.int .i64 a0_0, .int .i64 a0_1]] w (MadeOne (.int .i64 bl) w)))
    (RBL : Hid (∀ w, Calls Tryd.prog 17 #[.agg #[.int .i64 a0_0, .int .i64 a0_1]] w (MadeOne (.int .i64 bl) w)))
    (PTR : Hid (mayO a0_0 a0_1 = true → ∀ w, Calls Tryd.prog 18 #[.agg #[.int .i64 a0_0, .int .i64 a0_1], .int .i64 a1] w (MadeOne (.tuple #[.int .i64 (1 + a1), .bool (decide (a1 < a0_0))]) w)))
    (DAT : Hid (mayO a0_0 a0_1 = true → ∀ w, Calls Tryd.prog 19 #[.agg #[.int .i64 a0_0, .int .i64 a0_1], .int .i64 a1] w (MadeOne (.tuple #[.int .i64 (1 + a0_0 + a1), .bool (decide (a1 < a0_1))]) w)))
    (MAY : Hid (mayO a0_0 a0_1 = true → (0 ≤ a0_0 ∧ a0_0 ≤ 63) ∧ (0 ≤ a0_1 ∧ a0_1 ≤ 16384))) :
    Calls Tryd.prog 4 #[.agg #[.int .i64 a0_0, .int .i64 a0_1], .int .u16 a1] w fun e w' => e = .returned (.bool true) ∧ Below w.heap.size w w' := by
  go_enter Tryd.func4, Tryd.ntmps4
  go_wp2_with fail
  refine (awake_yes _).mono ?_
  rintro e W ⟨rfl, hb⟩
  obtain ⟨b1, hb, s1⟩ := boxT_of1 hb
  have HB := Lib.hid hb
  have B1 := Lib.hid b1
  clear hb b1
  go_wp2_with (first
    | (refine wpList_load_boxT rfl _ _ rfl (b := w.heap.size) rfl B1.out Tryd.underlying23 rfl infoO ?_)
    | fail)
  refine (ref08_any _ _ _).mono ?_
  rintro e W2 ⟨rfl, hb⟩
  have INV : Hid (Bx w (W2.alloc (.cells #[.int .i64 a0_0, .int .i64 a0_1] 29)) w.heap.size W2.heap.size a0_0 a0_1) := Lib.hid ⟨(below_step HB.out hb (Nat.le_refl _)).alloc (Nat.le_trans HB.out.size hb.size) _, (B1.out.below hb B1.out.lt).alloc _, BoxT.new _ _ _⟩
  clear hb HB B1
  obtain ⟨c0, c1, d0, d1⟩ := INV.out.facts
  go_wp2_with fail
  generalize W2.alloc (.cells #[.int .i64 a0_0, .int .i64 a0_1] 29) = V at INV ⊢
  generalize W2.heap.size = g at INV ⊢
  clear c0 c1 d0 d1
  refine (SM.out _ (HT.out.below INV.out.below (Nat.le_refl _))).mono ?_
  rintro e W3 ⟨rfl, hb⟩
  have INV := Lib.hid (INV.out.step hb)
  clear hb
  go_wp2_with fail
  obtain ⟨c0, c1, d0, d1⟩ := INV.out.facts
  apply cutR (fun W => Bx w W w.heap.size g a0_0 a0_1)
  · go_region_held3 (fun w' => w'.cell? ⟨w.heap.size, 0, none⟩ = some (.int .i64 a0_0) ∧ w'.cell? ⟨w.heap.size, 1, none⟩ = some (.int .i64 a0_1) ∧ w'.cell? ⟨g, 0, none⟩ = some (.int .i64 a0_0) ∧ w'.cell? ⟨g, 1, none⟩ = some (.int .i64 a0_1))
      (first | go_keep | exact INV.out.facts)
      (first
        | (go_at_call 13; refine (SZ.out _).mono ?_; rintro e w' ⟨rfl, hb⟩; have INV := Lib.hid (INV.out.drew.step hb); clear hb)
        | (go_at_call 14; refine (RSZ.out _).mono ?_; rintro e w' ⟨rfl, hb⟩; have INV := Lib.hid (INV.out.step hb); clear hb)
        | (go_at_call 15; refine (CL.out _).mono ?_; rintro e w' ⟨rfl, hb⟩; have INV := Lib.hid (INV.out.step hb); clear hb)
        | (go_at_call 16; refine (BL.out _ (HT.out.below INV.out.below (Nat.le_refl _))).mono ?_; rintro e w' ⟨rfl, hb⟩; have INV := Lib.hid (INV.out.step hb); clear hb)
        | (go_at_call 17; refine (RBL.out _).mono ?_; rintro e w' ⟨rfl, hb⟩; have INV := Lib.hid (INV.out.step hb); clear hb))
    exact ⟨rfl, INV.out⟩
  clear INV c0 c1 d0 d1
  intro W5 hB
  have INV := Lib.hid hB
  clear hB
  obtain ⟨c0, c1, d0, d1⟩ := INV.out.facts
  go_wp2_with (first
    | (refine wpList_load_boxT rfl _ _ rfl (b := g) rfl INV.out.r Tryd.underlying29 rfl infoRO ?_)
    | fail)
  refine (RSZ.out _).mono ?_
  rintro e W5b ⟨rfl, hb⟩
  have INV := Lib.hid (INV.out.step hb)
  clear hb c0 c1 d0 d1
  rcases HN.out with rfl | ⟨hm, hz⟩
  · go_wp2_with fail
    go_ret
    exact ⟨rfl, INV.out.below⟩
  obtain ⟨⟨m0, m1⟩, m2, m3⟩ := MAY.out hm
  have PTR := Lib.hid (PTR.out hm)
  have DAT := Lib.hid (DAT.out hm)
  clear hm
  obtain ⟨c0, c1, d0, d1⟩ := INV.out.facts
  go_wp2_with (first
    | (refine wpList_load_boxT rfl _ _ rfl (b := w.heap.size) rfl INV.out.h Tryd.underlying23 rfl infoO ?_)
    | fail)
  refine (PTR.out _).mono ?_
  rintro e W6 ⟨rfl, hb⟩
  have INV := Lib.hid (INV.out.step hb)
  clear hb c0 c1 d0 d1
  obtain ⟨c0, c1, d0, d1⟩ := INV.out.facts
  go_wp2_with (first
    | (refine wpList_load_boxT rfl _ _ rfl (b := w.heap.size) rfl INV.out.h Tryd.underlying23 rfl infoO ?_)
    | fail)
  refine (DAT.out _).mono ?_
  rintro e W7 ⟨rfl, hb⟩
  have INV := Lib.hid (INV.out.step hb)
  clear hb c0 c1 d0 d1
  obtain ⟨c0, c1, d0, d1⟩ := INV.out.facts
  by_cases q1 : a1 < a0_0
  · by_cases q2 : a1 < a0_1
    · go_wp2_with fail
      go_ret
      exact ⟨rfl, INV.out.below⟩
    · have q2' : decide (a1 < a0_1) = false := decide_eq_false q2
      go_wp2_with fail
      go_ret
      exact ⟨rfl, INV.out.below⟩
  · have q1' : decide (a1 < a0_0) = false := decide_eq_false q1
    by_cases q2 : a1 < a0_1
    · go_wp2_with fail
      go_ret
      exact ⟨rfl, INV.out.below⟩
    · have q2' : decide (a1 < a0_1) = false := decide_eq_false q2
      go_wp2_with fail
      go_ret
      exact ⟨rfl, INV.out.below⟩

set_option maxRecDepth 100000 in
set_option maxHeartbeats 4000000 in
theorem tellsF (w : World) (a0_0 a0_1 a1 bl n : Int) (k : Nat) (HT : Hid (HasCells w)) (b0 : 0 ≤ a1) (b1 : a1 ≤ 65535) (HN : Hid (n = 0 ∨ mayO a0_0 a0_1 = true ∧ (n == 0) = false))
    (SM : Hid (∀ w, HasCells w → Calls Tryd.prog 12 #[.agg #[.int .i64 a0_0, .int .i64 a0_1]] w (MadeOne (.tuple #[.int .i64 k, .bool false]) w)))
    (SZ : Hid (∀ w, Calls Tryd.prog 13 #[.agg #[.int .i64 a0_0, .int .i64 a0_1]] w (MadeOne (.int .i64 n) w)))
    (RSZ : Hid (∀ w, Calls Tryd.prog 14 #[.agg #[.int .i64 a0_0, .int .i64 a0_1]] w (MadeOne (.int .i64 n) w)))
    (CL : Hid (∀ w, Calls Tryd.prog 15 #[.agg #[.int .i64 a0_0, .int .i64 a0_1]] w (MadeOne (.int .i64 (-1)) w)))
    (BL : Hid (∀ w, HasCells w → Calls Tryd.prog 16 #[.agg #[.int .i64 a0_0, .int .i64 a0_1]] w (MadeOne (.int .i64 bl) w)))
    (RBL : Hid (∀ w, Calls Tryd.prog 17 #[.agg #[.int .i64 a0_0, .int .i64 a0_1]] w (MadeOne (.int .i64 bl) w)))
    (PTR : Hid (mayO a0_0 a0_1 = true → ∀ w, Calls Tryd.prog 18 #[.agg #[.int .i64 a0_0, .int .i64 a0_1], .int .i64 a1] w (MadeOne (.tuple #[.int .i64 (1 + a1), .bool (decide (a1 < a0_0))]) w)))
    (DAT : Hid (mayO a0_0 a0_1 = true → ∀ w, Calls Tryd.prog 19 #[.agg #[.int .i64 a0_0, .int .i64 a0_1], .int .i64 a1] w (MadeOne (.tuple #[.int .i64 (1 + a0_0 + a1), .bool (decide (a1 < a0_1))]) w)))
    (MAY : Hid (mayO a0_0 a0_1 = true → (0 ≤ a0_0 ∧ a0_0 ≤ 63) ∧ (0 ≤ a0_1 ∧ a0_1 ≤ 16384))) :
    Calls Tryd.prog 4 #[.agg #[.int .i64 a0_0, .int .i64 a0_1], .int .u16 a1] w fun e w' => e = .returned (.bool true) ∧ Below w.heap.size w w' := by
  go_enter Tryd.func4, Tryd.ntmps4
  go_wp2_with fail
  refine (awake_yes _).mono ?_
  rintro e W ⟨rfl, hb⟩
  obtain ⟨b1, hb, s1⟩ := boxT_of1 hb
  have HB := Lib.hid hb
  have B1 := Lib.hid b1
  clear hb b1
  go_wp2_with (first
    | (refine wpList_load_boxT rfl _ _ rfl (b := w.heap.size) rfl B1.out Tryd.underlying23 rfl infoO ?_)
    | fail)
  refine (ref08_any _ _ _).mono ?_
  rintro e W2 ⟨rfl, hb⟩
  have INV : Hid (Bx w (W2.alloc (.cells #[.int .i64 a0_0, .int .i64 a0_1] 29)) w.heap.size W2.heap.size a0_0 a0_1) := Lib.hid ⟨(below_step HB.out hb (Nat.le_refl _)).alloc (Nat.le_trans HB.out.size hb.size) _, (B1.out.below hb B1.out.lt).alloc _, BoxT.new _ _ _⟩
  clear hb HB B1
  obtain ⟨c0, c1, d0, d1⟩ := INV.out.facts
  go_wp2_with fail
  generalize W2.alloc (.cells #[.int .i64 a0_0, .int .i64 a0_1] 29) = V at INV ⊢
  generalize W2.heap.size = g at INV ⊢
  clear c0 c1 d0 d1
  refine (SM.out _ (HT.out.below INV.out.below (Nat.le_refl _))).mono ?_
  rintro e W3 ⟨rfl, hb⟩
  have INV := Lib.hid (INV.out.step hb)
  clear hb
  go_wp2_with fail
  obtain ⟨c0, c1, d0, d1⟩ := INV.out.facts
  apply cutR (fun W => Bx w W w.heap.size g a0_0 a0_1)
  · refine wp_region_held_drew (S := (fun w' => w'.cell? ⟨w.heap.size, 0, none⟩ = some (.int .i64 a0_0) ∧ w'.cell? ⟨w.heap.size, 1, none⟩ = some (.int .i64 a0_1) ∧ w'.cell? ⟨g, 0, none⟩ = some (.int .i64 a0_0) ∧ w'.cell? ⟨g, 1, none⟩ = some (.int .i64 a0_1))) (by kernel_rfl) ?_ (fun hHeld => ?_)
    · (try dsimp only)
      first | go_keep | exact INV.out.facts
    refine wpAnyH_take (i := 0) (oi := { dst := some 21, op := Op.load 23 (Operand.tmp 2), type := 23, pos := "law.go:39", after := #[], guard := none }) (v := ?_) rfl (by kernel_rfl) (by kernel_rfl) (by kernel_rfl) (fun _ _ _ h => h) (Or.inl ⟨by rfl, ?_⟩) (by assumption) ?_
    rotate_left
    · intro w hSw
      (try dsimp only at hSw)
      go_simp
      all_goals with_reducible rfl
    try simp only [Act.put, List.setIfInBounds_toArray, List.set_cons_zero, List.set_cons_succ]
    refine wpAnyH_take (i := 2) (oi := { dst := some 23, op := Op.load 29 (Operand.tmp 5), type := 29, pos := "law.go:39", after := #[], guard := none }) (v := ?_) rfl (by kernel_rfl) (by kernel_rfl) (by kernel_rfl) (fun _ _ _ h => h) (Or.inl ⟨by rfl, ?_⟩) (by assumption) ?_
    rotate_left
    · intro w hSw
      (try dsimp only at hSw)
      go_simp
      all_goals with_reducible rfl
    try simp only [Act.put, List.setIfInBounds_toArray, List.set_cons_zero, List.set_cons_succ]
    refine wpAnyH_ready (rs := [1]) (by kernel_rfl) (by simp) ?_
    refine AllReadyH.cons (o := { dst := some 22, op := Op.call { callee := Callee.value (Operand.func 13), args := #[Operand.tmp 21], argTypes := #[23] }, type := 3, pos := "law.go:39", after := #[{ on := 0, ground := Ground.data }], guard := none }) rfl (fun K hK => ?_) AllReadyH.nil
    try simp only [Act.put, List.setIfInBounds_toArray, List.set_cons_zero, List.set_cons_succ]
    go_simp
    first
      | (go_at_call 13; refine (SZ.out _).mono ?_; rintro e w' ⟨rfl, hb⟩; have INV := Lib.hid (INV.out.drew.step hb); clear hb)
      | (go_at_call 14; refine (RSZ.out _).mono ?_; rintro e w' ⟨rfl, hb⟩; have INV := Lib.hid (INV.out.step hb); clear hb)
      | (go_at_call 15; refine (CL.out _).mono ?_; rintro e w' ⟨rfl, hb⟩; have INV := Lib.hid (INV.out.step hb); clear hb)
      | (go_at_call 16; refine (BL.out _ (HT.out.below INV.out.below (Nat.le_refl _))).mono ?_; rintro e w' ⟨rfl, hb⟩; have INV := Lib.hid (INV.out.step hb); clear hb)
      | (go_at_call 17; refine (RBL.out _).mono ?_; rintro e w' ⟨rfl, hb⟩; have INV := Lib.hid (INV.out.step hb); clear hb)
    go_wp2_with fail
    refine hK.out _ _ ?_ (fun hHeld => ?_)
    · (try dsimp only)
      first | go_keep | exact INV.out.facts
    clear hK K
    try simp only [Act.put, List.setIfInBounds_toArray, List.set_cons_zero, List.set_cons_succ]
    refine wpAnyH_ready (rs := [3]) (by kernel_rfl) (by simp) ?_
    refine AllReadyH.cons (o := { dst := some 24, op := Op.call { callee := Callee.value (Operand.func 14), args := #[Operand.tmp 23], argTypes := #[29] }, type := 3, pos := "law.go:39", after := #[{ on := 2, ground := Ground.data }, { on := 1, ground := Ground.chain }], guard := none }) rfl (fun K hK => ?_) AllReadyH.nil
    try simp only [Act.put, List.setIfInBounds_toArray, List.set_cons_zero, List.set_cons_succ]
    go_simp
    first
      | (go_at_call 13; refine (SZ.out _).mono ?_; rintro e w' ⟨rfl, hb⟩; have INV := Lib.hid (INV.out.drew.step hb); clear hb)
      | (go_at_call 14; refine (RSZ.out _).mono ?_; rintro e w' ⟨rfl, hb⟩; have INV := Lib.hid (INV.out.step hb); clear hb)
      | (go_at_call 15; refine (CL.out _).mono ?_; rintro e w' ⟨rfl, hb⟩; have INV := Lib.hid (INV.out.step hb); clear hb)
      | (go_at_call 16; refine (BL.out _ (HT.out.below INV.out.below (Nat.le_refl _))).mono ?_; rintro e w' ⟨rfl, hb⟩; have INV := Lib.hid (INV.out.step hb); clear hb)
      | (go_at_call 17; refine (RBL.out _).mono ?_; rintro e w' ⟨rfl, hb⟩; have INV := Lib.hid (INV.out.step hb); clear hb)
    go_wp2_with fail
    refine hK.out _ _ ?_ (fun hHeld => ?_)
    · (try dsimp only)
      first | go_keep | exact INV.out.facts
    clear hK K
    try simp only [Act.put, List.setIfInBounds_toArray, List.set_cons_zero, List.set_cons_succ]
    refine wpAnyH_take (i := 4) (oi := { dst := some 25, op := Op.binOp BinOp.neq 3 (Operand.tmp 22) (Operand.tmp 24) 3, type := 4, pos := "law.go:39", after := #[{ on := 1, ground := Ground.data }, { on := 3, ground := Ground.data }], guard := none }) (v := ?_) rfl (by kernel_rfl) (by kernel_rfl) (by kernel_rfl) (fun _ _ _ h => h) (Or.inl ⟨by rfl, ?_⟩) (by assumption) ?_
    rotate_left
    · intro w hSw
      (try dsimp only at hSw)
      go_simp
      all_goals with_reducible rfl
    try simp only [Act.put, List.setIfInBounds_toArray, List.set_cons_zero, List.set_cons_succ]
    refine wpAnyH_take (i := 5) (oi := { dst := some 26, op := Op.move (Operand.tmp 25), type := 4, pos := "law.go:39", after := #[{ on := 4, ground := Ground.data }, { on := 3, ground := Ground.chain }], guard := none }) (v := ?_) rfl (by kernel_rfl) (by kernel_rfl) (by kernel_rfl) (fun _ _ _ h => h) (Or.inl ⟨by rfl, ?_⟩) (by assumption) ?_
    rotate_left
    · intro w hSw
      (try dsimp only at hSw)
      go_simp
      all_goals with_reducible rfl
    try simp only [Act.put, List.setIfInBounds_toArray, List.set_cons_zero, List.set_cons_succ]
    refine wpAnyH_take (i := 6) (oi := { dst := some 27, op := Op.move (Operand.tmp 7), type := 4, pos := "law.go:39", after := #[{ on := 5, ground := Ground.guard }], guard := some (5, false) }) (v := ?_) rfl (by kernel_rfl) (by kernel_rfl) (by kernel_rfl) (fun _ _ _ h => h) (Or.inl ⟨by rfl, ?_⟩) (by assumption) ?_
    rotate_left
    · intro w hSw
      (try dsimp only at hSw)
      go_simp
      all_goals with_reducible rfl
    try simp only [Act.put, List.setIfInBounds_toArray, List.set_cons_zero, List.set_cons_succ]
    refine wpAnyH_take (i := 7) (oi := { dst := some 28, op := Op.load 29 (Operand.tmp 5), type := 29, pos := "law.go:39", after := #[{ on := 5, ground := Ground.guard }], guard := some (5, false) }) (v := ?_) rfl (by kernel_rfl) (by kernel_rfl) (by kernel_rfl) (fun _ _ _ h => h) (Or.inl ⟨by rfl, ?_⟩) (by assumption) ?_
    rotate_left
    · intro w hSw
      (try dsimp only at hSw)
      go_simp
      all_goals with_reducible rfl
    try simp only [Act.put, List.setIfInBounds_toArray, List.set_cons_zero, List.set_cons_succ]
    refine wpAnyH_ready (rs := [8]) (by kernel_rfl) (by simp) ?_
    refine AllReadyH.cons (o := { dst := some 29, op := Op.call { callee := Callee.value (Operand.func 15), args := #[Operand.tmp 28], argTypes := #[29] }, type := 3, pos := "law.go:39", after := #[{ on := 7, ground := Ground.data }, { on := 5, ground := Ground.chain }, { on := 5, ground := Ground.guard }], guard := some (5, false) }) rfl (fun K hK => ?_) AllReadyH.nil
    try simp only [Act.put, List.setIfInBounds_toArray, List.set_cons_zero, List.set_cons_succ]
    go_simp
    first
      | (go_at_call 13; refine (SZ.out _).mono ?_; rintro e w' ⟨rfl, hb⟩; have INV := Lib.hid (INV.out.drew.step hb); clear hb)
      | (go_at_call 14; refine (RSZ.out _).mono ?_; rintro e w' ⟨rfl, hb⟩; have INV := Lib.hid (INV.out.step hb); clear hb)
      | (go_at_call 15; refine (CL.out _).mono ?_; rintro e w' ⟨rfl, hb⟩; have INV := Lib.hid (INV.out.step hb); clear hb)
      | (go_at_call 16; refine (BL.out _ (HT.out.below INV.out.below (Nat.le_refl _))).mono ?_; rintro e w' ⟨rfl, hb⟩; have INV := Lib.hid (INV.out.step hb); clear hb)
      | (go_at_call 17; refine (RBL.out _).mono ?_; rintro e w' ⟨rfl, hb⟩; have INV := Lib.hid (INV.out.step hb); clear hb)
    go_wp2_with fail
    refine hK.out _ _ ?_ (fun hHeld => ?_)
    · (try dsimp only)
      first | go_keep | exact INV.out.facts
    clear hK K
    try simp only [Act.put, List.setIfInBounds_toArray, List.set_cons_zero, List.set_cons_succ]
    refine wpAnyH_take (i := 9) (oi := { dst := some 30, op := Op.binOp BinOp.geq 3 (Operand.tmp 29) (Operand.const (Value.int IntKind.i64 0)) 3, type := 4, pos := "law.go:39", after := #[{ on := 8, ground := Ground.data }, { on := 5, ground := Ground.guard }], guard := some (5, false) }) (v := ?_) rfl (by kernel_rfl) (by kernel_rfl) (by kernel_rfl) (fun _ _ _ h => h) (Or.inl ⟨by rfl, ?_⟩) (by assumption) ?_
    rotate_left
    · intro w hSw
      (try dsimp only at hSw)
      go_simp
      all_goals with_reducible rfl
    try simp only [Act.put, List.setIfInBounds_toArray, List.set_cons_zero, List.set_cons_succ]
    refine wpAnyH_take (i := 10) (oi := { dst := some 31, op := Op.binOp BinOp.neq 4 (Operand.tmp 27) (Operand.tmp 30) 4, type := 4, pos := "law.go:39", after := #[{ on := 6, ground := Ground.data }, { on := 9, ground := Ground.data }, { on := 5, ground := Ground.guard }], guard := some (5, false) }) (v := ?_) rfl (by kernel_rfl) (by kernel_rfl) (by kernel_rfl) (fun _ _ _ h => h) (Or.inl ⟨by rfl, ?_⟩) (by assumption) ?_
    rotate_left
    · intro w hSw
      (try dsimp only at hSw)
      go_simp
      all_goals with_reducible rfl
    try simp only [Act.put, List.setIfInBounds_toArray, List.set_cons_zero, List.set_cons_succ]
    refine wpAnyH_take (i := 11) (oi := { dst := some 32, op := Op.pick (Operand.tmp 26) (Operand.const (Value.bool true)) (Operand.tmp 31), type := 4, pos := "law.go:39", after := #[{ on := 5, ground := Ground.data }, { on := 10, ground := Ground.data }], guard := none }) (v := ?_) rfl (by kernel_rfl) (by kernel_rfl) (by kernel_rfl) (fun _ _ _ h => h) (Or.inl ⟨by rfl, ?_⟩) (by assumption) ?_
    rotate_left
    · intro w hSw
      (try dsimp only at hSw)
      go_simp
      all_goals with_reducible rfl
    try simp only [Act.put, List.setIfInBounds_toArray, List.set_cons_zero, List.set_cons_succ]
    refine wpAnyH_take (i := 12) (oi := { dst := some 33, op := Op.move (Operand.tmp 32), type := 4, pos := "law.go:39", after := #[{ on := 11, ground := Ground.data }, { on := 8, ground := Ground.chain }], guard := none }) (v := ?_) rfl (by kernel_rfl) (by kernel_rfl) (by kernel_rfl) (fun _ _ _ h => h) (Or.inl ⟨by rfl, ?_⟩) (by assumption) ?_
    rotate_left
    · intro w hSw
      (try dsimp only at hSw)
      go_simp
      all_goals with_reducible rfl
    try simp only [Act.put, List.setIfInBounds_toArray, List.set_cons_zero, List.set_cons_succ]
    refine wpAnyH_take (i := 13) (oi := { dst := some 34, op := Op.move (Operand.tmp 7), type := 4, pos := "law.go:39", after := #[{ on := 12, ground := Ground.guard }], guard := some (12, false) }) (v := ?_) rfl (by kernel_rfl) (by kernel_rfl) (by kernel_rfl) (fun _ _ _ h => h) (Or.inl ⟨by rfl, ?_⟩) (by assumption) ?_
    rotate_left
    · intro w hSw
      (try dsimp only at hSw)
      go_simp
      all_goals with_reducible rfl
    try simp only [Act.put, List.setIfInBounds_toArray, List.set_cons_zero, List.set_cons_succ]
    refine wpAnyH_take (i := 14) (oi := { dst := some 35, op := Op.move (Operand.tmp 34), type := 4, pos := "law.go:39", after := #[{ on := 13, ground := Ground.data }, { on := 12, ground := Ground.chain }, { on := 12, ground := Ground.guard }], guard := some (12, false) }) (v := ?_) rfl (by kernel_rfl) (by kernel_rfl) (by kernel_rfl) (fun _ _ _ h => h) (Or.inl ⟨by rfl, ?_⟩) (by assumption) ?_
    rotate_left
    · intro w hSw
      (try dsimp only at hSw)
      go_simp
      all_goals with_reducible rfl
    try simp only [Act.put, List.setIfInBounds_toArray, List.set_cons_zero, List.set_cons_succ]
    refine wpAnyH_take (i := 15) (oi := { dst := some 36, op := Op.move (Operand.tmp 6), type := 3, pos := "law.go:39", after := #[{ on := 14, ground := Ground.guard }], guard := some (14, true) }) (v := undef) rfl (by kernel_rfl) (by kernel_rfl) (by kernel_rfl) (fun _ _ _ h => h) (Or.inr ⟨by rfl, rfl⟩) (by assumption) ?_
    try simp only [Act.put, List.setIfInBounds_toArray, List.set_cons_zero, List.set_cons_succ]
    refine wpAnyH_take (i := 16) (oi := { dst := some 37, op := Op.load 29 (Operand.tmp 5), type := 29, pos := "law.go:39", after := #[{ on := 14, ground := Ground.guard }], guard := some (14, true) }) (v := undef) rfl (by kernel_rfl) (by kernel_rfl) (by kernel_rfl) (fun _ _ _ h => h) (Or.inr ⟨by rfl, rfl⟩) (by assumption) ?_
    try simp only [Act.put, List.setIfInBounds_toArray, List.set_cons_zero, List.set_cons_succ]
    refine wpAnyH_take (i := 17) (oi := { dst := some 38, op := Op.call { callee := Callee.value (Operand.func 15), args := #[Operand.tmp 37], argTypes := #[29] }, type := 3, pos := "law.go:39", after := #[{ on := 16, ground := Ground.data }, { on := 14, ground := Ground.chain }, { on := 14, ground := Ground.guard }], guard := some (14, true) }) (v := undef) rfl (by kernel_rfl) (by kernel_rfl) (by kernel_rfl) (fun _ _ _ h => h) (Or.inr ⟨by rfl, rfl⟩) (by assumption) ?_
    try simp only [Act.put, List.setIfInBounds_toArray, List.set_cons_zero, List.set_cons_succ]
    refine wpAnyH_take (i := 18) (oi := { dst := some 39, op := Op.binOp BinOp.neq 3 (Operand.tmp 36) (Operand.tmp 38) 3, type := 4, pos := "law.go:39", after := #[{ on := 15, ground := Ground.data }, { on := 17, ground := Ground.data }, { on := 14, ground := Ground.guard }], guard := some (14, true) }) (v := undef) rfl (by kernel_rfl) (by kernel_rfl) (by kernel_rfl) (fun _ _ _ h => h) (Or.inr ⟨by rfl, rfl⟩) (by assumption) ?_
    try simp only [Act.put, List.setIfInBounds_toArray, List.set_cons_zero, List.set_cons_succ]
    refine wpAnyH_take (i := 19) (oi := { dst := some 40, op := Op.pick (Operand.tmp 35) (Operand.tmp 39) (Operand.const (Value.bool false)), type := 4, pos := "law.go:39", after := #[{ on := 14, ground := Ground.data }, { on := 18, ground := Ground.data }, { on := 12, ground := Ground.guard }], guard := some (12, false) }) (v := ?_) rfl (by kernel_rfl) (by kernel_rfl) (by kernel_rfl) (fun _ _ _ h => h) (Or.inl ⟨by rfl, ?_⟩) (by assumption) ?_
    rotate_left
    · intro w hSw
      (try dsimp only at hSw)
      go_simp
      all_goals with_reducible rfl
    try simp only [Act.put, List.setIfInBounds_toArray, List.set_cons_zero, List.set_cons_succ]
    refine wpAnyH_take (i := 20) (oi := { dst := some 41, op := Op.pick (Operand.tmp 33) (Operand.const (Value.bool true)) (Operand.tmp 40), type := 4, pos := "law.go:39", after := #[{ on := 12, ground := Ground.data }, { on := 19, ground := Ground.data }], guard := none }) (v := ?_) rfl (by kernel_rfl) (by kernel_rfl) (by kernel_rfl) (fun _ _ _ h => h) (Or.inl ⟨by rfl, ?_⟩) (by assumption) ?_
    rotate_left
    · intro w hSw
      (try dsimp only at hSw)
      go_simp
      all_goals with_reducible rfl
    try simp only [Act.put, List.setIfInBounds_toArray, List.set_cons_zero, List.set_cons_succ]
    refine wpAnyH_take (i := 21) (oi := { dst := some 42, op := Op.move (Operand.tmp 41), type := 4, pos := "law.go:39", after := #[{ on := 20, ground := Ground.data }, { on := 17, ground := Ground.chain }], guard := none }) (v := ?_) rfl (by kernel_rfl) (by kernel_rfl) (by kernel_rfl) (fun _ _ _ h => h) (Or.inl ⟨by rfl, ?_⟩) (by assumption) ?_
    rotate_left
    · intro w hSw
      (try dsimp only at hSw)
      go_simp
      all_goals with_reducible rfl
    try simp only [Act.put, List.setIfInBounds_toArray, List.set_cons_zero, List.set_cons_succ]
    refine wpAnyH_take (i := 22) (oi := { dst := some 43, op := Op.load 23 (Operand.tmp 2), type := 23, pos := "law.go:39", after := #[{ on := 21, ground := Ground.guard }], guard := some (21, false) }) (v := ?_) rfl (by kernel_rfl) (by kernel_rfl) (by kernel_rfl) (fun _ _ _ h => h) (Or.inl ⟨by rfl, ?_⟩) (by assumption) ?_
    rotate_left
    · intro w hSw
      (try dsimp only at hSw)
      go_simp
      all_goals with_reducible rfl
    try simp only [Act.put, List.setIfInBounds_toArray, List.set_cons_zero, List.set_cons_succ]
    refine wpAnyH_take (i := 24) (oi := { dst := some 45, op := Op.load 29 (Operand.tmp 5), type := 29, pos := "law.go:39", after := #[{ on := 21, ground := Ground.guard }], guard := some (21, false) }) (v := ?_) rfl (by kernel_rfl) (by kernel_rfl) (by kernel_rfl) (fun _ _ _ h => h) (Or.inl ⟨by rfl, ?_⟩) (by assumption) ?_
    rotate_left
    · intro w hSw
      (try dsimp only at hSw)
      go_simp
      all_goals with_reducible rfl
    try simp only [Act.put, List.setIfInBounds_toArray, List.set_cons_zero, List.set_cons_succ]
    refine wpAnyH_ready (rs := [23]) (by kernel_rfl) (by simp) ?_
    refine AllReadyH.cons (o := { dst := some 44, op := Op.call { callee := Callee.value (Operand.func 16), args := #[Operand.tmp 43], argTypes := #[23] }, type := 3, pos := "law.go:39", after := #[{ on := 22, ground := Ground.data }, { on := 21, ground := Ground.chain }, { on := 21, ground := Ground.guard }], guard := some (21, false) }) rfl (fun K hK => ?_) AllReadyH.nil
    try simp only [Act.put, List.setIfInBounds_toArray, List.set_cons_zero, List.set_cons_succ]
    go_simp
    first
      | (go_at_call 13; refine (SZ.out _).mono ?_; rintro e w' ⟨rfl, hb⟩; have INV := Lib.hid (INV.out.drew.step hb); clear hb)
      | (go_at_call 14; refine (RSZ.out _).mono ?_; rintro e w' ⟨rfl, hb⟩; have INV := Lib.hid (INV.out.step hb); clear hb)
      | (go_at_call 15; refine (CL.out _).mono ?_; rintro e w' ⟨rfl, hb⟩; have INV := Lib.hid (INV.out.step hb); clear hb)
      | (go_at_call 16; refine (BL.out _ (HT.out.below INV.out.below (Nat.le_refl _))).mono ?_; rintro e w' ⟨rfl, hb⟩; have INV := Lib.hid (INV.out.step hb); clear hb)
      | (go_at_call 17; refine (RBL.out _).mono ?_; rintro e w' ⟨rfl, hb⟩; have INV := Lib.hid (INV.out.step hb); clear hb)
    go_wp2_with fail
    refine hK.out _ _ ?_ (fun hHeld => ?_)
    · (try dsimp only)
      first | go_keep | exact INV.out.facts
    clear hK K
    try simp only [Act.put, List.setIfInBounds_toArray, List.set_cons_zero, List.set_cons_succ]
    refine wpAnyH_ready (rs := [25]) (by kernel_rfl) (by simp) ?_
    refine AllReadyH.cons (o := { dst := some 46, op := Op.call { callee := Callee.value (Operand.func 17), args := #[Operand.tmp 45], argTypes := #[29] }, type := 3, pos := "law.go:39", after := #[{ on := 24, ground := Ground.data }, { on := 23, ground := Ground.chain }, { on := 21, ground := Ground.guard }], guard := some (21, false) }) rfl (fun K hK => ?_) AllReadyH.nil
    try simp only [Act.put, List.setIfInBounds_toArray, List.set_cons_zero, List.set_cons_succ]
    go_simp
    first
      | (go_at_call 13; refine (SZ.out _).mono ?_; rintro e w' ⟨rfl, hb⟩; have INV := Lib.hid (INV.out.drew.step hb); clear hb)
      | (go_at_call 14; refine (RSZ.out _).mono ?_; rintro e w' ⟨rfl, hb⟩; have INV := Lib.hid (INV.out.step hb); clear hb)
      | (go_at_call 15; refine (CL.out _).mono ?_; rintro e w' ⟨rfl, hb⟩; have INV := Lib.hid (INV.out.step hb); clear hb)
      | (go_at_call 16; refine (BL.out _ (HT.out.below INV.out.below (Nat.le_refl _))).mono ?_; rintro e w' ⟨rfl, hb⟩; have INV := Lib.hid (INV.out.step hb); clear hb)
      | (go_at_call 17; refine (RBL.out _).mono ?_; rintro e w' ⟨rfl, hb⟩; have INV := Lib.hid (INV.out.step hb); clear hb)
    go_wp2_with fail
    refine hK.out _ _ ?_ (fun hHeld => ?_)
    · (try dsimp only)
      first | go_keep | exact INV.out.facts
    clear hK K
    try simp only [Act.put, List.setIfInBounds_toArray, List.set_cons_zero, List.set_cons_succ]
    refine wpAnyH_take (i := 26) (oi := { dst := some 47, op := Op.binOp BinOp.neq 3 (Operand.tmp 44) (Operand.tmp 46) 3, type := 4, pos := "law.go:39", after := #[{ on := 23, ground := Ground.data }, { on := 25, ground := Ground.data }, { on := 21, ground := Ground.guard }], guard := some (21, false) }) (v := ?_) rfl (by kernel_rfl) (by kernel_rfl) (by kernel_rfl) (fun _ _ _ h => h) (Or.inl ⟨by rfl, ?_⟩) (by assumption) ?_
    rotate_left
    · intro w hSw
      (try dsimp only at hSw)
      go_simp
      all_goals with_reducible rfl
    try simp only [Act.put, List.setIfInBounds_toArray, List.set_cons_zero, List.set_cons_succ]
    refine wpAnyH_take (i := 27) (oi := { dst := some 48, op := Op.pick (Operand.tmp 42) (Operand.const (Value.bool true)) (Operand.tmp 47), type := 4, pos := "law.go:39", after := #[{ on := 21, ground := Ground.data }, { on := 26, ground := Ground.data }], guard := none }) (v := ?_) rfl (by kernel_rfl) (by kernel_rfl) (by kernel_rfl) (fun _ _ _ h => h) (Or.inl ⟨by rfl, ?_⟩) (by assumption) ?_
    rotate_left
    · intro w hSw
      (try dsimp only at hSw)
      go_simp
      all_goals with_reducible rfl
    try simp only [Act.put, List.setIfInBounds_toArray, List.set_cons_zero, List.set_cons_succ]
    refine wpAnyH_done (by kernel_rfl) ?_ _
    exact ⟨rfl, INV.out⟩
  clear INV c0 c1 d0 d1
  intro W5 hB
  have INV := Lib.hid hB
  clear hB
  obtain ⟨c0, c1, d0, d1⟩ := INV.out.facts
  go_wp2_with (first
    | (refine wpList_load_boxT rfl _ _ rfl (b := g) rfl INV.out.r Tryd.underlying29 rfl infoRO ?_)
    | fail)
  refine (RSZ.out _).mono ?_
  rintro e W5b ⟨rfl, hb⟩
  have INV := Lib.hid (INV.out.step hb)
  clear hb c0 c1 d0 d1
  rcases HN.out with rfl | ⟨hm, hz⟩
  · go_wp2_with fail
    go_ret
    exact ⟨rfl, INV.out.below⟩
  obtain ⟨⟨m0, m1⟩, m2, m3⟩ := MAY.out hm
  have PTR := Lib.hid (PTR.out hm)
  have DAT := Lib.hid (DAT.out hm)
  clear hm
  obtain ⟨c0, c1, d0, d1⟩ := INV.out.facts
  go_wp2_with (first
    | (refine wpList_load_boxT rfl _ _ rfl (b := w.heap.size) rfl INV.out.h Tryd.underlying23 rfl infoO ?_)
    | fail)
  refine (PTR.out _).mono ?_
  rintro e W6 ⟨rfl, hb⟩
  have INV := Lib.hid (INV.out.step hb)
  clear hb c0 c1 d0 d1
  obtain ⟨c0, c1, d0, d1⟩ := INV.out.facts
  go_wp2_with (first
    | (refine wpList_load_boxT rfl _ _ rfl (b := w.heap.size) rfl INV.out.h Tryd.underlying23 rfl infoO ?_)
    | fail)
  refine (DAT.out _).mono ?_
  rintro e W7 ⟨rfl, hb⟩
  have INV := Lib.hid (INV.out.step hb)
  clear hb c0 c1 d0 d1
  obtain ⟨c0, c1, d0, d1⟩ := INV.out.facts
  by_cases q1 : a1 < a0_0
  · by_cases q2 : a1 < a0_1
    · go_wp2_with fail
      go_ret
      exact ⟨rfl, INV.out.below⟩
    · have q2' : decide (a1 < a0_1) = false := decide_eq_false q2
      go_wp2_with fail
      go_ret
      exact ⟨rfl, INV.out.below⟩
  · have q1' : decide (a1 < a0_0) = false := decide_eq_false q1
    by_cases q2 : a1 < a0_1
    · go_wp2_with fail
      go_ret
      exact ⟨rfl, INV.out.below⟩
    · have q2' : decide (a1 < a0_1) = false := decide_eq_false q2
      go_wp2_with fail
      go_ret
      exact ⟨rfl, INV.out.below⟩


set_option maxRecDepth 100000 in
set_option maxHeartbeats 1000000 in
theorem walk  (a0_0 a0_1 : Int) (a1 : Int) (w : World) (w0_0 : (Lit.int .i64 a0_0).wf = true) (w0_1 : (Lit.int .i64 a0_1).wf = true) (w1 : (Lit.int .u16 a1).wf = true) (t0 : Lib.TabIs Tryd.prog w "taproot/class.cell" .i64 [2, 3, 4, 5, 6, 7, 8, 10, 12, 14, 16, 18, 20, 24, 28, 32, 36, 40, 46, 51, 56, 64, 73, 85, 92, 102, 113, 128, 146, 170, 204, 256]) :
    Calls Tryd.prog 4 #[.agg #[.int .i64 a0_0, .int .i64 a0_1], .int .u16 a1] w fun e w' => e = .returned (.bool true) ∧ Below w.heap.size w w' := by
  have hT : HasCells w := fun i hi => by
    have := t0.cell (g := 0) (by kernel_rfl) i hi
    exact this.trans (by rw [← cells_same i hi]; rfl)
  have HT := Lib.hid hT
  have bu := bounds_u16 w1
  have b0 : 0 ≤ a1 := by omega
  have b1 : a1 ≤ 65535 := by omega
  clear hT t0 w0_0 w0_1 w1 bu
  have SM : Hid (∀ w, HasCells w → Calls Tryd.prog 12 #[.agg #[.int .i64 a0_0, .int .i64 a0_1]] w (MadeOne (.tuple #[.int .i64 ((clsC (sizeO a0_0 a0_1)).getD 0 : Nat), .bool (clsC (sizeO a0_0 a0_1)).isSome]) w)) := Lib.hid fun w h => objSmall_any _ _ w h
  have SZ : Hid (∀ w, Calls Tryd.prog 13 #[.agg #[.int .i64 a0_0, .int .i64 a0_1]] w (MadeOne (.int .i64 (sizeO a0_0 a0_1)) w)) := Lib.hid fun w => objSize_any _ _ w
  have RSZ : Hid (∀ w, Calls Tryd.prog 14 #[.agg #[.int .i64 a0_0, .int .i64 a0_1]] w (MadeOne (.int .i64 (sizeO a0_0 a0_1)) w)) := Lib.hid fun w => refSize08_any _ _ w
  have CL : Hid (∀ w, Calls Tryd.prog 15 #[.agg #[.int .i64 a0_0, .int .i64 a0_1]] w (MadeOne (.int .i64 (zC (sizeO a0_0 a0_1))) w)) := Lib.hid fun w => refClass08_any _ _ w
  have BL : Hid (∀ w, HasCells w → Calls Tryd.prog 16 #[.agg #[.int .i64 a0_0, .int .i64 a0_1]] w (MadeOne (.int .i64 (blocksO a0_0 a0_1)) w)) := Lib.hid fun w h => objBlocks_any _ _ w h
  have RBL : Hid (∀ w, Calls Tryd.prog 17 #[.agg #[.int .i64 a0_0, .int .i64 a0_1]] w (MadeOne (.int .i64 (blocksO a0_0 a0_1)) w)) := Lib.hid fun w => refBlocks08_any _ _ w
  have PTR : Hid (mayO a0_0 a0_1 = true → ∀ w, Calls Tryd.prog 18 #[.agg #[.int .i64 a0_0, .int .i64 a0_1], .int .i64 a1] w (MadeOne (.tuple #[.int .i64 (1 + a1), .bool (decide (a1 < a0_0))]) w)) := Lib.hid fun h w => by
    have := objPtr_any a0_0 a0_1 a1 w
    rwa [show wrap64 (1 + a1) = 1 + a1 by unfold wrap64; omega, show inO a1 a0_0 = decide (a1 < a0_0) by unfold inO; rw [decide_eq_decide]; omega] at this
  have DAT : Hid (mayO a0_0 a0_1 = true → ∀ w, Calls Tryd.prog 19 #[.agg #[.int .i64 a0_0, .int .i64 a0_1], .int .i64 a1] w (MadeOne (.tuple #[.int .i64 (1 + a0_0 + a1), .bool (decide (a1 < a0_1))]) w)) := Lib.hid fun h w => by
    have hm := may_iff.1 h
    have := objData_any a0_0 a0_1 a1 w
    rwa [show wrap64 (wrap64 (1 + a0_0) + a1) = 1 + a0_0 + a1 by unfold wrap64; omega, show inO a1 a0_1 = decide (a1 < a0_1) by unfold inO; rw [decide_eq_decide]; omega] at this
  have MAY : Hid (mayO a0_0 a0_1 = true → (0 ≤ a0_0 ∧ a0_0 ≤ 63) ∧ (0 ≤ a0_1 ∧ a0_1 ≤ 16384)) := Lib.hid fun h => may_iff.1 h
  generalize blocksO a0_0 a0_1 = bl at *
  have KIND := Lib.hid (kinds a0_0 a0_1)
  rcases KIND.out with ⟨-, hz, hc, h1⟩ | ⟨hm, hz, hc, h1⟩ | ⟨hm, hz, k, hc, h1⟩
  · rw [hc] at SM
    rw [h1] at CL
    rw [hz] at SZ RSZ
    exact tellsF w a0_0 a0_1 a1 bl 0 0 HT b0 b1 (Lib.hid (.inl rfl)) SM SZ RSZ CL BL RBL PTR DAT MAY
  · rw [hc] at SM
    rw [h1] at CL
    exact tellsF w a0_0 a0_1 a1 bl _ 0 HT b0 b1 (Lib.hid (.inr ⟨hm, hz⟩)) SM SZ RSZ CL BL RBL PTR DAT MAY
  · rw [hc] at SM
    rw [h1] at CL
    exact tellsT w a0_0 a0_1 a1 bl _ k HT b0 b1 (Lib.hid (.inr ⟨hm, hz⟩)) SM SZ RSZ CL BL RBL PTR DAT MAY

theorem gTab0 : Tryd.prog.globalNamed "taproot/class.cell" = some 0 := by kernel_rfl
theorem gType0 : (Tryd.prog.globals[0]?).map (·.type) = some 60 := by kernel_rfl
theorem table0 {W : World} (h : laidMetH Tryd.prog Rows.oheadTellsRow.laid W) : Lib.TabIs Tryd.prog W "taproot/class.cell" .i64 [2, 3, 4, 5, 6, 7, 8, 10, 12, 14, 16, 18, 20, 24, 28, 32, 36, 40, 46, 51, 56, 64, 73, 85, 92, 102, 113, 128, 146, 170, 204, 256] :=
  Lib.tabIs_of_head gTab0 gType0 Tryd.underlying60 Tryd.underlying3 (by kernel_rfl) (by kernel_rfl) h

theorem contract (H : Type) (enc : TypeId × Value → H) (W : World) (base : Nat) (args : Array Value) (ds gs : List (DataW H)) (before : List MemPlace)
    (hval : ∀ (j : Nat) t v, Tryd.f4.params[j]? = some t → args[j]? = some v → Value.okWide Tryd.prog W .any base t v)
    (hW : DataW.Whole enc Tryd.prog Tryd.f4.params.toList Rows.oheadTellsSpec.vars false W args.toList ds gs before) (hL : laidMetH Tryd.prog Rows.oheadTellsRow.laid W) :
    Calls Tryd.prog 4 args W fun e W' => ∃ v, e = .returned v ∧ Rows.oheadTellsSpec.post enc Tryd.prog Tryd.f4 false true false false W args v W' := by
  have hW' := hW
  obtain ⟨p, q, hA0, hV, rfl, hfz, hnd⟩ := hW
  have hA : DataW.TrodAll enc Tryd.prog W 0 (fun _ => true) true Tryd.f4.params.toList args.toList ds p := hA0
  rw [Tryd.params4] at hA hval
  obtain ⟨v0, vs0, d0, ds0, p0, q0, hargs, rfl, rfl, h0, r0⟩ := trodAll_cons hA
  obtain ⟨v1, vs1, d1, ds1, p1, q1, rfl, rfl, rfl, h1, r1⟩ := trodAll_cons r0
  obtain ⟨rfl, rfl, rfl⟩ := trodAll_nil r1
  obtain rfl : args = #[v0, v1] := by cases args; simp_all
  obtain ⟨rfl, rfl⟩ := trodVars_none hV
  have k0 := h0
  have lt0 : ∀ x ∈ p0, x.block < W.heap.size := by obtain ⟨m, hm⟩ := k0; exact DataW.trod_lt m _ _ _ hm
  obtain ⟨z0, hz0, rfl, wz0⟩ := struct_ints Tryd.underlying23 (by kernel_rfl) [.i64, .i64] (by kernel_rfl) (by kernel_rfl) (by kernel_rfl) (hval 0 23 v0 rfl rfl) h0
  obtain ⟨a0_0, a0_1, rfl⟩ := list2 hz0
  have w0_0 : (Lit.int .i64 a0_0).wf = true := wz0 (.i64, a0_0) (by simp)
  have w0_1 : (Lit.int .i64 a0_1).wf = true := wz0 (.i64, a0_1) (by simp)
  clear wz0 hz0
  simp only [vals, List.zip_cons_cons, List.zip_nil_right, List.map_cons, List.map_nil] at k0 ⊢
  obtain ⟨a1, rfl, rfl, rfl, w1⟩ := open_int Tryd.underlying36 (hval 1 36 v1 rfl rfl) h1
  clear hA0
  refine (walk a0_0 a0_1 a1 W w0_0 w0_1 w1 (table0 hL)).mono fun e W' ⟨he, bel⟩ => ?_
  subst he
  exact ⟨_, rfl, _, _, _, [], _, [], hW', trodAll_mk1 (shut_bool Tryd.underlying4 _), (trodAll_cons_mk (Below.trod laidOut (by kernel_rfl) (of_decide_eq_true (by kernel_rfl)) k0 bel lt0) (trodAll_cons_mk (shut_int Tryd.underlying36 w1) trodAll_mk0)), rfl, bel.frame _, fun h => by cases h⟩

noncomputable def laidWorld (os : Os) : World :=
  { World.holding Tryd.prog os ⟨#[], #[], []⟩ with heap := ((World.holding Tryd.prog os ⟨#[], #[], []⟩).heap).modify 0 fun
      | .cells _ t frozen => .cells #[.int .i64 2, .int .i64 3, .int .i64 4, .int .i64 5, .int .i64 6, .int .i64 7, .int .i64 8, .int .i64 10, .int .i64 12, .int .i64 14, .int .i64 16, .int .i64 18, .int .i64 20, .int .i64 24, .int .i64 28, .int .i64 32, .int .i64 36, .int .i64 40, .int .i64 46, .int .i64 51, .int .i64 56, .int .i64 64, .int .i64 73, .int .i64 85, .int .i64 92, .int .i64 102, .int .i64 113, .int .i64 128, .int .i64 146, .int .i64 170, .int .i64 204, .int .i64 256] t frozen
      | o => o }
theorem laid_met (os : Os) : laidMet Tryd.prog Rows.oheadTellsRow.laid ((laidWorld os).forCall (fun _ _ => 0) ⟨#[], #[.agg #[.int .i64 0, .int .i64 0], .int .u16 0], []⟩).memory :=
  laidMet_of_run' 8 (by kernel_rfl) (by kernel_rfl)
theorem reads (os : Os) {H : Type} (enc : TypeId × Value → H) : ∃ x, DataW.whole enc Tryd.prog ((laidWorld os).forCall (fun _ _ => 0) ⟨#[], #[.agg #[.int .i64 0, .int .i64 0], .int .u16 0], []⟩).memory Tryd.f4.params.toList Rows.oheadTellsSpec.vars false (#[.agg #[.int .i64 0, .int .i64 0], .int .u16 0] : Array Value).toList 8 = some ([.agg [.lit (.int .i64 0), .lit (.int .i64 0)], .lit (.int .u16 0)], [], x) :=
  ⟨[], by kernel_rfl⟩

set_option maxRecDepth 100000 in
theorem lifted (os : Os) (started : os.Started) (H : Type) (enc : TypeId × Value → H) (F : Stop.Interp) :
    ReturnsInHanded {} Tryd.checked os 4 .any ((OpenSpec.ofChange Rows.oheadTellsSpec).preRow enc Tryd.prog Tryd.f4 Rows.oheadTellsRow.domain false Rows.oheadTellsRow.laid) (((OpenSpec.ofChange Rows.oheadTellsSpec).at F).post enc Tryd.prog Tryd.f4 false true false false) := by
  obtain ⟨places, hx⟩ := reads os enc
  refine returnsInHanded_of_row (C := Tryd.checked) (s := OpenSpec.ofChange Rows.oheadTellsSpec) own started (by kernel_rfl) Tryd.func4
    (witness_row_at (enc := enc) (C := Tryd.checked) false (laidWorld os) #[.agg #[.int .i64 0, .int .i64 0], .int .u16 0] rfl (by kernel_rfl) (by kernel_rfl) (by kernel_rfl)
      (OpenSpec.preRow_of_cond 8 hx (by kernel_rfl) (fun k hk => by cases hk) (by kernel_rfl) (laid_met os))) ?_
  intro W base args ds gs before hval hW _ hcond hreach hL hsh _
  exact contract H enc W base args ds gs before hval hW hL

theorem said : Rows.OheadTellsSaid :=
  OpenClaim.holds_of_cond 4 Tryd.f4 rfl rfl rfl rfl rfl rfl rfl ⟨rfl, rfl, rfl, rfl, rfl⟩ rfl rfl rfl rfl rfl (by kernel_rfl) Tryd.func4 (by kernel_rfl)
    (of_decide_eq_true (by kernel_rfl)) (by unfold Func.isWrapper; first | (rw [if_pos (by decide +kernel)]; kernel_rfl) | (rw [if_neg (by decide +kernel)]; exact ⟨rfl, rfl⟩))
    (fun os started H enc _ F => by rw [OpenClaim.pre_eq_preRow]; exact lifted os started H enc F)

theorem plain (f : FuncId) (fn : Func) (hf : Tryd.pinned.checked.prog.funcNamed "taproot/taprootlaw08.OheadTells" = some f) (hfn : Tryd.pinned.checked.prog.funcs[f]? = some fn) :
    false = Tryd.pinned.checked.prog.looks [] ∧ ∀ (j : Nat) t, fn.params[j]? = some t → Tryd.pinned.checked.prog.wantsStandIn t = false := by
  obtain rfl : f = 4 := Option.some.inj ((show Tryd.prog.funcNamed "taproot/taprootlaw08.OheadTells" = some 4 by kernel_rfl).symm.trans hf) |>.symm
  obtain rfl : fn = Tryd.f4 := (Option.some.inj (Tryd.func4.symm.trans hfn)).symm
  refine ⟨by kernel_rfl, fun j t ht => ?_⟩
  rw [Tryd.params4] at ht
  have hm := Array.mem_of_getElem? ht
  simp only [List.mem_toArray, List.mem_cons, List.not_mem_nil, or_false] at hm
  rcases hm with rfl | rfl
  · exact (show Tryd.prog.wantsStandIn 23 = false by kernel_rfl)
  · exact (show Tryd.prog.wantsStandIn 36 = false by kernel_rfl)

/-- The card: the statement. -/
theorem proved : Rows.OheadTellsCardSaid :=
  Claim7.holds_tied_plain_at .later [] _ _ _ _ said (fun _ h => by cases h) (by kernel_rfl) (fun _ h => by cases h) oheadTells_row_tie rfl ⟨rfl, rfl⟩ (by kernel_rfl) rfl plain (by kernel_rfl)
#print axioms proved
end Go.Proofs.YtdhakfkcenfdoaaDoor.oheadTells
