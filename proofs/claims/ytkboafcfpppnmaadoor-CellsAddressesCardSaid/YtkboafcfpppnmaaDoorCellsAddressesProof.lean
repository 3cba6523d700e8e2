/-
  Where any cell begins, which cell begins at any address, and of which one it is a word, is what the page says; for devices of 0 to 255 blocks, any class, any address, any cell.
  Conditions: none beyond the row (every argument that can be read as data); the tables that the row lists hold what the text lays, which the card ties.
-/
import Derived.Test.YtkboafcfpppnmaaDoorPre
import Derived.Test.YtkboafcfpppnmaaDoorCards
import Derived.Test.YtkboafcfpppnmaaDoorTie
import Derived.Deep.DeepHandedRow
import Derived.Lib.LaidTab
import Derived.Test.YtkboafcfpppnmaaDoorAwake09
import Derived.Test.YtkboafcfpppnmaaDoorCellsHold
import Derived.Test.YtkboafcfpppnmaaDoorRefCells
import Derived.Laws.StructEq
import Derived.Test.YtkboafcfpppnmaaDoorStructs
namespace Go.Proofs.YtkboafcfpppnmaaDoor.cellsAddresses
open Go.ChangeShapes Go.WideShapes Go.ChangeAt Go.RowKit
open Go.ChangeMaps (open_string shut_string)
set_option linter.unusedVariables false

open Cl Ce

theorem cells_same : ∀ i, i < 32 → sizesI.getD i 0 = (wd i : Int) := by decide
set_option maxHeartbeats 1000000 in
theorem eqCell (a b d e : Int) (w : World) : (Op.equalIn 10000 24 (.agg #[.int .i64 a, .int .i64 b]) (.agg #[.int .i64 d, .int .i64 e])).run Tryd.prog w = .ok (a == d && b == e) w := by
  rw [show (10000 : Nat) = 9999 + 1 from rfl, run_equalIn_agg w 9999 24 _ _ (by kernel_rfl) (by kernel_rfl)]
  by_cases h0 : a = d
  · by_cases h1 : b = e
    · simp [h0, h1]; go_simp; done
    · simp [h0]; go_simp
  · go_simp
/-- The law's boxes: the cell, the geometry. -/
structure Bx (w W : World) (g : Nat) (x y n : Int) : Prop where
  below : Below w.heap.size w W
  c : BoxT 24 W (w.heap.size + 1) #[.int .i64 x, .int .i64 y]
  g : BoxT 27 W g #[.int .i64 n]
theorem Bx.step {w W W' : World} {g : Nat} {x y n : Int} (i : Bx w W g x y n) (hb : Below W.heap.size W W') : Bx w W' g x y n :=
  ⟨i.below.trans (hb.mono i.below.size), i.c.below hb i.c.lt, i.g.below hb i.g.lt⟩
theorem Bx.alloc {w W : World} {g : Nat} {x y n : Int} (i : Bx w W g x y n) (o : Obj) : Bx w (W.alloc o) g x y n :=
  ⟨i.below.alloc i.below.size o, i.c.alloc o, i.g.alloc o⟩
theorem Bx.facts {w W : World} {g : Nat} {x y n : Int} (i : Bx w W g x y n) :
    W.cell? ⟨w.heap.size + 1, 0, none⟩ = some (.int .i64 x) ∧ W.cell? ⟨w.heap.size + 1, 1, none⟩ = some (.int .i64 y) ∧ W.cell? ⟨g, 0, none⟩ = some (.int .i64 n) :=
  ⟨i.c.cell 0, i.c.cell 1, i.g.cell 0⟩
theorem kinds (n k a : Int) (hn : n ≤ 255) :
    (inC n k a = false ∧ atC n k a = false ∧ ridxC n k a = -1 ∧ blkC n k a = 0 ∧ idxC n k a = 0) ∨ (inC n k a = true ∧ 0 ≤ ridxC n k a ∧ 0 ≤ blkC n k a ∧ blkC n k a ≤ 255 ∧ 0 ≤ ridxC n k a * (wordsC k : Int) ∧ ridxC n k a * (wordsC k : Int) ≤ 512 ∧ blkC n k a = blkC n k a ∧ idxC n k a = ridxC n k a ∧ ((atC n k a = true ∧ blkA n k a = blkC n k a ∧ idxA n k a = ridxC n k a ∧ a = 512 * blkC n k a + ridxC n k a * (wordsC k : Int)) ∨ (atC n k a = false ∧ a ≠ 512 * blkC n k a + ridxC n k a * (wordsC k : Int)))) := by
  cases h : inC n k a with
  | false =>
    have hz := zero_of h
    exact .inl ⟨rfl, by unfold atC; rw [h]; rfl, by unfold ridxC; rw [h]; simp, hz.1, hz.2⟩
  | true =>
    obtain ⟨h1, h2, h3⟩ := inC_iff.1 h
    have e1 : blkC n k a = a / 512 := if_pos h
    have e2 : idxC n k a = a % 512 / (wordsC k : Nat) := if_pos h
    have e3 : ridxC n k a = a % 512 / (wordsC k : Nat) := if_pos h
    have hq : 0 ≤ a % 512 / ((wordsC k : Nat) : Int) := Int.ediv_nonneg (by omega) (by omega)
    obtain ⟨j, hj⟩ := Int.eq_ofNat_of_zero_le hq
    have h5 := one_fits (k := k) (i := j) (by omega)
    have h6 : (((j * wordsC k : Nat) : Nat) : Int) = (j : Int) * (wordsC k : Nat) := by simp
    have hat : atC n k a = decide ((j : Int) * (wordsC k : Nat) = a % 512) := by unfold atC; rw [h, Bool.true_and, hj]
    have eA : atC n k a = true → blkA n k a = a / 512 ∧ idxA n k a = j := fun hh => by unfold blkA idxA; rw [if_pos hh, if_pos hh, hj]; exact ⟨rfl, rfl⟩
    rw [hj] at e2 e3
    rw [e1, e2, e3]
    refine .inr ⟨rfl, by omega, by omega, by omega, by omega, by omega, rfl, rfl, ?_⟩
    by_cases hd : (j : Int) * (wordsC k : Nat) = a % 512
    · rw [decide_eq_true hd] at hat
      exact .inl ⟨hat, (eA hat).1, (eA hat).2, by omega⟩
    · rw [decide_eq_false hd] at hat
      exact .inr ⟨hat, by omega⟩
set_option maxRecDepth 100000 in
set_option maxHeartbeats 4000000 in
theorem addr_in (w : World) (a0 k ad bl z rb ri x0 x1 y0 y1 : Int) (m j : Nat) (xs : List Int) (inb atb : Bool) (HT : Hid (HasCells w)) (h00 : 0 ≤ a0) (h01 : a0 ≤ 255)
    (AL : Hid (∀ w, Calls Tryd.prog 8 #[.int .i64 a0, .int .i64 k, .int .i64 bl] w (MadeInts .i64 xs w)))
    (RH : Hid (∀ w, Calls Tryd.prog 9 #[.int .i64 a0, .int .i64 k, .int .i64 ad] w (MadeOne (.tuple #[.int .i64 rb, .int .i64 ri]) w)))
    (HO : Hid (∀ w, HasCells w → Calls Tryd.prog 10 #[.agg #[.int .i64 a0], .int .i64 k, .int .i64 ad] w (MadeOne (.tuple #[.agg #[.int .i64 x0, .int .i64 x1], .bool inb]) w)))
    (AT : Hid (∀ w, HasCells w → Calls Tryd.prog 11 #[.agg #[.int .i64 a0], .int .i64 k, .int .i64 ad] w (MadeOne (.tuple #[.agg #[.int .i64 y0, .int .i64 y1], .bool atb]) w)))
    (AD : Hid (∀ w, HasCells w → Calls Tryd.prog 12 #[.agg #[.int .i64 a0], .int .i64 k, .agg #[.int .i64 bl, .int .i64 ((j : Nat) : Int)]] w (MadeOne (.int .i64 z) w)))
    (RW : Hid (∀ w, Calls Tryd.prog 13 #[.int .i64 k] w (MadeOne (.int .i64 m) w)))
    (KB : Hid ((inb = false ∧ atb = false ∧ ri = -1 ∧ x0 = 0 ∧ x1 = 0) ∨ (inb = true ∧ 0 ≤ ri ∧ 0 ≤ rb ∧ rb ≤ 255 ∧ 0 ≤ ri * (m : Int) ∧ ri * (m : Int) ≤ 512 ∧ x0 = rb ∧ x1 = ri ∧ ((atb = true ∧ y0 = rb ∧ y1 = ri ∧ ad = 512 * rb + ri * (m : Int)) ∨ (atb = false ∧ ad ≠ 512 * rb + ri * (m : Int))))))
    (hj : j < xs.length) (hz : xs.getD j 0 = z) (hlen : xs.length ≤ 256) :
    Calls Tryd.prog 3 #[.int .u8 a0, .agg #[.int .i64 k, .int .i64 ad], .agg #[.int .i64 bl, .int .i64 ((j : Nat) : Int)]] w fun e w' => e = .returned (.bool true) ∧ Below w.heap.size w w' := by
  have HZ := Lib.hid hz
  clear hz
  have HW1 : Hid (∀ W, Below ((w.alloc (.cells #[.int .i64 k, .int .i64 ad] 22)).alloc (.cells #[.int .i64 bl, .int .i64 ((j : Nat) : Int)] 24)).heap.size ((w.alloc (.cells #[.int .i64 k, .int .i64 ad] 22)).alloc (.cells #[.int .i64 bl, .int .i64 ((j : Nat) : Int)] 24)) W → BoxT 22 W w.heap.size #[.int .i64 k, .int .i64 ad] ∧ BoxT 24 W (w.heap.size + 1) #[.int .i64 bl, .int .i64 ((j : Nat) : Int)] ∧ Below w.heap.size w W ∧ w.heap.size + 2 ≤ W.heap.size) := Lib.hid fun W h => boxT_of2 h
  have HTA : Hid (∀ o o', HasCells ((w.alloc o).alloc o')) := Lib.hid fun o o' => HT.out.below (((Below.refl _ _).alloc (Nat.le_refl _) _).alloc (by simp) _) (Nat.le_refl _)
  go_enter Tryd.func3, Tryd.ntmps3
  go_wp2_with fail
  refine (awake_yes _ (HTA.out _ _)).mono ?_
  rintro e W ⟨rfl, hb⟩
  obtain ⟨p1, p2, hb, -⟩ := HW1.out _ hb
  have c0 : W.cell? ⟨w.heap.size, 0, none⟩ = some (.int .i64 k) := p1.cell 0
  have c1 : W.cell? ⟨w.heap.size, 1, none⟩ = some (.int .i64 ad) := p1.cell 1
  have HB := Lib.hid hb
  have P2 := Lib.hid p2
  clear hb p1 p2 HW1 HTA
  go_wp2_with fail
  go_quiet (fail)
  clear c0 c1
  have INV : Hid (Bx w ((W.drewN nq).alloc (.cells #[.int .i64 a0] 27)) (W.drewN nq).heap.size bl ((j : Nat) : Int) a0) := Lib.hid ⟨(below_drewN HB.out nq).alloc (Nat.le_trans HB.out.size (Nat.le_refl _)) _, (P2.out.drewN nq).alloc _, BoxT.new _ _ _⟩
  clear HB P2
  generalize W.drewN nq = V at INV ⊢
  obtain ⟨c0, c1, g0⟩ := INV.out.facts
  go_wp2_with fail
  generalize V.alloc (.cells #[.int .i64 a0] 27) = V1 at INV c0 c1 g0 ⊢
  generalize V.heap.size = g at INV g0 ⊢
  refine (AL.out _).mono ?_
  rintro e W1 ⟨vl, rfl, hI, hb⟩
  have INV := Lib.hid (INV.out.step hb)
  clear hb c0 c1 g0
  obtain ⟨al, cap, rfl, hcap, hc⟩ := hI
  obtain ⟨bb, off, rfl, hbb, hc⟩ := hc.resolve_left (fun h => by rw [h] at hj; simp at hj)
  have l0 := hc j hj
  rw [HZ.out] at l0
  have hj' : ((j : Nat) : Int) < ((xs.length : Nat) : Int) := by omega
  have hj0 : (0 : Int) ≤ ((j : Nat) : Int) := by omega
  clear hc hcap
  generalize xs.length = len at *
  obtain ⟨c0, c1, g0⟩ := INV.out.facts
  go_wp2_with fail
  clear l0
  refine (RH.out _).mono ?_
  rintro e W2 ⟨rfl, hb⟩
  have INV := Lib.hid (INV.out.step hb)
  clear hb c0 c1 g0
  obtain ⟨c0, c1, g0⟩ := INV.out.facts
  go_wp2_with fail
  refine (HO.out _ (HT.out.below INV.out.below (Nat.le_refl _))).mono ?_
  rintro e W3 ⟨rfl, hb⟩
  have INV := Lib.hid ((INV.out.step hb).alloc (.cells #[.int .i64 x0, .int .i64 x1] 24))
  have X3 := Lib.hid (BoxT.new 24 W3 #[.int .i64 x0, .int .i64 x1])
  clear hb c0 c1 g0
  obtain ⟨c0, c1, g0⟩ := INV.out.facts
  go_wp2_with fail
  generalize W3.alloc (.cells #[.int .i64 x0, .int .i64 x1] 24) = V3 at INV X3 c0 c1 g0 ⊢
  generalize W3.heap.size = gx at X3 ⊢
  refine (AT.out _ (HT.out.below INV.out.below (Nat.le_refl _))).mono ?_
  rintro e W4 ⟨rfl, hb⟩
  have INV := Lib.hid ((INV.out.step hb).alloc (.cells #[.int .i64 y0, .int .i64 y1] 24))
  have X4 := Lib.hid ((X3.out.below hb X3.out.lt).alloc (.cells #[.int .i64 y0, .int .i64 y1] 24))
  have Y4 := Lib.hid (BoxT.new 24 W4 #[.int .i64 y0, .int .i64 y1])
  clear hb c0 c1 g0 X3
  obtain ⟨c0, c1, g0⟩ := INV.out.facts
  go_wp2_with fail
  generalize W4.alloc (.cells #[.int .i64 y0, .int .i64 y1] 24) = V4 at INV X4 Y4 c0 c1 g0 ⊢
  generalize W4.heap.size = gy at Y4 ⊢
  refine (AD.out _ (HT.out.below INV.out.below (Nat.le_refl _))).mono ?_
  rintro e W5 ⟨rfl, hb⟩
  have INV := Lib.hid (INV.out.step hb)
  have x5 := X4.out.below hb X4.out.lt
  have y5 := Y4.out.below hb Y4.out.lt
  have X5 := Lib.hid x5
  have Y5 := Lib.hid y5
  clear hb c0 c1 g0 X4 Y4
  have u0 : W5.cell? ⟨gx, 0, none⟩ = some (.int .i64 x0) := x5.cell 0
  have u1 : W5.cell? ⟨gx, 1, none⟩ = some (.int .i64 x1) := x5.cell 1
  have v0 : W5.cell? ⟨gy, 0, none⟩ = some (.int .i64 y0) := y5.cell 0
  have v1 : W5.cell? ⟨gy, 1, none⟩ = some (.int .i64 y1) := y5.cell 1
  clear x5 y5
  rcases KB.out with ⟨rfl, rfl, rfl, rfl, rfl⟩ | ⟨rfl, hr0, hb0, hb1, hp0, hp1, rfl, rfl, ⟨rfl, rfl, rfl, hz2⟩ | ⟨rfl, hz2⟩⟩
  · have heq : ∀ w' : World, (Op.equalIn 10000 24 (.agg #[.int .i64 0, .int .i64 0]) (.agg #[.int .i64 0, .int .i64 0])).run Tryd.prog w' = .ok true w' := fun w' => by rw [eqCell]; simp
    clear KB
    go_wp2_with fail
    go_ret
    exact ⟨rfl, INV.out.below⟩
  · have heq : ∀ w' : World, (Op.equalIn 10000 24 (.agg #[.int .i64 y0, .int .i64 y1]) (.agg #[.int .i64 y0, .int .i64 y1])).run Tryd.prog w' = .ok true w' := fun w' => by rw [eqCell]; simp
    clear KB
    go_wp2_with fail
    refine (RW.out _).mono ?_
    rintro e W6 ⟨rfl, hb⟩
    have INV := Lib.hid (INV.out.step hb)
    have x6 := X5.out.below hb X5.out.lt
    have y6 := Y5.out.below hb Y5.out.lt
    clear hb u0 u1 v0 v1 X5 Y5
    have u0 : W6.cell? ⟨gx, 0, none⟩ = some (.int .i64 y0) := x6.cell 0
    have u1 : W6.cell? ⟨gx, 1, none⟩ = some (.int .i64 y1) := x6.cell 1
    have v0 : W6.cell? ⟨gy, 0, none⟩ = some (.int .i64 y0) := y6.cell 0
    have v1 : W6.cell? ⟨gy, 1, none⟩ = some (.int .i64 y1) := y6.cell 1
    clear x6 y6
    go_wp2_with fail
    go_ret
    exact ⟨rfl, INV.out.below⟩
  · have hd : (ad == 512 * x0 + x1 * (m : Int)) = false := by simpa using hz2
    clear KB hz2
    go_wp2_with fail
    refine (RW.out _).mono ?_
    rintro e W6 ⟨rfl, hb⟩
    have INV := Lib.hid (INV.out.step hb)
    have x6 := X5.out.below hb X5.out.lt
    have y6 := Y5.out.below hb Y5.out.lt
    clear hb u0 u1 v0 v1 X5 Y5
    have u0 : W6.cell? ⟨gx, 0, none⟩ = some (.int .i64 x0) := x6.cell 0
    have u1 : W6.cell? ⟨gx, 1, none⟩ = some (.int .i64 x1) := x6.cell 1
    have v0 : W6.cell? ⟨gy, 0, none⟩ = some (.int .i64 y0) := y6.cell 0
    have v1 : W6.cell? ⟨gy, 1, none⟩ = some (.int .i64 y1) := y6.cell 1
    clear x6 y6
    go_wp2_with fail
    go_ret
    exact ⟨rfl, INV.out.below⟩

set_option maxRecDepth 100000 in
set_option maxHeartbeats 4000000 in
theorem addr_low (w : World) (a0 k ad bl ix z rb ri x0 x1 y0 y1 : Int) (m : Nat) (xs : List Int) (inb atb : Bool) (HT : Hid (HasCells w)) (h00 : 0 ≤ a0) (h01 : a0 ≤ 255)
    (AL : Hid (∀ w, Calls Tryd.prog 8 #[.int .i64 a0, .int .i64 k, .int .i64 bl] w (MadeInts .i64 xs w)))
    (RH : Hid (∀ w, Calls Tryd.prog 9 #[.int .i64 a0, .int .i64 k, .int .i64 ad] w (MadeOne (.tuple #[.int .i64 rb, .int .i64 ri]) w)))
    (HO : Hid (∀ w, HasCells w → Calls Tryd.prog 10 #[.agg #[.int .i64 a0], .int .i64 k, .int .i64 ad] w (MadeOne (.tuple #[.agg #[.int .i64 x0, .int .i64 x1], .bool inb]) w)))
    (AT : Hid (∀ w, HasCells w → Calls Tryd.prog 11 #[.agg #[.int .i64 a0], .int .i64 k, .int .i64 ad] w (MadeOne (.tuple #[.agg #[.int .i64 y0, .int .i64 y1], .bool atb]) w)))
    (AD : Hid (∀ w, HasCells w → Calls Tryd.prog 12 #[.agg #[.int .i64 a0], .int .i64 k, .agg #[.int .i64 bl, .int .i64 ix]] w (MadeOne (.int .i64 z) w)))
    (RW : Hid (∀ w, Calls Tryd.prog 13 #[.int .i64 k] w (MadeOne (.int .i64 m) w)))
    (KB : Hid ((inb = false ∧ atb = false ∧ ri = -1 ∧ x0 = 0 ∧ x1 = 0) ∨ (inb = true ∧ 0 ≤ ri ∧ 0 ≤ rb ∧ rb ≤ 255 ∧ 0 ≤ ri * (m : Int) ∧ ri * (m : Int) ≤ 512 ∧ x0 = rb ∧ x1 = ri ∧ ((atb = true ∧ y0 = rb ∧ y1 = ri ∧ ad = 512 * rb + ri * (m : Int)) ∨ (atb = false ∧ ad ≠ 512 * rb + ri * (m : Int))))))
    (hix : ix < 0) (hz : z = -1) :
    Calls Tryd.prog 3 #[.int .u8 a0, .agg #[.int .i64 k, .int .i64 ad], .agg #[.int .i64 bl, .int .i64 ix]] w fun e w' => e = .returned (.bool true) ∧ Below w.heap.size w w' := by
  subst hz
  have hd : decide (0 ≤ ix) = false := by simp; omega
  have HW1 : Hid (∀ W, Below ((w.alloc (.cells #[.int .i64 k, .int .i64 ad] 22)).alloc (.cells #[.int .i64 bl, .int .i64 ix] 24)).heap.size ((w.alloc (.cells #[.int .i64 k, .int .i64 ad] 22)).alloc (.cells #[.int .i64 bl, .int .i64 ix] 24)) W → BoxT 22 W w.heap.size #[.int .i64 k, .int .i64 ad] ∧ BoxT 24 W (w.heap.size + 1) #[.int .i64 bl, .int .i64 ix] ∧ Below w.heap.size w W ∧ w.heap.size + 2 ≤ W.heap.size) := Lib.hid fun W h => boxT_of2 h
  have HTA : Hid (∀ o o', HasCells ((w.alloc o).alloc o')) := Lib.hid fun o o' => HT.out.below (((Below.refl _ _).alloc (Nat.le_refl _) _).alloc (by simp) _) (Nat.le_refl _)
  go_enter Tryd.func3, Tryd.ntmps3
  go_wp2_with fail
  refine (awake_yes _ (HTA.out _ _)).mono ?_
  rintro e W ⟨rfl, hb⟩
  obtain ⟨p1, p2, hb, -⟩ := HW1.out _ hb
  have c0 : W.cell? ⟨w.heap.size, 0, none⟩ = some (.int .i64 k) := p1.cell 0
  have c1 : W.cell? ⟨w.heap.size, 1, none⟩ = some (.int .i64 ad) := p1.cell 1
  have HB := Lib.hid hb
  have P2 := Lib.hid p2
  clear hb p1 p2 HW1 HTA
  go_wp2_with fail
  go_quiet (fail)
  clear c0 c1
  have INV : Hid (Bx w ((W.drewN nq).alloc (.cells #[.int .i64 a0] 27)) (W.drewN nq).heap.size bl ix a0) := Lib.hid ⟨(below_drewN HB.out nq).alloc (Nat.le_trans HB.out.size (Nat.le_refl _)) _, (P2.out.drewN nq).alloc _, BoxT.new _ _ _⟩
  clear HB P2
  generalize W.drewN nq = V at INV ⊢
  obtain ⟨c0, c1, g0⟩ := INV.out.facts
  go_wp2_with fail
  generalize V.alloc (.cells #[.int .i64 a0] 27) = V1 at INV c0 c1 g0 ⊢
  generalize V.heap.size = g at INV g0 ⊢
  refine (AL.out _).mono ?_
  rintro e W1 ⟨vl, rfl, hI, hb⟩
  have INV := Lib.hid (INV.out.step hb)
  clear hb c0 c1 g0
  clear hI
  obtain ⟨c0, c1, g0⟩ := INV.out.facts
  go_wp2_with fail
  refine (RH.out _).mono ?_
  rintro e W2 ⟨rfl, hb⟩
  have INV := Lib.hid (INV.out.step hb)
  clear hb c0 c1 g0
  obtain ⟨c0, c1, g0⟩ := INV.out.facts
  go_wp2_with fail
  refine (HO.out _ (HT.out.below INV.out.below (Nat.le_refl _))).mono ?_
  rintro e W3 ⟨rfl, hb⟩
  have INV := Lib.hid ((INV.out.step hb).alloc (.cells #[.int .i64 x0, .int .i64 x1] 24))
  have X3 := Lib.hid (BoxT.new 24 W3 #[.int .i64 x0, .int .i64 x1])
  clear hb c0 c1 g0
  obtain ⟨c0, c1, g0⟩ := INV.out.facts
  go_wp2_with fail
  generalize W3.alloc (.cells #[.int .i64 x0, .int .i64 x1] 24) = V3 at INV X3 c0 c1 g0 ⊢
  generalize W3.heap.size = gx at X3 ⊢
  refine (AT.out _ (HT.out.below INV.out.below (Nat.le_refl _))).mono ?_
  rintro e W4 ⟨rfl, hb⟩
  have INV := Lib.hid ((INV.out.step hb).alloc (.cells #[.int .i64 y0, .int .i64 y1] 24))
  have X4 := Lib.hid ((X3.out.below hb X3.out.lt).alloc (.cells #[.int .i64 y0, .int .i64 y1] 24))
  have Y4 := Lib.hid (BoxT.new 24 W4 #[.int .i64 y0, .int .i64 y1])
  clear hb c0 c1 g0 X3
  obtain ⟨c0, c1, g0⟩ := INV.out.facts
  go_wp2_with fail
  generalize W4.alloc (.cells #[.int .i64 y0, .int .i64 y1] 24) = V4 at INV X4 Y4 c0 c1 g0 ⊢
  generalize W4.heap.size = gy at Y4 ⊢
  refine (AD.out _ (HT.out.below INV.out.below (Nat.le_refl _))).mono ?_
  rintro e W5 ⟨rfl, hb⟩
  have INV := Lib.hid (INV.out.step hb)
  have x5 := X4.out.below hb X4.out.lt
  have y5 := Y4.out.below hb Y4.out.lt
  have X5 := Lib.hid x5
  have Y5 := Lib.hid y5
  clear hb c0 c1 g0 X4 Y4
  have u0 : W5.cell? ⟨gx, 0, none⟩ = some (.int .i64 x0) := x5.cell 0
  have u1 : W5.cell? ⟨gx, 1, none⟩ = some (.int .i64 x1) := x5.cell 1
  have v0 : W5.cell? ⟨gy, 0, none⟩ = some (.int .i64 y0) := y5.cell 0
  have v1 : W5.cell? ⟨gy, 1, none⟩ = some (.int .i64 y1) := y5.cell 1
  clear x5 y5
  rcases KB.out with ⟨rfl, rfl, rfl, rfl, rfl⟩ | ⟨rfl, hr0, hb0, hb1, hp0, hp1, rfl, rfl, ⟨rfl, rfl, rfl, hz2⟩ | ⟨rfl, hz2⟩⟩
  · have heq : ∀ w' : World, (Op.equalIn 10000 24 (.agg #[.int .i64 0, .int .i64 0]) (.agg #[.int .i64 0, .int .i64 0])).run Tryd.prog w' = .ok true w' := fun w' => by rw [eqCell]; simp
    clear KB
    go_wp2_with fail
    go_ret
    exact ⟨rfl, INV.out.below⟩
  · have heq : ∀ w' : World, (Op.equalIn 10000 24 (.agg #[.int .i64 y0, .int .i64 y1]) (.agg #[.int .i64 y0, .int .i64 y1])).run Tryd.prog w' = .ok true w' := fun w' => by rw [eqCell]; simp
    clear KB
    go_wp2_with fail
    refine (RW.out _).mono ?_
    rintro e W6 ⟨rfl, hb⟩
    have INV := Lib.hid (INV.out.step hb)
    have x6 := X5.out.below hb X5.out.lt
    have y6 := Y5.out.below hb Y5.out.lt
    clear hb u0 u1 v0 v1 X5 Y5
    have u0 : W6.cell? ⟨gx, 0, none⟩ = some (.int .i64 y0) := x6.cell 0
    have u1 : W6.cell? ⟨gx, 1, none⟩ = some (.int .i64 y1) := x6.cell 1
    have v0 : W6.cell? ⟨gy, 0, none⟩ = some (.int .i64 y0) := y6.cell 0
    have v1 : W6.cell? ⟨gy, 1, none⟩ = some (.int .i64 y1) := y6.cell 1
    clear x6 y6
    go_wp2_with fail
    go_ret
    exact ⟨rfl, INV.out.below⟩
  · have hd : (ad == 512 * x0 + x1 * (m : Int)) = false := by simpa using hz2
    clear KB hz2
    go_wp2_with fail
    refine (RW.out _).mono ?_
    rintro e W6 ⟨rfl, hb⟩
    have INV := Lib.hid (INV.out.step hb)
    have x6 := X5.out.below hb X5.out.lt
    have y6 := Y5.out.below hb Y5.out.lt
    clear hb u0 u1 v0 v1 X5 Y5
    have u0 : W6.cell? ⟨gx, 0, none⟩ = some (.int .i64 x0) := x6.cell 0
    have u1 : W6.cell? ⟨gx, 1, none⟩ = some (.int .i64 x1) := x6.cell 1
    have v0 : W6.cell? ⟨gy, 0, none⟩ = some (.int .i64 y0) := y6.cell 0
    have v1 : W6.cell? ⟨gy, 1, none⟩ = some (.int .i64 y1) := y6.cell 1
    clear x6 y6
    go_wp2_with fail
    go_ret
    exact ⟨rfl, INV.out.below⟩

set_option maxRecDepth 100000 in
set_option maxHeartbeats 4000000 in
theorem addr_high (w : World) (a0 k ad bl ix z rb ri x0 x1 y0 y1 : Int) (m : Nat) (xs : List Int) (inb atb : Bool) (HT : Hid (HasCells w)) (h00 : 0 ≤ a0) (h01 : a0 ≤ 255)
    (AL : Hid (∀ w, Calls Tryd.prog 8 #[.int .i64 a0, .int .i64 k, .int .i64 bl] w (MadeInts .i64 xs w)))
    (RH : Hid (∀ w, Calls Tryd.prog 9 #[.int .i64 a0, .int .i64 k, .int .i64 ad] w (MadeOne (.tuple #[.int .i64 rb, .int .i64 ri]) w)))
    (HO : Hid (∀ w, HasCells w → Calls Tryd.prog 10 #[.agg #[.int .i64 a0], .int .i64 k, .int .i64 ad] w (MadeOne (.tuple #[.agg #[.int .i64 x0, .int .i64 x1], .bool inb]) w)))
    (AT : Hid (∀ w, HasCells w → Calls Tryd.prog 11 #[.agg #[.int .i64 a0], .int .i64 k, .int .i64 ad] w (MadeOne (.tuple #[.agg #[.int .i64 y0, .int .i64 y1], .bool atb]) w)))
    (AD : Hid (∀ w, HasCells w → Calls Tryd.prog 12 #[.agg #[.int .i64 a0], .int .i64 k, .agg #[.int .i64 bl, .int .i64 ix]] w (MadeOne (.int .i64 z) w)))
    (RW : Hid (∀ w, Calls Tryd.prog 13 #[.int .i64 k] w (MadeOne (.int .i64 m) w)))
    (KB : Hid ((inb = false ∧ atb = false ∧ ri = -1 ∧ x0 = 0 ∧ x1 = 0) ∨ (inb = true ∧ 0 ≤ ri ∧ 0 ≤ rb ∧ rb ≤ 255 ∧ 0 ≤ ri * (m : Int) ∧ ri * (m : Int) ≤ 512 ∧ x0 = rb ∧ x1 = ri ∧ ((atb = true ∧ y0 = rb ∧ y1 = ri ∧ ad = 512 * rb + ri * (m : Int)) ∨ (atb = false ∧ ad ≠ 512 * rb + ri * (m : Int))))))
    (hix0 : 0 ≤ ix) (hix : (xs.length : Int) ≤ ix) (hz : z = -1) (hlen : xs.length ≤ 256) :
    Calls Tryd.prog 3 #[.int .u8 a0, .agg #[.int .i64 k, .int .i64 ad], .agg #[.int .i64 bl, .int .i64 ix]] w fun e w' => e = .returned (.bool true) ∧ Below w.heap.size w w' := by
  subst hz
  have HW1 : Hid (∀ W, Below ((w.alloc (.cells #[.int .i64 k, .int .i64 ad] 22)).alloc (.cells #[.int .i64 bl, .int .i64 ix] 24)).heap.size ((w.alloc (.cells #[.int .i64 k, .int .i64 ad] 22)).alloc (.cells #[.int .i64 bl, .int .i64 ix] 24)) W → BoxT 22 W w.heap.size #[.int .i64 k, .int .i64 ad] ∧ BoxT 24 W (w.heap.size + 1) #[.int .i64 bl, .int .i64 ix] ∧ Below w.heap.size w W ∧ w.heap.size + 2 ≤ W.heap.size) := Lib.hid fun W h => boxT_of2 h
  have HTA : Hid (∀ o o', HasCells ((w.alloc o).alloc o')) := Lib.hid fun o o' => HT.out.below (((Below.refl _ _).alloc (Nat.le_refl _) _).alloc (by simp) _) (Nat.le_refl _)
  go_enter Tryd.func3, Tryd.ntmps3
  go_wp2_with fail
  refine (awake_yes _ (HTA.out _ _)).mono ?_
  rintro e W ⟨rfl, hb⟩
  obtain ⟨p1, p2, hb, -⟩ := HW1.out _ hb
  have c0 : W.cell? ⟨w.heap.size, 0, none⟩ = some (.int .i64 k) := p1.cell 0
  have c1 : W.cell? ⟨w.heap.size, 1, none⟩ = some (.int .i64 ad) := p1.cell 1
  have HB := Lib.hid hb
  have P2 := Lib.hid p2
  clear hb p1 p2 HW1 HTA
  go_wp2_with fail
  go_quiet (fail)
  clear c0 c1
  have INV : Hid (Bx w ((W.drewN nq).alloc (.cells #[.int .i64 a0] 27)) (W.drewN nq).heap.size bl ix a0) := Lib.hid ⟨(below_drewN HB.out nq).alloc (Nat.le_trans HB.out.size (Nat.le_refl _)) _, (P2.out.drewN nq).alloc _, BoxT.new _ _ _⟩
  clear HB P2
  generalize W.drewN nq = V at INV ⊢
  obtain ⟨c0, c1, g0⟩ := INV.out.facts
  go_wp2_with fail
  generalize V.alloc (.cells #[.int .i64 a0] 27) = V1 at INV c0 c1 g0 ⊢
  generalize V.heap.size = g at INV g0 ⊢
  refine (AL.out _).mono ?_
  rintro e W1 ⟨vl, rfl, hI, hb⟩
  have INV := Lib.hid (INV.out.step hb)
  clear hb c0 c1 g0
  obtain ⟨al, cap, rfl, hcap, hc⟩ := hI
  have hd : decide (ix < ((xs.length : Nat) : Int)) = false := by simp; omega
  clear hc hcap
  generalize xs.length = len at *
  obtain ⟨c0, c1, g0⟩ := INV.out.facts
  go_wp2_with fail
  refine (RH.out _).mono ?_
  rintro e W2 ⟨rfl, hb⟩
  have INV := Lib.hid (INV.out.step hb)
  clear hb c0 c1 g0
  obtain ⟨c0, c1, g0⟩ := INV.out.facts
  go_wp2_with fail
  refine (HO.out _ (HT.out.below INV.out.below (Nat.le_refl _))).mono ?_
  rintro e W3 ⟨rfl, hb⟩
  have INV := Lib.hid ((INV.out.step hb).alloc (.cells #[.int .i64 x0, .int .i64 x1] 24))
  have X3 := Lib.hid (BoxT.new 24 W3 #[.int .i64 x0, .int .i64 x1])
  clear hb c0 c1 g0
  obtain ⟨c0, c1, g0⟩ := INV.out.facts
  go_wp2_with fail
  generalize W3.alloc (.cells #[.int .i64 x0, .int .i64 x1] 24) = V3 at INV X3 c0 c1 g0 ⊢
  generalize W3.heap.size = gx at X3 ⊢
  refine (AT.out _ (HT.out.below INV.out.below (Nat.le_refl _))).mono ?_
  rintro e W4 ⟨rfl, hb⟩
  have INV := Lib.hid ((INV.out.step hb).alloc (.cells #[.int .i64 y0, .int .i64 y1] 24))
  have X4 := Lib.hid ((X3.out.below hb X3.out.lt).alloc (.cells #[.int .i64 y0, .int .i64 y1] 24))
  have Y4 := Lib.hid (BoxT.new 24 W4 #[.int .i64 y0, .int .i64 y1])
  clear hb c0 c1 g0 X3
  obtain ⟨c0, c1, g0⟩ := INV.out.facts
  go_wp2_with fail
  generalize W4.alloc (.cells #[.int .i64 y0, .int .i64 y1] 24) = V4 at INV X4 Y4 c0 c1 g0 ⊢
  generalize W4.heap.size = gy at Y4 ⊢
  refine (AD.out _ (HT.out.below INV.out.below (Nat.le_refl _))).mono ?_
  rintro e W5 ⟨rfl, hb⟩
  have INV := Lib.hid (INV.out.step hb)
  have x5 := X4.out.below hb X4.out.lt
  have y5 := Y4.out.below hb Y4.out.lt
  have X5 := Lib.hid x5
  have Y5 := Lib.hid y5
  clear hb c0 c1 g0 X4 Y4
  have u0 : W5.cell? ⟨gx, 0, none⟩ = some (.int .i64 x0) := x5.cell 0
  have u1 : W5.cell? ⟨gx, 1, none⟩ = some (.int .i64 x1) := x5.cell 1
  have v0 : W5.cell? ⟨gy, 0, none⟩ = some (.int .i64 y0) := y5.cell 0
  have v1 : W5.cell? ⟨gy, 1, none⟩ = some (.int .i64 y1) := y5.cell 1
  clear x5 y5
  rcases KB.out with ⟨rfl, rfl, rfl, rfl, rfl⟩ | ⟨rfl, hr0, hb0, hb1, hp0, hp1, rfl, rfl, ⟨rfl, rfl, rfl, hz2⟩ | ⟨rfl, hz2⟩⟩
  · have heq : ∀ w' : World, (Op.equalIn 10000 24 (.agg #[.int .i64 0, .int .i64 0]) (.agg #[.int .i64 0, .int .i64 0])).run Tryd.prog w' = .ok true w' := fun w' => by rw [eqCell]; simp
    clear KB
    go_wp2_with fail
    go_ret
    exact ⟨rfl, INV.out.below⟩
  · have heq : ∀ w' : World, (Op.equalIn 10000 24 (.agg #[.int .i64 y0, .int .i64 y1]) (.agg #[.int .i64 y0, .int .i64 y1])).run Tryd.prog w' = .ok true w' := fun w' => by rw [eqCell]; simp
    clear KB
    go_wp2_with fail
    refine (RW.out _).mono ?_
    rintro e W6 ⟨rfl, hb⟩
    have INV := Lib.hid (INV.out.step hb)
    have x6 := X5.out.below hb X5.out.lt
    have y6 := Y5.out.below hb Y5.out.lt
    clear hb u0 u1 v0 v1 X5 Y5
    have u0 : W6.cell? ⟨gx, 0, none⟩ = some (.int .i64 y0) := x6.cell 0
    have u1 : W6.cell? ⟨gx, 1, none⟩ = some (.int .i64 y1) := x6.cell 1
    have v0 : W6.cell? ⟨gy, 0, none⟩ = some (.int .i64 y0) := y6.cell 0
    have v1 : W6.cell? ⟨gy, 1, none⟩ = some (.int .i64 y1) := y6.cell 1
    clear x6 y6
    go_wp2_with fail
    go_ret
    exact ⟨rfl, INV.out.below⟩
  · have hd : (ad == 512 * x0 + x1 * (m : Int)) = false := by simpa using hz2
    clear KB hz2
    go_wp2_with fail
    refine (RW.out _).mono ?_
    rintro e W6 ⟨rfl, hb⟩
    have INV := Lib.hid (INV.out.step hb)
    have x6 := X5.out.below hb X5.out.lt
    have y6 := Y5.out.below hb Y5.out.lt
    clear hb u0 u1 v0 v1 X5 Y5
    have u0 : W6.cell? ⟨gx, 0, none⟩ = some (.int .i64 x0) := x6.cell 0
    have u1 : W6.cell? ⟨gx, 1, none⟩ = some (.int .i64 x1) := x6.cell 1
    have v0 : W6.cell? ⟨gy, 0, none⟩ = some (.int .i64 y0) := y6.cell 0
    have v1 : W6.cell? ⟨gy, 1, none⟩ = some (.int .i64 y1) := y6.cell 1
    clear x6 y6
    go_wp2_with fail
    go_ret
    exact ⟨rfl, INV.out.below⟩


set_option maxRecDepth 100000 in
set_option maxHeartbeats 1000000 in
theorem walk  (a0 : Int) (a1_0 a1_1 : Int) (a2_0 a2_1 : Int) (w : World) (w0 : (Lit.int .u8 a0).wf = true) (w1_0 : (Lit.int .i64 a1_0).wf = true) (w1_1 : (Lit.int .i64 a1_1).wf = true) (w2_0 : (Lit.int .i64 a2_0).wf = true) (w2_1 : (Lit.int .i64 a2_1).wf = true) (t0 : Lib.TabIs Tryd.prog w "taproot/class.cell" .i64 [2, 3, 4, 5, 6, 7, 8, 10, 12, 14, 16, 18, 20, 24, 28, 32, 36, 40, 46, 51, 56, 64, 73, 85, 92, 102, 113, 128, 146, 170, 204, 256]) :
    Calls Tryd.prog 3 #[.int .u8 a0, .agg #[.int .i64 a1_0, .int .i64 a1_1], .agg #[.int .i64 a2_0, .int .i64 a2_1]] w fun e w' => e = .returned (.bool true) ∧ Below w.heap.size w w' := by
  have hT : HasCells w := fun i hi => by
    have := t0.cell (g := 0) (by kernel_rfl) i hi
    exact this.trans (by rw [← cells_same i hi]; rfl)
  have b0 := bounds_u8 w0
  have b1 := (bounds_i64 w1_1).2
  have HT := Lib.hid hT
  have AL : Hid (∀ w, Calls Tryd.prog 8 #[.int .i64 a0, .int .i64 a1_0, .int .i64 a2_0] w (MadeInts .i64 (allC a0 a1_0 a2_0) w)) := Lib.hid fun w => refAll_any a0 a1_0 a2_0 w (by omega)
  have RH : Hid (∀ w, Calls Tryd.prog 9 #[.int .i64 a0, .int .i64 a1_0, .int .i64 a1_1] w (MadeOne (.tuple #[.int .i64 (blkC a0 a1_0 a1_1), .int .i64 (ridxC a0 a1_0 a1_1)]) w)) := Lib.hid fun w => refHold_any a0 a1_0 a1_1 w (by omega) (by omega)
  have HO : Hid (∀ w, HasCells w → Calls Tryd.prog 10 #[.agg #[.int .i64 a0], .int .i64 a1_0, .int .i64 a1_1] w (MadeOne (.tuple #[.agg #[.int .i64 (blkC a0 a1_0 a1_1), .int .i64 (idxC a0 a1_0 a1_1)], .bool (inC a0 a1_0 a1_1)]) w)) := Lib.hid fun w h => cellHold_any a0 a1_0 a1_1 w h (by omega) (by omega) b1
  have AT : Hid (∀ w, HasCells w → Calls Tryd.prog 11 #[.agg #[.int .i64 a0], .int .i64 a1_0, .int .i64 a1_1] w (MadeOne (.tuple #[.agg #[.int .i64 (blkA a0 a1_0 a1_1), .int .i64 (idxA a0 a1_0 a1_1)], .bool (atC a0 a1_0 a1_1)]) w)) := Lib.hid fun w h => cellAt_any a0 a1_0 a1_1 w h (by omega) (by omega) b1
  have AD : Hid (∀ w, HasCells w → Calls Tryd.prog 12 #[.agg #[.int .i64 a0], .int .i64 a1_0, .agg #[.int .i64 a2_0, .int .i64 a2_1]] w (MadeOne (.int .i64 (addrC a0 a1_0 a2_0 a2_1)) w)) := Lib.hid fun w h => cellAddr_any a0 a1_0 a2_0 a2_1 w h (by omega)
  have RW : Hid (∀ w, Calls Tryd.prog 13 #[.int .i64 a1_0] w (MadeOne (.int .i64 (wordsC a1_0 : Nat)) w)) := Lib.hid fun w => refWords_all a1_0 w
  have KB := Lib.hid (kinds a0 a1_0 a1_1 (by omega))
  have hlen : (allC a0 a1_0 a2_0).length = manyC a0 a1_0 a2_0 := firstC_len _ _ _
  have hmy := manyC_le a0 a1_0 a2_0
  by_cases h0 : a2_1 < 0
  · have hz : addrC a0 a1_0 a2_0 a2_1 = -1 := addrC_no (by unfold hasC; rw [decide_eq_false]; omega)
    exact addr_low w a0 a1_0 a1_1 a2_0 a2_1 _ _ _ _ _ _ _ _ _ _ _ HT b0.1 b0.2 AL RH HO AT AD RW KB h0 hz
  · obtain ⟨j, rfl⟩ := Int.eq_ofNat_of_zero_le (show 0 ≤ a2_1 by omega)
    by_cases hj : j < manyC a0 a1_0 a2_0
    · have hz : (allC a0 a1_0 a2_0).getD j 0 = addrC a0 a1_0 a2_0 j := by rw [addr_many hj]; exact firstC_at _ _ hj
      exact addr_in w a0 a1_0 a1_1 a2_0 _ _ _ _ _ _ _ _ j _ _ _ HT b0.1 b0.2 AL RH HO AT AD RW KB (by omega) hz (by omega)
    · exact addr_high w a0 a1_0 a1_1 a2_0 j _ _ _ _ _ _ _ _ _ _ _ HT b0.1 b0.2 AL RH HO AT AD RW KB (by omega) (by omega) (addr_none hj) (by omega)

theorem gTab0 : Tryd.prog.globalNamed "taproot/class.cell" = some 0 := by kernel_rfl
theorem gType0 : (Tryd.prog.globals[0]?).map (·.type) = some 48 := by kernel_rfl
theorem table0 {W : World} (h : laidMetH Tryd.prog Rows.cellsAddressesRow.laid W) : Lib.TabIs Tryd.prog W "taproot/class.cell" .i64 [2, 3, 4, 5, 6, 7, 8, 10, 12, 14, 16, 18, 20, 24, 28, 32, 36, 40, 46, 51, 56, 64, 73, 85, 92, 102, 113, 128, 146, 170, 204, 256] :=
  Lib.tabIs_of_head gTab0 gType0 Tryd.underlying48 Tryd.underlying3 (by kernel_rfl) (by kernel_rfl) h

theorem contract (H : Type) (enc : TypeId × Value → H) (W : World) (base : Nat) (args : Array Value) (ds gs : List (DataW H)) (before : List MemPlace)
    (hval : ∀ (j : Nat) t v, Tryd.f3.params[j]? = some t → args[j]? = some v → Value.okWide Tryd.prog W .any base t v)
    (hW : DataW.Whole enc Tryd.prog Tryd.f3.params.toList Rows.cellsAddressesSpec.vars false W args.toList ds gs before) (hL : laidMetH Tryd.prog Rows.cellsAddressesRow.laid W) :
    Calls Tryd.prog 3 args W fun e W' => ∃ v, e = .returned v ∧ Rows.cellsAddressesSpec.post enc Tryd.prog Tryd.f3 false true false false W args v W' := by
  have hW' := hW
  obtain ⟨p, q, hA0, hV, rfl, hfz, hnd⟩ := hW
  have hA : DataW.TrodAll enc Tryd.prog W 0 (fun _ => true) true Tryd.f3.params.toList args.toList ds p := hA0
  rw [Tryd.params3] at hA hval
  obtain ⟨v0, vs0, d0, ds0, p0, q0, hargs, rfl, rfl, h0, r0⟩ := trodAll_cons hA
  obtain ⟨v1, vs1, d1, ds1, p1, q1, rfl, rfl, rfl, h1, r1⟩ := trodAll_cons r0
  obtain ⟨v2, vs2, d2, ds2, p2, q2, rfl, rfl, rfl, h2, r2⟩ := trodAll_cons r1
  obtain ⟨rfl, rfl, rfl⟩ := trodAll_nil r2
  obtain rfl : args = #[v0, v1, v2] := by cases args; simp_all
  obtain ⟨rfl, rfl⟩ := trodVars_none hV
  obtain ⟨a0, rfl, rfl, rfl, w0⟩ := open_int Tryd.underlying5 (hval 0 5 v0 rfl rfl) h0
  have k1 := h1
  have lt1 : ∀ x ∈ p1, x.block < W.heap.size := by obtain ⟨m, hm⟩ := k1; exact DataW.trod_lt m _ _ _ hm
  obtain ⟨z1, rfl, hz1, wz1⟩ := arr_of Tryd.underlying22 Tryd.underlying3 (by kernel_rfl) (by kernel_rfl) (hval 1 22 v1 rfl rfl) h1
  obtain ⟨a1_0, a1_1, rfl⟩ := list2 hz1
  have w1_0 : (Lit.int .i64 a1_0).wf = true := wz1 _ (by simp)
  have w1_1 : (Lit.int .i64 a1_1).wf = true := wz1 _ (by simp)
  clear wz1 hz1
  simp only [List.map_cons, List.map_nil] at k1 ⊢
  have k2 := h2
  have lt2 : ∀ x ∈ p2, x.block < W.heap.size := by obtain ⟨m, hm⟩ := k2; exact DataW.trod_lt m _ _ _ hm
  obtain ⟨z2, hz2, rfl, wz2⟩ := struct_ints Tryd.underlying24 (by kernel_rfl) [.i64, .i64] (by kernel_rfl) (by kernel_rfl) (by kernel_rfl) (hval 2 24 v2 rfl rfl) h2
  obtain ⟨a2_0, a2_1, rfl⟩ := list2 hz2
  have w2_0 : (Lit.int .i64 a2_0).wf = true := wz2 (.i64, a2_0) (by simp)
  have w2_1 : (Lit.int .i64 a2_1).wf = true := wz2 (.i64, a2_1) (by simp)
  clear wz2 hz2
  simp only [vals, List.zip_cons_cons, List.zip_nil_right, List.map_cons, List.map_nil] at k2 ⊢
  clear hA0
  refine (walk a0 a1_0 a1_1 a2_0 a2_1 W w0 w1_0 w1_1 w2_0 w2_1 (table0 hL)).mono fun e W' ⟨he, bel⟩ => ?_
  subst he
  exact ⟨_, rfl, _, _, _, [], _, [], hW', trodAll_mk1 (shut_bool Tryd.underlying4 _), (trodAll_cons_mk (shut_int Tryd.underlying5 w0) (trodAll_cons_mk (Below.trod laidOut (by kernel_rfl) (of_decide_eq_true (by kernel_rfl)) k1 bel lt1) (trodAll_cons_mk (Below.trod laidOut (by kernel_rfl) (of_decide_eq_true (by kernel_rfl)) k2 bel lt2) trodAll_mk0))), rfl, bel.frame _, fun h => by cases h⟩

noncomputable def laidWorld (os : Os) : World :=
  { World.holding Tryd.prog os ⟨#[], #[], []⟩ with heap := ((World.holding Tryd.prog os ⟨#[], #[], []⟩).heap).modify 0 fun
      | .cells _ t frozen => .cells #[.int .i64 2, .int .i64 3, .int .i64 4, .int .i64 5, .int .i64 6, .int .i64 7, .int .i64 8, .int .i64 10, .int .i64 12, .int .i64 14, .int .i64 16, .int .i64 18, .int .i64 20, .int .i64 24, .int .i64 28, .int .i64 32, .int .i64 36, .int .i64 40, .int .i64 46, .int .i64 51, .int .i64 56, .int .i64 64, .int .i64 73, .int .i64 85, .int .i64 92, .int .i64 102, .int .i64 113, .int .i64 128, .int .i64 146, .int .i64 170, .int .i64 204, .int .i64 256] t frozen
      | o => o }
theorem laid_met (os : Os) : laidMet Tryd.prog Rows.cellsAddressesRow.laid ((laidWorld os).forCall (fun _ _ => 0) ⟨#[], #[.int .u8 0, .agg #[.int .i64 0, .int .i64 0], .agg #[.int .i64 0, .int .i64 0]], []⟩).memory :=
  laidMet_of_run' 8 (by kernel_rfl) (by kernel_rfl)
theorem reads (os : Os) {H : Type} (enc : TypeId × Value → H) : ∃ x, DataW.whole enc Tryd.prog ((laidWorld os).forCall (fun _ _ => 0) ⟨#[], #[.int .u8 0, .agg #[.int .i64 0, .int .i64 0], .agg #[.int .i64 0, .int .i64 0]], []⟩).memory Tryd.f3.params.toList Rows.cellsAddressesSpec.vars false (#[.int .u8 0, .agg #[.int .i64 0, .int .i64 0], .agg #[.int .i64 0, .int .i64 0]] : Array Value).toList 8 = some ([.lit (.int .u8 0), .agg [.lit (.int .i64 0), .lit (.int .i64 0)], .agg [.lit (.int .i64 0), .lit (.int .i64 0)]], [], x) :=
  ⟨[], by kernel_rfl⟩

set_option maxRecDepth 100000 in
theorem lifted (os : Os) (started : os.Started) (H : Type) (enc : TypeId × Value → H) (F : Stop.Interp) :
    ReturnsInHanded {} Tryd.checked os 3 .any ((OpenSpec.ofChange Rows.cellsAddressesSpec).preRow enc Tryd.prog Tryd.f3 Rows.cellsAddressesRow.domain false Rows.cellsAddressesRow.laid) (((OpenSpec.ofChange Rows.cellsAddressesSpec).at F).post enc Tryd.prog Tryd.f3 false true false false) := by
  obtain ⟨places, hx⟩ := reads os enc
  refine returnsInHanded_of_row (C := Tryd.checked) (s := OpenSpec.ofChange Rows.cellsAddressesSpec) own started (by kernel_rfl) Tryd.func3
    (witness_row_at (enc := enc) (C := Tryd.checked) false (laidWorld os) #[.int .u8 0, .agg #[.int .i64 0, .int .i64 0], .agg #[.int .i64 0, .int .i64 0]] rfl (by kernel_rfl) (by kernel_rfl) (by kernel_rfl)
      (OpenSpec.preRow_of_cond 8 hx (by kernel_rfl) (fun k hk => by cases hk) (by kernel_rfl) (laid_met os))) ?_
  intro W base args ds gs before hval hW _ hcond hreach hL hsh _
  exact contract H enc W base args ds gs before hval hW hL

theorem said : Rows.CellsAddressesSaid :=
  OpenClaim.holds_of_cond 3 Tryd.f3 rfl rfl rfl rfl rfl rfl rfl ⟨rfl, rfl, rfl, rfl, rfl⟩ rfl rfl rfl rfl rfl (by kernel_rfl) Tryd.func3 (by kernel_rfl)
    (of_decide_eq_true (by kernel_rfl)) (by unfold Func.isWrapper; first | (rw [if_pos (by decide +kernel)]; kernel_rfl) | (rw [if_neg (by decide +kernel)]; exact ⟨rfl, rfl⟩))
    (fun os started H enc _ F => by rw [OpenClaim.pre_eq_preRow]; exact lifted os started H enc F)

theorem plain (f : FuncId) (fn : Func) (hf : Tryd.pinned.checked.prog.funcNamed "taproot/taprootlaw09.CellsAddresses" = some f) (hfn : Tryd.pinned.checked.prog.funcs[f]? = some fn) :
    false = Tryd.pinned.checked.prog.looks [] ∧ ∀ (j : Nat) t, fn.params[j]? = some t → Tryd.pinned.checked.prog.wantsStandIn t = false := by
  obtain rfl : f = 3 := Option.some.inj ((show Tryd.prog.funcNamed "taproot/taprootlaw09.CellsAddresses" = some 3 by kernel_rfl).symm.trans hf) |>.symm
  obtain rfl : fn = Tryd.f3 := (Option.some.inj (Tryd.func3.symm.trans hfn)).symm
  refine ⟨by kernel_rfl, fun j t ht => ?_⟩
  rw [Tryd.params3] at ht
  have hm := Array.mem_of_getElem? ht
  simp only [List.mem_toArray, List.mem_cons, List.not_mem_nil, or_false] at hm
  rcases hm with rfl | rfl | rfl
  · exact (show Tryd.prog.wantsStandIn 5 = false by kernel_rfl)
  · exact (show Tryd.prog.wantsStandIn 22 = false by kernel_rfl)
  · exact (show Tryd.prog.wantsStandIn 24 = false by kernel_rfl)

/-- The card: the statement. -/
theorem proved : Rows.CellsAddressesCardSaid :=
  Claim7.holds_tied_plain_at .later [] _ _ _ _ said (fun _ h => by cases h) (by kernel_rfl) (fun _ h => by cases h) cellsAddresses_row_tie rfl ⟨rfl, rfl⟩ (by kernel_rfl) rfl plain (by kernel_rfl)
#print axioms proved
end Go.Proofs.YtkboafcfpppnmaaDoor.cellsAddresses
