/- cells: All, an iterator: what it hands back, and what that goes over. -/
import Derived.Test.YtkboafcfpppnmaaDoorCellsAddr
import Derived.RangeFuncNested
import Derived.RangeFuncBound
import Derived.RangeFuncCalls
import Derived.RangeFuncLeaves
import Derived.Shelf.Abstract
import Derived.WalkKit
import Derived.OwnWalkIn
import Derived.TacticsInMore
import Derived.LoopNIn
import Derived.LoopIn
namespace Go.Proofs.YtkboafcfpppnmaaDoor
open Go.ChangeShapes Go.WideShapes Go.ChangeAt Go.RowKit Cl Ce
set_option linter.unusedVariables false

set_option maxHeartbeats 400000 in
/-- All boxes what it is told; the function that it hands back leads to the boxes. -/
theorem cellAll_any (n k b : Int) (w : World) :
    Calls Tryd.prog 14 #[.agg #[.int .i64 n], .int .i64 k, .int .i64 b] w fun e w' =>
      e = .returned (.func (.func 26) #[] #[.pointer (some ⟨w.heap.size + 1, 0, none⟩), .pointer (some ⟨w.heap.size, 0, none⟩), .pointer (some ⟨w.heap.size + 2, 0, none⟩)]) ∧
      w' = ((w.alloc (.cells #[.int .i64 n] 27)).alloc (.cells #[.int .i64 k] 3)).alloc (.cells #[.int .i64 b] 3) := by
  have hmf : ∀ (fn : Fn) (first cap : Array Value) (w : World), (Instr.makeFunc fn first cap).run Tryd.prog w = .ok (.func fn first cap) w := fun _ _ _ _ => rfl
  go_enter Tryd.func14, Tryd.ntmps14
  go_wp2_with fail
  go_ret
  exact ⟨rfl, rfl⟩

/-- What the iterator reads between two rounds, wherever what lay below n₀ lies on. -/
def IterHas (n₀ : Nat) (n k b : Int) (g : Nat) (w : World) : Prop :=
  ∀ W, Below n₀ w W → HasCells W ∧ W.cell? ⟨g, 0, none⟩ = some (.int .i64 n) ∧ W.cell? ⟨g + 1, 0, none⟩ = some (.int .i64 k) ∧ W.cell? ⟨g + 2, 0, none⟩ = some (.int .i64 b)

theorem IterHas.on {n₀ g : Nat} {n k b : Int} {w w' : World} (h : IterHas n₀ n k b g w) (hb : Below n₀ w w') : IterHas n₀ n k b g w' := fun W h2 => h W (hb.trans h2)
theorem BoxT.grown {t b : Nat} {w w' : World} {cs : Array Value} {row : Option Nat} (h : BoxT t w b cs) (hg : w.grownBy w' row) (hr : ∀ r, row = some r → b < r) : BoxT t w' b cs :=
  (hg.block b h.lt (fun e => by have := hr _ e.symm; omega)).trans h
theorem eqNil (fn : Fn) (bound cap : Array Value) (w : World) : (binOp BinOp.eql 38 (.func fn bound cap) .nilFunc).run Tryd.prog w = .ok (.bool false) w := rfl

/-- All's boxes, just made. -/
theorem iterHas_new (w : World) (n k b : Int) (hT : HasCells w) :
    IterHas (w.heap.size + 3) n k b w.heap.size (((w.alloc (.cells #[.int .i64 n] 27)).alloc (.cells #[.int .i64 k] 3)).alloc (.cells #[.int .i64 b] 3)) := by
  intro W h
  have e : (((w.alloc (.cells #[.int .i64 n] 27)).alloc (.cells #[.int .i64 k] 3)).alloc (.cells #[.int .i64 b] 3)).heap.size = w.heap.size + 3 := by simp
  obtain ⟨b1, b2, b3, hb, _⟩ := boxT_of3 (W := W) (by rw [e]; exact h)
  exact ⟨hT.below hb (Nat.le_refl _), b1.cell 0, b2.cell 0, b3.cell 0⟩

theorem below_grown {W W' : World} (h : Below W.heap.size W W') : W.grownBy W' none :=
  ⟨h.os, h.tape, h.output, h.size, fun k hk _ => h.block k hk⟩

set_option maxRecDepth 100000 in
set_option maxHeartbeats 2000000 in
/-- All the first words of the cells of the block, in order; or the first ones of them, where a round has said 'no more'. -/
theorem cellIter_stops (m : Nat) (n k b : Int) (n₀ g : Nat) (w : World) (hn : n ≤ 1048576) (hn₀ : n₀ ≤ w.heap.size) (hI : IterHas n₀ n k b g w) (hm : 1 ≤ m) :
    SeqStopsK Fence.wide m Tryd.prog 26 #[.pointer (some ⟨g + 1, 0, none⟩), .pointer (some ⟨g, 0, none⟩), .pointer (some ⟨g + 2, 0, none⟩)] (fun x : Int => #[Value.int .i64 x]) (Below n₀) (fun xs => xs = allC n k b) (fun pre => pre <+: allC n k b) (manyC n k b) w := fun l J Jx W hW hJ hJx hY h0 => by
  have B0 : Hid (Below n₀ w W) := Lib.hid (hW.mono hn₀)
  have HI := Lib.hid hI
  have HJ := Lib.hid hJ
  have HY := Lib.hid hY
  have H0 : Hid (J (firstC k b 0) W) := Lib.hid h0
  have hle := cellsC_le k
  have hcn : Fence.wide.fn 18 := trivial
  have han : Fence.wide.fn 12 := trivial
  have HC : Hid (∀ w, HasCells w → CallsIn Fence.wide (m - 1) Tryd.prog 18 #[.int .i64 k] w fun e w' => e = .returned (.int .i64 (cellsC k : Nat)) ∧ w = w') := Lib.hid fun w h => callsIn_wide.2 (cells_all k w h)
  have HA : Hid (∀ (i : Nat) w, HasCells w → CallsIn Fence.wide (m - 1) Tryd.prog 12 #[.agg #[.int .i64 n], .int .i64 k, .agg #[.int .i64 b, .int .i64 i]] w (MadeOne (.int .i64 (addrC n k b i)) w)) := Lib.hid fun i w h => callsIn_wide.2 (cellAddr_any n k b i w h hn)
  obtain ⟨ht, c0, c1, c2⟩ := hI W B0.out
  have HT := Lib.hid ht
  clear hI hJ hJx hY h0 ht hW
  refine callsIn_of_wp Tryd.func26 rfl trivial ?_ rfl
  simp only [Tryd.ntmps26, List.size_toArray, List.length_cons, List.length_nil, Nat.reduceAdd, Nat.reduceSub, Array.replicate_succ, Array.replicate_zero, List.push_toArray, List.append_toArray, List.nil_append, List.cons_append]
  gi_wp2_with (gi_at_call 18; refine (HC.out _ HT.out).mono ?_; rintro e w' ⟨rfl, rfl⟩)
  clear hcn c0 c1 c2 HT HC
  gi_loopw [9] (fun i wr => ∃ q : Nat, q ≤ cellsC k ∧ q ≤ manyC n k b ∧ i = .int .i64 q ∧ Hid (J (firstC k b q) wr) ∧ Hid (Below n₀ w wr) ∧ Hid (W.heap.size ≤ wr.heap.size)) (fun i _ => 257 - (intOf i).toNat)
  case atStart => exact ⟨0, by omega, by omega, rfl, H0, B0, Lib.hid (Nat.le_refl _)⟩
  case round =>
    obtain ⟨q, hq, hq2, rfl, HJ0, HB, HS⟩ := hrel
    by_cases hlt : q < cellsC k
    · obtain ⟨ht, c0, c1, c2⟩ := HI.out wr HB.out
      have HT := Lib.hid ht
      clear ht
      by_cases hmy : q < manyC n k b
      · have ha := addr_many hmy
        have hb := many_block hmy
        have hx := one_fits (k := k) (i := q) hlt
        have HAQ := Lib.hid (HA.out q)
        rw [ha] at HAQ
        have hl' : (firstC k b q).length < manyC n k b := by rw [firstC_len]; exact hmy
        have HS1 := Lib.hid (firstC_succ k b q)
        have hp0 : 0 ≤ (q : Int) * (wordsC k : Nat) := Int.mul_nonneg (by omega) (by omega)
        obtain ⟨X, hX⟩ : ∃ X : Int, 512 * b + (q : Int) * (wordsC k : Nat) = X := ⟨_, rfl⟩
        rw [hX] at HAQ HS1
        have hd : decide (X < 0) = false := by simp; omega
        have hlt' : ((q : Nat) : Int) < ((cellsC k : Nat) : Int) := by omega
        clear ha hb hx hp0 hX HA
        gi_wp2_with (gi_at_call 12; refine (HAQ.out _ HT.out).mono ?_; rintro e w1 ⟨rfl, hb1⟩; have B1 := Lib.hid (HB.out.trans (hb1.mono (Nat.le_trans hn₀ HB.out.size))); have S1 := Lib.hid (Nat.le_trans HS.out hb1.size); have hj1 := HJ.out _ _ _ none HJ0.out (below_grown hb1) (fun r e => by cases e); obtain ⟨fn, tmps, assign, body, hy, hR⟩ := HY.out _ X w1 hj1 hl'; clear hb1 hj1 HJ0 HB HS c0 c1 c2 HAQ HT)
        refine hR.mono ?_
        rintro e w2 (⟨rfl, hj2, hb2⟩ | ⟨rfl, hj2⟩)
        · have B2 := Lib.hid (B1.out.trans hb2)
          have S2 := Lib.hid (Nat.le_trans S1.out hb2.size)
          have J2 : Hid (J (firstC k b (q + 1)) w2) := Lib.hid (by rw [HS1.out]; exact hj2)
          clear hj2 hb2
          gi_wp2_with fail
          go_roundw
          case rel => exact ⟨q + 1, by omega, by omega, by go_num, J2, B2, S2⟩
          case measure => simp [intOf]; omega
        · have J2 : Hid (Jx (firstC k b (q + 1)) w2) := Lib.hid (by rw [HS1.out]; exact hj2)
          clear hj2
          gi_wp2_with fail
          refine bodyPost_ret (results_none rfl _ _ _) rfl ?_
          exact ⟨⟨_, rfl⟩, .inr ⟨_, (by rw [← firstC_take k b (show q + 1 ≤ manyC n k b from hmy)]; exact List.take_prefix _ _), J2.out⟩⟩
      · have ha := addr_none hmy
        have HQ : Hid (firstC k b q = allC n k b) := Lib.hid (by unfold allC; rw [show q = manyC n k b by omega])
        have HAQ := Lib.hid (HA.out q)
        rw [ha] at HAQ
        have hlt' : ((q : Nat) : Int) < ((cellsC k : Nat) : Int) := by omega
        clear ha hmy HA hq2
        gi_wp2_with fail
        refine (HAQ.out _ HT.out).mono ?_
        rintro e w1 ⟨rfl, hb1⟩
        have J1 := Lib.hid (HJ.out _ _ _ none HJ0.out (below_grown hb1) (fun r e => by cases e))
        clear hb1 HJ0 HB HS c0 c1 c2 HAQ HT
        gi_wp2_with fail
        refine ⟨fun _ h => (by cases h), ?_⟩
        gi_wp2_with fail
        refine bodyPost_ret (results_none rfl _ _ _) rfl ?_
        have JE := J1.out
        rw [HQ.out] at JE
        first | exact ⟨⟨_, rfl⟩, .inl JE⟩ | exact ⟨⟨_, rfl⟩, .inl ⟨_, rfl, JE⟩⟩
    · have HQ : Hid (firstC k b q = allC n k b) := Lib.hid (by unfold allC; rw [show q = manyC n k b by have := many_cells n k b; omega])
      have hlt' : ¬ ((q : Int) < ((cellsC k : Nat) : Int)) := by omega
      clear hlt hq hq2 hle
      gi_wp2_with fail
      go_end0
      have JE := HJ0.out
      rw [HQ.out] at JE
      first | exact ⟨⟨_, rfl⟩, .inl JE⟩ | exact ⟨⟨_, rfl⟩, .inl ⟨_, rfl, JE⟩⟩

end Go.Proofs.YtkboafcfpppnmaaDoor
