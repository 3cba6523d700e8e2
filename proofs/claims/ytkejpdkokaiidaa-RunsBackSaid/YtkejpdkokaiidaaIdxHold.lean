/- runs: over, meets, holding. -/
import Derived.Test.YtkejpdkokaiidaaIdxBase
namespace Go.Proofs.Ytkejpdkokaiidaa
open Go.ChangeShapes Go.WideShapes Go.ChangeAt Go.RowKit Bk Rn
set_option linter.unusedVariables false

/-- The run that a block is of, or none. -/
def HoldIs (f : Nat → Bool) (N : Nat) (b : Int) (w : World) (e : Ending) (w' : World) : Prop :=
  Below w.heap.size w w' ∧ ((∃ s k : Nat, Run f N s k ∧ (s : Int) ≤ b ∧ b < ((s + k : Nat) : Int) ∧ e = .returned (.tuple #[.agg #[.int .i64 s, .int .i64 k], .bool true])) ∨
    ((∀ s k : Nat, Run f N s k → ¬ ((s : Int) ≤ b ∧ b < ((s + k : Nat) : Int))) ∧ e = .returned (.tuple #[.agg #[.int .i64 0, .int .i64 0], .bool false])))

set_option maxRecDepth 100000 in
set_option maxHeartbeats 1000000 in
theorem idxHolding_any {w : World} {x : Nat} {own : Nat → Prop} {lim : Int} {f : Nat → Bool} (h : Ix w x own lim f) (h2 : lim ≤ 1000) (b : Int) (hb1 : -9223372036854775808 ≤ b) (hb2 : b ≤ 9223372036854775807) :
    Calls Try.prog 18 #[.pointer (some ⟨x, 0, none⟩), .int .i64 b] w (HoldIs f lim.toNat b w) := by
  obtain ⟨bm, hbx, hm, hob⟩ := h.at_
  have hxl := hbx.lt
  have HI := Lib.hid h
  obtain ⟨wa, hwa⟩ : ∃ wa, w.alloc (.cells #[.int .i64 0, .int .i64 0] 38) = wa := ⟨_, rfl⟩
  have c1 : (w.alloc (.cells #[.int .i64 0, .int .i64 0] 38)).cell? ⟨x, 1, none⟩ = some (.map (some bm)) := (hbx.alloc _).cell 1
  have HM := Lib.hid (hm.alloc (.cells #[.int .i64 0, .int .i64 0] 38))
  have HB := Lib.hid (BoxT.new 38 w #[.int .i64 0, .int .i64 0])
  clear hm hbx h hwa wa
  go_enter Try.func18, Try.ntmps18
  go_wp2_with (first
    | (at_range; refine wpList_range_own _ rfl _ 60 rfl 3 3 ixKey Try.underlying60 (plainElem (H := Unit) Try.prog 3) bm _ _ rfl HM.out ?_; intro w0 hrg0 hg0 hs0))
  go_frame
  simp only [World.size_alloc]
  go_loopw [6, 7] (fun _ _ wr => ∃ (left : Lit → Bool) (cnt : Nat), Hid (Rng f lim.toNat w bm (w.heap.size + 1) wr left cnt ∧ BoxT 38 wr w.heap.size #[.int .i64 0, .int .i64 0] ∧ ∀ s k, Come f lim.toNat left s k → ¬ ((s : Int) ≤ b ∧ b < ((s + k : Nat) : Int))))
    (fun _ _ wr => wr.rangeLeft bm (w.heap.size + 1))
  case atStart =>
    have hr := Rng.start (w := w) HM.out ((Below.refl _ _).alloc (Nat.le_refl _) _) hrg0 hg0
    rw [World.size_alloc] at hr
    exact ⟨_, _, Lib.hid ⟨hr, (hg0.block _ (by simp) (by simp)).trans HB.out, fun s k h => (come_none h).elim⟩⟩
  case round =>
    obtain ⟨left, cnt, HR⟩ := hrel
    clear hrg0 hg0 hs0 c1
    go_wp2_with (first
      | (at_next; refine wpList_next_ranges_ii _ rfl _ rfl 3 3 .i64 .i64 ixKey Try.underlying3 Try.underlying3 bm (w.heap.size + 1) _ _ _ _ rfl HR.out.1.1 ?_ ?_))
    · intro _ hl0
      have HL := Lib.hid hl0
      have HBR := Lib.hid HR.out.2.1
      clear hl0
      go_wp2_with (refine wpList_store_boxT rfl _ _ _ rfl (b := w.heap.size) (cells := #[.int .i64 0, .int .i64 0]) rfl rfl HBR.out infoIx (ixSz _ _ _ _) (ixOne _ _) ?_)
      exact bodyPost_ret (results_boxT2 rfl _ _ (w.heap.size) #[.int .i64 0, .int .i64 0] (.bool false) rfl (HBR.out.row _) Try.underlying38 rfl infoIx rfl) rfl ⟨below_setRow HR.out.1.2.2.1 (Nat.le_refl _) _, .inr ⟨fun s k hr => HR.out.2.2 s k (come_all HL.out hr), rfl⟩⟩
    · intro y c w1 cnt1 hwx hwc hl hat hrg1 hlt hg1 hs1 hen
      obtain ⟨hR1, s, k, rfl, rfl, hrun⟩ := HR.out.1.step hl hat hrg1 hg1
      have HR1 := Lib.hid hR1
      have hB1 : BoxT 38 w1 w.heap.size #[.int .i64 0, .int .i64 0] := (hg1.block _ HR.out.2.1.lt (by intro e; injection e with e; omega)).trans HR.out.2.1
      have HB1 := Lib.hid hB1
      have HC := Lib.hid (fun i j => (come_step (left := left) hrun i j).1)
      have HM1 := Lib.hid (HR.out.1.meas hR1 hlt)
      have hin := HI.out.run hrun
      have hpos := hrun.pos
      have HRUN := Lib.hid hrun
      clear hwx hwc hl hat hrg1 hlt hg1 hs1 hR1 hB1 hrun
      by_cases hs : (s : Int) ≤ b
      · by_cases hk : b - s < k
        · go_wp2_with (refine wpList_store_boxT rfl _ _ _ rfl (b := w.heap.size) (cells := #[.int .i64 s, .int .i64 k]) rfl rfl HB1.out infoIx (ixSz _ _ _ _) (ixOne _ _) ?_)
          exact bodyPost_ret (results_boxT2 rfl _ _ (w.heap.size) #[.int .i64 s, .int .i64 k] (.bool true) rfl (HB1.out.row _) Try.underlying38 rfl infoIx rfl) rfl ⟨below_setRow HR1.out.2.2.1 (Nat.le_refl _) _, .inl ⟨s, k, HRUN.out, hs, by omega, rfl⟩⟩
        · go_wp2_with fail
          go_roundw
          case rel => exact ⟨_, _, Lib.hid ⟨HR1.out, HB1.out, fun i j hc => by
            rcases HC.out i j hc with ⟨rfl, rfl⟩ | h
            · omega
            · exact HR.out.2.2 i j h⟩⟩
          case measure => exact HM1.out
      · go_wp2_with fail
        go_roundw
        case rel => exact ⟨_, _, Lib.hid ⟨HR1.out, HB1.out, fun i j hc => by
          rcases HC.out i j hc with ⟨rfl, rfl⟩ | h
          · omega
          · exact HR.out.2.2 i j h⟩⟩
        case measure => exact HM1.out

end Go.Proofs.Ytkejpdkokaiidaa
