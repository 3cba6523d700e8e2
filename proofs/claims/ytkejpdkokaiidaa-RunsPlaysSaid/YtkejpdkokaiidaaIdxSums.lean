/- runs: New, Has, Total, Longest. -/
import Derived.Test.YtkejpdkokaiidaaIdxMeets
namespace Go.Proofs.Ytkejpdkokaiidaa
open Go.ChangeShapes Go.WideShapes Go.ChangeAt Go.RowKit Bk Rn
set_option linter.unusedVariables false

/-- A new index. -/
def NewIx (lim : Int) (f : Nat → Bool) (w : World) (e : Ending) (w' : World) : Prop := ∃ x own, e = .returned (.pointer (some ⟨x, 0, none⟩)) ∧ Ix w' x own lim f ∧ Below w.heap.size w w' ∧ ∀ b, own b → w.heap.size ≤ b
/-- Whether a block is free, of any number. -/
def hasF (f : Nat → Bool) (N : Nat) (b : Int) : Bool := decide (0 ≤ b) && (decide (b < N) && f b.toNat)
theorem runsTo_none (N : Nat) : runsTo (fun _ => false) N = [] := by
  induction N with
  | zero => rfl
  | succ b ih => rw [runsTo_skip rfl, ih]

set_option maxRecDepth 100000 in
theorem idxNew_any (lim : Int) (w : World) (h1 : -1000 ≤ lim) (h2 : lim ≤ 1000) : Calls Try.prog 16 #[.int .i64 lim] w (NewIx lim (fun _ => false) w) := by
  have hmm := @run_makeMap Try.prog
  go_enter Try.func16, Try.ntmps16
  go_wp2_with fail
  go_ret
  have hm := World.ownsMap_made w Try.prog 3 (plainElem (H := Unit) Try.prog 3)
  refine ⟨w.heap.size + 1, fun b => b = w.heap.size ∨ b = w.heap.size + 1, rfl, ⟨⟨w.heap.size, ?_, ?_, .inl rfl⟩, .inr rfl, fun b hb => ?_, fun b hb => by cases hb⟩, ((Below.refl _ _).alloc (Nat.le_refl _) _).alloc (by simp) _, fun b hb => by omega⟩
  · have := BoxT.new 62 (w.alloc (.map #[] 0)) #[.int .i64 lim, .map (some w.heap.size)]
    rwa [World.size_alloc] at this
  · have e : mapOf (fun _ => false) lim.toNat = .map [] := by unfold mapOf; rw [runsTo_none]; rfl
    rw [e, runsTo_none]
    exact hm.alloc _
  · simp; omega

set_option maxRecDepth 100000 in
theorem idxHas_any {w : World} {x : Nat} {own : Nat → Prop} {lim : Int} {f : Nat → Bool} (h : Ix w x own lim f) (h2 : lim ≤ 1000) (b : Int) (hb1 : -9223372036854775808 ≤ b) (hb2 : b ≤ 9223372036854775807) :
    Calls Try.prog 8 #[.pointer (some ⟨x, 0, none⟩), .int .i64 b] w (MadeOne (.bool (hasF f lim.toNat b)) w) := by
  have hc := idxHolding_any h h2 b hb1 hb2
  have HF := Lib.hid h.free
  clear h
  go_enter Try.func8, Try.ntmps8
  go_wp2_with fail
  refine hc.mono ?_
  rintro e w1 ⟨hB, ⟨s, k, hr, g1, g2, rfl⟩ | ⟨hno, rfl⟩⟩
  · have hf : hasF f lim.toNat b = true := by
      have h3 := hr.all b.toNat (by omega) (by omega)
      have h4 := hr.le
      unfold hasF
      rw [h3]
      simp
      omega
    have H := Lib.hid hf
    have HB := Lib.hid hB
    clear hf hB hr hc
    go_wp2_with fail
    go_ret
    exact ⟨by rw [H.out]; rfl, HB.out.alloc HB.out.size _⟩
  · have hf : hasF f lim.toNat b = false := by
      cases e : hasF f lim.toNat b
      · rfl
      · unfold hasF at e
        simp at e
        obtain ⟨s, k, hr, g1, g2⟩ := Run.of (b := lim.toNat) (by omega) e.2.2
        exact absurd ⟨by omega, by omega⟩ (hno s k hr)
    have H := Lib.hid hf
    have HB := Lib.hid hB
    clear hf hB hno hc
    go_wp2_with fail
    go_ret
    exact ⟨by rw [H.out]; rfl, HB.out.alloc HB.out.size _⟩

theorem runs_small {f : Nat → Bool} {N : Nat} {p : Int × Int} (h : p ∈ runsTo f N) : 0 ≤ p.2 ∧ p.2 ≤ N := by
  obtain ⟨x, y⟩ := p
  obtain ⟨s, k, rfl, rfl, hr⟩ := ((runsTo_all f N).1 x y).1 h
  have := hr.le
  simp only
  omega

set_option maxRecDepth 100000 in
set_option maxHeartbeats 1000000 in
theorem idxTotal_any {w : World} {x : Nat} {own : Nat → Prop} {lim : Int} {f : Nat → Bool} (h : Ix w x own lim f) (h2 : lim ≤ 1000) :
    Calls Try.prog 23 #[.pointer (some ⟨x, 0, none⟩)] w (MadeOne (.int .i64 (totTo (runsTo f lim.toNat) (runsTo f lim.toNat).length)) w) := by
  obtain ⟨bm, hbx, hm, hob⟩ := h.at_
  have hxl := hbx.lt
  have c1 : w.cell? ⟨x, 1, none⟩ = some (.map (some bm)) := hbx.cell 1
  have HM := Lib.hid hm
  have HS : Hid (∀ left, 0 ≤ sumCome (runsTo f lim.toNat) left ∧ sumCome (runsTo f lim.toNat) left ≤ 1000000) := Lib.hid fun left => by
    have h1 := sumCome_le (left := left) (B := lim.toNat) (by omega) (l := runsTo f lim.toNat) (fun p hp => runs_small hp)
    have h3 := runsTo_len f lim.toNat
    refine ⟨h1.1, Int.le_trans h1.2 ?_⟩
    have h4 : (lim.toNat : Int) * (runsTo f lim.toNat).length ≤ (lim.toNat : Int) * 1000 := Int.mul_le_mul_of_nonneg_left (by omega) (by omega)
    omega
  clear hm hbx h
  go_enter Try.func23, Try.ntmps23
  go_wp2_with (first
    | (at_range; refine wpList_range_own _ rfl _ 60 rfl 3 3 ixKey Try.underlying60 (plainElem (H := Unit) Try.prog 3) bm _ _ rfl HM.out ?_; intro w0 hrg0 hg0 hs0))
  go_frame
  go_loopw [3, 5] (fun t _ wr => ∃ (left : Lit → Bool) (cnt : Nat) (T : Int), t = .int .i64 T ∧ Hid (Rng f lim.toNat w bm w.heap.size wr left cnt ∧ T = sumCome (runsTo f lim.toNat) left))
    (fun _ _ wr => wr.rangeLeft bm w.heap.size)
  case atStart =>
    have hr := Rng.start (w := w) HM.out (Below.refl _ _) hrg0 hg0
    exact ⟨_, _, 0, rfl, Lib.hid ⟨hr, sumCome_none.symm⟩⟩
  case round =>
    obtain ⟨left, cnt, T, rfl, HR⟩ := hrel
    clear hrg0 hg0 hs0 c1
    go_wp2_with (first
      | (at_next; refine wpList_next_ranges_ii _ rfl _ rfl 3 3 .i64 .i64 ixKey Try.underlying3 Try.underlying3 bm w.heap.size _ _ _ _ rfl HR.out.1.1 ?_ ?_))
    · intro _ hl0
      have HT := Lib.hid (HR.out.2.trans (sumCome_all hl0))
      clear hl0
      go_wp2_with fail
      go_ret
      exact ⟨by rw [← HT.out]; rfl, HR.out.1.2.2.1⟩
    · intro y c w1 cnt1 hwx hwc hl hat hrg1 hlt hg1 hs1 hen
      obtain ⟨hR1, s, k, rfl, rfl, hrun⟩ := HR.out.1.step hl hat hrg1 hg1
      have HR1 := Lib.hid hR1
      have HM1 := Lib.hid (HR.out.1.meas hR1 hlt)
      have hT : T + k = sumCome (runsTo f lim.toNat) (fun z => left z && !z.sameKey (.int .i64 (s : Int))) := by
        rw [sumCome_step (mapOf_rises f _) (((runsTo_all f _).1 s k).2 ⟨s, k, rfl, rfl, hrun⟩) hl, ← HR.out.2]
      have hT1 := HS.out left
      rw [← HR.out.2] at hT1
      have hk := hrun.le
      have HT := Lib.hid hT
      clear hwx hwc hl hat hrg1 hlt hg1 hs1 hR1 hrun hT
      go_wp2_with fail
      go_roundw
      case rel => exact ⟨_, _, _, rfl, Lib.hid ⟨HR1.out, HT.out⟩⟩
      case measure => exact HM1.out

set_option maxRecDepth 100000 in
set_option maxHeartbeats 1000000 in
theorem idxLongest_any {w : World} {x : Nat} {own : Nat → Prop} {lim : Int} {f : Nat → Bool} (h : Ix w x own lim f) (h2 : lim ≤ 1000) :
    Calls Try.prog 14 #[.pointer (some ⟨x, 0, none⟩)] w (MadeOne (.int .i64 (maxTo (runsTo f lim.toNat) (runsTo f lim.toNat).length)) w) := by
  obtain ⟨bm, hbx, hm, hob⟩ := h.at_
  have hxl := hbx.lt
  have c1 : w.cell? ⟨x, 1, none⟩ = some (.map (some bm)) := hbx.cell 1
  have HM := Lib.hid hm
  clear hm hbx h
  go_enter Try.func14, Try.ntmps14
  go_wp2_with (first
    | (at_range; refine wpList_range_own _ rfl _ 60 rfl 3 3 ixKey Try.underlying60 (plainElem (H := Unit) Try.prog 3) bm _ _ rfl HM.out ?_; intro w0 hrg0 hg0 hs0))
  go_frame
  go_loopw [3, 5] (fun t _ wr => ∃ (left : Lit → Bool) (cnt : Nat) (T : Nat), t = .int .i64 T ∧ Hid (Rng f lim.toNat w bm w.heap.size wr left cnt ∧ (∀ s k, Come f lim.toNat left s k → k ≤ T) ∧ (T = 0 ∨ ∃ s, Run f lim.toNat s T)))
    (fun _ _ wr => wr.rangeLeft bm w.heap.size)
  case atStart =>
    have hr := Rng.start (w := w) HM.out (Below.refl _ _) hrg0 hg0
    exact ⟨_, _, 0, rfl, Lib.hid ⟨hr, fun s k h => (come_none h).elim, .inl rfl⟩⟩
  case round =>
    obtain ⟨left, cnt, T, rfl, HR⟩ := hrel
    clear hrg0 hg0 hs0 c1
    go_wp2_with (first
      | (at_next; refine wpList_next_ranges_ii _ rfl _ rfl 3 3 .i64 .i64 ixKey Try.underlying3 Try.underlying3 bm w.heap.size _ _ _ _ rfl HR.out.1.1 ?_ ?_))
    · intro _ hl0
      have HT := Lib.hid (maxTo_eq (f := f) (N := lim.toNat) (m := T) (by omega) (fun s k hr => by have := HR.out.2.1 s k (come_all hl0 hr); omega) (by
        rcases HR.out.2.2 with h | ⟨s, h⟩
        · left; omega
        · exact .inr ⟨s, T, h, rfl⟩))
      clear hl0
      go_wp2_with fail
      go_ret
      exact ⟨by rw [HT.out]; rfl, HR.out.1.2.2.1⟩
    · intro y c w1 cnt1 hwx hwc hl hat hrg1 hlt hg1 hs1 hen
      obtain ⟨hR1, s, k, rfl, rfl, hrun⟩ := HR.out.1.step hl hat hrg1 hg1
      have HR1 := Lib.hid hR1
      have HM1 := Lib.hid (HR.out.1.meas hR1 hlt)
      have HC := Lib.hid (fun i j => (come_step (left := left) hrun i j).1)
      have HRUN := Lib.hid hrun
      clear hwx hwc hl hat hrg1 hlt hg1 hs1 hR1 hrun
      go_wp2_with fail
      go_roundw
      case rel =>
        refine ⟨_, _, max T k, ?_, Lib.hid ⟨HR1.out, fun i j hc => ?_, ?_⟩⟩
        · by_cases hc : T < k
          · rw [if_pos hc, Nat.max_eq_right (by omega)]
          · rw [if_neg hc, Nat.max_eq_left (by omega)]
        · rcases HC.out i j hc with ⟨rfl, rfl⟩ | h
          · omega
          · have := HR.out.2.1 i j h; omega
        · by_cases hc : T ≤ k
          · right; rw [Nat.max_eq_right hc]; exact ⟨s, HRUN.out⟩
          · rw [Nat.max_eq_left (by omega)]; exact HR.out.2.2
      case measure => exact HM1.out

end Go.Proofs.Ytkejpdkokaiidaa
