/- runs: over, meets. -/
import Derived.Test.YtkejpdkokaiidaaIdxHold
namespace Go.Proofs.Ytkejpdkokaiidaa
open Go.ChangeShapes Go.WideShapes Go.ChangeAt Go.RowKit Bk Rn
set_option linter.unusedVariables false

theorem okGive_iff {N : Nat} {a n : Int} : okGive N a n = true ↔ 1 ≤ a ∧ 1 ≤ n ∧ a < N ∧ n ≤ N - a := by unfold okGive; simp
theorem okGive_no {N : Nat} {a n : Int} (h : ¬ (1 ≤ a ∧ 1 ≤ n ∧ a < N ∧ n ≤ N - a)) : okGive N a n = false := by unfold okGive; exact decide_eq_false h
theorem okGive_yes {N : Nat} {a n : Int} (h : 1 ≤ a ∧ 1 ≤ n ∧ a < N ∧ n ≤ N - a) : okGive N a n = true := okGive_iff.2 h

set_option maxRecDepth 100000 in
set_option maxHeartbeats 1000000 in
theorem idxOver_any {w : World} {x : Nat} {own : Nat → Prop} {lim : Int} {f : Nat → Bool} (h : Ix w x own lim f) (h2 : lim ≤ 1000) (a n : Int) (ha1 : -9223372036854775808 ≤ a) (ha2 : a ≤ 9223372036854775807) (hn1 : -9223372036854775808 ≤ n) (hn2 : n ≤ 9223372036854775807) :
    Calls Try.prog 28 #[.pointer (some ⟨x, 0, none⟩), .int .i64 a, .int .i64 n] w fun e w' => e = .returned (.bool (okGive lim.toNat a n)) ∧ w' = w := by
  obtain ⟨bm, hbx, hm, hob⟩ := h.at_
  have c0 : w.cell? ⟨x, 0, none⟩ = some (.int .i64 lim) := hbx.cell 0
  clear hbx hm h
  by_cases g1 : 1 ≤ a
  rotate_left
  · rw [okGive_no (by omega)]
    go_enter Try.func28, Try.ntmps28
    go_wp2_with fail
    go_ret
    exact ⟨rfl, rfl⟩
  by_cases g2 : a < lim
  rotate_left
  · rw [okGive_no (by omega)]
    go_enter Try.func28, Try.ntmps28
    go_wp2_with fail
    go_ret
    exact ⟨rfl, rfl⟩
  by_cases g3 : 1 ≤ n
  rotate_left
  · rw [okGive_no (by omega)]
    go_enter Try.func28, Try.ntmps28
    go_wp2_with fail
    go_ret
    exact ⟨rfl, rfl⟩
  by_cases g4 : n ≤ lim - a
  · rw [okGive_yes (by omega)]
    go_enter Try.func28, Try.ntmps28
    go_wp2_with fail
    go_ret
    exact ⟨rfl, rfl⟩
  · rw [okGive_no (by omega)]
    go_enter Try.func28, Try.ntmps28
    go_wp2_with fail
    go_ret
    exact ⟨rfl, rfl⟩

set_option maxRecDepth 100000 in
set_option maxHeartbeats 1000000 in
theorem idxMeets_any {w : World} {x : Nat} {own : Nat → Prop} {lim : Int} {f : Nat → Bool} (h : Ix w x own lim f) (h2 : lim ≤ 1000) (a n : Nat) (ha : 1 ≤ a) (hn : 1 ≤ n) (han : a + n ≤ lim.toNat) :
    Calls Try.prog 29 #[.pointer (some ⟨x, 0, none⟩), .int .i64 a, .int .i64 n] w (MadeOne (.bool (anyF f a n)) w) := by
  obtain ⟨bm, hbx, hm, hob⟩ := h.at_
  have hxl := hbx.lt
  have HI := Lib.hid h
  have c1 : w.cell? ⟨x, 1, none⟩ = some (.map (some bm)) := hbx.cell 1
  have HM := Lib.hid hm
  clear hm hbx h
  go_enter Try.func29, Try.ntmps29
  go_wp2_with (first
    | (at_range; refine wpList_range_own _ rfl _ 60 rfl 3 3 ixKey Try.underlying60 (plainElem (H := Unit) Try.prog 3) bm _ _ rfl HM.out ?_; intro w0 hrg0 hg0 hs0))
  go_frame
  go_loopw [7, 8] (fun _ _ wr => ∃ (left : Lit → Bool) (cnt : Nat), Hid (Rng f lim.toNat w bm w.heap.size wr left cnt ∧ ∀ s k, Come f lim.toNat left s k → ¬ (s < a + n ∧ a < s + k)))
    (fun _ _ wr => wr.rangeLeft bm w.heap.size)
  case atStart =>
    have hr := Rng.start (w := w) HM.out (Below.refl _ _) hrg0 hg0
    exact ⟨_, _, Lib.hid ⟨hr, fun s k h => (come_none h).elim⟩⟩
  case round =>
    obtain ⟨left, cnt, HR⟩ := hrel
    clear hrg0 hg0 hs0 c1
    go_wp2_with (first
      | (at_next; refine wpList_next_ranges_ii _ rfl _ rfl 3 3 .i64 .i64 ixKey Try.underlying3 Try.underlying3 bm w.heap.size _ _ _ _ rfl HR.out.1.1 ?_ ?_))
    · intro _ hl0
      have HL := Lib.hid hl0
      have hno : anyF f a n = false := anyF_no.2 fun i hi => by
        cases hf : f (a + i)
        · rfl
        · obtain ⟨s, k, hr, h3, h4⟩ := Run.of (b := lim.toNat) (by omega) hf
          exact absurd ⟨by omega, by omega⟩ (HR.out.2 s k (come_all HL.out hr))
      have HN := Lib.hid hno
      clear hl0 hno
      go_wp2_with fail
      go_ret
      exact ⟨by rw [HN.out]; rfl, HR.out.1.2.2.1⟩
    · intro y c w1 cnt1 hwx hwc hl hat hrg1 hlt hg1 hs1 hen
      obtain ⟨hR1, s, k, rfl, rfl, hrun⟩ := HR.out.1.step hl hat hrg1 hg1
      have HR1 := Lib.hid hR1
      have HC := Lib.hid (fun i j => (come_step (left := left) hrun i j).1)
      have HM1 := Lib.hid (HR.out.1.meas hR1 hlt)
      have hin := HI.out.run hrun
      have hpos := hrun.pos
      have HRUN := Lib.hid hrun
      clear hwx hwc hl hat hrg1 hlt hg1 hs1 hR1 hrun
      by_cases hs : (s : Int) < (a : Int) + n
      · by_cases hk : (a : Int) < (s : Int) + k
        · have hyes : anyF f a n = true := by
            cases hf : anyF f a n
            · have h3 := anyF_no.1 hf
              by_cases hc : a ≤ s
              · have h4 := h3 (s - a) (by omega)
                rw [show a + (s - a) = s by omega, HRUN.out.all s (by omega) (by omega)] at h4; cases h4
              · have h4 := h3 0 (by omega)
                rw [Nat.add_zero, HRUN.out.all a (by omega) (by omega)] at h4; cases h4
            · rfl
          have HY := Lib.hid hyes
          clear hyes
          go_wp2_with fail
          go_ret
          exact ⟨by rw [HY.out]; rfl, HR1.out.2.2.1⟩
        · go_wp2_with fail
          go_roundw
          case rel => exact ⟨_, _, Lib.hid ⟨HR1.out, fun i j hc => by
            rcases HC.out i j hc with ⟨rfl, rfl⟩ | h
            · omega
            · exact HR.out.2 i j h⟩⟩
          case measure => exact HM1.out
      · go_wp2_with fail
        go_roundw
        case rel => exact ⟨_, _, Lib.hid ⟨HR1.out, fun i j hc => by
          rcases HC.out i j hc with ⟨rfl, rfl⟩ | h
          · omega
          · exact HR.out.2 i j h⟩⟩
        case measure => exact HM1.out

end Go.Proofs.Ytkejpdkokaiidaa
