/- The reference of layer 11: List, set, Give, Total. -/
import Derived.Test.YtkejpdkokaiidaaRunMath
import Derived.Test.YtkejpdkokaiidaaRefSpans10
import Derived.Test.YtkejpdkokaiidaaSRow
namespace Go.Proofs.Ytkejpdkokaiidaa
open Go.ChangeShapes Go.WideShapes Go.ChangeAt Go.RowKit Bk Rn
set_option linter.unusedVariables false

/-- v is a slice of n truths, in w; its row lies in a block of T. -/
def BoolS (w : World) (T : Nat → Prop) (v : Value) (n : Nat) (f : Nat → Bool) : Prop := ∃ a cap, v = .slice a n cap ∧ SRow w T 4 1 a n cap fun k => .bool (f k)
theorem BoolS.below {w w' : World} {T : Nat → Prop} {v : Value} {n : Nat} {f : Nat → Bool} (h : BoolS w T v n f) (hb : Below w.heap.size w w') : BoolS w' T v n f := by
  obtain ⟨a, cap, rfl, h⟩ := h
  exact ⟨a, cap, rfl, h.keep (Keep.ofBelow (S := fun _ => False) hb) (fun _ _ _ h => h) (fun _ h _ => h)⟩
theorem BoolS.mono {w : World} {T T' : Nat → Prop} {v : Value} {n : Nat} {f : Nat → Bool} (h : BoolS w T v n f) (hT : ∀ b, T b → T' b) : BoolS w T' v n f := by
  obtain ⟨a, cap, rfl, h⟩ := h
  exact ⟨a, cap, rfl, h.keep (Keep.refl (fun _ => False) w) (fun _ _ _ h => h) (fun b h _ => hT b h)⟩
theorem BoolS.congr {w : World} {T : Nat → Prop} {v : Value} {n : Nat} {f g : Nat → Bool} (h : BoolS w T v n f) (hg : ∀ k, k < n → f k = g k) : BoolS w T v n g := by
  obtain ⟨a, cap, rfl, h⟩ := h
  exact ⟨a, cap, rfl, h.congr fun k hk => by rw [hg k (by omega)]⟩

theorem infoBl : (Try.prog.info? 4).map (fun i => (i.zero, i.size, i.bytes)) = some (some (.bool false), 1, 1) := by kernel_rfl

set_option maxHeartbeats 2000000 in
theorem refList11_any {T : Nat → Prop} (v : Value) (n : Nat) (f : Nat → Bool) (w : World) (h : BoolS w T v n f) (hn : n ≤ 1000) :
    Calls Try.prog 20 #[v] w fun e w' => ∃ v', e = .returned v' ∧ IsSps w' v' (runsTo f n) ∧ Below w.heap.size w w' := by
  obtain ⟨i0, hi, hz0, hz1, hz2⟩ := info_parts infoSp
  obtain ⟨a, cap, rfl, hs⟩ := h
  have H0 : Hid (SpsAt 67 (runsTo f 0) 0 w.heap.size (.slice none 0 0) w w) := Lib.hid ⟨World.ownsRow_nil _ _ _ _, rfl, Below.refl _ _⟩
  have HS := Lib.hid hs
  clear hs
  go_enter Try.func20, Try.ntmps20
  go_wp2_with fail
  go_loopw [3, 4] (fun v i wr => ∃ m L : Nat, m ≤ n ∧ i = .int .i64 m ∧ L ≤ m ∧ Hid (SpsAt 67 (runsTo f m) L w.heap.size v w wr)) (fun _ i _ => n - (intOf i).toNat)
  case atStart => exact ⟨0, 0, by omega, rfl, by omega, H0⟩
  case round =>
    obtain ⟨m, L, hm, rfl, hLm, HR⟩ := hrel
    by_cases hlt : m < n
    · have hlt' : ((m : Nat) : Int) < ((n : Nat) : Int) := by omega
      have hm0 : (0 : Int) ≤ ((m : Nat) : Int) := by omega
      obtain ⟨b, rfl, -, hr⟩ := HS.out.at_ (by omega)
      have hb := hr.lt
      have d0 : wr.cell? ⟨b, m, none⟩ = some (.bool (f m)) := (HR.out.2.2.cell (p := ⟨b, m, none⟩) hb).trans (hr.cell (by omega))
      have hsz := HR.out.2.2.size
      cases hk : f m
      · rw [hk] at d0
        have HR' : Hid (SpsAt 67 (runsTo f (m + 1)) L w.heap.size u3 w wr) := Lib.hid (by rw [runsTo_skip hk]; exact HR.out)
        clear hr
        go_wp2_with fail
        go_roundw
        case rel => exact ⟨m + 1, L, by omega, by go_num, by omega, HR'⟩
        case measure => simp [intOf]; omega
      · rw [hk] at d0
        by_cases hq : 0 < m ∧ f (m - 1) = true
        · obtain ⟨q, rfl⟩ : ∃ q, m = q + 1 := ⟨m - 1, by omega⟩
          have hkq : f q = true := by simpa using hq.2
          have d1 : wr.cell? ⟨b, q, none⟩ = some (.bool true) := by
            rw [← hkq]; exact (HR.out.2.2.cell (p := ⟨b, q, none⟩) hb).trans (hr.cell (by omega))
          have HS1 := Lib.hid (runsTo_bump hk hq.1 hq.2)
          obtain ⟨l, s, el, hsq⟩ := runsTo_last (q + 1) hq.1 hq.2
          have hne : runsTo f (q + 1) ≠ [] := by rw [el]; simp
          have hx : ((runsTo f (q + 1)).getLast hne).2 = ((q + 1 - s : Nat) : Int) := by simp [el]
          have hLp : 0 < L := by rw [HR.out.2.1]; exact List.length_pos_iff.2 hne
          obtain ⟨g, cg, rfl, hg⟩ := HR.out.at_ hLp
          obtain ⟨j, rfl⟩ : ∃ j, L = j + 1 := ⟨L - 1, by omega⟩
          obtain ⟨e0, f0⟩ := HR.out.last hne rfl
          have HB := Lib.hid (HR.out.bumped hne rfl rfl hg)
          rw [← HS1.out] at HB
          rw [hx] at e0 HB
          have hx2 : ((q + 1 - s : Nat) : Int) ≤ 1000 := by omega
          have hx1 : 0 ≤ ((q + 1 - s : Nat) : Int) := by omega
          generalize ((q + 1 - s : Nat) : Int) = x at *
          have hq1 : (0 : Int) < ((q : Nat) : Int) + 1 := by omega
          have hj0 : (0 : Int) ≤ ((j : Nat) : Int) := by omega
          clear hk hq hkq hne hLp HR el hr hx
          go_wp2_with fail
          go_roundw
          case rel => exact ⟨q + 1 + 1, j + 1, by omega, by go_num, by omega, HB⟩
          case measure => simp [intOf]; omega
        · have HS1 := Lib.hid (runsTo_new hk hq)
          by_cases hm2 : 0 < m
          · obtain ⟨q, rfl⟩ : ∃ q, m = q + 1 := ⟨m - 1, by omega⟩
            have hkq : f q = false := by
              cases e : f q
              · rfl
              · exact absurd ⟨hm2, by simpa using e⟩ hq
            have d1 : wr.cell? ⟨b, q, none⟩ = some (.bool false) := by
              rw [← hkq]; exact (HR.out.2.2.cell (p := ⟨b, q, none⟩) hb).trans (hr.cell (by omega))
            have hq1 : (0 : Int) < ((q : Nat) : Int) + 1 := by omega
            clear hk hq hkq hr
            go_wp2_with (at_builtin; refine wpList_append_own _ rfl (.tmp 35) (.tmp 38) 55 rfl w.heap.size 67 i0 _ 2 16 Try.underlying55 hi hz0 hz1 hz2 rfl (by decide) _ _ _ rfl (HR.out.1.alloc _) ⟨wr.heap.size, 0, none⟩ 1 1 [.int .i64 ((q : Int) + 1), .int .i64 1] rfl rfl (two_new _ _ _ _) (by intro u hu; simp at hu; rcases hu with rfl | rfl <;> rfl) (by unfold maxLen; omega) (by omega) (by simp; omega) ?_)
            intro v' w3 hown' hgrow _
            have HB : Hid (SpsAt 67 (runsTo f (q + 1 + 1)) (L + 1) w.heap.size v' w w3) := Lib.hid (by rw [HS1.out]; rw [show (((q + 1 : Nat)) : Int) = (q : Int) + 1 by omega]; exact HR.out.snoc hsz hown' hgrow)
            clear hown' hgrow HR
            go_wp2_with fail
            go_roundw
            case rel => exact ⟨q + 1 + 1, L + 1, by omega, by go_num, by omega, HB⟩
            case measure => simp [intOf]; omega
          · obtain rfl : m = 0 := by omega
            clear hk hq hr
            go_wp2_with (at_builtin; refine wpList_append_own _ rfl (.tmp 35) (.tmp 38) 55 rfl w.heap.size 67 i0 _ 2 16 Try.underlying55 hi hz0 hz1 hz2 rfl (by decide) _ _ _ rfl (HR.out.1.alloc _) ⟨wr.heap.size, 0, none⟩ 1 1 [.int .i64 0, .int .i64 1] rfl rfl (two_new _ _ _ _) (by intro u hu; simp at hu; rcases hu with rfl | rfl <;> rfl) (by unfold maxLen; omega) (by omega) (by simp; omega) ?_)
            intro v' w3 hown' hgrow _
            have HB : Hid (SpsAt 67 (runsTo f (0 + 1)) (L + 1) w.heap.size v' w w3) := Lib.hid (by rw [HS1.out]; exact HR.out.snoc hsz hown' hgrow)
            clear hown' hgrow HR
            go_wp2_with fail
            go_roundw
            case rel => exact ⟨1, L + 1, by omega, by go_num, by omega, HB⟩
            case measure => simp [intOf]; omega
    · have hlt' : ¬ ((m : Nat) : Int) < ((n : Nat) : Int) := by omega
      obtain rfl : m = n := by omega
      clear hlt hm
      go_wp2_with fail
      go_ret
      have hr := HR.out
      exact ⟨_, rfl, .of_own hr.1 hr.2.1, hr.2.2⟩

set_option maxHeartbeats 1000000 in
theorem refTotal_any {w : World} (v : Value) (f : Nat → Bool) (n : Nat) (h : IsSps w v (runsTo f n)) (hn : n ≤ 1000) :
    Calls Try.prog 21 #[v] w fun e w' => e = .returned (.tuple #[.int .i64 (totTo (runsTo f n) (runsTo f n).length), .int .i64 (maxTo (runsTo f n) (runsTo f n).length)]) ∧ w = w' := by
  obtain ⟨a, cap, rfl, hcap, hc⟩ := h
  have HC := Lib.hid hc
  have hlen := runsTo_len f n
  have HG : Hid (∀ i, i < (runsTo f n).length → 1 ≤ ((runsTo f n).getD i (0, 0)).2 ∧ ((runsTo f n).getD i (0, 0)).2 ≤ 1000) := Lib.hid fun i hi => by
    obtain ⟨s, k, e, hr⟩ := runs_get hi
    rw [e]
    have := hr.pos; have := hr.le
    simp only
    omega
  generalize runsTo f n = l at *
  obtain ⟨L, hL⟩ : ∃ L, l.length = L := ⟨_, rfl⟩
  have HL := Lib.hid hL
  rw [hL] at hlen hcap ⊢
  have HB : Hid (∀ q, q ≤ L → 0 ≤ totTo l q ∧ totTo l q ≤ 1000 * q ∧ 0 ≤ maxTo l q ∧ maxTo l q ≤ 1000) := Lib.hid fun q => by
    induction q with
    | zero => intro _; simp [totTo, maxTo]
    | succ q ih =>
      intro hq
      obtain ⟨a, b, c, d⟩ := ih (by omega)
      obtain ⟨g1, g2⟩ := HG.out q (by omega)
      refine ⟨?_, ?_, ?_, ?_⟩ <;> first | (unfold totTo; omega) | (unfold maxTo; split <;> omega)
  clear hc hL
  go_enter Try.func21, Try.ntmps21
  go_wp2_with fail
  go_loopw [4, 5, 6] (fun x y i wr => ∃ q : Nat, q ≤ L ∧ i = .int .i64 q ∧ x = .int .i64 (totTo l q) ∧ y = .int .i64 (maxTo l q) ∧ w = wr) (fun _ _ i _ => L - (intOf i).toNat)
  case atStart => exact ⟨0, by omega, rfl, rfl, rfl, rfl⟩
  case round =>
    obtain ⟨q, hq, rfl, rfl, rfl, rfl⟩ := hrel
    obtain ⟨b1, b2, b3, b4⟩ := HB.out q hq
    by_cases hlt : q < L
    · have hlt' : (q : Int) < (L : Int) := by omega
      have hq0 : (0 : Int) ≤ (q : Int) := by omega
      obtain ⟨b, off, rfl, hb, hcell⟩ := HC.out.resolve_left (fun h => by have := HL.out; rw [h] at this; simp at this; omega)
      obtain ⟨-, e1⟩ := hcell q (by rw [HL.out]; exact hlt)
      obtain ⟨g1, g2⟩ := HG.out q (by rw [HL.out]; exact hlt)
      have HT : Hid (totTo l (q + 1) = totTo l q + (l.getD q (0, 0)).2) := Lib.hid rfl
      have HM : Hid (maxTo l (q + 1) = if maxTo l q < (l.getD q (0, 0)).2 then (l.getD q (0, 0)).2 else maxTo l q) := Lib.hid rfl
      generalize (l.getD q (0, 0)).2 = z at *
      generalize totTo l q = tq at *
      generalize maxTo l q = mq at *
      clear hcell
      go_wp2_with fail
      go_roundw
      case rel => exact ⟨q + 1, by omega, by go_num, by rw [HT.out], by rw [HM.out], by simp⟩
      case measure => simp [intOf]; omega
    · have hlt' : ¬ (q : Int) < (L : Int) := by omega
      obtain rfl : q = L := by omega
      clear hlt
      go_wp2_with fail
      exact bodyPost_ret (v := .tuple #[.int .i64 (totTo l q), .int .i64 (maxTo l q)]) (by simp [results, Try.results21, go_sem]) rfl ⟨rfl, rfl⟩

end Go.Proofs.Ytkejpdkokaiidaa
