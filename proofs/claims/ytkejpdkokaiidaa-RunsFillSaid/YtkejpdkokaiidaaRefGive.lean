/- The reference of layer 11: set, Give, Take. -/
import Derived.Test.YtkejpdkokaiidaaRefRuns
import Derived.BigQuiet
namespace Go.Proofs.Ytkejpdkokaiidaa
open Go.ChangeShapes Go.WideShapes Go.ChangeAt Go.RowKit Bk Rn
set_option linter.unusedVariables false

theorem map_set (g : Nat → Value) (N j : Nat) (u : Value) : ((List.range N).map g).set j u = (List.range N).map fun k => if k = j then u else g k := by
  apply List.ext_getElem
  · simp
  · intro i h1 h2
    simp only [List.getElem_set, List.getElem_map, List.getElem_range]
    by_cases e : j = i
    · subst e; simp
    · rw [if_neg e, if_neg (fun h => e h.symm)]
/-- A row of truths so far. -/
def SetAt (w : World) (v : Value) (N : Nat) (f : Nat → Bool) (wr : World) : Prop := wr.ownsRow w.heap.size 4 1 v N ((List.range N).map fun k => .bool (f k)) ∧ Below w.heap.size w wr

set_option maxHeartbeats 1000000 in
theorem refSet_any {T : Nat → Prop} (v : Value) (N : Nat) (f : Nat → Bool) (w : World) (h : BoolS w T v N f) (hN : N ≤ 1000) (s n : Nat) (hs : s + n ≤ N) (is : Bool) :
    Calls Try.prog 19 #[v, .int .i64 s, .int .i64 n, .bool is] w fun e w' => ∃ v', e = .returned v' ∧ BoolS w' (fun b => w.heap.size ≤ b ∧ b < w'.heap.size) v' N (setF f s n is) ∧ Below w.heap.size w w' := by
  obtain ⟨i0, hi, hz0, hz1, hz2⟩ := info_parts infoBl
  obtain ⟨a, cap, rfl, hr⟩ := h
  have hs' : SRow (w.alloc (.cells #[] 4)) T 4 1 a N cap (fun k => .bool (f k)) := hr.keep (S := fun _ => False) ((Keep.refl _ w).alloc _) (fun _ _ _ h => h) (fun _ h _ => h)
  have hown : (w.alloc (.cells #[] 4)).ownsRow w.heap.size 4 1 (.slice (some ⟨w.heap.size, 0, none⟩) 0 0) 0 [] := World.ownsRow_made w #[] 0 (Nat.le_refl _) (by decide) rfl
  have HS := Lib.hid hs'
  have HO := Lib.hid hown
  have B0 : Hid (∀ w1, (w.alloc (.cells #[] 4)).grownBy w1 (Value.slice (some ⟨w.heap.size, 0, none⟩) 0 0).ownBlock → Below w.heap.size w w1) := Lib.hid fun w1 hg => ((Below.refl _ w).alloc (Nat.le_refl _) _).grown hg (by simp) (fun k hk => by simp [Value.ownBlock] at hk; omega)
  clear hr hs' hown
  go_enter Try.func19, Try.ntmps19
  go_wp2_with (at_builtin; refine wpList_append_copy rfl _ _ 26 4 rfl Try.underlying26 hi hz0 hz1 hz2 rfl (by decide) rfl rfl HO.out HS.out (fun k => rfl) (by unfold maxLen; omega) (by omega) (by simp) ?_; intro v' w1 ho hg; have HV := Lib.hid ho; have HG := Lib.hid (B0.out w1 hg); clear ho hg)
  have I0 : Hid (SetAt w v' N (setF f s 0 is) w1) := Lib.hid ⟨by
    have := HV.out
    rw [Nat.mul_one] at this
    have e : (fun k => Value.bool (setF f s 0 is k)) = fun k => Value.bool (f k) := funext fun k => by unfold setF; rw [if_neg (by omega)]
    rw [e]; exact this, HG.out⟩
  clear HV HG HO HS B0
  go_wp2_with fail
  go_loopw [10] (fun i wr => ∃ q : Nat, q ≤ n ∧ i = .int .i64 q ∧ Hid (SetAt w v' N (setF f s q is) wr)) (fun i _ => n - (intOf i).toNat)
  case atStart => exact ⟨0, by omega, rfl, I0⟩
  case round =>
    obtain ⟨q, hq, rfl, HI⟩ := hrel
    by_cases hlt : q < n
    · have hlt' : (q : Int) < (n : Int) := by omega
      have hix : (s : Int) + (q : Int) < (N : Int) := by omega
      have hix0 : (0 : Int) ≤ (s : Int) + (q : Int) := by omega
      obtain ⟨g, c, rfl, hgb⟩ : ∃ g c, v' = .slice (some ⟨g, 0, none⟩) N c ∧ w.heap.size ≤ g := by
        rcases HI.out.1.2 with ⟨-, h0⟩ | ⟨g, c, cur, h1, h2, -⟩
        · omega
        · exact ⟨g, c, h1, h2⟩
      have e0 : wr.cell? ⟨g, s + q, none⟩ = some (.bool (setF f s q is (s + q))) := by
        rw [HI.out.1.cellAt _ (by omega), List.getElem?_map, List.getElem?_range (by omega)]; rfl
      have f0 : wr.frozen? ⟨g, s + q, none⟩ = false := HI.out.1.frozenAt _
      have HN : Hid (SetAt w (.slice (some ⟨g, 0, none⟩) N c) N (setF f s (q + 1) is) (wr.setCell ⟨g, s + q, none⟩ (.bool is))) := Lib.hid ⟨by
        have := (HI.out.1.stored (s + q) (.bool is)).1
        rw [map_set] at this
        have e : (fun k => if k = s + q then Value.bool is else Value.bool (setF f s q is k)) = fun k => Value.bool (setF f s (q + 1) is k) := funext fun k => by
          unfold setF
          by_cases h1 : k = s + q
          · rw [if_pos h1, if_pos (by omega)]
          · rw [if_neg h1]
            by_cases h2 : s ≤ k ∧ k < s + q
            · rw [if_pos h2, if_pos (by omega)]
            · rw [if_neg h2, if_neg (by omega)]
        rw [e] at this; exact this, HI.out.2.setCell (p := ⟨g, s + q, none⟩) hgb _⟩
      clear HI
      go_wp2_with fail
      go_roundw
      case rel => exact ⟨q + 1, by omega, by go_num, HN⟩
      case measure => simp [intOf]; omega
    · have hlt' : ¬ (q : Int) < (n : Int) := by omega
      obtain rfl : q = n := by omega
      clear hlt
      go_wp2_with fail
      go_ret
      obtain ⟨a', cap', e, hr⟩ := SRow.of_own (T := fun b => w.heap.size ≤ b ∧ b < wr.heap.size) HI.out.1 (f := fun k => .bool (setF f s q is k)) (fun k hk => by rw [List.getElem?_map, List.getElem?_range (by omega)]; rfl) (fun b h1 h2 => ⟨h1, h2⟩)
      exact ⟨_, rfl, ⟨a', cap', e, hr⟩, HI.out.2⟩

/-- A call's truths, and numbers beside them. -/
def GiveIs (T : Nat → Prop) (N : Nat) (r : (Nat → Bool) × Int) (w : World) (e : Ending) (w' : World) : Prop :=
  ∃ v', e = .returned (.tuple #[v', .int .i64 r.2]) ∧ BoolS w' (fun b => T b ∨ (w.heap.size ≤ b ∧ b < w'.heap.size)) v' N r.1 ∧ Below w.heap.size w w'

set_option maxHeartbeats 1000000 in
theorem refGive_any {T : Nat → Prop} (v : Value) (N : Nat) (f : Nat → Bool) (w : World) (h : BoolS w T v N f) (hN : N ≤ 1000) (a n : Int) :
    Calls Try.prog 10 #[v, .int .i64 a, .int .i64 n] w (GiveIs T N (giveR f N a n) w) := by
  have H := Lib.hid h
  obtain ⟨va, cap, rfl, hr⟩ := h
  have HR := Lib.hid hr
  have HE : Hid (giveR f N a n = (f, 1) → GiveIs T N (giveR f N a n) w (.returned (.tuple #[.slice va N cap, .int .i64 1])) w) := Lib.hid fun e => by
    rw [e]; exact ⟨_, rfl, H.out.mono fun b hb => .inl hb, Below.refl _ _⟩
  clear hr
  have bad : ∀ {p : Prop}, (p → False) → (1 ≤ a ∧ 1 ≤ n ∧ a < N ∧ n ≤ (N : Int) - a → p) → giveR f N a n = (f, 1) := fun hp h => by
    unfold giveR okGive; rw [if_neg]; simpa using fun h1 h2 h3 h4 => hp (h ⟨h1, h2, h3, h4⟩)
  by_cases h1 : a < 1
  · have HEE := Lib.hid (HE.out (bad (p := 1 ≤ a) (by omega) (fun h => h.1)))
    clear bad HE
    generalize giveR f N a n = r at *
    go_enter Try.func10, Try.ntmps10
    go_wp2_with fail
    exact bodyPost_ret (v := .tuple #[.slice va N cap, .int .i64 1]) (by simp [results, Try.results10, go_sem]) rfl HEE.out
  by_cases h2 : n < 1
  · have HEE := Lib.hid (HE.out (bad (p := 1 ≤ n) (by omega) (fun h => h.2.1)))
    clear bad HE
    generalize giveR f N a n = r at *
    go_enter Try.func10, Try.ntmps10
    go_wp2_with fail
    exact bodyPost_ret (v := .tuple #[.slice va N cap, .int .i64 1]) (by simp [results, Try.results10, go_sem]) rfl HEE.out
  by_cases h3 : (N : Int) ≤ a
  · have HEE := Lib.hid (HE.out (bad (p := a < N) (by omega) (fun h => h.2.2.1)))
    clear bad HE
    generalize giveR f N a n = r at *
    go_enter Try.func10, Try.ntmps10
    go_wp2_with fail
    exact bodyPost_ret (v := .tuple #[.slice va N cap, .int .i64 1]) (by simp [results, Try.results10, go_sem]) rfl HEE.out
  by_cases h4 : (N : Int) - a < n
  · have HEE := Lib.hid (HE.out (bad (p := n ≤ (N : Int) - a) (by omega) (fun h => h.2.2.2)))
    clear bad HE
    generalize giveR f N a n = r at *
    go_enter Try.func10, Try.ntmps10
    go_wp2_with fail
    exact bodyPost_ret (v := .tuple #[.slice va N cap, .int .i64 1]) (by simp [results, Try.results10, go_sem]) rfl HEE.out
  have hok : okGive N a n = true := by unfold okGive; simp; omega
  clear bad HE
  obtain ⟨A, rfl⟩ := Int.eq_ofNat_of_zero_le (show 0 ≤ a by omega)
  obtain ⟨M, rfl⟩ := Int.eq_ofNat_of_zero_le (show 0 ≤ n by omega)
  have hAM : A + M ≤ N := by omega
  have G41 : Hid (anyF f A M = true → giveR f N A M = (f, 41)) := Lib.hid fun h => by unfold giveR; rw [if_pos hok, Int.toNat_natCast, Int.toNat_natCast, if_pos h]
  have G0 : Hid (anyF f A M = false → giveR f N A M = (setF f A M true, 0)) := Lib.hid fun h => by unfold giveR; rw [if_pos hok, Int.toNat_natCast, Int.toNat_natCast, if_neg (by rw [h]; decide)]
  have SET := Lib.hid (fun w' (hb : Below w.heap.size w w') => refSet_any _ N f w' (H.out.below hb) hN A M hAM true)
  clear hok
  generalize giveR f N A M = r at *
  go_enter Try.func10, Try.ntmps10
  go_wp2_with fail
  go_loopw [8] (fun i wr => ∃ q : Nat, q ≤ M ∧ i = .int .i64 q ∧ Hid (∀ k, k < q → f (A + k) = false) ∧ w = wr) (fun i _ => M - (intOf i).toNat)
  case atStart => exact ⟨0, by omega, rfl, Lib.hid (by omega), rfl⟩
  case round =>
    obtain ⟨q, hq, rfl, HO, rfl⟩ := hrel
    by_cases hlt : q < M
    · have hlt' : (q : Int) < (M : Int) := by omega
      have hix : (A : Int) + (q : Int) < (N : Int) := by omega
      have hix0 : (0 : Int) ≤ (A : Int) + (q : Int) := by omega
      obtain ⟨b, rfl, -, hrow⟩ := HR.out.at_ (by omega)
      have d0 : w.cell? ⟨b, A + q, none⟩ = some (.bool (f (A + q))) := hrow.cell (by omega)
      clear hrow
      cases hfa : f (A + q)
      · rw [hfa] at d0
        have HO' : Hid (∀ k, k < q + 1 → f (A + k) = false) := Lib.hid fun k hk => by
          by_cases e : k = q
          · subst e; exact hfa
          · exact HO.out k (by omega)
        clear hfa
        go_wp2_with fail
        go_roundw
        case rel => exact ⟨q + 1, by omega, by go_num, HO', by simp⟩
        case measure => simp [intOf]; omega
      · rw [hfa] at d0
        have hany : anyF f A M = true := by
          cases e : anyF f A M
          · have := anyF_no.1 e q hlt; rw [hfa] at this; cases this
          · rfl
        have HG := Lib.hid (G41.out hany)
        clear hfa hany
        go_wp2_with fail
        exact bodyPost_ret (v := .tuple #[.slice (some ⟨b, 0, none⟩) N cap, .int .i64 41]) (by simp [results, Try.results10, go_sem]) rfl (by rw [HG.out]; exact ⟨_, rfl, H.out.mono fun b hb => .inl hb, Below.refl _ _⟩)
    · have hlt' : ¬ (q : Int) < (M : Int) := by omega
      obtain rfl : q = M := by omega
      have HG := Lib.hid (G0.out (anyF_no.2 HO.out))
      clear hlt
      go_wp2_with fail
      refine (SET.out _ (Below.refl _ _)).mono ?_
      rintro e w2 ⟨v', rfl, hv, hb⟩
      have HV := Lib.hid (And.intro hv hb)
      clear hv hb
      go_wp2_with fail
      exact bodyPost_ret (v := .tuple #[v', .int .i64 0]) (by simp [results, Try.results10, go_sem]) rfl (by rw [HG.out]; exact ⟨_, rfl, HV.out.1.mono fun b hb => .inr hb, HV.out.2⟩)

end Go.Proofs.Ytkejpdkokaiidaa
