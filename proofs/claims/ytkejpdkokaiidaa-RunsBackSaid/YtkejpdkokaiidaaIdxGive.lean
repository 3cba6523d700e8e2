/- runs: Give. -/
import Derived.Test.YtkejpdkokaiidaaIdxList
namespace Go.Proofs.Ytkejpdkokaiidaa
open Go.ChangeShapes Go.WideShapes Go.ChangeAt Go.RowKit Bk Rn
set_option linter.unusedVariables false

theorem below_drewN {B : Nat} {a w : World} (h : Below B a w) (n : Nat) : Below B a (w.drewN n) := ⟨h.os, h.tape, h.output, h.size, h.block⟩
/-- A changed index. -/
def IxTo (x : Nat) (own : Nat → Prop) (lim : Int) (f : Nat → Bool) (w w' : World) : Prop := ∃ own', Ix w' x own' lim f ∧ Keep own w w' ∧ ∀ b, own' b → own b ∨ w.heap.size ≤ b

theorem IxTo.same {w w' : World} {x : Nat} {own : Nat → Prop} {lim : Int} {f : Nat → Bool} (h : Ix w x own lim f) (hb : Below w.heap.size w w') : IxTo x own lim f w w' :=
  ⟨own, h.keep (S := fun _ => False) (Keep.ofBelow hb) (fun _ _ _ h => h), Keep.ofBelow hb, fun b h => .inl h⟩
/-- Its map has turned. -/
theorem IxTo.turned {w wA w' : World} {x bm n : Nat} {own : Nat → Prop} {lim : Int} {f f' : Nat → Bool} {D : DataW Unit} (h : Ix w x own lim f) (hb : Below w.heap.size w wA) (hbx : BoxT 62 w x #[.int .i64 lim, .map (some bm)]) (hob : own bm)
    (hg : wA.grownBy w' (some bm)) (hm : w'.ownsMap Try.prog 3 (plainElem (H := Unit) Try.prog 3) bm n D) (hD : D = mapOf f' lim.toNat) (hf : ∀ b, f' b = true → 1 ≤ b ∧ (b : Int) < lim) : IxTo x own lim f' w w' := by
  subst hD
  have hxl := hbx.lt
  have hne : x ≠ bm := fun e => by
    subst e
    obtain ⟨bm', hbx', hm', _⟩ := h.at_
    obtain ⟨es, c, h1, _⟩ := hm
    have h2 : wA.heap[x]? = w.heap[x]? := hb.block x hxl
    have h3 : bm' = x := by
      have := hbx.symm.trans hbx'
      injection this with this
      injection this with this
      have h4 := congrArg (fun a : Array Value => a[1]?) this
      simp at h4
      exact h4.symm
    subst h3
    obtain ⟨es', c', h5, _⟩ := hm'
    have h6 := hbx.symm.trans h5
    injection h6 with h6
    cases h6
  have hk : Keep own w w' := (Keep.ofBelow (S := own) hb).trans (Keep.ofGrown (S := fun b => b = bm) hg (fun k hk => by cases hk; rfl)) (fun i _ e => by rw [e]; exact hob)
  refine ⟨own, ⟨⟨bm, ?_, ixMap_fit hm (mapOf_size _ _), hob⟩, h.ox, fun b hb' => Nat.lt_of_lt_of_le (h.lt b hb') hk.size, hf⟩, hk, fun b h => .inl h⟩
  exact (hg.block x (Nat.lt_of_lt_of_le hxl hb.size) (fun e => hne (by injection e))).trans ((hb.block x hxl).trans hbx)

theorem setF_free {f : Nat → Bool} {a n : Nat} {lim : Int} (h : ∀ b, f b = true → 1 ≤ b ∧ (b : Int) < lim) (ha : 1 ≤ a) (hn : ((a + n : Nat) : Int) ≤ lim) (t : Bool) : ∀ b, setF f a n t b = true → 1 ≤ b ∧ (b : Int) < lim := fun b hb => by
  unfold setF at hb
  by_cases c : a ≤ b ∧ b < a + n
  · omega
  · rw [if_neg c] at hb; exact h b hb

/-- The index' struct lies apart from its map. -/
theorem ixNe {w : World} {x bm n : Nat} {cs : Array Value} {D : DataW Unit} (hbx : BoxT 62 w x cs) (hm : w.ownsMap Try.prog 3 (plainElem (H := Unit) Try.prog 3) bm n D) : x ≠ bm := fun e => by
  subst e
  obtain ⟨es, c, h, _⟩ := hm
  have h1 := hbx.symm.trans h
  injection h1 with h1
  cases h1

set_option maxRecDepth 100000 in
set_option maxHeartbeats 2000000 in
theorem idxGiveYes_any {w : World} {x : Nat} {own : Nat → Prop} {lim : Int} {f : Nat → Bool} (h : Ix w x own lim f) (h2 : lim ≤ 1000) (a n : Nat) (ha : 1 ≤ a) (hn : 1 ≤ n) (han : a + n ≤ lim.toNat) (hno : anyF f a n = false) :
    Calls Try.prog 15 #[.pointer (some ⟨x, 0, none⟩), .int .i64 a, .int .i64 n] w fun e w' => e = .returned (.int .i64 0) ∧ IxTo x own lim (setF f a n true) w w' := by
  obtain ⟨bm, hbx, hm, hob⟩ := h.at_
  have hxl := hbx.lt
  have HI := Lib.hid h
  have HX := Lib.hid hbx
  have HM := Lib.hid hm
  have HN := Lib.hid (anyF_no.1 hno)
  -- the run behind
  obtain ⟨kb, hkb, hat, hhi⟩ : ∃ kb : Nat, kb ≤ 1000 ∧ (mapOf f lim.toNat).atKey (.int .i64 ((a + n : Nat) : Int)) (.lit (.int .i64 0)) = .lit (.int .i64 (kb : Int)) ∧
      ((a + n + kb = a + n ∧ (a + n = lim.toNat ∨ f (a + n) = false)) ∨ Run f lim.toNat (a + n) (a + n + kb - (a + n)) ∧ a + n < a + n + kb) := by
    by_cases c : ∃ k, Run f lim.toNat (a + n) k
    · obtain ⟨k, hr⟩ := c
      have hp := hr.pos
      have hl := hr.le
      exact ⟨k, by omega, at_mapOf hr _, .inr ⟨by rwa [show a + n + k - (a + n) = k by omega], by omega⟩⟩
    · refine ⟨0, by omega, mapOf_at_none (fun s l e hr => c ⟨l, by rwa [show a + n = s by omega]⟩) _, .inl ⟨by omega, ?_⟩⟩
      by_cases c2 : a + n = lim.toNat
      · exact .inl c2
      · right
        cases hf : f (a + n)
        · rfl
        · obtain ⟨s, k, hr, g1, g2⟩ := Run.of (b := lim.toNat) (by omega) hf
          by_cases c3 : s = a + n
          · subst c3; exact absurd ⟨k, hr⟩ c
          · have := hr.all (a + n - 1) (by omega) (by omega)
            rw [show a + n - 1 = a + (n - 1) by omega, HN.out (n - 1) (by omega)] at this
            cases this
  rw [show ((a + n : Nat) : Int) = (a : Int) + n by omega] at hat
  have HAT := Lib.hid hat
  have hlen := runsTo_len f lim.toNat
  have hxne := ixNe hbx hm
  have HHI := Lib.hid hhi
  have ho := idxOver_any h h2 a n (by omega) (by omega) (by omega) (by omega)
  rw [okGive_yes (by omega)] at ho
  have HO := Lib.hid ho
  have hme := idxMeets_any h h2 a n ha hn han
  rw [hno] at hme
  have HME := Lib.hid hme
  clear hm hbx h hat hhi ho hme hno
  go_enter Try.func15, Try.ntmps15
  go_wp2_with (first
    | (go_at_call 28; refine HO.out.mono ?_; rintro e wo ⟨rfl, hwo⟩; obtain rfl := hwo.symm; clear hwo)
    | (go_at_call 29; refine HME.out.mono ?_; rintro e w1 ⟨rfl, hb1⟩; have HB1 := Lib.hid hb1; have HI1 := Lib.hid (HI.out.keep (S := fun _ => False) (Keep.ofBelow hb1) (fun _ _ _ h => h)); clear hb1))
  refine (idxHolding_any HI1.out h2 ((a : Int) - 1) (by omega) (by omega)).mono ?_
  rintro e w2 ⟨hb2, ⟨s, k, hrun, g1, g2, rfl⟩ | ⟨hnone, rfl⟩⟩
  · have hle := hrun.le
    have hpos := hrun.pos
    have hend : s + k = a := by
      by_cases c : a < s + k
      · have := hrun.all a (by omega) c
        have h0 := HN.out 0 (by omega)
        rw [Nat.add_zero, this] at h0; cases h0
      · omega
    have hs1 := (HI.out.run hrun).1
    have HLO : Hid ((s = a ∧ (a = 0 ∨ f (a - 1) = false)) ∨ Run f lim.toNat s (a - s) ∧ s < a) := Lib.hid (.inr ⟨by rwa [show a - s = k by omega], by omega⟩)
    obtain rfl : k = a - s := by omega
    have HB2 := Lib.hid (HB1.out.trans (hb2.mono HB1.out.size))
    have hz2 := HB2.out.size
    have HBA : Hid (∀ o, Below w.heap.size w (w2.alloc o)) := Lib.hid (fun o => HB2.out.alloc hz2 o)
    have HXA : Hid (∀ o, BoxT 62 (w2.alloc o) x #[.int .i64 lim, .map (some bm)]) := Lib.hid (fun o => ((HBA.out o).block x hxl).trans HX.out)
    have HMA : Hid (∀ o, (w2.alloc o).ownsMap Try.prog 3 (plainElem (H := Unit) Try.prog 3) bm (runsTo f lim.toNat).length (mapOf f lim.toNat)) := Lib.hid (fun o => ixMap_keep HM.out (S := fun _ => False) (Keep.ofBelow (HBA.out o)) (fun h => h))
    clear hrun hb2
    have c1 := (HXA.out (.cells #[.int .i64 s, .int .i64 ((a - s : Nat) : Int)] 38)).cell 1
    go_wp2_with fail
    go_quiet (fail)
    go_wp2_with (first
      | (at_lookup; refine wpList_lookup_own_int _ rfl _ _ 60 rfl 3 3 .i64 ixKey Try.underlying60 Try.underlying3 (Try.zeroValue3 _) bm _ (mapOf f lim.toNat) rfl (HMA.out _) _ (.int .i64 ((a : Int) + n)) rfl (ixKl _ (by omega)) ?_; intro c hat hwc; obtain rfl : c = (kb : Int) := (by have h9 := hat.symm.trans HAT.out; injection h9 with h9; injection h9); clear hat hwc)
      | (at_delete; refine wpList_delete_own _ rfl _ _ 60 3 rfl 3 ixKey Try.underlying60 (plainElem (H := Unit) Try.prog 3) bm _ (mapOf f lim.toNat) rfl (HMA.out _) _ (.int .i64 ((a : Int) + n)) rfl (ixKl _ (by omega)) ?_; intro w4 hown4 ht4
         have HO4 := Lib.hid hown4
         have HG4 := Lib.hid ht4.grown
         have c14 : w4.cell? ⟨x, 1, none⟩ = some (.map (some bm)) := (World.cell?_of_block (HG4.out.block x (by simp; omega) (fun e => hxne (by injection e)))).trans ((HXA.out _).cell 1)
         clear hown4 ht4 c1)
      | (at_mapUpdate; refine wpList_mapUpdate_own _ rfl _ _ _ 60 rfl 3 3 ixKey Try.underlying60 (plainElem (H := Unit) Try.prog 3) bm _ _ rfl HO4.out (by unfold maxLen; omega) _ _ _ rfl rfl (ixKl _ (by omega)) _ [] (ixEl _ (by omega)) ?_; intro w5 hown5 hg5
         have HO5 := Lib.hid hown5
         have HG5 := Lib.hid hg5
         clear hown5 hg5))
    go_ret
    have hm5 := HO5.out
    rw [show (a : Int) + n = ((a + n : Nat) : Int) by omega, show ((a - s : Nat) : Int) + n + kb = ((a + n + kb - s : Nat) : Int) by omega] at hm5
    exact ⟨rfl, IxTo.turned HI.out (below_drewN (HBA.out _) _) HX.out hob (HG4.out.andThen HG5.out (fun j hj => .inr hj)) hm5 (mapOf_give hn han (fun i h1 h2 => by have := HN.out (i - a) (by omega); rwa [show a + (i - a) = i by omega] at this) HLO.out HHI.out (hm5.canon ixKey)) (setF_free HI.out.free ha (by omega) true)⟩
  · have HLO : Hid (f (a - 1) = false) := Lib.hid (by
      cases hf : f (a - 1)
      · rfl
      · obtain ⟨s, k, hr, g1, g2⟩ := Run.of (b := lim.toNat) (by omega) hf
        exact absurd ⟨by omega, by omega⟩ (hnone s k hr))
    have HB2 := Lib.hid (HB1.out.trans (hb2.mono HB1.out.size))
    have hz2 := HB2.out.size
    have HBA : Hid (∀ o, Below w.heap.size w (w2.alloc o)) := Lib.hid (fun o => HB2.out.alloc hz2 o)
    have HXA : Hid (∀ o, BoxT 62 (w2.alloc o) x #[.int .i64 lim, .map (some bm)]) := Lib.hid (fun o => ((HBA.out o).block x hxl).trans HX.out)
    have HMA : Hid (∀ o, (w2.alloc o).ownsMap Try.prog 3 (plainElem (H := Unit) Try.prog 3) bm (runsTo f lim.toNat).length (mapOf f lim.toNat)) := Lib.hid (fun o => ixMap_keep HM.out (S := fun _ => False) (Keep.ofBelow (HBA.out o)) (fun h => h))
    clear hnone hb2
    have c1 := (HXA.out (.cells #[.int .i64 0, .int .i64 0] 38)).cell 1
    go_wp2_with (first
      | (at_lookup; refine wpList_lookup_own_int _ rfl _ _ 60 rfl 3 3 .i64 ixKey Try.underlying60 Try.underlying3 (Try.zeroValue3 _) bm _ (mapOf f lim.toNat) rfl (HMA.out _) _ (.int .i64 ((a : Int) + n)) rfl (ixKl _ (by omega)) ?_; intro c hat hwc; obtain rfl : c = (kb : Int) := (by have h9 := hat.symm.trans HAT.out; injection h9 with h9; injection h9); clear hat hwc)
      | (at_delete; refine wpList_delete_own _ rfl _ _ 60 3 rfl 3 ixKey Try.underlying60 (plainElem (H := Unit) Try.prog 3) bm _ (mapOf f lim.toNat) rfl (HMA.out _) _ (.int .i64 ((a : Int) + n)) rfl (ixKl _ (by omega)) ?_; intro w4 hown4 ht4
         have HO4 := Lib.hid hown4
         have HG4 := Lib.hid ht4.grown
         have c14 : w4.cell? ⟨x, 1, none⟩ = some (.map (some bm)) := (World.cell?_of_block (HG4.out.block x (by simp; omega) (fun e => hxne (by injection e)))).trans ((HXA.out _).cell 1)
         clear hown4 ht4 c1)
      | (at_mapUpdate; refine wpList_mapUpdate_own _ rfl _ _ _ 60 rfl 3 3 ixKey Try.underlying60 (plainElem (H := Unit) Try.prog 3) bm _ _ rfl HO4.out (by unfold maxLen; omega) _ _ _ rfl rfl (ixKl _ (by omega)) _ [] (ixEl _ (by omega)) ?_; intro w5 hown5 hg5
         have HO5 := Lib.hid hown5
         have HG5 := Lib.hid hg5
         clear hown5 hg5))
    go_ret
    have hm5 := HO5.out
    rw [show (a : Int) + n = ((a + n : Nat) : Int) by omega, show (n : Int) + kb = ((a + n + kb - a : Nat) : Int) by omega] at hm5
    exact ⟨rfl, IxTo.turned HI.out (HBA.out _) HX.out hob (HG4.out.andThen HG5.out (fun j hj => .inr hj)) hm5 (mapOf_give hn han (fun i h1 h2 => by have := HN.out (i - a) (by omega); rwa [show a + (i - a) = i by omega] at this) (.inl ⟨rfl, .inr HLO.out⟩) HHI.out (hm5.canon ixKey)) (setF_free HI.out.free ha (by omega) true)⟩

set_option maxRecDepth 100000 in
theorem idxGive_any {w : World} {x : Nat} {own : Nat → Prop} {lim : Int} {f : Nat → Bool} (h : Ix w x own lim f) (h2 : lim ≤ 1000) (a n : Int) (ha1 : -9223372036854775808 ≤ a) (ha2 : a ≤ 9223372036854775807) (hn1 : -9223372036854775808 ≤ n) (hn2 : n ≤ 9223372036854775807) :
    Calls Try.prog 15 #[.pointer (some ⟨x, 0, none⟩), .int .i64 a, .int .i64 n] w fun e w' => e = .returned (.int .i64 (giveR f lim.toNat a n).2) ∧ IxTo x own lim (giveR f lim.toNat a n).1 w w' := by
  cases hk : okGive lim.toNat a n
  · have hr : giveR f lim.toNat a n = (f, 1) := by unfold giveR; rw [hk]; rfl
    rw [hr]
    have ho := idxOver_any h h2 a n ha1 ha2 hn1 hn2
    rw [hk] at ho
    have HO := Lib.hid ho
    have HT := Lib.hid (IxTo.same h (Below.refl _ _))
    clear h ho hr hk
    go_enter Try.func15, Try.ntmps15
    go_wp2_with (go_at_call 28; refine HO.out.mono ?_; rintro e wo ⟨rfl, hwo⟩; obtain rfl := hwo.symm; clear hwo)
    go_ret
    exact ⟨rfl, HT.out⟩
  · obtain ⟨g1, g2, g3, g4⟩ := okGive_iff.1 hk
    obtain ⟨A, rfl⟩ := Int.eq_ofNat_of_zero_le (show 0 ≤ a by omega)
    obtain ⟨M, rfl⟩ := Int.eq_ofNat_of_zero_le (show 0 ≤ n by omega)
    cases hm : anyF f A M
    · have hr : giveR f lim.toNat A M = (setF f A M true, 0) := by unfold giveR; rw [if_pos hk]; simp only [Int.toNat_natCast]; rw [hm]; rfl
      rw [hr]
      exact idxGiveYes_any h h2 A M (by omega) (by omega) (by omega) hm
    · have hr : giveR f lim.toNat A M = (f, 41) := by unfold giveR; rw [if_pos hk]; simp only [Int.toNat_natCast]; rw [hm]; rfl
      rw [hr]
      have ho := idxOver_any h h2 A M ha1 ha2 hn1 hn2
      rw [hk] at ho
      have HO := Lib.hid ho
      have hme := idxMeets_any h h2 A M (by omega) (by omega) (by omega)
      rw [hm] at hme
      have HME := Lib.hid hme
      have HI := Lib.hid h
      clear h ho hr hk hme hm
      go_enter Try.func15, Try.ntmps15
      go_wp2_with (first
        | (go_at_call 28; refine HO.out.mono ?_; rintro e wo ⟨rfl, hwo⟩; obtain rfl := hwo.symm; clear hwo)
        | (go_at_call 29; refine HME.out.mono ?_; rintro e w1 ⟨rfl, hb1⟩; have HB1 := Lib.hid hb1; clear hb1))
      go_ret
      exact ⟨rfl, IxTo.same HI.out HB1.out⟩

end Go.Proofs.Ytkejpdkokaiidaa
