/- runs: List. -/
import Derived.Test.YtkejpdkokaiidaaIdxSums
import Derived.Test.YtkejpdkokaiidaaRefSpans10
import Derived.Test.YtkejpdkokaiidaaLaySort
import Derived.Shelf.SlSortCmp.WholeK
namespace Go.Proofs.Ytkejpdkokaiidaa
open Go.ChangeShapes Go.WideShapes Go.ChangeAt Go.RowKit Bk Rn
set_option linter.unusedVariables false

/-- A list that a call made: of no block that was there. -/
def NewSps (w : World) (v : Value) (l : List (Int × Int)) : Prop := l = [] ∨ ∃ b off n c, v = .slice (some ⟨b, off, none⟩) n c ∧ w.heap.size ≤ b

theorem infoIxSp : (Try.prog.info? 38).map (fun i => (i.zero, i.size, i.bytes)) = some (some (.agg #[.int .i64 0, .int .i64 0]), 2, 16) := by kernel_rfl
/-- A span's two cells. -/
def encIx (x : Int × Int) : List Value := [.int .i64 x.1, .int .i64 x.2]
theorem ltIx (x y : Int × Int) : ltOf (fun x y : Int × Int => Lib.compareInt x.1 y.1) x y = decide (x.1 < y.1) := by
  unfold ltOf Lib.compareInt
  by_cases h1 : x.1 < y.1
  · simp [h1]
  · by_cases h2 : y.1 < x.1 <;> simp [h1, h2]
theorem swoIx : Go.Sort.SWO (ltOf fun x y : Int × Int => Lib.compareInt x.1 y.1) where
  irrefl x := by rw [ltIx]; simp
  trans x y z h1 h2 := by rw [ltIx] at *; simp at *; omega
  ntrans x y z h1 h2 := by rw [ltIx] at *; simp at *; omega

set_option maxHeartbeats 1000000 in
theorem cmpIx_any (x y : Int × Int) (W : World) : Calls Try.prog 25 #[.agg #[.int .i64 x.1, .int .i64 x.2], .agg #[.int .i64 y.1, .int .i64 y.2]] W fun e w' => e = .returned (.int .i64 (Lib.compareInt x.1 y.1)) ∧ ∃ q os', w' = Go.Sort.grow (W.drewN q) os' := by
  have hcon := fun W' => AnyG.cmp_Compare_int Try.cmpInt x.1 y.1 W'
  change ∀ W', Calls Try.prog 26 _ _ _ at hcon
  generalize Lib.compareInt x.1 y.1 = r at hcon ⊢
  go_enter Try.func25, Try.ntmps25
  go_wp2_with (go_at_call 26; refine (hcon _).mono ?_; rintro e w' ⟨rfl, rfl⟩)
  go_ret
  exact ⟨rfl, 0, _, by rw [Go.Sort.alloc_eq_grow, Go.Sort.alloc_eq_grow, Go.Sort.grow_grow]; rfl⟩

/-- A row of spans of the call's own, sorted. -/
theorem sortIx_any {e : TypeId} {l : List (Int × Int)} {L M g : Nat} {w wr : World} (hs : SpsAt e l L w.heap.size (.slice (some ⟨g, 0, none⟩) L M) w wr) (hg : w.heap.size ≤ g) (hlen : l.length ≤ 100000) (hLM : L ≤ M) :
    Calls Try.prog 24 #[.slice (some ⟨g, 0, none⟩) L M, .func (.func 25) #[] #[]] wr fun e w' => e = .returned (.tuple #[]) ∧
      ∃ l' : List (Int × Int), l'.Perm l ∧ (l'.Pairwise fun p q => p.1 ≤ q.1) ∧ IsSps w' (.slice (some ⟨g, 0, none⟩) L M) l' ∧ Below w.heap.size w w' := by
  obtain ⟨ho, hl, hb⟩ := hs
  have eg : ∀ args w, (callFunc 25 args).run Try.prog w = .ok (.enter 25 args) w := enters_of Try.func25 (by kernel_rfl) rfl
  have hglt : g < wr.heap.size := by
    rcases ho.2 with ⟨h, _⟩ | ⟨g', cap', cur, h, _, hc, _⟩
    · cases h
    · injection h with h _ _; injection h with h; injection h with h _ _; subst h; exact (Array.getElem?_eq_some_iff.1 hc).1
  have hcell : ∀ i, i < l.length → wr.cell? ⟨g, i * 2, none⟩ = some (.int .i64 (l.getD i (0, 0)).1) ∧ wr.cell? ⟨g, i * 2 + 1, none⟩ = some (.int .i64 (l.getD i (0, 0)).2) := fun i hi => by
    obtain ⟨a, b⟩ := flat2_get l i hi
    rw [ho.cellAt _ (by omega), ho.cellAt _ (by omega), List.getElem?_map, List.getElem?_map, a, b]
    exact ⟨rfl, rfl⟩
  have hH : Go.Sort.HoldsK encIx 2 wr g 0 l.toArray := fun j hj => by
    rw [Go.Sort.size_flatK] at hj
    refine ⟨?_, ho.frozenAt _⟩
    rw [Nat.zero_add, Go.Sort.get_flatK _ _ _ _ hj]
    rcases Nat.mod_two_eq_zero_or_one j with hm | hm
    · obtain ⟨i, rfl⟩ : ∃ i, j = i * 2 := ⟨j / 2, by omega⟩
      have hi : i < l.length := by simp at hj; omega
      rw [hm, show i * 2 / 2 = i by omega, (hcell i hi).1]
      simp [encIx, List.getD_eq_getElem?_getD, List.getElem?_eq_getElem hi]
    · obtain ⟨i, rfl⟩ : ∃ i, j = i * 2 + 1 := ⟨j / 2, by omega⟩
      have hi : i < l.length := by simp at hj; omega
      rw [hm, show (i * 2 + 1) / 2 = i by omega, (hcell i hi).2]
      simp [encIx, List.getD_eq_getElem?_getD, List.getElem?_eq_getElem hi]
  have hsz : (l.toArray).size = L := by simp [hl]
  have hcon := AnyQ.slices_SortFunc Try.sortSpans 2 Try.isAgg38 Try.sizeOf38 encIx (fun _ => rfl) (fun x v hv => by simp [encIx] at hv; rcases hv with rfl | rfl <;> rfl) (fun x y => Lib.compareInt x.1 y.1) swoIx 25 #[] g 0 M l.toArray wr eg (fun _ _ _ _ x y => cmpIx_any x y _) hH hglt (by simp; omega)
  change Calls Try.prog 24 _ _ _ at hcon
  rw [hsz] at hcon
  refine hcon.mono ?_
  rintro e w' ⟨rfl, d', n, os, hp, hsd, rfl⟩
  obtain ⟨p1, _, p3⟩ := hp
  rw [hsz] at p1
  have p3' : d'.toList.Perm l := by
    rw [show d'.extract 0 L = d' by rw [← p1]; simp, show (l.toArray).extract 0 L = l.toArray by rw [← hsz]; simp] at p3
    simpa using p3
  have hlen' : d'.toList.length = L := by simp [p1]
  refine ⟨rfl, d'.toList, p3', ?_, ?_, ?_⟩
  · rw [List.pairwise_iff_getElem]
    intro i j hi hj hij
    have h := hsd i j (Nat.zero_le _) hij (by rw [hlen'] at hj; exact hj)
    rw [ltIx] at h
    have hi' : i < d'.size := by simpa using hi
    have hj' : j < d'.size := by simpa using hj
    simp [hi', hj'] at h
    simp
    omega
  · have hW : SWK encIx 2 wr g 0 d' (sortWorldK encIx 2 wr g 0 n d' os) := ⟨n, os, rfl⟩
    have hh := hW.holds hglt hH (by rw [p1, hsz])
    refine ⟨_, M, by rw [hlen'], by omega, .inr ⟨g, 0, rfl, hW.lt hglt, fun i hi => ?_⟩⟩
    have hi' : i < d'.size := by omega
    obtain ⟨x0, _⟩ := hh.cell hi' (show 0 < 2 by omega)
    obtain ⟨x1, _⟩ := hh.cell hi' (show 1 < 2 by omega)
    have e1 : d'.toList.getD i (0, 0) = d'[i]! := by simp [hi']
    rw [e1]
    exact ⟨by simpa [encIx] using x0, by simpa [encIx] using x1⟩
  · have hW : SWK encIx 2 wr g 0 d' (sortWorldK encIx 2 wr g 0 n d' os) := ⟨n, os, rfl⟩
    refine hb.trans ⟨rfl, rfl, rfl, hW.le, fun k hk => ?_⟩
    have hk2 : k < wr.heap.size := Nat.lt_of_lt_of_le hk hb.size
    unfold sortWorldK
    rw [Go.Sort.heap_grow_old _ _ (by rw [Go.Sort.size_putRowK]; exact hk2)]
    show (wr.heap.modify g _)[k]? = wr.heap[k]?
    rw [Array.getElem?_modify, if_neg (by omega)]

/-- What has come of a range over the map, as a list. -/
def Got (f : Nat → Bool) (N : Nat) (left : Lit → Bool) (l : List (Int × Int)) : Prop :=
  (∀ x y : Int, (x, y) ∈ l ↔ ∃ s k : Nat, x = s ∧ y = k ∧ Come f N left s k) ∧ l.Pairwise fun p q => p.1 ≠ q.1
theorem got_none (f : Nat → Bool) (N : Nat) : Got f N (Go.Maps.has (mapOf f N)) [] := ⟨fun x y => ⟨fun h => by simp at h, fun ⟨s, k, _, _, h⟩ => (come_none h).elim⟩, List.Pairwise.nil⟩
theorem got_step {f : Nat → Bool} {N : Nat} {left : Lit → Bool} {l : List (Int × Int)} {s k : Nat} (h : Got f N left l) (hr : Run f N s k) (hl : left (.int .i64 s) = true) : Got f N (fun z => left z && !z.sameKey (.int .i64 (s : Int))) (l ++ [((s : Int), (k : Int))]) := by
  refine ⟨fun x y => ?_, ?_⟩
  · rw [List.mem_append, h.1 x y]
    constructor
    · rintro (⟨i, j, rfl, rfl, hc⟩ | h1)
      · exact ⟨i, j, rfl, rfl, (come_step hr i j).2 (.inr hc)⟩
      · obtain ⟨rfl, rfl⟩ : x = s ∧ y = k := by simpa using h1
        exact ⟨s, k, rfl, rfl, (come_step hr s k).2 (.inl ⟨rfl, rfl⟩)⟩
    · rintro ⟨i, j, rfl, rfl, hc⟩
      rcases (come_step hr i j).1 hc with ⟨rfl, rfl⟩ | hc
      · right; simp
      · left; exact ⟨i, j, rfl, rfl, hc⟩
  · refine List.pairwise_append.2 ⟨h.2, by simp, fun p hp q hq => ?_⟩
    obtain rfl : q = ((s : Int), (k : Int)) := by simpa using hq
    obtain ⟨x, y⟩ := p
    obtain ⟨i, j, rfl, rfl, hc⟩ := (h.1 x y).1 hp
    intro e
    have e' : (i : Int) = s := e
    obtain rfl : i = s := by omega
    have := hc.2
    rw [hl] at this
    cases this
theorem got_all {f : Nat → Bool} {N : Nat} {left : Lit → Bool} {l l' : List (Int × Int)} (h : Got f N left l) (hl : ∀ kl, left kl = false) (hp : l'.Perm l) (hs : l'.Pairwise fun p q => p.1 ≤ q.1) : l' = runsTo f N := by
  refine runsTo_unique (fun x y => ?_) ?_
  · rw [hp.mem_iff, h.1 x y]
    constructor
    · rintro ⟨s, k, e1, e2, hc⟩; exact ⟨s, k, e1, e2, hc.1⟩
    · rintro ⟨s, k, e1, e2, hr⟩; exact ⟨s, k, e1, e2, come_all hl hr⟩
  · have hne : l'.Pairwise fun p q => p.1 ≠ q.1 := (hp.pairwise_iff (fun {_ _} e => Ne.symm e)).2 h.2
    exact hs.imp₂ (fun p q (a : p.1 ≤ q.1) (b : p.1 ≠ q.1) => by omega) hne

set_option maxRecDepth 100000 in
set_option maxHeartbeats 1000000 in
theorem idxList_any {w : World} {x : Nat} {own : Nat → Prop} {lim : Int} {f : Nat → Bool} (h : Ix w x own lim f) (h2 : lim ≤ 1000) :
    Calls Try.prog 12 #[.pointer (some ⟨x, 0, none⟩)] w fun e w' => ∃ v, e = .returned v ∧ IsSps w' v (runsTo f lim.toNat) ∧ NewSps w v (runsTo f lim.toNat) ∧ Below w.heap.size w w' := by
  obtain ⟨bm, hbx, hm, hob⟩ := h.at_
  obtain ⟨i0, hi, hz0, hz1, hz2⟩ := info_parts infoIxSp
  have hxl := hbx.lt
  have hlen := runsTo_len f lim.toNat
  have hms := mapOf_size f lim.toNat
  have c1 : w.cell? ⟨x, 1, none⟩ = some (.map (some bm)) := hbx.cell 1
  have HX := Lib.hid hbx
  have HM := Lib.hid hm
  have HMS := Lib.hid hms
  obtain ⟨M, hM⟩ : ∃ M, (runsTo f lim.toNat).length = M := ⟨_, rfl⟩
  have HL := Lib.hid hM
  rw [hM] at hlen
  have hln : (Builtin.len_ #[60] 3 #[.map (some bm)]).run Try.prog w = .ok (.int .i64 (M : Int)) w := by
    rw [hm.len Try.underlying60 3, hms, hM]
  clear hm hbx h hms hM
  go_enter Try.func12, Try.ntmps12
  go_wp2_with (first
    | (at_make; refine wpList_make_own _ rfl _ _ 31 rfl w.heap.size 38 i0 _ 2 Try.underlying31 hi hz0 hz1 .i64 .i64 _ M rfl rfl rfl (by rw [hz2]; omega) (by unfold maxLen; omega) (Nat.le_refl _) ?_; intro w1 hown1 hg1
       have HB1 := Lib.hid ((Below.refl w.heap.size w).grown hg1 (Nat.le_refl _) (fun k hk => by cases hk))
       have c1' : w1.cell? ⟨x, 1, none⟩ = some (.map (some bm)) := (HB1.out.cell (p := ⟨x, 1, none⟩) hxl).trans c1
       have HM1 := Lib.hid (HM.out.kept hg1 (by simp))
       have HO1 := Lib.hid hown1
       clear hown1 hg1 c1 hln)
    | (at_range; refine wpList_range_own _ rfl _ 60 rfl 3 3 ixKey Try.underlying60 (plainElem (H := Unit) Try.prog 3) bm _ _ rfl HM1.out ?_; intro w0 hrg0 hg0 hs0))
  go_frame
  go_loopw [3, 4, 5] (fun v _ _ wr => ∃ (left : Lit → Bool) (cnt L : Nat) (l : List (Int × Int)), v = .slice (some ⟨w.heap.size, 0, none⟩) L M ∧ L + cnt ≤ M ∧ Hid (Rng f lim.toNat w bm w1.heap.size wr left cnt) ∧ Hid (SpsAt 38 l L w.heap.size (.slice (some ⟨w.heap.size, 0, none⟩) L M) w wr) ∧ Hid (Got f lim.toNat left l))
    (fun _ _ _ wr => wr.rangeLeft bm w1.heap.size)
  case atStart =>
    have hr := Rng.start (w := w) HM1.out HB1.out hrg0 hg0
    exact ⟨_, _, 0, [], rfl, by rw [HMS.out, HL.out]; omega, Lib.hid hr, Lib.hid ⟨HO1.out.kept hg0 (.inr (by simp [Value.ownBlock])), rfl, hr.2.2.1⟩, Lib.hid (got_none f _)⟩
  case round =>
    obtain ⟨left, cnt, L, l, rfl, hLM, HR, HS, HG⟩ := hrel
    clear hrg0 hg0 hs0 c1'
    go_wp2_with (first
      | (at_next; refine wpList_next_ranges_ii _ rfl _ rfl 3 3 .i64 .i64 ixKey Try.underlying3 Try.underlying3 bm w1.heap.size _ _ _ _ rfl HR.out.1 ?_ ?_))
    · intro _ hl0
      have hsl := HS.out.2.1
      have hcon := sortIx_any HS.out (Nat.le_refl _) (by omega) (by omega)
      have HL0 := Lib.hid hl0
      have HC := Lib.hid hcon
      clear hl0 hcon hsl
      go_wp2_with (go_at_call 24; refine HC.out.mono ?_; rintro e w5 ⟨rfl, l', hp, hsd, hsp, hb5⟩)
      have he := got_all HG.out HL0.out hp hsd
      subst he
      have H := Lib.hid hsp
      have HB := Lib.hid hb5
      clear hsp hb5 hp hsd
      go_ret
      exact ⟨_, rfl, H.out, .inr ⟨_, _, _, _, rfl, Nat.le_refl _⟩, HB.out⟩
    · intro y c w2 cnt1 hwx hwc hl hat hrg1 hlt hg2 hs1 hen
      obtain ⟨hR1, s, k, rfl, rfl, hrun⟩ := HR.out.step hl hat hrg1 hg2
      have HR1 := Lib.hid hR1
      have HM2 := Lib.hid (HR.out.meas hR1 hlt)
      have HG1 := Lib.hid (got_step HG.out hrun hl)
      have hb2 := hR1.2.2.1
      have hne : w.heap.size ≠ w1.heap.size := fun e => by have := (HO1.out.lt w.heap.size rfl).2; omega
      have HS2 : Hid (SpsAt 38 l L w.heap.size (.slice (some ⟨w.heap.size, 0, none⟩) L M) w w2) := Lib.hid ⟨HS.out.1.kept hg2 (.inr (fun e => hne (by simpa [Value.ownBlock] using e))), HS.out.2.1, hb2⟩
      have hsz := hb2.size
      have hLM1 : L + 1 ≤ M := by omega
      have hLM2 : L + 1 + cnt1 ≤ M := by omega
      clear hwx hwc hl hat hrg1 hlt hg2 hs1 hR1 hrun hb2
      go_wp2_with (at_builtin; refine wpList_append_fits _ rfl (.tmp 22) (.tmp 26) 31 rfl w.heap.size 38 i0 2 Try.underlying31 hi hz1 w.heap.size L M _ rfl (HS2.out.1.alloc _) ⟨w2.heap.size, 0, none⟩ 1 1 [.int .i64 (s : Int), .int .i64 (k : Int)] rfl rfl (two_new _ _ _ _) (by intro u hu; simp at hu; rcases hu with rfl | rfl <;> rfl) hLM1 ?_; intro w3 hown3 hg3)
      have HB : Hid (SpsAt 38 (l ++ [((s : Int), (k : Int))]) (L + 1) w.heap.size (.slice (some ⟨w.heap.size, 0, none⟩) (L + 1) M) w w3) := Lib.hid (HS2.out.snoc hsz hown3 hg3)
      have HR3 : Hid (Rng f lim.toNat w bm w1.heap.size w3 (fun z => left z && !z.sameKey (.int .i64 (s : Int))) cnt1) := Lib.hid ⟨(HR1.out.1.alloc _).kept hg3 (by intro e; injection e with e; have := HM.out.lt; omega) (by intro e; injection e with e; exact hne e.symm), HR1.out.2.1, HB.out.2.2, HR1.out.2.2.2⟩
      have HM3 : Hid (w3.rangeLeft bm w1.heap.size < wr.rangeLeft bm w1.heap.size) := Lib.hid (by rw [HR3.out.1.left_eq, ← HR1.out.1.left_eq]; exact HM2.out)
      clear hown3 hg3
      go_wp2_with fail
      go_roundw
      case rel => exact ⟨_, _, L + 1, _, rfl, hLM2, HR3, HB, HG1⟩
      case measure => exact HM3.out

end Go.Proofs.Ytkejpdkokaiidaa
