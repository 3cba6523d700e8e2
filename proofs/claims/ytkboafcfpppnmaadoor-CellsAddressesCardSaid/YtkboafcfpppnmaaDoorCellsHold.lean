/- cells: Holding, At. -/
import Derived.Test.YtkboafcfpppnmaaDoorCellsAddr
import Derived.Test.YtkboafcfpppnmaaDoorGeoData
namespace Go.Proofs.YtkboafcfpppnmaaDoor
open Go.ChangeShapes Go.WideShapes Go.ChangeAt Go.RowKit Cl Ce
set_option linter.unusedVariables false

theorem oneCC (a b : Int) : (#[Value.int .i64 a, Value.int .i64 b]).all (·.oneCell') = true := by simp [Value.oneCell']

theorem inC_no_class {n k a : Int} (h : k < 0 ∨ 32 ≤ k) : inC n k a = false := by
  have hw := wordsC_no h
  have hc := cellsC_no h
  unfold inC; rw [hw, hc]; simp
theorem inC_none {n k a : Int} (h : ¬ (512 ≤ a ∧ a < 512 * n)) : inC n k a = false := by
  unfold inC; rw [decide_eq_false]; omega
theorem blk_low {n a : Int} (h : ¬ (512 ≤ a ∧ a < 512 * n)) : ¬ 1 ≤ blockOfG n a := by
  unfold blockOfG
  by_cases h1 : 0 ≤ a ∧ a < 512 * n
  · rw [if_pos h1]; omega
  · rw [if_neg h1]; omega
theorem zero_of {n k a : Int} (h : inC n k a = false) : blkC n k a = 0 ∧ idxC n k a = 0 := by
  unfold blkC idxC; rw [h]; simp

set_option maxHeartbeats 2000000 in
theorem cellHold_any (n k a : Int) (w : World) (hT : HasCells w) (hn0 : 0 ≤ n) (hn : n ≤ 1048576) (ha1 : a ≤ 9223372036854775807) :
    Calls Tryd.prog 10 #[.agg #[.int .i64 n], .int .i64 k, .int .i64 a] w (MadeOne (.tuple #[.agg #[.int .i64 (blkC n k a), .int .i64 (idxC n k a)], .bool (inC n k a)]) w) := by
  have HB : Hid (∀ o o', Below w.heap.size w ((w.alloc o).alloc o')) := Lib.hid fun o o' => ((Below.refl _ _).alloc (Nat.le_refl _) o).alloc (by simp) o'
  have HT := Lib.hid hT
  have HR : Hid (∀ w, Calls Tryd.prog 20 #[.int .i64 k] w fun e w' => e = .returned (.bool (rightC k)) ∧ w = w') := Lib.hid fun w => right_any k w
  have HD : Hid (∀ w, Calls Tryd.prog 21 #[.agg #[.int .i64 n], .int .i64 a] w (MadeOne (.bool (decide (1 ≤ blockOfG n a))) w)) := Lib.hid fun w => geoData_any n a w ha1
  clear hT
  rcases class_or k with hk | ⟨kn, rfl, hk⟩
  · have hin : inC n k a = false := inC_no_class hk
    have HZ := Lib.hid (zero_of hin)
    have HIN := Lib.hid hin
    have hr : rightC k = false := decide_eq_false (by omega)
    rw [hr] at HR
    clear hin hr hk
    have N1 : Hid (BoxT 24 ((w.alloc (.cells #[.int .i64 n] 27)).alloc (.cells #[.int .i64 0, .int .i64 0] 24)) (w.heap.size + 1) #[.int .i64 0, .int .i64 0]) := Lib.hid (by
      have := BoxT.new 24 (w.alloc (.cells #[.int .i64 n] 27)) #[.int .i64 0, .int .i64 0]
      rwa [show (w.alloc (.cells #[.int .i64 n] 27)).heap.size = w.heap.size + 1 by simp] at this)
    go_enter Tryd.func10, Tryd.ntmps10
    go_wp2_with fail
    refine (HR.out _).mono ?_
    rintro e W ⟨rfl, rfl⟩
    go_wp2_with (first
      | (refine wpList_store_boxT rfl _ _ _ rfl (b := w.heap.size + 1) (cells := #[.int .i64 0, .int .i64 0]) rfl rfl N1.out infoCell rfl (oneCC _ _) ?_)
      | fail)
    exact bodyPost_ret (results_boxT2 rfl _ _ (w.heap.size + 1) _ (.bool false) rfl (N1.out.row _) Tryd.underlying24 rfl infoCell rfl) rfl ⟨by rw [HIN.out, HZ.out.1, HZ.out.2], below_setRow (HB.out _ _) (by omega) _⟩
  have N1 : Hid (∀ W, Below ((w.alloc (.cells #[.int .i64 n] 27)).alloc (.cells #[.int .i64 0, .int .i64 0] 24)).heap.size ((w.alloc (.cells #[.int .i64 n] 27)).alloc (.cells #[.int .i64 0, .int .i64 0] 24)) W → BoxT 27 W w.heap.size #[.int .i64 n] ∧ BoxT 24 W (w.heap.size + 1) #[.int .i64 0, .int .i64 0] ∧ Below w.heap.size w W) := Lib.hid fun W h => by
    obtain ⟨b1, b2, h1, _⟩ := boxT_of2 h
    exact ⟨b1, b2, h1⟩
  have hr : rightC (kn : Nat) = true := decide_eq_true (by omega)
  rw [hr] at HR
  clear hr
  by_cases hd : 512 ≤ a ∧ a < 512 * n
  rotate_left
  · have hin : inC n kn a = false := inC_none hd
    have HZ := Lib.hid (zero_of hin)
    have HIN := Lib.hid hin
    have hbk : decide (1 ≤ blockOfG n a) = false := decide_eq_false (blk_low hd)
    rw [hbk] at HD
    clear hin hd hbk
    go_enter Tryd.func10, Tryd.ntmps10
    go_wp2_with fail
    refine (HR.out _).mono ?_
    rintro e W ⟨rfl, rfl⟩
    go_wp2_with fail
    refine (HD.out _).mono ?_
    rintro e W ⟨rfl, hb⟩
    obtain ⟨-, n1, hb⟩ := N1.out _ hb
    have N1 := Lib.hid n1
    have HBW := Lib.hid hb
    clear n1 hb
    go_wp2_with (first
      | (refine wpList_store_boxT rfl _ _ _ rfl (b := w.heap.size + 1) (cells := #[.int .i64 0, .int .i64 0]) rfl rfl N1.out infoCell rfl (oneCC _ _) ?_)
      | fail)
    exact bodyPost_ret (results_boxT2 rfl _ _ (w.heap.size + 1) _ (.bool false) rfl (N1.out.row _) Tryd.underlying24 rfl infoCell rfl) rfl ⟨by rw [HIN.out, HZ.out.1, HZ.out.2], below_setRow HBW.out (by omega) _⟩
  obtain ⟨g0, g1⟩ := hd
  obtain ⟨b, hb⟩ : ∃ b, a / 512 = b := ⟨_, rfl⟩
  have e3 : 1 ≤ b := by omega
  have e4 : b < n := by omega
  have hbk : blockOfG n a = b := by unfold blockOfG; rw [if_pos (by omega), hb]
  have hfi : firstG n b = 512 * b := by unfold firstG; rw [if_pos (by omega)]
  have HBO : Hid (∀ w, Calls Tryd.prog 22 #[.agg #[.int .i64 n], .int .i64 a] w (MadeOne (.int .i64 b) w)) := Lib.hid fun w => by
    have := geoBlockOf_any n a w ha1
    rwa [hbk] at this
  have HFI : Hid (∀ w, Calls Tryd.prog 23 #[.agg #[.int .i64 n], .int .i64 b] w (MadeOne (.int .i64 (512 * b)) w)) := Lib.hid fun w => by
    have := geoFirst_any n b w hn
    rwa [hfi] at this
  have HWO : Hid (∀ w, HasCells w → Calls Tryd.prog 17 #[.int .i64 kn] w fun e w' => e = .returned (.int .i64 (wordsC kn : Nat)) ∧ w = w') := Lib.hid fun w h => words_all kn w h
  rw [hbk, decide_eq_true e3] at HD
  have hm2 : 2 ≤ wordsC (kn : Nat) := by rw [wordsC_yes hk]; exact (wd_in kn hk).1
  have hm256 := wordsC_le kn
  have hs0 : 0 ≤ a - 512 * b := by omega
  have hs1 : a - 512 * b < 512 := by omega
  obtain ⟨q, hq⟩ : ∃ q, (a - 512 * b) / ((wordsC (kn : Nat) : Nat) : Int) = q := ⟨_, rfl⟩
  have hin : hasC n kn b q = inC n kn a := by
    have : a % 512 = a - 512 * b := by omega
    have hq0 : 0 ≤ q := by rw [← hq]; exact Int.ediv_nonneg hs0 (by omega)
    unfold hasC inC
    rw [this, hq, decide_eq_decide]
    omega
  have hbi : inC n kn a = true → blkC n kn a = b ∧ idxC n kn a = q := fun h => by
    have : a % 512 = a - 512 * b := by omega
    unfold blkC idxC
    rw [if_pos h, if_pos h, hb, this, hq]
    exact ⟨rfl, rfl⟩
  have HAS : Hid (∀ w, HasCells w → Calls Tryd.prog 24 #[.agg #[.int .i64 n], .int .i64 kn, .agg #[.int .i64 b, .int .i64 q]] w (MadeOne (.bool (inC n kn a)) w)) := Lib.hid fun w h => by rw [← hin]; exact cellHas_any n kn b q w h
  have HBI := Lib.hid hbi
  have HZ : Hid (inC n kn a = false → blkC n kn a = 0 ∧ idxC n kn a = 0) := Lib.hid zero_of
  have HQ := Lib.hid hq
  clear hbi hin hq hfi hbk hb
  generalize wordsC (kn : Nat) = m at *
  have hm2' : (2 : Int) ≤ (m : Int) := by omega
  generalize inC n kn a = r at *
  generalize blkC n kn a = rb at *
  generalize idxC n kn a = ri at *
  go_enter Tryd.func10, Tryd.ntmps10
  go_wp2_with fail
  refine (HR.out _).mono ?_
  rintro e W ⟨rfl, rfl⟩
  go_wp2_with fail
  refine (HD.out _).mono ?_
  rintro e W ⟨rfl, hb⟩
  obtain ⟨g1, n1, hb⟩ := N1.out _ hb
  have G1 := Lib.hid g1
  have NB := Lib.hid n1
  have HBW := Lib.hid hb
  have c0 : W.cell? ⟨w.heap.size, 0, none⟩ = some (.int .i64 n) := g1.cell 0
  clear n1 hb g1 N1
  go_wp2_with fail
  refine (HBO.out _).mono ?_
  rintro e W2 ⟨rfl, hb⟩
  have g2 := G1.out.below hb G1.out.lt
  have G2 := Lib.hid g2
  have NB2 := Lib.hid (NB.out.below hb NB.out.lt)
  have HBW2 := Lib.hid (below_step HBW.out hb (Nat.le_refl _))
  clear c0 hb
  have c0 : W2.cell? ⟨w.heap.size, 0, none⟩ = some (.int .i64 n) := g2.cell 0
  clear g2 G1 NB HBW
  go_wp2_with fail
  refine (HFI.out _).mono ?_
  rintro e W3 ⟨rfl, hb⟩
  have g3 := G2.out.below hb G2.out.lt
  have G3 := Lib.hid g3
  have NB3 := Lib.hid (NB2.out.below hb NB2.out.lt)
  have HBW3 := Lib.hid (below_step HBW2.out hb (Nat.le_refl _))
  clear c0 hb
  have c0 : W3.cell? ⟨w.heap.size, 0, none⟩ = some (.int .i64 n) := g3.cell 0
  clear g3 G2 NB2 HBW2
  go_wp2_with fail
  refine (HWO.out _ (HT.out.below HBW3.out (Nat.le_refl _))).mono ?_
  rintro e W4 ⟨rfl, rfl⟩
  go_wp2_with (first
    | (refine wpList_load_boxT rfl _ _ rfl (b := w.heap.size) rfl (G3.out.alloc _) Tryd.underlying27 rfl infoGeo ?_)
    | (refine wpList_load_boxT rfl _ _ rfl (b := W3.heap.size) rfl (BoxT.new _ W3 _) Tryd.underlying24 rfl infoCell ?_)
    | fail)
  rw [HQ.out]
  have hbV := HBW3.out.alloc HBW3.out.size (.cells #[.int .i64 b, .int .i64 q] 24)
  have nV := NB3.out.alloc (.cells #[.int .i64 b, .int .i64 q] 24)
  have qV := BoxT.new 24 W3 #[.int .i64 b, .int .i64 q]
  have hne : w.heap.size + 1 ≠ W3.heap.size := Nat.ne_of_lt NB3.out.lt
  generalize W3.alloc (.cells #[.int .i64 b, .int .i64 q] 24) = V at hbV nV qV ⊢
  generalize W3.heap.size = g at qV hne ⊢
  have HBV := Lib.hid hbV
  refine (HAS.out _ (HT.out.below hbV (Nat.le_refl _))).mono ?_
  rintro e X ⟨rfl, hb⟩
  have NX := Lib.hid (nV.below hb nV.lt)
  have QX := Lib.hid (qV.below hb qV.lt)
  have HBX := Lib.hid (below_step hbV hb (Nat.le_refl _))
  clear hb nV qV hbV hne c0
  cases r with
  | false =>
    go_wp2_with (first
      | (refine wpList_store_boxT rfl _ _ _ rfl (b := w.heap.size + 1) (cells := #[.int .i64 0, .int .i64 0]) rfl rfl NX.out infoCell rfl (oneCC _ _) ?_)
      | fail)
    exact bodyPost_ret (results_boxT2 rfl _ _ (w.heap.size + 1) _ (.bool false) rfl (NX.out.row _) Tryd.underlying24 rfl infoCell rfl) rfl ⟨by rw [(HZ.out (by simp)).1, (HZ.out (by simp)).2], below_setRow HBX.out (by omega) _⟩
  | true =>
    go_wp2_with (first
      | (refine wpList_load_boxT rfl _ _ rfl (b := g) rfl QX.out Tryd.underlying24 rfl infoCell ?_)
      | (refine wpList_store_boxT rfl _ _ _ rfl (b := w.heap.size + 1) (cells := #[.int .i64 b, .int .i64 q]) rfl rfl NX.out infoCell rfl (oneCC _ _) ?_)
      | fail)
    exact bodyPost_ret (results_boxT2 rfl _ _ (w.heap.size + 1) _ (.bool true) rfl (NX.out.row _) Tryd.underlying24 rfl infoCell rfl) rfl ⟨by rw [(HBI.out (by simp)).1, (HBI.out (by simp)).2], below_setRow HBX.out (by omega) _⟩

theorem at_iff {n k a : Int} (h : inC n k a = true) : addrC n k (a / 512) (a % 512 / (wordsC k : Nat)) = a ↔ atC n k a = true := by
  obtain ⟨h1, h2, h3⟩ := inC_iff.1 h
  have h0 : 0 ≤ a % 512 := by omega
  have hq : 0 ≤ a % 512 / ((wordsC k : Nat) : Int) := Int.ediv_nonneg h0 (by omega)
  have hh : hasC n k (a / 512) (a % 512 / (wordsC k : Nat)) = true := hasC_iff.2 ⟨by omega, by omega, hq, h3⟩
  rw [addrC_yes hh]
  unfold atC
  rw [h, Bool.true_and, decide_eq_true_iff]
  generalize a % 512 / ((wordsC k : Nat) : Int) * (wordsC k : Nat) = p
  omega
theorem addr_bound {n k b i : Int} (hn : n ≤ 1048576) : -1 ≤ addrC n k b i ∧ addrC n k b i ≤ 600000000 := by
  by_cases h : hasC n k b i = true
  · rw [addrC_yes h]
    obtain ⟨h1, h2, h3, h4⟩ := hasC_iff.1 h
    obtain ⟨j, rfl⟩ := Int.eq_ofNat_of_zero_le h3
    have h5 := one_fits (k := k) (i := j) (by omega)
    have h6 : (((j * wordsC k : Nat) : Nat) : Int) = (j : Int) * (wordsC k : Nat) := by simp
    omega
  · rw [addrC_no (by simpa using h)]; omega
def blkA (n k a : Int) : Int := if atC n k a = true then a / 512 else 0
def idxA (n k a : Int) : Int := if atC n k a = true then a % 512 / (wordsC k : Nat) else 0

set_option maxHeartbeats 2000000 in
theorem cellAt_any (n k a : Int) (w : World) (hT : HasCells w) (hn0 : 0 ≤ n) (hn : n ≤ 1048576) (ha1 : a ≤ 9223372036854775807) :
    Calls Tryd.prog 11 #[.agg #[.int .i64 n], .int .i64 k, .int .i64 a] w (MadeOne (.tuple #[.agg #[.int .i64 (blkA n k a), .int .i64 (idxA n k a)], .bool (atC n k a)]) w) := by
  have HT := Lib.hid hT
  have HO : Hid (∀ w, HasCells w → Calls Tryd.prog 10 #[.agg #[.int .i64 n], .int .i64 k, .int .i64 a] w (MadeOne (.tuple #[.agg #[.int .i64 (blkC n k a), .int .i64 (idxC n k a)], .bool (inC n k a)]) w)) := Lib.hid fun w h => cellHold_any n k a w h hn0 hn ha1
  have HAD : Hid (∀ w, HasCells w → Calls Tryd.prog 12 #[.agg #[.int .i64 n], .int .i64 k, .agg #[.int .i64 (blkC n k a), .int .i64 (idxC n k a)]] w (MadeOne (.int .i64 (addrC n k (blkC n k a) (idxC n k a))) w)) := Lib.hid fun w h => cellAddr_any n k _ _ w h hn
  have N1 : Hid (∀ W, Below ((w.alloc (.cells #[.int .i64 n] 27)).alloc (.cells #[.int .i64 0, .int .i64 0] 24)).heap.size ((w.alloc (.cells #[.int .i64 n] 27)).alloc (.cells #[.int .i64 0, .int .i64 0] 24)) W → BoxT 27 W w.heap.size #[.int .i64 n] ∧ BoxT 24 W (w.heap.size + 1) #[.int .i64 0, .int .i64 0] ∧ Below w.heap.size w W) := Lib.hid fun W h => by
    obtain ⟨b1, b2, h1, _⟩ := boxT_of2 h
    exact ⟨b1, b2, h1⟩
  have HT1 : Hid (HasCells ((w.alloc (.cells #[.int .i64 n] 27)).alloc (.cells #[.int .i64 0, .int .i64 0] 24))) := Lib.hid (hT.below (((Below.refl _ _).alloc (Nat.le_refl _) _).alloc (by simp) _) (Nat.le_refl _))
  have HNO : Hid (atC n k a = false → blkA n k a = 0 ∧ idxA n k a = 0) := Lib.hid fun h => by unfold blkA idxA; rw [h]; simp
  have HYES : Hid (inC n k a = true → addrC n k (blkC n k a) (idxC n k a) = a → blkA n k a = blkC n k a ∧ idxA n k a = idxC n k a ∧ atC n k a = true) := Lib.hid fun h h2 => by
    have e1 : blkC n k a = a / 512 := if_pos h
    have e2 : idxC n k a = a % 512 / (wordsC k : Nat) := if_pos h
    rw [e1, e2] at h2 ⊢
    have h3 := (at_iff h).1 h2
    unfold blkA idxA
    rw [if_pos h3, if_pos h3]
    exact ⟨rfl, rfl, h3⟩
  have HN2 : Hid (inC n k a = true → addrC n k (blkC n k a) (idxC n k a) ≠ a → atC n k a = false) := Lib.hid fun h h2 => by
    have e1 : blkC n k a = a / 512 := if_pos h
    have e2 : idxC n k a = a % 512 / (wordsC k : Nat) := if_pos h
    rw [e1, e2] at h2
    rw [Bool.eq_false_iff]
    exact fun h3 => h2 ((at_iff h).2 h3)
  have HN1 : Hid (inC n k a = false → atC n k a = false) := Lib.hid fun h => by unfold atC; rw [h]; rfl
  generalize addrC n k (blkC n k a) (idxC n k a) = x at *
  generalize blkC n k a = b at *
  generalize idxC n k a = i at *
  clear hT
  cases hr : inC n k a with
  | false =>
    have HAT := Lib.hid (HN1.out hr)
    have HZ := Lib.hid (HNO.out HAT.out)
    rw [hr] at HO
    clear hr HNO HYES HN2 HN1 HAD
    go_enter Tryd.func11, Tryd.ntmps11
    go_wp2_with fail
    refine (HO.out _ HT1.out).mono ?_
    rintro e W ⟨rfl, hb⟩
    obtain ⟨-, n1, hb⟩ := N1.out _ hb
    have NB := Lib.hid (n1.alloc (.cells #[.int .i64 b, .int .i64 i] 24))
    have HBW := Lib.hid (hb.alloc hb.size (.cells #[.int .i64 b, .int .i64 i] 24))
    clear n1 hb N1
    go_wp2_with (first
      | (refine wpList_store_boxT rfl _ _ _ rfl (b := w.heap.size + 1) (cells := #[.int .i64 0, .int .i64 0]) rfl rfl NB.out infoCell rfl (oneCC _ _) ?_)
      | fail)
    exact bodyPost_ret (results_boxT2 rfl _ _ (w.heap.size + 1) _ (.bool false) rfl (NB.out.row _) Tryd.underlying24 rfl infoCell rfl) rfl ⟨by rw [HAT.out, HZ.out.1, HZ.out.2], below_setRow HBW.out (by omega) _⟩
  | true =>
    rw [hr] at HO
    have HYES := Lib.hid (HYES.out hr)
    have HN2 := Lib.hid (HN2.out hr)
    clear hr HN1
    go_enter Tryd.func11, Tryd.ntmps11
    go_wp2_with fail
    refine (HO.out _ HT1.out).mono ?_
    rintro e W ⟨rfl, hb⟩
    obtain ⟨g1, n1, hb⟩ := N1.out _ hb
    have G1 := Lib.hid g1
    have N0 := Lib.hid n1
    have NB := Lib.hid (n1.alloc (.cells #[.int .i64 b, .int .i64 i] 24))
    have HBW := Lib.hid (hb.alloc hb.size (.cells #[.int .i64 b, .int .i64 i] 24))
    clear n1 hb N1 g1
    have c0 : (W.alloc (.cells #[.int .i64 b, .int .i64 i] 24)).cell? ⟨w.heap.size, 0, none⟩ = some (.int .i64 n) := (G1.out.alloc _).cell 0
    have d0 : (W.alloc (.cells #[.int .i64 b, .int .i64 i] 24)).cell? ⟨W.heap.size, 0, none⟩ = some (.int .i64 b) := (BoxT.new 24 W #[.int .i64 b, .int .i64 i]).cell 0
    have d1 : (W.alloc (.cells #[.int .i64 b, .int .i64 i] 24)).cell? ⟨W.heap.size, 1, none⟩ = some (.int .i64 i) := (BoxT.new 24 W #[.int .i64 b, .int .i64 i]).cell 1
    go_wp2_with fail
    have qV := BoxT.new 24 W #[.int .i64 b, .int .i64 i]
    clear c0 d0 d1 G1 N0
    generalize W.alloc (.cells #[.int .i64 b, .int .i64 i] 24) = V at qV NB HBW ⊢
    generalize W.heap.size = g at qV ⊢
    refine (HAD.out _ (HT.out.below HBW.out (Nat.le_refl _))).mono ?_
    rintro e X ⟨rfl, hb⟩
    have NX := Lib.hid (NB.out.below hb NB.out.lt)
    have QX := Lib.hid (qV.below hb qV.lt)
    have HBX := Lib.hid (below_step HBW.out hb (Nat.le_refl _))
    clear hb qV
    by_cases hx : x = a
    · have HE := Lib.hid (HYES.out hx)
      subst hx
      clear HYES HN2 HNO
      go_wp2_with (first
        | (refine wpList_load_boxT rfl _ _ rfl (b := g) rfl QX.out Tryd.underlying24 rfl infoCell ?_)
        | (refine wpList_store_boxT rfl _ _ _ rfl (b := w.heap.size + 1) (cells := #[.int .i64 b, .int .i64 i]) rfl rfl NX.out infoCell rfl (oneCC _ _) ?_)
        | fail)
      exact bodyPost_ret (results_boxT2 rfl _ _ (w.heap.size + 1) _ (.bool true) rfl (NX.out.row _) Tryd.underlying24 rfl infoCell rfl) rfl ⟨by rw [HE.out.1, HE.out.2.1, HE.out.2.2], below_setRow HBX.out (by omega) _⟩
    · have HAT := Lib.hid (HN2.out hx)
      have HZ := Lib.hid (HNO.out HAT.out)
      have hd : (x == a) = false := by simpa using hx
      have hd' : (x != a) = true := by simpa using hx
      clear HYES HN2 HNO hx
      go_wp2_with (first
        | (refine wpList_store_boxT rfl _ _ _ rfl (b := w.heap.size + 1) (cells := #[.int .i64 0, .int .i64 0]) rfl rfl NX.out infoCell rfl (oneCC _ _) ?_)
        | fail)
      exact bodyPost_ret (results_boxT2 rfl _ _ (w.heap.size + 1) _ (.bool false) rfl (NX.out.row _) Tryd.underlying24 rfl infoCell rfl) rfl ⟨by rw [HAT.out, HZ.out.1, HZ.out.2], below_setRow HBX.out (by omega) _⟩

end Go.Proofs.YtkboafcfpppnmaaDoor
