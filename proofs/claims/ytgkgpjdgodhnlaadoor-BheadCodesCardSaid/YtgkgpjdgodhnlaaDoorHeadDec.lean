/- bhead: Decode; the reference's Decode. -/
import Derived.Test.YtgkgpjdgodhnlaaDoorHeadEnc
namespace Go.Proofs.YtgkgpjdgodhnlaaDoor
open Go.ChangeShapes Go.WideShapes Go.ChangeAt Go.RowKit Bh Bt Cr
set_option linter.unusedVariables false

/-- What a word tells at a place. -/
def HeadTells (x p : Nat) (w : World) (e : Ending) (w' : World) : Prop := e = .returned (.tuple #[.agg #[.int .i64 (okK x p : Nat), .int .i64 (okC x p : Nat), .int .i64 (okL x p : Nat)], .int .i64 (codeN x p : Nat)]) ∧ Below w.heap.size w w'

set_option maxHeartbeats 1000000 in
theorem headDec_any (b q : Int) (x p : Nat) (w : World) (hx : x < 2 ^ 64) (hq : wrap64 (256 + b) = q) (hp : IntKind.u64.wrap q = (p : Int)) (hp64 : p < 2 ^ 64) (hT : HasRests w) :
    Calls Tryd.prog 6 #[.int .i64 b, .int .u64 x] w (HeadTells x p w) := by
  have HT := Lib.hid hT
  have HQ := Lib.hid hq
  have HP := Lib.hid hp
  have B0 := Lib.hid (fun o => (Below.refl w.heap.size w).alloc (Nat.le_refl _) o)
  have hm : x % 4294967296 < 4294967296 := Nat.mod_lt _ (by decide)
  clear hT hq hp
  by_cases h1 : sealN (x % 4294967296) p = x
  rotate_left
  · have HO : Hid (∀ w, HasRests w → Calls Tryd.prog 14 #[.int .u64 x, .int .i64 q] w fun e w' => e = .returned (.tuple #[.int .u32 0, .bool false]) ∧ Below w.heap.size w w') := Lib.hid fun w h => by
      have := open_any x p w hx h q HP.out hp64
      unfold OpenIs at this
      simpa only [if_neg h1] using this
    have hc : codeN x p = 25 := by unfold codeN; rw [if_neg h1]
    have HR : Hid (okK x p = 0 ∧ okC x p = 0 ∧ okL x p = 0 ∧ codeN x p = 25) := Lib.hid (by unfold okK okC okL; rw [hc]; simp)
    clear h1 hc hm
    go_enter Tryd.func6, Tryd.ntmps6
    go_wp2_with fail
    refine (place_any b q _ HQ.out).mono ?_
    rintro e w' ⟨rfl, rfl⟩
    go_wp2_with fail
    refine (HO.out _ (HT.out.below (B0.out _) (Nat.le_refl _))).mono ?_
    rintro e W ⟨rfl, hb⟩
    obtain ⟨b1, hb, s1⟩ := boxT_of1 hb
    have HB := Lib.hid hb
    have B1 := Lib.hid b1
    clear hb b1
    go_wp2_with (first
      | (refine wpList_store_boxT rfl _ _ _ rfl (b := w.heap.size) (cells := #[.int .i64 0, .int .i64 0, .int .i64 0]) rfl rfl B1.out info3 rfl (one3 _ _ _) ?_)
      | fail)
    exact bodyPost_ret (results_boxT2 rfl _ _ w.heap.size _ (.int .i64 25) rfl (B1.out.row _) Tryd.underlying23 rfl info3 rfl) rfl ⟨by rw [HR.out.1, HR.out.2.1, HR.out.2.2.1, HR.out.2.2.2]; rfl, below_setRow HB.out (Nat.le_refl _) _⟩
  generalize hmm : x % 4294967296 = m at *
  have HM := Lib.hid hmm
  have HO : Hid (∀ w, HasRests w → Calls Tryd.prog 14 #[.int .u64 x, .int .i64 q] w fun e w' => e = .returned (.tuple #[.int .u32 m, .bool true]) ∧ Below w.heap.size w w') := Lib.hid fun w h => by
    have := open_any x p w hx h q HP.out hp64
    unfold OpenIs at this
    rw [HM.out] at this
    simpa only [if_pos h1] using this
  have H1 := Lib.hid h1
  have hc : codeN x p = if encN (kOf m) (cOf m) (lOf m) p = x then 0 else 26 := by unfold codeN; rw [HM.out, if_pos h1]
  have HK : Hid (codeN x p = 0 → okK x p = kOf m ∧ okC x p = cOf m ∧ okL x p = lOf m) := Lib.hid fun h => by unfold okK okC okL; rw [if_pos h, if_pos h, if_pos h, HM.out]; exact ⟨rfl, rfl, rfl⟩
  have HK' : Hid (codeN x p ≠ 0 → okK x p = 0 ∧ okC x p = 0 ∧ okL x p = 0) := Lib.hid fun h => by unfold okK okC okL; rw [if_neg h, if_neg h, if_neg h]; exact ⟨rfl, rfl, rfl⟩
  have HE : Hid (∀ w, HasRests w → Calls Tryd.prog 11 #[.int .i64 b, .agg #[.int .i64 (kOf m : Nat), .int .i64 (cOf m : Nat), .int .i64 (lOf m : Nat)]] w (MadeOne (.int .u64 (encN (kOf m) (cOf m) (lOf m) p : Nat)) w)) := Lib.hid fun w h => headEnc_any b q p _ _ _ w HQ.out HP.out hp64 h
  have HH : Hid (∀ w, Calls Tryd.prog 16 #[.int .u32 m] w (MadeOne (.agg #[.int .i64 (kOf m : Nat), .int .i64 (cOf m : Nat), .int .i64 (lOf m : Nat)]) w)) := Lib.hid fun w => headerOf_any m w hm
  have hy := encN_lt (kOf m) (cOf m) (lOf m) p
  generalize encN (kOf m) (cOf m) (lOf m) p = y at hc HE hy
  generalize kOf m = k at *
  generalize cOf m = c at *
  generalize lOf m = l at *
  clear h1 hmm
  go_enter Tryd.func6, Tryd.ntmps6
  go_wp2_with fail
  refine (place_any b q _ HQ.out).mono ?_
  rintro e w' ⟨rfl, rfl⟩
  go_wp2_with fail
  refine (HO.out _ (HT.out.below (B0.out _) (Nat.le_refl _))).mono ?_
  rintro e W ⟨rfl, hb⟩
  obtain ⟨b1, hb, s1⟩ := boxT_of1 hb
  have HB := Lib.hid hb
  have B1 := Lib.hid b1
  clear hb b1
  go_wp2_with fail
  refine (HH.out _).mono ?_
  rintro e W2 ⟨rfl, hb⟩
  have b2 := (B1.out.below hb B1.out.lt).alloc (.cells #[.int .i64 k, .int .i64 c, .int .i64 l] 23)
  have n2 := BoxT.new 23 W2 #[.int .i64 k, .int .i64 c, .int .i64 l]
  have k2 := (below_step HB.out hb (Nat.le_refl _)).alloc (Nat.le_trans HB.out.size hb.size) (.cells #[.int .i64 k, .int .i64 c, .int .i64 l] 23)
  have s2 := hb.size
  have s3 := HB.out.size
  have hne : w.heap.size ≠ W2.heap.size := by omega
  clear hb s2 s3
  go_wp2_with fail
  generalize W2.alloc (.cells #[.int .i64 k, .int .i64 c, .int .i64 l] 23) = V at b2 n2 k2 ⊢
  generalize W2.heap.size = g at n2 hne ⊢
  have B2 := Lib.hid b2
  have N2 := Lib.hid n2
  have K2 := Lib.hid k2
  have HNE := Lib.hid hne
  clear b2 n2 k2 hne
  refine (HE.out _ (HT.out.below K2.out (Nat.le_refl _))).mono ?_
  rintro e W3 ⟨rfl, hb⟩
  have B3 := Lib.hid (B2.out.below hb B2.out.lt)
  have n3 := N2.out.below hb N2.out.lt
  have K3 := Lib.hid (below_step K2.out hb (Nat.le_refl _))
  have N3 := Lib.hid n3
  clear hb
  by_cases hg : y = x
  · rw [if_pos hg] at hc
    subst hg
    have HC := Lib.hid hc
    clear hc
    go_wp2_with (first
      | (refine wpList_load_boxT rfl _ _ rfl (b := g) rfl N3.out Tryd.underlying23 rfl info3 ?_)
      | (refine wpList_store_boxT rfl _ _ _ rfl (b := w.heap.size) (cells := #[.int .i64 k, .int .i64 c, .int .i64 l]) rfl rfl B3.out info3 rfl (one3 _ _ _) ?_)
      | fail)
    exact bodyPost_ret (results_boxT2 rfl _ _ w.heap.size _ (.int .i64 0) rfl (B3.out.row _) Tryd.underlying23 rfl info3 rfl) rfl ⟨by rw [(HK.out HC.out).1, (HK.out HC.out).2.1, (HK.out HC.out).2.2, HC.out]; rfl, below_setRow K3.out (Nat.le_refl _) _⟩
  · rw [if_neg hg] at hc
    have hd : ((y : Int) == (x : Int)) = false := by simp; omega
    have hd' : ((y : Int) != (x : Int)) = true := by simp; omega
    have HC := Lib.hid hc
    have HC' : Hid (codeN x p ≠ 0) := Lib.hid (by rw [hc]; decide)
    clear hc hg
    go_wp2_with (first
      | (refine wpList_store_boxT rfl _ _ _ rfl (b := w.heap.size) (cells := #[.int .i64 0, .int .i64 0, .int .i64 0]) rfl rfl B3.out info3 rfl (one3 _ _ _) ?_)
      | fail)
    exact bodyPost_ret (results_boxT2 rfl _ _ w.heap.size _ (.int .i64 26) rfl (B3.out.row _) Tryd.underlying23 rfl info3 rfl) rfl ⟨by rw [(HK'.out HC'.out).1, (HK'.out HC'.out).2.1, (HK'.out HC'.out).2.2, HC.out]; rfl, below_setRow K3.out (Nat.le_refl _) _⟩

set_option maxHeartbeats 1000000 in
theorem refHeadDec_any (b q : Int) (x p : Nat) (w : World) (hx : x < 2 ^ 64) (hq : wrap64 (256 + b) = q) (hp : IntKind.u64.wrap q = (p : Int)) (hp64 : p < 2 ^ 64) :
    Calls Tryd.prog 7 #[.int .i64 b, .int .u64 x] w (HeadTells x p w) := by
  have HQ := Lib.hid hq
  have HP := Lib.hid hp
  have B0 := Lib.hid (fun o => (Below.refl w.heap.size w).alloc (Nat.le_refl _) o)
  have hm : x % 4294967296 < 4294967296 := Nat.mod_lt _ (by decide)
  clear hp
  by_cases h1 : sealN (x % 4294967296) p = x
  rotate_left
  · have HO : Hid (∀ w, Calls Tryd.prog 17 #[.int .u64 x, .int .i64 q] w fun e w' => e = .returned (.tuple #[.int .u32 0, .bool false]) ∧ Below w.heap.size w w') := Lib.hid fun w => by
      have := refOpen_any x p w hx q HP.out hp64
      unfold OpenIs at this
      simpa only [if_neg h1] using this
    have hc : codeN x p = 25 := by unfold codeN; rw [if_neg h1]
    have HR : Hid (okK x p = 0 ∧ okC x p = 0 ∧ okL x p = 0 ∧ codeN x p = 25) := Lib.hid (by unfold okK okC okL; rw [hc]; simp)
    clear h1 hc hm
    go_enter Tryd.func7, Tryd.ntmps7
    go_wp2_with fail
    refine (HO.out _).mono ?_
    rintro e W ⟨rfl, hb⟩
    obtain ⟨b1, hb, s1⟩ := boxT_of1 hb
    have HB := Lib.hid hb
    have B1 := Lib.hid b1
    clear hb b1
    go_wp2_with (first
      | (refine wpList_store_boxT rfl _ _ _ rfl (b := w.heap.size) (cells := #[.int .i64 0, .int .i64 0, .int .i64 0]) rfl rfl B1.out infoR3 rfl (one3 _ _ _) ?_)
      | fail)
    exact bodyPost_ret (results_boxT2 rfl _ _ w.heap.size _ (.int .i64 25) rfl (B1.out.row _) Tryd.underlying29 rfl infoR3 rfl) rfl ⟨by rw [HR.out.1, HR.out.2.1, HR.out.2.2.1, HR.out.2.2.2]; rfl, below_setRow HB.out (Nat.le_refl _) _⟩
  generalize hmm : x % 4294967296 = m at *
  have HM := Lib.hid hmm
  have HO : Hid (∀ w, Calls Tryd.prog 17 #[.int .u64 x, .int .i64 q] w fun e w' => e = .returned (.tuple #[.int .u32 m, .bool true]) ∧ Below w.heap.size w w') := Lib.hid fun w => by
    have := refOpen_any x p w hx q HP.out hp64
    unfold OpenIs at this
    rw [HM.out] at this
    simpa only [if_pos h1] using this
  have H1 := Lib.hid h1
  have hc : codeN x p = if encN (kOf m) (cOf m) (lOf m) p = x then 0 else 26 := by unfold codeN; rw [HM.out, if_pos h1]
  have HK : Hid (codeN x p = 0 → okK x p = kOf m ∧ okC x p = cOf m ∧ okL x p = lOf m) := Lib.hid fun h => by unfold okK okC okL; rw [if_pos h, if_pos h, if_pos h, HM.out]; exact ⟨rfl, rfl, rfl⟩
  have HK' : Hid (codeN x p ≠ 0 → okK x p = 0 ∧ okC x p = 0 ∧ okL x p = 0) := Lib.hid fun h => by unfold okK okC okL; rw [if_neg h, if_neg h, if_neg h]; exact ⟨rfl, rfl, rfl⟩
  have HE : Hid (∀ w, Calls Tryd.prog 12 #[.int .i64 b, .agg #[.int .i64 (kOf m : Nat), .int .i64 (cOf m : Nat), .int .i64 (lOf m : Nat)]] w (MadeOne (.int .u64 (encN (kOf m) (cOf m) (lOf m) p : Nat)) w)) := Lib.hid fun w => refHeadEnc_any b q p _ _ _ w HQ.out HP.out hp64
  have HRT : Hid (encN (kOf m) (cOf m) (lOf m) p = x → ∀ w, Calls Tryd.prog 9 #[.agg #[.int .i64 (kOf m : Nat), .int .i64 (cOf m : Nat), .int .i64 (lOf m : Nat)]] w fun e w' => e = .returned (.bool true) ∧ Below w.heap.size w w') := Lib.hid fun h w => by
    have hr : rightH (kOf m) (cOf m) (lOf m) = true := by
      cases hr : rightH (kOf m) (cOf m) (lOf m) with
      | true => rfl
      | false => exact absurd h (by have := @wrong_ne x p (by rw [HM.out]; exact hr); rwa [HM.out] at this)
    have := refRight_any (kOf m) (cOf m) (lOf m) w
    rwa [hr] at this
  have e0 : (m : Int) % 4 = ((kOf m : Nat) : Int) := by unfold kOf; omega
  have e1 : (m : Int) / 4 % 64 = ((cOf m : Nat) : Int) := by unfold cOf; omega
  have e2 : (m : Int) / 256 % 65536 = ((lOf m : Nat) : Int) := by unfold lOf; omega
  have i0 := kOf_lt m
  have i1 := cOf_lt m
  have i2 := lOf_lt m
  have hy := encN_lt (kOf m) (cOf m) (lOf m) p
  generalize encN (kOf m) (cOf m) (lOf m) p = y at hc HE hy HRT
  generalize kOf m = k at *
  generalize cOf m = c at *
  generalize lOf m = l at *
  clear h1 hmm
  have hm' : (m : Int) ≤ 4294967295 := by omega
  go_enter Tryd.func7, Tryd.ntmps7
  go_wp2_with fail
  refine (HO.out _).mono ?_
  rintro e W ⟨rfl, hb⟩
  obtain ⟨b1, hb, s1⟩ := boxT_of1 hb
  have HB := Lib.hid hb
  have B1 := Lib.hid b1
  clear hb b1
  go_wp2_with fail
  have b2 := B1.out.alloc (.cells #[.int .i64 k, .int .i64 c, .int .i64 l] 29)
  have n2 := BoxT.new 29 W #[.int .i64 k, .int .i64 c, .int .i64 l]
  have k2 := HB.out.alloc HB.out.size (.cells #[.int .i64 k, .int .i64 c, .int .i64 l] 29)
  have s3 := HB.out.size
  have hne : w.heap.size ≠ W.heap.size := by omega
  clear s3
  generalize W.alloc (.cells #[.int .i64 k, .int .i64 c, .int .i64 l] 29) = V at b2 n2 k2 ⊢
  generalize W.heap.size = g at n2 hne ⊢
  have B2 := Lib.hid b2
  have N2 := Lib.hid n2
  have K2 := Lib.hid k2
  have HNE := Lib.hid hne
  clear b2 n2 k2 hne
  refine (HE.out _).mono ?_
  rintro e W3 ⟨rfl, hb⟩
  have B3 := Lib.hid (B2.out.below hb B2.out.lt)
  have n3 := N2.out.below hb N2.out.lt
  have K3 := Lib.hid (below_step K2.out hb (Nat.le_refl _))
  have N3 := Lib.hid n3
  have q0 : W3.cell? ⟨g, 0, none⟩ = some (.int .i64 k) := n3.cell 0
  have q1 : W3.cell? ⟨g, 1, none⟩ = some (.int .i64 c) := n3.cell 1
  have q2 : W3.cell? ⟨g, 2, none⟩ = some (.int .i64 l) := n3.cell 2
  clear hb n3
  by_cases hg : y = x
  · rw [if_pos hg] at hc
    subst hg
    have HC := Lib.hid hc
    clear hc
    go_wp2_with fail
    refine (HRT.out (by first | rfl | trivial) _).mono ?_
    rintro e W4 ⟨rfl, hb⟩
    have B4 := Lib.hid (B3.out.below hb B3.out.lt)
    have N4 := Lib.hid (N3.out.below hb N3.out.lt)
    have K4 := Lib.hid (below_step K3.out hb (Nat.le_refl _))
    clear hb q0 q1 q2
    go_wp2_with (first
      | (refine wpList_load_boxT rfl _ _ rfl (b := g) rfl N4.out Tryd.underlying29 rfl infoR3 ?_)
      | (refine wpList_store_boxT rfl _ _ _ rfl (b := w.heap.size) (cells := #[.int .i64 k, .int .i64 c, .int .i64 l]) rfl rfl B4.out infoR3 rfl (one3 _ _ _) ?_)
      | fail)
    exact bodyPost_ret (results_boxT2 rfl _ _ w.heap.size _ (.int .i64 0) rfl (B4.out.row _) Tryd.underlying29 rfl infoR3 rfl) rfl ⟨by rw [(HK.out HC.out).1, (HK.out HC.out).2.1, (HK.out HC.out).2.2, HC.out]; rfl, below_setRow K4.out (Nat.le_refl _) _⟩
  · rw [if_neg hg] at hc
    have hd : ((y : Int) == (x : Int)) = false := by simp; omega
    have hd' : ((y : Int) != (x : Int)) = true := by simp; omega
    have HC := Lib.hid hc
    have HC' : Hid (codeN x p ≠ 0) := Lib.hid (by rw [hc]; decide)
    clear hc hg
    go_wp2_with (first
      | (refine wpList_store_boxT rfl _ _ _ rfl (b := w.heap.size) (cells := #[.int .i64 0, .int .i64 0, .int .i64 0]) rfl rfl B3.out infoR3 rfl (one3 _ _ _) ?_)
      | fail)
    exact bodyPost_ret (results_boxT2 rfl _ _ w.heap.size _ (.int .i64 26) rfl (B3.out.row _) Tryd.underlying29 rfl infoR3 rfl) rfl ⟨by rw [(HK'.out HC'.out).1, (HK'.out HC'.out).2.1, (HK'.out HC'.out).2.2, HC.out]; rfl, below_setRow K3.out (Nat.le_refl _) _⟩

end Go.Proofs.YtgkgpjdgodhnlaaDoor
