/- Texts of the proof, merged: HeadDec, GeoHas, GeoHeader, NvmMath, Dev, Step, Copy, Ops, Box1, BlkLoad, Fence, UpB. -/
import Derived.Test.YtaigocnnmjjhgaaDoorPk2
import Derived.Test.YtaigocnnmjjhgaaDoorPk1
import Derived.Test.YtaigocnnmjjhgaaDoorRows
import Derived.Maps.RangeWalk
import Derived.Deep.RegionHeld3
namespace Go.Proofs.YtaigocnnmjjhgaaDoor
open Go.ChangeShapes Go.WideShapes Go.ChangeAt Go.RowKit Bh Bt Cr
set_option linter.unusedVariables false

/-- What a word tells at a place. -/
def HeadTells (x p : Nat) (w : World) (e : Ending) (w' : World) : Prop := e = .returned (.tuple #[.agg #[.int .i64 (okK x p : Nat), .int .i64 (okC x p : Nat), .int .i64 (okL x p : Nat)], .int .i64 (codeN x p : Nat)]) ∧ Below w.heap.size w w'

set_option maxHeartbeats 1000000 in
theorem headDec_any (b q : Int) (x p : Nat) (w : World) (hx : x < 2 ^ 64) (hq : wrap64 (256 + b) = q) (hp : IntKind.u64.wrap q = (p : Int)) (hp64 : p < 2 ^ 64) (hT : HasRests w) :
    Calls Tryd.prog 40 #[.int .i64 b, .int .u64 x] w (HeadTells x p w) := by
  have HT := Lib.hid hT
  have HQ := Lib.hid hq
  have HP := Lib.hid hp
  have B0 := Lib.hid (fun o => (Below.refl w.heap.size w).alloc (Nat.le_refl _) o)
  have hm : x % 4294967296 < 4294967296 := Nat.mod_lt _ (by decide)
  clear hT hq hp
  by_cases h1 : sealN (x % 4294967296) p = x
  rotate_left
  · have HO : Hid (∀ w, HasRests w → Calls Tryd.prog 55 #[.int .u64 x, .int .i64 q] w fun e w' => e = .returned (.tuple #[.int .u32 0, .bool false]) ∧ Below w.heap.size w w') := Lib.hid fun w h => by
      have := open_any x p w hx h q HP.out hp64
      unfold OpenIs at this
      simpa only [if_neg h1] using this
    have hc : codeN x p = 25 := by unfold codeN; rw [if_neg h1]
    have HR : Hid (okK x p = 0 ∧ okC x p = 0 ∧ okL x p = 0 ∧ codeN x p = 25) := Lib.hid (by unfold okK okC okL; rw [hc]; simp)
    clear h1 hc hm
    go_enter Tryd.func40, Tryd.ntmps40
    go_wp2_with fail
    refine (place_any b q _ HQ.out).mono ?_
    rintro e w' ⟨rfl, rfl⟩
    go_wp2_with fail
    refine (HO.out _ (HT.out.below (B0.out _) (Nat.le_refl _))).mono ?_
    rintro e W ⟨rfl, hb⟩
    obtain ⟨b1, hb, s1⟩ := boxT_of1 hb
    have HB := Lib.hid hb
    have B1 := Lib.hid b1
    clear hb b1
    go_wp2_with (first
      | (refine wpList_store_boxT rfl _ _ _ rfl (b := w.heap.size) (cells := #[.int .i64 0, .int .i64 0, .int .i64 0]) rfl rfl B1.out info3 rfl (one3 _ _ _) ?_)
      | fail)
    exact bodyPost_ret (results_boxT2 rfl _ _ w.heap.size _ (.int .i64 25) rfl (B1.out.row _) Tryd.underlying48 rfl info3 rfl) rfl ⟨by rw [HR.out.1, HR.out.2.1, HR.out.2.2.1, HR.out.2.2.2]; rfl, below_setRow HB.out (Nat.le_refl _) _⟩
  generalize hmm : x % 4294967296 = m at *
  have HM := Lib.hid hmm
  have HO : Hid (∀ w, HasRests w → Calls Tryd.prog 55 #[.int .u64 x, .int .i64 q] w fun e w' => e = .returned (.tuple #[.int .u32 m, .bool true]) ∧ Below w.heap.size w w') := Lib.hid fun w h => by
    have := open_any x p w hx h q HP.out hp64
    unfold OpenIs at this
    rw [HM.out] at this
    simpa only [if_pos h1] using this
  have H1 := Lib.hid h1
  have hc : codeN x p = if encN (kOf m) (cOf m) (lOf m) p = x then 0 else 26 := by unfold codeN; rw [HM.out, if_pos h1]
  have HK : Hid (codeN x p = 0 → okK x p = kOf m ∧ okC x p = cOf m ∧ okL x p = lOf m) := Lib.hid fun h => by unfold okK okC okL; rw [if_pos h, if_pos h, if_pos h, HM.out]; exact ⟨rfl, rfl, rfl⟩
  have HK' : Hid (codeN x p ≠ 0 → okK x p = 0 ∧ okC x p = 0 ∧ okL x p = 0) := Lib.hid fun h => by unfold okK okC okL; rw [if_neg h, if_neg h, if_neg h]; exact ⟨rfl, rfl, rfl⟩
  have HE : Hid (∀ w, HasRests w → Calls Tryd.prog 46 #[.int .i64 b, .agg #[.int .i64 (kOf m : Nat), .int .i64 (cOf m : Nat), .int .i64 (lOf m : Nat)]] w (MadeOne (.int .u64 (encN (kOf m) (cOf m) (lOf m) p : Nat)) w)) := Lib.hid fun w h => headEnc_any b q p _ _ _ w HQ.out HP.out hp64 h
  have HH : Hid (∀ w, Calls Tryd.prog 57 #[.int .u32 m] w (MadeOne (.agg #[.int .i64 (kOf m : Nat), .int .i64 (cOf m : Nat), .int .i64 (lOf m : Nat)]) w)) := Lib.hid fun w => headerOf_any m w hm
  have hy := encN_lt (kOf m) (cOf m) (lOf m) p
  generalize encN (kOf m) (cOf m) (lOf m) p = y at hc HE hy
  generalize kOf m = k at *
  generalize cOf m = c at *
  generalize lOf m = l at *
  clear h1 hmm
  go_enter Tryd.func40, Tryd.ntmps40
  go_wp2_with fail
  refine (place_any b q _ HQ.out).mono ?_
  rintro e w' ⟨rfl, rfl⟩
  go_wp2_with fail
  refine (HO.out _ (HT.out.below (B0.out _) (Nat.le_refl _))).mono ?_
  rintro e W ⟨rfl, hb⟩
  obtain ⟨b1, hb, s1⟩ := boxT_of1 hb
  have HB := Lib.hid hb
  have B1 := Lib.hid b1
  clear hb b1
  go_wp2_with fail
  refine (HH.out _).mono ?_
  rintro e W2 ⟨rfl, hb⟩
  have b2 := (B1.out.below hb B1.out.lt).alloc (.cells #[.int .i64 k, .int .i64 c, .int .i64 l] 48)
  have n2 := BoxT.new 48 W2 #[.int .i64 k, .int .i64 c, .int .i64 l]
  have k2 := (below_step HB.out hb (Nat.le_refl _)).alloc (Nat.le_trans HB.out.size hb.size) (.cells #[.int .i64 k, .int .i64 c, .int .i64 l] 48)
  have s2 := hb.size
  have s3 := HB.out.size
  have hne : w.heap.size ≠ W2.heap.size := by omega
  clear hb s2 s3
  go_wp2_with fail
  generalize W2.alloc (.cells #[.int .i64 k, .int .i64 c, .int .i64 l] 48) = V at b2 n2 k2 ⊢
  generalize W2.heap.size = g at n2 hne ⊢
  have B2 := Lib.hid b2
  have N2 := Lib.hid n2
  have K2 := Lib.hid k2
  have HNE := Lib.hid hne
  clear b2 n2 k2 hne
  refine (HE.out _ (HT.out.below K2.out (Nat.le_refl _))).mono ?_
  rintro e W3 ⟨rfl, hb⟩
  have B3 := Lib.hid (B2.out.below hb B2.out.lt)
  have n3 := N2.out.below hb N2.out.lt
  have K3 := Lib.hid (below_step K2.out hb (Nat.le_refl _))
  have N3 := Lib.hid n3
  clear hb
  by_cases hg : y = x
  · rw [if_pos hg] at hc
    subst hg
    have HC := Lib.hid hc
    clear hc
    go_wp2_with (first
      | (refine wpList_load_boxT rfl _ _ rfl (b := g) rfl N3.out Tryd.underlying48 rfl info3 ?_)
      | (refine wpList_store_boxT rfl _ _ _ rfl (b := w.heap.size) (cells := #[.int .i64 k, .int .i64 c, .int .i64 l]) rfl rfl B3.out info3 rfl (one3 _ _ _) ?_)
      | fail)
    exact bodyPost_ret (results_boxT2 rfl _ _ w.heap.size _ (.int .i64 0) rfl (B3.out.row _) Tryd.underlying48 rfl info3 rfl) rfl ⟨by rw [(HK.out HC.out).1, (HK.out HC.out).2.1, (HK.out HC.out).2.2, HC.out]; rfl, below_setRow K3.out (Nat.le_refl _) _⟩
  · rw [if_neg hg] at hc
    have hd : ((y : Int) == (x : Int)) = false := by simp; omega
    have hd' : ((y : Int) != (x : Int)) = true := by simp; omega
    have HC := Lib.hid hc
    have HC' : Hid (codeN x p ≠ 0) := Lib.hid (by rw [hc]; decide)
    clear hc hg
    go_wp2_with (first
      | (refine wpList_store_boxT rfl _ _ _ rfl (b := w.heap.size) (cells := #[.int .i64 0, .int .i64 0, .int .i64 0]) rfl rfl B3.out info3 rfl (one3 _ _ _) ?_)
      | fail)
    exact bodyPost_ret (results_boxT2 rfl _ _ w.heap.size _ (.int .i64 26) rfl (B3.out.row _) Tryd.underlying48 rfl info3 rfl) rfl ⟨by rw [(HK'.out HC'.out).1, (HK'.out HC'.out).2.1, (HK'.out HC'.out).2.2, HC.out]; rfl, below_setRow K3.out (Nat.le_refl _) _⟩

set_option maxHeartbeats 1000000 in
theorem refHeadDec_any (b q : Int) (x p : Nat) (w : World) (hx : x < 2 ^ 64) (hq : wrap64 (256 + b) = q) (hp : IntKind.u64.wrap q = (p : Int)) (hp64 : p < 2 ^ 64) :
    Calls Tryd.prog 27 #[.int .i64 b, .int .u64 x] w (HeadTells x p w) := by
  have HQ := Lib.hid hq
  have HP := Lib.hid hp
  have B0 := Lib.hid (fun o => (Below.refl w.heap.size w).alloc (Nat.le_refl _) o)
  have hm : x % 4294967296 < 4294967296 := Nat.mod_lt _ (by decide)
  clear hp
  by_cases h1 : sealN (x % 4294967296) p = x
  rotate_left
  · have HO : Hid (∀ w, Calls Tryd.prog 42 #[.int .u64 x, .int .i64 q] w fun e w' => e = .returned (.tuple #[.int .u32 0, .bool false]) ∧ Below w.heap.size w w') := Lib.hid fun w => by
      have := refOpen_any x p w hx q HP.out hp64
      unfold OpenIs at this
      simpa only [if_neg h1] using this
    have hc : codeN x p = 25 := by unfold codeN; rw [if_neg h1]
    have HR : Hid (okK x p = 0 ∧ okC x p = 0 ∧ okL x p = 0 ∧ codeN x p = 25) := Lib.hid (by unfold okK okC okL; rw [hc]; simp)
    clear h1 hc hm
    go_enter Tryd.func27, Tryd.ntmps27
    go_wp2_with fail
    refine (HO.out _).mono ?_
    rintro e W ⟨rfl, hb⟩
    obtain ⟨b1, hb, s1⟩ := boxT_of1 hb
    have HB := Lib.hid hb
    have B1 := Lib.hid b1
    clear hb b1
    go_wp2_with (first
      | (refine wpList_store_boxT rfl _ _ _ rfl (b := w.heap.size) (cells := #[.int .i64 0, .int .i64 0, .int .i64 0]) rfl rfl B1.out infoR3 rfl (one3 _ _ _) ?_)
      | fail)
    exact bodyPost_ret (results_boxT2 rfl _ _ w.heap.size _ (.int .i64 25) rfl (B1.out.row _) Tryd.underlying46 rfl infoR3 rfl) rfl ⟨by rw [HR.out.1, HR.out.2.1, HR.out.2.2.1, HR.out.2.2.2]; rfl, below_setRow HB.out (Nat.le_refl _) _⟩
  generalize hmm : x % 4294967296 = m at *
  have HM := Lib.hid hmm
  have HO : Hid (∀ w, Calls Tryd.prog 42 #[.int .u64 x, .int .i64 q] w fun e w' => e = .returned (.tuple #[.int .u32 m, .bool true]) ∧ Below w.heap.size w w') := Lib.hid fun w => by
    have := refOpen_any x p w hx q HP.out hp64
    unfold OpenIs at this
    rw [HM.out] at this
    simpa only [if_pos h1] using this
  have H1 := Lib.hid h1
  have hc : codeN x p = if encN (kOf m) (cOf m) (lOf m) p = x then 0 else 26 := by unfold codeN; rw [HM.out, if_pos h1]
  have HK : Hid (codeN x p = 0 → okK x p = kOf m ∧ okC x p = cOf m ∧ okL x p = lOf m) := Lib.hid fun h => by unfold okK okC okL; rw [if_pos h, if_pos h, if_pos h, HM.out]; exact ⟨rfl, rfl, rfl⟩
  have HK' : Hid (codeN x p ≠ 0 → okK x p = 0 ∧ okC x p = 0 ∧ okL x p = 0) := Lib.hid fun h => by unfold okK okC okL; rw [if_neg h, if_neg h, if_neg h]; exact ⟨rfl, rfl, rfl⟩
  have HE : Hid (∀ w, Calls Tryd.prog 43 #[.int .i64 b, .agg #[.int .i64 (kOf m : Nat), .int .i64 (cOf m : Nat), .int .i64 (lOf m : Nat)]] w (MadeOne (.int .u64 (encN (kOf m) (cOf m) (lOf m) p : Nat)) w)) := Lib.hid fun w => refHeadEnc_any b q p _ _ _ w HQ.out HP.out hp64
  have HRT : Hid (encN (kOf m) (cOf m) (lOf m) p = x → ∀ w, Calls Tryd.prog 44 #[.agg #[.int .i64 (kOf m : Nat), .int .i64 (cOf m : Nat), .int .i64 (lOf m : Nat)]] w fun e w' => e = .returned (.bool true) ∧ Below w.heap.size w w') := Lib.hid fun h w => by
    have hr : rightH (kOf m) (cOf m) (lOf m) = true := by
      cases hr : rightH (kOf m) (cOf m) (lOf m) with
      | true => rfl
      | false => exact absurd h (by have := @wrong_ne x p (by rw [HM.out]; exact hr); rwa [HM.out] at this)
    have := refRight_any (kOf m) (cOf m) (lOf m) w
    rwa [hr] at this
  have e0 : (m : Int) % 4 = ((kOf m : Nat) : Int) := by unfold kOf; omega
  have e1 : (m : Int) / 4 % 64 = ((cOf m : Nat) : Int) := by unfold cOf; omega
  have e2 : (m : Int) / 256 % 65536 = ((lOf m : Nat) : Int) := by unfold lOf; omega
  have i0 := kOf_lt m
  have i1 := cOf_lt m
  have i2 := lOf_lt m
  have hy := encN_lt (kOf m) (cOf m) (lOf m) p
  generalize encN (kOf m) (cOf m) (lOf m) p = y at hc HE hy HRT
  generalize kOf m = k at *
  generalize cOf m = c at *
  generalize lOf m = l at *
  clear h1 hmm
  have hm' : (m : Int) ≤ 4294967295 := by omega
  go_enter Tryd.func27, Tryd.ntmps27
  go_wp2_with fail
  refine (HO.out _).mono ?_
  rintro e W ⟨rfl, hb⟩
  obtain ⟨b1, hb, s1⟩ := boxT_of1 hb
  have HB := Lib.hid hb
  have B1 := Lib.hid b1
  clear hb b1
  go_wp2_with fail
  have b2 := B1.out.alloc (.cells #[.int .i64 k, .int .i64 c, .int .i64 l] 46)
  have n2 := BoxT.new 46 W #[.int .i64 k, .int .i64 c, .int .i64 l]
  have k2 := HB.out.alloc HB.out.size (.cells #[.int .i64 k, .int .i64 c, .int .i64 l] 46)
  have s3 := HB.out.size
  have hne : w.heap.size ≠ W.heap.size := by omega
  clear s3
  generalize W.alloc (.cells #[.int .i64 k, .int .i64 c, .int .i64 l] 46) = V at b2 n2 k2 ⊢
  generalize W.heap.size = g at n2 hne ⊢
  have B2 := Lib.hid b2
  have N2 := Lib.hid n2
  have K2 := Lib.hid k2
  have HNE := Lib.hid hne
  clear b2 n2 k2 hne
  refine (HE.out _).mono ?_
  rintro e W3 ⟨rfl, hb⟩
  have B3 := Lib.hid (B2.out.below hb B2.out.lt)
  have n3 := N2.out.below hb N2.out.lt
  have K3 := Lib.hid (below_step K2.out hb (Nat.le_refl _))
  have N3 := Lib.hid n3
  have q0 : W3.cell? ⟨g, 0, none⟩ = some (.int .i64 k) := n3.cell 0
  have q1 : W3.cell? ⟨g, 1, none⟩ = some (.int .i64 c) := n3.cell 1
  have q2 : W3.cell? ⟨g, 2, none⟩ = some (.int .i64 l) := n3.cell 2
  clear hb n3
  by_cases hg : y = x
  · rw [if_pos hg] at hc
    subst hg
    have HC := Lib.hid hc
    clear hc
    go_wp2_with fail
    refine (HRT.out (by first | rfl | trivial) _).mono ?_
    rintro e W4 ⟨rfl, hb⟩
    have B4 := Lib.hid (B3.out.below hb B3.out.lt)
    have N4 := Lib.hid (N3.out.below hb N3.out.lt)
    have K4 := Lib.hid (below_step K3.out hb (Nat.le_refl _))
    clear hb q0 q1 q2
    go_wp2_with (first
      | (refine wpList_load_boxT rfl _ _ rfl (b := g) rfl N4.out Tryd.underlying46 rfl infoR3 ?_)
      | (refine wpList_store_boxT rfl _ _ _ rfl (b := w.heap.size) (cells := #[.int .i64 k, .int .i64 c, .int .i64 l]) rfl rfl B4.out infoR3 rfl (one3 _ _ _) ?_)
      | fail)
    exact bodyPost_ret (results_boxT2 rfl _ _ w.heap.size _ (.int .i64 0) rfl (B4.out.row _) Tryd.underlying46 rfl infoR3 rfl) rfl ⟨by rw [(HK.out HC.out).1, (HK.out HC.out).2.1, (HK.out HC.out).2.2, HC.out]; rfl, below_setRow K4.out (Nat.le_refl _) _⟩
  · rw [if_neg hg] at hc
    have hd : ((y : Int) == (x : Int)) = false := by simp; omega
    have hd' : ((y : Int) != (x : Int)) = true := by simp; omega
    have HC := Lib.hid hc
    have HC' : Hid (codeN x p ≠ 0) := Lib.hid (by rw [hc]; decide)
    clear hc hg
    go_wp2_with (first
      | (refine wpList_store_boxT rfl _ _ _ rfl (b := w.heap.size) (cells := #[.int .i64 0, .int .i64 0, .int .i64 0]) rfl rfl B3.out infoR3 rfl (one3 _ _ _) ?_)
      | fail)
    exact bodyPost_ret (results_boxT2 rfl _ _ w.heap.size _ (.int .i64 26) rfl (B3.out.row _) Tryd.underlying46 rfl infoR3 rfl) rfl ⟨by rw [(HK'.out HC'.out).1, (HK'.out HC'.out).2.1, (HK'.out HC'.out).2.2, HC.out]; rfl, below_setRow K3.out (Nat.le_refl _) _⟩

end Go.Proofs.YtaigocnnmjjhgaaDoor

namespace Go.Proofs.YtaigocnnmjjhgaaDoor
open Go.ChangeShapes Go.WideShapes Go.ChangeAt Go.RowKit
set_option linter.unusedVariables false

/-- Is there such a block? -/
def hasBlk (n b : Int) : Bool := decide (0 ≤ b ∧ b < n)

set_option maxHeartbeats 400000 in
theorem geoHas_any (n b : Int) (w : World) :
    Calls Tryd.prog 51 #[.agg #[.int .i64 n], .int .i64 b] w fun e w' => e = .returned (.bool (hasBlk n b)) ∧ Below w.heap.size w w' := by
  by_cases h0 : 0 ≤ b
  · by_cases h1 : b < n
    · have hh : hasBlk n b = true := decide_eq_true ⟨h0, h1⟩
      have HH := Lib.hid hh
      clear hh
      go_enter Tryd.func51, Tryd.ntmps51
      go_wp2
      go_ret
      exact ⟨ret_bool HH.out.symm, (Below.refl _ _).alloc (Nat.le_refl _) _⟩
    · have hh : hasBlk n b = false := decide_eq_false (fun h => h1 h.2)
      have HH := Lib.hid hh
      clear hh
      have hd : decide (b < n) = false := by simpa using h1
      go_enter Tryd.func51, Tryd.ntmps51
      go_wp2
      go_ret
      exact ⟨ret_bool HH.out.symm, (Below.refl _ _).alloc (Nat.le_refl _) _⟩
  · have hh : hasBlk n b = false := decide_eq_false (fun h => h0 h.1)
    have HH := Lib.hid hh
    clear hh
    have hd : decide (0 ≤ b) = false := by simpa using h0
    go_enter Tryd.func51, Tryd.ntmps51
    go_wp2
    go_ret
    exact ⟨ret_bool HH.out.symm, (Below.refl _ _).alloc (Nat.le_refl _) _⟩

end Go.Proofs.YtaigocnnmjjhgaaDoor

namespace Go.Proofs.YtaigocnnmjjhgaaDoor
open Go.ChangeShapes Go.WideShapes Go.ChangeAt Go.RowKit
set_option linter.unusedVariables false

/-- The word of a block's header; -1. -/
def headerG (n b : Int) : Int := if 1 ≤ b ∧ b < n then 256 + b else -1

set_option maxHeartbeats 400000 in
theorem geoHeader_any (n b : Int) (w : World) (hn : n ≤ 1048576) :
    Calls Tryd.prog 33 #[.agg #[.int .i64 n], .int .i64 b] w fun e w' => e = .returned (.int .i64 (headerG n b)) ∧ Below w.heap.size w w' := by
  by_cases hz : b = 0
  · subst hz
    have hh : headerG n 0 = -1 := if_neg (by omega)
    have HH := Lib.hid hh
    clear hh
    go_enter Tryd.func33, Tryd.ntmps33
    go_wp2_with fail
    go_ret
    exact ⟨ret_int HH.out.symm, (Below.refl _ _).alloc (Nat.le_refl _) _⟩
  · have hd : (b == 0) = false := by simpa using hz
    by_cases h : 0 ≤ b ∧ b < n
    · have hh : headerG n b = 256 + b := if_pos (by omega)
      have HH := Lib.hid hh
      have hb : hasBlk n b = true := decide_eq_true h
      have HB := Lib.hid hb
      obtain ⟨h0, h1⟩ := h
      clear hh hb hz
      go_enter Tryd.func33, Tryd.ntmps33
      go_wp2_with fail
      refine (geoHas_any _ _ _).mono ?_
      rintro e w1 ⟨rfl, b1⟩
      rw [HB.out]
      have B1 := Lib.hid b1
      clear b1
      go_wp2_with fail
      go_ret
      exact ⟨ret_int HH.out.symm, ((Below.refl _ _).alloc (Nat.le_refl _) _).trans (B1.out.mono (by simp))⟩
    · have hh : headerG n b = -1 := if_neg (by omega)
      have HH := Lib.hid hh
      have hb : hasBlk n b = false := decide_eq_false h
      have HB := Lib.hid hb
      clear hh hb h hz
      go_enter Tryd.func33, Tryd.ntmps33
      go_wp2_with fail
      refine (geoHas_any _ _ _).mono ?_
      rintro e w1 ⟨rfl, b1⟩
      rw [HB.out]
      have B1 := Lib.hid b1
      clear b1
      go_wp2_with fail
      go_ret
      exact ⟨ret_int HH.out.symm, ((Below.refl _ _).alloc (Nat.le_refl _) _).trans (B1.out.mono (by simp))⟩

end Go.Proofs.YtaigocnnmjjhgaaDoor

namespace Go.Proofs.YtaigocnnmjjhgaaDoor
namespace Nv
set_option linter.unusedVariables false

structure Mdl where
  L : Nat
  last : Nat → Int
  now : Nat → Int
  dirty : Nat → Bool
  wait : Nat → Option (Nat → Int)
  fuse : Int
  steps : Int
  dead : Bool

/-- Does it stop at this step? -/
def stops (m : Mdl) : Bool := m.dead || decide (m.fuse = 0)
/-- Behind a step that is done. -/
def stepM (m : Mdl) : Mdl := { m with fuse := if 0 < m.fuse then m.fuse - 1 else m.fuse, steps := m.steps + 1 }
/-- Behind a step at which it stops. -/
def deadM (m : Mdl) : Mdl := { m with dead := true }
def hasW (m : Mdl) (at_ : Int) : Bool := decide (0 ≤ at_ ∧ at_ < 8 * m.L)
def hasL (m : Mdl) (l : Int) : Bool := decide (0 ≤ l ∧ l < m.L)
def getNow (m : Mdl) (at_ : Int) : Int := if hasW m at_ = true then m.now at_.toNat else 0
def getLast (m : Mdl) (at_ : Int) : Int := if hasW m at_ = true then m.last at_.toNat else 0

def setNow (m : Mdl) (k : Nat) (x : Int) : Mdl := { m with now := fun j => if j = k then x else m.now j }
def setDirty (m : Mdl) (i : Nat) (b : Bool) : Mdl := { m with dirty := fun j => if j = i then b else m.dirty j }
def setWait (m : Mdl) (i : Nat) (c : Option (Nat → Int)) : Mdl := { m with wait := fun j => if j = i then c else m.wait j }
/-- Line i lasts as c. -/
def setLast (m : Mdl) (i : Nat) (c : Nat → Int) : Mdl := { m with last := fun j => if j / 8 = i then c (j % 8) else m.last j }
/-- What line i is, out of words. -/
def lineOf (f : Nat → Int) (i : Nat) : Nat → Int := fun j => f (8 * i + j)

def eq8 (f g : Nat → Int) : Bool := (List.range 8).all fun j => f j == g j

def store (m : Mdl) (at_ x : Int) : Mdl × Int :=
  if hasW m at_ = false then (m, 2) else if stops m = true then (deadM m, 3) else (setDirty (setNow (stepM m) at_.toNat x) (at_.toNat / 8) true, 0)
/-- Behind a flush that is done. -/
def flushM (m : Mdl) (i : Nat) : Mdl := if m.dirty i = true then setWait (stepM m) i (some (lineOf m.now i)) else stepM m
def flush (m : Mdl) (l : Int) : Mdl × Int :=
  if hasL m l = false then (m, 2) else if stops m = true then (deadM m, 3) else (flushM m l.toNat, 0)
/-- Lines for which 'p' says so are fenced. -/
def fenced (m : Mdl) (p : Nat → Bool) : Mdl :=
  { m with
    last := fun j => if p (j / 8) = true then (match m.wait (j / 8) with | some c => c (j % 8) | none => m.last j) else m.last j
    dirty := fun i => if p i = true then (match m.wait i with | some c => !eq8 c (lineOf m.now i) | none => m.dirty i) else m.dirty i }
def noWait (m : Mdl) : Mdl := { m with wait := fun _ => none }
def fenceM (m : Mdl) : Mdl := noWait (fenced (stepM m) fun _ => true)
def fence (m : Mdl) : Mdl × Int := if stops m = true then (deadM m, 3) else (fenceM m, 0)
def evictM (m : Mdl) (i : Nat) : Mdl := setWait (setDirty (setLast m i (lineOf m.now i)) i false) i none
def evict (m : Mdl) (l : Int) : Mdl × Int :=
  if hasL m l = false then (m, 2) else if m.dead = true then (m, 3) else (evictM m l.toNat, 0)
/-- Lines from a on, n of them, are flushed; the first error ends it. -/
def flushes (m : Mdl) (a : Nat) : Nat → Mdl × Int
  | 0 => (m, 0)
  | n + 1 => let r := flush m a; if r.2 = 0 then flushes r.1 (a + 1) n else r
/-- The first of the lines of so many words from at_ on, and how many. -/
def firstLine (at_ words : Int) : Nat := if words = 0 then 0 else at_.toNat / 8
def endLine (at_ words : Int) : Nat := if words = 0 then 0 else ((at_ + words).toNat + 7) / 8
def badSpan (m : Mdl) (at_ words : Int) : Bool := decide (at_ < 0 ∨ words < 0 ∨ 8 * (m.L : Int) - words < at_)
def persist (m : Mdl) (at_ words : Int) : Mdl × Int :=
  if badSpan m at_ words = true then (m, 2) else
    let r := flushes m (firstLine at_ words) (endLine at_ words - firstLine at_ words)
    if r.2 = 0 then fence r.1 else r
def arm (m : Mdl) (n : Int) : Mdl := { m with fuse := max n (-1) }

def dirtyL (m : Mdl) : List Nat := (List.range m.L).filter m.dirty
/-- A device that was just made of these words. -/
def fresh (L : Nat) (f : Nat → Int) : Mdl := { L := L, last := f, now := f, dirty := fun _ => false, wait := fun _ => none, fuse := -1, steps := 0, dead := false }
/-- What line i lasts with by a choice. -/
def outcome (m : Mdl) (i : Nat) (c : Int) : Nat → Int :=
  if c % 3 = 2 then lineOf m.now i else if c % 3 = 1 then (match m.wait i with | some c => c | none => lineOf m.last i) else lineOf m.last i
/-- The words behind k of the choices. -/
def crashW (m : Mdl) (cs : List Int) : Nat → Nat → Int
  | 0 => m.last
  | k + 1 => fun j => if j / 8 = (dirtyL m).getD k 0 then outcome m ((dirtyL m).getD k 0) (cs.getD k 0) (j % 8) else crashW m cs k j
def crash (m : Mdl) (cs : List Int) : Mdl := fresh m.L (crashW m cs (min (dirtyL m).length cs.length))

theorem crashW_still (m : Mdl) (cs : List Int) (j : Nat) : ∀ k, (∀ i, i < k → (dirtyL m).getD i 0 ≠ j / 8) → crashW m cs k j = m.last j
  | 0, _ => rfl
  | k + 1, h => by
    simp only [crashW]
    rw [if_neg (fun e => h k (by omega) e.symm)]
    exact crashW_still m cs j k fun i hi => h i (by omega)

/-- Words, with noughts behind. -/
def padded (ws : List Int) : Nat → Int := fun j => ws.getD j 0
def linesFor (n : Nat) : Nat := (n + 7) / 8

end Nv
end Go.Proofs.YtaigocnnmjjhgaaDoor

namespace Go.Proofs.YtaigocnnmjjhgaaDoor
open Go.ChangeShapes Go.WideShapes Go.ChangeAt Go.RowKit Go.Maps Nv
set_option linter.unusedVariables false

/-- What the map of what is pending holds: slices of eight words, told by their blocks. -/
def blkElem : Value → Option (DataW Unit × List MemPlace)
  | .slice (some ⟨b, 0, none⟩) 8 8 => some (.lit (.int .u64 b), [])
  | .slice none 0 0 => some (.nil, [])
  | _ => none
theorem blkElem_mk (b : Nat) : blkElem (.slice (some ⟨b, 0, none⟩) 8 8) = some (.lit (.int .u64 b), []) := rfl
theorem blkElem_nil : blkElem (.slice none 0 0) = some (.nil, []) := rfl
theorem blkElem_lit {v : Value} {b : Nat} {ps : List MemPlace} (h : blkElem v = some (.lit (.int .u64 b), ps)) : v = .slice (some ⟨b, 0, none⟩) 8 8 := by
  unfold blkElem at h
  split at h
  · rename_i b1; simp at h; obtain ⟨h, _⟩ := h; obtain rfl : b1 = b := by omega
    rfl
  · simp at h
  · cases h

/-- Where a device lies; what its map reads as; blocks that hold what is pending. -/
structure Fp where
  bl : Nat
  bn : Nat
  bd : Nat
  bm : Nat
  left : Int
  n : Nat
  D : DataW Unit
  pb : Nat → Prop

/-- The blocks of a device. -/
def Fp.own (f : Fp) (p : Nat) : Nat → Prop := fun b => b = p ∨ b = f.bl ∨ b = f.bn ∨ b = f.bd ∨ b = f.bm ∨ f.pb b

def devCells (f : Fp) (m : Mdl) : Array Value :=
  #[.slice (some ⟨f.bl, 0, none⟩) (8 * m.L) (8 * m.L), .slice (some ⟨f.bn, 0, none⟩) (8 * m.L) (8 * m.L), .slice (some ⟨f.bd, 0, none⟩) m.L m.L, .map (some f.bm), .int .i64 f.left, .int .i64 m.steps, .bool m.dead]

/-- The device that leads to block p is m. -/
structure Dev (w : World) (p : Nat) (f : Fp) (m : Mdl) : Prop where
  hp : w.heap[p]? = some (.cells (devCells f m) 73 (0, 0))
  hl : Row w f.bl 74 (8 * m.L) fun k => .int .u64 (m.last k)
  hn : Row w f.bn 74 (8 * m.L) fun k => .int .u64 (m.now k)
  hd : Row w f.bd 4 m.L fun k => .bool (m.dirty k)
  hm : w.ownsMap Tryd.prog 3 blkElem f.bm f.n f.D
  ne : f.bl ≠ f.bn
  pend : ∀ x : Int, Maps.has f.D (.int .i64 x) = true → ∃ (i b : Nat) (c : Nat → Int), x = i ∧ i < m.L ∧ m.wait i = some c ∧ (∀ zd, f.D.atKey (.int .i64 x) zd = .lit (.int .u64 b)) ∧ Row w b 74 8 (fun k => .int .u64 (c k)) ∧ b ≠ f.bl ∧ b ≠ f.bn ∧ f.pb b
  back : ∀ (i : Nat) (c : Nat → Int), m.wait i = some c → Maps.has f.D (.int .i64 i) = true
  hn' : (f.n : Int) ≤ m.steps
  hf : max f.left (-1) = m.fuse
  hlo : -9223372036854775808 ≤ f.left ∧ f.left ≤ 9223372036854775807
  hL : m.L ≤ 33554432
  hpb : ∀ b, f.pb b → b < w.heap.size

section
variable {w w' : World} {p : Nat} {f : Fp} {m : Mdl}

theorem Dev.ptr_lt (h : Dev w p f m) : p < w.heap.size := (Array.getElem?_eq_some_iff.1 h.hp).1
theorem Dev.cell (h : Dev w p f m) (i : Nat) : w.cell? ⟨p, i, none⟩ = (devCells f m)[i]? := by
  simp only [World.cell?, h.hp]; simp
theorem Dev.frozen (h : Dev w p f m) (i : Nat) : w.frozen? ⟨p, i, none⟩ = false := by simp [World.frozen?, h.hp]
theorem Dev.c0 (h : Dev w p f m) : w.cell? ⟨p, 0, none⟩ = some (.slice (some ⟨f.bl, 0, none⟩) (8 * m.L) (8 * m.L)) := h.cell 0
theorem Dev.c1 (h : Dev w p f m) : w.cell? ⟨p, 1, none⟩ = some (.slice (some ⟨f.bn, 0, none⟩) (8 * m.L) (8 * m.L)) := h.cell 1
theorem Dev.c2 (h : Dev w p f m) : w.cell? ⟨p, 2, none⟩ = some (.slice (some ⟨f.bd, 0, none⟩) m.L m.L) := h.cell 2
theorem Dev.c3 (h : Dev w p f m) : w.cell? ⟨p, 3, none⟩ = some (.map (some f.bm)) := h.cell 3
theorem Dev.c4 (h : Dev w p f m) : w.cell? ⟨p, 4, none⟩ = some (.int .i64 f.left) := h.cell 4
theorem Dev.c5 (h : Dev w p f m) : w.cell? ⟨p, 5, none⟩ = some (.int .i64 m.steps) := h.cell 5
theorem Dev.c6 (h : Dev w p f m) : w.cell? ⟨p, 6, none⟩ = some (.bool m.dead) := h.cell 6

theorem Dev.neMap (h : Dev w p f m) {b t n : Nat} {g : Nat → Value} (hr : Row w b t n g) : b ≠ f.bm := by
  obtain ⟨es, c, hb, _⟩ := h.hm
  exact hr.neMap hb
theorem Dev.nep (h : Dev w p f m) {b t n : Nat} {g : Nat → Value} (hr : Row w b t n g) (ht : t ≠ 73) : b ≠ p := by
  rintro rfl
  obtain ⟨cs, hb, _⟩ := hr
  rw [h.hp] at hb; cases hb; exact ht rfl
theorem Dev.pm (h : Dev w p f m) : p ≠ f.bm := by
  intro e
  obtain ⟨es, c, hb, _⟩ := h.hm
  rw [← e, h.hp] at hb; cases hb
theorem Dev.lp (h : Dev w p f m) : f.bl ≠ p := h.nep h.hl (by decide)
theorem Dev.np (h : Dev w p f m) : f.bn ≠ p := h.nep h.hn (by decide)
theorem Dev.dp (h : Dev w p f m) : f.bd ≠ p := h.nep h.hd (by decide)
theorem Dev.ld (h : Dev w p f m) : f.bl ≠ f.bd := h.hl.ne h.hd (by decide)
theorem Dev.nd (h : Dev w p f m) : f.bn ≠ f.bd := h.hn.ne h.hd (by decide)
theorem Dev.lm (h : Dev w p f m) : f.bl ≠ f.bm := h.neMap h.hl
theorem Dev.nm (h : Dev w p f m) : f.bn ≠ f.bm := h.neMap h.hn
theorem Dev.dm (h : Dev w p f m) : f.bd ≠ f.bm := h.neMap h.hd
theorem Dev.own_lt (h : Dev w p f m) : p < w.heap.size ∧ f.bl < w.heap.size ∧ f.bn < w.heap.size ∧ f.bd < w.heap.size ∧ f.bm < w.heap.size :=
  ⟨h.ptr_lt, h.hl.lt, h.hn.lt, h.hd.lt, h.hm.lt⟩
theorem own_p (f : Fp) (p : Nat) : f.own p p := .inl rfl
theorem own_bl (f : Fp) (p : Nat) : f.own p f.bl := .inr (.inl rfl)
theorem own_bn (f : Fp) (p : Nat) : f.own p f.bn := .inr (.inr (.inl rfl))
theorem own_bd (f : Fp) (p : Nat) : f.own p f.bd := .inr (.inr (.inr (.inl rfl)))
theorem own_bm (f : Fp) (p : Nat) : f.own p f.bm := .inr (.inr (.inr (.inr (.inl rfl))))
theorem own_pb {f : Fp} {p b : Nat} (h : f.pb b) : f.own p b := .inr (.inr (.inr (.inr (.inr h))))

theorem grown_of_keep {S : Nat → Prop} (h : Keep S w w') {b : Nat} (hb : b < w.heap.size) (hS : ¬ S b) {n : Nat} {D : DataW Unit} (ho : w.ownsMap Tryd.prog 3 blkElem b n D) : w'.ownsMap Tryd.prog 3 blkElem b n D := by
  obtain ⟨es, c, h1, r⟩ := ho
  exact ⟨es, c, (h.block b hb hS).trans h1, r⟩

/-- A device stays what it is while other blocks turn. -/
theorem Dev.keep {S : Nat → Prop} (h : Dev w p f m) (hk : Keep S w w') (hS : ∀ b, b < w.heap.size → f.own p b → ¬ S b) : Dev w' p f m where
  hp := (hk.block p h.ptr_lt (hS _ h.ptr_lt (own_p f p))).trans h.hp
  hl := hk.row h.hl (hS _ h.hl.lt (own_bl f p))
  hn := hk.row h.hn (hS _ h.hn.lt (own_bn f p))
  hd := hk.row h.hd (hS _ h.hd.lt (own_bd f p))
  hm := grown_of_keep hk h.hm.lt (hS _ h.hm.lt (own_bm f p)) h.hm
  ne := h.ne
  pend := fun x hx => by
    obtain ⟨i, b, c, e1, e2, e3, e4, e5, e6, e7, e8⟩ := h.pend x hx
    exact ⟨i, b, c, e1, e2, e3, e4, hk.row e5 (hS _ e5.lt (own_pb e8)), e6, e7, e8⟩
  back := h.back
  hn' := h.hn'
  hf := h.hf
  hlo := h.hlo
  hL := h.hL
  hpb := fun b hb => Nat.lt_of_lt_of_le (h.hpb b hb) hk.size

/-- Behind a call on a device it is m'; nothing that isn't its own has turned. -/
def DevTo (p : Nat) (f : Fp) (m' : Mdl) (w w' : World) : Prop := ∃ f', Dev w' p f' m' ∧ Keep (f.own p) w w' ∧ ∀ b, f'.own p b → f.own p b ∨ w.heap.size ≤ b

theorem Dev.to (h : Dev w p f m) : DevTo p f m w w := ⟨f, h, Keep.refl _ _, fun b h => .inl h⟩
theorem DevTo.mk {f' : Fp} {m' : Mdl} (h : Dev w' p f' m') (hk : Keep (f.own p) w w') (ho : ∀ b, f'.own p b → f.own p b ∨ w.heap.size ≤ b) : DevTo p f m' w w' := ⟨f', h, hk, ho⟩
theorem keep_step {f1 : Fp} {w1 w2 : World} (k1 : Keep (f.own p) w w1) (o1 : ∀ b, f1.own p b → f.own p b ∨ w.heap.size ≤ b) (k2 : Keep (f1.own p) w1 w2) : Keep (f.own p) w w2 :=
  k1.trans k2 fun i hi h => (o1 i h).resolve_right (by omega)
theorem own_step {f1 f2 : Fp} {w1 : World} (k1 : Keep (f.own p) w w1) (o1 : ∀ b, f1.own p b → f.own p b ∨ w.heap.size ≤ b) (o2 : ∀ b, f2.own p b → f1.own p b ∨ w1.heap.size ≤ b) : ∀ b, f2.own p b → f.own p b ∨ w.heap.size ≤ b :=
  fun b h => (o2 b h).elim (o1 b) (fun h => .inr (Nat.le_trans k1.size h))
theorem DevTo.trans {f1 : Fp} {w1 w2 : World} {m2 : Mdl} (k1 : Keep (f.own p) w w1) (o1 : ∀ b, f1.own p b → f.own p b ∨ w.heap.size ≤ b) (h2 : DevTo p f1 m2 w1 w2) : DevTo p f m2 w w2 := by
  obtain ⟨f2, h, k2, o2⟩ := h2
  exact ⟨f2, h, keep_step k1 o1 k2, own_step k1 o1 o2⟩
theorem Dev.drewN (h : Dev w p f m) (n : Nat) : Dev (w.drewN n) p f m := ⟨h.hp, h.hl, h.hn, h.hd, h.hm, h.ne, h.pend, h.back, h.hn', h.hf, h.hlo, h.hL, h.hpb⟩
theorem Dev.alloc (h : Dev w p f m) (o : Obj) : Dev (w.alloc o) p f m := h.keep (S := fun _ => False) ((Keep.refl _ w).alloc o) (fun _ _ _ h => h)

/-- A field of the struct is written. -/
theorem Dev.field (h : Dev w p f m) (f' : Fp) (m' : Mdl) (i : Nat) (v : Value) (hc : (devCells f m).setIfInBounds i v = devCells f' m') (hbl : f'.bl = f.bl) (hbn : f'.bn = f.bn) (hbd : f'.bd = f.bd) (hbm : f'.bm = f.bm) (hD : f'.D = f.D) (hnn : f'.n = f.n) (hpb : f'.pb = f.pb)
    (hL : m'.L = m.L) (h1 : m'.last = m.last) (h2 : m'.now = m.now) (h3 : m'.dirty = m.dirty) (h4 : m'.wait = m.wait) (h5 : (f.n : Int) ≤ m'.steps) (h6 : max f'.left (-1) = m'.fuse) (h7 : -9223372036854775808 ≤ f'.left ∧ f'.left ≤ 9223372036854775807) : Dev (w.setCell ⟨p, i, none⟩ v) p f' m' where
  hp := by
    rw [← hc]; simp [World.setCell, Array.getElem?_modify, h.hp]
  hl := by rw [hbl, hL, h1]; exact h.hl.far h.lp v
  hn := by rw [hbn, hL, h2]; exact h.hn.far h.np v
  hd := by rw [hbd, hL, h3]; exact h.hd.far h.dp v
  hm := by rw [hbm, hnn, hD]; exact h.hm.setCell (fun e => h.pm e.symm) v
  ne := by rw [hbl, hbn]; exact h.ne
  pend := fun x hx => by
    rw [hD] at hx
    obtain ⟨i, b, c, e1, e2, e3, e4, e5, e6, e7, e8⟩ := h.pend x hx
    rw [hD, hL, h4, hbl, hbn, hpb]
    exact ⟨i, b, c, e1, e2, e3, e4, e5.far (h.nep e5 (by decide)) v, e6, e7, e8⟩
  back := by rw [h4, hD]; exact h.back
  hn' := by rw [hnn]; exact h5
  hf := h6
  hlo := h7
  hL := by rw [hL]; exact h.hL
  hpb := by rw [hpb]; intro b hb; have := h.hpb b hb; simp [World.setCell]; exact this

/-- A word is stored. -/
theorem Dev.setNow (h : Dev w p f m) (k : Nat) (x : Int) : Dev (w.setCell ⟨f.bn, k, none⟩ (.int .u64 x)) p f (setNow m k x) where
  hp := (Below.heap_setCell _ _ _ _ h.np.symm).trans h.hp
  hl := h.hl.far h.ne _
  hn := (h.hn.set k _).congr fun j _ => by simp only [Nv.setNow]; split <;> rfl
  hd := h.hd.far h.nd.symm _
  hm := h.hm.setCell (fun e => h.nm e.symm) _
  ne := h.ne
  pend := fun x hx => by
    obtain ⟨i, b, c, e1, e2, e3, e4, e5, e6, e7, e8⟩ := h.pend x hx
    exact ⟨i, b, c, e1, e2, e3, e4, e5.far e7 _, e6, e7, e8⟩
  back := h.back
  hn' := h.hn'
  hf := h.hf
  hlo := h.hlo
  hL := h.hL
  hpb := fun b hb => by have := h.hpb b hb; simp [World.setCell]; exact this

/-- A line's flag is stored. -/
theorem Dev.setDirty (h : Dev w p f m) (i : Nat) (b : Bool) : Dev (w.setCell ⟨f.bd, i, none⟩ (.bool b)) p f (setDirty m i b) where
  hp := (Below.heap_setCell _ _ _ _ h.dp.symm).trans h.hp
  hl := h.hl.far h.ld _
  hn := h.hn.far h.nd _
  hd := (h.hd.set i _).congr fun j _ => by simp only [Nv.setDirty]; split <;> rfl
  hm := h.hm.setCell (fun e => h.dm e.symm) _
  ne := h.ne
  pend := fun x hx => by
    obtain ⟨i, b, c, e1, e2, e3, e4, e5, e6, e7, e8⟩ := h.pend x hx
    exact ⟨i, b, c, e1, e2, e3, e4, e5.far (e5.ne h.hd (by decide)) _, e6, e7, e8⟩
  back := h.back
  hn' := h.hn'
  hf := h.hf
  hlo := h.hlo
  hL := h.hL
  hpb := fun b hb => by have := h.hpb b hb; simp [World.setCell]; exact this

theorem Dev.own_all (h : Dev w p f m) (b : Nat) (ho : f.own p b) : b < w.heap.size := by
  have := h.own_lt
  rcases ho with e | e | e | e | e | e
  · omega
  · omega
  · omega
  · omega
  · omega
  · exact h.hpb b e
theorem own_sub (f : Fp) (p : Nat) (w : World) : ∀ b, f.own p b → f.own p b ∨ w.heap.size ≤ b := fun _ h => .inl h
end

end Go.Proofs.YtaigocnnmjjhgaaDoor

namespace Go.Proofs.YtaigocnnmjjhgaaDoor
open Go.ChangeShapes Go.WideShapes Go.ChangeAt Go.RowKit Nv
set_option linter.unusedVariables false

theorem stops_false {m : Mdl} (h : stops m = false) : m.dead = false ∧ m.fuse ≠ 0 := by
  unfold stops at h; simpa using h
theorem stops_true {m : Mdl} (h : stops m = true) : m.dead = true ∨ m.fuse = 0 := by
  unfold stops at h; simpa using h

section
variable {w : World} {p : Nat} {f : Fp} {m : Mdl}

set_option maxHeartbeats 400000 in
theorem step_go (h : Dev w p f m) (hs : stops m = false) (hb : m.steps < 4611686018427387904) :
    Calls Tryd.prog 60 #[.pointer (some ⟨p, 0, none⟩)] w fun e w' => e = .returned (.bool true) ∧ ∃ f', Dev w' p f' (stepM m) ∧ Keep (f.own p) w w' ∧ (∀ b, f'.own p b → f.own p b ∨ w.heap.size ≤ b) ∧ f'.n = f.n := by
  obtain ⟨hdead, hfz⟩ := stops_false hs
  have c4 := h.c4
  have c5 := h.c5
  have c6 := h.c6
  rw [hdead] at c6
  have f4 := h.frozen 4
  have f5 := h.frozen 5
  have hf := h.hf
  have hlo := h.hlo
  have hn' := h.hn'
  have hlz : f.left ≠ 0 := fun e => hfz (by rw [← hf, e]; decide)
  have hst0 : 0 ≤ m.steps := by omega
  have H := Lib.hid h
  have HF := Lib.hid hf
  have HD := Lib.hid hdead
  clear h hf hdead hs
  have hle : ((f.left : Int) == 0) = false := by simpa using hlz
  obtain ⟨hlo1, hlo2⟩ := hlo
  by_cases hpos : 0 < f.left
  · go_enter Tryd.func60, Tryd.ntmps60
    go_wp2
    go_ret
    refine ⟨rfl, ?_⟩
    have hf := HF.out
    have h1 := H.out.field { f with left := f.left - 1 } { m with fuse := m.fuse - 1 } 4 (.int .i64 (f.left - 1)) rfl rfl rfl rfl rfl rfl rfl rfl rfl rfl rfl rfl rfl H.out.hn' (by simp only; omega) (by simp only; omega)
    have h2 := h1.field { f with left := f.left - 1 } (stepM m) 5 (.int .i64 (m.steps + 1)) rfl rfl rfl rfl rfl rfl rfl rfl rfl rfl rfl rfl rfl (by simp only [stepM]; omega) (by simp only [stepM]; rw [if_pos (by omega)]; omega) (by simp only; omega)
    exact ⟨_, h2, ((Keep.refl _ w).setCell (fun _ => own_p f p) _).setCell (fun _ => own_p f p) _, fun b h => .inl h, rfl⟩
  · go_enter Tryd.func60, Tryd.ntmps60
    go_wp2
    go_ret
    refine ⟨rfl, ?_⟩
    have hf := HF.out
    have h2 := H.out.field f (stepM m) 5 (.int .i64 (m.steps + 1)) rfl rfl rfl rfl rfl rfl rfl rfl rfl rfl rfl rfl rfl (by simp only [stepM]; omega) (by simp only [stepM]; rw [if_neg (by omega)]; omega) ⟨hlo1, hlo2⟩
    exact ⟨_, h2, (Keep.refl _ w).setCell (fun _ => own_p f p) _, fun b h => .inl h, rfl⟩

set_option maxHeartbeats 400000 in
theorem step_no (h : Dev w p f m) (hs : stops m = true) :
    Calls Tryd.prog 60 #[.pointer (some ⟨p, 0, none⟩)] w fun e w' => e = .returned (.bool false) ∧ DevTo p f (deadM m) w w' := by
  have c4 := h.c4
  have c6 := h.c6
  have f6 := h.frozen 6
  have H := Lib.hid h
  have hf := h.hf
  by_cases hl : f.left = 0
  · have hle : ((f.left : Int) == 0) = true := by simpa using hl
    clear h hl hs hf
    go_enter Tryd.func60, Tryd.ntmps60
    go_wp2
    go_ret
    refine ⟨rfl, ?_⟩
    have h2 := H.out.field f (deadM m) 6 (.bool true) rfl rfl rfl rfl rfl rfl rfl rfl rfl rfl rfl rfl rfl H.out.hn' H.out.hf H.out.hlo
    exact ⟨_, h2, (Keep.refl _ w).setCell (fun _ => own_p f p) _, fun b h => .inl h⟩
  · have hle : ((f.left : Int) == 0) = false := by simpa using hl
    have hd : m.dead = true := (stops_true hs).resolve_right (fun e => hl (by rw [e] at hf; omega))
    have hm : deadM m = m := by cases m; simp only at hd; subst hd; rfl
    rw [hd] at c6
    rw [hm]
    clear h hl hs hf hd hm
    go_enter Tryd.func60, Tryd.ntmps60
    go_wp2
    go_ret
    exact ⟨rfl, H.out.to⟩

theorem len_any (h : Dev w p f m) :
    Calls Tryd.prog 47 #[.pointer (some ⟨p, 0, none⟩)] w fun e w' => e = .returned (.int .i64 ((8 * m.L : Nat) : Int)) ∧ w = w' := by
  have c1 := h.c1
  have hL := h.hL
  clear h
  go_enter Tryd.func47, Tryd.ntmps47
  go_wp2
  go_ret
  exact ⟨by first | rfl | (apply ret_int; omega), rfl⟩

theorem lines_any (h : Dev w p f m) :
    Calls Tryd.prog 72 #[.pointer (some ⟨p, 0, none⟩)] w fun e w' => e = .returned (.int .i64 ((m.L : Nat) : Int)) ∧ w = w' := by
  have c2 := h.c2
  have hL := h.hL
  clear h
  go_enter Tryd.func72, Tryd.ntmps72
  go_wp2
  go_ret
  exact ⟨rfl, rfl⟩

theorem hasW_cast {m : Mdl} {a : Int} (h : hasW m a = true) : ∃ k : Nat, a = k ∧ k < 8 * m.L := by
  unfold hasW at h
  simp only [decide_eq_true_eq] at h
  exact ⟨a.toNat, by omega, by omega⟩
theorem hasL_cast {m : Mdl} {a : Int} (h : hasL m a = true) : ∃ k : Nat, a = k ∧ k < m.L := by
  unfold hasL at h
  simp only [decide_eq_true_eq] at h
  exact ⟨a.toNat, by omega, by omega⟩

set_option maxHeartbeats 400000 in
theorem hasWord_any (h : Dev w p f m) (a : Int) :
    Calls Tryd.prog 58 #[.pointer (some ⟨p, 0, none⟩), .int .i64 a] w fun e w' => e = .returned (.bool (hasW m a)) ∧ w = w' := by
  have hL := h.hL
  by_cases h0 : 0 ≤ a
  · go_enter Tryd.func58, Tryd.ntmps58
    go_wp2_with (go_at_call 47; refine (len_any h).mono ?_; rintro e w' ⟨rfl, rfl⟩)
    go_ret
    refine ⟨ret_bool ?_, rfl⟩
    unfold hasW
    rw [Bool.eq_iff_iff]; simp; omega
  · go_enter Tryd.func58, Tryd.ntmps58
    go_wp2_with fail
    go_ret
    refine ⟨ret_bool ?_, rfl⟩
    unfold hasW
    rw [Bool.eq_iff_iff]; simp; omega

set_option maxHeartbeats 400000 in
theorem hasLine_any (h : Dev w p f m) (a : Int) :
    Calls Tryd.prog 63 #[.pointer (some ⟨p, 0, none⟩), .int .i64 a] w fun e w' => e = .returned (.bool (hasL m a)) ∧ w = w' := by
  have hL := h.hL
  by_cases h0 : 0 ≤ a
  · go_enter Tryd.func63, Tryd.ntmps63
    go_wp2_with (go_at_call 72; refine (lines_any h).mono ?_; rintro e w' ⟨rfl, rfl⟩)
    go_ret
    refine ⟨ret_bool ?_, rfl⟩
    unfold hasL
    rw [Bool.eq_iff_iff]; simp; omega
  · go_enter Tryd.func63, Tryd.ntmps63
    go_wp2_with fail
    go_ret
    refine ⟨ret_bool ?_, rfl⟩
    unfold hasL
    rw [Bool.eq_iff_iff]; simp; omega

set_option maxHeartbeats 400000 in
theorem devGet_any (h : Dev w p f m) (a : Int) :
    Calls Tryd.prog 41 #[.pointer (some ⟨p, 0, none⟩), .int .i64 a] w fun e w' => e = .returned (.int .u64 (getNow m a)) ∧ w = w' := by
  have hL := h.hL
  have c1 := h.c1
  by_cases hw : hasW m a = true
  · have hg : getNow m a = m.now a.toNat := by unfold getNow; rw [if_pos hw]
    obtain ⟨k, rfl, hk⟩ := hasW_cast hw
    have ck := h.hn.cell hk
    have hk' : (k : Int) < ((8 * m.L : Nat) : Int) := by omega
    have HG := Lib.hid hg
    clear hg
    go_enter Tryd.func41, Tryd.ntmps41
    go_wp2_with (go_at_call 58; refine (hasWord_any h _).mono ?_; rintro e w' ⟨rfl, rfl⟩)
    go_ret
    exact ⟨ret_int HG.out.symm, rfl⟩
  · have hg : getNow m a = 0 := by unfold getNow; rw [if_neg hw]
    have HG := Lib.hid hg
    have hw' : hasW m a = false := by simpa using hw
    clear hg hw
    go_enter Tryd.func41, Tryd.ntmps41
    go_wp2_with (go_at_call 58; refine (hasWord_any h _).mono ?_; rintro e w' ⟨rfl, rfl⟩)
    go_ret
    exact ⟨ret_int HG.out.symm, rfl⟩

end

end Go.Proofs.YtaigocnnmjjhgaaDoor

namespace Go.Proofs.YtaigocnnmjjhgaaDoor
open Go.ChangeShapes Go.WideShapes Go.ChangeAt Go.RowKit Nv
set_option linter.unusedVariables false

theorem run_copy_cells {P : Program} {w : World} (dT sT ty elem : TypeId) (hu : P.underlying dT = some (.slice elem)) (hsz : (P.info? elem).map (·.size) = some 1)
    (dp sp : Option Addr) (dLen dCap sLen sCap b off n t : Nat) (f g : Nat → Value) (k : Nat) (hr : Row w b t n f) (hk : k = Nat.min sLen dLen)
    (hpos : 0 < k → dp = some ⟨b, off, none⟩ ∧ ∃ ad, sp = some ad ∧ ∀ j, j < k → w.cell? (ad.add j) = some (g j)) (hfit : off + k ≤ n) (h1 : ∀ j, (g j).oneCell' = true) :
    ∃ w', (Builtin.copy_ #[dT, sT] ty #[.slice dp dLen dCap, .slice sp sLen sCap]).run P w = .ok (goInt k) w' ∧ Row w' b t n (fun j => if off ≤ j ∧ j < off + k then g (j - off) else f j) ∧ Keep (fun i => i = b) w w' := by
  by_cases h0 : k = 0
  · subst h0
    refine ⟨w, by simpa using run_copy_none (P := P) w dT sT ty elem dp sp dLen dCap sLen sCap hu hsz hk.symm, hr.congr fun j _ => by rw [if_neg (by omega)], Keep.refl _ _⟩
  · obtain ⟨rfl, ad, rfl, hsrc⟩ := hpos (by omega)
    obtain ⟨cur, hb, hs, hc⟩ := id hr
    have hl : ((List.range k).map g).length = k := by simp
    have hrun := run_copy_row (P := P) w dT sT ty elem b off dLen dCap ad sLen sCap cur t ((List.range k).map g) hu hsz hb (by rw [hl]; exact hk)
      (fun j v hj => by
        have hjk : j < k := by
          have := (List.getElem?_eq_some_iff.1 hj).1
          rwa [hl] at this
        rw [hsrc j hjk]
        simp [List.getElem?_range hjk] at hj
        rw [hj]) (by rw [hl, hs]; exact hfit)
      (fun v hv => by obtain ⟨j, _, rfl⟩ := List.mem_map.1 hv; exact h1 j)
    refine ⟨w.setRow b (cur.toList.take off ++ ((List.range k).map g ++ cur.toList.drop (off + ((List.range k).map g).length))).toArray, by rw [hrun, hl, List.append_assoc], ?_, (Keep.refl (fun i => i = b) w).setRow (fun _ => rfl) _⟩
    refine (hr.laid off ((List.range k).map g) cur hb (by rw [hl]; exact hfit)).congr fun j hj => ?_
    simp only [hl]
    by_cases hin : off ≤ j ∧ j < off + k
    · rw [if_pos hin, if_pos hin, List.getD_eq_getElem?_getD, List.getElem?_map, List.getElem?_range (by omega)]; rfl
    · rw [if_neg hin, if_neg hin]

theorem wpList_copy_cells {P : Program} {w : World} {ops : Array Oper} {rest : List Oper} {o : Oper} {a : Act} {Q : Exit → Act → World → Prop} (hgd : o.guard = none) (d s : Operand) (dT sT : TypeId)
    (ho : o.op = .call { callee := .builtin .copy, args := #[d, s], argTypes := #[dT, sT] }) (elem : TypeId) (hu : P.underlying dT = some (.slice elem)) (hsz : (P.info? elem).map (·.size) = some 1)
    (dp sp : Option Addr) (dLen dCap sLen sCap : Nat) (hd : a.eval d = .slice dp dLen dCap) (hs : a.eval s = .slice sp sLen sCap)
    (b off n t : Nat) (f g : Nat → Value) (k : Nat) (hr : Row w b t n f) (hk : k = Nat.min sLen dLen)
    (hpos : 0 < k → dp = some ⟨b, off, none⟩ ∧ ∃ ad, sp = some ad ∧ ∀ j, j < k → w.cell? (ad.add j) = some (g j)) (hfit : off + k ≤ n) (h1 : ∀ j, (g j).oneCell' = true)
    (h : ∀ w', Row w' b t n (fun j => if off ≤ j ∧ j < off + k then g (j - off) else f j) → Keep (fun i => i = b) w w' → wpList P ops Q rest (a.put o.dst (goInt k)) w') : wpList P ops Q (o :: rest) a w := by
  refine wpList_plain hgd fun K hK => ?_
  obtain ⟨w', hrun, r1, r2⟩ := run_copy_cells (P := P) (w := w) dT sT o.type elem hu hsz dp sp dLen dCap sLen sCap b off n t f g k hr hk hpos hfit h1
  unfold Oper.wp
  simp [execOp, ho, resolve, invoke, builtin, hd, hs, hrun, Result.andThen]
  exact hK _ _ (h w' r1 r2)

theorem infoU64s : (Tryd.prog.info? 74).map (·.size) = some 1 := by kernel_rfl
theorem keyI : Go.Maps.Keyed Tryd.prog 3 := Go.Maps.int_keyed Tryd.underlying3
theorem zeroS (w : World) : (zeroValue 22).run Tryd.prog w = .ok (.slice none 0 0) w := by kernel_rfl

theorem mapDw (D : DataW Unit) {w : World} {b n : Nat} (h : w.ownsMap Tryd.prog 3 blkElem b n D) : Go.Maps.IsMap D := h.isMap

theorem isKey (x : Int) : WideAt.IsKeyLit (.int .i64 x) := trivial
theorem lit_ne {x i : Int} (h : x ≠ i) : (Lit.int .i64 x) ≠ Lit.int .i64 i := fun e => h (by cases e; rfl)

section
variable {w w' : World} {p : Nat} {f : Fp} {m : Mdl}

/-- What a line is pending with is stored in the map. -/
theorem Dev.setWait (h : Dev w p f m) {i b : Nat} {c : Nat → Int} (hi : i < m.L) (hr : Row w b 74 8 fun k => .int .u64 (c k)) (h1 : b ≠ f.bl) (h2 : b ≠ f.bn) (hn : (f.n : Int) + 1 ≤ m.steps)
    (ho : w'.ownsMap Tryd.prog 3 blkElem f.bm (f.n + 1) (f.D.put (.int .i64 i) (.lit (.int .u64 b)))) (hg : w.grownBy w' (some f.bm)) :
    Dev w' p { f with n := f.n + 1, D := f.D.put (.int .i64 i) (.lit (.int .u64 b)), pb := fun x => f.pb x ∨ x = b } (Nv.setWait m i (some c)) := by
  have hk : Keep (fun x => x = f.bm) w w' := Keep.ofGrown hg (by intro k hk; cases hk; rfl)
  refine ⟨(hk.block p h.ptr_lt h.pm).trans h.hp, hk.row h.hl h.lm, hk.row h.hn h.nm, hk.row h.hd h.dm, ho, h.ne, ?_, ?_, ?_, h.hf, h.hlo, h.hL, fun x hx => hx.elim (fun hx => Nat.lt_of_lt_of_le (h.hpb x hx) hk.size) (fun e => by rw [e]; exact Nat.lt_of_lt_of_le hr.lt hk.size)⟩
  · intro x hx
    by_cases e : x = i
    · subst e
      exact ⟨i, b, c, rfl, hi, by simp [Nv.setWait], fun zd => Go.Maps.atKey_put_same h.hm.isMap (isKey _) _ _, hk.row hr (h.neMap hr), h1, h2, .inr rfl⟩
    · simp only [Go.Maps.has_put_other (lit_ne e)] at hx
      obtain ⟨i', b', c', e1, e2, e3, e4, e5, e6, e7, e8⟩ := h.pend x hx
      refine ⟨i', b', c', e1, e2, ?_, fun zd => ?_, hk.row e5 (h.neMap e5), e6, e7, .inl e8⟩
      · simp only [Nv.setWait]; rw [if_neg (by rintro rfl; exact e e1)]; exact e3
      · simp only [Go.Maps.atKey_put_other (lit_ne e)]; exact e4 zd
  · intro i' c' hc
    simp only [Nv.setWait] at hc
    by_cases e : i' = i
    · subst e; exact Go.Maps.has_put_same h.hm.isMap (isKey _) _
    · rw [if_neg e] at hc
      simp only [Go.Maps.has_put_other (lit_ne (x := i') (i := i) (by omega))]
      exact h.back i' c' hc
  · simp only [Nv.setWait]; omega

/-- It is deleted from it. -/
theorem Dev.delWait (h : Dev w p f m) {i : Nat} (ho : w'.ownsMap Tryd.prog 3 blkElem f.bm f.n (f.D.del (.int .i64 i))) (hg : w.grownBy w' (some f.bm)) :
    Dev w' p { f with D := f.D.del (.int .i64 i) } (Nv.setWait m i none) := by
  have hk : Keep (fun x => x = f.bm) w w' := Keep.ofGrown hg (by intro k hk; cases hk; rfl)
  refine ⟨(hk.block p h.ptr_lt h.pm).trans h.hp, hk.row h.hl h.lm, hk.row h.hn h.nm, hk.row h.hd h.dm, ho, h.ne, ?_, ?_, h.hn', h.hf, h.hlo, h.hL, fun x hx => Nat.lt_of_lt_of_le (h.hpb x hx) hk.size⟩
  · intro x hx
    have e : x ≠ i := by
      rintro rfl
      simp only [Go.Maps.has_del_same] at hx; cases hx
    simp only [Go.Maps.has_del_other (lit_ne e)] at hx
    obtain ⟨i', b', c', e1, e2, e3, e4, e5, e6, e7, e8⟩ := h.pend x hx
    refine ⟨i', b', c', e1, e2, ?_, fun zd => ?_, hk.row e5 (h.neMap e5), e6, e7, e8⟩
    · simp only [Nv.setWait]; rw [if_neg (by rintro rfl; exact e e1)]; exact e3
    · simp only [Go.Maps.atKey_del_other (lit_ne e)]; exact e4 zd
  · intro i' c' hc
    simp only [Nv.setWait] at hc
    by_cases e : i' = i
    · subst e; rw [if_pos rfl] at hc; cases hc
    · rw [if_neg e] at hc
      simp only [Go.Maps.has_del_other (lit_ne (x := i') (i := i) (by omega))]
      exact h.back i' c' hc

/-- A line that lasts is copied over. -/
theorem Dev.laidLast (h : Dev w p f m) {i : Nat} {c : Nat → Int} (hi : i < m.L) (hk : Keep (fun x => x = f.bl) w w')
    (hr : Row w' f.bl 74 (8 * m.L) (fun j => if 8 * i ≤ j ∧ j < 8 * i + 8 then .int .u64 (c (j - 8 * i)) else .int .u64 (m.last j))) : Dev w' p f (setLast m i c) where
  hp := (hk.block p h.ptr_lt h.lp.symm).trans h.hp
  hl := hr.congr fun j _ => by
    simp only [Nv.setLast]
    by_cases e : j / 8 = i
    · rw [if_pos (by omega), if_pos e, show j - 8 * i = j % 8 from by omega]
    · rw [if_neg (by omega), if_neg e]
  hn := hk.row h.hn h.ne.symm
  hd := hk.row h.hd h.ld.symm
  hm := grown_of_keep hk h.hm.lt h.lm.symm h.hm
  ne := h.ne
  pend := fun x hx => by
    obtain ⟨i, b, c, e1, e2, e3, e4, e5, e6, e7, e8⟩ := h.pend x hx
    exact ⟨i, b, c, e1, e2, e3, e4, hk.row e5 e6, e6, e7, e8⟩
  back := h.back
  hn' := h.hn'
  hf := h.hf
  hlo := h.hlo
  hL := h.hL
  hpb := fun b hb => Nat.lt_of_lt_of_le (h.hpb b hb) hk.size
end

end Go.Proofs.YtaigocnnmjjhgaaDoor

namespace Go.Proofs.YtaigocnnmjjhgaaDoor
open Go.ChangeShapes Go.WideShapes Go.ChangeAt Go.RowKit Nv
set_option linter.unusedVariables false

theorem part_any (w : World) (b n cap i : Nat) (hi : 8 * i + 8 ≤ n) (hc : n ≤ cap) (hn : cap ≤ 1000000000) :
    Calls Tryd.prog 36 #[.slice (some ⟨b, 0, none⟩) n cap, .int .i64 i] w fun e w' => e = .returned (.slice (some ⟨b, 8 * i, none⟩) 8 8) ∧ w = w' := by
  have e1 : ((i : Int) * 8).toNat = 8 * i := by omega
  have e2 : ((i : Int) * 8 + 8).toNat = 8 * i + 8 := by omega
  have h1 : (i : Int) * 8 + 8 ≤ (n : Int) := by omega
  have h2 : (i : Int) * 8 + 8 ≤ (cap : Int) := by omega
  have h0 : 0 ≤ (i : Int) * 8 := by omega
  go_enter Tryd.func36, Tryd.ntmps36
  go_wp2
  go_ret
  exact ⟨rfl, rfl⟩

theorem eq8_true {f g : Nat → Int} (h : ∀ j, j < 8 → f j = g j) : eq8 f g = true := by
  unfold eq8; rw [List.all_eq_true]; intro j hj; simp only [List.mem_range] at hj; simpa using h j hj
theorem eq8_false {f g : Nat → Int} {j : Nat} (hj : j < 8) (h : f j ≠ g j) : eq8 f g = false := by
  unfold eq8; rw [List.all_eq_false]; exact ⟨j, by simpa using hj, by simpa using h⟩

set_option maxHeartbeats 400000 in
theorem equal_any (w : World) (b1 b2 o1 o2 : Nat) (c g : Nat → Int) (h1 : ∀ j, j < 8 → w.cell? ⟨b1, o1 + j, none⟩ = some (.int .u64 (c j))) (h2 : ∀ j, j < 8 → w.cell? ⟨b2, o2 + j, none⟩ = some (.int .u64 (g j))) :
    Calls Tryd.prog 64 #[.slice (some ⟨b1, o1, none⟩) 8 8, .slice (some ⟨b2, o2, none⟩) 8 8] w fun e w' => e = .returned (.bool (eq8 c g)) ∧ ∃ n, w' = w.drewN n := by
  have H1 := Lib.hid h1
  have H2 := Lib.hid h2
  clear h1 h2
  go_enter Tryd.func64, Tryd.ntmps64
  go_wp2
  go_loopw [5, 13] (fun _ i wr => ∃ k n : Nat, k ≤ 8 ∧ i = .int .i64 k ∧ (∀ j, j < k → c j = g j) ∧ wr = w.drewN n) (fun _ i _ => 8 - (intOf i).toNat)
  case atStart => exact ⟨0, 0, by omega, rfl, by intro j hj; omega, rfl⟩
  case round =>
    obtain ⟨k, n, hk, rfl, heq, rfl⟩ := hrel
    have HE := Lib.hid heq
    clear heq
    by_cases hlt : k < 8
    · have c1 := H1.out k hlt
      have c2 := H2.out k hlt
      have hlt' : (k : Int) < 8 := by omega
      have hk0 : (0 : Int) ≤ (k : Int) := by omega
      by_cases hx : c k = g k
      · rw [← hx] at c2
        have HX := Lib.hid hx
        clear hx
        generalize c k = x at c1 c2
        go_wp2_with fail
        go_quiet (fail)
        go_wp2_with fail
        go_roundw
        case rel =>
          refine ⟨k + 1, _, by omega, by go_num, fun j hj => ?_, rfl⟩
          rcases Nat.lt_succ_iff_lt_or_eq.1 hj with h | rfl
          · exact HE.out j h
          · exact HX.out
        case measure => simp [intOf]; omega
      · have hf := eq8_false hlt hx
        generalize c k = x at c1 hx
        generalize g k = y at c2 hx
        have hxy : ((x : Int) != y) = true := by simpa using hx
        have HF := Lib.hid hf
        clear hf hx
        go_wp2_with fail
        go_quiet (fail)
        go_wp2_with fail
        go_ret
        exact ⟨ret_bool HF.out.symm, _, World.drewN_drewN _ _ _⟩
    · have hlt' : ¬ (k : Int) < 8 := by omega
      obtain rfl : k = 8 := by omega
      have ht := eq8_true HE.out
      have HT := Lib.hid ht
      clear ht
      go_wp2_with fail
      go_ret
      exact ⟨ret_bool HT.out.symm, _, rfl⟩

section
variable {w : World} {p : Nat} {f : Fp} {m : Mdl}

def CodeTo (p : Nat) (f : Fp) (r : Mdl × Int) (w : World) (e : Ending) (w' : World) : Prop := e = .returned (.int .i64 r.2) ∧ DevTo p f r.1 w w'

set_option maxHeartbeats 400000 in
theorem store_any (h : Dev w p f m) (a x : Int) (hb : m.steps < 4611686018427387904) :
    Calls Tryd.prog 45 #[.pointer (some ⟨p, 0, none⟩), .int .i64 a, .int .u64 x] w (CodeTo p f (Nv.store m a x) w) := by
  have hL := h.hL
  by_cases hw : hasW m a = true
  · obtain ⟨k, rfl, hk⟩ := hasW_cast hw
    cases hs : stops m
    · have hr : Nv.store m k x = (Nv.setDirty (Nv.setNow (stepM m) k x) (k / 8) true, 0) := by unfold Nv.store; rw [if_neg (by rw [hw]; decide), if_neg (by rw [hs]; decide)]; rfl
      rw [hr]
      clear hr
      go_enter Tryd.func45, Tryd.ntmps45
      go_wp2_with fail
      refine (hasWord_any h _).mono ?_
      rintro e w' ⟨rfl, rfl⟩
      go_wp2_with fail
      refine (step_go h hs hb).mono ?_
      rintro e w1 ⟨rfl, f1, h1, k1, o1, -⟩
      have hs' := Lib.hid hs
      clear hs
      have c1 := h1.c1
      have e1 : w1.frozen? ⟨f1.bn, k, none⟩ = false := h1.hn.frozen k
      have h2 := h1.setNow k x
      have c2 := h2.c2
      have e2 := h2.hd.frozen (k / 8)
      have hkL : k / 8 < m.L := by omega
      have hc1 : w1.cell? ⟨f1.bn, k, none⟩ = some (.int .u64 ((stepM m).now k)) := h1.hn.cell (by exact hk)
      have hc2 := h2.hd.cell (k := k / 8) (by exact hkL)
      have HL : (stepM m).L = m.L := rfl
      have HL2 : (Nv.setNow (stepM m) k x).L = m.L := rfl
      rw [HL] at c1
      rw [HL2] at c2
      have hk' : (k : Int) < ((8 * m.L : Nat) : Int) := by omega
      have hkL' : (k : Int) / 8 < ((m.L : Nat) : Int) := by omega
      have hk0 : (0 : Int) ≤ (k : Int) / 8 := by omega
      have hkn : ((k : Int) / 8).toNat = k / 8 := by omega
      have h3 := h2.setDirty (k / 8) true
      have H3 := Lib.hid h3
      have K1 := Lib.hid k1
      have O1 := Lib.hid o1
      have H0 := Lib.hid h
      clear h3 h2 h1 k1 o1 HL HL2 h hw
      go_wp2_with fail
      go_ret
      exact ⟨rfl, _, H3.out, (K1.out.setCell (fun hl => (O1.out _ (own_bn f1 p)).resolve_right (Nat.not_le.2 hl)) _).setCell (fun hl => (O1.out _ (own_bd f1 p)).resolve_right (Nat.not_le.2 hl)) _, O1.out⟩
    · have hr : Nv.store m k x = (deadM m, 3) := by unfold Nv.store; rw [if_neg (by rw [hw]; decide), if_pos hs]
      rw [hr]
      clear hr
      go_enter Tryd.func45, Tryd.ntmps45
      go_wp2_with fail
      refine (hasWord_any h _).mono ?_
      rintro e w' ⟨rfl, rfl⟩
      go_wp2_with fail
      refine (step_no h hs).mono ?_
      rintro e w1 ⟨rfl, h1⟩
      have H1 := Lib.hid h1
      clear h1 hs hw h
      go_wp2_with fail
      go_ret
      exact ⟨rfl, H1.out⟩
  · have hw' : hasW m a = false := by simpa using hw
    have hr : Nv.store m a x = (m, 2) := by unfold Nv.store; rw [if_pos hw']
    rw [hr]
    clear hr hw
    go_enter Tryd.func45, Tryd.ntmps45
    go_wp2_with fail
    refine (hasWord_any h _).mono ?_
    rintro e w' ⟨rfl, rfl⟩
    go_wp2_with fail
    go_ret
    exact ⟨rfl, h.to⟩

theorem makeLine (w : World) : (Instr.makeSlice 22 (.int .i64 8) (.int .i64 8)).run Tryd.prog w = .ok (.slice (some ⟨w.heap.size, 0, none⟩) 8 8) (w.alloc (.cells #[.int .u64 0, .int .u64 0, .int .u64 0, .int .u64 0, .int .u64 0, .int .u64 0, .int .u64 0, .int .u64 0] 74)) := by kernel_rfl

set_option maxHeartbeats 400000 in
theorem flush_any (h : Dev w p f m) (a : Int) (hb : m.steps < 4611686018427387904) :
    Calls Tryd.prog 49 #[.pointer (some ⟨p, 0, none⟩), .int .i64 a] w (CodeTo p f (Nv.flush m a) w) := by
  have hL := h.hL
  by_cases hw : hasL m a = true
  · obtain ⟨k, rfl, hk⟩ := hasL_cast hw
    have hk' : (k : Int) < ((m.L : Nat) : Int) := by omega
    cases hs : stops m
    · have hr : Nv.flush m k = (flushM m k, 0) := by unfold Nv.flush; rw [if_neg (by rw [hw]; decide), if_neg (by rw [hs]; decide)]; rfl
      rw [hr]
      clear hr
      cases hd : m.dirty k
      · have hfm : flushM m k = stepM m := by unfold flushM; rw [if_neg (by rw [hd]; decide)]
        rw [hfm]
        clear hfm
        go_enter Tryd.func49, Tryd.ntmps49
        go_wp2_with fail
        refine (hasLine_any h _).mono ?_
        rintro e w' ⟨rfl, rfl⟩
        go_wp2_with fail
        refine (step_go h hs hb).mono ?_
        rintro e w1 ⟨rfl, f1, h1, k1, o1, -⟩
        have c2 : w1.cell? ⟨p, 2, none⟩ = some (.slice (some ⟨f1.bd, 0, none⟩) m.L m.L) := h1.c2
        have hc := h1.hd.cell (k := k) (by exact hk)
        rw [show (stepM m).dirty k = m.dirty k from rfl, hd] at hc
        have T := Lib.hid (DevTo.mk h1 k1 o1)
        clear h1 k1 o1 h hs hd
        go_wp2_with fail
        go_ret
        exact ⟨rfl, T.out⟩
      · have hfm : flushM m k = Nv.setWait (stepM m) k (some (lineOf m.now k)) := by unfold flushM; rw [if_pos hd]
        rw [hfm]
        clear hfm
        have hmk := makeLine
        have hst := h.hn'
        go_enter Tryd.func49, Tryd.ntmps49
        go_wp2_with fail
        refine (hasLine_any h _).mono ?_
        rintro e w' ⟨rfl, rfl⟩
        go_wp2_with fail
        refine (step_go h hs hb).mono ?_
        rintro e w1 ⟨rfl, f1, h1, k1, o1, hn1⟩
        have c2 : w1.cell? ⟨p, 2, none⟩ = some (.slice (some ⟨f1.bd, 0, none⟩) m.L m.L) := h1.c2
        have hc := h1.hd.cell (k := k) (by exact hk)
        rw [show (stepM m).dirty k = m.dirty k from rfl, hd] at hc
        have h2 := h1.alloc (.cells #[.int .u64 0, .int .u64 0, .int .u64 0, .int .u64 0, .int .u64 0, .int .u64 0, .int .u64 0, .int .u64 0] 74)
        have r2 : Row (w1.alloc (.cells #[.int .u64 0, .int .u64 0, .int .u64 0, .int .u64 0, .int .u64 0, .int .u64 0, .int .u64 0, .int .u64 0] 74)) w1.heap.size 74 8 (fun _ => .int .u64 0) :=
          Row.new w1 _ _ 8 _ rfl (fun k hk => by match k, hk with | 0, _ | 1, _ | 2, _ | 3, _ | 4, _ | 5, _ | 6, _ | 7, _ => rfl)
        have k2 := k1.alloc (.cells #[.int .u64 0, .int .u64 0, .int .u64 0, .int .u64 0, .int .u64 0, .int .u64 0, .int .u64 0, .int .u64 0] 74)
        have c1 : (w1.alloc (.cells #[.int .u64 0, .int .u64 0, .int .u64 0, .int .u64 0, .int .u64 0, .int .u64 0, .int .u64 0, .int .u64 0] 74)).cell? ⟨p, 1, none⟩ = some (.slice (some ⟨f1.bn, 0, none⟩) (8 * m.L) (8 * m.L)) := h2.c1
        have HN1 := Lib.hid hn1
        have HH := Lib.hid (And.intro h1 (And.intro h2 (And.intro r2 (And.intro k1 (And.intro k2 o1)))))
        have H0 := Lib.hid h
        clear h1 h2 r2 k1 k2 o1 h hs hd hn1
        go_wp2_with fail
        refine (part_any _ f1.bn (8 * m.L) (8 * m.L) k (by omega) (by omega) (by omega)).mono ?_
        rintro e w' ⟨rfl, rfl⟩
        obtain ⟨h1, h2, r2, k1, k2, o1⟩ := HH.out
        have hpos : ∀ j, j < 8 → (w1.alloc (.cells #[.int .u64 0, .int .u64 0, .int .u64 0, .int .u64 0, .int .u64 0, .int .u64 0, .int .u64 0, .int .u64 0] 74)).cell? ((⟨f1.bn, 8 * k, none⟩ : Addr).add j) = some (.int .u64 (m.now (8 * k + j))) :=
          fun j hj => by rw [addr_add]; exact h2.hn.cell (k := 8 * k + j) (by show _ < 8 * m.L; omega)
        have HP := Lib.hid hpos
        have R2 := Lib.hid r2
        have hmax : f1.n < maxLen := by rw [HN1.out]; unfold maxLen; omega
        have hkey : keyOf Tryd.prog 3 (.int .i64 k) = some (.int .i64 k) := Go.Maps.keyOf_int_mk Tryd.underlying3 (WalkArith.wf_i64 (by omega))
        have HK := Lib.hid hkey
        have hsup : ∀ w2, Keep (fun i => i = w1.heap.size) (w1.alloc (.cells #[.int .u64 0, .int .u64 0, .int .u64 0, .int .u64 0, .int .u64 0, .int .u64 0, .int .u64 0, .int .u64 0] 74)) w2 → Dev w2 p f1 (stepM m) :=
          fun w2 k3 => h2.keep k3 (fun b hb ho e => by have := h1.own_all b ho; omega)
        have HS := Lib.hid hsup
        clear h1 h2 r2 k1 k2 o1 hpos hkey hsup
        go_wp2_with (first
          | ((with_reducible refine wpList_copy_cells rfl _ _ 22 22 rfl 74 Tryd.underlying22 infoU64s _ _ 8 8 8 8 rfl rfl w1.heap.size 0 8 74 _ (fun j => .int .u64 (m.now (8 * k + j))) 8 R2.out rfl (fun _ => ⟨rfl, _, rfl, HP.out⟩) (by omega) (fun _ => rfl) ?_); intro w2 r3 k3; have h3 := HS.out w2 k3; have c3 := h3.c3; have H3 := Lib.hid h3; have R3 := Lib.hid r3; have K3 := Lib.hid k3; clear h3 r3 k3)
          | (at_mapUpdate; refine wpList_mapUpdate_own _ rfl _ _ _ 71 rfl 3 22 keyI Tryd.underlying71 blkElem f1.bm f1.n f1.D rfl H3.out.hm hmax _ _ _ rfl rfl HK.out _ [] (blkElem_mk w1.heap.size) ?_; intro w4 ho4 hg4; have HO := Lib.hid ho4; have HG := Lib.hid hg4; clear ho4 hg4))
        go_ret
        obtain ⟨h1, h2, r2, k1, k2, o1⟩ := HH.out
        have h3 := H3.out
        have r3 := R3.out
        have hst' : (f1.n : Int) + 1 ≤ (stepM m).steps := by rw [HN1.out]; show _ ≤ m.steps + 1; omega
        have hlt := h1.own_lt
        have h4 := h3.setWait (c := lineOf m.now k) (i := k) (by exact hk) (r3.congr fun j hj => by rw [if_pos (by omega)]; rfl) (by omega) (by omega) hst' HO.out HG.out
        refine ⟨rfl, _, h4, (k2.trans K3.out fun i hi e => by have := k1.size; omega).trans (Keep.ofGrown (S := fun i => i = f1.bm) HG.out (by intro b hb; cases hb; rfl)) fun i hi e => ?_, fun b hb => ?_⟩
        · subst e; exact (o1 _ (own_bm f1 p)).resolve_right (by omega)
        · have hz := k1.size
          rcases hb with e | e | e | e | e | e | e
          · exact .inl (.inl e)
          · exact o1 b (.inr (.inl e))
          · exact o1 b (.inr (.inr (.inl e)))
          · exact o1 b (.inr (.inr (.inr (.inl e))))
          · exact o1 b (.inr (.inr (.inr (.inr (.inl e)))))
          · exact o1 b (own_pb e)
          · right; omega
    · have hr : Nv.flush m k = (deadM m, 3) := by unfold Nv.flush; rw [if_neg (by rw [hw]; decide), if_pos hs]
      rw [hr]
      clear hr
      go_enter Tryd.func49, Tryd.ntmps49
      go_wp2_with fail
      refine (hasLine_any h _).mono ?_
      rintro e w' ⟨rfl, rfl⟩
      go_wp2_with fail
      refine (step_no h hs).mono ?_
      rintro e w1 ⟨rfl, h1⟩
      have H1 := Lib.hid h1
      clear h1 hs hw h
      go_wp2_with fail
      go_ret
      exact ⟨rfl, H1.out⟩
  · have hw' : hasL m a = false := by simpa using hw
    have hr : Nv.flush m a = (m, 2) := by unfold Nv.flush; rw [if_pos hw']
    rw [hr]
    clear hr hw
    go_enter Tryd.func49, Tryd.ntmps49
    go_wp2_with fail
    refine (hasLine_any h _).mono ?_
    rintro e w' ⟨rfl, rfl⟩
    go_wp2_with fail
    go_ret
    exact ⟨rfl, h.to⟩
end

end Go.Proofs.YtaigocnnmjjhgaaDoor

namespace Go.Proofs.YtaigocnnmjjhgaaDoor
open Go.ChangeShapes Go.WideShapes Go.ChangeAt Go.RowKit
set_option linter.unusedVariables false

/-- In the world w1 the box at block b holds v; nothing below B has turned since w. -/
structure Box1 (B : Nat) (w : World) (b : Nat) (v : Value) (w1 : World) : Prop where
  below : Below B w w1
  cell : w1.cell? ⟨b, 0, none⟩ = some v
  lt : b < w1.heap.size
  ge : B ≤ w1.heap.size

theorem box1_cell (w : World) (v : Value) (t : TypeId) : (w.alloc (.cells #[v] t)).cell? ⟨w.heap.size, 0, none⟩ = some v := by
  simp [go_sem]

theorem Box1.new {w0 w w1 : World} {B : Nat} {v : Value} {t : TypeId} (h : Below B w0 w) (hB : B ≤ w.heap.size) (b : Below (w.alloc (.cells #[v] t)).heap.size (w.alloc (.cells #[v] t)) w1) : Box1 B w0 w.heap.size v w1 := by
  have e1 : (w.alloc (.cells #[v] t)).heap.size = w.heap.size + 1 := by simp
  have hs := b.size
  exact ⟨(h.alloc hB _).trans (b.mono (by omega)), (b.cell (p := ⟨w.heap.size, 0, none⟩) (by rw [e1]; exact Nat.lt_succ_self _)).trans (box1_cell _ _ _), by omega, by omega⟩

theorem Box1.on {w0 w1 w2 : World} {B b : Nat} {v : Value} (h : Box1 B w0 b v w1) (b2 : Below w1.heap.size w1 w2) : Box1 B w0 b v w2 :=
  ⟨h.below.trans (b2.mono h.ge), (b2.cell (p := ⟨b, 0, none⟩) h.lt).trans h.cell, Nat.lt_of_lt_of_le h.lt b2.size, Nat.le_trans h.ge b2.size⟩

theorem Box1.drewN {w0 w1 : World} {B b : Nat} {v : Value} (h : Box1 B w0 b v w1) (n : Nat) : Box1 B w0 b v (w1.drewN n) :=
  ⟨below_drewN h.below n, by simpa using h.cell, by simpa using h.lt, by simpa using h.ge⟩

end Go.Proofs.YtaigocnnmjjhgaaDoor

namespace Go.Proofs.YtaigocnnmjjhgaaDoor
open Go.ChangeShapes Go.WideShapes Go.ChangeAt Go.RowKit Bk Bh Nv
set_option linter.unusedVariables false

/-- A device stays what it is behind calls that make memory. -/
theorem Dev.below {w w' : World} {p : Nat} {f : Fp} {m : Mdl} (h : Dev w p f m) (hb : Below w.heap.size w w') : Dev w' p f m :=
  h.keep (S := fun _ => False) (Keep.ofBelow hb) (fun _ _ _ h => h)

theorem sz3 (a b c d e f : Value) : (#[a, b, c] : Array Value).size = (#[d, e, f] : Array Value).size := rfl

set_option maxHeartbeats 1000000 in
theorem blkLoad_zero (p n : Value) (w : World) :
    Calls Tryd.prog 26 #[p, .agg #[n], .int .i64 0] w (MadeOne (.tuple #[.agg #[.int .i64 0, .int .i64 0, .int .i64 0], .int .i64 0]) w) := by
  have B0 := Lib.hid (fun o o' => ((Below.refl w.heap.size w).alloc (Nat.le_refl _) o).alloc (by simp) o')
  go_enter Tryd.func26, Tryd.ntmps26
  go_wp2_with fail
  exact bodyPost_ret (results_boxT2 rfl _ _ (w.heap.size + 1) #[.int .i64 0, .int .i64 0, .int .i64 0] (.int .i64 0) rfl (by have := BoxT.new 48 (w.alloc (.cells #[n] 25)) #[.int .i64 0, .int .i64 0, .int .i64 0]; rwa [World.size_alloc] at this) Tryd.underlying48 rfl info3 rfl) rfl ⟨rfl, B0.out _ _⟩

set_option maxHeartbeats 1000000 in
theorem blkLoad_at {w : World} {p : Nat} {f : Fp} {m : Mdl} (h : Dev w p f m) (n b : Nat) (hv : ∀ j, 256 < j → j < 256 + n → 0 ≤ m.now j ∧ m.now j < 2 ^ 64) (hb1 : 1 ≤ b) (hbn : b < n) (hn : n ≤ 256) (hL : 512 * n ≤ 8 * m.L) (hT : HasRests w) :
    Calls Tryd.prog 26 #[.pointer (some ⟨p, 0, none⟩), .agg #[.int .i64 n], .int .i64 b] w (HeadTells (m.now (256 + b)).toNat (256 + b) w) := by
  have B0 : Hid (∀ o o', Below w.heap.size w ((w.alloc o).alloc o')) := Lib.hid (fun o o' => ((Below.refl w.heap.size w).alloc (Nat.le_refl _) o).alloc (by simp) o')
  have HG : Hid (∀ W, Below w.heap.size w W → Calls Tryd.prog 41 #[.pointer (some ⟨p, 0, none⟩), .int .i64 (256 + (b : Int))] W fun e w' => e = .returned (.int .u64 (m.now (256 + b)).toNat) ∧ W = w') := Lib.hid fun W hW => by
    have := devGet_any (h.below hW) (256 + (b : Int))
    have e1 : hasW m (256 + (b : Int)) = true := by unfold hasW; simp; omega
    unfold getNow at this
    rw [if_pos e1] at this
    rwa [show (256 + (b : Int)).toNat = 256 + b by omega, show (m.now (256 + b)) = (((m.now (256 + b)).toNat : Nat) : Int) by have := (hv (256 + b) (by omega) (by omega)).1; omega] at this
  have HD : Hid (∀ W, Below w.heap.size w W → Calls Tryd.prog 40 #[.int .i64 b, .int .u64 (m.now (256 + b)).toNat] W (HeadTells (m.now (256 + b)).toNat (256 + b) W)) := Lib.hid fun W hW =>
    headDec_any b (256 + (b : Int)) _ (256 + b) W (by have := hv (256 + b) (by omega) (by omega); omega) (by unfold wrap64; omega) (by rw [IntKind.wrap_u64]; omega) (by omega) (hT.below hW (Nat.le_refl _))
  have HH : Hid (∀ W, Calls Tryd.prog 33 #[.agg #[.int .i64 n], .int .i64 b] W fun e w' => e = .returned (.int .i64 (256 + (b : Int))) ∧ Below W.heap.size W w') := Lib.hid fun W => by
    have := geoHeader_any (n : Int) (b : Int) W (by omega)
    unfold headerG at this
    rwa [if_pos (by omega)] at this
  unfold HeadTells at HD ⊢
  have hn1 : ¬ (b : Int) < 1 := by omega
  generalize codeN (m.now (256 + b)).toNat (256 + b) = code at *
  generalize okK (m.now (256 + b)).toNat (256 + b) = kk at *
  generalize okC (m.now (256 + b)).toNat (256 + b) = kc at *
  generalize okL (m.now (256 + b)).toNat (256 + b) = kl at *
  generalize (m.now (256 + b)).toNat = x at *
  clear h hv hT
  go_enter Tryd.func26, Tryd.ntmps26
  go_wp2_with fail
  refine (HH.out _).mono ?_
  rintro e w1 ⟨rfl, hb⟩
  obtain ⟨-, b1, k1, -⟩ := boxT_of2 hb
  have B1 := Lib.hid b1
  have K1 := Lib.hid k1
  clear hb b1 k1
  obtain ⟨g, hg⟩ : ∃ g, g = w.heap.size + 1 := ⟨_, rfl⟩
  have HG1 : Hid (w.heap.size ≤ g) := Lib.hid (by omega)
  rw [← hg] at B1
  simp only [← hg]
  clear hg
  go_wp2_with fail
  refine (HG.out _ K1.out).mono ?_
  rintro e w' ⟨rfl, rfl⟩
  go_wp2_with fail
  refine (HD.out _ K1.out).mono ?_
  rintro e w2 ⟨rfl, hb⟩
  have B2 := Lib.hid (B1.out.below hb B1.out.lt)
  have K2 : Hid (Below w.heap.size w w2) := Lib.hid (K1.out.trans (hb.mono K1.out.size))
  clear hb B1 K1
  go_wp2_with (first
    | (show wpList _ _ _ ((Oper.mk _ (Op.store _ (.tmp 6) (.tmp 18)) _ _ _ _) :: _) _ _; refine wpList_store_boxT rfl _ _ _ rfl (b := g) (cells := #[.int .i64 kk, .int .i64 kc, .int .i64 kl]) rfl rfl B2.out info3 (sz3 _ _ _ _ _ _) (one3 _ _ _) ?_)
    | fail)
  exact bodyPost_ret (results_boxT2 rfl _ _ g #[.int .i64 kk, .int .i64 kc, .int .i64 kl] (.int .i64 code) rfl (B2.out.row _) Tryd.underlying48 rfl info3 rfl) rfl ⟨rfl, below_setRow K2.out HG1.out _⟩

end Go.Proofs.YtaigocnnmjjhgaaDoor

namespace Go.Proofs.YtaigocnnmjjhgaaDoor
open Go.ChangeShapes Go.WideShapes Go.ChangeAt Go.RowKit Nv
set_option linter.unusedVariables false

theorem fenced_none {m : Mdl} {p : Nat → Bool} (h : ∀ i, p i = false) : fenced m p = m := by
  simp [fenced, h]
theorem fenced_p {m : Mdl} {p q : Nat → Bool} (h : ∀ i, p i = q i) : fenced m p = fenced m q := by rw [funext h]
theorem fenced_step {m : Mdl} {p : Nat → Bool} {i : Nat} {c : Nat → Int} (hc : m.wait i = some c) :
    Nv.setDirty (Nv.setLast (fenced m p) i c) i (!eq8 c (lineOf m.now i)) = fenced m fun j => if j = i then true else p j := by
  simp only [fenced, Nv.setDirty, Nv.setLast, Mdl.mk.injEq, true_and, and_true]
  refine ⟨funext fun j => ?_, funext fun j => ?_⟩
  · by_cases e : j / 8 = i
    · rw [if_pos e, if_pos (by rw [if_pos e]), e, hc]
    · simp [e]
  · by_cases e : j = i
    · rw [if_pos e, if_pos (by rw [if_pos e]), e, hc]
    · simp [e]
theorem fenced_end {m : Mdl} {p : Nat → Bool} (h : ∀ i, p i = false → m.wait i = none) : noWait (fenced m p) = noWait (fenced m fun _ => true) := by
  simp only [fenced, noWait, Mdl.mk.injEq, true_and, and_true]
  refine ⟨funext fun j => ?_, funext fun j => ?_⟩
  · by_cases e : p (j / 8) = true
    · simp [e]
    · simp [e, h _ (by simpa using e)]
  · by_cases e : p j = true
    · simp [e]
    · simp [e, h _ (by simpa using e)]

/-- The step of a range over what is pending. -/
theorem wpList_next_dev {P : Program} {w : World} {ops : Array Oper} {rest : List Oper} {o : Oper} {a : Act} {Q : Exit → Act → World → Prop} (hg : o.guard = none) (it : Operand) (hop : o.op = Op.next it false) (k : TypeId) (K : Go.Maps.Keyed P k) (hk : P.underlying k = some (.int .i64))
    (b r n : Nat) (D : DataW Unit) (left : Lit → Bool) (cnt : Nat) (hit : a.eval it = .pointer (some ⟨r, 0, none⟩)) (h : w.ranges P k blkElem b r n D left cnt)
    (hpend : ∀ x : Int, left (.int .i64 x) = true → ∃ i b : Nat, x = i ∧ ∀ zd, D.atKey (.int .i64 x) zd = .lit (.int .u64 b))
    (hDone : cnt = 0 → (∀ kl, left kl = false) → wpList P ops Q rest (a.put o.dst (.tuple #[.bool false])) w)
    (hMore : ∀ (i b' : Nat) (w' : World) (cnt' : Nat), left (.int .i64 i) = true → (∀ zd, D.atKey (.int .i64 i) zd = .lit (.int .u64 b')) → w'.ranges P k blkElem b r n D (fun z => left z && !z.sameKey (.int .i64 i)) cnt' → cnt' < cnt →
      w.grownBy w' (some r) → w'.heap.size = w.heap.size → (Instr.entry (.pointer (some ⟨r, 0, none⟩))).run P w' = .ok (.tuple #[.int .i64 i, .slice (some ⟨b', 0, none⟩) 8 8]) w' →
      wpList P ops Q rest (a.put o.dst (.tuple #[.bool true, .int .i64 i, .slice (some ⟨b', 0, none⟩) 8 8])) w') :
    wpList P ops Q (o :: rest) a w := by
  refine wpList_next_ranges w hg it hop k K blkElem (Value.int .i64) (fun v : Value => v) (fun key kl hkey => by obtain ⟨x, rfl, _⟩ := Go.Maps.keyOf_int_inv hk hkey; exact ⟨x, rfl⟩) (fun v y _ => ⟨v, rfl⟩) b r n D left cnt hit h hDone ?_
  intro x v kl y w' cnt' hkey hlk hv hat hrg hlt hgr hsz hen
  obtain ⟨x', ex, rfl, hwx⟩ := Go.Maps.keyOf_int_inv hk hkey
  cases ex
  obtain ⟨i, b', rfl, hat'⟩ := hpend x hlk
  obtain ⟨y1, y2⟩ := y
  obtain rfl : y1 = .lit (.int .u64 b') := (hat .nil).symm.trans (hat' .nil)
  obtain rfl := blkElem_lit hv
  exact hMore i b' w' cnt' hlk hat' hrg hlt hgr hsz hen

theorem ranges_of_keep {S : Nat → Prop} {w w' : World} (hk : Keep S w w') {k : TypeId} {b r n cnt : Nat} {D : DataW Unit} {left : Lit → Bool} (hb : ¬ S b) (hr : ¬ S r) (h : w.ranges Tryd.prog k blkElem b r n D left cnt) : w'.ranges Tryd.prog k blkElem b r n D left cnt := by
  have h1 := h.owns.lt
  have h2 := h.lt
  obtain ⟨es, clock, since, seen, c0', q1, q2, q3, q4, q5, q6⟩ := h
  exact ⟨es, clock, since, seen, c0', (hk.block _ h1 hb).trans q1, q2, q3, q4, (hk.block _ h2 hr).trans q5, q6⟩

section
variable {w : World} {p : Nat} {f : Fp} {m : Mdl}

/-- A new map in the place of the old one. -/
theorem Dev.newMap (h : Dev w p f m) (hst : 0 ≤ m.steps) : Dev ((w.alloc (.map #[] 0)).setCell ⟨p, 3, none⟩ (.map (some w.heap.size))) p { f with bm := w.heap.size, n := 0, D := .map [], pb := fun _ => False } (noWait m) := by
  have ha := h.alloc (.map #[] 0)
  have hm := (World.ownsMap_made w Tryd.prog 3 blkElem)
  have hlt := h.own_lt
  refine ⟨?_, ha.hl.far ha.lp _, ha.hn.far ha.np _, ha.hd.far ha.dp _, hm.setCell (a := ⟨p, 3, none⟩) (by show w.heap.size ≠ p; omega) _, h.ne, ?_, ?_, by simpa [noWait] using hst, h.hf, h.hlo, h.hL, fun _ h => h.elim⟩
  · have := ha.hp
    simp [World.setCell, Array.getElem?_modify, this, devCells, noWait]
  · intro x hx; simp [Go.Maps.has] at hx
  · intro i c hc; simp [noWait] at hc

/-- Those that are fenced: that were there, and are no more to come. -/
def gone (D : DataW Unit) (left : Lit → Bool) : Nat → Bool := fun i => Go.Maps.has D (.int .i64 i) && !left (.int .i64 i)

theorem gone_step {D : DataW Unit} {left : Lit → Bool} {i : Nat} (hh : Go.Maps.has D (.int .i64 i) = true) : ∀ j, (if j = i then true else gone D left j) = gone D (fun z => left z && !z.sameKey (.int .i64 i)) j := by
  intro j
  unfold gone
  by_cases e : j = i
  · subst e
    have e := WideAt.sameKey_self (isKey j)
    rw [if_pos rfl, hh]; simp [e]
  · have e' := Go.Maps.sameKey_ne (lit_ne (x := j) (i := i) (by omega))
    rw [if_neg e]; simp [e']

set_option maxHeartbeats 1000000 in
set_option maxRecDepth 100000 in
theorem fence_any (h : Dev w p f m) (hb : m.steps < 4611686018427387904) :
    Calls Tryd.prog 50 #[.pointer (some ⟨p, 0, none⟩)] w (CodeTo p f (Nv.fence m) w) := by
  have hL := h.hL
  cases hs : stops m
  · have hr : Nv.fence m = (fenceM m, 0) := by unfold Nv.fence; rw [if_neg (by rw [hs]; decide)]
    rw [hr]
    clear hr
    have hmm := @run_makeMap Tryd.prog
    have hst0 : 0 ≤ m.steps := by have := h.hn'; omega
    go_enter Tryd.func50, Tryd.ntmps50
    go_wp2_with fail
    refine (step_go h hs hb).mono ?_
    rintro e w1 ⟨rfl, f1, h1, k1, o1, -⟩
    have c3 := h1.c3
    have H1 := Lib.hid h1
    have HM := Lib.hid h1.hm
    have K1 := Lib.hid k1
    have O1 := Lib.hid o1
    clear h1 k1 o1 h hs
    go_wp2_with (first
      | (at_range; refine wpList_range_own _ rfl _ 71 rfl 3 22 keyI Tryd.underlying71 blkElem f1.bm f1.n f1.D rfl HM.out ?_; intro w0 hrg0 hg0 hs0))
    go_frame
    go_loopw [3, 4] (fun _ _ wr => ∃ (left : Lit → Bool) (cnt : Nat), wr.ranges Tryd.prog 3 blkElem f1.bm w1.heap.size f1.n f1.D left cnt ∧ (∀ x, left (.int .i64 x) = true → Go.Maps.has f1.D (.int .i64 x) = true) ∧ Dev wr p f1 (fenced (stepM m) (gone f1.D left)) ∧ Keep (f1.own p) w1 wr)
      (fun _ _ wr => wr.rangeLeft f1.bm w1.heap.size)
    case atStart =>
      refine ⟨_, _, hrg0, fun x hx => hx, ?_, Keep.ofGrown hg0 (by intro k hk; cases hk)⟩
      rw [fenced_none (fun i => by unfold gone; cases Go.Maps.has f1.D (.int .i64 i) <;> rfl)]
      exact H1.out.keep (S := fun _ => False) (Keep.ofGrown hg0 (by intro k hk; cases hk)) (fun _ _ _ h => h)
    case round =>
      obtain ⟨left, cnt, hrg, hhas, hd, hk⟩ := hrel
      have hpend : ∀ x : Int, left (.int .i64 x) = true → ∃ i b : Nat, x = i ∧ ∀ zd, f1.D.atKey (.int .i64 x) zd = .lit (.int .u64 b) := fun x hx => by
        obtain ⟨i, b, _, e1, _, _, e4, _⟩ := hd.pend x (hhas x hx)
        exact ⟨i, b, e1, e4⟩
      have HR := Lib.hid hrg
      have HH := Lib.hid hhas
      have HD := Lib.hid hd
      have HK := Lib.hid hk
      have HP := Lib.hid hpend
      clear hrg hhas hd hk hpend hrg0 hg0 hs0
      go_wp2_with (first
        | (at_next; refine wpList_next_dev rfl _ rfl 3 keyI Tryd.underlying3 f1.bm w1.heap.size f1.n f1.D _ _ rfl HR.out HP.out ?_ ?_))
      · intro _ hl0
        have c3 := HD.out.c3
        have f3 := HD.out.frozen 3
        have hlt := HD.out.ptr_lt
        have HL0 := Lib.hid hl0
        clear hl0
        go_wp2_with fail
        go_ret
        have hd := HD.out
        have hn := hd.newMap (by show 0 ≤ m.steps + 1; omega)
        have hE : noWait (fenced (stepM m) (gone f1.D left)) = fenceM m := fenced_end fun i hi => by
          cases hw : (stepM m).wait i with
          | none => rfl
          | some c =>
            have h1 := H1.out.back i c hw
            unfold gone at hi
            rw [h1, HL0.out] at hi
            cases hi
        rw [hE] at hn
        have hz := K1.out.size
        have hz2 := HK.out.size
        rw [World.setCell_alloc_past _ _ _ _ hd.ptr_lt] at hn
        refine ⟨rfl, _, hn, ((K1.out.trans HK.out fun i hi e => (O1.out _ e).resolve_right (by omega)).setCell (fun _ => own_p f p) _).alloc _, fun x hx => ?_⟩
        rcases hx with e | e | e | e | e | e
        · exact .inl (.inl e)
        · exact O1.out x (.inr (.inl e))
        · exact O1.out x (.inr (.inr (.inl e)))
        · exact O1.out x (.inr (.inr (.inr (.inl e))))
        · right; rw [e]; show _ ≤ wr.heap.size; omega
        · exact e.elim
      · intro i b w5 cnt1 hl hat hrg1 hlt hg1 hs1 hen
        have hne : ∀ x, f1.own p x → ¬ x = w1.heap.size := fun x ho e => by subst e; have := H1.out.own_all _ ho; omega
        have HNE := Lib.hid hne
        have h5 : Dev w5 p f1 (fenced (stepM m) (gone f1.D left)) := HD.out.keep (Keep.ofGrown (S := fun x => x = w1.heap.size) hg1 (by intro k hk; cases hk; rfl)) (fun x hx ho e => hne x ho e)
        obtain ⟨i', b', c, e1, hi, hwt, e4, hrb, hbl, hbn, hpb⟩ := h5.pend i (HH.out i hl)
        obtain rfl : i' = i := by omega
        obtain rfl : b' = b := by have := (hat .nil).symm.trans (e4 .nil); simp at this; omega
        have hwt' : (stepM m).wait i' = some c := hwt
        have hi' : i' < m.L := hi
        have hii : (i' : Int) < ((m.L : Nat) : Int) := by omega
        have c0 : w5.cell? ⟨p, 0, none⟩ = some (.slice (some ⟨f1.bl, 0, none⟩) (8 * m.L) (8 * m.L)) := h5.c0
        have hsrc : ∀ j, j < 8 → w5.cell? ((⟨b', 0, none⟩ : Addr).add j) = some (.int .u64 (c j)) := fun j hj => by rw [addr_add, Nat.zero_add]; exact hrb.cell hj
        have hrow : Row w5 f1.bl 74 (8 * m.L) (fun k => .int .u64 ((fenced (stepM m) (gone f1.D left)).last k)) := h5.hl
        have hsup : ∀ w6, Row w6 f1.bl 74 (8 * m.L) (fun j => if 8 * i' ≤ j ∧ j < 8 * i' + 8 then .int .u64 (c (j - 8 * i')) else .int .u64 ((fenced (stepM m) (gone f1.D left)).last j)) → Keep (fun x => x = f1.bl) w5 w6 →
            Dev w6 p f1 (Nv.setLast (fenced (stepM m) (gone f1.D left)) i' c) ∧ w6.ranges Tryd.prog 3 blkElem f1.bm w1.heap.size f1.n f1.D (fun z => left z && !z.sameKey (.int .i64 i')) cnt1 ∧ Row w6 b' 74 8 (fun k => .int .u64 (c k)) := fun w6 hr hk => by
          have hlb := h5.lm
          have hlr : f1.bl ≠ w1.heap.size := hne _ (own_bl f1 p)
          refine ⟨h5.laidLast hi hk hr, ?_, hk.row hrb hbl⟩
          exact ranges_of_keep hk hlb.symm (fun e => hlr e.symm) hrg1
        have H5 := Lib.hid h5
        have HS := Lib.hid hsup
        have HC := Lib.hid hsrc
        have HW := Lib.hid hrow
        have HWT := Lib.hid hwt'
        have HG1 := Lib.hid hg1
        have HZ := Lib.hid hs1
        have HLE := Lib.hid hlt
        have HHAS := Lib.hid (HH.out i' hl)
        clear h5 hsup hsrc hrow hwt hwt' hg1 hs1 hlt hrg1 hat hl e1 e4 hrb hbl hbn hpb hne
        go_wp2_with fail
        refine (part_any _ f1.bl (8 * m.L) (8 * m.L) i' (by omega) (by omega) (by omega)).mono ?_
        rintro e w' ⟨rfl, rfl⟩
        go_wp2_with ((with_reducible refine wpList_copy_cells rfl _ _ 22 22 rfl 74 Tryd.underlying22 infoU64s _ _ 8 8 8 8 rfl rfl f1.bl (8 * i') (8 * m.L) 74 _ (fun j => .int .u64 (c j)) 8 HW.out rfl (fun _ => ⟨rfl, _, rfl, HC.out⟩) (by omega) (fun _ => rfl) ?_); intro w6 r6 k6; have H6 := Lib.hid (HS.out w6 r6 k6); have K6 := Lib.hid k6; clear r6 k6)
        obtain ⟨h6, hrg6, hrb6⟩ := H6.out
        have c1 : w6.cell? ⟨p, 1, none⟩ = some (.slice (some ⟨f1.bn, 0, none⟩) (8 * m.L) (8 * m.L)) := h6.c1
        have c2 : w6.cell? ⟨p, 2, none⟩ = some (.slice (some ⟨f1.bd, 0, none⟩) m.L m.L) := h6.c2
        have e2 := h6.hd.frozen i'
        have hc2 := h6.hd.cell (k := i') (by exact hi')
        have hdp : p ≠ f1.bd := h6.dp.symm
        have hdp' : f1.bd ≠ p := h6.dp
        have hE := equal_any w6.drew b' f1.bn 0 (8 * i') c (lineOf m.now i') (fun j hj => by rw [Nat.zero_add]; exact hrb6.cell hj) (fun j hj => h6.hn.cell (k := 8 * i' + j) (by show _ < 8 * m.L; omega))
        have HE := Lib.hid hE
        clear h6 hrg6 hrb6 hE
        go_region_held3 (fun w' => w'.cell? ⟨p, 1, none⟩ = some (.slice (some ⟨f1.bn, 0, none⟩) (8 * m.L) (8 * m.L)) ∧ w'.cell? ⟨p, 2, none⟩ = some (.slice (some ⟨f1.bd, 0, none⟩) m.L m.L)) (go_keep)
          (first
            | (go_at_call 36; refine (part_any _ f1.bn (8 * m.L) (8 * m.L) i' (by omega) (by omega) (by omega)).mono ?_; rintro e w' ⟨rfl, rfl⟩)
            | (go_at_call 64; refine HE.out.mono ?_; rintro e w' ⟨rfl, nq, rfl⟩))
        go_wp2_with fail
        go_roundw
        case rel =>
          obtain ⟨h6, hrg6, hrb6⟩ := H6.out
          have hk7 : Keep (fun x => x = f1.bd) w6 ((w6.drewN (1 + nq)).setCell ⟨f1.bd, i', none⟩ (.bool !eq8 c (lineOf m.now i'))) := ((Keep.refl (fun x => x = f1.bd) w6).drewN _).setCell (fun _ => rfl) _
          have h7 := (h6.drewN (1 + nq)).setDirty i' (!eq8 c (lineOf m.now i'))
          rw [show (Nv.setDirty (Nv.setLast (fenced (stepM m) (gone f1.D left)) i' c) i' (!eq8 c (lineOf m.now i'))) = _ from fenced_step (m := stepM m) HWT.out, fenced_p (gone_step HHAS.out)] at h7
          refine ⟨_, cnt1, ranges_of_keep hk7 h6.dm.symm (fun e => HNE.out _ (own_bd f1 p) e.symm) hrg6, fun x hx => HH.out x (by simp at hx; exact hx.1), h7, ?_⟩
          have k5 := HK.out.trans (Keep.ofGrown (S := fun x => x = w1.heap.size) HG1.out (by intro k hk; cases hk; rfl)) (fun i hi e => by omega)
          have k6 := k5.trans K6.out (fun i hi e => by subst e; exact own_bl f1 p)
          exact k6.trans hk7 (fun i hi e => by subst e; exact own_bd f1 p)
        case measure =>
          obtain ⟨h6, hrg6, hrb6⟩ := H6.out
          have hk7 : Keep (fun x => x = f1.bd) w6 ((w6.drewN (1 + nq)).setCell ⟨f1.bd, i', none⟩ (.bool !eq8 c (lineOf m.now i'))) := ((Keep.refl (fun x => x = f1.bd) w6).drewN _).setCell (fun _ => rfl) _
          rw [(ranges_of_keep hk7 h6.dm.symm (fun e => HNE.out _ (own_bd f1 p) e.symm) hrg6).left_eq, HR.out.left_eq]
          exact HLE.out
  · have hr : Nv.fence m = (deadM m, 3) := by unfold Nv.fence; rw [if_pos hs]
    rw [hr]
    clear hr
    go_enter Tryd.func50, Tryd.ntmps50
    go_wp2_with fail
    refine (step_no h hs).mono ?_
    rintro e w1 ⟨rfl, h1⟩
    have H1 := Lib.hid h1
    clear h1 hs h
    go_wp2_with fail
    go_ret
    exact ⟨rfl, H1.out⟩
end

end Go.Proofs.YtaigocnnmjjhgaaDoor

namespace Go.Proofs.YtaigocnnmjjhgaaDoor
open Go.ChangeShapes Go.WideShapes Go.ChangeAt Go.RowKit Bt
set_option linter.unusedVariables false

/-- n pieces of size s, rounded up. -/
def upS (n s : Int) : Int := if n ≤ 0 ∨ s ≤ 0 then 0 else (n - 1) / s + 1

theorem upS_of (n s : Int) (h : 0 < n) (hs : 0 < s) : upS n s = (n - 1) / s + 1 := by
  unfold upS; rw [if_neg (by omega)]

theorem div_le_self' (n s : Int) (h : 0 ≤ n) : n / s ≤ n := Int.ediv_le_self s h

set_option maxHeartbeats 400000 in
theorem up_any (n s : Int) (w : World) (h1 : -9223372036854775808 ≤ n) (h2 : n ≤ 9223372036854775807) :
    Calls Tryd.prog 30 #[.int .i64 n, .int .i64 s] w fun e w' => e = .returned (.int .i64 (upS n s)) ∧ w = w' := by
  by_cases hn : n ≤ 0
  · have hu : upS n s = 0 := by unfold upS; rw [if_pos (Or.inl hn)]
    have hb : decide (n ≤ 0) = true := by simpa using hn
    have HU := Lib.hid hu
    clear hu
    go_enter Tryd.func30, Tryd.ntmps30
    go_wp2
    go_ret
    exact ⟨ret_int HU.out.symm, rfl⟩
  · by_cases hs : s ≤ 0
    · have hu : upS n s = 0 := by unfold upS; rw [if_pos (Or.inr hs)]
      have hb : decide (n ≤ 0) = false := by simpa using hn
      have hc : decide (s ≤ 0) = true := by simpa using hs
      have HU := Lib.hid hu
      clear hu
      go_enter Tryd.func30, Tryd.ntmps30
      go_wp2
      go_ret
      exact ⟨ret_int HU.out.symm, rfl⟩
    · have hu := upS_of n s (by omega) (by omega)
      have h3 := div_le_self' (n - 1) s (by omega)
      have h4 : 0 ≤ (n - 1) / s := Int.ediv_nonneg (by omega) (by omega)
      have hn' : 1 ≤ n := by omega
      have hs' : 1 ≤ s := by omega
      have hb : decide (n ≤ 0) = false := by simpa using hn
      have hc : decide (s ≤ 0) = false := by simpa using hs
      have HU := Lib.hid hu
      clear hu
      go_enter Tryd.func30, Tryd.ntmps30
      go_wp2
      go_ret
      exact ⟨ret_int HU.out.symm, rfl⟩

end Go.Proofs.YtaigocnnmjjhgaaDoor
