/- ohead: Decode; the reference's Decode. -/
import Derived.Test.YtdhakfkcenfdoaaDoorObjEnc
namespace Go.Proofs.YtdhakfkcenfdoaaDoor
open Go.ChangeShapes Go.WideShapes Go.ChangeAt Go.RowKit Oh Bt Cr
set_option linter.unusedVariables false

/-- What a word tells at an address. -/
def ObjTells (x a : Nat) (w : World) (e : Ending) (w' : World) : Prop := e = .returned (.tuple #[.agg #[.int .i64 (okP x a : Nat), .int .i64 (okD x a : Nat)], .int .i64 (codeO x a : Nat)]) ∧ Below w.heap.size w w'

set_option maxHeartbeats 1000000 in
theorem objDec_any (q : Int) (x a : Nat) (w : World) (hx : x < 2 ^ 64) (hp : IntKind.u64.wrap q = (a : Int)) (hp64 : a < 2 ^ 64) (hT : HasRests w) :
    Calls Tryd.prog 7 #[.int .i64 q, .int .u64 x] w (ObjTells x a w) := by
  have HT := Lib.hid hT
  have HP := Lib.hid hp
  have B0 := Lib.hid (fun o => (Below.refl w.heap.size w).alloc (Nat.le_refl _) o)
  have hm : x % 4294967296 < 4294967296 := Nat.mod_lt _ (by decide)
  clear hT hp
  by_cases h1 : sealN (x % 4294967296) a = x
  rotate_left
  · have HO : Hid (∀ w, HasRests w → Calls Tryd.prog 20 #[.int .u64 x, .int .i64 q] w fun e w' => e = .returned (.tuple #[.int .u32 0, .bool false]) ∧ Below w.heap.size w w') := Lib.hid fun w h => by
      have := open_any x a w hx h q HP.out hp64
      unfold OpenIs at this
      simpa only [if_neg h1] using this
    have hc : codeO x a = 25 := by unfold codeO; rw [if_neg h1]
    have HR : Hid (okP x a = 0 ∧ okD x a = 0 ∧ codeO x a = 25) := Lib.hid (by unfold okP okD; rw [hc]; simp)
    clear h1 hc hm
    go_enter Tryd.func7, Tryd.ntmps7
    go_wp2_with fail
    refine (HO.out _ (HT.out.below (B0.out _) (Nat.le_refl _))).mono ?_
    rintro e W ⟨rfl, hb⟩
    obtain ⟨b1, hb, s1⟩ := boxT_of1 hb
    have HB := Lib.hid hb
    have B1 := Lib.hid b1
    clear hb b1
    go_wp2_with (first
      | (refine wpList_store_boxT rfl _ _ _ rfl (b := w.heap.size) (cells := #[.int .i64 0, .int .i64 0]) rfl rfl B1.out infoO rfl (oneO _ _) ?_)
      | fail)
    exact bodyPost_ret (results_boxT2 rfl _ _ w.heap.size _ (.int .i64 25) rfl (B1.out.row _) Tryd.underlying23 rfl infoO rfl) rfl ⟨by rw [HR.out.1, HR.out.2.1, HR.out.2.2]; rfl, below_setRow HB.out (Nat.le_refl _) _⟩
  generalize hmm : x % 4294967296 = m at *
  have HM := Lib.hid hmm
  have HO : Hid (∀ w, HasRests w → Calls Tryd.prog 20 #[.int .u64 x, .int .i64 q] w fun e w' => e = .returned (.tuple #[.int .u32 m, .bool true]) ∧ Below w.heap.size w w') := Lib.hid fun w h => by
    have := open_any x a w hx h q HP.out hp64
    unfold OpenIs at this
    rw [HM.out] at this
    simpa only [if_pos h1] using this
  have hc : codeO x a = if encO (pOf m) (dOf m) a = x then 0 else 26 := by unfold codeO; rw [HM.out, if_pos h1]
  have HK : Hid (codeO x a = 0 → okP x a = pOf m ∧ okD x a = dOf m) := Lib.hid fun h => by unfold okP okD; rw [if_pos h, if_pos h, HM.out]; exact ⟨rfl, rfl⟩
  have HK' : Hid (codeO x a ≠ 0 → okP x a = 0 ∧ okD x a = 0) := Lib.hid fun h => by unfold okP okD; rw [if_neg h, if_neg h]; exact ⟨rfl, rfl⟩
  have HE : Hid (∀ w, HasRests w → Calls Tryd.prog 9 #[.agg #[.int .i64 (pOf m : Nat), .int .i64 (dOf m : Nat)], .int .i64 q] w (MadeOne (.int .u64 (encO (pOf m) (dOf m) a : Nat)) w)) := Lib.hid fun w h => objEnc_any q a _ _ w HP.out hp64 h
  have HH : Hid (∀ w, Calls Tryd.prog 21 #[.int .u32 m] w (MadeOne (.agg #[.int .i64 (pOf m : Nat), .int .i64 (dOf m : Nat)]) w)) := Lib.hid fun w => objectOf_any m w hm
  have hy := encO_lt (pOf m) (dOf m) a
  generalize encO (pOf m) (dOf m) a = y at hc HE hy
  generalize pOf m = k at *
  generalize dOf m = c at *
  clear h1 hmm
  go_enter Tryd.func7, Tryd.ntmps7
  go_wp2_with fail
  refine (HO.out _ (HT.out.below (B0.out _) (Nat.le_refl _))).mono ?_
  rintro e W ⟨rfl, hb⟩
  obtain ⟨b1, hb, s1⟩ := boxT_of1 hb
  have HB := Lib.hid hb
  have B1 := Lib.hid b1
  clear hb b1
  go_wp2_with fail
  refine (HH.out _).mono ?_
  rintro e W2 ⟨rfl, hb⟩
  have b2 := (B1.out.below hb B1.out.lt).alloc (.cells #[.int .i64 k, .int .i64 c] 23)
  have n2 := BoxT.new 23 W2 #[.int .i64 k, .int .i64 c]
  have k2 := (below_step HB.out hb (Nat.le_refl _)).alloc (Nat.le_trans HB.out.size hb.size) (.cells #[.int .i64 k, .int .i64 c] 23)
  have s2 := hb.size
  have s3 := HB.out.size
  have hne : w.heap.size ≠ W2.heap.size := by omega
  clear hb s2 s3
  go_wp2_with fail
  generalize W2.alloc (.cells #[.int .i64 k, .int .i64 c] 23) = V at b2 n2 k2 ⊢
  generalize W2.heap.size = g at n2 hne ⊢
  have B2 := Lib.hid b2
  have N2 := Lib.hid n2
  have K2 := Lib.hid k2
  have HNE := Lib.hid hne
  clear b2 n2 k2 hne
  refine (HE.out _ (HT.out.below K2.out (Nat.le_refl _))).mono ?_
  rintro e W3 ⟨rfl, hb⟩
  have B3 := Lib.hid (B2.out.below hb B2.out.lt)
  have n3 := N2.out.below hb N2.out.lt
  have K3 := Lib.hid (below_step K2.out hb (Nat.le_refl _))
  have N3 := Lib.hid n3
  clear hb
  by_cases hg : y = x
  · rw [if_pos hg] at hc
    subst hg
    have HC := Lib.hid hc
    clear hc
    go_wp2_with (first
      | (refine wpList_load_boxT rfl _ _ rfl (b := g) rfl N3.out Tryd.underlying23 rfl infoO ?_)
      | (refine wpList_store_boxT rfl _ _ _ rfl (b := w.heap.size) (cells := #[.int .i64 k, .int .i64 c]) rfl rfl B3.out infoO rfl (oneO _ _) ?_)
      | fail)
    exact bodyPost_ret (results_boxT2 rfl _ _ w.heap.size _ (.int .i64 0) rfl (B3.out.row _) Tryd.underlying23 rfl infoO rfl) rfl ⟨by rw [(HK.out HC.out).1, (HK.out HC.out).2, HC.out]; rfl, below_setRow K3.out (Nat.le_refl _) _⟩
  · rw [if_neg hg] at hc
    have hd : ((y : Int) == (x : Int)) = false := by simp; omega
    have hd' : ((y : Int) != (x : Int)) = true := by simp; omega
    have HC := Lib.hid hc
    have HC' : Hid (codeO x a ≠ 0) := Lib.hid (by rw [hc]; decide)
    clear hc hg
    go_wp2_with (first
      | (refine wpList_store_boxT rfl _ _ _ rfl (b := w.heap.size) (cells := #[.int .i64 0, .int .i64 0]) rfl rfl B3.out infoO rfl (oneO _ _) ?_)
      | fail)
    exact bodyPost_ret (results_boxT2 rfl _ _ w.heap.size _ (.int .i64 26) rfl (B3.out.row _) Tryd.underlying23 rfl infoO rfl) rfl ⟨by rw [(HK'.out HC'.out).1, (HK'.out HC'.out).2, HC.out]; rfl, below_setRow K3.out (Nat.le_refl _) _⟩

set_option maxHeartbeats 1000000 in
theorem refObjDec_any (q : Int) (x a : Nat) (w : World) (hx : x < 2 ^ 64) (hp : IntKind.u64.wrap q = (a : Int)) (hp64 : a < 2 ^ 64) :
    Calls Tryd.prog 8 #[.int .i64 q, .int .u64 x] w (ObjTells x a w) := by
  have HP := Lib.hid hp
  have B0 := Lib.hid (fun o => (Below.refl w.heap.size w).alloc (Nat.le_refl _) o)
  have hm : x % 4294967296 < 4294967296 := Nat.mod_lt _ (by decide)
  clear hp
  by_cases h1 : sealN (x % 4294967296) a = x
  rotate_left
  · have HO : Hid (∀ w, Calls Tryd.prog 22 #[.int .u64 x, .int .i64 q] w fun e w' => e = .returned (.tuple #[.int .u32 0, .bool false]) ∧ Below w.heap.size w w') := Lib.hid fun w => by
      have := refOpen_any x a w hx q HP.out hp64
      unfold OpenIs at this
      simpa only [if_neg h1] using this
    have hc : codeO x a = 25 := by unfold codeO; rw [if_neg h1]
    have HR : Hid (okP x a = 0 ∧ okD x a = 0 ∧ codeO x a = 25) := Lib.hid (by unfold okP okD; rw [hc]; simp)
    clear h1 hc hm
    go_enter Tryd.func8, Tryd.ntmps8
    go_wp2_with fail
    refine (HO.out _).mono ?_
    rintro e W ⟨rfl, hb⟩
    obtain ⟨b1, hb, s1⟩ := boxT_of1 hb
    have HB := Lib.hid hb
    have B1 := Lib.hid b1
    clear hb b1
    go_wp2_with (first
      | (refine wpList_store_boxT rfl _ _ _ rfl (b := w.heap.size) (cells := #[.int .i64 0, .int .i64 0]) rfl rfl B1.out infoRO rfl (oneO _ _) ?_)
      | fail)
    exact bodyPost_ret (results_boxT2 rfl _ _ w.heap.size _ (.int .i64 25) rfl (B1.out.row _) Tryd.underlying29 rfl infoRO rfl) rfl ⟨by rw [HR.out.1, HR.out.2.1, HR.out.2.2]; rfl, below_setRow HB.out (Nat.le_refl _) _⟩
  generalize hmm : x % 4294967296 = m at *
  have HM := Lib.hid hmm
  have HO : Hid (∀ w, Calls Tryd.prog 22 #[.int .u64 x, .int .i64 q] w fun e w' => e = .returned (.tuple #[.int .u32 m, .bool true]) ∧ Below w.heap.size w w') := Lib.hid fun w => by
    have := refOpen_any x a w hx q HP.out hp64
    unfold OpenIs at this
    rw [HM.out] at this
    simpa only [if_pos h1] using this
  have hc : codeO x a = if encO (pOf m) (dOf m) a = x then 0 else 26 := by unfold codeO; rw [HM.out, if_pos h1]
  have HK : Hid (codeO x a = 0 → okP x a = pOf m ∧ okD x a = dOf m) := Lib.hid fun h => by unfold okP okD; rw [if_pos h, if_pos h, HM.out]; exact ⟨rfl, rfl⟩
  have HK' : Hid (codeO x a ≠ 0 → okP x a = 0 ∧ okD x a = 0) := Lib.hid fun h => by unfold okP okD; rw [if_neg h, if_neg h]; exact ⟨rfl, rfl⟩
  have HE : Hid (∀ w, Calls Tryd.prog 10 #[.agg #[.int .i64 (pOf m : Nat), .int .i64 (dOf m : Nat)], .int .i64 q] w (MadeOne (.int .u64 (encO (pOf m) (dOf m) a : Nat)) w)) := Lib.hid fun w => refObjEnc_any q a _ _ w HP.out hp64
  have HS : Hid (∀ w, Calls Tryd.prog 14 #[.agg #[.int .i64 (pOf m : Nat), .int .i64 (dOf m : Nat)]] w (MadeOne (.int .i64 (sizeO (pOf m) (dOf m))) w)) := Lib.hid fun w => refSize08_any _ _ w
  have HZ : sizeO (pOf m) (dOf m) = 0 → encO (pOf m) (dOf m) a ≠ x := fun h => by
    have := @wrong_ne x a (by rw [HM.out]; exact size_zero.1 h); rwa [HM.out] at this
  have e1 : (m : Int) / 256 % 64 = ((pOf m : Nat) : Int) := by unfold pOf; omega
  have e2 : (m : Int) / 16384 % 32768 = ((dOf m : Nat) : Int) := by unfold dOf; omega
  have i1 := pOf_lt m
  have i2 := dOf_lt m
  have hy := encO_lt (pOf m) (dOf m) a
  generalize encO (pOf m) (dOf m) a = y at hc HE hy HZ
  generalize sizeO (pOf m) (dOf m) = z at *
  generalize pOf m = k at *
  generalize dOf m = c at *
  clear h1 hmm
  have hm' : (m : Int) ≤ 4294967295 := by omega
  go_enter Tryd.func8, Tryd.ntmps8
  go_wp2_with fail
  refine (HO.out _).mono ?_
  rintro e W ⟨rfl, hb⟩
  obtain ⟨b1, hb, s1⟩ := boxT_of1 hb
  have HB := Lib.hid hb
  have B1 := Lib.hid b1
  clear hb b1
  go_wp2_with fail
  have b2 := B1.out.alloc (.cells #[.int .i64 k, .int .i64 c] 29)
  have n2 := BoxT.new 29 W #[.int .i64 k, .int .i64 c]
  have k2 := HB.out.alloc HB.out.size (.cells #[.int .i64 k, .int .i64 c] 29)
  have s3 := HB.out.size
  have hne : w.heap.size ≠ W.heap.size := by omega
  clear s3
  generalize W.alloc (.cells #[.int .i64 k, .int .i64 c] 29) = V at b2 n2 k2 ⊢
  generalize W.heap.size = g at n2 hne ⊢
  have B2 := Lib.hid b2
  have N2 := Lib.hid n2
  have K2 := Lib.hid k2
  have HNE := Lib.hid hne
  clear b2 n2 k2 hne e1 e2
  refine (HS.out _).mono ?_
  rintro e W3 ⟨rfl, hb⟩
  have B3 := Lib.hid (B2.out.below hb B2.out.lt)
  have n3 := N2.out.below hb N2.out.lt
  have K3 := Lib.hid (below_step K2.out hb (Nat.le_refl _))
  have N3 := Lib.hid n3
  have q0 : W3.cell? ⟨g, 0, none⟩ = some (.int .i64 k) := n3.cell 0
  have q1 : W3.cell? ⟨g, 1, none⟩ = some (.int .i64 c) := n3.cell 1
  clear hb n3
  by_cases hz : z = 0
  · rw [if_neg (HZ hz)] at hc
    have HC := Lib.hid hc
    have HC' : Hid (codeO x a ≠ 0) := Lib.hid (by rw [hc]; decide)
    subst hz
    clear hc HZ q0 q1
    go_wp2_with (first
      | (refine wpList_store_boxT rfl _ _ _ rfl (b := w.heap.size) (cells := #[.int .i64 0, .int .i64 0]) rfl rfl B3.out infoRO rfl (oneO _ _) ?_)
      | fail)
    exact bodyPost_ret (results_boxT2 rfl _ _ w.heap.size _ (.int .i64 26) rfl (B3.out.row _) Tryd.underlying29 rfl infoRO rfl) rfl ⟨by rw [(HK'.out HC'.out).1, (HK'.out HC'.out).2, HC.out]; rfl, below_setRow K3.out (Nat.le_refl _) _⟩
  have hz' : (z == 0) = false := by simpa using hz
  clear hz HZ
  go_wp2_with (first
    | (refine wpList_load_boxT rfl _ _ rfl (b := g) rfl N3.out Tryd.underlying29 rfl infoRO ?_)
    | fail)
  refine (HE.out _).mono ?_
  rintro e W4 ⟨rfl, hb⟩
  have B4 := Lib.hid (B3.out.below hb B3.out.lt)
  have N4 := Lib.hid (N3.out.below hb N3.out.lt)
  have K4 := Lib.hid (below_step K3.out hb (Nat.le_refl _))
  clear hb q0 q1
  by_cases hg : y = x
  · rw [if_pos hg] at hc
    subst hg
    have HC := Lib.hid hc
    clear hc
    go_wp2_with (first
      | (refine wpList_load_boxT rfl _ _ rfl (b := g) rfl N4.out Tryd.underlying29 rfl infoRO ?_)
      | (refine wpList_store_boxT rfl _ _ _ rfl (b := w.heap.size) (cells := #[.int .i64 k, .int .i64 c]) rfl rfl B4.out infoRO rfl (oneO _ _) ?_)
      | fail)
    exact bodyPost_ret (results_boxT2 rfl _ _ w.heap.size _ (.int .i64 0) rfl (B4.out.row _) Tryd.underlying29 rfl infoRO rfl) rfl ⟨by rw [(HK.out HC.out).1, (HK.out HC.out).2, HC.out]; rfl, below_setRow K4.out (Nat.le_refl _) _⟩
  · rw [if_neg hg] at hc
    have hd : ((y : Int) == (x : Int)) = false := by simp; omega
    have hd' : ((y : Int) != (x : Int)) = true := by simp; omega
    have HC := Lib.hid hc
    have HC' : Hid (codeO x a ≠ 0) := Lib.hid (by rw [hc]; decide)
    clear hc hg
    go_wp2_with (first
      | (refine wpList_store_boxT rfl _ _ _ rfl (b := w.heap.size) (cells := #[.int .i64 0, .int .i64 0]) rfl rfl B4.out infoRO rfl (oneO _ _) ?_)
      | fail)
    exact bodyPost_ret (results_boxT2 rfl _ _ w.heap.size _ (.int .i64 26) rfl (B4.out.row _) Tryd.underlying29 rfl infoRO rfl) rfl ⟨by rw [(HK'.out HC'.out).1, (HK'.out HC'.out).2, HC.out]; rfl, below_setRow K4.out (Nat.le_refl _) _⟩

end Go.Proofs.YtdhakfkcenfdoaaDoor
