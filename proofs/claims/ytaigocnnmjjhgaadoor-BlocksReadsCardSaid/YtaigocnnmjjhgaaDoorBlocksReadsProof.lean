/-
  Whatever words a device has, its headers are what the page says, or the first block that has none is told.
  Conditions: none beyond the row (every argument that can be read as data); the tables that the row lists hold what the text lays, which the card ties.
-/
import Derived.Test.YtaigocnnmjjhgaaDoorPk1
import Derived.Test.YtaigocnnmjjhgaaDoorCards
import Derived.Test.YtaigocnnmjjhgaaDoorTie
import Derived.Deep.DeepHandedRow
import Derived.Lib.LaidTab
import Derived.Test.YtaigocnnmjjhgaaDoorPk5
import Derived.Test.YtaigocnnmjjhgaaDoorPk6
import Derived.Deep.RegionHeld3
namespace Go.Proofs.YtaigocnnmjjhgaaDoor.blocksReads
open Go.ChangeShapes Go.WideShapes Go.ChangeAt Go.RowKit
open Go.ChangeMaps (open_string shut_string)
set_option linter.unusedVariables false

open Bt Cr Nv Bk Bh

theorem rests_same : ∀ i, i < 16 → ([0, 498536548, 997073096, 651767980, 1994146192, 1802195444, 1303535960, 1342533948, 3988292384, 4027552580, 3604390888, 3412177804, 2607071920, 2262029012, 2685067896, 3183342108] : List Int).getD i 0 = ((tab.getD i 0 : Nat) : Int) := by decide +kernel
/-- All words: those that came in, from place 257 on; noughts. -/
def allW (zs : List Int) (n : Nat) : List Int := (List.range (512 * n)).map fun j => if 257 ≤ j ∧ j < 257 + zs.length then zs.getD (j - 257) 0 else 0
theorem allW_len (zs : List Int) (n : Nat) : (allW zs n).length = 512 * n := by simp [allW]
theorem allW_in {zs : List Int} (n : Nat) (h : ∀ z ∈ zs, 0 ≤ z ∧ z < 2 ^ 64) (j : Nat) : 0 ≤ padded (allW zs n) j ∧ padded (allW zs n) j < 2 ^ 64 := by
  unfold padded allW
  rw [List.getD_eq_getElem?_getD, List.getElem?_map]
  by_cases hj : j < 512 * n
  · rw [List.getElem?_range hj]
    simp only [Option.map_some, Option.getD_some]
    split
    · rename_i h2
      rw [List.getD_eq_getElem?_getD, List.getElem?_eq_getElem (by omega)]
      exact h _ (List.getElem_mem _)
    · decide
  · rw [List.getElem?_eq_none (by simpa using hj)]
    exact ⟨Int.le_refl 0, (by decide : (0 : Int) < 2 ^ 64)⟩
theorem row_ints10 {w : World} {b n : Nat} {g : Nat → Int} (h : Row w b 74 n (fun j => .int .u64 (g j))) : IsInts .u64 w (.slice (some ⟨b, 0, none⟩) n n) ((List.range n).map g) :=
  ⟨some ⟨b, 0, none⟩, n, by simp, by simp, .inr ⟨b, 0, rfl, h.lt, fun i hi => by
    simp at hi
    rw [Nat.zero_add, h.cell hi, List.getD_eq_getElem?_getD, List.getElem?_map, List.getElem?_range hi]; rfl⟩⟩
/-- The device, the reference's, the geometry and the box of the reference's device, behind any call. -/
structure InvR (w : World) (p : Nat) (f : Fp) (m : Mdl) (T : Nat → Prop) (r : RV) (bg br : Nat) (n : Int) (W : World) : Prop where
  b : Below w.heap.size w W
  d : Dev W p f m
  rd : Ref W T r m
  g : BoxT 25 W bg #[.int .i64 n]
  x : BoxT 31 W br (rc r m)
theorem InvR.on {w W W' : World} {p : Nat} {f : Fp} {m : Mdl} {T : Nat → Prop} {r : RV} {bg br : Nat} {n : Int} (h : InvR w p f m T r bg br n W) (hb : Below W.heap.size W W') : InvR w p f m T r bg br n W' :=
  ⟨h.b.trans (hb.mono h.b.size), h.d.below hb, h.rd.below hb, h.g.below hb h.g.lt, h.x.below hb h.x.lt⟩
/-- What the last line needs, behind any call. -/
structure InvG (w : World) (t p m : Nat) (v1 v2 : Value) (hs : List H3) (hb : Nat) (h : H3) (W : World) : Prop where
  b : Below w.heap.size w W
  t : Tab W t p m hs
  s1 : IsHs W v1 hs
  s2 : IsHs W v2 hs
  x : BoxT 46 W hb #[.int .i64 h.1, .int .i64 h.2.1, .int .i64 h.2.2]
theorem InvG.on {w W W' : World} {t p m : Nat} {v1 v2 : Value} {hs : List H3} {hb : Nat} {h : H3} (i : InvG w t p m v1 v2 hs hb h W) (hW : Below W.heap.size W W') : InvG w t p m v1 v2 hs hb h W' :=
  ⟨i.b.trans (hW.mono i.b.size), i.t.below hW, i.s1.below hW (Nat.le_refl _), i.s2.below hW (Nat.le_refl _), i.x.below hW i.x.lt⟩
theorem InvG.drewN {w W : World} {t p m : Nat} {v1 v2 : Value} {hs : List H3} {hb : Nat} {h : H3} (i : InvG w t p m v1 v2 hs hb h W) (n : Nat) : InvG w t p m v1 v2 hs hb h (W.drewN n) := i.on (below_drewN (Below.refl _ _) n)
theorem InvG.facts {w W : World} {t p m : Nat} {v1 v2 : Value} {hs : List H3} {hb : Nat} {x y z : Int} (i : InvG w t p m v1 v2 hs hb (x, y, z) W) : W.cell? ⟨hb, 0, none⟩ = some (.int .i64 x) ∧ W.cell? ⟨hb, 1, none⟩ = some (.int .i64 y) ∧ W.cell? ⟨hb, 2, none⟩ = some (.int .i64 z) := ⟨i.x.cell 0, i.x.cell 1, i.x.cell 2⟩
theorem info_rh3 : (Tryd.prog.info? 46).map (·.size) = some 3 := by kernel_rfl

set_option maxRecDepth 100000 in
set_option maxHeartbeats 1000000 in
theorem walk  (a0 : Option Addr) (len0 cap0 : Nat) (z0 : List Int) (a1 : Int) (a2 : Int) (w : World) (w0 : IsRow .u64 w a0 len0 cap0 z0) (w1 : (Lit.int .i64 a1).wf = true) (w2 : (Lit.int .i64 a2).wf = true) (t0 : Lib.TabIs Tryd.prog w "taproot/crc.rests" .u32 [0, 498536548, 997073096, 651767980, 1994146192, 1802195444, 1303535960, 1342533948, 3988292384, 4027552580, 3604390888, 3412177804, 2607071920, 2262029012, 2685067896, 3183342108]) :
    Calls Tryd.prog 3 #[.slice a0 len0 cap0, .int .i64 a1, .int .i64 a2] w fun e w' => e = .returned (.bool true) ∧ Below w.heap.size w w' := by
  have hT : HasRests w := fun i hi => by
    have := t0.cell (g := 0) (by kernel_rfl) i hi
    rw [rests_same i hi] at this
    exact this
  obtain ⟨hI0, hL0, hw0⟩ := w0.ints
  have hz : ∀ z ∈ List.take len0 z0, 0 ≤ z ∧ z < 2 ^ 64 := fun z hz => by have := bounds_u64 (hw0 z hz); omega
  clear w0 hw0 t0
  generalize List.take len0 z0 = zs at *
  have b2 := bounds_i64 w1
  have b3 := bounds_i64 w2
  clear w1 w2
  have HT := Lib.hid hT
  clear hT
  by_cases hlen : len0 ≤ 8
  rotate_left
  · have hd : 8 < (len0 : Int) := by omega
    clear hlen
    go_enter Tryd.func3, Tryd.ntmps3
    go_wp2_with fail
    refine (awake10_yes _ HT.out).mono ?_
    rintro e W ⟨rfl, hb⟩
    have HB := Lib.hid hb
    clear hb
    go_wp2_with fail
    go_ret
    exact ⟨rfl, HB.out⟩
  by_cases h0 : len0 = 0
  · subst h0
    go_enter Tryd.func3, Tryd.ntmps3
    go_wp2_with fail
    refine (awake10_yes _ HT.out).mono ?_
    rintro e W ⟨rfl, hb⟩
    have HB := Lib.hid hb
    clear hb
    go_wp2_with fail
    go_ret
    exact ⟨rfl, HB.out.alloc HB.out.size _⟩
  obtain ⟨n, hn⟩ : ∃ n, n = len0 + 1 := ⟨_, rfl⟩
  obtain ⟨C1, hs1, hc1, hm1⟩ := make_words (512 * n) (by omega)
  have hd8 : ¬ (8 < (len0 : Int)) := by omega
  have hd2 : ¬ ((len0 : Int) + 1 < 2) := by omega
  have hm1' : ∀ w, (Instr.makeSlice 22 (.int .i64 (512 * ((len0 : Int) + 1))) (.int .i64 (512 * ((len0 : Int) + 1)))).run Tryd.prog w = .ok (.slice (some ⟨w.heap.size, 0, none⟩) (512 * n) (512 * n)) (w.alloc (.cells C1 74)) := by
    intro w
    have := hm1 w
    rwa [show ((512 * n : Nat) : Int) = 512 * ((len0 : Int) + 1) by omega] at this
  have HS1 := Lib.hid hs1
  have HC1 := Lib.hid hc1
  have HN := Lib.hid hn
  have HI := Lib.hid hI0
  have HL := Lib.hid hL0
  have HZ := Lib.hid hz
  clear hs1 hc1 hm1 hn hI0 hL0 hz
  go_enter Tryd.func3, Tryd.ntmps3
  go_wp2_with fail
  refine (awake10_yes _ HT.out).mono ?_
  rintro e w1 ⟨rfl, k1⟩
  have KW : Hid (Below w.heap.size w ((w1.alloc (.cells #[.int .i64 ((len0 : Int) + 1)] 25)).alloc (.cells C1 74))) := Lib.hid ((k1.alloc k1.size _).alloc (by simp; have := k1.size; omega) _)
  have BG : Hid (BoxT 25 ((w1.alloc (.cells #[.int .i64 ((len0 : Int) + 1)] 25)).alloc (.cells C1 74)) w1.heap.size #[.int .i64 ((len0 : Int) + 1)]) := Lib.hid ((BoxT.new _ _ _).alloc _)
  have R1 : Hid (Row ((w1.alloc (.cells #[.int .i64 ((len0 : Int) + 1)] 25)).alloc (.cells C1 74)) (w1.heap.size + 1) 74 (512 * n) (fun _ => .int .u64 0)) := Lib.hid (by
    have := Row.new (w1.alloc (.cells #[.int .i64 ((len0 : Int) + 1)] 25)) 74 C1 _ _ HS1.out HC1.out
    rwa [World.size_alloc] at this)
  have HMIN : Hid (∀ d, 8 ≤ d → len0 = Nat.min len0 d) := Lib.hid fun d h => (Nat.min_eq_left (by omega)).symm
  have SRC : Hid (0 < len0 → ∃ ad, a0 = some ad ∧ ∀ j, j < len0 → ((w1.alloc (.cells #[.int .i64 ((len0 : Int) + 1)] 25)).alloc (.cells C1 74)).cell? (ad.add j) = some (.int .u64 (zs.getD j 0))) := Lib.hid fun h => by
    obtain ⟨a, cap, e, hc, hx⟩ := HI.out
    rw [HL.out] at e
    cases e
    obtain ⟨b, off, rfl, hlt, hcell⟩ := hx.resolve_left (by rintro rfl; have := HL.out; simp at this; omega)
    refine ⟨_, rfl, fun j hj => ?_⟩
    rw [addr_add, KW.out.cell (p := ⟨b, off + j, none⟩) hlt]
    exact hcell j (by rw [HL.out]; exact hj)
  have cg : w1.heap.size < w1.heap.size + 1 := Nat.lt_succ_self _
  have hnn := HN.out
  have HW1 := Lib.hid k1.size
  clear k1 HS1 HC1
  go_wp2_with (first
    | ((with_reducible refine wpList_copy_cells rfl _ _ 22 22 rfl 74 Tryd.underlying22 infoU64s (some ⟨w1.heap.size + 1, 257, none⟩) _ _ _ len0 cap0 rfl rfl (w1.heap.size + 1) 257 (512 * n) 74 _ (fun j => .int .u64 (zs.getD j 0)) len0 R1.out (HMIN.out _ (by omega)) (fun h => ⟨rfl, SRC.out h⟩) (by omega) (fun _ => rfl) ?_); intro w2 r2 k2; have R2 := Lib.hid r2; have K2 := Lib.hid k2; clear r2 k2)
    | fail)
  obtain rfl := hnn
  have r3 : Row w2 (w1.heap.size + 1) 74 (512 * (len0 + 1)) (fun j => .int .u64 (if 257 ≤ j ∧ j < 257 + zs.length then zs.getD (j - 257) 0 else 0)) := R2.out.congr fun j hj => by
    rw [HL.out]; split <;> rfl
  have hI := row_ints10 r3
  have hlines : linesFor (512 * (len0 + 1)) = 64 * (len0 + 1) := by unfold linesFor; omega
  have hld := load_any _ (allW zs (len0 + 1)) w2 hI (by rw [allW_len]; omega)
  have hrl : Hid (∀ W, Below w2.heap.size w2 W → Calls Tryd.prog 7 #[.slice (some ⟨w1.heap.size + 1, 0, none⟩) (512 * (len0 + 1)) (512 * (len0 + 1))] W (RefMade (fresh (linesFor (allW zs (len0 + 1)).length) (padded (allW zs (len0 + 1)))) W)) := Lib.hid fun W hb =>
    refLoad_any _ (allW zs (len0 + 1)) ((Keep.ofBelow (S := fun _ => False) hb).ints hI fun _ _ h => h) (by rw [allW_len]; omega)
  rw [allW_len, hlines] at hld hrl
  have HV := Lib.hid (allW_in (len0 + 1) HZ.out)
  obtain ⟨m, hm⟩ : ∃ m, m = fresh (64 * (len0 + 1)) (padded (allW zs (len0 + 1))) := ⟨_, rfl⟩
  have HM : Hid (m.now = padded (allW zs (len0 + 1)) ∧ m.L = 64 * (len0 + 1)) := Lib.hid (by rw [hm]; exact ⟨rfl, rfl⟩)
  rw [← hm] at hld hrl
  rw [← HM.out.1] at HV
  have HLD := Lib.hid hld
  have B2 : Hid (BoxT 25 w2 w1.heap.size #[.int .i64 ((len0 : Int) + 1)]) := Lib.hid (BG.out.keep K2.out (by omega))
  have W2 : Hid (Below w.heap.size w w2) := Lib.hid (KW.out.trans (K2.out.below (B := w.heap.size) KW.out.size (fun i e => by have := HW1.out; omega)))
  clear r3 hI hlines hld hm R1 R2 K2 BG KW SRC HMIN hm1' HI HL HZ HN cg
  generalize w1.heap.size = bg at *
  refine HLD.out.mono ?_
  rintro e w3 ⟨p, f, rfl, d3, k3, o3⟩
  have W3 : Hid (Below w.heap.size w w3) := Lib.hid (W2.out.trans (k3.below W2.out.size (fun i e => e.elim)))
  have B3 : Hid (BoxT 25 w3 bg #[.int .i64 ((len0 : Int) + 1)]) := Lib.hid (B2.out.keep k3 (fun h => h))
  have D3 := Lib.hid d3
  have K3 : Hid (Below w2.heap.size w2 w3) := Lib.hid (k3.below (Nat.le_refl _) (fun i e => e.elim))
  clear d3 k3 o3 W2 B2 HLD
  go_wp2_with fail
  refine (hrl.out _ K3.out).mono ?_
  rintro e w4 ⟨r, rfl, r4, b4⟩
  unfold rv
  have INV : Hid (InvR w p f m _ r bg w4.heap.size ((len0 : Int) + 1) (w4.alloc (.cells (rc r m) 31))) := Lib.hid
    ⟨(W3.out.trans (b4.mono W3.out.size)).alloc (Nat.le_trans W3.out.size b4.size) _, (D3.out.below b4).alloc _, r4.below ((Below.refl _ _).alloc (Nat.le_refl _) _), (B3.out.below b4 B3.out.lt).alloc _, BoxT.new _ _ _⟩
  clear W3 B3 D3 K3 r4 b4 hrl
  unfold rc at INV
  have hrd : Hid (∀ W, InvR w p f m (fun b => w3.heap.size ≤ b ∧ b < w4.heap.size) r bg w4.heap.size ((len0 : Int) + 1) W → Calls Tryd.prog 8 #[.pointer (some ⟨p, 0, none⟩), .agg #[.int .i64 ((len0 : Int) + 1)]] W (ReadIs m.now (len0 + 1) W)) := Lib.hid fun W h =>
    blkRead_any h.d (len0 + 1) (fun j _ _ => HV.out j) (by omega) (by omega) (by rw [HM.out.2]; omega) (HT.out.below h.b (Nat.le_refl _))
  have hrf : Hid (∀ W, InvR w p f m (fun b => w3.heap.size ≤ b ∧ b < w4.heap.size) r bg w4.heap.size ((len0 : Int) + 1) W → Calls Tryd.prog 9 #[rv r m, .int .i64 ((len0 : Int) + 1)] W (ReadIs m.now (len0 + 1) W)) := Lib.hid fun W h =>
    refRead10_any h.rd HV.out (len0 + 1) (by omega) (by omega) (by rw [HM.out.2]; omega)
  have hop : Hid (∀ W, InvR w p f m (fun b => w3.heap.size ≤ b ∧ b < w4.heap.size) r bg w4.heap.size ((len0 : Int) + 1) W → Calls Tryd.prog 10 #[.pointer (some ⟨p, 0, none⟩), .agg #[.int .i64 ((len0 : Int) + 1)]] W (TabOpens p m.now (len0 + 1) W)) := Lib.hid fun W h =>
    blkOpen_any h.d (len0 + 1) (fun j _ _ => HV.out j) (by omega) (by omega) (by rw [HM.out.2]; omega) (HT.out.below h.b (Nat.le_refl _))
  unfold rv at hrf
  clear HW1 HM HV
  obtain ⟨rb, hrb⟩ : ∃ rb, readB m.now (len0 + 1) = rb := ⟨_, rfl⟩
  obtain ⟨re, hre⟩ : ∃ re, readE m.now (len0 + 1) = re := ⟨_, rfl⟩
  have HRB := Lib.hid hrb
  have HRE := Lib.hid hre
  clear hrb hre
  have cg : (w4.alloc (.cells #[.slice r.aN m.L r.cN, .slice r.aL m.L r.cL, .slice r.aW m.L r.cW, .slice r.aD m.L r.cD, .slice r.aP m.L r.cP, .int .i64 m.steps, .int .i64 m.fuse, .bool m.dead] 31)).cell? ⟨bg, 0, none⟩ = some (.int .i64 ((len0 : Int) + 1)) := INV.out.g.cell 0
  go_wp2_with fail
  generalize w4.alloc (.cells #[.slice r.aN m.L r.cN, .slice r.aL m.L r.cL, .slice r.aW m.L r.cW, .slice r.aD m.L r.cD, .slice r.aP m.L r.cP, .int .i64 m.steps, .int .i64 m.fuse, .bool m.dead] 31) = w5 at *
  generalize (fun b => w3.heap.size ≤ b ∧ b < w4.heap.size) = T at *
  generalize w4.heap.size = br at *
  refine (hrd.out _ INV.out).mono ?_
  rintro e w6 ⟨v1, rfl, hs1, b6⟩
  rw [HRB.out, HRE.out]
  have INV6 := Lib.hid (INV.out.on b6)
  have S1 := Lib.hid hs1
  clear INV b6 hs1 cg
  have cg : w6.cell? ⟨bg, 0, none⟩ = some (.int .i64 ((len0 : Int) + 1)) := INV6.out.g.cell 0
  go_wp2_with (first
    | (show wpList _ _ _ ((Oper.mk _ (Op.load _ (.tmp 10)) _ _ _ _) :: _) _ _; refine wpList_load_boxT rfl _ _ rfl (b := br) rfl INV6.out.x Tryd.underlying31 rfl info30 ?_)
    | fail)
  refine (hrf.out _ INV6.out).mono ?_
  rintro e w7 ⟨v2, rfl, hs2, b7⟩
  rw [HRB.out, HRE.out]
  have INV7 := Lib.hid (INV6.out.on b7)
  have S1 := Lib.hid (S1.out.below b7 (Nat.le_refl _))
  have S2 := Lib.hid hs2
  clear INV6 b7 hs2 cg
  have cg : w7.cell? ⟨bg, 0, none⟩ = some (.int .i64 ((len0 : Int) + 1)) := INV7.out.g.cell 0
  go_wp2_with fail
  refine (hop.out _ INV7.out).mono ?_
  rintro e w8 ⟨vt, rfl, htab, b8⟩
  rw [HRE.out]
  have K8 := Lib.hid (INV7.out.on b8).b
  have S1 := Lib.hid (S1.out.below b8 (Nat.le_refl _))
  have S2 := Lib.hid (S2.out.below b8 (Nat.le_refl _))
  have TB := Lib.hid htab
  clear INV7 b8 htab cg hrd hrf hop
  by_cases hbad : (firstBad m.now (len0 + 1)).isSome = true
  · obtain ⟨bb, hbb⟩ := Option.isSome_iff_exists.1 hbad
    have hb3 := read_bad hbb
    have h1 := TB.out
    rw [if_pos hbad] at h1
    subst h1
    obtain rfl : re = 21 := HRE.out.symm.trans hb3.2.2
    have L1 : readL m.now (len0 + 1) = [] := hb3.1
    rw [L1] at S1 S2
    clear hb3 hbb hbad HRB HRE TB L1
    go_wp2_with fail
    refine (refs_any _ _ _ S1.out (by simp)).mono ?_
    rintro e w9 ⟨v3, rfl, hs3, b9⟩
    have S3 := Lib.hid hs3
    have S2 := Lib.hid (S2.out.below b9 (Nat.le_refl _))
    have K9 := Lib.hid (K8.out.trans (b9.mono K8.out.size))
    clear hs3 b9 K8 S1
    go_wp2_with fail
    refine (refSame10_yes _ _ [] _ S3.out S2.out (by simp)).mono ?_
    rintro e w10 ⟨rfl, nd, rfl⟩
    have K10 := Lib.hid (below_drewN K9.out nd)
    clear K9 S2 S3
    go_wp2_with fail
    go_ret
    exact ⟨rfl, K10.out⟩
  · have hgood : firstBad m.now (len0 + 1) = none := by simpa using hbad
    have hb3 := read_good hgood
    have h1 := TB.out
    rw [if_neg hbad] at h1
    obtain ⟨t, rfl, ht⟩ := h1
    obtain rfl : re = 0 := HRE.out.symm.trans hb3.2.2
    have L1 : readL m.now (len0 + 1) = hdrs m.now (len0 + 1) := hb3.1
    rw [L1] at S1 S2
    have HTB := Lib.hid ht
    have LN := Lib.hid (hdrs_len m.now (len0 + 1))
    clear hb3 hgood hbad HRB HRE TB L1 ht
    generalize hdrs m.now (len0 + 1) = hs at *
    go_wp2_with fail
    refine (refs_any _ _ _ S1.out (by rw [LN.out]; omega)).mono ?_
    rintro e w9 ⟨v3, rfl, hs3, b9⟩
    have S3 := Lib.hid hs3
    have S1 := Lib.hid (S1.out.below b9 (Nat.le_refl _))
    have S2 := Lib.hid (S2.out.below b9 (Nat.le_refl _))
    have HTB := Lib.hid (HTB.out.below b9)
    have K9 := Lib.hid (K8.out.trans (b9.mono K8.out.size))
    clear hs3 b9 K8
    go_wp2_with fail
    refine (refSame10_yes _ _ hs _ S3.out S2.out (by rw [LN.out]; omega)).mono ?_
    rintro e w10 ⟨rfl, nd, rfl⟩
    have K10 := Lib.hid (below_drewN K9.out nd)
    have T10 : Hid (Tab (w9.drewN nd) t p (len0 + 1) hs) := Lib.hid (HTB.out.below (below_drewN (Below.refl _ _) nd))
    have S1 : Hid (IsHs (w9.drewN nd) v1 hs) := Lib.hid (S1.out.below (below_drewN (Below.refl _ _) nd) (Nat.le_refl _))
    have S2 : Hid (IsHs (w9.drewN nd) v2 hs) := Lib.hid (S2.out.below (below_drewN (Below.refl _ _) nd) (Nat.le_refl _))
    clear K9 HTB S3
    generalize w9.drewN nd = W at *
    have hx := S2.out
    obtain ⟨av, cv, rfl, hcap, hx⟩ := hx
    rw [LN.out] at S2 hcap ⊢
    obtain ⟨vb, vo, rfl, hvb, hcell⟩ := hx.resolve_left (by rintro rfl; have := LN.out; simp at this)
    have HC : Hid (∀ i, i < len0 + 1 → W.cell? ⟨vb, vo + i * 3, none⟩ = some (.int .i64 (hs.getD i (0, 0, 0)).1) ∧ W.cell? ⟨vb, vo + i * 3 + 1, none⟩ = some (.int .i64 (hs.getD i (0, 0, 0)).2.1) ∧ W.cell? ⟨vb, vo + i * 3 + 2, none⟩ = some (.int .i64 (hs.getD i (0, 0, 0)).2.2)) := Lib.hid fun i hi => hcell i (by rw [LN.out]; exact hi)
    clear hcell hx
    have MK : Hid (∀ (V : World) (z : H3), Below W.heap.size W V → BoxT 46 V W.heap.size #[.int .i64 z.1, .int .i64 z.2.1, .int .i64 z.2.2] →
        InvG w t p (len0 + 1) v1 (.slice (some ⟨vb, vo, none⟩) (len0 + 1) cv) hs W.heap.size z V ∧ ∀ i, i < len0 + 1 → V.cell? ⟨vb, vo + i * 3, none⟩ = some (.int .i64 (hs.getD i (0, 0, 0)).1)) := Lib.hid fun V z hb hx =>
      ⟨⟨K10.out.trans (hb.mono K10.out.size), T10.out.below hb, S1.out.below hb (Nat.le_refl _), S2.out.below hb (Nat.le_refl _), hx⟩, fun i hi => (hb.cell (p := ⟨vb, vo + i * 3, none⟩) hvb).trans (HC.out i hi).1⟩
    have HVB : Hid (vb < W.heap.size) := Lib.hid hvb
    clear K10 T10 S1 S2
    have HCW := HC
    by_cases hin : 0 ≤ a1 ∧ a1 < (len0 : Int) + 1
    case' pos =>
      obtain ⟨hin0, hin1⟩ := hin
      obtain ⟨k, rfl⟩ := Int.eq_ofNat_of_zero_le hin0
      have hk : k < len0 + 1 := by omega
      have hin1' : (k : Int) < ((len0 + 1 : Nat) : Int) := by omega
      have HA : Hid (hAt hs k = hs.getD k (0, 0, 0)) := Lib.hid (by unfold hAt; rw [if_pos (by rw [LN.out]; omega)]; rfl)
      have eW : ∀ o, (W.alloc (.cells #[.int .i64 0, .int .i64 0, .int .i64 0] 46)).cell? ⟨vb, o, none⟩ = W.cell? ⟨vb, o, none⟩ := fun o => ((Below.refl W.heap.size W).alloc (Nat.le_refl _) _).cell (p := ⟨vb, o, none⟩) HVB.out
      obtain ⟨e0, e1, e2⟩ := HC.out k hk
      rw [← eW] at e0 e1 e2
      have hne : vb ≠ W.heap.size := by have := HVB.out; omega
      generalize hs.getD k (0, 0, 0) = z at e0 e1 e2 HA
      obtain ⟨z0, z1, z2⟩ := z
      have BX := Lib.hid (BoxT.new 46 W #[.int .i64 0, .int .i64 0, .int .i64 0])
      clear eW hvb
      go_wp2_with (first
        | (show wpList _ _ _ ((Oper.mk _ (Op.store _ (.tmp 19) (.tmp 108)) _ _ _ _) :: _) _ _; refine wpList_store_boxT rfl _ _ _ rfl (b := W.heap.size) (cells := #[.int .i64 z0, .int .i64 z1, .int .i64 z2]) rfl rfl BX.out info_rh3 rfl (one3 _ _ _) ?_)
        | fail)
      have hV0 := MK.out _ (z0, z1, z2) (below_setRow ((Below.refl W.heap.size W).alloc (Nat.le_refl _) (.cells #[.int .i64 0, .int .i64 0, .int .i64 0] 46)) (Nat.le_refl _) #[.int .i64 z0, .int .i64 z1, .int .i64 z2]) (BX.out.row _)
      have GET0 : Hid (∀ W', Tab W' t p (len0 + 1) hs → Calls Tryd.prog 14 #[.pointer (some ⟨t, 0, none⟩), .int .i64 k] W' (MadeOne (.agg #[.int .i64 z0, .int .i64 z1, .int .i64 z2]) W')) := Lib.hid fun W' h => by
        have := tabGet_any h (by rw [LN.out]; omega) k
        rw [HA.out] at this
        exact this
      generalize (W.alloc (.cells #[.int .i64 0, .int .i64 0, .int .i64 0] 46)).setRow W.heap.size #[.int .i64 z0, .int .i64 z1, .int .i64 z2] = V at *
      clear e0 e1 e2 HA BX hne HCW
      obtain ⟨z0, z1, z2, hV, GET⟩ : ∃ z0 z1 z2 : Int, (InvG w t p (len0 + 1) v1 (.slice (some ⟨vb, vo, none⟩) (len0 + 1) cv) hs W.heap.size (z0, z1, z2) V ∧ ∀ i, i < len0 + 1 → V.cell? ⟨vb, vo + i * 3, none⟩ = some (.int .i64 (hs.getD i (0, 0, 0)).1)) ∧ Hid (∀ W', Tab W' t p (len0 + 1) hs → Calls Tryd.prog 14 #[.pointer (some ⟨t, 0, none⟩), .int .i64 k] W' (MadeOne (.agg #[.int .i64 z0, .int .i64 z1, .int .i64 z2]) W')) := ⟨z0, z1, z2, hV0, GET0⟩
      clear hV0 GET0
    case' neg =>
      have HA : Hid (hAt hs a1 = (0, 0, 0)) := Lib.hid (by unfold hAt; rw [if_neg (by rw [LN.out]; omega)])
      have BX := Lib.hid (BoxT.new 46 W #[.int .i64 0, .int .i64 0, .int .i64 0])
      have hV0 := MK.out _ (0, 0, 0) ((Below.refl W.heap.size W).alloc (Nat.le_refl _) (.cells #[.int .i64 0, .int .i64 0, .int .i64 0] 46)) BX.out
      have GET0 : Hid (∀ W', Tab W' t p (len0 + 1) hs → Calls Tryd.prog 14 #[.pointer (some ⟨t, 0, none⟩), .int .i64 a1] W' (MadeOne (.agg #[.int .i64 0, .int .i64 0, .int .i64 0]) W')) := Lib.hid fun W' h => by
        have := tabGet_any h (by rw [LN.out]; omega) a1
        rw [HA.out] at this
        exact this
      obtain ⟨z0, z1, z2, hV, GET⟩ : ∃ z0 z1 z2 : Int, (InvG w t p (len0 + 1) v1 (.slice (some ⟨vb, vo, none⟩) (len0 + 1) cv) hs W.heap.size (z0, z1, z2) (W.alloc (.cells #[.int .i64 0, .int .i64 0, .int .i64 0] 46)) ∧ ∀ i, i < len0 + 1 → (W.alloc (.cells #[.int .i64 0, .int .i64 0, .int .i64 0] 46)).cell? ⟨vb, vo + i * 3, none⟩ = some (.int .i64 (hs.getD i (0, 0, 0)).1)) ∧ Hid (∀ W', Tab W' t p (len0 + 1) hs → Calls Tryd.prog 14 #[.pointer (some ⟨t, 0, none⟩), .int .i64 a1] W' (MadeOne (.agg #[.int .i64 z0, .int .i64 z1, .int .i64 z2]) W')) := ⟨0, 0, 0, hV0, GET0⟩
      clear hV0 GET0
      clear HA BX HCW
      by_cases hneg : a1 < 0
      case' pos =>
        have hn1 : ¬ 0 ≤ a1 := by omega
        go_wp2_with fail
        generalize W.alloc (.cells #[.int .i64 0, .int .i64 0, .int .i64 0] 46) = V at *
      case' neg =>
        have hn0 : 0 ≤ a1 := by omega
        have hn2 : ¬ a1 < ((len0 + 1 : Nat) : Int) := by omega
        go_wp2_with fail
        generalize W.alloc (.cells #[.int .i64 0, .int .i64 0, .int .i64 0] 46) = V at *
    all_goals
      have INV := Lib.hid hV.1
      have HC1 := Lib.hid hV.2
      clear hV MK HC
      go_loopw [20, 21] (fun c i wr => ∃ q : Nat, 1 ≤ q ∧ q ≤ len0 + 1 ∧ i = .int .i64 q ∧ c = .int .i64 (countTo hs a2 q : Nat) ∧ V = wr) (fun _ i _ => len0 + 1 - (intOf i).toNat)
      case atStart => exact ⟨1, by omega, by omega, rfl, rfl, rfl⟩
      case round =>
        obtain ⟨q, hq1, hq, rfl, rfl, rfl⟩ := hrel
        by_cases hlt : q < len0 + 1
        · have hlt' : (q : Int) < ((len0 + 1 : Nat) : Int) := by omega
          have hq0 : (0 : Int) ≤ (q : Int) := by omega
          have e0 := HC1.out q hlt
          have hcl := countTo_le hs a2 q
          by_cases hk : kindAt hs q = a2
          · have HS := Lib.hid (countTo_yes hq1 hk)
            unfold kindAt at hk
            rw [hk] at e0
            clear hk
            go_wp2_with fail
            go_roundw
            case rel => exact ⟨q + 1, by omega, by omega, by go_num, by rw [HS.out]; go_num, by simp⟩
            case measure => simp [intOf]; omega
          · have HS := Lib.hid (countTo_no hk)
            unfold kindAt at hk
            generalize (hs.getD q (0, 0, 0)).1 = kq at e0 hk
            have hkb : (kq == a2) = false := by simpa using hk
            go_wp2_with fail
            go_roundw
            case rel => exact ⟨q + 1, by omega, by omega, by go_num, by rw [HS.out], by simp⟩
            case measure => simp [intOf]; omega
        · obtain rfl : q = len0 + 1 := by omega
          have hlt' : ¬ ((len0 + 1 : Nat) : Int) < ((len0 + 1 : Nat) : Int) := by omega
          clear hlt
          go_wp2_with fail
          have CNT : Hid (∀ W', Tab W' t p (len0 + 1) hs → Calls Tryd.prog 15 #[.pointer (some ⟨t, 0, none⟩), .int .i64 a2] W' (MadeOne (.int .i64 (countTo hs a2 (len0 + 1) : Nat)) W')) := Lib.hid fun W' h => by
            have := tabCount_any h (by rw [LN.out]; omega) a2
            rw [LN.out] at this
            exact this
          have LS : Hid ((spansOf hs).length ≤ 100000) := Lib.hid (by have := (spansTo_in hs hs.length).1; unfold spansOf; have := LN.out; omega)
          generalize countTo hs a2 (len0 + 1) = cn at *
          obtain ⟨e0, e1, e2⟩ := INV.out.facts
          have heq : ∀ w' : World, (Op.equalIn 10000 46 (.agg #[.int .i64 z0, .int .i64 z1, .int .i64 z2]) (.agg #[.int .i64 z0, .int .i64 z1, .int .i64 z2])).run Tryd.prog w' = .ok true w' := fun w' => by rw [eqR3V]; simp
          generalize W.heap.size = bh at *
          clear HC1 HVB
          go_region_held3 (fun w' => w'.cell? ⟨bh, 0, none⟩ = some (.int .i64 z0) ∧ w'.cell? ⟨bh, 1, none⟩ = some (.int .i64 z1) ∧ w'.cell? ⟨bh, 2, none⟩ = some (.int .i64 z2))
            (first | go_keep | exact INV.out.facts)
            (first
              | (go_at_call 14; refine (GET.out _ (INV.out.drewN 1).t).mono ?_; rintro e w' ⟨rfl, hb⟩; have INV := Lib.hid ((INV.out.drewN 1).on hb); clear hb)
              | (go_at_call 13; refine (ref_any _ _ _ _).mono ?_; rintro e w' ⟨rfl, hb⟩; have INV := Lib.hid (INV.out.on hb); clear hb)
              | (go_at_call 15; refine (CNT.out _ INV.out.t).mono ?_; rintro e w' ⟨rfl, hb⟩; have INV := Lib.hid (INV.out.on hb); clear hb)
              | (go_at_call 17; refine (blkSpans_any _ hs _ INV.out.s1 (by rw [LN.out]; omega)).mono ?_; rintro e w' ⟨v5, rfl, hs5, hb⟩; have INV := Lib.hid (INV.out.on hb); have S5 := Lib.hid hs5; clear hb hs5)
              | (go_at_call 18; refine (refSpans10_any _ hs _ INV.out.s2 (by rw [LN.out]; omega)).mono ?_; rintro e w' ⟨v6, rfl, hs6, hb⟩; have INV := Lib.hid (INV.out.on hb); have S5 := Lib.hid (S5.out.below hb (Nat.le_refl _)); have S6 := Lib.hid hs6; clear hb hs6)
              | (go_at_call 16; refine (lawSpans_yes _ _ _ _ S5.out S6.out LS.out).mono ?_; rintro e w' ⟨rfl, nd2, rfl⟩; have INV := Lib.hid (INV.out.drewN nd2)))
          go_wp2_with fail
          go_ret
          exact ⟨by simp, INV.out.b⟩

theorem gTab0 : Tryd.prog.globalNamed "taproot/crc.rests" = some 0 := by kernel_rfl
theorem gType0 : (Tryd.prog.globals[0]?).map (·.type) = some 128 := by kernel_rfl
theorem table0 {W : World} (h : laidMetH Tryd.prog Rows.blocksReadsRow.laid W) : Lib.TabIs Tryd.prog W "taproot/crc.rests" .u32 [0, 498536548, 997073096, 651767980, 1994146192, 1802195444, 1303535960, 1342533948, 3988292384, 4027552580, 3604390888, 3412177804, 2607071920, 2262029012, 2685067896, 3183342108] :=
  Lib.tabIs_of_head gTab0 gType0 Tryd.underlying128 Tryd.underlying97 (by kernel_rfl) (by kernel_rfl) h

set_option maxRecDepth 100000 in
theorem contract (H : Type) (enc : TypeId × Value → H) (W : World) (base : Nat) (args : Array Value) (ds gs : List (DataW H)) (before : List MemPlace)
    (hval : ∀ (j : Nat) t v, Tryd.f3.params[j]? = some t → args[j]? = some v → Value.okWide Tryd.prog W .any base t v)
    (hW : DataW.Whole enc Tryd.prog Tryd.f3.params.toList Rows.blocksReadsSpec.vars false W args.toList ds gs before) (hL : laidMetH Tryd.prog Rows.blocksReadsRow.laid W) :
    Calls Tryd.prog 3 args W fun e W' => ∃ v, e = .returned v ∧ Rows.blocksReadsSpec.post enc Tryd.prog Tryd.f3 false true false false W args v W' := by
  have hW' := hW
  obtain ⟨p, q, hA0, hV, rfl, hfz, hnd⟩ := hW
  have hA : DataW.TrodAll enc Tryd.prog W 0 (fun _ => true) true Tryd.f3.params.toList args.toList ds p := hA0
  rw [Tryd.params3] at hA hval
  obtain ⟨v0, vs0, d0, ds0, p0, q0, hargs, rfl, rfl, h0, r0⟩ := trodAll_cons hA
  obtain ⟨v1, vs1, d1, ds1, p1, q1, rfl, rfl, rfl, h1, r1⟩ := trodAll_cons r0
  obtain ⟨v2, vs2, d2, ds2, p2, q2, rfl, rfl, rfl, h2, r2⟩ := trodAll_cons r1
  obtain ⟨rfl, rfl, rfl⟩ := trodAll_nil r2
  obtain rfl : args = #[v0, v1, v2] := by cases args; simp_all
  obtain ⟨rfl, rfl⟩ := trodVars_none hV
  obtain ⟨a0, len0, cap0, rfl⟩ := okWide_slice Tryd.underlying22 (hval 0 22 v0 rfl rfl)
  have k0 := h0
  have lt0 : ∀ x ∈ p0, x.block < W.heap.size := by obtain ⟨m, hm⟩ := k0; exact DataW.trod_lt m _ _ _ hm
  obtain ⟨z0, w0⟩ : ∃ zs, IsRow .u64 W a0 len0 cap0 zs := isRow_of Tryd.underlying22 Tryd.underlying74 (by kernel_rfl) h0
  obtain ⟨a1, rfl, rfl, rfl, w1⟩ := open_int Tryd.underlying3 (hval 1 3 v1 rfl rfl) h1
  obtain ⟨a2, rfl, rfl, rfl, w2⟩ := open_int Tryd.underlying3 (hval 2 3 v2 rfl rfl) h2
  clear hA0
  refine (walk a0 len0 cap0 z0 a1 a2 W w0 w1 w2 (table0 hL)).mono fun e W' ⟨he, bel⟩ => ?_
  subst he
  exact ⟨_, rfl, _, _, _, [], _, [], hW', trodAll_mk1 (shut_bool Tryd.underlying4 _), (trodAll_cons_mk (Below.trod laidOut (by kernel_rfl) (of_decide_eq_true (by kernel_rfl)) k0 bel lt0) (trodAll_cons_mk (shut_int Tryd.underlying3 w1) (trodAll_cons_mk (shut_int Tryd.underlying3 w2) trodAll_mk0))), rfl, bel.frame _, fun h => by cases h⟩

noncomputable def laidWorld (os : Os) : World :=
  { World.holding Tryd.prog os ⟨#[], #[], []⟩ with heap := ((World.holding Tryd.prog os ⟨#[], #[], []⟩).heap).modify 0 fun
      | .cells _ t frozen => .cells #[.int .u32 0, .int .u32 498536548, .int .u32 997073096, .int .u32 651767980, .int .u32 1994146192, .int .u32 1802195444, .int .u32 1303535960, .int .u32 1342533948, .int .u32 3988292384, .int .u32 4027552580, .int .u32 3604390888, .int .u32 3412177804, .int .u32 2607071920, .int .u32 2262029012, .int .u32 2685067896, .int .u32 3183342108] t frozen
      | o => o }
theorem laid_met (os : Os) : laidMet Tryd.prog Rows.blocksReadsRow.laid ((laidWorld os).forCall (fun _ _ => 0) ⟨#[], #[.slice none 0 0, .int .i64 0, .int .i64 0], []⟩).memory :=
  laidMet_of_run' 8 (by kernel_rfl) (by kernel_rfl)
theorem reads (os : Os) {H : Type} (enc : TypeId × Value → H) : ∃ x, DataW.whole enc Tryd.prog ((laidWorld os).forCall (fun _ _ => 0) ⟨#[], #[.slice none 0 0, .int .i64 0, .int .i64 0], []⟩).memory Tryd.f3.params.toList Rows.blocksReadsSpec.vars false (#[.slice none 0 0, .int .i64 0, .int .i64 0] : Array Value).toList 8 = some ([.nil, .lit (.int .i64 0), .lit (.int .i64 0)], [], x) :=
  ⟨[], by kernel_rfl⟩

set_option maxRecDepth 100000 in
theorem lifted (os : Os) (started : os.Started) (H : Type) (enc : TypeId × Value → H) (F : Stop.Interp) :
    ReturnsInHanded {} Tryd.checked os 3 .any ((OpenSpec.ofChange Rows.blocksReadsSpec).preRow enc Tryd.prog Tryd.f3 Rows.blocksReadsRow.domain false Rows.blocksReadsRow.laid) (((OpenSpec.ofChange Rows.blocksReadsSpec).at F).post enc Tryd.prog Tryd.f3 false true false false) := by
  obtain ⟨places, hx⟩ := reads os enc
  refine returnsInHanded_of_row (C := Tryd.checked) (s := OpenSpec.ofChange Rows.blocksReadsSpec) own started (by kernel_rfl) Tryd.func3
    (witness_row_at (enc := enc) (C := Tryd.checked) false (laidWorld os) #[.slice none 0 0, .int .i64 0, .int .i64 0] rfl (by kernel_rfl) (by kernel_rfl) (by kernel_rfl)
      (OpenSpec.preRow_of_cond 8 hx (by kernel_rfl) (fun k hk => by cases hk) (by kernel_rfl) (laid_met os))) ?_
  intro W base args ds gs before hval hW _ hcond hreach hL hsh _
  exact contract H enc W base args ds gs before hval hW hL

theorem said : Rows.BlocksReadsSaid :=
  OpenClaim.holds_of_cond 3 Tryd.f3 rfl rfl rfl rfl rfl rfl rfl ⟨rfl, rfl, rfl, rfl, rfl⟩ rfl rfl rfl rfl rfl (by kernel_rfl) Tryd.func3 (by kernel_rfl)
    (of_decide_eq_true (by kernel_rfl)) (by unfold Func.isWrapper; first | (rw [if_pos (by decide +kernel)]; kernel_rfl) | (rw [if_neg (by decide +kernel)]; exact ⟨rfl, rfl⟩))
    (fun os started H enc _ F => by rw [OpenClaim.pre_eq_preRow]; exact lifted os started H enc F)

theorem plain (f : FuncId) (fn : Func) (hf : Tryd.pinned.checked.prog.funcNamed "taproot/taprootlaw10.BlocksReads" = some f) (hfn : Tryd.pinned.checked.prog.funcs[f]? = some fn) :
    false = Tryd.pinned.checked.prog.looks [] ∧ ∀ (j : Nat) t, fn.params[j]? = some t → Tryd.pinned.checked.prog.wantsStandIn t = false := by
  obtain rfl : f = 3 := Option.some.inj ((show Tryd.prog.funcNamed "taproot/taprootlaw10.BlocksReads" = some 3 by kernel_rfl).symm.trans hf) |>.symm
  obtain rfl : fn = Tryd.f3 := (Option.some.inj (Tryd.func3.symm.trans hfn)).symm
  refine ⟨by kernel_rfl, fun j t ht => ?_⟩
  rw [Tryd.params3] at ht
  have hm := Array.mem_of_getElem? ht
  simp only [List.mem_toArray, List.mem_cons, List.not_mem_nil, or_false] at hm
  rcases hm with rfl | rfl | rfl
  · exact (show Tryd.prog.wantsStandIn 22 = false by kernel_rfl)
  · exact (show Tryd.prog.wantsStandIn 3 = false by kernel_rfl)
  · exact (show Tryd.prog.wantsStandIn 3 = false by kernel_rfl)

/-- The card: the statement. -/
theorem proved : Rows.BlocksReadsCardSaid :=
  Claim7.holds_tied_plain_at .later [] _ _ _ _ said (fun _ h => by cases h) (by kernel_rfl) (fun _ h => by cases h) blocksReads_row_tie rfl ⟨rfl, rfl⟩ (by kernel_rfl) rfl plain (by kernel_rfl)
#print axioms proved
end Go.Proofs.YtaigocnnmjjhgaaDoor.blocksReads
