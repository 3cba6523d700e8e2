/-
  What was put lasts through every crash; formatted, all blocks are free.
  Conditions: none beyond the row (every argument that can be read as data); the tables that the row lists hold what the text lays, which the card ties.
-/
import Derived.Test.YtaigocnnmjjhgaaDoorPk1
import Derived.Test.YtaigocnnmjjhgaaDoorCards
import Derived.Test.YtaigocnnmjjhgaaDoorTie
import Derived.Deep.DeepHandedRow
import Derived.Lib.LaidTab
import Derived.Test.YtaigocnnmjjhgaaDoorPk2
import Derived.Test.YtaigocnnmjjhgaaDoorPk6
import Derived.Test.YtaigocnnmjjhgaaDoorPk4
import Derived.Deep.RegionHeld3
namespace Go.Proofs.YtaigocnnmjjhgaaDoor.blocksLast
open Go.ChangeShapes Go.WideShapes Go.ChangeAt Go.RowKit
open Go.ChangeMaps (open_string shut_string)
set_option linter.unusedVariables false

open Bt Cr Nv Bk Bh

theorem rests_same : ∀ i, i < 16 → ([0, 498536548, 997073096, 651767980, 1994146192, 1802195444, 1303535960, 1342533948, 3988292384, 4027552580, 3604390888, 3412177804, 2607071920, 2262029012, 2685067896, 3183342108] : List Int).getD i 0 = ((tab.getD i 0 : Nat) : Int) := by decide +kernel
/-- The table that is looked at, behind calls that make memory. -/
structure LookAt (w0 : World) (t p n : Nat) (hs : List H3) (W : World) : Prop where
  b : Below w0.heap.size w0 W
  t : Tab W t p n hs
theorem LookAt.step {w0 W W' : World} {t p n : Nat} {hs : List H3} (i : LookAt w0 t p n hs W) (hb : Below W.heap.size W W') : LookAt w0 t p n hs W' := ⟨i.b.trans (hb.mono i.b.size), i.t.below hb⟩

set_option maxRecDepth 100000 in
set_option maxHeartbeats 1000000 in
theorem walk {H : Type} {enc : TypeId × Value → H} {base : Nat} {d1 : DataW H} {p1 : List MemPlace} (a0 : Int) (a1 : Value) (a2 : Option Addr) (len2 cap2 : Nat) (z2 : List Int) (w : World) (w0 : (Lit.int .u8 a0).wf = true) (w1 : Value.okWide Tryd.prog w .any base 58 a1) (k1 : DataW.Trod enc Tryd.prog w 0 (fun _ => true) true 58 a1 d1 p1) (w2 : IsRow .u8 w a2 len2 cap2 z2) (t0 : Lib.TabIs Tryd.prog w "taproot/crc.rests" .u32 [0, 498536548, 997073096, 651767980, 1994146192, 1802195444, 1303535960, 1342533948, 3988292384, 4027552580, 3604390888, 3412177804, 2607071920, 2262029012, 2685067896, 3183342108]) :
    Calls Tryd.prog 4 #[.int .u8 a0, a1, .slice a2 len2 cap2] w fun e w' => e = .returned (.bool true) ∧ Below w.heap.size w w' := by
  have hT : HasRests w := fun i hi => by
    have := t0.cell (g := 0) (by kernel_rfl) i hi
    rw [rests_same i hi] at this
    exact this
  obtain ⟨q1, q2, q3⟩ := w2.ints
  obtain ⟨b, f, a, len, cap, hs, rfl, hh, hb⟩ := op10_of_val w1 k1
  have n0 := bounds_u8 w0
  have q3 : ∀ z ∈ List.take len2 z2, 0 ≤ z ∧ z ≤ 255 := fun z hz => bounds_u8 (q3 z hz)
  clear w0 w1 k1 w2 t0
  generalize List.take len2 z2 = cs at *
  obtain ⟨lh, hlh⟩ : ∃ lh, hs.length = lh := ⟨_, rfl⟩
  obtain rfl : len = lh := by obtain ⟨a', c', e, -⟩ := hh; rw [hlh] at e; cases e; rfl
  have HT := Lib.hid hT
  have HCS := Lib.hid (And.intro q1 (And.intro q2 q3))
  have HLS := Lib.hid hh
  have HLH := Lib.hid hlh
  have HB := Lib.hid hb
  clear hT q1 q2 q3 hh hlh hb
  have hm : 0 ≤ a0 % 9 ∧ a0 % 9 < 9 := ⟨Int.emod_nonneg _ (by decide), Int.emod_lt_of_pos _ (by decide)⟩
  go_enter Tryd.func4, Tryd.ntmps4
  go_wp2_with fail
  refine (awake10_yes _ (HT.out.below ((Below.refl _ _).alloc (Nat.le_refl _) _) (Nat.le_refl _))).mono ?_
  rintro e w1 ⟨rfl, hb⟩
  obtain ⟨b1, k1, -⟩ := boxT_of1 hb
  have B1 := Lib.hid b1
  have K1 := Lib.hid k1
  have c0 : w1.cell? ⟨w.heap.size, 0, none⟩ = some (.int .i64 b) := b1.cell 0
  have c1 : w1.cell? ⟨w.heap.size, 1, none⟩ = some (.slice a len cap) := b1.cell 1
  have c2 : w1.cell? ⟨w.heap.size, 2, none⟩ = some (.int .i64 f) := b1.cell 2
  clear hb b1 k1
  go_wp2_with fail
  have n1 := BoxT.new 58 w1 #[.int .i64 b, .slice a len cap, .int .i64 f]
  have K2 : Hid (Below w.heap.size w (w1.alloc (.cells #[.int .i64 b, .slice a len cap, .int .i64 f] 58))) := Lib.hid (K1.out.alloc K1.out.size _)
  have B2 : Hid (BoxT 58 (w1.alloc (.cells #[.int .i64 b, .slice a len cap, .int .i64 f] 58)) w.heap.size #[.int .i64 b, .slice a len cap, .int .i64 f]) := Lib.hid (B1.out.alloc _)
  refine (few10_any _ a len cap _ (n1.cell 1)).mono ?_
  rintro e w' ⟨rfl, rfl⟩
  clear n1 c0 c1 c2 K1 B1
  generalize w1.alloc (.cells #[.int .i64 b, .slice a len cap, .int .i64 f] 58) = w2 at *
  by_cases hlen : len ≤ 20
  rotate_left
  · have hd : decide (len ≤ 20) = false := decide_eq_false hlen
    rw [hd]
    clear hlen hd
    go_wp2_with fail
    go_ret
    exact ⟨rfl, K2.out⟩
  have hd : decide (len ≤ 20) = true := decide_eq_true hlen
  rw [hd]
  clear hd
  obtain ⟨N, hN⟩ : ∃ N : Nat, 2 + a0 % 9 = (N : Int) := ⟨(2 + a0 % 9).toNat, by omega⟩
  have hN2 : 2 ≤ N ∧ N ≤ 10 := by omega
  obtain ⟨hN2, hN10⟩ := hN2
  by_cases hlen2 : 100 < (len2 : Int)
  · go_wp2_with fail
    go_ret
    exact ⟨rfl, K2.out⟩
  have hl2 : len2 ≤ 100 := by omega
  have HW : Hid (∀ W, Calls Tryd.prog 21 #[.agg #[.int .i64 N]] W fun e w' => e = .returned (.int .i64 (512 * (N : Int))) ∧ Below W.heap.size W w') := Lib.hid fun W => geoWords_any N W (by omega) (by omega)
  have NW : Hid (∀ W, Calls Tryd.prog 20 #[.int .i64 (512 * (N : Int))] W (MadeDev (fresh (64 * N) fun _ => 0) W)) := Lib.hid fun W => by
    have := new_any ((512 * N : Nat) : Int) W (by omega) (by omega)
    rw [upS_nat, show linesFor (512 * N) = 64 * N by unfold linesFor; omega] at this
    rwa [show ((512 * N : Nat) : Int) = 512 * (N : Int) by omega] at this
  have B3 : Hid (BoxT 58 (w2.alloc (.cells #[.int .i64 N] 25)) w.heap.size #[.int .i64 b, .slice a len cap, .int .i64 f]) := Lib.hid (B2.out.alloc _)
  have K3 : Hid (Below w.heap.size w (w2.alloc (.cells #[.int .i64 N] 25))) := Lib.hid (K2.out.alloc K2.out.size _)
  have G3 := Lib.hid (BoxT.new 25 w2 #[.int .i64 N])
  go_wp2_with fail
  clear hN hm n0 hlen2
  generalize w2.alloc (.cells #[.int .i64 N] 25) = w3 at *
  generalize w2.heap.size = gb at *
  have HT3 : Hid (HasRests w3) := Lib.hid (HT.out.below K3.out (Nat.le_refl _))
  have LS3 : Hid (IsHs w3 (.slice a len cap) hs) := Lib.hid (HLS.out.below K3.out (Nat.le_refl _))
  have CS3 : Hid (∀ W, Below w3.heap.size w3 W → IsInts .u8 W (.slice a2 len2 cap2) cs) := Lib.hid fun W h => ((Keep.ofBelow (S := fun _ => False) (K3.out.trans (h.mono K3.out.size))).ints HCS.out.1 fun _ _ h => h)
  have CSB : Hid (cs.length = len2 ∧ ∀ k, 0 ≤ cs.getD k 0 ∧ cs.getD k 0 ≤ 255) := Lib.hid ⟨HCS.out.2.1, fun k => by
    rw [List.getD_eq_getElem?_getD]
    by_cases hk : k < cs.length
    · rw [List.getElem?_eq_getElem hk]; exact HCS.out.2.2 _ (List.getElem_mem _)
    · rw [List.getElem?_eq_none (by omega)]; exact ⟨Int.le_refl 0, (by decide : (0 : Int) ≤ 255)⟩⟩
  have OB : Hid (∀ W, Below w3.heap.size w3 W → W.cell? ⟨w.heap.size, 0, none⟩ = some (.int .i64 b) ∧ W.cell? ⟨w.heap.size, 1, none⟩ = some (.slice a len cap) ∧ W.cell? ⟨w.heap.size, 2, none⟩ = some (.int .i64 f)) := Lib.hid fun W h => by
    have := B3.out.below h B3.out.lt
    exact ⟨this.cell 0, this.cell 1, this.cell 2⟩
  have CR : Hid (∀ p f m W, DvAt w3 p f m gb N W → Calls Tryd.prog 23 #[.pointer (some ⟨p, 0, none⟩), .slice a2 len2 cap2] W fun e W' => ∃ pc fc, e = .returned (.pointer (some ⟨pc, 0, none⟩)) ∧ DvAt w3 pc fc (Nv.crash m cs) gb N W' ∧ Below W.heap.size W W') := Lib.hid fun p f m W i => by
    refine (crash_any i.d _ cs (CS3.out _ i.b) CSB.out.2 (by have := CSB.out.1; omega)).mono ?_
    intro e W' hm
    have hb := hm.choose_spec.choose_spec.2.2.1
    obtain ⟨pc, fc, he, hd⟩ := DvAt.make (n := (N : Nat)) i.b i.g hm
    exact ⟨pc, fc, he, hd, hb.below (Nat.le_refl _) fun _ h => h.elim⟩
  clear HT HLS HCS K2 B2 B3
  refine (HW.out _).mono ?_
  rintro e w4 ⟨rfl, hb⟩
  have K4 := Lib.hid hb
  have G4 := Lib.hid (G3.out.below hb G3.out.lt)
  clear hb
  go_wp2_with fail
  refine (NW.out _).mono ?_
  intro e w5 hm
  obtain ⟨p, fp, rfl, hd⟩ := DvAt.make (n := (N : Nat)) K4.out G4.out hm
  have D5 := Lib.hid hd
  have cg := hd.cell
  clear hm hd G4 K4 HW NW
  go_wp2_with fail
  refine (fmt_new hN2 (by omega) D5.out HT3.out).mono ?_
  rintro e w6 ⟨rfl, f6, hd⟩
  have D6 := Lib.hid hd
  have cg := hd.cell
  clear hd D5
  go_wp2_with fail
  have OZ : Hid (∀ p f W, DvAt w3 p f (Nv.crash (fmtM N).1 cs) gb N W → Calls Tryd.prog 10 #[.pointer (some ⟨p, 0, none⟩), .agg #[.int .i64 N]] W fun e W' => ∃ t, e = .returned (.tuple #[.pointer (some ⟨t, 0, none⟩), .int .i64 0]) ∧ Tab W' t p N (List.replicate N (0, 0, 0)) ∧ Below W.heap.size W W') := Lib.hid fun p f W i =>
    open_zero hN2 (by omega) i HT3.out (fmt_lasts hN2 (by omega) cs).1 (fmt_lasts hN2 (by omega) cs).2
  go_region_held3 (fun w' => w'.cell? ⟨gb, 0, none⟩ = some (.int .i64 N))
    (first | go_keep | exact D6.out.cell)
    (first
      | (go_at_call 23; refine (CR.out _ _ _ _ (D6.out.step (below_drewN (Below.refl _ _) 1))).mono ?_; rintro e w' ⟨pc, fc, rfl, hd, hb⟩; have DC := Lib.hid hd; have D6 := Lib.hid ((D6.out.step (below_drewN (Below.refl _ _) 1)).step hb); clear hd hb)
      | (go_at_call 10; refine (OZ.out _ _ _ DC.out).mono ?_; rintro e w' ⟨t, rfl, ht, hb⟩; have D6 := Lib.hid (D6.out.step hb); have TC := Lib.hid ht; clear ht hb DC))
  have cg := D6.out.cell
  clear OZ
  have hw1 : IntKind.i64.wrap ((N : Int) - 1) = (N : Int) - 1 := by rw [IntKind.wrap_i64]; omega
  have CNT : Hid (∀ W, Tab W t pc N (List.replicate N (0, 0, 0)) → Calls Tryd.prog 15 #[.pointer (some ⟨t, 0, none⟩), .int .i64 0] W (MadeOne (.int .i64 ((N : Int) - 1)) W)) := Lib.hid fun W h => by
    have := tabCount_any h (by simp; omega) 0
    rw [countTo_all _ (fun i h1 h2 => by unfold kindAt; rw [List.getD_eq_getElem?_getD, List.getElem?_replicate]; split <;> rfl)] at this
    rw [List.length_replicate, show ((N - 1 : Nat) : Int) = (N : Int) - 1 by omega] at this
    exact this
  go_wp2_with fail
  go_region_held3 (fun w' => w'.cell? ⟨gb, 0, none⟩ = some (.int .i64 N))
    (first | go_keep | exact D6.out.cell)
    (first
      | (go_at_call 15; refine (CNT.out _ (TC.out.below (below_drewN (Below.refl _ _) 1))).mono ?_; rintro e w' ⟨rfl, hb⟩; have D6 := Lib.hid ((D6.out.step (below_drewN (Below.refl _ _) 1)).step hb); clear hb TC))
  have cg := D6.out.cell
  clear CNT hw1
  go_wp2_with fail
  have FA := Lib.hid (fmt_all hN2 (by omega : N ≤ 256))
  have OP : Hid (∀ W, DvAt w3 p f6 (fmtM N).1 gb N W → Calls Tryd.prog 10 #[.pointer (some ⟨p, 0, none⟩), .agg #[.int .i64 N]] W fun e W' => ∃ t, e = .returned (.tuple #[.pointer (some ⟨t, 0, none⟩), .int .i64 0]) ∧ ∃ rb cap, PutAt w3 p f6 (fmtM N).1 t N rb cap (hdrs (fmtM N).1.now N) W') := Lib.hid fun W i => by
    refine (blkOpen_own i.d N (fun j h2 h3 => by rw [FA.out.2.2.2 j h2 h3]; exact zeroX_lt j) hN2 (by omega) (by have := FA.out.1; omega) (HT3.out.below i.b (Nat.le_refl _))).mono ?_
    rintro e W' ⟨v, he, hv, hb⟩
    obtain ⟨g1, g2⟩ := zero_hdrs FA.out.2.2.2
    rw [g1] at hv
    obtain ⟨t, rfl, ht⟩ := hv
    exact ⟨t, by rw [he, (read_good g1).2.2]; rfl, PutAt.ofOpen i ht (by omega) hb⟩
  refine (OP.out _ D6.out).mono ?_
  rintro e w7 ⟨t2, rfl, rb, rcap, hp⟩
  have P7 := Lib.hid hp
  obtain ⟨o0, o1, o2⟩ := OB.out _ hp.b
  have hPR := blkPut_any hp HT3.out (by omega) (by have := FA.out.1; omega) (Int.lt_of_le_of_lt (put_steps _ _ _ _) (by show (0 : Int) + 3 * _ + 3 < _; omega)) (.slice a len cap) hs LS3.out (by have := HLH.out; omega) b HB.out.2
  have PR := Lib.hid hPR
  clear hp hPR OP D6 cg
  go_wp2_with fail
  refine PR.out.mono ?_
  rintro e w8 ⟨rfl, f8, hp⟩
  have HRR : Hid (∀ m1, (putR (fmtM N).1 N (hdrs (fmtM N).1.now N) b hs).1 = (m1, 0) → m1.L = 64 * N ∧ hasB N b hs.length = true ∧ firstBad (Nv.crash m1 cs).now N = none ∧ (∀ j, 256 < j → j < 256 + N → 0 ≤ (Nv.crash m1 cs).now j ∧ (Nv.crash m1 cs).now j < 2 ^ 64) ∧ ∀ i : Nat, i < hs.length → hAt (hdrs (Nv.crash m1 cs).now N) (b + i) = hs.getD i (0, 0, 0)) := Lib.hid fun m1 h => put_lasts hN2 (by omega) h cs
  generalize putR (fmtM N).1 N (hdrs (fmtM N).1.now N) b hs = r at hp HRR ⊢
  obtain ⟨⟨m1, code⟩, hs1⟩ := r
  have P8 := Lib.hid hp
  clear hp P7 PR o0 o1 o2 FA
  by_cases hc : code = 0
  rotate_left
  · have hcb : ((code : Int) != 0) = true := by simpa using hc
    have hcc : ((code : Int) == 0) = false := by simpa using hc
    have KF : Hid (Below w.heap.size w w8) := Lib.hid (K3.out.trans (P8.out.b.mono K3.out.size))
    clear hc
    go_wp2_with fail
    go_ret
    exact ⟨rfl, KF.out⟩
  subst hc
  obtain ⟨l1, l2, l3, l4, l5⟩ := HRR.out m1 rfl
  have DV : Hid (DvAt w3 p f8 m1 gb N w8) := Lib.hid ⟨P8.out.b, P8.out.d, P8.out.o, G3.out.below P8.out.b G3.out.lt, fun e => by have := P8.out.o _ e; have := G3.out.lt; omega⟩
  have cg := DV.out.cell
  have L5 := Lib.hid l5
  have hbN : 1 ≤ b ∧ b + len ≤ N := by have := l2; rw [HLH.out] at this; unfold hasB at this; have := of_decide_eq_true this; omega
  have OX : Hid (∀ pc fc W, DvAt w3 pc fc (Nv.crash m1 cs) gb N W → Calls Tryd.prog 10 #[.pointer (some ⟨pc, 0, none⟩), .agg #[.int .i64 N]] W fun e W' => ∃ t, e = .returned (.tuple #[.pointer (some ⟨t, 0, none⟩), .int .i64 0]) ∧ Tab W' t pc N (hdrs (Nv.crash m1 cs).now N) ∧ Below W.heap.size W W') := Lib.hid fun pc fc W i => by
    refine (blkOpen_any i.d N l4 hN2 (by omega) (by have := crash_L m1 cs; omega) (HT3.out.below i.b (Nat.le_refl _))).mono ?_
    rintro e W' ⟨v, he, hv, hb⟩
    rw [l3] at hv
    obtain ⟨t, rfl, ht⟩ := hv
    exact ⟨t, by rw [he, (read_good l3).2.2]; rfl, ht, hb⟩
  clear HRR P8 l1 l2 l3 l4 l5
  go_wp2_with fail
  go_region_held3 (fun w' => w'.cell? ⟨gb, 0, none⟩ = some (.int .i64 N))
    (first | go_keep | exact DV.out.cell)
    (first
      | (go_at_call 23; refine (CR.out _ _ _ _ (DV.out.step (below_drewN (Below.refl _ _) 1))).mono ?_; rintro e w' ⟨px, fx, rfl, hd, hb⟩; have DC := Lib.hid hd; have DV := Lib.hid ((DV.out.step (below_drewN (Below.refl _ _) 1)).step hb); clear hd hb)
      | (go_at_call 10; refine (OX.out _ _ _ DC.out).mono ?_; rintro e w' ⟨tx, rfl, ht, hb⟩; have DV := Lib.hid (DV.out.step hb); have TX := Lib.hid ht; clear ht hb DC))
  clear OX CR cg
  have KX := Lib.hid DV.out.b
  clear DV
  go_wp2_with fail
  have HXN := Lib.hid (hdrs_len (Nv.crash m1 cs).now N)
  generalize hdrs (Nv.crash m1 cs).now N = hx at TX L5 HXN
  have LK : Hid (LookAt w3 tx px N hx w') := Lib.hid ⟨KX.out, TX.out⟩
  have HXL : Hid (hx.length ≤ 100000) := Lib.hid (by have := HXN.out; omega)
  clear KX TX
  go_loopw [12] (fun i wr => ∃ q : Nat, q ≤ len ∧ i = .int .i64 q ∧ Hid (LookAt w3 tx px N hx wr)) (fun i _ => len - (intOf i).toNat)
  case atStart => exact ⟨0, by omega, rfl, LK⟩
  case round =>
    obtain ⟨q, hq, rfl, HI⟩ := hrel
    obtain ⟨o0, o1, o2⟩ := OB.out _ HI.out.b
    by_cases hlt : q < len
    · have hlt' : (q : Int) < (len : Int) := by omega
      have hq0 : (0 : Int) ≤ (q : Int) := by omega
      have hwr : IntKind.i64.wrap (b + (q : Int)) = b + (q : Int) := by rw [IntKind.wrap_i64]; omega
      obtain ⟨a', cap', ev, -, hcx⟩ := LS3.out
      obtain ⟨lb, off, ha, hlb, hcell⟩ := hcx.resolve_left (fun h => by have := HLH.out; rw [h] at this; simp at this; omega)
      subst ha
      obtain rfl : a = some ⟨lb, off, none⟩ := by cases ev; rfl
      obtain ⟨e0, e1, e2⟩ := hcell q (by rw [HLH.out]; exact hlt)
      have LC : Hid (∀ W, Below w3.heap.size w3 W → W.cell? ⟨lb, off + q * 3, none⟩ = some (.int .i64 (hs.getD q (0, 0, 0)).1) ∧ W.cell? ⟨lb, off + q * 3 + 1, none⟩ = some (.int .i64 (hs.getD q (0, 0, 0)).2.1) ∧ W.cell? ⟨lb, off + q * 3 + 2, none⟩ = some (.int .i64 (hs.getD q (0, 0, 0)).2.2)) := Lib.hid fun W h =>
        ⟨(h.cell (p := ⟨lb, off + q * 3, none⟩) hlb).trans e0, (h.cell (p := ⟨lb, off + q * 3 + 1, none⟩) hlb).trans e1, (h.cell (p := ⟨lb, off + q * 3 + 2, none⟩) hlb).trans e2⟩
      have hgq := L5.out q (by rw [HLH.out]; exact hlt)
      have GET : Hid (∀ W, Tab W tx px N hx → Calls Tryd.prog 14 #[.pointer (some ⟨tx, 0, none⟩), .int .i64 (b + (q : Int))] W (MadeOne (.agg #[.int .i64 (hs.getD q (0, 0, 0)).1, .int .i64 (hs.getD q (0, 0, 0)).2.1, .int .i64 (hs.getD q (0, 0, 0)).2.2]) W)) := Lib.hid fun W h => by
        have := tabGet_any h HXL.out (b + (q : Int))
        rwa [hgq] at this
      clear hcx hcell e0 e1 e2 ev hgq
      generalize hs.getD q (0, 0, 0) = z at *
      obtain ⟨z0, z1, z2⟩ := z
      have heq : ∀ w' : World, (Op.equalIn 10000 48 (.agg #[.int .i64 z0, .int .i64 z1, .int .i64 z2]) (.agg #[.int .i64 z0, .int .i64 z1, .int .i64 z2])).run Tryd.prog w' = .ok true w' := fun w' => by rw [eq3V]; simp
      have FC : Hid (∀ W, LookAt w3 tx px N hx W → W.cell? ⟨w.heap.size, 0, none⟩ = some (.int .i64 b) ∧ W.cell? ⟨w.heap.size, 1, none⟩ = some (.slice (some ⟨lb, off, none⟩) len cap) ∧ W.cell? ⟨lb, off + q * 3, none⟩ = some (.int .i64 z0) ∧ W.cell? ⟨lb, off + q * 3 + 1, none⟩ = some (.int .i64 z1) ∧ W.cell? ⟨lb, off + q * 3 + 2, none⟩ = some (.int .i64 z2)) := Lib.hid fun W h => by
        obtain ⟨p0, p1, -⟩ := OB.out _ h.b
        obtain ⟨p3, p4, p5⟩ := LC.out _ h.b
        exact ⟨p0, p1, p3, p4, p5⟩
      obtain ⟨f0, f1, f2, f3, f4⟩ := FC.out _ HI.out
      clear LC o0 o1 o2
      go_wp2_with fail
      go_region_held3 (fun w' => w'.cell? ⟨w.heap.size, 0, none⟩ = some (.int .i64 b) ∧ w'.cell? ⟨w.heap.size, 1, none⟩ = some (.slice (some ⟨lb, off, none⟩) len cap) ∧ w'.cell? ⟨lb, off + q * 3, none⟩ = some (.int .i64 z0) ∧ w'.cell? ⟨lb, off + q * 3 + 1, none⟩ = some (.int .i64 z1) ∧ w'.cell? ⟨lb, off + q * 3 + 2, none⟩ = some (.int .i64 z2))
        (first | go_keep | exact FC.out _ HI.out)
        (first
          | (go_at_call 14; (try rw [hwr]); refine (GET.out _ (HI.out.step (below_drewN (Below.refl _ _) 1)).t).mono ?_; rintro e w' ⟨rfl, hb⟩; have HI := Lib.hid ((HI.out.step (below_drewN (Below.refl _ _) 1)).step hb); clear hb))
      go_wp2_with fail
      go_roundw
      case rel => exact ⟨q + 1, by omega, by go_num, HI⟩
      case measure => simp [intOf]; omega
    · have hlt' : ¬ (q : Int) < (len : Int) := by omega
      have KF : Hid (Below w.heap.size w wr) := Lib.hid (K3.out.trans (HI.out.b.mono K3.out.size))
      clear hlt
      go_wp2_with fail
      go_ret
      exact ⟨rfl, KF.out⟩

theorem gTab0 : Tryd.prog.globalNamed "taproot/crc.rests" = some 0 := by kernel_rfl
theorem gType0 : (Tryd.prog.globals[0]?).map (·.type) = some 128 := by kernel_rfl
theorem table0 {W : World} (h : laidMetH Tryd.prog Rows.blocksLastRow.laid W) : Lib.TabIs Tryd.prog W "taproot/crc.rests" .u32 [0, 498536548, 997073096, 651767980, 1994146192, 1802195444, 1303535960, 1342533948, 3988292384, 4027552580, 3604390888, 3412177804, 2607071920, 2262029012, 2685067896, 3183342108] :=
  Lib.tabIs_of_head gTab0 gType0 Tryd.underlying128 Tryd.underlying97 (by kernel_rfl) (by kernel_rfl) h

set_option maxRecDepth 100000 in
theorem contract (H : Type) (enc : TypeId × Value → H) (W : World) (base : Nat) (args : Array Value) (ds gs : List (DataW H)) (before : List MemPlace)
    (hval : ∀ (j : Nat) t v, Tryd.f4.params[j]? = some t → args[j]? = some v → Value.okWide Tryd.prog W .any base t v)
    (hW : DataW.Whole enc Tryd.prog Tryd.f4.params.toList Rows.blocksLastSpec.vars false W args.toList ds gs before) (hL : laidMetH Tryd.prog Rows.blocksLastRow.laid W) :
    Calls Tryd.prog 4 args W fun e W' => ∃ v, e = .returned v ∧ Rows.blocksLastSpec.post enc Tryd.prog Tryd.f4 false true false false W args v W' := by
  have hW' := hW
  obtain ⟨p, q, hA0, hV, rfl, hfz, hnd⟩ := hW
  have hA : DataW.TrodAll enc Tryd.prog W 0 (fun _ => true) true Tryd.f4.params.toList args.toList ds p := hA0
  rw [Tryd.params4] at hA hval
  obtain ⟨v0, vs0, d0, ds0, p0, q0, hargs, rfl, rfl, h0, r0⟩ := trodAll_cons hA
  obtain ⟨v1, vs1, d1, ds1, p1, q1, rfl, rfl, rfl, h1, r1⟩ := trodAll_cons r0
  obtain ⟨v2, vs2, d2, ds2, p2, q2, rfl, rfl, rfl, h2, r2⟩ := trodAll_cons r1
  obtain ⟨rfl, rfl, rfl⟩ := trodAll_nil r2
  obtain rfl : args = #[v0, v1, v2] := by cases args; simp_all
  obtain ⟨rfl, rfl⟩ := trodVars_none hV
  obtain ⟨a0, rfl, rfl, rfl, w0⟩ := open_int Tryd.underlying5 (hval 0 5 v0 rfl rfl) h0
  have k1 := h1
  have lt1 : ∀ x ∈ p1, x.block < W.heap.size := by obtain ⟨m, hm⟩ := k1; exact DataW.trod_lt m _ _ _ hm
  obtain ⟨a2, len2, cap2, rfl⟩ := okWide_slice Tryd.underlying59 (hval 2 59 v2 rfl rfl)
  have k2 := h2
  have lt2 : ∀ x ∈ p2, x.block < W.heap.size := by obtain ⟨m, hm⟩ := k2; exact DataW.trod_lt m _ _ _ hm
  obtain ⟨z2, w2⟩ : ∃ zs, IsRow .u8 W a2 len2 cap2 zs := isRow_of Tryd.underlying59 Tryd.underlying5 (by kernel_rfl) h2
  clear hA0
  refine (walk a0 v1 a2 len2 cap2 z2 W w0 (hval 1 58 v1 rfl rfl) k1 w2 (table0 hL)).mono fun e W' ⟨he, bel⟩ => ?_
  subst he
  exact ⟨_, rfl, _, _, _, [], _, [], hW', trodAll_mk1 (shut_bool Tryd.underlying4 _), (trodAll_cons_mk (shut_int Tryd.underlying5 w0) (trodAll_cons_mk (Below.trod laidOut (by kernel_rfl) (of_decide_eq_true (by kernel_rfl)) k1 bel lt1) (trodAll_cons_mk (Below.trod laidOut (by kernel_rfl) (of_decide_eq_true (by kernel_rfl)) k2 bel lt2) trodAll_mk0))), rfl, bel.frame _, fun h => by cases h⟩

noncomputable def laidWorld (os : Os) : World :=
  { World.holding Tryd.prog os ⟨#[], #[], []⟩ with heap := ((World.holding Tryd.prog os ⟨#[], #[], []⟩).heap).modify 0 fun
      | .cells _ t frozen => .cells #[.int .u32 0, .int .u32 498536548, .int .u32 997073096, .int .u32 651767980, .int .u32 1994146192, .int .u32 1802195444, .int .u32 1303535960, .int .u32 1342533948, .int .u32 3988292384, .int .u32 4027552580, .int .u32 3604390888, .int .u32 3412177804, .int .u32 2607071920, .int .u32 2262029012, .int .u32 2685067896, .int .u32 3183342108] t frozen
      | o => o }
theorem laid_met (os : Os) : laidMet Tryd.prog Rows.blocksLastRow.laid ((laidWorld os).forCall (fun _ _ => 0) ⟨#[], #[.int .u8 0, .agg #[.int .i64 0, .slice none 0 0, .int .i64 0], .slice none 0 0], []⟩).memory :=
  laidMet_of_run' 8 (by kernel_rfl) (by kernel_rfl)
theorem reads (os : Os) {H : Type} (enc : TypeId × Value → H) : ∃ x, DataW.whole enc Tryd.prog ((laidWorld os).forCall (fun _ _ => 0) ⟨#[], #[.int .u8 0, .agg #[.int .i64 0, .slice none 0 0, .int .i64 0], .slice none 0 0], []⟩).memory Tryd.f4.params.toList Rows.blocksLastSpec.vars false (#[.int .u8 0, .agg #[.int .i64 0, .slice none 0 0, .int .i64 0], .slice none 0 0] : Array Value).toList 8 = some ([.lit (.int .u8 0), .agg [.lit (.int .i64 0), .nil, .lit (.int .i64 0)], .nil], [], x) :=
  ⟨[], by kernel_rfl⟩

set_option maxRecDepth 100000 in
theorem lifted (os : Os) (started : os.Started) (H : Type) (enc : TypeId × Value → H) (F : Stop.Interp) :
    ReturnsInHanded {} Tryd.checked os 4 .any ((OpenSpec.ofChange Rows.blocksLastSpec).preRow enc Tryd.prog Tryd.f4 Rows.blocksLastRow.domain false Rows.blocksLastRow.laid) (((OpenSpec.ofChange Rows.blocksLastSpec).at F).post enc Tryd.prog Tryd.f4 false true false false) := by
  obtain ⟨places, hx⟩ := reads os enc
  refine returnsInHanded_of_row (C := Tryd.checked) (s := OpenSpec.ofChange Rows.blocksLastSpec) own started (by kernel_rfl) Tryd.func4
    (witness_row_at (enc := enc) (C := Tryd.checked) false (laidWorld os) #[.int .u8 0, .agg #[.int .i64 0, .slice none 0 0, .int .i64 0], .slice none 0 0] rfl (by kernel_rfl) (by kernel_rfl) (by kernel_rfl)
      (OpenSpec.preRow_of_cond 8 hx (by kernel_rfl) (fun k hk => by cases hk) (by kernel_rfl) (laid_met os))) ?_
  intro W base args ds gs before hval hW _ hcond hreach hL hsh _
  exact contract H enc W base args ds gs before hval hW hL

theorem said : Rows.BlocksLastSaid :=
  OpenClaim.holds_of_cond 4 Tryd.f4 rfl rfl rfl rfl rfl rfl rfl ⟨rfl, rfl, rfl, rfl, rfl⟩ rfl rfl rfl rfl rfl (by kernel_rfl) Tryd.func4 (by kernel_rfl)
    (of_decide_eq_true (by kernel_rfl)) (by unfold Func.isWrapper; first | (rw [if_pos (by decide +kernel)]; kernel_rfl) | (rw [if_neg (by decide +kernel)]; exact ⟨rfl, rfl⟩))
    (fun os started H enc _ F => by rw [OpenClaim.pre_eq_preRow]; exact lifted os started H enc F)

theorem plain (f : FuncId) (fn : Func) (hf : Tryd.pinned.checked.prog.funcNamed "taproot/taprootlaw10.BlocksLast" = some f) (hfn : Tryd.pinned.checked.prog.funcs[f]? = some fn) :
    false = Tryd.pinned.checked.prog.looks [] ∧ ∀ (j : Nat) t, fn.params[j]? = some t → Tryd.pinned.checked.prog.wantsStandIn t = false := by
  obtain rfl : f = 4 := Option.some.inj ((show Tryd.prog.funcNamed "taproot/taprootlaw10.BlocksLast" = some 4 by kernel_rfl).symm.trans hf) |>.symm
  obtain rfl : fn = Tryd.f4 := (Option.some.inj (Tryd.func4.symm.trans hfn)).symm
  refine ⟨by kernel_rfl, fun j t ht => ?_⟩
  rw [Tryd.params4] at ht
  have hm := Array.mem_of_getElem? ht
  simp only [List.mem_toArray, List.mem_cons, List.not_mem_nil, or_false] at hm
  rcases hm with rfl | rfl | rfl
  · exact (show Tryd.prog.wantsStandIn 5 = false by kernel_rfl)
  · exact (show Tryd.prog.wantsStandIn 58 = false by kernel_rfl)
  · exact (show Tryd.prog.wantsStandIn 59 = false by kernel_rfl)

/-- The card: the statement. -/
theorem proved : Rows.BlocksLastCardSaid :=
  Claim7.holds_tied_plain_at .later [] _ _ _ _ said (fun _ h => by cases h) (by kernel_rfl) (fun _ h => by cases h) blocksLast_row_tie rfl ⟨rfl, rfl⟩ (by kernel_rfl) rfl plain (by kernel_rfl)
#print axioms proved
end Go.Proofs.YtaigocnnmjjhgaaDoor.blocksLast
