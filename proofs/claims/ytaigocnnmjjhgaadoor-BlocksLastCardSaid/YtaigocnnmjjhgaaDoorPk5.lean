/- Texts of the proof, merged: BlkRead, BlkTab, BlkHas, RefSpans10, BlkSpans, NvmInv, NvmLast, BlockDev, BlkStore, BlockPut, BlkFormat. -/
import Derived.Test.YtaigocnnmjjhgaaDoorPk3
import Derived.Test.YtaigocnnmjjhgaaDoorPk4
import Derived.Test.YtaigocnnmjjhgaaDoorPk2
import Derived.Test.YtaigocnnmjjhgaaDoorPk1
import Derived.Deep.RegionHeld3
namespace Go.Proofs.YtaigocnnmjjhgaaDoor
open Go.ChangeShapes Go.WideShapes Go.ChangeAt Go.RowKit Bk Bh Nv
set_option linter.unusedVariables false

theorem infoBH : (Tryd.prog.info? 48).map (fun i => (i.zero, i.size, i.bytes)) = some (some (.agg #[.int .i64 0, .int .i64 0, .int .i64 0]), 3, 24) := by kernel_rfl

set_option maxHeartbeats 1000000 in
/-- What load tells of block q, behind q blocks that are right. -/
theorem load_next {w : World} {p : Nat} {f : Fp} {m : Mdl} (h : Dev w p f m) (n q : Nat) (hv : ∀ j, 256 < j → j < 256 + n → 0 ≤ m.now j ∧ m.now j < 2 ^ 64) (hq : q < n) (hn : n ≤ 256) (hL : 512 * n ≤ 8 * m.L) (hT : HasRests w) (ho : ∀ b, 1 ≤ b → b < q → badAt m.now b = false) :
    ∃ kk kc kl code : Nat, (∀ W, Below w.heap.size w W → Calls Tryd.prog 26 #[.pointer (some ⟨p, 0, none⟩), .agg #[.int .i64 n], .int .i64 q] W
      fun e w' => e = .returned (.tuple #[.agg #[.int .i64 kk, .int .i64 kc, .int .i64 kl], .int .i64 code]) ∧ Below W.heap.size W w') ∧
      hdrs m.now (q + 1) = hdrs m.now q ++ [((kk : Int), (kc : Int), (kl : Int))] ∧ (code = 0 → ∀ b, 1 ≤ b → b < q + 1 → badAt m.now b = false) ∧ (code ≠ 0 → firstBad m.now n = some q) := by
  by_cases h0 : q = 0
  · subst h0
    exact ⟨0, 0, 0, 0, fun W _ => blkLoad_zero _ _ W, rfl, fun _ b h1 h2 => by omega, fun h => absurd rfl h⟩
  · have hcode : badAt m.now q = decide (codeN (m.now (256 + q)).toNat (256 + q) ≠ 0) := rfl
    refine ⟨okK (m.now (256 + q)).toNat (256 + q), okC (m.now (256 + q)).toNat (256 + q), okL (m.now (256 + q)).toNat (256 + q), codeN (m.now (256 + q)).toNat (256 + q), fun W hW => ?_, hdrs_succ m.now (by omega), fun hc b hb1 hb2 => ?_, fun hc => firstBad_at (by omega) hq (by rw [hcode]; simpa using hc) ho⟩
    · exact blkLoad_at (h.below hW) n q hv (by omega) hq hn hL (hT.below hW (Nat.le_refl _))
    · by_cases e : b = q
      · subst e; rw [hcode, hc]; rfl
      · exact ho b hb1 (by omega)

/-- All headers, in a row of the call's own, or the first block that has none. -/
def ReadOwn (f : Nat → Int) (n : Nat) (w : World) (e : Ending) (w' : World) : Prop :=
  ∃ v, e = .returned (.tuple #[v, .int .i64 (readB f n : Nat), .int .i64 (readE f n : Nat)]) ∧ w'.ownsRow w.heap.size 48 3 v (readL f n).length ((flat3 (readL f n)).map (Value.int .i64)) ∧ Below w.heap.size w w'
theorem own_base {w : World} {base base' size n : Nat} {e : TypeId} {v : Value} {xs : List Value} (h : w.ownsRow base e size v n xs) (hb : base' ≤ base) : w.ownsRow base' e size v n xs := by
  obtain ⟨hl, h⟩ := h
  refine ⟨hl, ?_⟩
  rcases h with h | ⟨g, cap, cur, h1, h2, h3⟩
  · exact .inl h
  · exact .inr ⟨g, cap, cur, h1, Nat.le_trans hb h2, h3⟩

set_option maxRecDepth 100000 in
set_option maxHeartbeats 4000000 in
theorem blkRead_own {w : World} {p : Nat} {f : Fp} {m : Mdl} (h : Dev w p f m) (n : Nat) (hv : ∀ j, 256 < j → j < 256 + n → 0 ≤ m.now j ∧ m.now j < 2 ^ 64) (h1 : 2 ≤ n) (hn : n ≤ 256) (hL : 512 * n ≤ 8 * m.L) (hT : HasRests w) :
    Calls Tryd.prog 8 #[.pointer (some ⟨p, 0, none⟩), .agg #[.int .i64 n]] w (ReadOwn m.now n w) := by
  obtain ⟨i0, hi, hz0, hz1, hz2⟩ := info_parts infoBH
  have LD := Lib.hid (fun q => load_next h n q hv)
  have HT := Lib.hid hT
  have s0 : (w.alloc (.cells #[.int .i64 n] 25)).heap.size = w.heap.size + 1 := by simp
  have X0 : Hid ((w.alloc (.cells #[.int .i64 n] 25)).cell? ⟨w.heap.size, 0, none⟩ = some (.int .i64 n)) := Lib.hid (box1_cell _ _ _)
  have BW : Hid (Below w.heap.size w (w.alloc (.cells #[.int .i64 n] 25))) := Lib.hid ((Below.refl w.heap.size w).alloc (Nat.le_refl _) _)
  have H0 : Hid (HsAt 48 (hdrs m.now 0) 0 (w.alloc (.cells #[.int .i64 n] 25)).heap.size (.slice none 0 0) (w.alloc (.cells #[.int .i64 n] 25)) (w.alloc (.cells #[.int .i64 n] 25))) := Lib.hid ⟨World.ownsRow_nil _ _ _ _, Below.refl _ _⟩
  have cg := X0.out
  clear h hT
  go_enter Tryd.func8, Tryd.ntmps8
  go_wp2_with fail
  clear cg
  generalize w.alloc (.cells #[.int .i64 n] 25) = w0 at *
  go_loopw [7, 8, 9, 10, 13] (fun v _ _ _ i wr => ∃ q : Nat, q ≤ n ∧ i = .int .i64 q ∧ Hid (HsAt 48 (hdrs m.now q) q w0.heap.size v w0 wr) ∧ Hid (∀ b, 1 ≤ b → b < q → badAt m.now b = false)) (fun _ _ _ _ i _ => n - (intOf i).toNat)
  case atStart => exact ⟨0, by omega, rfl, H0, Lib.hid (by omega)⟩
  case round =>
    obtain ⟨q, hq, rfl, HR, HO⟩ := hrel
    by_cases hlt : q < n
    · have hlt' : ((q : Nat) : Int) < ((n : Nat) : Int) := by omega
      have hbw : Below w.heap.size w wr := BW.out.trans (HR.out.2.mono (by omega))
      have x1 : wr.cell? ⟨w.heap.size, 0, none⟩ = some (.int .i64 n) := (HR.out.2.cell (p := ⟨w.heap.size, 0, none⟩) (by show w.heap.size < w0.heap.size; omega)).trans X0.out
      obtain ⟨kk, kc, kl, code, hcall, hsu, hok, hbad⟩ := LD.out q hlt hn hL HT.out HO.out
      have HC := Lib.hid (hcall wr hbw)
      have HSU := Lib.hid hsu
      have HOK := Lib.hid hok
      have HBAD := Lib.hid hbad
      clear hcall hsu hok hbad hbw HO
      go_wp2_with fail
      refine HC.out.mono ?_
      rintro e w2 ⟨rfl, hb2⟩
      have R2 := Lib.hid (HR.out.on hb2 (Nat.le_refl _))
      have hs2 := R2.out.2.size
      have R3 : Hid (HsAt 48 (hdrs m.now q) q w0.heap.size u7 w0 (w2.alloc (.cells #[.int .i64 kk, .int .i64 kc, .int .i64 kl] 48))) := Lib.hid (R2.out.on ((Below.refl _ _).alloc (Nat.le_refl _) _) (Nat.le_refl _))
      clear hb2 HR x1 R2 HC
      by_cases hc : code = 0
      · subst hc
        have HO' := Lib.hid (HOK.out rfl)
        go_wp2_with (at_builtin; refine wpList_append_own _ rfl (.tmp 26) (.tmp 28) 33 rfl w0.heap.size 48 i0 _ 3 24 Tryd.underlying33 hi hz0 hz1 hz2 rfl (by decide) _ _ _ rfl (R3.out.1.alloc _) ⟨w2.heap.size + 1, 0, none⟩ 1 1 [.int .i64 kk, .int .i64 kc, .int .i64 kl] rfl rfl (by have := three_new (w2.alloc (.cells #[.int .i64 kk, .int .i64 kc, .int .i64 kl] 48)) 48 (.int .i64 kk) (.int .i64 kc) (.int .i64 kl); rwa [World.size_alloc] at this) (by intro u hu; simp at hu; rcases hu with rfl | rfl | rfl <;> rfl) (by unfold maxLen; omega) (by omega) (by simp; omega) ?_)
        intro v' w3 hown' hgrow _
        rw [← s0] at hown'
        have HN1 : Hid (HsAt 48 (hdrs m.now (q + 1)) (q + 1) w0.heap.size v' w0 w3) := Lib.hid (by rw [HSU.out]; exact R3.out.snoc (by simp; omega) hown' hgrow)
        clear hown' hgrow R3
        go_wp2_with fail
        go_roundw
        case rel => exact ⟨q + 1, by omega, by go_num, HN1, HO'⟩
        case measure => simp [intOf]; omega
      · have hd : ((code : Int) == 0) = false := by simp; omega
        have hd' : ((code : Int) != 0) = true := by simp; omega
        have HB := Lib.hid (read_bad (HBAD.out hc))
        have HBW : Hid (Below w.heap.size w (w2.alloc (.cells #[.int .i64 kk, .int .i64 kc, .int .i64 kl] 48))) := Lib.hid (BW.out.trans (R3.out.2.mono (by omega)))
        clear hc
        go_wp2_with fail
        exact bodyPost_ret (v := .tuple #[.slice none 0 0, .int .i64 q, .int .i64 21]) (by simp [results, Tryd.results8, go_sem]) rfl ⟨_, by rw [HB.out.2.1, HB.out.2.2]; rfl, by rw [HB.out.1]; exact World.ownsRow_nil _ _ _ _, HBW.out⟩
    · have hlt' : ¬ ((q : Nat) : Int) < ((n : Nat) : Int) := by omega
      obtain rfl : q = n := by omega
      have HB := Lib.hid (read_good (firstBad_none HO.out))
      clear hlt
      go_wp2_with fail
      exact bodyPost_ret (v := .tuple #[u7, .int .i64 0, .int .i64 0]) (by simp [results, Tryd.results8, go_sem]) rfl ⟨_, by rw [HB.out.2.1, HB.out.2.2]; rfl, by rw [HB.out.1, hdrs_len]; exact own_base HR.out.1 (by omega), BW.out.trans (HR.out.2.mono (by omega))⟩

theorem blkRead_any {w : World} {p : Nat} {f : Fp} {m : Mdl} (h : Dev w p f m) (n : Nat) (hv : ∀ j, 256 < j → j < 256 + n → 0 ≤ m.now j ∧ m.now j < 2 ^ 64) (h1 : 2 ≤ n) (hn : n ≤ 256) (hL : 512 * n ≤ 8 * m.L) (hT : HasRests w) :
    Calls Tryd.prog 8 #[.pointer (some ⟨p, 0, none⟩), .agg #[.int .i64 n]] w (ReadIs m.now n w) := by
  refine (blkRead_own h n hv h1 hn hL hT).mono ?_
  rintro e w' ⟨v, he, ho, hb⟩
  exact ⟨v, he, .of_own ho rfl, hb⟩

end Go.Proofs.YtaigocnnmjjhgaaDoor

namespace Go.Proofs.YtaigocnnmjjhgaaDoor
open Go.ChangeShapes Go.WideShapes Go.ChangeAt Go.RowKit Bk Bh Nv
set_option linter.unusedVariables false

/-- The table at block t, over the device at block p, of these headers. -/
def Tab (w : World) (t p n : Nat) (hs : List H3) : Prop := ∃ v, BoxT 83 w t #[.pointer (some ⟨p, 0, none⟩), .int .i64 n, v] ∧ IsHs w v hs

def TabOpens (p : Nat) (f : Nat → Int) (n : Nat) (w : World) (e : Ending) (w' : World) : Prop :=
  ∃ v, e = .returned (.tuple #[v, .int .i64 (readE f n : Nat)]) ∧ (if (firstBad f n).isSome = true then v = .pointer none else ∃ t, v = .pointer (some ⟨t, 0, none⟩) ∧ Tab w' t p n (hdrs f n)) ∧ Below w.heap.size w w'

/-- A table that a call made, over the device at block p: the headers' row is its own. -/
structure TabOwn (w w' : World) (t p n : Nat) (hs : List H3) : Prop where
  x : ∃ v, BoxT 83 w' t #[.pointer (some ⟨p, 0, none⟩), .int .i64 n, v] ∧ w'.ownsRow w.heap.size 48 3 v n ((flat3 hs).map (Value.int .i64)) ∧ ∀ b, v.ownBlock = some b → b < t
  ge : w.heap.size ≤ t
  len : hs.length = n
theorem TabOwn.tab {w w' : World} {t p n : Nat} {hs : List H3} (h : TabOwn w w' t p n hs) : Tab w' t p n hs := by
  obtain ⟨v, hx, ho, -⟩ := h.x
  exact ⟨v, hx, .of_own ho h.len.symm⟩
def OpensOwn (p : Nat) (f : Nat → Int) (n : Nat) (w : World) (e : Ending) (w' : World) : Prop :=
  ∃ v, e = .returned (.tuple #[v, .int .i64 (readE f n : Nat)]) ∧ (if (firstBad f n).isSome = true then v = .pointer none else ∃ t, v = .pointer (some ⟨t, 0, none⟩) ∧ TabOwn w w' t p n (hdrs f n)) ∧ Below w.heap.size w w'

theorem Tab.below {w w' : World} {t p n : Nat} {hs : List H3} (h : Tab w t p n hs) (hb : Below w.heap.size w w') : Tab w' t p n hs := by
  obtain ⟨v, h1, h2⟩ := h
  exact ⟨v, h1.below hb h1.lt, h2.below hb (Nat.le_refl _)⟩

set_option maxRecDepth 100000 in
set_option maxHeartbeats 4000000 in
theorem blkOpen_own {w : World} {p : Nat} {f : Fp} {m : Mdl} (h : Dev w p f m) (n : Nat) (hv : ∀ j, 256 < j → j < 256 + n → 0 ≤ m.now j ∧ m.now j < 2 ^ 64) (h1 : 2 ≤ n) (hn : n ≤ 256) (hL : 512 * n ≤ 8 * m.L) (hT : HasRests w) :
    Calls Tryd.prog 10 #[.pointer (some ⟨p, 0, none⟩), .agg #[.int .i64 n]] w (OpensOwn p m.now n w) := by
  have B0 : Hid (Below w.heap.size w (w.alloc (.cells #[.int .i64 n] 25))) := Lib.hid ((Below.refl _ _).alloc (Nat.le_refl _) _)
  have RD := Lib.hid (blkRead_own (h.below B0.out) n hv h1 hn hL (hT.below B0.out (Nat.le_refl _)))
  have cg : (w.alloc (.cells #[.int .i64 n] 25)).cell? ⟨w.heap.size, 0, none⟩ = some (.int .i64 n) := box1_cell _ _ _
  clear h hT
  go_enter Tryd.func10, Tryd.ntmps10
  go_wp2_with fail
  refine RD.out.mono ?_
  rintro e w1 ⟨v, rfl, hs, hb⟩
  have HS := Lib.hid hs
  have HB : Hid (Below w.heap.size w w1) := Lib.hid (B0.out.trans (hb.mono (by simp)))
  have cg1 : w1.cell? ⟨w.heap.size, 0, none⟩ = some (.int .i64 n) := (hb.cell (p := ⟨w.heap.size, 0, none⟩) (by simp)).trans cg
  clear hb hs RD cg
  by_cases hbad : (firstBad m.now n).isSome = true
  · obtain ⟨bb, hbb⟩ := Option.isSome_iff_exists.1 hbad
    have hb3 := read_bad hbb
    rw [hb3.2.1, hb3.2.2]
    have H3 := Lib.hid hb3
    have HBAD := Lib.hid hbad
    clear hb3 hbb hbad
    go_wp2_with fail
    exact bodyPost_ret (v := .tuple #[.pointer none, .int .i64 21]) (by simp [results, Tryd.results10, go_sem]) rfl ⟨.pointer none, by rw [H3.out.2.2]; rfl, by rw [if_pos HBAD.out], HB.out⟩
  · have hgood : firstBad m.now n = none := by simpa using hbad
    have hb3 := read_good hgood
    rw [hb3.2.1, hb3.2.2]
    have H3 := Lib.hid hb3
    have HBAD := Lib.hid hbad
    rw [hb3.1, hdrs_len] at HS
    have HL : Hid (∀ b, v.ownBlock = some b → b < w1.heap.size) := Lib.hid fun b hb => (HS.out.lt b hb).2
    have HS : Hid (w1.ownsRow w.heap.size 48 3 v n ((flat3 (hdrs m.now n)).map (Value.int .i64))) := Lib.hid (own_base HS.out (by simp))
    obtain ⟨av, ln, cv, rfl⟩ : ∃ a l c, v = .slice a l c := by
      rcases HS.out.2 with ⟨h, -⟩ | ⟨g, cap, cur, h, -⟩
      · exact ⟨_, _, _, h⟩
      · exact ⟨_, _, _, h⟩
    clear hb3 hgood hbad
    go_wp2_with fail
    exact bodyPost_ret (v := .tuple #[.pointer (some ⟨w1.heap.size, 0, none⟩), .int .i64 0]) (by simp [results, Tryd.results10, go_sem]) rfl ⟨.pointer (some ⟨w1.heap.size, 0, none⟩), by rw [H3.out.2.2]; rfl, by rw [if_neg HBAD.out]; exact ⟨_, rfl, ⟨_, BoxT.new _ _ _, HS.out.alloc _, HL.out⟩, HB.out.size, hdrs_len _ _⟩, HB.out.alloc HB.out.size _⟩

theorem blkOpen_any {w : World} {p : Nat} {f : Fp} {m : Mdl} (h : Dev w p f m) (n : Nat) (hv : ∀ j, 256 < j → j < 256 + n → 0 ≤ m.now j ∧ m.now j < 2 ^ 64) (h1 : 2 ≤ n) (hn : n ≤ 256) (hL : 512 * n ≤ 8 * m.L) (hT : HasRests w) :
    Calls Tryd.prog 10 #[.pointer (some ⟨p, 0, none⟩), .agg #[.int .i64 n]] w (TabOpens p m.now n w) := by
  refine (blkOpen_own h n hv h1 hn hL hT).mono ?_
  rintro e w' ⟨v, he, ho, hb⟩
  refine ⟨v, he, ?_, hb⟩
  by_cases hbad : (firstBad m.now n).isSome = true
  · rw [if_pos hbad] at ho ⊢; exact ho
  · rw [if_neg hbad] at ho ⊢
    obtain ⟨t, h1, h2⟩ := ho
    exact ⟨t, h1, h2.tab⟩

set_option maxHeartbeats 1000000 in
theorem tabLen_any {w : World} {t p m : Nat} {hs : List H3} (h : Tab w t p m hs) :
    Calls Tryd.prog 29 #[.pointer (some ⟨t, 0, none⟩)] w fun e w' => e = .returned (.int .i64 hs.length) ∧ w = w' := by
  obtain ⟨v, hx, a, cap, rfl, hcap, hc⟩ := h
  have c1 : w.cell? ⟨t, 2, none⟩ = some (.slice a hs.length cap) := hx.cell 2
  clear hx hc
  go_enter Tryd.func29, Tryd.ntmps29
  go_wp2_with fail
  go_ret
  exact ⟨rfl, rfl⟩

/-- A table, and what its call made. -/
structure GetAt (w : World) (t p m : Nat) (hs : List H3) (g : Nat) (W : World) : Prop where
  b : Below w.heap.size w W
  t : Tab W t p m hs
  g : BoxT 48 W g #[.int .i64 0, .int .i64 0, .int .i64 0]

set_option maxHeartbeats 1000000 in
theorem tabGet_any {w : World} {t p m : Nat} {hs : List H3} (h : Tab w t p m hs) (hlen : hs.length ≤ 100000) (b : Int) :
    Calls Tryd.prog 14 #[.pointer (some ⟨t, 0, none⟩), .int .i64 b] w (MadeOne (.agg #[.int .i64 (hAt hs b).1, .int .i64 (hAt hs b).2.1, .int .i64 (hAt hs b).2.2]) w) := by
  have GA : Hid (GetAt w t p m hs w.heap.size (w.alloc (.cells #[.int .i64 0, .int .i64 0, .int .i64 0] 48))) := Lib.hid ⟨(Below.refl _ _).alloc (Nat.le_refl _) _, h.below ((Below.refl _ _).alloc (Nat.le_refl _) _), BoxT.new _ _ _⟩
  by_cases h0 : b < 0
  · have HA : hAt hs b = (0, 0, 0) := by unfold hAt; rw [if_neg (by omega)]
    rw [HA]
    clear HA h
    go_enter Tryd.func14, Tryd.ntmps14
    go_wp2_with fail
    exact bodyPost_ret (results_boxT1 rfl _ _ w.heap.size _ rfl GA.out.g Tryd.underlying48 rfl info3) rfl ⟨rfl, GA.out.b⟩
  have HL : Hid (∀ W, GetAt w t p m hs w.heap.size W → Calls Tryd.prog 29 #[.pointer (some ⟨t, 0, none⟩)] W fun e w' => e = .returned (.int .i64 hs.length) ∧ W = w') := Lib.hid fun W h => tabLen_any h.t
  generalize hV : w.alloc (.cells #[.int .i64 0, .int .i64 0, .int .i64 0] 48) = V at GA
  obtain ⟨v, hx, a, cap, rfl, hcap, hc⟩ := GA.out.t
  have c1 : V.cell? ⟨t, 2, none⟩ = some (.slice a hs.length cap) := hx.cell 2
  clear hx h
  by_cases hin : b < hs.length
  · obtain ⟨k, rfl⟩ := Int.eq_ofNat_of_zero_le (show 0 ≤ b by omega)
    have hk : k < hs.length := by omega
    obtain ⟨g, o, rfl, hg, hcell⟩ := hc.resolve_left (by rintro rfl; simp at hk)
    obtain ⟨e0, e1, e2⟩ := hcell k hk
    have HA : hAt hs k = hs.getD k (0, 0, 0) := by unfold hAt; rw [if_pos (by omega)]; rfl
    rw [HA]
    generalize hs.getD k (0, 0, 0) = z at e0 e1 e2 ⊢
    obtain ⟨z0, z1, z2⟩ := z
    have h1 : ¬ (hs.length : Int) ≤ (k : Int) := by omega
    generalize hs.length = n at *
    clear hcell HA hc
    go_enter Tryd.func14, Tryd.ntmps14
    go_wp2_with fail
    clear hV
    refine (HL.out _ GA.out).mono ?_
    rintro e w' ⟨rfl, rfl⟩
    go_wp2_with (first
      | (show wpList _ _ _ ((Oper.mk _ (Op.store _ (.tmp 4) (.tmp 20)) _ _ _ _) :: _) _ _; refine wpList_store_boxT rfl _ _ _ rfl (b := w.heap.size) (cells := #[.int .i64 z0, .int .i64 z1, .int .i64 z2]) rfl rfl GA.out.g info3 (sz3 _ _ _ _ _ _) (one3 _ _ _) ?_)
      | fail)
    exact bodyPost_ret (results_boxT1 rfl _ _ w.heap.size #[.int .i64 z0, .int .i64 z1, .int .i64 z2] rfl (GA.out.g.row _) Tryd.underlying48 rfl info3) rfl ⟨rfl, below_setRow GA.out.b (Nat.le_refl _) _⟩
  · have HA : hAt hs b = (0, 0, 0) := by unfold hAt; rw [if_neg (by omega)]
    rw [HA]
    have h1 : (hs.length : Int) ≤ b := by omega
    generalize hs.length = n at *
    clear hc HA
    go_enter Tryd.func14, Tryd.ntmps14
    go_wp2_with fail
    clear hV
    refine (HL.out _ GA.out).mono ?_
    rintro e w' ⟨rfl, rfl⟩
    go_wp2_with (first
      | (show wpList _ _ _ ((Oper.mk _ (Op.store _ (.tmp 4) (.tmp 13)) _ _ _ _) :: _) _ _; refine wpList_store_boxT rfl _ _ _ rfl (b := w.heap.size) (cells := #[.int .i64 0, .int .i64 0, .int .i64 0]) rfl rfl GA.out.g info3 (sz3 _ _ _ _ _ _) (one3 _ _ _) ?_)
      | fail)
    exact bodyPost_ret (results_boxT1 rfl _ _ w.heap.size #[.int .i64 0, .int .i64 0, .int .i64 0] rfl (GA.out.g.row _) Tryd.underlying48 rfl info3) rfl ⟨rfl, below_setRow GA.out.b (Nat.le_refl _) _⟩

set_option maxHeartbeats 1000000 in
theorem tabCount_any {w : World} {t p m : Nat} {hs : List H3} (h : Tab w t p m hs) (hlen : hs.length ≤ 100000) (k : Int) :
    Calls Tryd.prog 15 #[.pointer (some ⟨t, 0, none⟩), .int .i64 k] w (MadeOne (.int .i64 (countTo hs k hs.length : Nat)) w) := by
  obtain ⟨v, hx, a, cap, rfl, hcap, hc⟩ := h
  have c1 : w.cell? ⟨t, 2, none⟩ = some (.slice a hs.length cap) := hx.cell 2
  have HC := Lib.hid hc
  obtain ⟨n, hn⟩ : ∃ n, hs.length = n := ⟨_, rfl⟩
  have HN := Lib.hid hn
  rw [hn] at c1 hcap hlen ⊢
  clear hc hx hn
  have H0 : Hid (n = 0 → countTo hs k n = 0) := Lib.hid (by rintro rfl; rfl)
  go_enter Tryd.func15, Tryd.ntmps15
  go_wp2_with fail
  go_loopw [5, 6, 7, 13] (fun c _ _ i wr => ∃ q : Nat, q ≤ n ∧ i = .int .i64 q ∧ c = .int .i64 (countTo hs k q : Nat) ∧ Hid (Below w.heap.size w wr)) (fun _ _ _ i _ => n - (intOf i).toNat)
  case atStart => exact ⟨0, by omega, rfl, rfl, Lib.hid (Below.refl _ _)⟩
  case round =>
    obtain ⟨q, hq, rfl, rfl, HB⟩ := hrel
    by_cases hlt : q < n
    · have hlt' : (q : Int) < (n : Int) := by omega
      have hq0 : (0 : Int) ≤ (q : Int) := by omega
      obtain ⟨b, off, rfl, hb, hcell⟩ := HC.out.resolve_left (fun h => by have := HN.out; rw [h] at this; simp at this; omega)
      obtain ⟨e0, e1, e2⟩ := hcell q (by rw [HN.out]; exact hlt)
      have d0 := (HB.out.cell (p := ⟨b, off + q * 3, none⟩) hb).trans e0
      have d1 := (HB.out.cell (p := ⟨b, off + q * 3 + 1, none⟩) hb).trans e1
      have d2 := (HB.out.cell (p := ⟨b, off + q * 3 + 2, none⟩) hb).trans e2
      have HB' : Hid (Below w.heap.size w (wr.alloc (.cells #[.int .i64 (hs.getD q (0, 0, 0)).1, .int .i64 (hs.getD q (0, 0, 0)).2.1, .int .i64 (hs.getD q (0, 0, 0)).2.2] 48))) := Lib.hid (HB.out.alloc HB.out.size _)
      have hcl := countTo_le hs k q
      have HY : Hid (1 ≤ q → kindAt hs q = k → countTo hs k (q + 1) = countTo hs k q + 1) := Lib.hid countTo_yes
      have HNN : Hid (kindAt hs q ≠ k → countTo hs k (q + 1) = countTo hs k q) := Lib.hid countTo_no
      have HZ : Hid (q = 0 → countTo hs k (q + 1) = countTo hs k q) := Lib.hid (by rintro rfl; rfl)
      unfold kindAt at HY HNN
      generalize hs.getD q (0, 0, 0) = z at *
      obtain ⟨z0, z1, z2⟩ := z
      clear hcell e0 e1 e2
      by_cases hq1 : q = 0
      · have HS := Lib.hid (HZ.out hq1)
        have hq1' : ¬ (1 : Int) ≤ (q : Int) := by omega
        clear hq1
        go_wp2_with fail
        go_roundw
        case rel => exact ⟨q + 1, by omega, by go_num, by rw [HS.out], HB'⟩
        case measure => simp [intOf]; omega
      have hq1' : (1 : Int) ≤ (q : Int) := by omega
      by_cases hk : z0 = k
      · have HS := Lib.hid (HY.out (by omega) hk)
        subst hk
        go_wp2_with fail
        go_roundw
        case rel => exact ⟨q + 1, by omega, by go_num, by rw [HS.out]; go_num, HB'⟩
        case measure => simp [intOf]; omega
      · have HS := Lib.hid (HNN.out hk)
        have hkb : (z0 == k) = false := by simpa using hk
        go_wp2_with fail
        go_roundw
        case rel => exact ⟨q + 1, by omega, by go_num, by rw [HS.out], HB'⟩
        case measure => simp [intOf]; omega
    · have hlt' : ¬ (q : Int) < (n : Int) := by omega
      obtain rfl : q = n := by omega
      clear hlt hq
      go_wp2_with fail
      go_ret
      exact ⟨rfl, HB.out⟩

end Go.Proofs.YtaigocnnmjjhgaaDoor

namespace Go.Proofs.YtaigocnnmjjhgaaDoor
open Go.ChangeShapes Go.WideShapes Go.ChangeAt Go.RowKit Bk Bh Nv
set_option linter.unusedVariables false

/-- Header i of a list is right. -/
def okAt (hs : List H3) (i : Nat) : Bool := rightH (hs.getD i (0, 0, 0)).1 (hs.getD i (0, 0, 0)).2.1 (hs.getD i (0, 0, 0)).2.2
/-- All are. -/
def allOk (hs : List H3) : Bool := (List.range hs.length).all (okAt hs)
theorem allOk_iff {hs : List H3} : allOk hs = true ↔ ∀ i, i < hs.length → okAt hs i = true := by unfold allOk; simp [List.all_eq_true]

set_option maxHeartbeats 1000000 in
theorem rightClo_any (k c l : Int) (w : World) : Calls Tryd.prog 53 #[.agg #[.int .i64 k, .int .i64 c, .int .i64 l]] w (MadeOne (.bool (!rightH k c l)) w) := by
  have HB : Hid (∀ o, Below w.heap.size w (w.alloc o)) := Lib.hid fun o => (Below.refl _ _).alloc (Nat.le_refl _) _
  go_enter Tryd.func53, Tryd.ntmps53
  go_wp2_with fail
  refine (headRight_any k c l _).mono ?_
  rintro e W ⟨rfl, hb⟩
  have H := Lib.hid ((HB.out _).trans (hb.mono (by simp)))
  clear hb
  go_wp2_with fail
  go_ret
  exact ⟨rfl, H.out⟩

/-- Where the first header is that isn't right; -1. -/
def IdxIs (hs : List H3) (w : World) (e : Ending) (w' : World) : Prop := ∃ i : Int, e = .returned (.int .i64 i) ∧ decide (0 ≤ i) = !allOk hs ∧ Below w.heap.size w w'

set_option maxRecDepth 100000 in
set_option maxHeartbeats 1000000 in
theorem idxFunc_any (v : Value) (hs : List H3) (w : World) (h : IsHs w v hs) (hlen : hs.length ≤ 100000) :
    Calls Tryd.prog 65 #[v, .func (.func 53) #[] #[]] w (IdxIs hs w) := by
  obtain ⟨a, cap, rfl, hcap, hc⟩ := h
  have HC := Lib.hid hc
  obtain ⟨n, hn⟩ : ∃ n, hs.length = n := ⟨_, rfl⟩
  have HN := Lib.hid hn
  rw [hn] at hcap hlen ⊢
  clear hc hn
  go_enter Tryd.func65, Tryd.ntmps65
  go_wp2_with fail
  go_loopw [5, 8] (fun _ i wr => ∃ q : Nat, q ≤ n ∧ i = .int .i64 q ∧ Hid (Below w.heap.size w wr) ∧ Hid (∀ k, k < q → okAt hs k = true)) (fun _ i _ => n - (intOf i).toNat)
  case atStart => exact ⟨0, by omega, rfl, Lib.hid (Below.refl _ _), Lib.hid (by omega)⟩
  case round =>
    obtain ⟨q, hq, rfl, HB, HO⟩ := hrel
    by_cases hlt : q < n
    · have hlt' : (q : Int) < (n : Int) := by omega
      have hq0 : (0 : Int) ≤ (q : Int) := by omega
      obtain ⟨b, off, rfl, hb, hcell⟩ := HC.out.resolve_left (fun h => by have := HN.out; rw [h] at this; simp at this; omega)
      obtain ⟨e0, e1, e2⟩ := hcell q (by rw [HN.out]; exact hlt)
      have d0 := (HB.out.cell (p := ⟨b, off + q * 3, none⟩) hb).trans e0
      have d1 := (HB.out.cell (p := ⟨b, off + q * 3 + 1, none⟩) hb).trans e1
      have d2 := (HB.out.cell (p := ⟨b, off + q * 3 + 2, none⟩) hb).trans e2
      have HR : Hid (rightH (hs.getD q (0, 0, 0)).1 (hs.getD q (0, 0, 0)).2.1 (hs.getD q (0, 0, 0)).2.2 = okAt hs q) := Lib.hid rfl
      generalize hs.getD q (0, 0, 0) = z at *
      obtain ⟨z0, z1, z2⟩ := z
      clear hcell e0 e1 e2
      go_wp2_with fail
      refine (rightClo_any z0 z1 z2 _).mono ?_
      rintro e w2 ⟨rfl, hb2⟩
      have HB2 : Hid (Below w.heap.size w w2) := Lib.hid (HB.out.trans (hb2.mono HB.out.size))
      clear hb2 d0 d1 d2
      change Hid (rightH z0 z1 z2 = okAt hs q) at HR
      generalize hr : rightH z0 z1 z2 = r at *
      cases r
      · have HE : Hid (decide (0 ≤ ((q : Nat) : Int)) = !allOk hs) := Lib.hid (by
          rw [decide_eq_true hq0]
          cases ha : allOk hs
          · rfl
          · have := allOk_iff.1 ha q (by rw [HN.out]; exact hlt)
            rw [← HR.out] at this; cases this)
        clear hr
        go_wp2_with fail
        go_ret
        exact ⟨_, rfl, HE.out, HB2.out⟩
      · have HO' : Hid (∀ k, k < q + 1 → okAt hs k = true) := Lib.hid fun k hk => by
          by_cases e : k = q
          · subst e; exact HR.out.symm
          · exact HO.out k (by omega)
        clear hr
        go_wp2_with fail
        go_roundw
        case rel => exact ⟨q + 1, by omega, by go_num, HB2, HO'⟩
        case measure => simp [intOf]; omega
    · have hlt' : ¬ (q : Int) < (n : Int) := by omega
      obtain rfl : q = n := by omega
      have HE : Hid (decide ((0 : Int) ≤ -1) = !allOk hs) := Lib.hid (by
        rw [allOk_iff.2 (fun k hk => HO.out k (by have := HN.out; omega))]; rfl)
      clear hlt hq
      go_wp2_with fail
      go_ret
      exact ⟨-1, rfl, HE.out, HB.out⟩

set_option maxHeartbeats 1000000 in
theorem blkRight_any (v : Value) (hs : List H3) (w : World) (h : IsHs w v hs) (hlen : hs.length ≤ 100000) :
    Calls Tryd.prog 39 #[v] w (MadeOne (.bool (allOk hs)) w) := by
  have IX := Lib.hid (idxFunc_any v hs w h hlen)
  have CF : Hid (Calls Tryd.prog 52 #[v, .func (.func 53) #[] #[]] w (MadeOne (.bool (!allOk hs)) w)) := Lib.hid (by
    clear h
    go_enter Tryd.func52, Tryd.ntmps52
    go_wp2_with fail
    refine IX.out.mono ?_
    rintro e w2 ⟨i, rfl, hi, hb⟩
    have HI := Lib.hid hi
    have HB := Lib.hid hb
    clear hi hb
    go_wp2_with fail
    go_ret
    exact ⟨by simp [HI.out], HB.out⟩)
  clear h IX
  go_enter Tryd.func39, Tryd.ntmps39
  go_wp2_with fail
  refine CF.out.mono ?_
  rintro e w2 ⟨rfl, hb⟩
  have HB := Lib.hid hb
  clear hb
  go_wp2_with fail
  go_ret
  exact ⟨by simp, HB.out⟩

/-- Whether there are k blocks from b on. -/
def hasB (n : Nat) (b k : Int) : Bool := decide (1 ≤ b ∧ k ≤ n - b)
set_option maxHeartbeats 1000000 in
theorem blkHas_any {w : World} {t p m : Nat} {hs : List H3} (h : Tab w t p m hs) (hlen : hs.length ≤ 100000) (b k : Int) (hb : b ≤ 9223372036854775807) :
    Calls Tryd.prog 38 #[.pointer (some ⟨t, 0, none⟩), .int .i64 b, .int .i64 k] w fun e w' => e = .returned (.bool (hasB hs.length b k)) ∧ w = w' := by
  have HL := Lib.hid (tabLen_any h)
  generalize hs.length = n at *
  by_cases h1 : 1 ≤ b
  · have hx : wrap64 ((n : Int) - b) = (n : Int) - b := by unfold wrap64; omega
    have hd : hasB n b k = decide (k ≤ (n : Int) - b) := by unfold hasB; simp [h1]
    rw [hd]
    clear h hd
    go_enter Tryd.func38, Tryd.ntmps38
    go_wp2_with fail
    refine HL.out.mono ?_
    rintro e w2 ⟨rfl, rfl⟩
    go_wp2_with fail
    go_ret
    exact ⟨by simp, rfl⟩
  · have hd : hasB n b k = false := by unfold hasB; simp [h1]
    rw [hd]
    clear h hd
    go_enter Tryd.func38, Tryd.ntmps38
    go_wp2_with fail
    go_ret
    exact ⟨rfl, rfl⟩

end Go.Proofs.YtaigocnnmjjhgaaDoor

namespace Go.Proofs.YtaigocnnmjjhgaaDoor
open Go.ChangeShapes Go.WideShapes Go.ChangeAt Go.RowKit Bk
set_option linter.unusedVariables false

/-- A row so far, of n spans of type e. -/
def SpsAt (e : TypeId) (l : List (Int × Int)) (n B : Nat) (v : Value) (w wr : World) : Prop :=
  wr.ownsRow B e 2 v n ((flat2 l).map (Value.int .i64)) ∧ n = l.length ∧ Below B w wr
/-- One span more. -/
theorem SpsAt.snoc {e : TypeId} {l : List (Int × Int)} {n B : Nat} {v v' : Value} {w wr w1 : World} {o : Obj} {x y : Int} (hh : SpsAt e l n B v w wr) (hB : B ≤ wr.heap.size)
    (hown : w1.ownsRow B e 2 v' (n + 1) ((flat2 l).map (Value.int .i64) ++ [.int .i64 x, .int .i64 y])) (hg : (wr.alloc o).grownBy w1 v.ownBlock) : SpsAt e (l ++ [(x, y)]) (n + 1) B v' w w1 := by
  refine ⟨?_, by rw [List.length_append, ← hh.2.1]; rfl, (hh.2.2.alloc hB _).grown hg (by simp; omega) (fun b hb => (hh.1.lt b hb).1)⟩
  rw [flat2_app, List.map_append]
  exact hown
theorem flat2_bump (l : List (Int × Int)) (p : Int × Int) : ((flat2 (l ++ [p])).map (Value.int .i64)).set (l.length * 2 + 1) (.int .i64 (p.2 + 1)) = (flat2 (bump (l ++ [p]))).map (Value.int .i64) := by
  rw [bump_snoc, flat2_app, flat2_app, List.map_append, List.map_append, List.set_append_right _ _ (by rw [List.length_map, flat2_len]; omega)]
  congr 1
  rw [List.length_map, flat2_len, show l.length * 2 + 1 - l.length * 2 = 1 by omega]
  rfl
/-- The last span is one longer. -/
theorem SpsAt.bumped {e : TypeId} {l : List (Int × Int)} {n B g cap j : Nat} {w wr : World} {x : Int} (hne : l ≠ []) (hj : n = j + 1) (hx : (l.getLast hne).2 = x) (hh : SpsAt e l n B (.slice (some ⟨g, 0, none⟩) n cap) w wr) (hg : B ≤ g) :
    SpsAt e (bump l) n B (.slice (some ⟨g, 0, none⟩) n cap) w (wr.setCell ⟨g, j * 2 + 1, none⟩ (.int .i64 (x + 1))) := by
  have hl : l = l.dropLast ++ [l.getLast hne] := (List.dropLast_concat_getLast hne).symm
  have hd : l.dropLast.length = j := by have := hh.2.1; simp; omega
  refine ⟨?_, by rw [bump_len hne]; exact hh.2.1, hh.2.2.setCell (p := ⟨g, j * 2 + 1, none⟩) hg _⟩
  have hs := (hh.1.stored (j * 2 + 1) (.int .i64 (x + 1))).1
  have hb := flat2_bump l.dropLast (l.getLast hne)
  rw [← hl, hd, hx] at hb
  rw [← hb]
  exact hs

theorem SpsAt.last {e : TypeId} {l : List (Int × Int)} {n B g cap j : Nat} {w wr : World} (hne : l ≠ []) (hj : n = j + 1) (hh : SpsAt e l n B (.slice (some ⟨g, 0, none⟩) n cap) w wr) :
    wr.cell? ⟨g, j * 2 + 1, none⟩ = some (.int .i64 (l.getLast hne).2) ∧ wr.frozen? ⟨g, j * 2 + 1, none⟩ = false := by
  have hl := hh.2.1
  refine ⟨?_, hh.1.frozenAt _⟩
  rw [hh.1.cellAt _ (by omega), List.getElem?_map, (flat2_get l j (by omega)).2, List.getD_eq_getElem?_getD, List.getElem?_eq_getElem (by omega), List.getLast_eq_getElem]
  simp [show l.length - 1 = j by omega]
/-- Where the spans so far lie. -/
theorem SpsAt.at_ {e : TypeId} {l : List (Int × Int)} {n B : Nat} {v : Value} {w wr : World} (hh : SpsAt e l n B v w wr) (hn : 0 < n) : ∃ g cap, v = .slice (some ⟨g, 0, none⟩) n cap ∧ B ≤ g := by
  rcases hh.1.2 with ⟨_, h0⟩ | ⟨g, cap, _, rfl, hg, _⟩
  · omega
  · exact ⟨g, cap, rfl, hg⟩

theorem infoSp : (Tryd.prog.info? 70).map (fun i => (i.zero, i.size, i.bytes)) = some (some (.agg #[.int .i64 0, .int .i64 0]), 2, 16) := by kernel_rfl

set_option maxRecDepth 100000 in
set_option maxHeartbeats 2000000 in
theorem refSpans10_any (v : Value) (hs : List H3) (w : World) (h : IsHs w v hs) (hlen : hs.length ≤ 100000) :
    Calls Tryd.prog 18 #[v] w fun e w' => ∃ v', e = .returned v' ∧ IsSps w' v' (spansOf hs) ∧ Below w.heap.size w w' := by
  obtain ⟨i0, hi, hz0, hz1, hz2⟩ := info_parts infoSp
  obtain ⟨a, cap, rfl, hcap, hc⟩ := h
  have H0 : Hid (SpsAt 70 (spansTo hs 1) (spansTo hs 1).length w.heap.size (.slice none 0 0) w w) := Lib.hid ⟨World.ownsRow_nil _ _ _ _, rfl, Below.refl _ _⟩
  have HC := Lib.hid hc
  clear hc
  obtain ⟨n, hn⟩ : ∃ n, hs.length = n := ⟨_, rfl⟩
  have HN := Lib.hid hn
  have HE0 : Hid (n = 0 → spansTo hs n = spansTo hs 1) := Lib.hid fun h => by rw [h]; rfl
  rw [hn] at hcap hlen ⊢
  clear hn
  go_enter Tryd.func18, Tryd.ntmps18
  go_wp2_with fail
  go_loopw [3, 4] (fun v i wr => ∃ m L : Nat, 1 ≤ m ∧ (m ≤ n ∨ n = 0 ∧ m = 1) ∧ i = .int .i64 m ∧ L ≤ m ∧ Hid (SpsAt 70 (spansTo hs m) L w.heap.size v w wr)) (fun _ i _ => n - (intOf i).toNat)
  case atStart => exact ⟨1, 0, by omega, by omega, rfl, by omega, H0⟩
  case round =>
    obtain ⟨m, L, hm1, hm, rfl, hLm, HR⟩ := hrel
    by_cases hlt : m < n
    · have hlt' : ((m : Nat) : Int) < ((n : Nat) : Int) := by omega
      have hm0 : (0 : Int) ≤ ((m : Nat) : Int) := by omega
      obtain ⟨b, off, rfl, hb, hcell⟩ := HC.out.resolve_left (fun h => by have := HN.out; rw [h] at this; simp at this; omega)
      have d0 : wr.cell? ⟨b, off + m * 3, none⟩ = some (.int .i64 (kindAt hs m)) := (HR.out.2.2.cell (p := ⟨b, off + m * 3, none⟩) hb).trans (hcell m (by rw [HN.out]; exact hlt)).1
      by_cases hk : kindAt hs m = 0
      · rw [hk] at d0
        by_cases hq : 1 < m ∧ kindAt hs (m - 1) = 0
        · obtain ⟨q, rfl⟩ : ∃ q, m = q + 1 := ⟨m - 1, by omega⟩
          have hkq : kindAt hs q = 0 := by simpa using hq.2
          have d1 : wr.cell? ⟨b, off + q * 3, none⟩ = some (.int .i64 0) := by
            rw [← hkq]; exact (HR.out.2.2.cell (p := ⟨b, off + q * 3, none⟩) hb).trans (hcell q (by rw [HN.out]; omega)).1
          have hne := spansTo_ne hq.1 hq.2
          have HS := Lib.hid (spansTo_bump hq.1 hk hq.2)
          have hin := spansTo_in hs (q + 1)
          have hx := hin.2 _ (List.getLast_mem hne)
          have hLp : 0 < L := by rw [HR.out.2.1]; exact List.length_pos_iff.2 hne
          obtain ⟨g, cg, rfl, hg⟩ := HR.out.at_ hLp
          obtain ⟨j, rfl⟩ : ∃ j, L = j + 1 := ⟨L - 1, by omega⟩
          obtain ⟨e0, f0⟩ := HR.out.last hne rfl
          have HB := Lib.hid (HR.out.bumped hne rfl rfl hg)
          rw [← HS.out] at HB
          obtain ⟨hx1, hx2⟩ := hx
          generalize ((spansTo hs (q + 1)).getLast hne).2 = x at *
          have hq1 : (1 : Int) ≤ ((q : Nat) : Int) := by omega
          have hj0 : (0 : Int) ≤ ((j : Nat) : Int) := by omega
          have hx3 : x ≤ 100000 := by omega
          clear hk hq hkq hcell hne hin hLp HR
          go_wp2_with fail
          go_roundw
          case rel => exact ⟨q + 1 + 1, j + 1, by omega, by omega, by go_num, by omega, HB⟩
          case measure => simp [intOf]; omega
        · have HS := Lib.hid (spansTo_new hm1 hk hq)
          have hsz := HR.out.2.2.size
          by_cases hm2 : 1 < m
          · obtain ⟨q, rfl⟩ : ∃ q, m = q + 1 := ⟨m - 1, by omega⟩
            have hkq : ¬ kindAt hs q = 0 := fun h => hq ⟨hm2, by simpa using h⟩
            have d1 : wr.cell? ⟨b, off + q * 3, none⟩ = some (.int .i64 (kindAt hs q)) := (HR.out.2.2.cell (p := ⟨b, off + q * 3, none⟩) hb).trans (hcell q (by rw [HN.out]; omega)).1
            have hkq' : (kindAt hs q == 0) = false := by simpa using hkq
            have hq1 : (1 : Int) ≤ ((q : Nat) : Int) := by omega
            generalize kindAt hs q = kq at d1 hkq'
            clear hk hq hkq hcell
            go_wp2_with (at_builtin; refine wpList_append_own _ rfl (.tmp 38) (.tmp 41) 54 rfl w.heap.size 70 i0 _ 2 16 Tryd.underlying54 hi hz0 hz1 hz2 rfl (by decide) _ _ _ rfl (HR.out.1.alloc _) ⟨wr.heap.size, 0, none⟩ 1 1 [.int .i64 ((q : Int) + 1), .int .i64 1] rfl rfl (two_new _ _ _ _) (by intro u hu; simp at hu; rcases hu with rfl | rfl <;> rfl) (by unfold maxLen; omega) (by omega) (by simp; omega) ?_)
            intro v' w3 hown' hgrow _
            have HB : Hid (SpsAt 70 (spansTo hs (q + 1 + 1)) (L + 1) w.heap.size v' w w3) := Lib.hid (by rw [HS.out]; rw [show (((q + 1 : Nat)) : Int) = (q : Int) + 1 by omega]; exact HR.out.snoc hsz hown' hgrow)
            clear hown' hgrow HR
            go_wp2_with fail
            go_roundw
            case rel => exact ⟨q + 1 + 1, L + 1, by omega, by omega, by go_num, by omega, HB⟩
            case measure => simp [intOf]; omega
          · obtain rfl : m = 1 := by omega
            clear hk hq hcell
            go_wp2_with (at_builtin; refine wpList_append_own _ rfl (.tmp 38) (.tmp 41) 54 rfl w.heap.size 70 i0 _ 2 16 Tryd.underlying54 hi hz0 hz1 hz2 rfl (by decide) _ _ _ rfl (HR.out.1.alloc _) ⟨wr.heap.size, 0, none⟩ 1 1 [.int .i64 1, .int .i64 1] rfl rfl (two_new _ _ _ _) (by intro u hu; simp at hu; rcases hu with rfl | rfl <;> rfl) (by unfold maxLen; omega) (by omega) (by simp; omega) ?_)
            intro v' w3 hown' hgrow _
            have HB : Hid (SpsAt 70 (spansTo hs (1 + 1)) (L + 1) w.heap.size v' w w3) := Lib.hid (by rw [HS.out]; exact HR.out.snoc hsz hown' hgrow)
            clear hown' hgrow HR
            go_wp2_with fail
            go_roundw
            case rel => exact ⟨2, L + 1, by omega, by omega, by go_num, by omega, HB⟩
            case measure => simp [intOf]; omega
      · have HS := Lib.hid (spansTo_skip hm1 hk)
        have hk' : (kindAt hs m == 0) = false := by simpa using hk
        have hk2 : (kindAt hs m != 0) = true := by simpa using hk
        have HR' : Hid (SpsAt 70 (spansTo hs (m + 1)) L w.heap.size u3 w wr) := Lib.hid (by rw [HS.out]; exact HR.out)
        clear hk hcell
        go_wp2_with fail
        go_roundw
        case rel => exact ⟨m + 1, L, by omega, by omega, by go_num, by omega, HR'⟩
        case measure => simp [intOf]; omega
    · have hlt' : ¬ ((m : Nat) : Int) < ((n : Nat) : Int) := by omega
      have HM : Hid (spansTo hs m = spansOf hs) := Lib.hid (by
        unfold spansOf
        rw [HN.out]
        rcases hm with h | ⟨h, rfl⟩
        · rw [show m = n by omega]
        · exact (HE0.out h).symm)
      clear hlt hm
      go_wp2_with fail
      go_ret
      have hr := HR.out
      rw [HM.out] at hr
      exact ⟨_, rfl, .of_own hr.1 hr.2.1, hr.2.2⟩

end Go.Proofs.YtaigocnnmjjhgaaDoor

namespace Go.Proofs.YtaigocnnmjjhgaaDoor
open Go.ChangeShapes Go.WideShapes Go.ChangeAt Go.RowKit Bk
set_option linter.unusedVariables false

theorem infoBSp : (Tryd.prog.info? 84).map (fun i => (i.zero, i.size, i.bytes)) = some (some (.agg #[.int .i64 0, .int .i64 0]), 2, 16) := by kernel_rfl
theorem SpsAt.alloc {e : TypeId} {l : List (Int × Int)} {n B : Nat} {v : Value} {w wr : World} (hh : SpsAt e l n B v w wr) (hB : B ≤ wr.heap.size) (o : Obj) : SpsAt e l n B v w (wr.alloc o) :=
  ⟨hh.1.alloc _, hh.2.1, hh.2.2.alloc hB _⟩
/-- Whether the block ahead of block q is the last one of a span. -/
def touchesB (hs : List H3) (q : Nat) : Bool := decide (1 < q ∧ kindAt hs (q - 1) = 0)
theorem touchesB_no {hs : List H3} {q : Nat} (h : q = 0 ∨ kindAt hs q ≠ 0) : touchesB hs (q + 1) = false := by
  unfold touchesB
  rcases h with rfl | h
  · simp
  · simpa using fun _ => h
theorem touchesB_yes {hs : List H3} {q : Nat} (h1 : 1 ≤ q) (h : kindAt hs q = 0) : touchesB hs (q + 1) = true := by
  unfold touchesB; simp [h]; omega

set_option maxRecDepth 100000 in
set_option maxHeartbeats 2000000 in
theorem blkSpans_any (v : Value) (hs : List H3) (w : World) (h : IsHs w v hs) (hlen : hs.length ≤ 100000) :
    Calls Tryd.prog 17 #[v] w fun e w' => ∃ v', e = .returned v' ∧ IsSps w' v' (spansOf hs) ∧ Below w.heap.size w w' := by
  obtain ⟨i0, hi, hz0, hz1, hz2⟩ := info_parts infoBSp
  obtain ⟨a, cap, rfl, hcap, hc⟩ := h
  have H0 : Hid (SpsAt 84 (spansTo hs 0) 0 w.heap.size (.slice none 0 0) w w) := Lib.hid ⟨World.ownsRow_nil _ _ _ _, rfl, Below.refl _ _⟩
  have HC := Lib.hid hc
  clear hc
  obtain ⟨n, hn⟩ : ∃ n, hs.length = n := ⟨_, rfl⟩
  have HN := Lib.hid hn
  rw [hn] at hcap hlen ⊢
  clear hn
  go_enter Tryd.func17, Tryd.ntmps17
  go_wp2_with fail
  go_loopw [3, 4, 5, 6, 7, 10, 22, 37] (fun v tch _ _ _ i _ _ wr => ∃ m L : Nat, m ≤ n ∧ i = .int .i64 m ∧ tch = .bool (touchesB hs m) ∧ L ≤ m ∧ Hid (SpsAt 84 (spansTo hs m) L w.heap.size v w wr)) (fun _ _ _ _ _ i _ _ _ => n - (intOf i).toNat)
  case atStart => exact ⟨0, 0, by omega, rfl, rfl, by omega, H0⟩
  case round =>
    obtain ⟨m, L, hm, rfl, rfl, hLm, HR⟩ := hrel
    by_cases hlt : m < n
    · have hlt' : ((m : Nat) : Int) < ((n : Nat) : Int) := by omega
      have hm0 : (0 : Int) ≤ ((m : Nat) : Int) := by omega
      obtain ⟨b, off, rfl, hb, hcell⟩ := HC.out.resolve_left (fun h => by have := HN.out; rw [h] at this; simp at this; omega)
      obtain ⟨e0, e1, e2⟩ := hcell m (by rw [HN.out]; exact hlt)
      have d0 := (HR.out.2.2.cell (p := ⟨b, off + m * 3, none⟩) hb).trans e0
      have d1 := (HR.out.2.2.cell (p := ⟨b, off + m * 3 + 1, none⟩) hb).trans e1
      have d2 := (HR.out.2.2.cell (p := ⟨b, off + m * 3 + 2, none⟩) hb).trans e2
      have hsz := HR.out.2.2.size
      have HNO : Hid ((m = 0 ∨ kindAt hs m ≠ 0) → touchesB hs (m + 1) = false ∧ spansTo hs (m + 1) = spansTo hs m) := Lib.hid fun h => ⟨touchesB_no h, by
        by_cases h0 : m = 0
        · subst h0; rfl
        · exact spansTo_skip (by omega) (h.resolve_left h0)⟩
      have HYES : Hid (1 ≤ m → kindAt hs m = 0 → touchesB hs (m + 1) = true ∧ (touchesB hs m = true → 1 < m ∧ kindAt hs (m - 1) = 0 ∧ spansTo hs (m + 1) = bump (spansTo hs m)) ∧ (touchesB hs m = false → spansTo hs (m + 1) = spansTo hs m ++ [((m : Int), 1)])) := Lib.hid fun h1 h2 => by
        refine ⟨touchesB_yes h1 h2, fun h => ?_, fun h => ?_⟩
        · obtain ⟨g1, g2⟩ := of_decide_eq_true h
          exact ⟨g1, g2, spansTo_bump g1 h2 g2⟩
        · exact spansTo_new h1 h2 (of_decide_eq_false h)
      clear hcell e0 e1 e2
      generalize htt : touchesB hs m = tt at *
      have HTT := Lib.hid htt
      clear htt
      unfold kindAt at HNO HYES
      generalize hs.getD m (0, 0, 0) = z at *
      obtain ⟨z0, z1, z2⟩ := z
      have HRA : Hid (SpsAt 84 (spansTo hs m) L w.heap.size u3 w (wr.alloc (.cells #[.int .i64 z0, .int .i64 z1, .int .i64 z2] 48))) := Lib.hid (HR.out.alloc hsz _)
      by_cases hm1 : m = 0
      · obtain ⟨hT, hS⟩ := HNO.out (.inl hm1)
        have hm1' : ¬ (1 : Int) ≤ (m : Int) := by omega
        rw [← hS] at HRA
        have HT := Lib.hid hT
        clear hm1 hS hT HNO HYES HR
        go_wp2_with fail
        go_roundw
        case rel => exact ⟨m + 1, L, by omega, by go_num, by rw [HT.out], by omega, HRA⟩
        case measure => simp [intOf]; omega
      have hm1' : (1 : Int) ≤ (m : Int) := by omega
      by_cases hk : z0 = 0
      rotate_left
      · obtain ⟨hT, hS⟩ := HNO.out (.inr hk)
        have hkb : (z0 == 0) = false := by simpa using hk
        rw [← hS] at HRA
        have HT := Lib.hid hT
        clear hk hS hT HNO HYES HR
        go_wp2_with fail
        go_roundw
        case rel => exact ⟨m + 1, L, by omega, by go_num, by rw [HT.out], by omega, HRA⟩
        case measure => simp [intOf]; omega
      subst hk
      obtain ⟨hT, hS1, hS2⟩ := HYES.out (by omega) rfl
      have HT := Lib.hid hT
      cases htb : tt
      · have HS := Lib.hid (hS2 htb)
        subst htb
        clear hS1 hS2 hT HNO HYES HR
        go_wp2_with (at_builtin; refine wpList_append_own _ rfl (.tmp 39) (.tmp 42) 52 rfl w.heap.size 84 i0 _ 2 16 Tryd.underlying52 hi hz0 hz1 hz2 rfl (by decide) _ _ _ rfl (HRA.out.1.alloc _) ⟨wr.heap.size + 1, 0, none⟩ 1 1 [.int .i64 (m : Int), .int .i64 1] rfl rfl (by have := two_new (wr.alloc (.cells #[.int .i64 0, .int .i64 z1, .int .i64 z2] 48)) 84 (.int .i64 (m : Int)) (.int .i64 1); rwa [World.size_alloc] at this) (by intro u hu; simp at hu; rcases hu with rfl | rfl <;> rfl) (by unfold maxLen; omega) (by omega) (by simp; omega) ?_)
        intro v' w3 hown' hgrow _
        have HB : Hid (SpsAt 84 (spansTo hs (m + 1)) (L + 1) w.heap.size v' w w3) := Lib.hid (by rw [HS.out]; exact HRA.out.snoc (by simp; omega) hown' hgrow)
        clear hown' hgrow HRA
        go_wp2_with fail
        go_roundw
        case rel => exact ⟨m + 1, L + 1, by omega, by go_num, by rw [HT.out], by omega, HB⟩
        case measure => simp [intOf]; omega
      · obtain ⟨g1, g2, g3⟩ := hS1 htb
        subst htb
        have HS := Lib.hid g3
        have hne := spansTo_ne g1 g2
        have hin := spansTo_in hs m
        have hx := hin.2 _ (List.getLast_mem hne)
        have hLp : 0 < L := by rw [HRA.out.2.1]; exact List.length_pos_iff.2 hne
        obtain ⟨g, cg, rfl, hg⟩ := HRA.out.at_ hLp
        obtain ⟨j, rfl⟩ : ∃ j, L = j + 1 := ⟨L - 1, by omega⟩
        obtain ⟨e0, f0⟩ := HRA.out.last hne rfl
        have HB := Lib.hid (HRA.out.bumped hne rfl rfl hg)
        rw [← HS.out] at HB
        obtain ⟨hx1, hx2⟩ := hx
        generalize ((spansTo hs m).getLast hne).2 = x at *
        have hj0 : (0 : Int) ≤ ((j : Nat) : Int) := by omega
        have hx3 : x ≤ 100000 := by omega
        clear hS1 hS2 hT HNO HYES HR g1 g2 g3 hne hin hLp HRA
        go_wp2_with fail
        go_roundw
        case rel => exact ⟨m + 1, j + 1, by omega, by go_num, by rw [HT.out], by omega, HB⟩
        case measure => simp [intOf]; omega
    · have hlt' : ¬ ((m : Nat) : Int) < ((n : Nat) : Int) := by omega
      obtain rfl : m = n := by omega
      have HM : Hid (spansTo hs m = spansOf hs) := Lib.hid (by unfold spansOf; rw [HN.out])
      clear hlt hm
      go_wp2_with fail
      go_ret
      have hr := HR.out
      rw [HM.out] at hr
      exact ⟨_, rfl, .of_own hr.1 hr.2.1, hr.2.2⟩

end Go.Proofs.YtaigocnnmjjhgaaDoor

namespace Go.Proofs.YtaigocnnmjjhgaaDoor
namespace Nv
set_option linter.unusedVariables false

/-- A line that is not dirty lasts as it is, and nothing of it waits. -/
def Clean (m : Mdl) : Prop := ∀ i, m.dirty i = false → m.wait i = none ∧ ∀ j, j / 8 = i → m.now j = m.last j

theorem clean_fresh (L : Nat) (f : Nat → Int) : Clean (fresh L f) := fun i _ => ⟨rfl, fun _ _ => rfl⟩
theorem Clean.same {m m' : Mdl} (h : Clean m) (h1 : m'.dirty = m.dirty) (h2 : m'.wait = m.wait) (h3 : m'.now = m.now) (h4 : m'.last = m.last) : Clean m' := fun i hi => by
  rw [h1] at hi; rw [h2, h3, h4]; exact h i hi
theorem clean_store {m : Mdl} (h : Clean m) (a x : Int) : Clean (Nv.store m a x).1 := by
  unfold Nv.store; split
  · exact h
  · split
    · exact h.same rfl rfl rfl rfl
    · intro i hi
      simp only [setDirty, setNow, stepM] at hi ⊢
      by_cases e : i = a.toNat / 8
      · rw [if_pos e] at hi; cases hi
      · rw [if_neg e] at hi
        obtain ⟨h1, h2⟩ := h i hi
        refine ⟨h1, fun j hj => ?_⟩
        rw [if_neg (by intro e2; subst e2; exact e hj.symm)]
        exact h2 j hj
theorem clean_flush {m : Mdl} (h : Clean m) (a : Int) : Clean (Nv.flush m a).1 := by
  unfold Nv.flush; split
  · exact h
  · split
    · exact h.same rfl rfl rfl rfl
    · simp only [flushM]; split
      · rename_i hd
        intro i hi
        simp only [setWait, stepM] at hi ⊢
        have e : ¬ i = a.toNat := by intro e; subst e; rw [hd] at hi; cases hi
        rw [if_neg e]
        exact h i hi
      · exact h.same rfl rfl rfl rfl
theorem eq8_iff (f g : Nat → Int) : eq8 f g = true ↔ ∀ j, j < 8 → f j = g j := by
  unfold eq8; simp
theorem clean_fence {m : Mdl} (h : Clean m) : Clean (Nv.fence m).1 := by
  unfold Nv.fence; split
  · exact h.same rfl rfl rfl rfl
  · intro i hi
    refine ⟨rfl, fun j hj => ?_⟩
    simp only [fenceM, noWait, fenced, stepM, if_true] at hi ⊢
    rw [hj]
    cases hw : m.wait i with
    | none => rw [hw] at hi; exact (h i hi).2 j hj
    | some c =>
      rw [hw] at hi
      simp only [Bool.not_eq_false'] at hi
      have := (eq8_iff _ _).1 hi (j % 8) (by omega)
      simp only [lineOf] at this
      simp only
      rw [this, show 8 * i + j % 8 = j from by omega]
theorem clean_evict {m : Mdl} (h : Clean m) (a : Int) : Clean (Nv.evict m a).1 := by
  unfold Nv.evict; split
  · exact h
  · split
    · exact h
    · intro i hi
      simp only [evictM, setWait, setDirty, setLast] at hi ⊢
      by_cases e : i = a.toNat
      · subst e
        refine ⟨if_pos rfl, fun j hj => ?_⟩
        rw [if_pos hj]; simp only [lineOf]; rw [show 8 * a.toNat + j % 8 = j from by omega]
      · rw [if_neg e] at hi
        rw [if_neg e]
        refine ⟨(h i hi).1, fun j hj => ?_⟩
        rw [if_neg (by omega)]
        exact (h i hi).2 j hj
theorem clean_flushes : ∀ (k a : Nat) {m : Mdl}, Clean m → Clean (flushes m a k).1
  | 0, _, _, h => h
  | k + 1, a, m, h => by
    have h1 := clean_flush h a
    simp only [flushes]; split
    · exact clean_flushes k (a + 1) h1
    · exact h1
theorem clean_persist {m : Mdl} (h : Clean m) (a n : Int) : Clean (Nv.persist m a n).1 := by
  unfold Nv.persist; split
  · exact h
  · simp only; split
    · exact clean_fence (clean_flushes _ _ h)
    · exact clean_flushes _ _ h
/-- Of a crash without choices there is left what lasted. -/
theorem crash_last (m : Mdl) : (Nv.crash m []).now = m.last := by
  show crashW m [] (min (dirtyL m).length 0) = _
  rw [Nat.min_zero]; rfl

end Nv
end Go.Proofs.YtaigocnnmjjhgaaDoor

namespace Go.Proofs.YtaigocnnmjjhgaaDoor
namespace Nv
set_option linter.unusedVariables false

theorem crashW_two (m : Mdl) (cs : List Int) (j : Nat) : ∀ k, (∀ i, i < k → cs.getD i 0 = 2) → (∃ i, i < k ∧ (dirtyL m).getD i 0 = j / 8) → crashW m cs k j = m.now j
  | 0, _, h => by obtain ⟨i, hi, _⟩ := h; omega
  | k + 1, hc, h => by
    simp only [crashW]
    by_cases e : j / 8 = (dirtyL m).getD k 0
    · rw [if_pos e, hc k (by omega), ← e]
      unfold outcome lineOf
      rw [if_pos (by decide), show 8 * (j / 8) + j % 8 = j from by omega]
    · rw [if_neg e]
      obtain ⟨i, hi, hd⟩ := h
      refine crashW_two m cs j k (fun i hi => hc i (by omega)) ⟨i, ?_, hd⟩
      rcases Nat.lt_or_ge i k with h | h
      · exact h
      · obtain rfl : i = k := by omega
        exact absurd hd.symm e

theorem mem_dirtyL (m : Mdl) (i : Nat) : i ∈ dirtyL m ↔ i < m.L ∧ m.dirty i = true := by
  unfold dirtyL; rw [List.mem_filter, List.mem_range]

theorem dirtyL_len (m : Mdl) : (dirtyL m).length ≤ m.L := by
  unfold dirtyL; exact Nat.le_trans (List.length_filter_le _ _) (by simp)

/-- All kept. -/
theorem crash_now {m : Mdl} (h : Clean m) (j : Nat) (hj : j < 8 * m.L) : (Nv.crash m (List.replicate m.L 2)).now j = m.now j := by
  show crashW m (List.replicate m.L 2) (min (dirtyL m).length (List.replicate m.L 2).length) j = _
  have hl := dirtyL_len m
  rw [List.length_replicate, Nat.min_eq_left hl]
  cases hd : m.dirty (j / 8)
  · rw [crashW_still m _ j _ fun i hi e => by
      have hm : (dirtyL m).getD i 0 ∈ dirtyL m := by
        rw [List.getD_eq_getElem?_getD, List.getElem?_eq_getElem hi]; exact List.getElem_mem hi
      rw [e, mem_dirtyL, hd] at hm
      cases hm.2]
    exact ((h (j / 8) hd).2 j rfl).symm
  · refine crashW_two m _ j _ (fun i hi => ?_) ?_
    · rw [List.getD_eq_getElem?_getD, List.getElem?_replicate, if_pos (by omega)]; rfl
    · have hm : j / 8 ∈ dirtyL m := (mem_dirtyL m _).2 ⟨by omega, hd⟩
      obtain ⟨i, hi, he⟩ := List.getElem_of_mem hm
      exact ⟨i, hi, by rw [List.getD_eq_getElem?_getD, List.getElem?_eq_getElem hi]; exact he⟩

/-- Line i waits as it is now, if it is dirty. -/
def Ready (m : Mdl) (i : Nat) : Prop := m.dirty i = true → m.wait i = some (lineOf m.now i)

theorem flush_ready {m : Mdl} (l : Int) (h0 : (Nv.flush m l).2 = 0) : Ready (Nv.flush m l).1 l.toNat ∧ (∀ i, Ready m i → Ready (Nv.flush m l).1 i) ∧ (Nv.flush m l).1.now = m.now := by
  unfold Nv.flush at h0 ⊢
  split
  · rename_i h; rw [if_pos h] at h0; exact absurd h0 (by simp)
  · rename_i h
    rw [if_neg h] at h0
    split
    · rename_i h2; rw [if_pos h2] at h0; exact absurd h0 (by simp)
    · rename_i h2
      simp only [flushM]
      split
      · rename_i hd
        refine ⟨fun _ => ?_, fun i hi hdi => ?_, rfl⟩
        · simp [setWait, stepM]
        · simp only [setWait, stepM] at hdi ⊢
          by_cases e : i = l.toNat
          · rw [if_pos e, e]
          · rw [if_neg e]; exact hi hdi
      · rename_i hd
        exact ⟨fun h => absurd h hd, fun i hi => hi, rfl⟩

theorem flushes_ready : ∀ (k a : Nat) {m : Mdl}, (flushes m a k).2 = 0 → (∀ i, a ≤ i → i < a + k → Ready (flushes m a k).1 i) ∧ (∀ i, Ready m i → Ready (flushes m a k).1 i) ∧ (flushes m a k).1.now = m.now
  | 0, a, m, _ => ⟨fun i h1 h2 => by omega, fun i h => h, rfl⟩
  | k + 1, a, m, h0 => by
    simp only [flushes] at h0 ⊢
    by_cases e : (Nv.flush m a).2 = 0
    · rw [if_pos e] at h0 ⊢
      obtain ⟨f1, f2, f3⟩ := flush_ready (m := m) (a : Int) e
      obtain ⟨g1, g2, g3⟩ := flushes_ready k (a + 1) h0
      refine ⟨fun i h1 h2 => ?_, fun i h => g2 i (f2 i h), g3.trans f3⟩
      by_cases ea : i = a
      · subst ea; exact g2 _ (by simpa using f1)
      · exact g1 i (by omega) (by omega)
    · rw [if_neg e] at h0; exact absurd h0 e

theorem flush_L' (m : Mdl) (l : Int) : (Nv.flush m l).1.L = m.L := by
  unfold Nv.flush; split
  · rfl
  · split
    · rfl
    · simp only [flushM]; split <;> rfl
theorem flushes_L' : ∀ (k a : Nat) (m : Mdl), (flushes m a k).1.L = m.L
  | 0, _, _ => rfl
  | k + 1, a, m => by
    simp only [flushes]; split
    · exact (flushes_L' k (a + 1) _).trans (flush_L' m a)
    · exact flush_L' m a

/-- Behind a persist that went through the words of its span last as they are, and are what they were. -/
theorem persist_done {m : Mdl} (hc : Clean m) (a n : Int) (h0 : (Nv.persist m a n).2 = 0) :
    0 ≤ a ∧ 0 ≤ n ∧ a + n ≤ 8 * (m.L : Int) ∧ (Nv.persist m a n).1.L = m.L ∧ Clean (Nv.persist m a n).1 ∧
    ∀ j : Nat, a ≤ j → (j : Int) < a + n → (Nv.persist m a n).1.dirty (j / 8) = false := by
  have hC := clean_persist hc a n
  refine ⟨?_, ?_, ?_, ?_, hC, ?_⟩ <;> clear hC
  iterate 3
    · unfold Nv.persist at h0
      by_cases hb : badSpan m a n = true
      · rw [if_pos hb] at h0; exact absurd h0 (by simp)
      · unfold badSpan at hb; simp at hb; omega
  · unfold Nv.persist at h0 ⊢
    by_cases hb : badSpan m a n = true
    · rw [if_pos hb]
    · rw [if_neg hb]
      simp only
      split
      · unfold Nv.fence; split
        · exact flushes_L' _ _ _
        · exact flushes_L' _ _ _
      · exact flushes_L' _ _ _
  · intro j h1 h2
    unfold Nv.persist at h0 ⊢
    by_cases hb : badSpan m a n = true
    · rw [if_pos hb] at h0; exact absurd h0 (by simp)
    · rw [if_neg hb] at h0 ⊢
      have hb' : 0 ≤ a ∧ 0 ≤ n ∧ a ≤ 8 * (m.L : Int) - n := by unfold badSpan at hb; simp at hb; omega
      simp only at h0 ⊢
      by_cases hf : (flushes m (firstLine a n) (endLine a n - firstLine a n)).2 = 0
      · rw [if_pos hf] at h0 ⊢
        obtain ⟨g1, -, -⟩ := flushes_ready _ _ hf
        have hcf := clean_flushes (endLine a n - firstLine a n) (firstLine a n) hc
        generalize (flushes m (firstLine a n) (endLine a n - firstLine a n)).1 = m1 at h0 g1 hcf ⊢
        have hr : Ready m1 (j / 8) := g1 _ (by unfold firstLine; rw [if_neg (by omega)]; omega) (by unfold firstLine endLine; rw [if_neg (by omega), if_neg (by omega)]; omega)
        unfold Nv.fence at h0 ⊢
        by_cases hs : stops m1 = true
        · rw [if_pos hs] at h0; exact absurd h0 (by simp)
        · rw [if_neg hs]
          simp only [fenceM, noWait, fenced, stepM, if_true]
          cases hd : m1.dirty (j / 8)
          · rw [(hcf _ hd).1]
          · rw [hr hd]
            simp only [Bool.not_eq_false']
            exact (eq8_iff _ _).2 fun _ _ => rfl
      · rw [if_neg hf] at h0; exact absurd h0 hf

/-- It lasts through every crash. -/
theorem persist_lasts {m : Mdl} (hc : Clean m) (j : Nat) (hd : m.dirty (j / 8) = false) (cs : List Int) : (Nv.crash m cs).now j = m.now j ∧ (Nv.crash m cs).last j = m.now j := by
  have h : crashW m cs (min (dirtyL m).length cs.length) j = m.now j := by
    rw [crashW_still m _ j _ fun i hi e => by
      have hi' : i < (dirtyL m).length := by omega
      have hm : (dirtyL m).getD i 0 ∈ dirtyL m := by
        rw [List.getD_eq_getElem?_getD, List.getElem?_eq_getElem hi']; exact List.getElem_mem hi'
      rw [e, mem_dirtyL, hd] at hm
      cases hm.2]
    exact ((hc (j / 8) hd).2 j rfl).symm
  exact ⟨h, h⟩

end Nv
end Go.Proofs.YtaigocnnmjjhgaaDoor

namespace Go.Proofs.YtaigocnnmjjhgaaDoor
namespace Bk
open Nv Bh
set_option linter.unusedVariables false

/-- Words are stored from place a on, n of them, one by one; the first error ends it. -/
def storesM (m : Mdl) (x : Nat → Nat) (a : Nat) : Nat → Mdl × Int
  | 0 => (m, 0)
  | n + 1 => let r := Nv.store m a (x a); if r.2 = 0 then storesM r.1 x (a + 1) n else r
theorem storesM_succ (m : Mdl) (x : Nat → Nat) (a n : Nat) : storesM m x a (n + 1) = if (Nv.store m a (x a)).2 = 0 then storesM (Nv.store m a (x a)).1 x (a + 1) n else Nv.store m a (x a) := rfl
/-- One more at the end. -/
theorem storesM_last (x : Nat → Nat) : ∀ (n a : Nat) (m : Mdl), storesM m x a (n + 1) = if (storesM m x a n).2 = 0 then Nv.store (storesM m x a n).1 ((a + n : Nat) : Int) (x (a + n)) else storesM m x a n
  | 0, a, m => by
    show (if (Nv.store m a (x a)).2 = 0 then ((Nv.store m a (x a)).1, (0 : Int)) else Nv.store m a (x a)) = if (0 : Int) = 0 then Nv.store m a (x a) else (m, 0)
    rw [if_pos (rfl : (0 : Int) = 0)]
    split
    · rename_i h; exact Prod.ext rfl h.symm
    · rfl
  | n + 1, a, m => by
    have ih := storesM_last x n (a + 1) (Nv.store m a (x a)).1
    rw [show a + 1 + n = a + (n + 1) by omega] at ih
    rw [storesM_succ m x a (n + 1), storesM_succ m x a n]
    by_cases h : (Nv.store m a (x a)).2 = 0
    · simp only [if_pos h]; exact ih
    · simp only [if_neg h]
theorem store_L (m : Mdl) (a x : Int) : (Nv.store m a x).1.L = m.L := by
  unfold Nv.store; split
  · rfl
  · split <;> rfl
theorem store_steps (m : Mdl) (a x : Int) : (Nv.store m a x).1.steps ≤ m.steps + 1 := by
  unfold Nv.store; split
  · show m.steps ≤ _; omega
  · split
    · show m.steps ≤ _; omega
    · show m.steps + 1 ≤ _; omega
theorem stores_L (x : Nat → Nat) : ∀ (n a : Nat) (m : Mdl), (storesM m x a n).1.L = m.L
  | 0, _, _ => rfl
  | n + 1, a, m => by
    rw [storesM_succ]; split
    · rw [stores_L x n (a + 1), store_L]
    · exact store_L _ _ _
theorem stores_steps (x : Nat → Nat) : ∀ (n a : Nat) (m : Mdl), (storesM m x a n).1.steps ≤ m.steps + n
  | 0, _, m => by show m.steps ≤ _; omega
  | n + 1, a, m => by
    have h1 := store_steps m a (x a)
    rw [storesM_succ]; split
    · have := stores_steps x n (a + 1) (Nv.store m a (x a)).1; omega
    · omega
theorem store_clean_line {m : Mdl} (a : Nat) (x : Int) (i : Nat) (h : (Nv.store m a x).1.dirty i = true) : m.dirty i = true ∨ i = a / 8 := by
  unfold Nv.store at h
  split at h
  · exact .inl h
  · split at h
    · exact .inl h
    · simp only [setDirty, setNow, stepM] at h
      by_cases e : i = ((a : Nat) : Int).toNat / 8
      · exact .inr (by simpa using e)
      · rw [if_neg e] at h; exact .inl h
theorem store_now {m : Mdl} (a : Nat) (x : Int) (h : (Nv.store m a x).2 = 0) : (Nv.store m a x).1.now = fun j => if j = a then x else m.now j := by
  unfold Nv.store at h ⊢
  split
  · rename_i h2; rw [if_pos h2] at h; exact absurd h (by simp)
  · rename_i h2
    rw [if_neg h2] at h
    split
    · rename_i h3; rw [if_pos h3] at h; exact absurd h (by simp)
    · rfl
/-- All went through: what is there now, and which lines are dirty. -/
theorem stores_done (x : Nat → Nat) : ∀ (n a : Nat) {m : Mdl}, Nv.Clean m → (storesM m x a n).2 = 0 →
    (∀ j, (storesM m x a n).1.now j = if a ≤ j ∧ j < a + n then (x j : Int) else m.now j) ∧ Nv.Clean (storesM m x a n).1 ∧ ∀ i, (storesM m x a n).1.dirty i = true → m.dirty i = true ∨ ∃ j, a ≤ j ∧ j < a + n ∧ j / 8 = i
  | 0, a, m, hc, _ => ⟨fun j => by rw [if_neg (by omega)]; rfl, hc, fun i h => .inl h⟩
  | n + 1, a, m, hc, h0 => by
    rw [storesM_succ] at h0 ⊢
    by_cases h : (Nv.store m a (x a)).2 = 0
    · rw [if_pos h] at h0 ⊢
      obtain ⟨g1, g2, g3⟩ := stores_done x n (a + 1) (clean_store hc _ _) h0
      have hn := store_now a (x a : Int) h
      refine ⟨fun j => ?_, g2, fun i hi => ?_⟩
      · rw [g1, hn]
        by_cases e : j = a
        · subst e; rw [if_neg (by omega), if_pos (by omega)]; exact if_pos rfl
        · by_cases e2 : a + 1 ≤ j ∧ j < a + 1 + n
          · rw [if_pos e2, if_pos (by omega)]
          · rw [if_neg e2, if_neg (by omega)]; exact if_neg e
      · rcases g3 i hi with hh | ⟨j, h1, h2, h3⟩
        · rcases store_clean_line a _ i hh with h4 | h4
          · exact .inl h4
          · exact .inr ⟨a, by omega, by omega, h4.symm⟩
        · exact .inr ⟨j, by omega, by omega, h3⟩
    · rw [if_neg h] at h0; exact absurd h0 h

theorem flush_dirty {m : Mdl} (l : Int) : (Nv.flush m l).1.dirty = m.dirty ∧ (Nv.flush m l).1.now = m.now := by
  unfold Nv.flush; split
  · exact ⟨rfl, rfl⟩
  · split
    · exact ⟨rfl, rfl⟩
    · unfold flushM; split <;> exact ⟨rfl, rfl⟩
theorem flushes_dirty : ∀ (k a : Nat) (m : Mdl), (flushes m a k).1.dirty = m.dirty ∧ (flushes m a k).1.now = m.now
  | 0, _, _ => ⟨rfl, rfl⟩
  | k + 1, a, m => by
    obtain ⟨h1, h2⟩ := flush_dirty (m := m) (a : Int)
    simp only [flushes]; split
    · obtain ⟨g1, g2⟩ := flushes_dirty k (a + 1) (Nv.flush m a).1
      exact ⟨g1.trans h1, g2.trans h2⟩
    · exact ⟨h1, h2⟩
theorem flush_steps1 (m : Mdl) (l : Int) : (Nv.flush m l).1.steps ≤ m.steps + 1 := by
  unfold Nv.flush; split
  · show m.steps ≤ _; omega
  · split
    · show m.steps ≤ _; omega
    · show (flushM m l.toNat).steps ≤ _
      unfold flushM; split
      · show m.steps + 1 ≤ _; omega
      · show m.steps + 1 ≤ _; omega
theorem flushes_steps1 : ∀ (k a : Nat) (m : Mdl), (flushes m a k).1.steps ≤ m.steps + k
  | 0, _, m => by show m.steps ≤ _; omega
  | k + 1, a, m => by
    have h1 := flush_steps1 m a
    simp only [flushes]; split
    · have := flushes_steps1 k (a + 1) (Nv.flush m a).1; omega
    · omega
/-- A persist leaves all words; no line is dirty that wasn't; its steps. -/
theorem persist_now (m : Mdl) (a n : Int) : (Nv.persist m a n).1.now = m.now := by
  unfold Nv.persist; split
  · rfl
  · simp only; split
    · unfold Nv.fence; split
      · exact (flushes_dirty _ _ m).2
      · exact (flushes_dirty _ _ m).2
    · exact (flushes_dirty _ _ m).2
theorem persist_dirty {m : Mdl} (hc : Nv.Clean m) (a n : Int) (i : Nat) (h : m.dirty i = false) : (Nv.persist m a n).1.dirty i = false := by
  unfold Nv.persist; split
  · exact h
  · simp only
    have hcf := clean_flushes (endLine a n - firstLine a n) (firstLine a n) hc
    have hd := (flushes_dirty (endLine a n - firstLine a n) (firstLine a n) m).1
    split
    · unfold Nv.fence; split
      · show (flushes _ _ _).1.dirty i = false; rw [hd]; exact h
      · simp only [fenceM, noWait, fenced, stepM, if_true]
        rw [(hcf i (by rw [hd]; exact h)).1, hd]
        exact h
    · rw [hd]; exact h
theorem persist_steps (m : Mdl) (a n : Int) : (Nv.persist m a n).1.steps ≤ m.steps + (endLine a n - firstLine a n : Nat) + 1 := by
  unfold Nv.persist; split
  · show m.steps ≤ _; omega
  · simp only
    have h1 := flushes_steps1 (endLine a n - firstLine a n) (firstLine a n) m
    split
    · unfold Nv.fence; split
      · show (flushes _ _ _).1.steps ≤ _; omega
      · show (flushes _ _ _).1.steps + 1 ≤ _; omega
    · omega

/-- The lines of words from a on, n of them, are not dirty. -/
def Still (m : Mdl) (a n : Nat) : Prop := ∀ j, a ≤ j → j < a + n → m.dirty (j / 8) = false
theorem still_fresh (L : Nat) (f : Nat → Int) (a n : Nat) : Still (fresh L f) a n := fun _ _ _ => rfl
/-- Words are stored, and persisted together. -/
def putM (m : Mdl) (x : Nat → Nat) (a n : Nat) : Mdl × Int :=
  let r := storesM m x a n
  if r.2 = 0 then Nv.persist r.1 a n else r
theorem putM_L (m : Mdl) (x : Nat → Nat) (a n : Nat) (hc : Nv.Clean m) (h : (putM m x a n).2 = 0) : (putM m x a n).1.L = m.L := by
  unfold putM at h ⊢
  simp only at h ⊢
  by_cases h0 : (storesM m x a n).2 = 0
  · rw [if_pos h0] at h ⊢
    obtain ⟨-, g2, -⟩ := stores_done x n a hc h0
    exact (persist_done g2 a n h).2.2.2.1.trans (stores_L _ _ _ _)
  · rw [if_neg h0] at h; exact absurd h h0
/-- All went through: what is there, and it lasts, with what lasted beside it. -/
theorem put_done {m : Mdl} {x : Nat → Nat} {a n A N : Nat} (hc : Nv.Clean m) (hs : Still m A N) (ha : A ≤ a) (hn : a + n ≤ A + N) (h : (putM m x a n).2 = 0) :
    Nv.Clean (putM m x a n).1 ∧ Still (putM m x a n).1 A N ∧ ∀ j, (putM m x a n).1.now j = if a ≤ j ∧ j < a + n then (x j : Int) else m.now j := by
  unfold putM at h ⊢
  simp only at h ⊢
  by_cases h0 : (storesM m x a n).2 = 0
  · rw [if_pos h0] at h ⊢
    obtain ⟨g1, g2, g3⟩ := stores_done x n a hc h0
    obtain ⟨-, -, -, -, d5, d6⟩ := persist_done g2 a n h
    refine ⟨d5, fun j h1 h2 => ?_, fun j => by rw [persist_now, g1]⟩
    by_cases hd : (storesM m x a n).1.dirty (j / 8) = true
    · rcases g3 _ hd with hh | ⟨i, i1, i2, i3⟩
      · rw [hs j h1 h2] at hh; cases hh
      · rw [← i3]; exact d6 i (by omega) (by omega)
    · exact persist_dirty g2 _ _ _ (by simpa using hd)
  · rw [if_neg h0] at h; exact absurd h h0
/-- What lies still lasts through every crash. -/
theorem still_lasts {m : Mdl} (hc : Nv.Clean m) {A N : Nat} (hs : Still m A N) (cs : List Int) (j : Nat) (h1 : A ≤ j) (h2 : j < A + N) : (Nv.crash m cs).now j = m.now j :=
  (persist_lasts hc j (hs j h1 h2) cs).1

/-- A device that never stops. -/
def Runs (m : Mdl) : Prop := m.dead = false ∧ m.fuse = -1
theorem runs_fresh (L : Nat) (f : Nat → Int) : Runs (fresh L f) := ⟨rfl, rfl⟩
theorem runs_stops {m : Mdl} (h : Runs m) : stops m = false := by unfold stops; rw [h.1, h.2]; decide
theorem runs_step {m : Mdl} (h : Runs m) : Runs (stepM m) := ⟨h.1, by unfold stepM; simp only [h.2]; rfl⟩
theorem store_runs {m : Mdl} (h : Runs m) (a : Nat) (ha : a < 8 * m.L) (x : Int) : (Nv.store m a x).2 = 0 ∧ Runs (Nv.store m a x).1 := by
  have hw : hasW m a = true := by unfold hasW; simp; omega
  have e : Nv.store m a x = (setDirty (setNow (stepM m) a x) (a / 8) true, 0) := by unfold Nv.store; rw [if_neg (by rw [hw]; decide), if_neg (by rw [runs_stops h]; decide)]; rfl
  rw [e]
  exact ⟨rfl, runs_step h⟩
theorem stores_run (x : Nat → Nat) : ∀ (n a : Nat) {m : Mdl}, Runs m → a + n ≤ 8 * m.L → (storesM m x a n).2 = 0 ∧ Runs (storesM m x a n).1
  | 0, a, m, h, _ => ⟨rfl, h⟩
  | n + 1, a, m, h, hl => by
    obtain ⟨h1, h2⟩ := store_runs h a (by omega) (x a)
    rw [storesM_succ, if_pos h1]
    exact stores_run x n (a + 1) h2 (by rw [store_L]; omega)
theorem flush_runs {m : Mdl} (h : Runs m) (l : Nat) (hl : l < m.L) : (Nv.flush m l).2 = 0 ∧ Runs (Nv.flush m l).1 := by
  have hw : hasL m l = true := by unfold hasL; simp; omega
  have e : Nv.flush m l = (flushM m l, 0) := by unfold Nv.flush; rw [if_neg (by rw [hw]; decide), if_neg (by rw [runs_stops h]; decide)]; rfl
  rw [e]
  refine ⟨rfl, ?_⟩
  show Runs (flushM m l)
  unfold flushM; split
  · exact runs_step h
  · exact runs_step h
theorem flushes_run : ∀ (k a : Nat) {m : Mdl}, Runs m → a + k ≤ m.L → (flushes m a k).2 = 0 ∧ Runs (flushes m a k).1
  | 0, _, m, h, _ => ⟨rfl, h⟩
  | k + 1, a, m, h, hl => by
    obtain ⟨h1, h2⟩ := flush_runs h a (by omega)
    simp only [flushes]
    rw [if_pos h1]
    exact flushes_run k (a + 1) h2 (by rw [flush_L']; omega)
theorem persist_runs {m : Mdl} (h : Runs m) (a n : Nat) (hl : a + n ≤ 8 * m.L) : (Nv.persist m a n).2 = 0 ∧ Runs (Nv.persist m a n).1 := by
  have hb : badSpan m a n = false := by unfold badSpan; simp; omega
  have hk : firstLine a n + (endLine a n - firstLine a n) ≤ m.L := by
    unfold firstLine endLine
    by_cases h0 : (n : Int) = 0
    · rw [if_pos h0, if_pos h0]; omega
    · rw [if_neg h0, if_neg h0]; omega
  obtain ⟨f1, f2⟩ := flushes_run (endLine a n - firstLine a n) (firstLine a n) h hk
  unfold Nv.persist
  rw [if_neg (by rw [hb]; decide)]
  simp only
  rw [if_pos f1]
  unfold Nv.fence
  rw [if_neg (by rw [runs_stops f2]; decide)]
  exact ⟨rfl, runs_step f2⟩
theorem put_runs {m : Mdl} (x : Nat → Nat) {a n : Nat} (h : Runs m) (hl : a + n ≤ 8 * m.L) : (putM m x a n).2 = 0 ∧ Runs (putM m x a n).1 := by
  obtain ⟨h1, h2⟩ := stores_run x n a h hl
  unfold putM
  simp only
  rw [if_pos h1]
  exact persist_runs h2 a n (by rw [stores_L]; exact hl)
theorem put_steps (m : Mdl) (x : Nat → Nat) (a n : Nat) : (putM m x a n).1.steps ≤ m.steps + 3 * n + 3 := by
  have h1 := stores_steps x n a m
  unfold putM; simp only
  split
  · have h2 := persist_steps (storesM m x a n).1 a n
    have h3 : endLine a n - firstLine a n ≤ n + 1 := by
      unfold firstLine endLine
      by_cases h0 : (n : Int) = 0
      · rw [if_pos h0, if_pos h0]; omega
      · rw [if_neg h0, if_neg h0]; omega
    omega
  · omega

/-- Words that are headers' of blocks: what is read. -/
theorem read_words {f : Nat → Int} {n : Nat} {h : Nat → H3} (hr : ∀ b, 1 ≤ b → b < n → rightH (h b).1 (h b).2.1 (h b).2.2 = true ∧ f (256 + b) = (encN (h b).1 (h b).2.1 (h b).2.2 (256 + b) : Nat)) :
    firstBad f n = none ∧ ∀ b, 1 ≤ b → b < n → hdrAt f b = h b := by
  have key : ∀ b, 1 ≤ b → b < n → badAt f b = false ∧ hdrAt f b = h b := fun b h1 h2 => by
    obtain ⟨hr1, hf⟩ := hr b h1 h2
    obtain ⟨k, c, l, e1, e2, e3, -⟩ := right_nat hr1
    unfold badAt hdrAt
    rw [hf, Int.toNat_natCast]
    generalize h b = z at *
    obtain ⟨z1, z2, z3⟩ := z
    simp only at e1 e2 e3 hr1 ⊢
    subst e1 e2 e3
    obtain ⟨g0, g1, g2, g3⟩ := back_all (256 + b) hr1
    rw [g0, g1, g2, g3]
    exact ⟨by simp, rfl⟩
  exact ⟨firstBad_none fun b h1 h2 => (key b h1 h2).1, fun b h1 h2 => (key b h1 h2).2⟩

end Bk
end Go.Proofs.YtaigocnnmjjhgaaDoor

namespace Go.Proofs.YtaigocnnmjjhgaaDoor
open Go.ChangeShapes Go.WideShapes Go.ChangeAt Go.RowKit Bk Bh Nv
set_option linter.unusedVariables false

/-- The device and the boxes of a geometry and of a header, behind calls that make memory. -/
structure StAt (w : World) (p : Nat) (f : Fp) (m : Mdl) (gb hb : Nat) (n k c l : Int) (W : World) : Prop where
  b : Below w.heap.size w W
  d : Dev W p f m
  g : BoxT 25 W gb #[.int .i64 n]
  h : BoxT 48 W hb #[.int .i64 k, .int .i64 c, .int .i64 l]
theorem StAt.step {w W W' : World} {p : Nat} {f : Fp} {m : Mdl} {gb hb : Nat} {n k c l : Int} (i : StAt w p f m gb hb n k c l W) (hW : Below W.heap.size W W') : StAt w p f m gb hb n k c l W' :=
  ⟨i.b.trans (hW.mono i.b.size), i.d.below hW, i.g.below hW i.g.lt, i.h.below hW i.h.lt⟩
theorem StAt.drew {w W : World} {p : Nat} {f : Fp} {m : Mdl} {gb hb : Nat} {n k c l : Int} (i : StAt w p f m gb hb n k c l W) : StAt w p f m gb hb n k c l W.drew := i.step (below_drewN (Below.refl _ _) 1)
theorem StAt.facts {w W : World} {p : Nat} {f : Fp} {m : Mdl} {gb hb : Nat} {n k c l : Int} (i : StAt w p f m gb hb n k c l W) :
    W.cell? ⟨gb, 0, none⟩ = some (.int .i64 n) ∧ W.cell? ⟨hb, 0, none⟩ = some (.int .i64 k) ∧ W.cell? ⟨hb, 1, none⟩ = some (.int .i64 c) ∧ W.cell? ⟨hb, 2, none⟩ = some (.int .i64 l) :=
  ⟨i.g.cell 0, i.h.cell 0, i.h.cell 1, i.h.cell 2⟩
/-- The device's own call behind them. -/
theorem StAt.to {w W W' : World} {p : Nat} {f : Fp} {m : Mdl} {r : Mdl × Int} {gb hb : Nat} {n k c l : Int} {e : Ending} (i : StAt w p f m gb hb n k c l W) (hg : w.heap.size ≤ gb) (hh : w.heap.size ≤ hb) (ho : ∀ b, f.own p b → b < w.heap.size) (ht : CodeTo p f r W e W') :
    CodeTo p f r w e W' ∧ W'.cell? ⟨gb, 0, none⟩ = some (.int .i64 n) ∧ W'.cell? ⟨hb, 0, none⟩ = some (.int .i64 k) ∧ W'.cell? ⟨hb, 1, none⟩ = some (.int .i64 c) ∧ W'.cell? ⟨hb, 2, none⟩ = some (.int .i64 l) := by
  obtain ⟨he, f', d, kp, o⟩ := ht
  obtain ⟨f0, f1, f2, f3⟩ := i.facts
  have kc : ∀ g o, w.heap.size ≤ g → g < W.heap.size → W'.cell? ⟨g, o, none⟩ = W.cell? ⟨g, o, none⟩ := fun g o h1 h2 => kp.cell (p := ⟨g, o, none⟩) h2 (fun e => by have := ho g e; omega)
  refine ⟨⟨he, f', d, (Keep.ofBelow i.b).trans' kp, fun b hb => (o b hb).imp id fun h => by have := i.b.size; omega⟩, ?_, ?_, ?_, ?_⟩
  · rw [kc gb 0 hg i.g.lt]; exact f0
  · rw [kc hb 0 hh i.h.lt]; exact f1
  · rw [kc hb 1 hh i.h.lt]; exact f2
  · rw [kc hb 2 hh i.h.lt]; exact f3

set_option maxRecDepth 100000 in
set_option maxHeartbeats 1000000 in
theorem blkStore_any {w : World} {p : Nat} {f : Fp} {m : Mdl} (h : Dev w p f m) (n b : Nat) (k c l : Int) (hb1 : 1 ≤ b) (hbn : b < n) (hn : n ≤ 256) (hst : m.steps < 4611686018427387904) (hT : HasRests w) :
    Calls Tryd.prog 31 #[.pointer (some ⟨p, 0, none⟩), .agg #[.int .i64 n], .int .i64 b, .agg #[.int .i64 k, .int .i64 c, .int .i64 l]] w (CodeTo p f (Nv.store m (256 + (b : Int)) (encN k c l (256 + b) : Nat)) w) := by
  have HH : Hid (∀ W, Calls Tryd.prog 33 #[.agg #[.int .i64 n], .int .i64 b] W fun e w' => e = .returned (.int .i64 (256 + (b : Int))) ∧ Below W.heap.size W w') := Lib.hid fun W => by
    have := geoHeader_any (n : Int) (b : Int) W (by omega)
    unfold headerG at this
    rwa [if_pos (by omega)] at this
  have HE : Hid (∀ W, HasRests W → Calls Tryd.prog 46 #[.int .i64 b, .agg #[.int .i64 k, .int .i64 c, .int .i64 l]] W (MadeOne (.int .u64 (encN k c l (256 + b) : Nat)) W)) := Lib.hid fun W hW =>
    headEnc_any b (256 + (b : Int)) (256 + b) k c l W (by unfold wrap64; omega) (by rw [IntKind.wrap_u64]; omega) (by omega) hW
  have HS : Hid (∀ W, Dev W p f m → Calls Tryd.prog 45 #[.pointer (some ⟨p, 0, none⟩), .int .i64 (256 + (b : Int)), .int .u64 (encN k c l (256 + b) : Nat)] W (CodeTo p f (Nv.store m (256 + (b : Int)) (encN k c l (256 + b) : Nat)) W)) := Lib.hid fun W hW => store_any hW _ _ (by omega)
  have HT := Lib.hid hT
  have HO := Lib.hid h.own_all
  have INV : Hid (StAt w p f m w.heap.size (w.heap.size + 1) n k c l ((w.alloc (.cells #[.int .i64 n] 25)).alloc (.cells #[.int .i64 k, .int .i64 c, .int .i64 l] 48))) := Lib.hid
    ⟨((Below.refl _ _).alloc (Nat.le_refl _) _).alloc (by simp) _, (h.alloc _).alloc _, (BoxT.new _ _ _).alloc _, by have := BoxT.new 48 (w.alloc (.cells #[.int .i64 n] 25)) #[.int .i64 k, .int .i64 c, .int .i64 l]; rwa [World.size_alloc] at this⟩
  obtain ⟨g, hg⟩ : ∃ g, g = w.heap.size + 1 := ⟨_, rfl⟩
  have HG : Hid (w.heap.size ≤ g) := Lib.hid (by omega)
  rw [← hg] at INV
  obtain ⟨r, hr⟩ : ∃ r, r = Nv.store m (256 + (b : Int)) (encN k c l (256 + b) : Nat) := ⟨_, rfl⟩
  rw [← hr] at HS ⊢
  generalize encN k c l (256 + b) = y at HS HE
  obtain ⟨m', code⟩ := r
  clear h hT hr
  go_enter Tryd.func31, Tryd.ntmps31
  go_wp2_with fail
  simp only [← hg]
  clear hg
  generalize (w.alloc (.cells #[.int .i64 n] 25)).alloc (.cells #[.int .i64 k, .int .i64 c, .int .i64 l] 48) = V at INV ⊢
  obtain ⟨c0, c1, c2, c3⟩ := INV.out.facts
  as_aux_lemma =>
    go_region_held3 (fun w' => w'.cell? ⟨w.heap.size, 0, none⟩ = some (.int .i64 n) ∧ w'.cell? ⟨g, 0, none⟩ = some (.int .i64 k) ∧ w'.cell? ⟨g, 1, none⟩ = some (.int .i64 c) ∧ w'.cell? ⟨g, 2, none⟩ = some (.int .i64 l))
      (first | go_keep | exact INV.out.facts | exact HF.out)
      (first
        | (go_at_call 33; refine (HH.out _).mono ?_; rintro e w' ⟨rfl, hb⟩; have INV := Lib.hid (INV.out.drew.step hb); clear hb)
        | (go_at_call 46; refine (HE.out _ (HT.out.below INV.out.b (Nat.le_refl _))).mono ?_; rintro e w' ⟨rfl, hb⟩; have INV := Lib.hid (INV.out.step hb); clear hb)
        | (go_at_call 45; refine (HS.out _ INV.out.d).mono ?_; intro e w' ht; have HP := Lib.hid (INV.out.to (Nat.le_refl _) HG.out HO.out ht).1; have HF := Lib.hid (INV.out.to (Nat.le_refl _) HG.out HO.out ht).2; obtain rfl := ht.1; clear ht INV))
    go_wp2_with fail
    go_ret
    exact HP.out

end Go.Proofs.YtaigocnnmjjhgaaDoor

namespace Go.Proofs.YtaigocnnmjjhgaaDoor
namespace Bk
open Nv Bh
set_option linter.unusedVariables false

/-- How many stores went through. -/
def okS (m : Mdl) (x : Nat → Nat) (a : Nat) : Nat → Nat
  | 0 => 0
  | n + 1 => if (storesM m x a (n + 1)).2 = 0 then n + 1 else okS m x a n
theorem okS_all {m : Mdl} {x : Nat → Nat} {a : Nat} : ∀ n, (storesM m x a n).2 = 0 → okS m x a n = n
  | 0, _ => rfl
  | n + 1, h => by unfold okS; rw [if_pos h]
theorem stores_stop {x : Nat → Nat} {a k : Nat} {m : Mdl} {r : Mdl × Int} (h : storesM m x a k = r) (h0 : r.2 ≠ 0) : ∀ n, k ≤ n → storesM m x a n = r
  | 0, hk => by obtain rfl : k = 0 := by omega
                exact h
  | n + 1, hk => by
    by_cases e : k = n + 1
    · subst e; exact h
    · have ih := stores_stop h h0 n (by omega)
      rw [storesM_last, ih, if_neg h0]
theorem okS_stop {m : Mdl} {x : Nat → Nat} {a q : Nat} (h : (storesM m x a q).2 = 0) (h1 : (storesM m x a (q + 1)).2 ≠ 0) : ∀ n, q < n → okS m x a n = q
  | 0, hn => by omega
  | n + 1, hn => by
    unfold okS
    rw [stores_stop (r := storesM m x a (q + 1)) rfl h1 (n + 1) (by omega), if_neg h1]
    by_cases e : q = n
    · subst e; exact okS_all q h
    · exact okS_stop h h1 n (by omega)
/-- The list with the first q of the headers put from place b on. -/
def putH (hs : List H3) (b : Nat) (ls : List H3) : Nat → List H3
  | 0 => hs
  | q + 1 => (putH hs b ls q).set (b + q) (ls.getD q (0, 0, 0))
theorem putH_len (hs : List H3) (b : Nat) (ls : List H3) : ∀ q, (putH hs b ls q).length = hs.length
  | 0 => rfl
  | q + 1 => by unfold putH; rw [List.length_set, putH_len hs b ls q]
theorem putH_at (hs : List H3) (b : Nat) (ls : List H3) : ∀ q, b + q ≤ hs.length → ∀ i, (putH hs b ls q).getD i (0, 0, 0) = if b ≤ i ∧ i < b + q then ls.getD (i - b) (0, 0, 0) else hs.getD i (0, 0, 0)
  | 0, _, i => by rw [if_neg (by omega)]; rfl
  | q + 1, hq, i => by
    have ih := putH_at hs b ls q (by omega) i
    unfold putH
    rw [List.getD_eq_getElem?_getD, List.getElem?_set]
    by_cases e : b + q = i
    · subst e
      rw [if_pos rfl, if_pos (by rw [putH_len]; omega), if_pos (by omega), show b + q - b = q by omega]
      rfl
    · rw [if_neg e, ← List.getD_eq_getElem?_getD, ih]
      by_cases h1 : b ≤ i ∧ i < b + q
      · rw [if_pos h1, if_pos (by omega)]
      · rw [if_neg h1, if_neg (by omega)]
/-- The word at place j of a list of headers that is put from block b on. -/
def wordX (b : Nat) (ls : List H3) (j : Nat) : Nat := encN (ls.getD (j - (256 + b)) (0, 0, 0)).1 (ls.getD (j - (256 + b)) (0, 0, 0)).2.1 (ls.getD (j - (256 + b)) (0, 0, 0)).2.2 j
theorem flat3_set : ∀ (hs : List H3) (i : Nat) (h : H3), i < hs.length → flat3 (hs.set i h) = (((flat3 hs).set (i * 3) h.1).set (i * 3 + 1) h.2.1).set (i * 3 + 1 + 1) h.2.2
  | [], i, h, hi => by simp at hi
  | a :: hs, 0, h, _ => rfl
  | a :: hs, i + 1, h, hi => by
    have ih := flat3_set hs i h (by simpa using hi)
    have e : ∀ (z : H3) (l : List H3), flat3 (z :: l) = z.1 :: z.2.1 :: z.2.2 :: flat3 l := fun _ _ => rfl
    rw [List.set_cons_succ, e, e, ih, show (i + 1) * 3 = i * 3 + 1 + 1 + 1 by omega, show i * 3 + 1 + 1 + 1 + 1 = (i * 3 + 1) + 1 + 1 + 1 by omega]
    simp only [List.set_cons_succ]
end Bk
end Go.Proofs.YtaigocnnmjjhgaaDoor

namespace Go.Proofs.YtaigocnnmjjhgaaDoor
open Go.ChangeShapes Go.WideShapes Go.ChangeAt Go.RowKit Bk Bh Nv
set_option linter.unusedVariables false

/-- The zero header's word. -/
def zeroX (j : Nat) : Nat := encN 0 0 0 j
/-- Behind some stores: the device, what it was made of; the geometry's box. -/
structure FmtAt (w : World) (p : Nat) (f : Fp) (gb : Nat) (n : Int) (mk : Mdl) (wr : World) : Prop where
  d : ∃ fk, Dev wr p fk mk ∧ ∀ b, fk.own p b → f.own p b ∨ w.heap.size ≤ b
  k : Keep (f.own p) w wr
  g : wr.cell? ⟨gb, 0, none⟩ = some (.int .i64 n)
  lt : gb < wr.heap.size
theorem FmtAt.on {w wr w' : World} {p : Nat} {f : Fp} {gb : Nat} {n : Int} {mk : Mdl} (h : FmtAt w p f gb n mk wr) (hb : Below wr.heap.size wr w') : FmtAt w p f gb n mk w' := by
  obtain ⟨fk, h1, h2⟩ := h.d
  exact ⟨⟨fk, h1.below hb, h2⟩, h.k.trans' (Keep.ofBelow hb), (hb.cell (p := ⟨gb, 0, none⟩) h.lt).trans h.g, Nat.lt_of_lt_of_le h.lt hb.size⟩
theorem FmtAt.to {w wr w' : World} {p : Nat} {f : Fp} {gb : Nat} {n : Int} {mk m' : Mdl} (h : FmtAt w p f gb n mk wr) (fk : Fp) (h1 : Dev wr p fk mk) (h2 : ∀ b, fk.own p b → f.own p b ∨ w.heap.size ≤ b) (hg : ¬ fk.own p gb) (ht : DevTo p fk m' wr w') : FmtAt w p f gb n m' w' := by
  obtain ⟨f', d, k, o⟩ := ht
  exact ⟨⟨f', d, own_step h.k h2 o⟩, keep_step h.k h2 k, (k.cell (p := ⟨gb, 0, none⟩) h.lt hg).trans h.g, Nat.lt_of_lt_of_le h.lt k.size⟩

set_option maxRecDepth 100000 in
set_option maxHeartbeats 1000000 in
theorem blkFormat_any {w : World} {p : Nat} {f : Fp} {m : Mdl} (h : Dev w p f m) (n : Nat) (h1 : 2 ≤ n) (hn : n ≤ 256) (hL : 512 * n ≤ 8 * m.L) (hst : m.steps < 1152921504606846976) (hT : ∀ W, Keep (f.own p) w W → HasRests W) :
    Calls Tryd.prog 22 #[.pointer (some ⟨p, 0, none⟩), .agg #[.int .i64 n]] w (CodeTo p f (putM m zeroX 257 (n - 1)) w) := by
  have hg0 : ¬ f.own p w.heap.size := fun e => by have := h.own_all _ e; omega
  have HG0 := Lib.hid hg0
  have H0 : Hid (FmtAt (w.alloc (.cells #[.int .i64 n] 25)) p f w.heap.size n m (w.alloc (.cells #[.int .i64 n] 25))) := Lib.hid
    ⟨⟨f, h.alloc _, fun b hb => .inl hb⟩, Keep.refl _ _, box1_cell _ _ _, by simp⟩
  have K0 : Hid (Keep (f.own p) w (w.alloc (.cells #[.int .i64 n] 25))) := Lib.hid ((Keep.refl _ _).alloc _)
  have Z0 : Hid (w.heap.size < (w.alloc (.cells #[.int .i64 n] 25)).heap.size) := Lib.hid (by simp)
  have HH : Hid (∀ (b : Nat) W, 1 ≤ b → b < n → Calls Tryd.prog 33 #[.agg #[.int .i64 n], .int .i64 b] W fun e w' => e = .returned (.int .i64 (256 + (b : Int))) ∧ Below W.heap.size W w') := Lib.hid fun b W hb1 hb2 => by
    have := geoHeader_any (n : Int) (b : Int) W (by omega)
    unfold headerG at this
    rwa [if_pos (by omega)] at this
  have HE : Hid (∀ (b : Nat) W, b < n → HasRests W → Calls Tryd.prog 46 #[.int .i64 b, .agg #[.int .i64 0, .int .i64 0, .int .i64 0]] W (MadeOne (.int .u64 (zeroX (256 + b) : Nat)) W)) := Lib.hid fun b W hb hW =>
    headEnc_any b (256 + (b : Int)) (256 + b) 0 0 0 W (by unfold wrap64; omega) (by rw [IntKind.wrap_u64]; omega) (by omega) hW
  have HT : Hid (∀ W, Keep (f.own p) (w.alloc (.cells #[.int .i64 n] 25)) W → HasRests W) := Lib.hid fun W hk => hT W (K0.out.trans' hk)
  have HF : Hid (∀ e W, CodeTo p f (putM m zeroX 257 (n - 1)) (w.alloc (.cells #[.int .i64 n] 25)) e W → CodeTo p f (putM m zeroX 257 (n - 1)) w e W) := Lib.hid fun e W hc => by
    obtain ⟨he, f', d, k, o⟩ := hc
    exact ⟨he, f', d, K0.out.trans' k, fun b hb => (o b hb).imp id fun hh => by have := Z0.out; omega⟩
  have cg : (w.alloc (.cells #[.int .i64 n] 25)).cell? ⟨w.heap.size, 0, none⟩ = some (.int .i64 n) := box1_cell _ _ _
  clear h hT K0 hg0
  go_enter Tryd.func22, Tryd.ntmps22
  go_wp2_with fail
  generalize w.alloc (.cells #[.int .i64 n] 25) = w0 at *
  generalize w.heap.size = gb at *
  clear cg
  go_loopw [5, 6] (fun i _ wr => ∃ (q : Nat) (mk : Mdl), 1 ≤ q ∧ q ≤ n ∧ i = .int .i64 q ∧ Hid (FmtAt w0 p f gb n mk wr) ∧ Hid (storesM m zeroX 257 (q - 1) = (mk, 0))) (fun i _ _ => n - (intOf i).toNat)
  case atStart => exact ⟨1, m, by omega, by omega, rfl, H0, Lib.hid rfl⟩
  case round =>
    obtain ⟨q, mk, hq1, hq, rfl, HI, HS⟩ := hrel
    have cg : wr.cell? ⟨gb, 0, none⟩ = some (.int .i64 n) := HI.out.g
    by_cases hlt : q < n
    · have hlt' : (q : Int) < (n : Int) := by omega
      go_wp2_with fail
      have H2 := HI
      obtain ⟨fk, d2, o2⟩ := H2.out.d
      have hmL : mk.L = m.L := by have := stores_L zeroX (q - 1) 257 m; rw [HS.out] at this; exact this
      have hms : mk.steps ≤ m.steps + (q - 1 : Nat) := by have := stores_steps zeroX (q - 1) 257 m; rw [HS.out] at this; exact this
      have hst1 := blkStore_any d2 n q 0 0 0 hq1 hlt hn (by omega) (HT.out _ H2.out.k)
      have hnext : storesM m zeroX 257 (q + 1 - 1) = Nv.store mk (256 + (q : Int)) (zeroX (256 + q) : Nat) := by
        have := storesM_last zeroX (q - 1) 257 m
        rw [HS.out] at this
        simp only [if_pos] at this
        rw [show q + 1 - 1 = q - 1 + 1 by omega, this, show 257 + (q - 1) = 256 + q by omega, show (((256 + q : Nat) : Int)) = 256 + (q : Int) by omega]
      change Calls _ _ _ _ (CodeTo p fk (Nv.store mk (256 + (q : Int)) (zeroX (256 + q) : Nat)) wr) at hst1
      rcases hfe : Nv.store mk (256 + (q : Int)) (zeroX (256 + q) : Nat) with ⟨m1, c⟩
      rw [hfe] at hst1 hnext
      refine hst1.mono ?_
      rintro e w3 ⟨rfl, ht⟩
      have H3 := Lib.hid (H2.out.to fk d2 o2 (fun e => (o2 _ e).elim HG0.out (fun e => by have := Z0.out; omega)) ht)
      have HNX := Lib.hid hnext
      clear hst1 hnext hfe ht d2 o2 H2 hmL hms cg HI
      by_cases hc : c = 0
      · subst hc
        go_wp2_with fail
        go_roundw
        case rel => exact ⟨q + 1, m1, by omega, by omega, by go_num, H3, HNX⟩
        case measure => simp [intOf]; omega
      · have hcb : ((c : Int) != 0) = true := by simpa using hc
        have HP : Hid (putM m zeroX 257 (n - 1) = (m1, c)) := Lib.hid (by
          have := stores_stop HNX.out hc (n - 1) (by omega)
          unfold putM
          rw [this]
          exact if_neg hc)
        have HC := Lib.hid hc
        clear hc
        go_wp2_with fail
        go_ret
        apply HF.out
        rw [HP.out]
        obtain ⟨f3, d3, o3⟩ := H3.out.d
        exact ⟨rfl, f3, d3, H3.out.k, o3⟩
    · have hlt' : ¬ (q : Int) < (n : Int) := by omega
      obtain rfl : q = n := by omega
      clear hlt
      go_wp2_with fail
      have hmL : mk.L = m.L := by have := stores_L zeroX (q - 1) 257 m; rw [HS.out] at this; exact this
      have hms : mk.steps ≤ m.steps + (q - 1 : Nat) := by have := stores_steps zeroX (q - 1) 257 m; rw [HS.out] at this; exact this
      have HH1 : Hid (∀ W, Calls Tryd.prog 33 #[.agg #[.int .i64 q], .int .i64 1] W fun e w' => e = .returned (.int .i64 257) ∧ Below W.heap.size W w') := Lib.hid fun W => HH.out 1 W (by omega) (by omega)
      have PS : Hid (∀ W a, a = (q : Int) - 1 → FmtAt w0 p f gb q mk W → Calls Tryd.prog 32 #[.pointer (some ⟨p, 0, none⟩), .int .i64 257, .int .i64 a] W (CodeTo p f (putM m zeroX 257 (q - 1)) w0)) := Lib.hid fun W a ha hW => by
        subst ha
        obtain ⟨fk, d2, o2⟩ := hW.d
        have hp : putM m zeroX 257 (q - 1) = Nv.persist mk 257 ((q : Int) - 1) := by
          unfold putM
          rw [HS.out]
          simp only [if_pos]
          rw [show ((q - 1 : Nat) : Int) = (q : Int) - 1 by omega]
          rfl
        rw [hp]
        refine (persist_any d2 257 ((q : Int) - 1) (by omega) (by omega) (by omega) (by omega) (by omega)).mono ?_
        rintro e w' ⟨he, f', d', k', o'⟩
        exact ⟨he, f', d', keep_step hW.k o2 k', own_step hW.k o2 o'⟩
      have G0 : Hid (w0.cell? ⟨gb, 0, none⟩ = some (.int .i64 q)) := Lib.hid H0.out.g
      clear hmL hms HS HH HE HT H0
      go_region_held3 (fun w' => w'.cell? ⟨gb, 0, none⟩ = some (.int .i64 q))
        (first | go_keep | exact HI.out.g | exact HG1.out)
        (first
          | (go_at_call 33; refine (HH1.out _).mono ?_; rintro e w' ⟨rfl, hb⟩; have HI := Lib.hid ((HI.out.on (below_drewN (Below.refl _ _) 1)).on hb); clear hb)
          | (go_at_call 32; refine (PS.out _ _ (by first | with_reducible rfl | (rw [IntKind.wrap_i64]; omega) | go_num) HI.out).mono ?_; rintro e w' ⟨rfl, ht⟩; have HP := Lib.hid (HF.out _ _ ⟨rfl, ht⟩); have HG1 := Lib.hid ((ht.choose_spec.2.1.cell (p := ⟨gb, 0, none⟩) Z0.out HG0.out).trans G0.out); clear ht HI))
      go_wp2_with fail
      go_ret
      exact HP.out

end Go.Proofs.YtaigocnnmjjhgaaDoor
