/-
  Any spans are an index, or the first that may not be is told.
  Conditions: none beyond the row (every argument that can be read as data).
-/
import Derived.Test.YtkejpdkokaiidaaPre
import Derived.Test.YtkejpdkokaiidaaAwake11
import Derived.Test.YtkejpdkokaiidaaRowsIn
namespace Go.Proofs.Ytkejpdkokaiidaa.runsFill
open Go.ChangeShapes Go.WideShapes Go.ChangeAt Go.RowKit
open Go.ChangeMaps (open_string shut_string)
set_option linter.unusedVariables false

-- ROWS
open Bk Rn

/-- Truths beside, behind any call. -/
structure FlAt (w : World) (T : Nat → Prop) (N : Nat) (f : Nat → Bool) (v : Value) (W : World) : Prop where
  b : Below w.heap.size w W
  s : BoolS W T v N f
/-- What fill told first, and an index that is there still. -/
theorem fill_stop {N : Nat} {ls : List (Int × Int)} {q : Nat} (h : (fillTo N ls q).2 ≠ 0) : ∀ n, q ≤ n → fillTo N ls n = fillTo N ls q
  | 0, hn => by rw [show q = 0 by omega]
  | n + 1, hn => by
    by_cases e : q = n + 1
    · rw [e]
    · have ih := fill_stop h n (by omega)
      show (if (fillTo N ls n).2 = 0 then _ else fillTo N ls n) = _
      rw [ih, if_neg h]

set_option maxRecDepth 100000 in
set_option maxHeartbeats 1000000 in
theorem walk  (a0 : Int) (a1 : Option Addr) (len1 cap1 : Nat) (z1 : List (List Int)) (w : World) (w0 : (Lit.int .i8 a0).wf = true) (w1 : RowsIn [.i64, .i64] w a1 len1 cap1 z1)  :
    Calls Try.prog 4 #[.int .i8 a0, .slice a1 len1 cap1] w fun e w' => e = .returned (.bool true) ∧ Below w.heap.size w w' := by
  have b0 := bounds_i8 w0
  obtain ⟨ls, hl, hv, hb⟩ := w1.sps
  have HV := Lib.hid hv
  have HB := Lib.hid hb
  have HL := Lib.hid hl
  clear w0 w1 hv hb hl
  by_cases hlen : 60 < (len1 : Int)
  · go_enter Try.func4, Try.ntmps4
    go_wp2_with fail
    refine (awake11_yes _).mono ?_
    rintro e w1 ⟨rfl, hb1⟩
    have B1 := Lib.hid hb1
    clear hb1
    go_wp2_with fail
    go_ret
    exact ⟨rfl, B1.out⟩
  have FI : Hid (∀ W, Below w.heap.size w W → Calls Try.prog 9 #[.int .i64 a0, .slice a1 len1 cap1] W (FillIs a0 (fillTo a0.toNat ls len1) W)) := Lib.hid fun W h => by
    have := idxFill_any a0 W (by omega) (by omega) _ ls (HV.out.below h (Nat.le_refl _)) (by rw [HL.out]; omega) (by rw [HL.out]; exact HB.out)
    rwa [HL.out] at this
  obtain ⟨C, hC, hmk⟩ := make_bools a0.toNat (by omega)
  have hmk' : ∀ w, (Instr.makeSlice 26 (.int .i64 (if a0 < 0 then 0 else a0)) (.int .i64 (if a0 < 0 then 0 else a0))).run Try.prog w = .ok (.slice (some ⟨w.heap.size, 0, none⟩) a0.toNat a0.toNat) (w.alloc (.cells C 4)) := by
    intro w
    have := hmk w
    rwa [show ((a0.toNat : Nat) : Int) = if a0 < 0 then 0 else a0 by split <;> omega] at this
  have HC := Lib.hid hC
  have hmk2 : ∀ w, (Instr.makeSlice 26 (.int .i64 (max a0 0)) (.int .i64 (max a0 0))).run Try.prog w = .ok (.slice (some ⟨w.heap.size, 0, none⟩) a0.toNat a0.toNat) (w.alloc (.cells C 4)) := by
    intro w
    have := hmk w
    rwa [show ((a0.toNat : Nat) : Int) = max a0 0 by omega] at this
  clear hC hmk
  go_enter Try.func4, Try.ntmps4
  go_wp2_with fail
  refine (awake11_yes _).mono ?_
  rintro e w1 ⟨rfl, hb1⟩
  have B1 := Lib.hid hb1
  clear hb1
  go_wp2_with fail
  refine (FI.out _ B1.out).mono ?_
  intro e w2 hf
  obtain ⟨r, hr⟩ : ∃ r, fillTo a0.toNat ls len1 = r := ⟨_, rfl⟩
  have HR := Lib.hid hr
  rw [hr] at hf
  clear hr FI
  obtain ⟨ff, code⟩ := r
  -- what was made: an index, or none
  obtain ⟨px, rfl, hpx, hb2⟩ : ∃ px, e = .returned (.tuple #[.pointer px, .int .i64 code]) ∧ (code = 0 → ∃ x own, px = some ⟨x, 0, none⟩ ∧ Ix w2 x own a0 ff ∧ ∀ b, own b → w.heap.size ≤ b) ∧ (code ≠ 0 → px = none) ∧ Below w1.heap.size w1 w2 := by
    unfold FillIs at hf
    simp only at hf
    by_cases h : code = 0
    · rw [if_pos h] at hf
      obtain ⟨x, own, rfl, h1, h2, h3⟩ := hf
      exact ⟨_, by rw [h], fun _ => ⟨x, own, rfl, h1, fun b hb => Nat.le_trans B1.out.size (h3 b hb)⟩, fun h4 => absurd h h4, h2⟩
    · rw [if_neg h] at hf
      obtain ⟨rfl, h2⟩ := hf
      exact ⟨_, rfl, fun h4 => absurd h4 h, fun _ => rfl, h2⟩
  obtain ⟨hpn, hb2⟩ := hb2
  have HP := Lib.hid (And.intro hpx hpn)
  have B2 : Hid (Below w.heap.size w w2) := Lib.hid (B1.out.trans (hb2.mono B1.out.size))
  clear hf hpx hpn hb2 B1
  obtain ⟨N, hN⟩ : ∃ N, a0.toNat = N := ⟨_, rfl⟩
  have hN1 : N ≤ 1000 := by omega
  have LIM := Lib.hid (show a0.toNat = N ∧ a0 ≤ 1000 from ⟨hN, by omega⟩)
  rw [hN] at hmk' hmk2 HC HR
  clear hN
  have F0 : Hid (FlAt w (fun b => w2.heap.size ≤ b) N (fillTo N ls 0).1 (.slice (some ⟨w2.heap.size, 0, none⟩) N N) (w2.alloc (.cells C 4))) := Lib.hid
    ⟨B2.out.alloc B2.out.size _, row_bools (f := fun _ => false) (HC.out w2) (Nat.le_refl _)⟩
  have K0 : Hid (Below w2.heap.size w2 (w2.alloc (.cells C 4))) := Lib.hid ((Below.refl _ _).alloc (Nat.le_refl _) _)
  by_cases hl0 : a0 < 0
  case' pos => rw [if_pos hl0] at hmk'
  case' neg => rw [if_neg hl0] at hmk'
  all_goals
    go_wp2_with fail
    generalize w2.alloc (.cells C 4) = w3 at F0 K0 ⊢
    clear hmk' hmk2 HC hl0
    go_loopw [7, 8, 9, 10] (fun u i _ _ wr => ∃ q : Nat, q ≤ len1 ∧ i = .int .i64 q ∧ Hid (FlAt w (fun b => w2.heap.size ≤ b) N (fillTo N ls q).1 u wr) ∧ Hid (Below w2.heap.size w2 wr) ∧ Hid ((fillTo N ls q).2 = 0)) (fun _ i _ _ _ => len1 - (intOf i).toNat)
    case atStart => exact ⟨0, by omega, rfl, F0, K0, Lib.hid rfl⟩
    case round =>
      obtain ⟨q, hq, rfl, HI, HK, HZ⟩ := hrel
      obtain ⟨ua, uc, rfl, -⟩ := id HI.out.s
      by_cases hlt : q < len1
      · have hlt' : (q : Int) < (len1 : Int) := by omega
        have hq0 : (0 : Int) ≤ (q : Int) := by omega
        obtain ⟨a', cap', ev, -, hcx⟩ := HV.out
        obtain ⟨lb, off, ha, hlb, hcell⟩ := hcx.resolve_left (fun h => by have := HL.out; rw [h] at this; simp at this; omega)
        subst ha
        obtain rfl : a1 = some ⟨lb, off, none⟩ := by cases ev; rfl
        obtain ⟨e0, e1⟩ := hcell q (by rw [HL.out]; exact hlt)
        have d0 := (HI.out.b.cell (p := ⟨lb, off + q * 2, none⟩) hlb).trans e0
        have d1 := (HI.out.b.cell (p := ⟨lb, off + q * 2 + 1, none⟩) hlb).trans e1
        have HNX : Hid (fillTo N ls (q + 1) = giveR (fillTo N ls q).1 N (ls.getD q (0, 0)).1 (ls.getD q (0, 0)).2) := Lib.hid (by
          show (if (fillTo N ls q).2 = 0 then _ else fillTo N ls q) = _
          rw [if_pos HZ.out])
        clear hcell hcx e0 e1 ev
        generalize (ls.getD q (0, 0)).1 = A at *
        generalize (ls.getD q (0, 0)).2 = M at *
        have GV : Hid (∀ W, Below wr.heap.size wr W → Calls Try.prog 10 #[.slice ua N uc, .int .i64 A, .int .i64 M] W (GiveIs (fun b => w2.heap.size ≤ b) N (fillTo N ls (q + 1)) W)) := Lib.hid fun W h => by
          rw [HNX.out]
          exact refGive_any _ N _ W (HI.out.s.below h) hN1 A M
        have CL : Hid (∀ W, Below wr.heap.size wr W → W.cell? ⟨lb, off + q * 2, none⟩ = some (.int .i64 A) ∧ W.cell? ⟨lb, off + q * 2 + 1, none⟩ = some (.int .i64 M)) := Lib.hid fun W h =>
          ⟨(h.cell (p := ⟨lb, off + q * 2, none⟩) (Nat.lt_of_lt_of_le hlb HI.out.b.size)).trans d0, (h.cell (p := ⟨lb, off + q * 2 + 1, none⟩) (Nat.lt_of_lt_of_le hlb HI.out.b.size)).trans d1⟩
        go_wp2_with fail
        go_region_held3 (fun w' => w'.cell? ⟨lb, off + q * 2, none⟩ = some (.int .i64 A) ∧ w'.cell? ⟨lb, off + q * 2 + 1, none⟩ = some (.int .i64 M))
          (first | go_keep | exact CL.out _ (Below.refl _ _) | exact CL.out _ HW.out)
          (first
            | (go_at_call 10; refine (GV.out _ (below_drewN (Below.refl _ _) 1)).mono ?_; rintro e w5 ⟨u5, rfl, hs5, hb5⟩; have HW : Hid (Below wr.heap.size wr w5) := Lib.hid ((below_drewN (Below.refl _ _) 1).trans hb5); have HS5 := Lib.hid hs5; clear hs5 hb5))
        have HI5 : Hid (FlAt w (fun b => w2.heap.size ≤ b) N (fillTo N ls (q + 1)).1 u5 w5) := Lib.hid ⟨HI.out.b.trans (HW.out.mono HI.out.b.size), HS5.out.mono fun b hb => hb.elim id fun h => Nat.le_trans HK.out.size h.1⟩
        have HK5 : Hid (Below w2.heap.size w2 w5) := Lib.hid (HK.out.trans (HW.out.mono HK.out.size))
        have HST : Hid ((fillTo N ls (q + 1)).2 ≠ 0 → (ff, code) = fillTo N ls (q + 1)) := Lib.hid fun h => by rw [← HR.out]; exact fill_stop h len1 (by omega)
        clear HI HK HZ HNX GV CL HS5
        generalize hfr : fillTo N ls (q + 1) = fr at *
        obtain ⟨f5, c5⟩ := fr
        have HFR := Lib.hid hfr
        clear hfr
        by_cases hc : c5 = 0
        · subst hc
          go_wp2_with fail
          go_roundw
          case rel => exact ⟨q + 1, by omega, by go_num, by rw [HFR.out]; exact HI5, HK5, Lib.hid (by rw [HFR.out])⟩
          case measure => simp [intOf]; omega
        · have hcb : (c5 == 0) = false := by simpa using hc
          have hcb' : (c5 != 0) = true := by simpa using hc
          have e := HST.out hc
          obtain ⟨rfl, rfl⟩ : ff = f5 ∧ code = c5 := by cases e; exact ⟨rfl, rfl⟩
          have hpx : px = none := HP.out.2 hc
          subst hpx
          have KF : Hid (Below w.heap.size w w5) := Lib.hid HI5.out.b
          clear e hc
          go_wp2_with fail
          go_ret
          exact ⟨rfl, KF.out⟩
      · have hlt' : ¬ (q : Int) < (len1 : Int) := by omega
        obtain rfl : q = len1 := by omega
        have hz : code = 0 := by have := HZ.out; rw [HR.out] at this; exact this
        subst hz
        obtain ⟨x, own, rfl, hx, ho⟩ := HP.out.1 rfl
        have PL : Hid (PlAt w x own a0 ff (.slice ua N uc) wr) := Lib.hid ⟨HI.out.b, hx.below HK.out, ho, by
          have := HI.out.s
          rw [HR.out] at this
          rw [LIM.out.1]
          exact this.mono fun b hb hob => by have := hx.lt b hob; omega⟩
        clear hlt
        go_wp2_with fail
        refine (shows_any PL.out LIM.out.2).mono ?_
        rintro e w4 ⟨rfl, hb4⟩
        have KF : Hid (Below w.heap.size w w4) := Lib.hid (PL.out.b.trans (hb4.mono PL.out.b.size))
        clear hb4
        go_wp2_with fail
        go_ret
        exact ⟨rfl, KF.out⟩

set_option maxRecDepth 100000 in
theorem lifted (os : Os) (started : os.Started) (H : Type) (enc : TypeId × Value → H) :
    ReturnsInHanded {} Try.checked os 4 .any (Rows.runsFillSpec.pre6 enc Try.prog Try.f4 Rows.runsFillRow.domain false) (Rows.runsFillSpec.post enc Try.prog Try.f4 false true false false) := by
  refine returnsInHanded_of_change (C := Try.checked) own started (by kernel_rfl) Try.func4
    (ChangeSpec.witness6 (enc := enc) (C := Try.checked) false ⟨#[], #[.int .i8 0, .slice none 0 0], []⟩ 8 (by kernel_rfl) (by kernel_rfl) (by kernel_rfl) (by kernel_rfl)) ?_
  intro W base args ds gs before hval0 hW hcnd _
  have hval : ∀ (j : Nat) t v, Try.f4.params[j]? = some t → args[j]? = some v → Value.okWide Try.prog W .any base t v := hval0
  have hW' := hW
  obtain ⟨p, q, hA0, hV, rfl, hfz, hnd⟩ := hW
  have hA : DataW.TrodAll enc Try.prog W 0 (fun _ => true) true Try.f4.params.toList args.toList ds p := hA0
  rw [Try.params4] at hA hval
  obtain ⟨v0, vs0, d0, ds0, p0, q0, hargs, rfl, rfl, h0, r0⟩ := trodAll_cons hA
  obtain ⟨v1, vs1, d1, ds1, p1, q1, rfl, rfl, rfl, h1, r1⟩ := trodAll_cons r0
  obtain ⟨rfl, rfl, rfl⟩ := trodAll_nil r1
  obtain rfl : args = #[v0, v1] := by cases args; simp_all
  obtain ⟨rfl, rfl⟩ := trodVars_none hV
  obtain ⟨a0, rfl, rfl, rfl, w0⟩ := open_int Try.underlying22 (hval 0 22 v0 rfl rfl) h0
  obtain ⟨a1, len1, cap1, rfl⟩ := okWide_slice Try.underlying31 (hval 1 31 v1 rfl rfl)
  have k1 := h1
  have lt1 : ∀ x ∈ p1, x.block < W.heap.size := by obtain ⟨m, hm⟩ := k1; exact DataW.trod_lt m _ _ _ hm
  obtain ⟨a1_, len1_, cap1_, z1, e1_, w1⟩ := rows_of Try.underlying31 Try.underlying38 (by kernel_rfl) [.i64, .i64] (by decide) (by kernel_rfl) (by kernel_rfl) (by kernel_rfl) h1
  obtain ⟨rfl, rfl, rfl⟩ : a1 = a1_ ∧ len1 = len1_ ∧ cap1 = cap1_ := by simp [Value.cells] at e1_; exact ⟨e1_.1, e1_.2.1, e1_.2.2⟩
  clear hA0 hval0
  refine (walk a0 a1 len1 cap1 z1 W w0 w1 ).mono fun e W' ⟨he, bel⟩ => ?_
  subst he
  exact ⟨_, rfl, _, _, _, [], _, [], hW', trodAll_mk1 (shut_bool Try.underlying4 _), (trodAll_cons_mk (shut_int Try.underlying22 w0) (trodAll_cons_mk (Below.trod laidOut (by kernel_rfl) (of_decide_eq_true (by kernel_rfl)) k1 bel lt1) trodAll_mk0)), rfl, bel.frame _, fun h => by cases h⟩

theorem over : Rows.runsFillRow.holds Try.pinned (OpenSpec.ofChange Rows.runsFillSpec) :=
  OpenClaim.holds_of_wide 4 Try.f4 rfl rfl rfl rfl rfl rfl rfl ⟨rfl, rfl, rfl, rfl, rfl⟩ rfl rfl rfl rfl rfl (by kernel_rfl) Try.func4 (by kernel_rfl)
    (of_decide_eq_true (by kernel_rfl)) (by unfold Func.isWrapper; first | (rw [if_pos (by decide +kernel)]; kernel_rfl) | (rw [if_neg (by decide +kernel)]; exact ⟨rfl, rfl⟩))
    (fun os started H enc _ => lifted os started H enc)

/-- The statement. -/
theorem proved : Rows.RunsFillSaid := over
#print axioms proved
end Go.Proofs.Ytkejpdkokaiidaa.runsFill
