/-
  What is taken, and given back, leaves the same blocks free; a run that is taken is of blocks that were free, and the shortest that will do.
  Conditions: none beyond the row (every argument that can be read as data).
-/
import Derived.Test.YtkejpdkokaiidaaPre
import Derived.Test.YtkejpdkokaiidaaAwake11
import Derived.Deep.QuietTactic
import Derived.BigQuiet
import Derived.Test.YtkejpdkokaiidaaRowsIn
namespace Go.Proofs.Ytkejpdkokaiidaa.runsBack
open Go.ChangeShapes Go.WideShapes Go.ChangeAt Go.RowKit
open Go.ChangeMaps (open_string shut_string)
set_option linter.unusedVariables false

-- ROWS
open Bk Rn


set_option maxRecDepth 100000 in
set_option maxHeartbeats 1000000 in
theorem walk  (a0 : Int) (a1 : Option Addr) (len1 cap1 : Nat) (z1 : List (List Int)) (a2 : Int) (w : World) (w0 : (Lit.int .i8 a0).wf = true) (w1 : RowsIn [.i64, .i64, .i64] w a1 len1 cap1 z1) (w2 : (Lit.int .i8 a2).wf = true)  :
    Calls Try.prog 5 #[.int .i8 a0, .slice a1 len1 cap1, .int .i8 a2] w fun e w' => e = .returned (.bool true) ∧ Below w.heap.size w w' := by
  have b0 := bounds_i8 w0
  have b2 := bounds_i8 w2
  obtain ⟨hs, hl, hv, hb⟩ := w1.hs
  have HV := Lib.hid hv
  have HB := Lib.hid hb
  have HL := Lib.hid hl
  clear w0 w1 w2 hv hb hl
  have hl1 : a0 ≤ 1000 := by omega
  have K0 : Hid (∀ W, Below w.heap.size w W → Calls Try.prog 7 #[.int .i64 a0, .slice a1 len1 cap1] W (PlayedIs a0 W)) := Lib.hid fun W h =>
    played_any a0 W (by omega) (by omega) _ hs (HV.out.below h (Nat.le_refl _)) (by rw [HL.out]; exact HB.out)
  obtain ⟨N, hN⟩ : ∃ N, a0.toNat = N := ⟨_, rfl⟩
  have hN2 : N ≤ 1000 := by omega
  have LN := Lib.hid hN
  clear hN
  go_enter Try.func5, Try.ntmps5
  go_wp2_with fail
  refine (awake11_yes _).mono ?_
  rintro e w1 ⟨rfl, hb1⟩
  have B1 := Lib.hid hb1
  clear hb1
  go_wp2_with fail
  refine (K0.out _ B1.out).mono ?_
  rintro e w2 ⟨x, own, f, u, rfl, hp⟩
  have IX := Lib.hid hp.ix
  have HO : Hid (∀ b, own b → w.heap.size ≤ b) := Lib.hid fun b hb => Nat.le_trans B1.out.size (hp.o b hb)
  have B2 : Hid (Below w.heap.size w w2) := Lib.hid (B1.out.trans (hp.b.mono B1.out.size))
  obtain ⟨ua, uc, rfl, -⟩ := id hp.s
  clear hp K0 B1
  go_wp2_with fail
  refine (idxList_any IX.out hl1).mono ?_
  rintro e w3 ⟨l, rfl, hls, hnew, hb3⟩
  have I3 := Lib.hid (IX.out.below hb3)
  have B3 : Hid (Below w.heap.size w w3) := Lib.hid (B2.out.trans (hb3.mono B2.out.size))
  rw [LN.out] at hls hnew
  have NW := Lib.hid hnew
  have S3 := Lib.hid hls
  obtain ⟨la, lc, rfl, hlc, hcell⟩ := hls
  have HC := Lib.hid hcell
  have OL := Lib.hid IX.out.lt
  clear hb3 hcell hnew IX B2
  go_wp2_with fail
  have TK := Lib.hid (idxTake_any I3.out hl1 a2 (by omega) (by omega))
  rw [LN.out] at TK
  refine TK.out.mono ?_
  rintro e w4 ⟨rfl, ht⟩
  have HT := Lib.hid ht
  clear ht TK
  have HTB : Hid ((takeR f N a2).2.2 = 0 → _) := Lib.hid (take_back (f := f) (N := N) (n := a2) fun b hb => (I3.out.free b hb).1)
  have HNO : Hid ((takeR f N a2).2.2 ≠ 0 → (takeR f N a2).1 = f ∧ (a2 < 1 ∨ maxTo (runsTo f N) (runsTo f N).length < a2)) := Lib.hid fun h => by
    refine ⟨by unfold takeR at h ⊢; split; rfl; split; rfl; rename_i h1 h2; rw [if_neg h1, if_neg h2] at h; exact absurd rfl h, ?_⟩
    by_cases c : a2 < 1
    · exact .inl c
    · right
      apply maxTo_lt (by omega)
      unfold takeR at h
      rw [if_neg c] at h
      by_cases c2 : bestTo (runsTo f N) a2 (runsTo f N).length < 0
      · exact c2
      · rw [if_neg c2] at h; exact absurd rfl h
  obtain ⟨r, hr⟩ : ∃ r, takeR f N a2 = r := ⟨_, rfl⟩
  rw [hr] at HT HTB HNO ⊢
  clear hr
  obtain ⟨f4, bb, code⟩ := r
  obtain ⟨own4, h4, k4, o4⟩ := HT.out
  have I4 := Lib.hid h4
  have B4 : Hid (Below w.heap.size w w4) := Lib.hid (B3.out.trans (k4.below (B := w.heap.size) B3.out.size HO.out))
  by_cases hc : code = 0
  rotate_left
  · have hcb : (code == 0) = false := by simpa using hc
    have hcb' : (code != 0) = true := by simpa using hc
    obtain ⟨rfl, hor⟩ := HNO.out hc
    clear hc HTB HNO HT k4 o4 HO h4
    go_wp2_with fail
    have LG := Lib.hid (idxLongest_any I4.out hl1)
    rw [LN.out] at LG
    refine LG.out.mono ?_
    rintro e w5 ⟨rfl, hb5⟩
    have B5 : Hid (Below w.heap.size w w5) := Lib.hid (B4.out.trans (hb5.mono B4.out.size))
    generalize maxTo (runsTo f4 N) (runsTo f4 N).length = mx at *
    clear hb5 LG
    by_cases c : mx < a2
    · clear hor
      go_wp2_with fail
      go_ret
      exact ⟨rfl, B5.out⟩
    · have c2 : a2 < 1 := by omega
      clear hor
      go_wp2_with fail
      go_ret
      exact ⟨by simp, B5.out⟩
  subst hc
  obtain ⟨B, s, k, M, rfl, hM1, hMk, hBL, hBe, hrun, hs1, htk, huniq, hleast, hgive⟩ := HTB.out rfl
  obtain ⟨rfl, rfl⟩ : f4 = setF f s M false ∧ bb = s := by cases htk; exact ⟨rfl, rfl⟩
  obtain ⟨lb, off, rfl, hlb, hcell⟩ := HC.out.resolve_left (fun h => by rw [h] at hBL; simp at hBL)
  have hsk := hrun.le
  have hfresh : w2.heap.size ≤ lb := by
    rcases NW.out with h | ⟨b', o', n', c', e, h⟩
    · rw [h] at hBL; simp at hBL
    · cases e; exact h
  have hno : ¬ own lb := fun h => by have := OL.out lb h; omega
  have hno4 : ¬ own4 lb := fun h => (o4 lb h).elim hno fun h => by omega
  have hlb4 : lb < w4.heap.size := Nat.lt_of_lt_of_le hlb k4.size
  have CE : Hid (∀ i, i < (runsTo f N).length → w4.cell? ⟨lb, off + i * 2, none⟩ = some (.int .i64 ((runsTo f N).getD i (0, 0)).1) ∧ w4.cell? ⟨lb, off + i * 2 + 1, none⟩ = some (.int .i64 ((runsTo f N).getD i (0, 0)).2)) := Lib.hid fun i hi => by
    obtain ⟨c0, c1⟩ := hcell i hi
    exact ⟨(k4.cell (p := ⟨lb, off + i * 2, none⟩) hlb hno).trans c0, (k4.cell (p := ⟨lb, off + i * 2 + 1, none⟩) hlb hno).trans c1⟩
  have HN4 := Lib.hid (And.intro hno4 hlb4)
  have HO4 : Hid (∀ b, own4 b → w.heap.size ≤ b) := Lib.hid fun b hb => (o4 b hb).elim (HO.out b) fun h => Nat.le_trans B3.out.size h
  have HU := Lib.hid huniq
  have HLE := Lib.hid hleast
  have HBE := Lib.hid hBe
  have HGV := Lib.hid hgive
  have HSN : Hid (hasF (setF f s M false) N s = false) := Lib.hid (by
    unfold hasF setF
    rw [Int.toNat_natCast, if_pos (by omega)]
    simp)
  clear HTB HNO HT k4 o4 HO h4 HC hcell NW OL hno hno4 hlb4 hlb htk huniq hleast hBe hgive I3 B3 S3 hfresh hrun
  have hLN := runsTo_len f N
  obtain ⟨lst, hls⟩ : ∃ lst, runsTo f N = lst := ⟨_, rfl⟩
  have HLS := Lib.hid hls
  rw [hls] at CE HU HLE HBE hBL hlc hLN ⊢
  clear hls
  obtain ⟨L, hL⟩ : ∃ L, lst.length = L := ⟨_, rfl⟩
  have HLN := Lib.hid hL
  rw [hL] at CE HU HLE hBL hlc hLN ⊢
  clear hL
  go_wp2_with fail
  go_loopw [13, 14] (fun len i wr => ∃ q : Nat, q ≤ L ∧ i = .int .i64 q ∧ len = .int .i64 (if B < q then (k : Int) else 0) ∧ w4 = wr) (fun _ i _ => L - (intOf i).toNat)
  case atStart => exact ⟨0, by omega, rfl, by rw [if_neg (by omega)], rfl⟩
  case round =>
    obtain ⟨q, hq, rfl, rfl, rfl⟩ := hrel
    by_cases hlt : q < L
    · have hlt' : (q : Int) < (L : Int) := by omega
      have hq0 : (0 : Int) ≤ (q : Int) := by omega
      obtain ⟨e0, e1⟩ := CE.out q hlt
      by_cases hqB : q = B
      · subst hqB
        rw [HBE.out] at e0 e1
        simp only at e0 e1
        go_wp2_with fail
        go_roundw
        case rel => exact ⟨q + 1, by omega, by go_num, by rw [if_pos (by omega)], by simp⟩
        case measure => simp [intOf]; omega
      · have hne := HU.out q hlt hqB
        generalize (lst.getD q (0, 0)).1 = z0 at *
        generalize (lst.getD q (0, 0)).2 = z1 at *
        have hnb : (z0 == (s : Int)) = false := by simpa using hne
        have HIF : Hid ((if B < q + 1 then (k : Int) else 0) = if B < q then (k : Int) else 0) := Lib.hid (by
          by_cases c : B < q
          · rw [if_pos c, if_pos (by omega)]
          · rw [if_neg c, if_neg (by omega)])
        generalize (if B < q then (k : Int) else 0) = le at *
        clear hne hqB
        go_wp2_with fail
        go_roundw
        case rel => exact ⟨q + 1, by omega, by go_num, by rw [HIF.out], by simp⟩
        case measure => simp [intOf]; omega
    · have hlt' : ¬ (q : Int) < (L : Int) := by omega
      obtain rfl : q = L := by omega
      rw [if_pos hBL]
      clear hlt
      go_wp2_with fail
      go_loopw [15] (fun i wr => ∃ p : Nat, p ≤ q ∧ i = .int .i64 p ∧ w4 = wr) (fun i _ => q - (intOf i).toNat)
      case atStart => exact ⟨0, by omega, rfl, rfl⟩
      case round =>
        obtain ⟨p, hp, rfl, rfl⟩ := hrel
        by_cases hlt : p < q
        · have hlt2 : (p : Int) < (q : Int) := by omega
          have hp0 : (0 : Int) ≤ (p : Int) := by omega
          obtain ⟨-, e1⟩ := CE.out p hlt
          have hle := HLE.out p hlt
          generalize (lst.getD p (0, 0)).2 = z1 at *
          by_cases c : (M : Int) ≤ z1
          · have c2 : ¬ z1 < (k : Int) := by have := hle c; omega
            clear hle
            go_wp2_with fail
            go_roundw
            case rel => exact ⟨p + 1, by omega, by go_num, by simp⟩
            case measure => simp [intOf]; omega
          · clear hle
            go_wp2_with fail
            go_roundw
            case rel => exact ⟨p + 1, by omega, by go_num, by simp⟩
            case measure => simp [intOf]; omega
        · have hlt2 : ¬ (p : Int) < (q : Int) := by omega
          obtain rfl : p = q := by omega
          have hkM : ¬ (k : Int) < (M : Int) := by omega
          clear hlt
          go_wp2_with fail
          have HH := Lib.hid (idxHas_any I4.out hl1 (s : Int) (by omega) (by omega))
          rw [LN.out, HSN.out] at HH
          refine HH.out.mono ?_
          rintro e w5 ⟨rfl, hb5⟩
          have I5 := Lib.hid (I4.out.below hb5)
          have B5 : Hid (Below w.heap.size w w5) := Lib.hid (B4.out.trans (hb5.mono B4.out.size))
          have K5 := Lib.hid hb5
          clear hb5 HH I4
          go_wp2_with fail
          have GV := Lib.hid (idxGive_any I5.out hl1 (s : Int) (M : Int) (by omega) (by omega) (by omega) (by omega))
          rw [LN.out, HGV.out] at GV
          refine GV.out.mono ?_
          rintro e w6 ⟨rfl, own6, h6, k6, o6⟩
          have I6 := Lib.hid h6
          have B6 : Hid (Below w.heap.size w w6) := Lib.hid (B5.out.trans (k6.below (B := w.heap.size) B5.out.size HO4.out))
          have K6 := Lib.hid k6
          clear h6 k6 o6 GV I5
          go_wp2_with fail
          have LI := Lib.hid (idxList_any I6.out hl1)
          rw [LN.out, HLS.out] at LI
          refine LI.out.mono ?_
          rintro e w7 ⟨v7, rfl, hl7, -, hb7⟩
          have B7 : Hid (Below w.heap.size w w7) := Lib.hid (B6.out.trans (hb7.mono B6.out.size))
          have CE7 : Hid (∀ i, i < p → w7.cell? ⟨lb, off + i * 2, none⟩ = some (.int .i64 (lst.getD i (0, 0)).1) ∧ w7.cell? ⟨lb, off + i * 2 + 1, none⟩ = some (.int .i64 (lst.getD i (0, 0)).2)) := Lib.hid fun i hi => by
            obtain ⟨c0, c1⟩ := CE.out i hi
            have s5 : lb < w5.heap.size := Nat.lt_of_lt_of_le HN4.out.2 K5.out.size
            have s6 : lb < w6.heap.size := Nat.lt_of_lt_of_le s5 K6.out.size
            exact ⟨(hb7.cell (p := ⟨lb, off + i * 2, none⟩) s6).trans ((K6.out.cell (p := ⟨lb, off + i * 2, none⟩) s5 HN4.out.1).trans ((K5.out.cell (p := ⟨lb, off + i * 2, none⟩) HN4.out.2).trans c0)),
              (hb7.cell (p := ⟨lb, off + i * 2 + 1, none⟩) s6).trans ((K6.out.cell (p := ⟨lb, off + i * 2 + 1, none⟩) s5 HN4.out.1).trans ((K5.out.cell (p := ⟨lb, off + i * 2 + 1, none⟩) HN4.out.2).trans c1))⟩
          obtain ⟨l7, c7, rfl, hlc7, hx7⟩ := hl7
          obtain ⟨gb, go, rfl, -, hcell7⟩ := hx7.resolve_left (fun h => by have := HLN.out; rw [h] at this; simp at this; omega)
          have CN7 := Lib.hid hcell7
          rw [HLN.out] at CN7 hlc7 ⊢
          clear hb7 hx7 hcell7 LI K5 K6 CE I6 B4 B5 B6
          go_wp2_with fail
          go_loopw [17] (fun i wr => ∃ (m nd : Nat), m ≤ p ∧ i = .int .i64 m ∧ wr = w7.drewN nd) (fun i _ => p - (intOf i).toNat)
          case atStart => exact ⟨0, 0, by omega, rfl, rfl⟩
          case round =>
            obtain ⟨m, nd, hm, rfl, rfl⟩ := hrel
            by_cases hlt : m < p
            · have hlt3 : (m : Int) < (p : Int) := by omega
              have hm0 : (0 : Int) ≤ (m : Int) := by omega
              obtain ⟨e0, e1⟩ := CE7.out m hlt
              obtain ⟨g0, g1⟩ := CN7.out m hlt
              generalize (lst.getD m (0, 0)).1 = z0 at *
              generalize (lst.getD m (0, 0)).2 = z1 at *
              have heq : ∀ w' : World, (Op.equalIn 10000 38 (.agg #[.int .i64 z0, .int .i64 z1]) (.agg #[.int .i64 z0, .int .i64 z1])).run Try.prog w' = .ok true w' := fun w' => by rw [eqSpV]; simp
              go_wp2_with fail
              go_quiet (fail)
              go_wp2_with fail
              go_roundw
              case rel => exact ⟨m + 1, _, by omega, by go_num, rfl⟩
              case measure => simp [intOf]; omega
            · have hlt3 : ¬ (m : Int) < (p : Int) := by omega
              clear hlt
              go_wp2_with fail
              go_ret
              exact ⟨rfl, below_drewN B7.out nd⟩

set_option maxRecDepth 100000 in
theorem lifted (os : Os) (started : os.Started) (H : Type) (enc : TypeId × Value → H) :
    ReturnsInHanded {} Try.checked os 5 .any (Rows.runsBackSpec.pre6 enc Try.prog Try.f5 Rows.runsBackRow.domain false) (Rows.runsBackSpec.post enc Try.prog Try.f5 false true false false) := by
  refine returnsInHanded_of_change (C := Try.checked) own started (by kernel_rfl) Try.func5
    (ChangeSpec.witness6 (enc := enc) (C := Try.checked) false ⟨#[], #[.int .i8 0, .slice none 0 0, .int .i8 0], []⟩ 8 (by kernel_rfl) (by kernel_rfl) (by kernel_rfl) (by kernel_rfl)) ?_
  intro W base args ds gs before hval0 hW hcnd _
  have hval : ∀ (j : Nat) t v, Try.f5.params[j]? = some t → args[j]? = some v → Value.okWide Try.prog W .any base t v := hval0
  have hW' := hW
  obtain ⟨p, q, hA0, hV, rfl, hfz, hnd⟩ := hW
  have hA : DataW.TrodAll enc Try.prog W 0 (fun _ => true) true Try.f5.params.toList args.toList ds p := hA0
  rw [Try.params5] at hA hval
  obtain ⟨v0, vs0, d0, ds0, p0, q0, hargs, rfl, rfl, h0, r0⟩ := trodAll_cons hA
  obtain ⟨v1, vs1, d1, ds1, p1, q1, rfl, rfl, rfl, h1, r1⟩ := trodAll_cons r0
  obtain ⟨v2, vs2, d2, ds2, p2, q2, rfl, rfl, rfl, h2, r2⟩ := trodAll_cons r1
  obtain ⟨rfl, rfl, rfl⟩ := trodAll_nil r2
  obtain rfl : args = #[v0, v1, v2] := by cases args; simp_all
  obtain ⟨rfl, rfl⟩ := trodVars_none hV
  obtain ⟨a0, rfl, rfl, rfl, w0⟩ := open_int Try.underlying22 (hval 0 22 v0 rfl rfl) h0
  obtain ⟨a1, len1, cap1, rfl⟩ := okWide_slice Try.underlying23 (hval 1 23 v1 rfl rfl)
  have k1 := h1
  have lt1 : ∀ x ∈ p1, x.block < W.heap.size := by obtain ⟨m, hm⟩ := k1; exact DataW.trod_lt m _ _ _ hm
  obtain ⟨a1_, len1_, cap1_, z1, e1_, w1⟩ := rows_of Try.underlying23 Try.underlying49 (by kernel_rfl) [.i64, .i64, .i64] (by decide) (by kernel_rfl) (by kernel_rfl) (by kernel_rfl) h1
  obtain ⟨rfl, rfl, rfl⟩ : a1 = a1_ ∧ len1 = len1_ ∧ cap1 = cap1_ := by simp [Value.cells] at e1_; exact ⟨e1_.1, e1_.2.1, e1_.2.2⟩
  obtain ⟨a2, rfl, rfl, rfl, w2⟩ := open_int Try.underlying22 (hval 2 22 v2 rfl rfl) h2
  clear hA0 hval0
  refine (walk a0 a1 len1 cap1 z1 a2 W w0 w1 w2 ).mono fun e W' ⟨he, bel⟩ => ?_
  subst he
  exact ⟨_, rfl, _, _, _, [], _, [], hW', trodAll_mk1 (shut_bool Try.underlying4 _), (trodAll_cons_mk (shut_int Try.underlying22 w0) (trodAll_cons_mk (Below.trod laidOut (by kernel_rfl) (of_decide_eq_true (by kernel_rfl)) k1 bel lt1) (trodAll_cons_mk (shut_int Try.underlying22 w2) trodAll_mk0))), rfl, bel.frame _, fun h => by cases h⟩

theorem over : Rows.runsBackRow.holds Try.pinned (OpenSpec.ofChange Rows.runsBackSpec) :=
  OpenClaim.holds_of_wide 5 Try.f5 rfl rfl rfl rfl rfl rfl rfl ⟨rfl, rfl, rfl, rfl, rfl⟩ rfl rfl rfl rfl rfl (by kernel_rfl) Try.func5 (by kernel_rfl)
    (of_decide_eq_true (by kernel_rfl)) (by unfold Func.isWrapper; first | (rw [if_pos (by decide +kernel)]; kernel_rfl) | (rw [if_neg (by decide +kernel)]; exact ⟨rfl, rfl⟩))
    (fun os started H enc _ => lifted os started H enc)

/-- The statement. -/
theorem proved : Rows.RunsBackSaid := over
#print axioms proved
end Go.Proofs.Ytkejpdkokaiidaa.runsBack
