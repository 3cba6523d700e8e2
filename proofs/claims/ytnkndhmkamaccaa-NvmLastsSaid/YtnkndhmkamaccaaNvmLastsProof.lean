/-
  With all kept a crash leaves all as it is now, with none as it lasts; what was persisted lasts through every crash, for all words, operations and choices.
  Conditions: none beyond the row (every argument that can be read as data).
-/
import Derived.Test.YtnkndhmkamaccaaPre
import Derived.Test.YtnkndhmkamaccaaPlayed
import Derived.Test.YtnkndhmkamaccaaNvmLast
import Derived.Test.YtnkndhmkamaccaaOpIn
namespace Go.Proofs.Ytnkndhmkamaccaa.nvmLasts
open Go.ChangeShapes Go.WideShapes Go.ChangeAt Go.RowKit
open Go.ChangeMaps (open_string shut_string)
set_option linter.unusedVariables false

open Nv
theorem infoC8 : (Try.prog.info? 5).map (fun i => (i.zero, i.size, i.bytes)) = some (some (.int .u8 0), 1, 1) := by kernel_rfl
theorem make_kept (n : Nat) (hn : n ≤ 300000000) : ∃ C : Array Value, C.size = n ∧ (∀ k, k < n → C[k]? = some (.int .u8 0)) ∧
    ∀ w, (Instr.makeSlice 34 (.int .i64 n) (.int .i64 n)).run Try.prog w = .ok (.slice (some ⟨w.heap.size, 0, none⟩) n n) (w.alloc (.cells C 5)) := by
  obtain ⟨i, h1, h2, h3, h4⟩ := info_split infoC8
  refine ⟨madeCells (Value.int .u8 0).cells (n * 1), by simp [madeCells], fun k hk => madeCells_get rfl (by omega), fun w => ?_⟩
  have := run_make (P := Try.prog) w 34 5 i _ Try.underlying34 h1 h2 .i64 .i64 n n (by omega) (by omega) (by rw [h4]; omega) (by omega)
  rw [h3] at this
  simpa using this

/-- The flags behind k rounds. -/
def twos (k : Nat) : Nat → Value := fun j => .int .u8 (if j < k then 2 else 0)
theorem twos_ints {w : World} {b L : Nat} (h : Row w b 5 L (twos L)) : IsInts .u8 w (.slice (some ⟨b, 0, none⟩) L L) (List.replicate L 2) := by
  refine ⟨some ⟨b, 0, none⟩, L, by rw [List.length_replicate], by simp, .inr ⟨b, 0, rfl, h.lt, fun i hi => ?_⟩⟩
  rw [List.length_replicate] at hi
  rw [Nat.zero_add, h.cell hi, List.getD_eq_getElem?_getD, List.getElem?_replicate, if_pos hi]
  unfold twos; rw [if_pos hi]; rfl
theorem twos_byte (L : Nat) : ∀ k, 0 ≤ (List.replicate L (2 : Int)).getD k 0 ∧ (List.replicate L (2 : Int)).getD k 0 ≤ 255 := fun k => by
  rw [List.getD_eq_getElem?_getD, List.getElem?_replicate]; split <;> decide

/-- A device and two that crashes have left of it. -/
structure Three (w0 : World) (p pa pn : Nat) (f fa fn : Fp) (m : Mdl) (wr : World) : Prop where
  d : Dev wr p f m
  da : Dev wr pa fa (Nv.crash m (List.replicate m.L 2))
  dn : Dev wr pn fn (Nv.crash m [])
  own : ∀ b, f.own p b → w0.heap.size ≤ b
  bw : Below w0.heap.size w0 wr

set_option maxRecDepth 100000 in
set_option maxHeartbeats 1000000 in
theorem walk {H : Type} {enc : TypeId × Value → H} {base : Nat} {d1 : DataW H} {p1 : List MemPlace} {d2 : DataW H} {p2 : List MemPlace} (a0 : Option Addr) (len0 cap0 : Nat) (z0 : List Int) (a1 : Value) (a2 : Value) (w : World) (w0 : IsRow .u64 w a0 len0 cap0 z0) (w1 : Value.okWide Try.prog w .any base 23 a1) (k1 : DataW.Trod enc Try.prog w 0 (fun _ => true) true 23 a1 d1 p1) (w2 : Value.okWide Try.prog w .any base 36 a2) (k2 : DataW.Trod enc Try.prog w 0 (fun _ => true) true 36 a2 d2 p2)  :
    Calls Try.prog 4 #[.slice a0 len0 cap0, a1, a2] w fun e w' => e = .returned (.bool true) ∧ Below w.heap.size w w' := by
  obtain ⟨q1, q2, q3⟩ := w0.ints
  obtain ⟨os, hos⟩ := ops_of_trod w1 k1
  obtain ⟨o, rfl, ho⟩ := op_of_val w2 k2
  have HQ := Lib.hid q1
  have HOS := Lib.hid hos
  have HO := Lib.hid ho
  unfold OpV.val
  clear q1 q3 hos ho w0 w1 w2 k1 k2
  go_enter Try.func4, Try.ntmps4
  go_wp2_with fail
  refine (awake_yes _).mono ?_
  rintro e wa ⟨rfl, hb1⟩
  have hob : OBox wa w.heap.size #[.int .i64 o.k, .int .i64 o.a, .int .i64 o.n, .int .u64 o.x, .slice o.ca o.cl o.ccap] := (OBox.new w _).keep (Keep.ofBelow (S := fun _ => False) hb1) (fun h => h)
  have B1 : Hid (Below w.heap.size w wa) := Lib.hid (((Below.refl _ _).alloc (Nat.le_refl _) _).trans (hb1.mono (by simp)))
  have r1 : wa.cell? ⟨w.heap.size, 1, none⟩ = some (.int .i64 o.a) := hob.cell 1
  have r2 : wa.cell? ⟨w.heap.size, 2, none⟩ = some (.int .i64 o.n) := hob.cell 2
  have r4 : wa.cell? ⟨w.heap.size, 4, none⟩ = some (.slice o.ca o.cl o.ccap) := hob.cell 4
  clear hb1 hob
  go_wp2_with fail
  go_quiet (fail)
  clear r1 r2 r4
  go_wp2_with fail
  have B2 : Hid (Below w.heap.size w (wa.drewN nq)) := Lib.hid (below_drewN B1.out nq)
  generalize wa.drewN nq = wd at B2 ⊢
  clear B1
  refine (few_any a0 len0 cap0 a1 os (HOS.out.below B2.out (Nat.le_refl _))).mono ?_
  rintro e w' ⟨b, rfl, hF, rfl⟩
  cases b
  · go_wp2_with fail
    go_ret
    exact ⟨rfl, B2.out⟩
  obtain ⟨h200, hfew⟩ := hF rfl
  by_cases hcl : 100 < o.cl
  · clear hF h200 hfew
    have hcl' : (100 : Int) < (o.cl : Int) := by omega
    go_wp2_with fail
    go_ret
    exact ⟨rfl, B2.out⟩
  have hcl' : ¬ (100 : Int) < (o.cl : Int) := by omega
  have hcd : decide ((100 : Int) < (o.cl : Int)) = false := by simpa using hcl'
  obtain ⟨ws, hws⟩ : ∃ ws, z0.take len0 = ws := ⟨_, rfl⟩
  rw [hws] at HQ q2
  clear hws
  obtain ⟨m, hm⟩ : ∃ m, playM os (fresh (linesFor ws.length) (padded ws)) os.length = m := ⟨_, rfl⟩
  obtain ⟨L, hL⟩ : ∃ L, linesFor ws.length = L := ⟨_, rfl⟩
  have hL26 : L ≤ 26 := by rw [← hL]; unfold linesFor; omega
  have hcm : Nv.Clean m := by rw [← hm]; exact clean_play os (clean_fresh _ _) _
  have hp := played_any _ ws (HQ.out.below B2.out (Nat.le_refl _)) (by omega) a1 os (HOS.out.below B2.out (Nat.le_refl _)) hfew
  rw [hm, hL] at hp
  have HP := Lib.hid hp
  have HC := Lib.hid hcm
  have hol : os.length ≤ 60 := hfew.1
  clear hF h200 hfew hp hm hL hcm
  go_wp2_with fail
  refine HP.out.mono ?_
  rintro e wb ⟨p, f, r, T, rfl, hd, -, -, ho, -, hb2, hok⟩
  have hmL := hok.hL
  have hs1 := hok.s1
  have HML := Lib.hid hmL
  have B3 : Hid (Below w.heap.size w wb) := Lib.hid (B2.out.trans (hb2.mono B2.out.size))
  have O3 : Hid (∀ b, f.own p b → w.heap.size ≤ b) := Lib.hid fun b hb => by have := B2.out.size; have := ho b hb; omega
  have D3 := Lib.hid hd
  have HZ : Hid (Box (wb.alloc (.cells z30 30)) wb.heap.size z30) := Lib.hid (Box.new wb _)
  clear hb2 HP hd ho hok hmL B2
  go_wp2_with (refine wpList_store_box rfl _ _ rfl (b := wb.heap.size) (old := z30) (cells := rc r _) rfl rfl HZ.out rfl rfl (rc_one _ _) ?_; intro wc hbc kc; have K4 := Lib.hid (And.intro (((B3.out.alloc B3.out.size _).trans (kc.below (B := w.heap.size) (by have := B3.out.size; simp; omega) (fun i e => by have := B3.out.size; omega)))) ((D3.out.alloc _).keep kc (fun b _ hb e => by have := D3.out.own_all b hb; omega))); clear hbc kc)
  have hmL26 : m.L ≤ 26 := by have := HML.out; omega
  obtain ⟨C, hCs, hCc, hmk⟩ := make_kept m.L (by omega)
  have HCR : Hid (∀ w : World, Row (w.alloc (.cells C 5)) w.heap.size 5 m.L (twos 0)) := Lib.hid fun w => Row.new w _ C m.L (twos 0) hCs (fun k hk => by rw [hCc k hk]; rfl)
  clear hCs hCc HZ D3 B3 HML
  refine (lines_any K4.out.2).mono ?_
  rintro e w' ⟨rfl, rfl⟩
  go_wp2_with fail
  have B5 : Hid (Below w.heap.size w (wc.alloc (.cells C 5))) := Lib.hid (K4.out.1.alloc K4.out.1.size _)
  have D5 : Hid (Dev (wc.alloc (.cells C 5)) p f m) := Lib.hid (K4.out.2.alloc _)
  have R5 := Lib.hid (HCR.out wc)
  have N5 : Hid (w.heap.size ≤ wc.heap.size ∧ ∀ b, f.own p b → b < wc.heap.size) := Lib.hid ⟨K4.out.1.size, K4.out.2.own_all⟩
  generalize wc.heap.size = bk at R5 N5 ⊢
  generalize wc.alloc (.cells C 5) = we at B5 D5 R5 ⊢
  clear K4 HCR hmk
  have hL31 : (m.L : Int) ≤ 26 := by omega
  go_loopw [14] (fun i wr => ∃ k : Nat, k ≤ m.L ∧ i = .int .i64 k ∧ Hid (Below w.heap.size w wr ∧ Dev wr p f m ∧ Row wr bk 5 m.L (twos k))) (fun i _ => m.L - (intOf i).toNat)
  case atStart => exact ⟨0, by omega, rfl, Lib.hid ⟨B5.out, D5.out, R5.out⟩⟩
  case round =>
    clear B5 D5 R5
    obtain ⟨k, hk, rfl, HR⟩ := hrel
    by_cases hlt : k < m.L
    · have hlt' : (k : Int) < (m.L : Int) := by omega
      have hck := HR.out.2.2.cell hlt
      have hfk := HR.out.2.2.frozen k
      unfold twos at hck
      have HR2 : Hid (Below w.heap.size w (wr.setCell ⟨bk, k, none⟩ (.int .u8 2)) ∧ Dev (wr.setCell ⟨bk, k, none⟩ (.int .u8 2)) p f m ∧ Row (wr.setCell ⟨bk, k, none⟩ (.int .u8 2)) bk 5 m.L (twos (k + 1))) := Lib.hid (by
        refine ⟨HR.out.1.setCell N5.out.1 _, HR.out.2.1.keep (S := fun b => b = bk) ((Keep.refl (fun b => b = bk) wr).setCell (fun _ => rfl) _) (fun b _ ho e => by have := N5.out.2 b ho; omega), (HR.out.2.2.set k _).congr fun j _ => ?_⟩
        unfold twos
        by_cases e : j = k
        · rw [if_pos e, if_pos (by omega)]
        · rw [if_neg e]
          by_cases e2 : j < k
          · rw [if_pos e2, if_pos (by omega)]
          · rw [if_neg e2, if_neg (by omega)])
      clear HR
      go_wp2_with fail
      go_roundw
      case rel => exact ⟨k + 1, by omega, by go_num, HR2⟩
      case measure => simp [intOf]; omega
    · have hlt' : ¬ (k : Int) < (m.L : Int) := by omega
      obtain rfl : k = m.L := by omega
      have hca := crash_any HR.out.2.1 _ _ (twos_ints HR.out.2.2) (twos_byte _) (by rw [List.length_replicate]; omega)
      have HCA := Lib.hid hca
      clear hca
      go_wp2_with fail
      refine HCA.out.mono ?_
      rintro e w1 ⟨pa, fa, rfl, da, ka, oa⟩
      have d1 : Dev w1 p f m := HR.out.2.1.keep ka (fun _ _ _ h => h)
      have hcn := crash_none d1
      have B1 : Hid (Below w.heap.size w w1) := Lib.hid (HR.out.1.trans (ka.below HR.out.1.size (fun _ h => h.elim)))
      have D1 := Lib.hid (And.intro d1 da)
      have HCN := Lib.hid hcn
      clear hcn da ka oa d1 HCA HR
      go_wp2_with fail
      refine HCN.out.mono ?_
      rintro e w2 ⟨pn, fn, rfl, dn, kn, on⟩
      have H3 : Hid (Three w p pa pn f fa fn m w2) := Lib.hid ⟨D1.out.1.keep kn (fun _ _ _ h => h), D1.out.2.keep kn (fun _ _ _ h => h), dn, O3.out, B1.out.trans (kn.below B1.out.size (fun _ h => h.elim))⟩
      clear dn kn on D1 HCN B1
      go_wp2_with fail
      go_loop [17] (fun i => ∃ k : Nat, k ≤ 8 * m.L ∧ i = .int .i64 k) (fun i => 8 * m.L - (intOf i).toNat)
      case atStart => exact ⟨0, by omega, rfl⟩
      case round =>
        obtain ⟨k, hk, rfl⟩ := hrel
        have hle := len_any H3.out.d
        rw [show ((8 * m.L : Nat) : Int) = 8 * (m.L : Int) from by omega] at hle
        have HLE := Lib.hid hle
        clear hle
        by_cases hlt : k < 8 * m.L
        · have hlt' : (k : Int) < 8 * (m.L : Int) := by omega
          have hin : ∀ n : Mdl, n.L = m.L → getNow n k = n.now k ∧ getLast n k = n.last k := fun n hn => by
            unfold getNow getLast hasW; rw [hn, if_pos (by simp; omega), if_pos (by simp; omega)]; exact ⟨rfl, rfl⟩
          have e1 := get_any H3.out.da k
          have e2 := get_any H3.out.d k
          have e3 := get_any H3.out.dn k
          have e4 := lasting_any H3.out.d k
          rw [(hin (Nv.crash m (List.replicate m.L 2)) rfl).1, crash_now HC.out k hlt] at e1
          rw [(hin m rfl).1] at e2
          rw [(hin (Nv.crash m []) rfl).1, crash_last] at e3
          rw [(hin m rfl).2] at e4
          have E1 := Lib.hid e1
          have E2 := Lib.hid e2
          have E3 := Lib.hid e3
          have E4 := Lib.hid e4
          clear e1 e2 e3 e4 hin
          go_wp2_with (first
            | (go_at_call 12; refine HLE.out.mono ?_; rintro e w' ⟨rfl, rfl⟩)
            | (go_at_call 13; (with_reducible refine E1.out.mono ?_); rintro e w' ⟨rfl, rfl⟩)
            | (go_at_call 13; (with_reducible refine E2.out.mono ?_); rintro e w' ⟨rfl, rfl⟩)
            | (go_at_call 13; (with_reducible refine E3.out.mono ?_); rintro e w' ⟨rfl, rfl⟩)
            | (go_at_call 14; (with_reducible refine E4.out.mono ?_); rintro e w' ⟨rfl, rfl⟩))
          go_round
          case rel => exact ⟨k + 1, by omega, by go_num⟩
          case measure => simp [intOf]; omega
        · have hlt' : ¬ (k : Int) < 8 * (m.L : Int) := by omega
          have hpe := persist_any H3.out.d o.a o.n (by omega) HO.out.ha.1 HO.out.ha.2 HO.out.hn.1 HO.out.hn.2
          by_cases h0 : (Nv.persist m o.a o.n).2 = 0
          · obtain ⟨g1, g2, g3, g4, g5, g6⟩ := persist_done HC.out o.a o.n h0
            unfold CodeTo at hpe
            rw [h0] at hpe
            generalize (Nv.persist m o.a o.n).1 = m2 at hpe g4 g5 g6
            obtain ⟨A, hA⟩ : ∃ A : Nat, o.a = A := ⟨o.a.toNat, by omega⟩
            obtain ⟨N, hN⟩ : ∃ N : Nat, o.n = N := ⟨o.n.toNat, by omega⟩
            rw [hA, hN] at hpe g6
            rw [hA] at g3
            rw [hN] at g3
            have G5 := Lib.hid g5
            have G6 := Lib.hid g6
            have G4 := Lib.hid g4
            have HPE := Lib.hid hpe
            have g7 : m2.L ≤ 26 := by omega
            rw [hA, hN]
            clear hpe g1 g2 g4 g5 g6 hA hN h0
            go_wp2_with (go_at_call 12; refine HLE.out.mono ?_; rintro e w' ⟨rfl, rfl⟩)
            refine HPE.out.mono ?_
            rintro e w3 ⟨rfl, f3, d3, k3, o3⟩
            have B3 : Hid (Below w.heap.size w w3) := Lib.hid (H3.out.bw.trans (k3.below H3.out.bw.size H3.out.own))
            have D3 := Lib.hid d3
            have hcc := crash_any d3 _ o.cs (HO.out.hv.below B3.out (Nat.le_refl _)) HO.out.hcs (by obtain ⟨_, _, e, _⟩ := HO.out.hv; injection e with _ e2 _; omega)
            have HCC := Lib.hid hcc
            clear hcc d3 k3 o3 HPE H3 HLE
            go_wp2_with fail
            refine HCC.out.mono ?_
            rintro e w4 ⟨pc, fc, rfl, dc, kc, oc⟩
            have D4 : Hid (Dev w4 p f3 m2 ∧ Dev w4 pc fc (Nv.crash m2 o.cs)) := Lib.hid ⟨D3.out.keep kc (fun _ _ _ h => h), dc⟩
            have B4 : Hid (Below w.heap.size w w4) := Lib.hid (B3.out.trans (kc.below B3.out.size (fun _ h => h.elim)))
            clear dc kc oc D3 B3 HCC
            go_wp2_with fail
            go_loop [19] (fun i => ∃ j : Nat, A ≤ j ∧ j ≤ A + N ∧ i = .int .i64 j) (fun i => A + N - (intOf i).toNat)
            case atStart => exact ⟨A, by omega, by omega, rfl⟩
            case round =>
              obtain ⟨j, hj1, hj2, rfl⟩ := hrel
              by_cases hj : j < A + N
              · have hj' : (j : Int) < (A : Int) + (N : Int) := by omega
                have hin : ∀ n : Mdl, n.L = m2.L → getNow n j = n.now j ∧ getLast n j = n.last j := fun n hn => by
                  have := G4.out
                  unfold getNow getLast hasW; rw [hn, if_pos (by simp; omega), if_pos (by simp; omega)]; exact ⟨rfl, rfl⟩
                have hd := G6.out j (by omega) (by omega)
                have hl := persist_lasts G5.out j hd o.cs
                have e1 := get_any D4.out.2 j
                have e2 := get_any D4.out.1 j
                have e3 := lasting_any D4.out.2 j
                rw [(hin (Nv.crash m2 o.cs) rfl).1, hl.1] at e1
                rw [(hin m2 rfl).1] at e2
                rw [(hin (Nv.crash m2 o.cs) rfl).2, hl.2] at e3
                have E1 := Lib.hid e1
                have E2 := Lib.hid e2
                have E3 := Lib.hid e3
                clear e1 e2 e3 hin hd hl
                go_wp2_with (first
                  | (go_at_call 13; (with_reducible refine E1.out.mono ?_); rintro e w' ⟨rfl, rfl⟩)
                  | (go_at_call 13; (with_reducible refine E2.out.mono ?_); rintro e w' ⟨rfl, rfl⟩)
                  | (go_at_call 14; (with_reducible refine E3.out.mono ?_); rintro e w' ⟨rfl, rfl⟩))
                go_round
                case rel => exact ⟨j + 1, by omega, by omega, by go_num⟩
                case measure => simp [intOf]; omega
              · have hj' : ¬ (j : Int) < (A : Int) + (N : Int) := by omega
                go_wp2_with fail
                go_ret
                exact ⟨rfl, B4.out⟩
          · have hz : ((Nv.persist m o.a o.n).2 == 0) = false := by simpa using h0
            have hz' : ((Nv.persist m o.a o.n).2 != 0) = true := by simpa using h0
            unfold CodeTo at hpe
            have HPE := Lib.hid hpe
            clear hpe h0
            go_wp2_with (go_at_call 12; refine HLE.out.mono ?_; rintro e w' ⟨rfl, rfl⟩)
            refine HPE.out.mono ?_
            rintro e w3 ⟨rfl, f3, d3, k3, o3⟩
            have B3 : Hid (Below w.heap.size w w3) := Lib.hid (H3.out.bw.trans (k3.below H3.out.bw.size H3.out.own))
            clear d3 k3 o3
            go_wp2_with fail
            go_ret
            exact ⟨rfl, B3.out⟩

set_option maxRecDepth 100000 in
theorem lifted (os : Os) (started : os.Started) (H : Type) (enc : TypeId × Value → H) :
    ReturnsInHanded {} Try.checked os 4 .any (Rows.nvmLastsSpec.pre6 enc Try.prog Try.f4 Rows.nvmLastsRow.domain false) (Rows.nvmLastsSpec.post enc Try.prog Try.f4 false true false false) := by
  refine returnsInHanded_of_change (C := Try.checked) own started (by kernel_rfl) Try.func4
    (ChangeSpec.witness6 (enc := enc) (C := Try.checked) false ⟨#[], #[.slice none 0 0, .slice none 0 0, .agg #[.int .i64 0, .int .i64 0, .int .i64 0, .int .u64 0, .slice none 0 0]], []⟩ 8 (by kernel_rfl) (by kernel_rfl) (by kernel_rfl) (by kernel_rfl)) ?_
  intro W base args ds gs before hval0 hW hcnd _
  have hval : ∀ (j : Nat) t v, Try.f4.params[j]? = some t → args[j]? = some v → Value.okWide Try.prog W .any base t v := hval0
  have hW' := hW
  obtain ⟨p, q, hA0, hV, rfl, hfz, hnd⟩ := hW
  have hA : DataW.TrodAll enc Try.prog W 0 (fun _ => true) true Try.f4.params.toList args.toList ds p := hA0
  rw [Try.params4] at hA hval
  obtain ⟨v0, vs0, d0, ds0, p0, q0, hargs, rfl, rfl, h0, r0⟩ := trodAll_cons hA
  obtain ⟨v1, vs1, d1, ds1, p1, q1, rfl, rfl, rfl, h1, r1⟩ := trodAll_cons r0
  obtain ⟨v2, vs2, d2, ds2, p2, q2, rfl, rfl, rfl, h2, r2⟩ := trodAll_cons r1
  obtain ⟨rfl, rfl, rfl⟩ := trodAll_nil r2
  obtain rfl : args = #[v0, v1, v2] := by cases args; simp_all
  obtain ⟨rfl, rfl⟩ := trodVars_none hV
  obtain ⟨a0, len0, cap0, rfl⟩ := okWide_slice Try.underlying22 (hval 0 22 v0 rfl rfl)
  have k0 := h0
  have lt0 : ∀ x ∈ p0, x.block < W.heap.size := by obtain ⟨m, hm⟩ := k0; exact DataW.trod_lt m _ _ _ hm
  obtain ⟨z0, w0⟩ : ∃ zs, IsRow .u64 W a0 len0 cap0 zs := isRow_of Try.underlying22 Try.underlying33 (by kernel_rfl) h0
  have k1 := h1
  have lt1 : ∀ x ∈ p1, x.block < W.heap.size := by obtain ⟨m, hm⟩ := k1; exact DataW.trod_lt m _ _ _ hm
  have k2 := h2
  have lt2 : ∀ x ∈ p2, x.block < W.heap.size := by obtain ⟨m, hm⟩ := k2; exact DataW.trod_lt m _ _ _ hm
  clear hA0 hval0
  refine (walk a0 len0 cap0 z0 v1 v2 W w0 (hval 1 23 v1 rfl rfl) k1 (hval 2 36 v2 rfl rfl) k2 ).mono fun e W' ⟨he, bel⟩ => ?_
  subst he
  exact ⟨_, rfl, _, _, _, [], _, [], hW', trodAll_mk1 (shut_bool Try.underlying4 _), (trodAll_cons_mk (Below.trod laidOut (by kernel_rfl) (of_decide_eq_true (by kernel_rfl)) k0 bel lt0) (trodAll_cons_mk (Below.trod laidOut (by kernel_rfl) (of_decide_eq_true (by kernel_rfl)) k1 bel lt1) (trodAll_cons_mk (Below.trod laidOut (by kernel_rfl) (of_decide_eq_true (by kernel_rfl)) k2 bel lt2) trodAll_mk0))), rfl, bel.frame _, fun h => by cases h⟩

theorem over : Rows.nvmLastsRow.holds Try.pinned (OpenSpec.ofChange Rows.nvmLastsSpec) :=
  OpenClaim.holds_of_wide 4 Try.f4 rfl rfl rfl rfl rfl rfl rfl ⟨rfl, rfl, rfl, rfl, rfl⟩ rfl rfl rfl rfl rfl (by kernel_rfl) Try.func4 (by kernel_rfl)
    (of_decide_eq_true (by kernel_rfl)) (by unfold Func.isWrapper; first | (rw [if_pos (by decide +kernel)]; kernel_rfl) | (rw [if_neg (by decide +kernel)]; exact ⟨rfl, rfl⟩))
    (fun os started H enc _ => lifted os started H enc)

/-- The statement. -/
theorem proved : Rows.NvmLastsSaid := over
#print axioms proved
end Go.Proofs.Ytnkndhmkamaccaa.nvmLasts
