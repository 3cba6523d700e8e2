/-
  What was written lasts through a crash, and is read; a superblock that doesn't fit the device isn't written.
  Conditions: none beyond the row (every argument that can be read as data); the tables that the row lists hold what the text lays, which the card ties.
-/
import Derived.Test.YtpgkplknfhdmgaaDoorPre
import Derived.Test.YtpgkplknfhdmgaaDoorCards
import Derived.Test.YtpgkplknfhdmgaaDoorTie
import Derived.Deep.DeepHandedRow
import Derived.Lib.LaidTab
import Derived.Test.YtpgkplknfhdmgaaDoorAwake05
import Derived.Test.YtpgkplknfhdmgaaDoorRead
import Derived.Test.YtpgkplknfhdmgaaDoorWrite
import Derived.Test.YtpgkplknfhdmgaaDoorCrash
namespace Go.Proofs.YtpgkplknfhdmgaaDoor.superLasts
open Go.ChangeShapes Go.WideShapes Go.ChangeAt Go.RowKit
open Go.ChangeMaps (open_string shut_string)
set_option linter.unusedVariables false

open Bt Cr Su Nv

theorem rests_same : ∀ i, i < 16 → ([0, 498536548, 997073096, 651767980, 1994146192, 1802195444, 1303535960, 1342533948, 3988292384, 4027552580, 3604390888, 3412177804, 2607071920, 2262029012, 2685067896, 3183342108] : List Int).getD i 0 = ((tab.getD i 0 : Nat) : Int) := by decide +kernel
theorem lines_of (n : Nat) : linesFor (512 * n) = 64 * n := by unfold linesFor; omega
theorem ints_none (w : World) : IsInts .u8 w (.slice none 0 0) [] := ⟨none, 0, rfl, by simp, .inl rfl⟩

set_option maxRecDepth 100000 in
set_option maxHeartbeats 1000000 in
theorem walk  (a0 : Int) (a1 : Int) (a2 : Int) (w : World) (w0 : (Lit.int .u8 a0).wf = true) (w1 : (Lit.int .u8 a1).wf = true) (w2 : (Lit.int .u64 a2).wf = true) (t0 : Lib.TabIs Tryd.prog w "taproot/crc.rests" .u32 [0, 498536548, 997073096, 651767980, 1994146192, 1802195444, 1303535960, 1342533948, 3988292384, 4027552580, 3604390888, 3412177804, 2607071920, 2262029012, 2685067896, 3183342108]) :
    Calls Tryd.prog 5 #[.int .u8 a0, .int .u8 a1, .int .u64 a2] w fun e w' => e = .returned (.bool true) ∧ Below w.heap.size w w' := by
  have hT : HasRests w := fun i hi => by
    have := t0.cell (g := 0) (by kernel_rfl) i hi
    rw [rests_same i hi] at this
    exact this
  have b0 := bounds_u8 w0
  have b1 := bounds_u8 w1
  have b2 := bounds_u64 w2
  obtain ⟨a, rfl⟩ := Int.eq_ofNat_of_zero_le b0.1
  obtain ⟨c, rfl⟩ := Int.eq_ofNat_of_zero_le b1.1
  obtain ⟨id, rfl⟩ := Int.eq_ofNat_of_zero_le b2.1
  have hid : id < 2 ^ 64 := by omega
  have hmod : (a : Int) % 5 = ((a % 5 : Nat) : Int) := by omega
  have hmod2 : (c : Int) % 5 = ((c % 5 : Nat) : Int) := by omega
  have hN : a % 5 < 5 := Nat.mod_lt _ (by decide)
  have hM : c % 5 < 5 := Nat.mod_lt _ (by decide)
  generalize a % 5 = N at hmod hN
  generalize c % 5 = M at hmod2 hM
  have hnew := fun w => new_any ((512 * N : Nat) : Int) w (by omega) (by omega)
  simp only [upS_nat, lines_of] at hnew
  rw [show ((512 * N : Nat) : Int) = 512 * (N : Int) from by omega] at hnew
  have HN := Lib.hid hnew
  have HT := Lib.hid hT
  have hN' : (N : Int) ≤ 4 := by omega
  have hM' : (M : Int) ≤ 4 := by omega
  clear t0 w0 w1 w2 b0 b1 b2 hT hnew
  go_enter Tryd.func5, Tryd.ntmps5
  go_wp2_with fail
  refine (awake_yes _ HT.out).mono ?_
  rintro e w1 ⟨rfl, k1⟩
  have K1 := Lib.hid k1
  clear k1
  go_wp2_with fail
  refine (HN.out _).mono ?_
  rintro e w2 ⟨p, f, rfl, d2, k2, o2⟩
  have D2 := Lib.hid d2
  have K2 : Hid (Below w.heap.size w w2) := Lib.hid (K1.out.trans (k2.below K1.out.size (fun _ h => h.elim)))
  have O2 : Hid (∀ b, f.own p b → w.heap.size ≤ b) := Lib.hid fun b hb => Nat.le_trans K1.out.size (o2 b hb)
  have T2 : Hid (HasRests w2) := Lib.hid (HT.out.below K2.out (Nat.le_refl _))
  clear d2 k2 o2 K1 HN
  go_wp2_with fail
  refine (write_any D2.out M id (by omega) hid T2.out (by show (0 : Int) < _; decide)).mono ?_
  rintro e w3 ⟨rfl, f3, d3, k3, o3⟩
  have K3 : Hid (Below w.heap.size w w3) := Lib.hid (K2.out.trans (k3.below K2.out.size O2.out))
  have D3 := Lib.hid d3
  clear d3 k3 o3 D2 K2 O2 T2
  by_cases hg : N = M ∧ 2 ≤ N
  · obtain ⟨rfl, h2⟩ := hg
    obtain ⟨g1, g2, g3⟩ := Su.written (id := id) (L := 64 * N) (b := N) ⟨h2, by omega⟩ (by omega) (fun _ => 0)
    rw [g1]
    generalize (writeM (fresh (64 * N) fun _ => 0) N id).1 = m at D3 g2 g3
    have G2 := Lib.hid g2
    have G3 := Lib.hid g3
    have h2' : ¬ (N : Int) < 2 := by omega
    clear g1 g2 g3
    go_wp2_with fail
    refine (crash_any D3.out _ [] (ints_none _) (fun k => by simp) (by simp)).mono ?_
    rintro e w4 ⟨p4, f4, rfl, d4, k4, o4⟩
    have K4 : Hid (Below w.heap.size w w4) := Lib.hid (K3.out.trans (k4.below K3.out.size (fun _ h => h.elim)))
    have D4 := Lib.hid d4
    have T4 : Hid (HasRests w4) := Lib.hid (HT.out.below K4.out (Nat.le_refl _))
    clear d4 k4 o4 D3 K3
    go_wp2_with fail
    refine (read_any _ D4.out (encS N id) (fun k hk => G3.out k hk) (enc_lt (by omega) hid) T4.out).mono ?_
    rintro e w5 ⟨rfl, k5⟩
    have hr : readCode (encS N id) (Nv.crash m []).L = 0 := by
      exact if_pos ⟨enc_code ⟨h2, by omega⟩, by show 512 * N = 8 * m.L; rw [G2.out]; omega⟩
    have K5 := Lib.hid (K4.out.trans (k5.mono K4.out.size))
    have heq2 : ∀ w' : World, (Op.equalIn 10000 27 (.agg #[.int .i64 (N : Nat), .int .u64 (id : Nat)]) (.agg #[.int .i64 (N : Nat), .int .u64 (id : Nat)])).run Tryd.prog w' = .ok true w' := fun w' => by rw [eq2V]; simp
    rw [hr, if_pos rfl, if_pos rfl, show encS N id 2 = N from rfl, show encS N id 3 = id from rfl]
    clear hr k5 G2 G3 K4 D4 T4
    go_wp2_with fail
    go_ret
    exact ⟨rfl, K5.out.alloc K5.out.size _⟩
  · have hw : writeM (fresh (64 * N) fun _ => 0) M id = (fresh (64 * N) fun _ => 0, 26) := by
      unfold writeM
      rw [if_neg]
      rintro ⟨⟨h2, h3⟩, h4⟩
      have h5 : 512 * M = 8 * (64 * N) := h4
      exact hg ⟨by omega, by omega⟩
    rw [hw] at D3 ⊢
    have hs : Hid (Calls Tryd.prog 16 #[.pointer (some ⟨p, 0, none⟩)] w3 fun e w' => e = .returned (.int .i64 0) ∧ w3 = w') := Lib.hid (steps_any D3.out)
    clear hw D3
    by_cases hn : N = M
    · have h2 : (N : Int) < 2 := by omega
      subst hn
      clear hg
      go_wp2_with fail
      refine hs.out.mono ?_
      rintro e w' ⟨rfl, rfl⟩
      go_wp2_with fail
      go_ret
      exact ⟨rfl, K3.out⟩
    · have hn1 : ((N : Int) == (M : Int)) = false := by simp; omega
      have hn2 : ((N : Int) != (M : Int)) = true := by simp; omega
      clear hg hn
      go_wp2_with fail
      refine hs.out.mono ?_
      rintro e w' ⟨rfl, rfl⟩
      go_wp2_with fail
      go_ret
      exact ⟨rfl, K3.out⟩

theorem gTab0 : Tryd.prog.globalNamed "taproot/crc.rests" = some 0 := by kernel_rfl
theorem gType0 : (Tryd.prog.globals[0]?).map (·.type) = some 83 := by kernel_rfl
theorem table0 {W : World} (h : laidMetH Tryd.prog Rows.superLastsRow.laid W) : Lib.TabIs Tryd.prog W "taproot/crc.rests" .u32 [0, 498536548, 997073096, 651767980, 1994146192, 1802195444, 1303535960, 1342533948, 3988292384, 4027552580, 3604390888, 3412177804, 2607071920, 2262029012, 2685067896, 3183342108] :=
  Lib.tabIs_of_head gTab0 gType0 Tryd.underlying83 Tryd.underlying51 (by kernel_rfl) (by kernel_rfl) h

theorem contract (H : Type) (enc : TypeId × Value → H) (W : World) (base : Nat) (args : Array Value) (ds gs : List (DataW H)) (before : List MemPlace)
    (hval : ∀ (j : Nat) t v, Tryd.f5.params[j]? = some t → args[j]? = some v → Value.okWide Tryd.prog W .any base t v)
    (hW : DataW.Whole enc Tryd.prog Tryd.f5.params.toList Rows.superLastsSpec.vars false W args.toList ds gs before) (hL : laidMetH Tryd.prog Rows.superLastsRow.laid W) :
    Calls Tryd.prog 5 args W fun e W' => ∃ v, e = .returned v ∧ Rows.superLastsSpec.post enc Tryd.prog Tryd.f5 false true false false W args v W' := by
  have hW' := hW
  obtain ⟨p, q, hA0, hV, rfl, hfz, hnd⟩ := hW
  have hA : DataW.TrodAll enc Tryd.prog W 0 (fun _ => true) true Tryd.f5.params.toList args.toList ds p := hA0
  rw [Tryd.params5] at hA hval
  obtain ⟨v0, vs0, d0, ds0, p0, q0, hargs, rfl, rfl, h0, r0⟩ := trodAll_cons hA
  obtain ⟨v1, vs1, d1, ds1, p1, q1, rfl, rfl, rfl, h1, r1⟩ := trodAll_cons r0
  obtain ⟨v2, vs2, d2, ds2, p2, q2, rfl, rfl, rfl, h2, r2⟩ := trodAll_cons r1
  obtain ⟨rfl, rfl, rfl⟩ := trodAll_nil r2
  obtain rfl : args = #[v0, v1, v2] := by cases args; simp_all
  obtain ⟨rfl, rfl⟩ := trodVars_none hV
  obtain ⟨a0, rfl, rfl, rfl, w0⟩ := open_int Tryd.underlying5 (hval 0 5 v0 rfl rfl) h0
  obtain ⟨a1, rfl, rfl, rfl, w1⟩ := open_int Tryd.underlying5 (hval 1 5 v1 rfl rfl) h1
  obtain ⟨a2, rfl, rfl, rfl, w2⟩ := open_int Tryd.underlying22 (hval 2 22 v2 rfl rfl) h2
  clear hA0
  refine (walk a0 a1 a2 W w0 w1 w2 (table0 hL)).mono fun e W' ⟨he, bel⟩ => ?_
  subst he
  exact ⟨_, rfl, _, _, _, [], _, [], hW', trodAll_mk1 (shut_bool Tryd.underlying4 _), (trodAll_cons_mk (shut_int Tryd.underlying5 w0) (trodAll_cons_mk (shut_int Tryd.underlying5 w1) (trodAll_cons_mk (shut_int Tryd.underlying22 w2) trodAll_mk0))), rfl, bel.frame _, fun h => by cases h⟩

noncomputable def laidWorld (os : Os) : World :=
  { World.holding Tryd.prog os ⟨#[], #[], []⟩ with heap := ((World.holding Tryd.prog os ⟨#[], #[], []⟩).heap).modify 0 fun
      | .cells _ t frozen => .cells #[.int .u32 0, .int .u32 498536548, .int .u32 997073096, .int .u32 651767980, .int .u32 1994146192, .int .u32 1802195444, .int .u32 1303535960, .int .u32 1342533948, .int .u32 3988292384, .int .u32 4027552580, .int .u32 3604390888, .int .u32 3412177804, .int .u32 2607071920, .int .u32 2262029012, .int .u32 2685067896, .int .u32 3183342108] t frozen
      | o => o }
theorem laid_met (os : Os) : laidMet Tryd.prog Rows.superLastsRow.laid ((laidWorld os).forCall (fun _ _ => 0) ⟨#[], #[.int .u8 0, .int .u8 0, .int .u64 0], []⟩).memory :=
  laidMet_of_run' 8 (by kernel_rfl) (by kernel_rfl)
theorem reads (os : Os) {H : Type} (enc : TypeId × Value → H) : ∃ x, DataW.whole enc Tryd.prog ((laidWorld os).forCall (fun _ _ => 0) ⟨#[], #[.int .u8 0, .int .u8 0, .int .u64 0], []⟩).memory Tryd.f5.params.toList Rows.superLastsSpec.vars false (#[.int .u8 0, .int .u8 0, .int .u64 0] : Array Value).toList 8 = some ([.lit (.int .u8 0), .lit (.int .u8 0), .lit (.int .u64 0)], [], x) :=
  ⟨[], by kernel_rfl⟩

set_option maxRecDepth 100000 in
theorem lifted (os : Os) (started : os.Started) (H : Type) (enc : TypeId × Value → H) (F : Stop.Interp) :
    ReturnsInHanded {} Tryd.checked os 5 .any ((OpenSpec.ofChange Rows.superLastsSpec).preRow enc Tryd.prog Tryd.f5 Rows.superLastsRow.domain false Rows.superLastsRow.laid) (((OpenSpec.ofChange Rows.superLastsSpec).at F).post enc Tryd.prog Tryd.f5 false true false false) := by
  obtain ⟨places, hx⟩ := reads os enc
  refine returnsInHanded_of_row (C := Tryd.checked) (s := OpenSpec.ofChange Rows.superLastsSpec) own started (by kernel_rfl) Tryd.func5
    (witness_row_at (enc := enc) (C := Tryd.checked) false (laidWorld os) #[.int .u8 0, .int .u8 0, .int .u64 0] rfl (by kernel_rfl) (by kernel_rfl) (by kernel_rfl)
      (OpenSpec.preRow_of_cond 8 hx (by kernel_rfl) (fun k hk => by cases hk) (by kernel_rfl) (laid_met os))) ?_
  intro W base args ds gs before hval hW _ hcond hreach hL hsh _
  exact contract H enc W base args ds gs before hval hW hL

theorem said : Rows.SuperLastsSaid :=
  OpenClaim.holds_of_cond 5 Tryd.f5 rfl rfl rfl rfl rfl rfl rfl ⟨rfl, rfl, rfl, rfl, rfl⟩ rfl rfl rfl rfl rfl (by kernel_rfl) Tryd.func5 (by kernel_rfl)
    (of_decide_eq_true (by kernel_rfl)) (by unfold Func.isWrapper; first | (rw [if_pos (by decide +kernel)]; kernel_rfl) | (rw [if_neg (by decide +kernel)]; exact ⟨rfl, rfl⟩))
    (fun os started H enc _ F => by rw [OpenClaim.pre_eq_preRow]; exact lifted os started H enc F)

theorem plain (f : FuncId) (fn : Func) (hf : Tryd.pinned.checked.prog.funcNamed "taproot/taprootlaw05.SuperLasts" = some f) (hfn : Tryd.pinned.checked.prog.funcs[f]? = some fn) :
    false = Tryd.pinned.checked.prog.looks [] ∧ ∀ (j : Nat) t, fn.params[j]? = some t → Tryd.pinned.checked.prog.wantsStandIn t = false := by
  obtain rfl : f = 5 := Option.some.inj ((show Tryd.prog.funcNamed "taproot/taprootlaw05.SuperLasts" = some 5 by kernel_rfl).symm.trans hf) |>.symm
  obtain rfl : fn = Tryd.f5 := (Option.some.inj (Tryd.func5.symm.trans hfn)).symm
  refine ⟨by kernel_rfl, fun j t ht => ?_⟩
  rw [Tryd.params5] at ht
  have hm := Array.mem_of_getElem? ht
  simp only [List.mem_toArray, List.mem_cons, List.not_mem_nil, or_false] at hm
  rcases hm with rfl | rfl | rfl
  · exact (show Tryd.prog.wantsStandIn 5 = false by kernel_rfl)
  · exact (show Tryd.prog.wantsStandIn 5 = false by kernel_rfl)
  · exact (show Tryd.prog.wantsStandIn 22 = false by kernel_rfl)

/-- The card: the statement. -/
theorem proved : Rows.SuperLastsCardSaid :=
  Claim7.holds_tied_plain_at .later [] _ _ _ _ said (fun _ h => by cases h) (by kernel_rfl) (fun _ h => by cases h) superLasts_row_tie rfl ⟨rfl, rfl⟩ (by kernel_rfl) rfl plain (by kernel_rfl)
#print axioms proved
end Go.Proofs.YtpgkplknfhdmgaaDoor.superLasts
