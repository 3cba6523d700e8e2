/-
  Of any device, what it begins with is read just if it is right, and tells how many words there are.
  Conditions: none beyond the row (every argument that can be read as data); the tables that the row lists hold what the text lays, which the card ties.
-/
import Derived.Test.YtpgkplknfhdmgaaDoorPre
import Derived.Test.YtpgkplknfhdmgaaDoorCards
import Derived.Test.YtpgkplknfhdmgaaDoorTie
import Derived.Deep.DeepHandedRow
import Derived.Lib.LaidTab
import Derived.Test.YtpgkplknfhdmgaaDoorAwake05
import Derived.Test.YtpgkplknfhdmgaaDoorRead
import Derived.Test.YtpgkplknfhdmgaaDoorRefDecode
import Derived.Test.YtpgkplknfhdmgaaDoorLoad
namespace Go.Proofs.YtpgkplknfhdmgaaDoor.superReads
open Go.ChangeShapes Go.WideShapes Go.ChangeAt Go.RowKit
open Go.ChangeMaps (open_string shut_string)
set_option linter.unusedVariables false

open Bt Cr Su Nv

theorem rests_same : ∀ i, i < 16 → ([0, 498536548, 997073096, 651767980, 1994146192, 1802195444, 1303535960, 1342533948, 3988292384, 4027552580, 3604390888, 3412177804, 2607071920, 2262029012, 2685067896, 3183342108] : List Int).getD i 0 = ((tab.getD i 0 : Nat) : Int) := by decide +kernel
/-- The first words of a device that was made of n words, the first eight of which are x's. -/
theorem words_now (n : Nat) (x : Nat → Nat) (k : Nat) (hk : k < 8) : getNow (fresh (64 * n) (padded ((List.range (512 * n)).map fun j => if j < 8 then (x j : Int) else 0))) k = if n = 0 then 0 else (x k : Int) := by
  unfold getNow hasW
  by_cases h : n = 0
  · subst h
    rw [if_neg (by simp [fresh]), if_pos rfl]
  · rw [if_pos (by simp [fresh]; omega), if_neg h]
    show padded _ _ = _
    unfold padded
    rw [show ((k : Nat) : Int).toNat = k from by omega, List.getD_eq_getElem?_getD, List.getElem?_map, List.getElem?_range (by omega)]
    simp [hk]
theorem lines_of (n : Nat) : linesFor (512 * n) = 64 * n := by unfold linesFor; omega
theorem zero_code : codeS (fun _ => 0) = 24 := rfl
theorem zero_blocks : blocksS (fun _ => 0) = 0 := by unfold blocksS; rw [zero_code]; rfl
theorem zero_id : idS (fun _ => 0) = 0 := by unfold idS; rw [zero_code]; rfl

set_option maxRecDepth 100000 in
set_option maxHeartbeats 1000000 in
theorem walk  (a0_0 a0_1 a0_2 a0_3 a0_4 a0_5 a0_6 a0_7 : Int) (a1 : Int) (w : World) (w0_0 : (Lit.int .u64 a0_0).wf = true) (w0_1 : (Lit.int .u64 a0_1).wf = true) (w0_2 : (Lit.int .u64 a0_2).wf = true) (w0_3 : (Lit.int .u64 a0_3).wf = true) (w0_4 : (Lit.int .u64 a0_4).wf = true) (w0_5 : (Lit.int .u64 a0_5).wf = true) (w0_6 : (Lit.int .u64 a0_6).wf = true) (w0_7 : (Lit.int .u64 a0_7).wf = true) (w1 : (Lit.int .u8 a1).wf = true) (t0 : Lib.TabIs Tryd.prog w "taproot/crc.rests" .u32 [0, 498536548, 997073096, 651767980, 1994146192, 1802195444, 1303535960, 1342533948, 3988292384, 4027552580, 3604390888, 3412177804, 2607071920, 2262029012, 2685067896, 3183342108]) :
    Calls Tryd.prog 4 #[.agg #[.int .u64 a0_0, .int .u64 a0_1, .int .u64 a0_2, .int .u64 a0_3, .int .u64 a0_4, .int .u64 a0_5, .int .u64 a0_6, .int .u64 a0_7], .int .u8 a1] w fun e w' => e = .returned (.bool true) ∧ Below w.heap.size w w' := by
  have hT : HasRests w := fun i hi => by
    have := t0.cell (g := 0) (by kernel_rfl) i hi
    rw [rests_same i hi] at this
    exact this
  obtain ⟨x, hx, rfl, rfl, rfl, rfl, rfl, rfl, rfl, rfl⟩ := line_fn w0_0 w0_1 w0_2 w0_3 w0_4 w0_5 w0_6 w0_7
  have b1 := bounds_u8 w1
  obtain ⟨a, rfl⟩ := Int.eq_ofNat_of_zero_le b1.1
  have hmod : (a : Int) % 6 = ((a % 6 : Nat) : Int) := by omega
  have hN6 : a % 6 < 6 := Nat.mod_lt _ (by decide)
  generalize a % 6 = N at hmod hN6
  have HT := Lib.hid hT
  have HX := Lib.hid hx
  have hnow := fun k hk => words_now N x k hk
  have hlen : ((List.range (512 * N)).map fun j => if j < 8 then (x j : Int) else 0).length = 512 * N := by simp
  obtain ⟨ws, hws⟩ : ∃ ws, ((List.range (512 * N)).map fun j => if j < 8 then (x j : Int) else 0) = ws := ⟨_, rfl⟩
  rw [hws] at hlen
  simp only [hws] at hnow
  obtain ⟨g, hg⟩ : ∃ g, padded ws = g := ⟨_, rfl⟩
  simp only [hg] at hnow
  have HNOW := Lib.hid hnow
  have HLEN := Lib.hid hlen
  have HWS := Lib.hid hws
  have HGG := Lib.hid hg
  obtain ⟨C1, hs1, hc1, hm1⟩ := make_words (512 * N) (by omega)
  rw [show ((512 * N : Nat) : Int) = 512 * (N : Int) from by omega] at hm1
  have hN5 : (N : Int) ≤ 5 := by omega
  have HS1 := Lib.hid hs1
  have HC1 := Lib.hid hc1
  clear t0 w0_0 w0_1 w0_2 w0_3 w0_4 w0_5 w0_6 w0_7 w1 hT hx hnow hlen hws hg hs1 hc1
  go_enter Tryd.func4, Tryd.ntmps4
  go_wp2_with fail
  refine (awake_yes _ (HT.out.below ((Below.refl _ _).alloc (Nat.le_refl _) _) (Nat.le_refl _))).mono ?_
  rintro e w1 ⟨rfl, k1⟩
  obtain ⟨b1, k1, s1⟩ := boxT_of1 k1
  have B1 : Hid (BoxT 23 (w1.alloc (.cells C1 22)) w.heap.size #[.int .u64 (x 0), .int .u64 (x 1), .int .u64 (x 2), .int .u64 (x 3), .int .u64 (x 4), .int .u64 (x 5), .int .u64 (x 6), .int .u64 (x 7)]) := Lib.hid (b1.alloc _)
  have K1 : Hid (Below w.heap.size w (w1.alloc (.cells C1 22))) := Lib.hid (k1.alloc k1.size _)
  have R1 : Hid (Row (w1.alloc (.cells C1 22)) w1.heap.size 22 (512 * N) (fun _ => .int .u64 0)) := Lib.hid (Row.new w1 _ C1 _ _ HS1.out HC1.out)
  have SRC : Hid (∀ j, j < 8 → (w1.alloc (.cells C1 22)).cell? ((⟨w.heap.size, 0, none⟩ : Addr).add j) = some (.int .u64 (x j))) := Lib.hid fun j hj => by
    rw [addr_add, Nat.zero_add, B1.out.cell]
    match j, hj with
    | 0, _ => rfl
    | 1, _ => rfl
    | 2, _ => rfl
    | 3, _ => rfl
    | 4, _ => rfl
    | 5, _ => rfl
    | 6, _ => rfl
    | 7, _ => rfl
  clear b1 k1 HS1 HC1
  obtain ⟨K, hK⟩ : ∃ K, K = Nat.min 8 (512 * N) := ⟨_, rfl⟩
  have hK8 : K ≤ 8 := by rw [hK]; exact Nat.min_le_left _ _
  have hKn : K ≤ 512 * N := by rw [hK]; exact Nat.min_le_right _ _
  have hK0 : N ≠ 0 → K = 8 := fun h => by rw [hK]; exact Nat.min_eq_left (by omega)
  have HK := Lib.hid hK
  clear hK
  go_wp2_with (first
    | ((with_reducible refine wpList_copy_cells rfl _ _ 36 36 rfl 22 Tryd.underlying36 infoU64s _ (some ⟨w.heap.size, 0, none⟩) (512 * N) (512 * N) 8 8 rfl rfl w1.heap.size 0 (512 * N) 22 _ (fun j => .int .u64 (x j)) K R1.out HK.out (fun h => ⟨rfl, _, rfl, fun j hj => SRC.out j (by omega)⟩) (by omega) (fun _ => rfl) ?_); intro w2 r2 k2; have R2 := Lib.hid r2; have K2 := Lib.hid k2; clear r2 k2)
    | fail)
  have r3 : Row w2 w1.heap.size 22 (512 * N) (fun j => .int .u64 (if j < 8 then (x j : Int) else 0)) := R2.out.congr fun j hj => by
    have := hK0 (by omega)
    by_cases e : j < 8
    · rw [if_pos (by omega), if_pos e]; rfl
    · rw [if_neg (by omega), if_neg e]
  have hI := row_ints r3
  rw [HWS.out] at hI
  have hld := load_any _ ws w2 hI (by rw [HLEN.out]; omega)
  rw [HLEN.out, lines_of, HGG.out] at hld
  have B3 : Hid (BoxT 23 w2 w.heap.size #[.int .u64 (x 0), .int .u64 (x 1), .int .u64 (x 2), .int .u64 (x 3), .int .u64 (x 4), .int .u64 (x 5), .int .u64 (x 6), .int .u64 (x 7)]) := Lib.hid (B1.out.keep K2.out (by omega))
  have K3 : Hid (Below w.heap.size w w2) := Lib.hid (K1.out.trans (K2.out.below K1.out.size (fun i e => by omega)))
  have HLD := Lib.hid hld
  clear r3 hI hld R2 K2 B1 K1 R1 SRC HK hK8 hKn hK0 hm1
  refine HLD.out.mono ?_
  rintro e w3 ⟨p, f, rfl, d4, k4, o4⟩
  have B4 : Hid (BoxT 23 (w3.alloc (.cells #[.int .u64 0, .int .u64 0, .int .u64 0, .int .u64 0, .int .u64 0, .int .u64 0, .int .u64 0, .int .u64 0] 23)) w.heap.size #[.int .u64 (x 0), .int .u64 (x 1), .int .u64 (x 2), .int .u64 (x 3), .int .u64 (x 4), .int .u64 (x 5), .int .u64 (x 6), .int .u64 (x 7)]) := Lib.hid ((B3.out.keep k4 (fun h => h)).alloc _)
  have K4 : Hid (Below w.heap.size w w3) := Lib.hid (K3.out.trans (k4.below K3.out.size (fun i e => e.elim)))
  have D4 := Lib.hid d4
  clear d4 k4 o4 B3 K3 HLD HWS HGG HLEN
  by_cases h0 : N = 0
  · subst h0
    go_wp2_with fail
    have hrd : ∀ w : World, Calls Tryd.prog 8 #[.agg #[.int .u64 0, .int .u64 0, .int .u64 0, .int .u64 0, .int .u64 0, .int .u64 0, .int .u64 0, .int .u64 0]] w fun e w' => e = .returned (.tuple #[.int .i64 0, .int .u64 0, .int .i64 24]) ∧ Below w.heap.size w w' := fun w => by
      have := refDecode_any (fun _ => 0) w (fun _ => by decide)
      unfold RefTells at this
      rw [zero_code, zero_blocks, zero_id] at this
      exact this
    have hli : ∀ w : World, Dev w p f (fresh (64 * 0) g) → Calls Tryd.prog 13 #[.pointer (some ⟨p, 0, none⟩)] w fun e w' => e = .returned (.agg #[.int .u64 0, .int .u64 0, .int .u64 0, .int .u64 0, .int .u64 0, .int .u64 0, .int .u64 0, .int .u64 0]) ∧ Below w.heap.size w w' := fun w hd =>
      line_any w hd (fun _ => 0) fun k hk => by have := HNOW.out k hk; simpa using this
    have hre : ∀ w : World, Dev w p f (fresh (64 * 0) g) → HasRests w → Calls Tryd.prog 12 #[.pointer (some ⟨p, 0, none⟩)] w fun e w' => e = .returned (.tuple #[.agg #[.int .i64 0, .int .u64 0], .int .i64 20]) ∧ Below w.heap.size w w' := fun w hd hT => by
      have := read_any w hd (fun _ => 0) (fun k hk => by have := HNOW.out k hk; simpa using this) (fun _ => by decide) hT
      unfold ReadsAs at this
      have hr : readCode (fun _ => 0) (fresh (64 * 0) g).L = 20 := by unfold readCode; rw [if_neg (by rw [zero_code]; simp)]
      rw [hr] at this
      exact this
    have HRD := Lib.hid hrd
    have HLI := Lib.hid hli
    have HRE := Lib.hid hre
    have DV : Hid (Dev (w3.alloc (.cells #[.int .u64 0, .int .u64 0, .int .u64 0, .int .u64 0, .int .u64 0, .int .u64 0, .int .u64 0, .int .u64 0] 23)) p f (fresh (64 * 0) g)) := Lib.hid (D4.out.alloc _)
    have KV : Hid (Below w.heap.size w (w3.alloc (.cells #[.int .u64 0, .int .u64 0, .int .u64 0, .int .u64 0, .int .u64 0, .int .u64 0, .int .u64 0, .int .u64 0] 23))) := Lib.hid (K4.out.alloc K4.out.size _)
    have bv := BoxT.new 23 w3 #[.int .u64 0, .int .u64 0, .int .u64 0, .int .u64 0, .int .u64 0, .int .u64 0, .int .u64 0, .int .u64 0]
    generalize w3.alloc (.cells #[.int .u64 0, .int .u64 0, .int .u64 0, .int .u64 0, .int .u64 0, .int .u64 0, .int .u64 0, .int .u64 0] 23) = V at DV KV bv ⊢
    generalize w3.heap.size = bz at bv ⊢
    have BV := Lib.hid bv
    have CK : Hid (∀ w' : World, BoxT 23 w' bz #[.int .u64 0, .int .u64 0, .int .u64 0, .int .u64 0, .int .u64 0, .int .u64 0, .int .u64 0, .int .u64 0] → w'.cell? ⟨bz, 0, none⟩ = some (.int .u64 0) ∧ w'.cell? ⟨bz, 1, none⟩ = some (.int .u64 0) ∧ w'.cell? ⟨bz, 2, none⟩ = some (.int .u64 0) ∧ w'.cell? ⟨bz, 3, none⟩ = some (.int .u64 0) ∧ w'.cell? ⟨bz, 4, none⟩ = some (.int .u64 0) ∧ w'.cell? ⟨bz, 5, none⟩ = some (.int .u64 0) ∧ w'.cell? ⟨bz, 6, none⟩ = some (.int .u64 0) ∧ w'.cell? ⟨bz, 7, none⟩ = some (.int .u64 0)) := Lib.hid fun w' h => ⟨h.cell 0, h.cell 1, h.cell 2, h.cell 3, h.cell 4, h.cell 5, h.cell 6, h.cell 7⟩
    clear hrd hli hre bv
    refine (HRD.out _).mono ?_
    rintro e w5 ⟨rfl, k5⟩
    have D5 : Hid (Dev w5 p f (fresh (64 * 0) g)) := Lib.hid (DV.out.keep (Keep.ofBelow (S := fun _ => False) k5) (fun _ _ _ h => h))
    have K5 := Lib.hid (KV.out.trans (k5.mono KV.out.size))
    have B5 := Lib.hid (BV.out.below k5 BV.out.lt)
    clear k5 DV KV BV
    go_wp2_with fail
    refine (HRE.out _ D5.out (HT.out.below K5.out (Nat.le_refl _))).mono ?_
    rintro e w6 ⟨rfl, k6⟩
    have D6 : Hid (Dev (w6.alloc (.cells #[.int .i64 0, .int .u64 0] 27)) p f (fresh (64 * 0) g)) := Lib.hid ((D5.out.keep (Keep.ofBelow (S := fun _ => False) k6) (fun _ _ _ h => h)).alloc _)
    have K6 : Hid (Below w.heap.size w (w6.alloc (.cells #[.int .i64 0, .int .u64 0] 27))) := Lib.hid ((K5.out.trans (k6.mono K5.out.size)).alloc (Nat.le_trans K5.out.size k6.size) _)
    have B6 : Hid (BoxT 23 (w6.alloc (.cells #[.int .i64 0, .int .u64 0] 27)) bz #[.int .u64 0, .int .u64 0, .int .u64 0, .int .u64 0, .int .u64 0, .int .u64 0, .int .u64 0, .int .u64 0]) := Lib.hid ((B5.out.below k6 B5.out.lt).alloc _)
    have r6 := BoxT.new 27 w6 #[.int .i64 0, .int .u64 0]
    clear k6 D5 K5 B5
    go_wp2_with fail
    generalize w6.alloc (.cells #[.int .i64 0, .int .u64 0] 27) = V6 at D6 K6 B6 r6 ⊢
    generalize w6.heap.size = br at r6 ⊢
    have R6 := Lib.hid r6
    obtain ⟨q0, q1, q2, q3, q4, q5, q6, q7⟩ := CK.out _ B6.out
    have heq : ∀ w' : World, (Op.equalIn 10000 23 (.agg #[.int .u64 0, .int .u64 0, .int .u64 0, .int .u64 0, .int .u64 0, .int .u64 0, .int .u64 0, .int .u64 0]) (.agg #[.int .u64 0, .int .u64 0, .int .u64 0, .int .u64 0, .int .u64 0, .int .u64 0, .int .u64 0, .int .u64 0])).run Tryd.prog w' = .ok true w' := fun w' => by rw [eq8V]; rfl
    clear r6
    go_region_held3 (fun w' => w'.cell? ⟨bz, 0, none⟩ = some (.int .u64 0) ∧ w'.cell? ⟨bz, 1, none⟩ = some (.int .u64 0) ∧ w'.cell? ⟨bz, 2, none⟩ = some (.int .u64 0) ∧ w'.cell? ⟨bz, 3, none⟩ = some (.int .u64 0) ∧ w'.cell? ⟨bz, 4, none⟩ = some (.int .u64 0) ∧ w'.cell? ⟨bz, 5, none⟩ = some (.int .u64 0) ∧ w'.cell? ⟨bz, 6, none⟩ = some (.int .u64 0) ∧ w'.cell? ⟨bz, 7, none⟩ = some (.int .u64 0)) (first | go_keep | exact CK.out _ B7.out)
      (first
        | (go_at_call 13; refine (HLI.out _ (D6.out.drewN 1)).mono ?_; rintro e w7 ⟨rfl, hb⟩; have B7 := Lib.hid (B6.out.below (below_undrew hb) B6.out.lt); have K7 := Lib.hid (K6.out.trans ((below_undrew hb).mono K6.out.size)); have R7 := Lib.hid (R6.out.below (below_undrew hb) R6.out.lt); clear hb))
    have c0 : w7.cell? ⟨br, 0, none⟩ = some (.int .i64 0) := R7.out.cell 0
    have c1 : w7.cell? ⟨br, 1, none⟩ = some (.int .u64 0) := R7.out.cell 1
    have heq2 : ∀ w' : World, (Op.equalIn 10000 27 (.agg #[.int .i64 0, .int .u64 0]) (.agg #[.int .i64 0, .int .u64 0])).run Tryd.prog w' = .ok true w' := fun w' => by rw [eq2V]; rfl
    clear heq q0 q1 q2 q3 q4 q5 q6 q7 D6 K6 B6 R6 CK R7 B7 HT
    go_wp2_with fail
    go_ret
    exact ⟨rfl, K7.out⟩
  · have hpos : (0 : Int) < (N : Int) := by omega
    go_wp2_with (first
      | (refine wpList_load_boxT rfl _ _ rfl (b := w.heap.size) rfl B4.out Tryd.underlying23 rfl info8 ?_)
      | fail)
    have dv := D4.out.alloc (.cells #[.int .u64 (x 0), .int .u64 (x 1), .int .u64 (x 2), .int .u64 (x 3), .int .u64 (x 4), .int .u64 (x 5), .int .u64 (x 6), .int .u64 (x 7)] 23)
    have kv := K4.out.alloc K4.out.size (.cells #[.int .u64 (x 0), .int .u64 (x 1), .int .u64 (x 2), .int .u64 (x 3), .int .u64 (x 4), .int .u64 (x 5), .int .u64 (x 6), .int .u64 (x 7)] 23)
    have bv := BoxT.new 23 w3 #[.int .u64 (x 0), .int .u64 (x 1), .int .u64 (x 2), .int .u64 (x 3), .int .u64 (x 4), .int .u64 (x 5), .int .u64 (x 6), .int .u64 (x 7)]
    have hy : ∀ k : Nat, k < 8 → getNow (fresh (64 * N) g) k = (x k : Int) := fun k hk => (HNOW.out k hk).trans (if_neg h0)
    have hy64 := HX.out
    generalize w3.alloc (.cells #[.int .u64 (x 0), .int .u64 (x 1), .int .u64 (x 2), .int .u64 (x 3), .int .u64 (x 4), .int .u64 (x 5), .int .u64 (x 6), .int .u64 (x 7)] 23) = V at dv kv bv ⊢
    generalize w3.heap.size = bz at bv ⊢
    clear HNOW D4 K4 B4 h0 HX
    have DV := Lib.hid dv
    have KV := Lib.hid kv
    have BV := Lib.hid bv
    have CK : Hid (∀ w' : World, BoxT 23 w' bz #[.int .u64 (x 0), .int .u64 (x 1), .int .u64 (x 2), .int .u64 (x 3), .int .u64 (x 4), .int .u64 (x 5), .int .u64 (x 6), .int .u64 (x 7)] → w'.cell? ⟨bz, 0, none⟩ = some (.int .u64 (x 0)) ∧ w'.cell? ⟨bz, 1, none⟩ = some (.int .u64 (x 1)) ∧ w'.cell? ⟨bz, 2, none⟩ = some (.int .u64 (x 2)) ∧ w'.cell? ⟨bz, 3, none⟩ = some (.int .u64 (x 3)) ∧ w'.cell? ⟨bz, 4, none⟩ = some (.int .u64 (x 4)) ∧ w'.cell? ⟨bz, 5, none⟩ = some (.int .u64 (x 5)) ∧ w'.cell? ⟨bz, 6, none⟩ = some (.int .u64 (x 6)) ∧ w'.cell? ⟨bz, 7, none⟩ = some (.int .u64 (x 7))) := Lib.hid fun w' h => ⟨h.cell 0, h.cell 1, h.cell 2, h.cell 3, h.cell 4, h.cell 5, h.cell 6, h.cell 7⟩
    have HG : Hid (∀ k : Nat, k < 8 → getNow (fresh (64 * N) g) k = (x k : Int)) := Lib.hid hy
    have HY := Lib.hid hy64
    clear dv kv bv hy hy64
    refine (refDecode_any x _ HY.out).mono ?_
    rintro e w5 ⟨rfl, k5⟩
    have D5 : Hid (Dev w5 p f (fresh (64 * N) g)) := Lib.hid (DV.out.keep (Keep.ofBelow (S := fun _ => False) k5) (fun _ _ _ h => h))
    have K5 := Lib.hid (KV.out.trans (k5.mono KV.out.size))
    have B5 := Lib.hid (BV.out.below k5 BV.out.lt)
    clear k5 DV KV BV
    go_wp2_with fail
    refine (read_any _ D5.out x HG.out HY.out (HT.out.below K5.out (Nat.le_refl _))).mono ?_
    rintro e w6 ⟨rfl, k6⟩
    have HR : Hid (readCode x (fresh (64 * N) g).L = readCode x (64 * N)) := Lib.hid rfl
    rw [HR.out]
    obtain ⟨rb, hrb⟩ : ∃ rb, (if readCode x (64 * N) = 0 then x 2 else 0) = rb := ⟨_, rfl⟩
    obtain ⟨ri, hri⟩ : ∃ ri, (if readCode x (64 * N) = 0 then x 3 else 0) = ri := ⟨_, rfl⟩
    obtain ⟨rc, hrc⟩ : ∃ rc, readCode x (64 * N) = rc := ⟨_, rfl⟩
    rw [hrb, hri, hrc]
    have D6 : Hid (Dev (w6.alloc (.cells #[.int .i64 (rb : Nat), .int .u64 (ri : Nat)] 27)) p f (fresh (64 * N) g)) := Lib.hid ((D5.out.keep (Keep.ofBelow (S := fun _ => False) k6) (fun _ _ _ h => h)).alloc _)
    have K6 : Hid (Below w.heap.size w (w6.alloc (.cells #[.int .i64 (rb : Nat), .int .u64 (ri : Nat)] 27))) := Lib.hid ((K5.out.trans (k6.mono K5.out.size)).alloc (Nat.le_trans K5.out.size k6.size) _)
    have B6 : Hid (BoxT 23 (w6.alloc (.cells #[.int .i64 (rb : Nat), .int .u64 (ri : Nat)] 27)) bz #[.int .u64 (x 0), .int .u64 (x 1), .int .u64 (x 2), .int .u64 (x 3), .int .u64 (x 4), .int .u64 (x 5), .int .u64 (x 6), .int .u64 (x 7)]) := Lib.hid ((B5.out.below k6 B5.out.lt).alloc _)
    have r6 := BoxT.new 27 w6 #[.int .i64 (rb : Nat), .int .u64 (ri : Nat)]
    clear k6 D5 K5 B5 HR
    go_wp2_with fail
    generalize w6.alloc (.cells #[.int .i64 (rb : Nat), .int .u64 (ri : Nat)] 27) = V6 at D6 K6 B6 r6 ⊢
    generalize w6.heap.size = br at r6 ⊢
    have R6 := Lib.hid r6
    obtain ⟨q0, q1, q2, q3, q4, q5, q6, q7⟩ := CK.out _ B6.out
    have heq : ∀ w' : World, (Op.equalIn 10000 23 (.agg #[.int .u64 (x 0), .int .u64 (x 1), .int .u64 (x 2), .int .u64 (x 3), .int .u64 (x 4), .int .u64 (x 5), .int .u64 (x 6), .int .u64 (x 7)]) (.agg #[.int .u64 (x 0), .int .u64 (x 1), .int .u64 (x 2), .int .u64 (x 3), .int .u64 (x 4), .int .u64 (x 5), .int .u64 (x 6), .int .u64 (x 7)])).run Tryd.prog w' = .ok true w' := fun w' => by rw [eq8V]; simp
    clear r6
    go_region_held3 (fun w' => w'.cell? ⟨bz, 0, none⟩ = some (.int .u64 (x 0)) ∧ w'.cell? ⟨bz, 1, none⟩ = some (.int .u64 (x 1)) ∧ w'.cell? ⟨bz, 2, none⟩ = some (.int .u64 (x 2)) ∧ w'.cell? ⟨bz, 3, none⟩ = some (.int .u64 (x 3)) ∧ w'.cell? ⟨bz, 4, none⟩ = some (.int .u64 (x 4)) ∧ w'.cell? ⟨bz, 5, none⟩ = some (.int .u64 (x 5)) ∧ w'.cell? ⟨bz, 6, none⟩ = some (.int .u64 (x 6)) ∧ w'.cell? ⟨bz, 7, none⟩ = some (.int .u64 (x 7))) (first | go_keep | exact CK.out _ B7.out)
      (first
        | (go_at_call 13; refine (line_any _ (D6.out.drewN 1) x HG.out).mono ?_; rintro e w7 ⟨rfl, hb⟩; have B7 := Lib.hid (B6.out.below (below_undrew hb) B6.out.lt); have K7 := Lib.hid (K6.out.trans ((below_undrew hb).mono K6.out.size)); have R7 := Lib.hid (R6.out.below (below_undrew hb) R6.out.lt); clear hb))
    have c0 : w7.cell? ⟨br, 0, none⟩ = some (.int .i64 (rb : Nat)) := R7.out.cell 0
    have c1 : w7.cell? ⟨br, 1, none⟩ = some (.int .u64 (ri : Nat)) := R7.out.cell 1
    clear heq q0 q1 q2 q3 q4 q5 q6 q7 D6 K6 B6 R6 CK R7 B7 HG HY HT
    by_cases hc : codeS x = 0
    · have hc' := (code_zero x).1 hc
      have hb : blocksS x = x 2 := by unfold blocksS; rw [if_pos hc]
      have hi : idS x = x 3 := by unfold idS; rw [if_pos hc]
      rw [hc, hb, hi]
      by_cases hn : x 2 = N
      · have hr0 : readCode x (64 * N) = 0 := by unfold readCode; rw [if_pos ⟨hc, by omega⟩]
        rw [if_pos hr0] at hrb hri
        rw [hr0] at hrc
        subst hrb hri hrc
        have hn1 : ((x 2 : Int) == (N : Int)) = true := by simp; omega
        have hn2 : ((x 2 : Int) != (N : Int)) = false := by simp; omega
        have heq2 : ∀ w' : World, (Op.equalIn 10000 27 (.agg #[.int .i64 (x 2), .int .u64 (x 3)]) (.agg #[.int .i64 (x 2), .int .u64 (x 3)])).run Tryd.prog w' = .ok true w' := fun w' => by rw [eq2V]; simp
        clear hc hc' hb hi hr0 hn
        go_wp2_with fail
        go_ret
        exact ⟨rfl, K7.out⟩
      · have hr0 : readCode x (64 * N) = 20 := by unfold readCode; rw [if_neg (fun h => hn (by omega))]
        rw [if_neg (by rw [hr0]; decide)] at hrb hri
        rw [hr0] at hrc
        subst hrb hri hrc
        have hn1 : ((x 2 : Int) == (N : Int)) = false := by simp; omega
        have hn2 : ((x 2 : Int) != (N : Int)) = true := by simp; omega
        have heq2 : ∀ w' : World, (Op.equalIn 10000 27 (.agg #[.int .i64 0, .int .u64 0]) (.agg #[.int .i64 0, .int .u64 0])).run Tryd.prog w' = .ok true w' := fun w' => by rw [eq2V]; rfl
        clear hc hc' hb hi hr0 hn
        go_wp2_with fail
        go_ret
        exact ⟨rfl, K7.out⟩
    · have hr0 : readCode x (64 * N) = 20 := by unfold readCode; rw [if_neg (fun h => hc h.1)]
      rw [if_neg (by rw [hr0]; decide)] at hrb hri
      rw [hr0] at hrc
      subst hrb hri hrc
      obtain ⟨cd, hcd⟩ : ∃ cd, codeS x = cd := ⟨_, rfl⟩
      have hne : ((cd : Int) == 0) = false := by rw [hcd] at hc; simp; exact hc
      have hne2 : ((cd : Int) != 0) = true := by rw [hcd] at hc; simp; exact hc
      have heq2 : ∀ w' : World, (Op.equalIn 10000 27 (.agg #[.int .i64 0, .int .u64 0]) (.agg #[.int .i64 0, .int .u64 0])).run Tryd.prog w' = .ok true w' := fun w' => by rw [eq2V]; rfl
      rw [hcd]
      clear hc hr0 hcd
      go_wp2_with fail
      go_ret
      exact ⟨rfl, K7.out⟩

theorem gTab0 : Tryd.prog.globalNamed "taproot/crc.rests" = some 0 := by kernel_rfl
theorem gType0 : (Tryd.prog.globals[0]?).map (·.type) = some 83 := by kernel_rfl
theorem table0 {W : World} (h : laidMetH Tryd.prog Rows.superReadsRow.laid W) : Lib.TabIs Tryd.prog W "taproot/crc.rests" .u32 [0, 498536548, 997073096, 651767980, 1994146192, 1802195444, 1303535960, 1342533948, 3988292384, 4027552580, 3604390888, 3412177804, 2607071920, 2262029012, 2685067896, 3183342108] :=
  Lib.tabIs_of_head gTab0 gType0 Tryd.underlying83 Tryd.underlying51 (by kernel_rfl) (by kernel_rfl) h

theorem contract (H : Type) (enc : TypeId × Value → H) (W : World) (base : Nat) (args : Array Value) (ds gs : List (DataW H)) (before : List MemPlace)
    (hval : ∀ (j : Nat) t v, Tryd.f4.params[j]? = some t → args[j]? = some v → Value.okWide Tryd.prog W .any base t v)
    (hW : DataW.Whole enc Tryd.prog Tryd.f4.params.toList Rows.superReadsSpec.vars false W args.toList ds gs before) (hL : laidMetH Tryd.prog Rows.superReadsRow.laid W) :
    Calls Tryd.prog 4 args W fun e W' => ∃ v, e = .returned v ∧ Rows.superReadsSpec.post enc Tryd.prog Tryd.f4 false true false false W args v W' := by
  have hW' := hW
  obtain ⟨p, q, hA0, hV, rfl, hfz, hnd⟩ := hW
  have hA : DataW.TrodAll enc Tryd.prog W 0 (fun _ => true) true Tryd.f4.params.toList args.toList ds p := hA0
  rw [Tryd.params4] at hA hval
  obtain ⟨v0, vs0, d0, ds0, p0, q0, hargs, rfl, rfl, h0, r0⟩ := trodAll_cons hA
  obtain ⟨v1, vs1, d1, ds1, p1, q1, rfl, rfl, rfl, h1, r1⟩ := trodAll_cons r0
  obtain ⟨rfl, rfl, rfl⟩ := trodAll_nil r1
  obtain rfl : args = #[v0, v1] := by cases args; simp_all
  obtain ⟨rfl, rfl⟩ := trodVars_none hV
  have k0 := h0
  have lt0 : ∀ x ∈ p0, x.block < W.heap.size := by obtain ⟨m, hm⟩ := k0; exact DataW.trod_lt m _ _ _ hm
  obtain ⟨z0, rfl, hz0, wz0⟩ := arr_of Tryd.underlying23 Tryd.underlying22 (by kernel_rfl) (by kernel_rfl) (hval 0 23 v0 rfl rfl) h0
  obtain ⟨a0_0, a0_1, a0_2, a0_3, a0_4, a0_5, a0_6, a0_7, rfl⟩ := list8 hz0
  have w0_0 : (Lit.int .u64 a0_0).wf = true := wz0 _ (by simp)
  have w0_1 : (Lit.int .u64 a0_1).wf = true := wz0 _ (by simp)
  have w0_2 : (Lit.int .u64 a0_2).wf = true := wz0 _ (by simp)
  have w0_3 : (Lit.int .u64 a0_3).wf = true := wz0 _ (by simp)
  have w0_4 : (Lit.int .u64 a0_4).wf = true := wz0 _ (by simp)
  have w0_5 : (Lit.int .u64 a0_5).wf = true := wz0 _ (by simp)
  have w0_6 : (Lit.int .u64 a0_6).wf = true := wz0 _ (by simp)
  have w0_7 : (Lit.int .u64 a0_7).wf = true := wz0 _ (by simp)
  clear wz0 hz0
  simp only [List.map_cons, List.map_nil] at k0 ⊢
  obtain ⟨a1, rfl, rfl, rfl, w1⟩ := open_int Tryd.underlying5 (hval 1 5 v1 rfl rfl) h1
  clear hA0
  refine (walk a0_0 a0_1 a0_2 a0_3 a0_4 a0_5 a0_6 a0_7 a1 W w0_0 w0_1 w0_2 w0_3 w0_4 w0_5 w0_6 w0_7 w1 (table0 hL)).mono fun e W' ⟨he, bel⟩ => ?_
  subst he
  exact ⟨_, rfl, _, _, _, [], _, [], hW', trodAll_mk1 (shut_bool Tryd.underlying4 _), (trodAll_cons_mk (Below.trod laidOut (by kernel_rfl) (of_decide_eq_true (by kernel_rfl)) k0 bel lt0) (trodAll_cons_mk (shut_int Tryd.underlying5 w1) trodAll_mk0)), rfl, bel.frame _, fun h => by cases h⟩

noncomputable def laidWorld (os : Os) : World :=
  { World.holding Tryd.prog os ⟨#[], #[], []⟩ with heap := ((World.holding Tryd.prog os ⟨#[], #[], []⟩).heap).modify 0 fun
      | .cells _ t frozen => .cells #[.int .u32 0, .int .u32 498536548, .int .u32 997073096, .int .u32 651767980, .int .u32 1994146192, .int .u32 1802195444, .int .u32 1303535960, .int .u32 1342533948, .int .u32 3988292384, .int .u32 4027552580, .int .u32 3604390888, .int .u32 3412177804, .int .u32 2607071920, .int .u32 2262029012, .int .u32 2685067896, .int .u32 3183342108] t frozen
      | o => o }
theorem laid_met (os : Os) : laidMet Tryd.prog Rows.superReadsRow.laid ((laidWorld os).forCall (fun _ _ => 0) ⟨#[], #[.agg #[.int .u64 0, .int .u64 0, .int .u64 0, .int .u64 0, .int .u64 0, .int .u64 0, .int .u64 0, .int .u64 0], .int .u8 0], []⟩).memory :=
  laidMet_of_run' 8 (by kernel_rfl) (by kernel_rfl)
theorem reads (os : Os) {H : Type} (enc : TypeId × Value → H) : ∃ x, DataW.whole enc Tryd.prog ((laidWorld os).forCall (fun _ _ => 0) ⟨#[], #[.agg #[.int .u64 0, .int .u64 0, .int .u64 0, .int .u64 0, .int .u64 0, .int .u64 0, .int .u64 0, .int .u64 0], .int .u8 0], []⟩).memory Tryd.f4.params.toList Rows.superReadsSpec.vars false (#[.agg #[.int .u64 0, .int .u64 0, .int .u64 0, .int .u64 0, .int .u64 0, .int .u64 0, .int .u64 0, .int .u64 0], .int .u8 0] : Array Value).toList 8 = some ([.agg [.lit (.int .u64 0), .lit (.int .u64 0), .lit (.int .u64 0), .lit (.int .u64 0), .lit (.int .u64 0), .lit (.int .u64 0), .lit (.int .u64 0), .lit (.int .u64 0)], .lit (.int .u8 0)], [], x) :=
  ⟨[], by kernel_rfl⟩

set_option maxRecDepth 100000 in
theorem lifted (os : Os) (started : os.Started) (H : Type) (enc : TypeId × Value → H) (F : Stop.Interp) :
    ReturnsInHanded {} Tryd.checked os 4 .any ((OpenSpec.ofChange Rows.superReadsSpec).preRow enc Tryd.prog Tryd.f4 Rows.superReadsRow.domain false Rows.superReadsRow.laid) (((OpenSpec.ofChange Rows.superReadsSpec).at F).post enc Tryd.prog Tryd.f4 false true false false) := by
  obtain ⟨places, hx⟩ := reads os enc
  refine returnsInHanded_of_row (C := Tryd.checked) (s := OpenSpec.ofChange Rows.superReadsSpec) own started (by kernel_rfl) Tryd.func4
    (witness_row_at (enc := enc) (C := Tryd.checked) false (laidWorld os) #[.agg #[.int .u64 0, .int .u64 0, .int .u64 0, .int .u64 0, .int .u64 0, .int .u64 0, .int .u64 0, .int .u64 0], .int .u8 0] rfl (by kernel_rfl) (by kernel_rfl) (by kernel_rfl)
      (OpenSpec.preRow_of_cond 8 hx (by kernel_rfl) (fun k hk => by cases hk) (by kernel_rfl) (laid_met os))) ?_
  intro W base args ds gs before hval hW _ hcond hreach hL hsh _
  exact contract H enc W base args ds gs before hval hW hL

theorem said : Rows.SuperReadsSaid :=
  OpenClaim.holds_of_cond 4 Tryd.f4 rfl rfl rfl rfl rfl rfl rfl ⟨rfl, rfl, rfl, rfl, rfl⟩ rfl rfl rfl rfl rfl (by kernel_rfl) Tryd.func4 (by kernel_rfl)
    (of_decide_eq_true (by kernel_rfl)) (by unfold Func.isWrapper; first | (rw [if_pos (by decide +kernel)]; kernel_rfl) | (rw [if_neg (by decide +kernel)]; exact ⟨rfl, rfl⟩))
    (fun os started H enc _ F => by rw [OpenClaim.pre_eq_preRow]; exact lifted os started H enc F)

theorem plain (f : FuncId) (fn : Func) (hf : Tryd.pinned.checked.prog.funcNamed "taproot/taprootlaw05.SuperReads" = some f) (hfn : Tryd.pinned.checked.prog.funcs[f]? = some fn) :
    false = Tryd.pinned.checked.prog.looks [] ∧ ∀ (j : Nat) t, fn.params[j]? = some t → Tryd.pinned.checked.prog.wantsStandIn t = false := by
  obtain rfl : f = 4 := Option.some.inj ((show Tryd.prog.funcNamed "taproot/taprootlaw05.SuperReads" = some 4 by kernel_rfl).symm.trans hf) |>.symm
  obtain rfl : fn = Tryd.f4 := (Option.some.inj (Tryd.func4.symm.trans hfn)).symm
  refine ⟨by kernel_rfl, fun j t ht => ?_⟩
  rw [Tryd.params4] at ht
  have hm := Array.mem_of_getElem? ht
  simp only [List.mem_toArray, List.mem_cons, List.not_mem_nil, or_false] at hm
  rcases hm with rfl | rfl
  · exact (show Tryd.prog.wantsStandIn 23 = false by kernel_rfl)
  · exact (show Tryd.prog.wantsStandIn 5 = false by kernel_rfl)

/-- The card: the statement. -/
theorem proved : Rows.SuperReadsCardSaid :=
  Claim7.holds_tied_plain_at .later [] _ _ _ _ said (fun _ h => by cases h) (by kernel_rfl) (fun _ h => by cases h) superReads_row_tie rfl ⟨rfl, rfl⟩ (by kernel_rfl) rfl plain (by kernel_rfl)
#print axioms proved
end Go.Proofs.YtpgkplknfhdmgaaDoor.superReads
