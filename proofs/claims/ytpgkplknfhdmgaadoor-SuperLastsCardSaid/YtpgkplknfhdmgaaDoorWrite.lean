/- super: Write. -/
import Derived.Test.YtpgkplknfhdmgaaDoorEncode
import Derived.Test.YtpgkplknfhdmgaaDoorFills
import Derived.Test.YtpgkplknfhdmgaaDoorSupDev
import Derived.Test.YtpgkplknfhdmgaaDoorPersist
namespace Go.Proofs.YtpgkplknfhdmgaaDoor
open Go.ChangeShapes Go.WideShapes Go.ChangeAt Go.RowKit Cr Bt Su Nv
set_option linter.unusedVariables false

theorem index_0 (b id : Nat) (w : World) : (Instr.index 23 (Value.agg #[.int .u64 8390047168116913201, .int .u64 1, .int .u64 (b : Nat), .int .u64 (id : Nat), .int .u64 0, .int .u64 0, .int .u64 0, .int .u64 (sumS b id : Nat)]) (.int .i64 ((0 : Nat) : Int))).run Tryd.prog w = .ok (.int .u64 (encS b id 0 : Nat)) w := by kernel_rfl
theorem index_1 (b id : Nat) (w : World) : (Instr.index 23 (Value.agg #[.int .u64 8390047168116913201, .int .u64 1, .int .u64 (b : Nat), .int .u64 (id : Nat), .int .u64 0, .int .u64 0, .int .u64 0, .int .u64 (sumS b id : Nat)]) (.int .i64 ((1 : Nat) : Int))).run Tryd.prog w = .ok (.int .u64 (encS b id 1 : Nat)) w := by kernel_rfl
theorem index_2 (b id : Nat) (w : World) : (Instr.index 23 (Value.agg #[.int .u64 8390047168116913201, .int .u64 1, .int .u64 (b : Nat), .int .u64 (id : Nat), .int .u64 0, .int .u64 0, .int .u64 0, .int .u64 (sumS b id : Nat)]) (.int .i64 ((2 : Nat) : Int))).run Tryd.prog w = .ok (.int .u64 (encS b id 2 : Nat)) w := by kernel_rfl
theorem index_3 (b id : Nat) (w : World) : (Instr.index 23 (Value.agg #[.int .u64 8390047168116913201, .int .u64 1, .int .u64 (b : Nat), .int .u64 (id : Nat), .int .u64 0, .int .u64 0, .int .u64 0, .int .u64 (sumS b id : Nat)]) (.int .i64 ((3 : Nat) : Int))).run Tryd.prog w = .ok (.int .u64 (encS b id 3 : Nat)) w := by kernel_rfl
theorem index_4 (b id : Nat) (w : World) : (Instr.index 23 (Value.agg #[.int .u64 8390047168116913201, .int .u64 1, .int .u64 (b : Nat), .int .u64 (id : Nat), .int .u64 0, .int .u64 0, .int .u64 0, .int .u64 (sumS b id : Nat)]) (.int .i64 ((4 : Nat) : Int))).run Tryd.prog w = .ok (.int .u64 (encS b id 4 : Nat)) w := by kernel_rfl
theorem index_5 (b id : Nat) (w : World) : (Instr.index 23 (Value.agg #[.int .u64 8390047168116913201, .int .u64 1, .int .u64 (b : Nat), .int .u64 (id : Nat), .int .u64 0, .int .u64 0, .int .u64 0, .int .u64 (sumS b id : Nat)]) (.int .i64 ((5 : Nat) : Int))).run Tryd.prog w = .ok (.int .u64 (encS b id 5 : Nat)) w := by kernel_rfl
theorem index_6 (b id : Nat) (w : World) : (Instr.index 23 (Value.agg #[.int .u64 8390047168116913201, .int .u64 1, .int .u64 (b : Nat), .int .u64 (id : Nat), .int .u64 0, .int .u64 0, .int .u64 0, .int .u64 (sumS b id : Nat)]) (.int .i64 ((6 : Nat) : Int))).run Tryd.prog w = .ok (.int .u64 (encS b id 6 : Nat)) w := by kernel_rfl
theorem index_7 (b id : Nat) (w : World) : (Instr.index 23 (Value.agg #[.int .u64 8390047168116913201, .int .u64 1, .int .u64 (b : Nat), .int .u64 (id : Nat), .int .u64 0, .int .u64 0, .int .u64 0, .int .u64 (sumS b id : Nat)]) (.int .i64 ((7 : Nat) : Int))).run Tryd.prog w = .ok (.int .u64 (encS b id 7 : Nat)) w := by kernel_rfl
theorem index_enc (b id k : Nat) (hk : k < 8) (w : World) : (Instr.index 23 (Value.agg #[.int .u64 8390047168116913201, .int .u64 1, .int .u64 (b : Nat), .int .u64 (id : Nat), .int .u64 0, .int .u64 0, .int .u64 0, .int .u64 (sumS b id : Nat)]) (.int .i64 (k : Nat))).run Tryd.prog w = .ok (.int .u64 (encS b id k : Nat)) w :=
  match k, hk with
  | 0, _ => index_0 b id w
  | 1, _ => index_1 b id w
  | 2, _ => index_2 b id w
  | 3, _ => index_3 b id w
  | 4, _ => index_4 b id w
  | 5, _ => index_5 b id w
  | 6, _ => index_6 b id w
  | 7, _ => index_7 b id w

section
variable {w : World} {p : Nat} {f : Fp} {m : Mdl}

set_option maxHeartbeats 2000000 in
theorem write_any (h : Dev w p f m) (b id : Nat) (hb : b < 2 ^ 63) (hid : id < 2 ^ 64) (hT : HasRests w) (hst : m.steps < 1152921504606846976) :
    Calls Tryd.prog 15 #[.pointer (some ⟨p, 0, none⟩), .agg #[.int .i64 (b : Nat), .int .u64 (id : Nat)]] w (CodeTo p f (writeM m b id) w) := by
  have HD := Lib.hid h
  have HT := Lib.hid hT
  have hL := h.hL
  clear h hT
  go_enter Tryd.func15, Tryd.ntmps15
  go_wp2_with fail
  refine (geometry_any b id _).mono ?_
  rintro e w1 ⟨rfl, k1⟩
  obtain ⟨b1, k1, s1⟩ := boxT_of1 k1
  go_wp2_with fail
  refine (geoRight_any b _).mono ?_
  rintro e w2 ⟨rfl, k2⟩
  have b2 := b1.below k2 b1.lt
  have c20 : w2.cell? ⟨w.heap.size, 0, none⟩ = some (.int .i64 (b : Nat)) := b2.cell 0
  have c21 : w2.cell? ⟨w.heap.size, 1, none⟩ = some (.int .u64 (id : Nat)) := b2.cell 1
  have B2 := Lib.hid b2
  have K2 := Lib.hid (k1.trans (k2.mono k1.size))
  have D2 : Hid (Dev w2 p f m) := Lib.hid (HD.out.keep (Keep.ofBelow (S := fun _ => False) K2.out) (fun _ _ _ h => h))
  have O2 : Hid (∀ q, f.own p q → q < w.heap.size) := Lib.hid HD.out.own_all
  clear b1 k1 b2 k2 HD
  by_cases hr : 2 ≤ b ∧ b ≤ 256
  rotate_left
  · have hR : rightG (b : Int) = false := decide_eq_false (by omega)
    rw [hR]
    have HW : Hid (writeM m b id = (m, 26)) := Lib.hid (by unfold writeM; rw [if_neg (fun h => hr h.1)])
    clear hr hR c20 c21
    go_wp2_with fail
    go_ret
    unfold CodeTo
    rw [HW.out]
    exact ⟨rfl, f, D2.out, (Keep.ofBelow (S := fun _ => False) K2.out).mono (fun _ _ h => h.elim), fun q h => .inl h⟩
  have hR : rightG (b : Int) = true := decide_eq_true (by omega)
  rw [hR]
  clear hR
  go_wp2_with fail
  refine (fills_any b id _ D2.out (by omega) (by omega)).mono ?_
  rintro e w3 ⟨rfl, k3⟩
  have b3 := B2.out.below k3 B2.out.lt
  have c30 : w3.cell? ⟨w.heap.size, 0, none⟩ = some (.int .i64 (b : Nat)) := b3.cell 0
  have c31 : w3.cell? ⟨w.heap.size, 1, none⟩ = some (.int .u64 (id : Nat)) := b3.cell 1
  have K3 := Lib.hid (K2.out.trans (k3.mono K2.out.size))
  have D3 : Hid (Dev w3 p f m) := Lib.hid (D2.out.keep (Keep.ofBelow (S := fun _ => False) k3) (fun _ _ _ h => h))
  clear b3 k3 B2 K2 D2 c20 c21
  by_cases hf : 512 * b = 8 * m.L
  rotate_left
  · have hF : decide (512 * ((b : Nat) : Int) = ((8 * m.L : Nat) : Int)) = false := decide_eq_false (by omega)
    rw [hF]
    have HW : Hid (writeM m b id = (m, 26)) := Lib.hid (by unfold writeM; rw [if_neg (fun h => hf h.2)])
    clear hf hF c30 c31
    go_wp2_with fail
    go_ret
    unfold CodeTo
    rw [HW.out]
    exact ⟨rfl, f, D3.out, (Keep.ofBelow (S := fun _ => False) K3.out).mono (fun _ _ h => h.elim), fun q h => .inl h⟩
  have hF : decide (512 * ((b : Nat) : Int) = ((8 * m.L : Nat) : Int)) = true := decide_eq_true (by omega)
  rw [hF]
  have HW : Hid (writeM m b id = if (storesM m (encS b id) 0 8).2 = 0 then Nv.persist (storesM m (encS b id) 0 8).1 0 8 else storesM m (encS b id) 0 8) := Lib.hid (by unfold writeM; rw [if_pos ⟨hr, hf⟩])
  have hbw : IntKind.u64.wrap (b : Int) = (b : Int) := by simp [IntKind.wrap, IntKind.bits, IntKind.signed]; omega
  have HBW := Lib.hid hbw
  clear hF hf hbw
  go_wp2_with fail
  refine (encode_any b b id _ HBW.out (by omega) hid (HT.out.below K3.out (Nat.le_refl _))).mono ?_
  rintro e w4 ⟨rfl, k4⟩
  have K4 : Hid (Keep (f.own p) w w4) := Lib.hid ((Keep.ofBelow (S := fun _ => False) (K3.out.trans (k4.mono K3.out.size))).mono (fun _ _ h => h.elim))
  have D4 : Hid (Dev w4 p f m) := Lib.hid (D3.out.keep (Keep.ofBelow (S := fun _ => False) k4) (fun _ _ _ h => h))
  clear k4 K3 D3 c30 c31 HT HBW hr hb hid
  go_wp2_with fail
  have H0 : Hid (∃ f1 m1, Dev w4 p f1 m1 ∧ Keep (f.own p) w w4 ∧ (∀ q, f1.own p q → f.own p q ∨ w.heap.size ≤ q) ∧ m1.steps ≤ m.steps + (0 : Nat) ∧ storesM m (encS b id) 0 8 = storesM m1 (encS b id) 0 (8 - 0)) := Lib.hid ⟨f, m, D4.out, K4.out, fun q h => .inl h, by omega, rfl⟩
  clear D4 K4
  go_loopw [5, 6, 7, 20] (fun _ _ _ i wr => ∃ k : Nat, k ≤ 8 ∧ i = .int .i64 k ∧ Hid (∃ f1 m1, Dev wr p f1 m1 ∧ Keep (f.own p) w wr ∧ (∀ q, f1.own p q → f.own p q ∨ w.heap.size ≤ q) ∧ m1.steps ≤ m.steps + k ∧ storesM m (encS b id) 0 8 = storesM m1 (encS b id) k (8 - k))) (fun _ _ _ i _ => 8 - (intOf i).toNat)
  case atStart => exact ⟨0, by omega, rfl, H0⟩
  case round =>
    obtain ⟨k, hk, rfl, HR⟩ := hrel
    clear H0
    obtain ⟨f1, m1, d1, kw, ow, st, eqs⟩ := HR.out
    have D1 := Lib.hid d1
    have KW := Lib.hid kw
    have OW := Lib.hid ow
    have ES := Lib.hid eqs
    clear d1 kw ow eqs HR
    by_cases hlt : k < 8
    · have hlt' : (k : Int) < 8 := by omega
      have hst1 : m1.steps < 4611686018427387904 := by omega
      have HS := Lib.hid (store_any D1.out k (encS b id k) hst1)
      have hss := store_steps m1 k (encS b id k)
      have EK : Hid (storesM m (encS b id) 0 8 = if (Nv.store m1 k (encS b id k)).2 = 0 then storesM (Nv.store m1 k (encS b id k)).1 (encS b id) (k + 1) (8 - (k + 1)) else Nv.store m1 k (encS b id k)) := Lib.hid (by rw [ES.out, show 8 - k = (8 - (k + 1)) + 1 by omega, storesM_succ])
      have hix := index_enc b id k hlt
      generalize encS b id k = xk at HS hss EK hix
      generalize Nv.store m1 k xk = r at HS hss EK
      go_wp2_with fail
      refine HS.out.mono ?_
      rintro e w5 ⟨rfl, f5, d5, k5, o5⟩
      have K5 := Lib.hid (keep_step KW.out OW.out k5)
      have O5 := Lib.hid (own_step KW.out OW.out o5)
      have D5 := Lib.hid d5
      clear d5 k5 o5 KW OW D1 HS ES hix
      by_cases hz : r.2 = 0
      · have EK' : Hid (storesM m (encS b id) 0 8 = storesM r.1 (encS b id) (k + 1) (8 - (k + 1))) := Lib.hid (by rw [EK.out, if_pos hz])
        rw [hz]
        clear hz EK
        go_wp2_with fail
        go_roundw
        case rel => exact ⟨k + 1, by omega, by go_num, Lib.hid ⟨f5, r.1, D5.out, K5.out, O5.out, by omega, EK'.out⟩⟩
        case measure => simp [intOf]; omega
      · have EK' : Hid (writeM m b id = r) := Lib.hid (by rw [HW.out, EK.out, if_neg hz, if_neg hz])
        obtain ⟨cd, hcd⟩ : ∃ cd, r.2 = cd := ⟨_, rfl⟩
        have hn1 : ((cd : Int) == 0) = false := by rw [hcd] at hz; simpa using hz
        have hn2 : ((cd : Int) != 0) = true := by rw [hcd] at hz; simpa using hz
        have HCD := Lib.hid hcd
        rw [hcd]
        clear hz EK hcd
        go_wp2_with fail
        go_ret
        unfold CodeTo
        rw [EK'.out, HCD.out]
        exact ⟨rfl, f5, D5.out, K5.out, O5.out⟩
    · have hlt' : ¬ (k : Int) < 8 := by omega
      obtain rfl : k = 8 := by omega
      have EK : Hid (writeM m b id = Nv.persist m1 0 8) := Lib.hid (by rw [HW.out, ES.out]; exact if_pos rfl)
      have HP := Lib.hid (persist_any D1.out 0 8 (by omega) (by decide) (by decide) (by decide) (by decide))
      generalize Nv.persist m1 0 8 = r at HP EK
      go_wp2_with fail
      refine HP.out.mono ?_
      rintro e w5 ⟨rfl, f5, d5, k5, o5⟩
      have K5 := Lib.hid (keep_step KW.out OW.out k5)
      have O5 := Lib.hid (own_step KW.out OW.out o5)
      have D5 := Lib.hid d5
      clear d5 k5 o5 KW OW D1 HP ES
      go_wp2_with fail
      go_ret
      unfold CodeTo
      rw [EK.out]
      exact ⟨rfl, f5, D5.out, K5.out, O5.out⟩
end

end Go.Proofs.YtpgkplknfhdmgaaDoor
