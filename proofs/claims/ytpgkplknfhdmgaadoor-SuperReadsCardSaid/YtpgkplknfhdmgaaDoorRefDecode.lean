/- The reference: Decode. -/
import Derived.Test.YtpgkplknfhdmgaaDoorRefEncode
import Derived.Deep.RegionHeld3
namespace Go.Proofs.YtpgkplknfhdmgaaDoor
open Go.ChangeShapes Go.WideShapes Go.ChangeAt Go.RowKit Cr Bt Su
set_option linter.unusedVariables false

/-- The line of so many blocks is x just if x is right and tells so many. -/
theorem chain_eq (x : Nat → Nat) (k : Nat) (h2 : 2 ≤ k) (h3 : k ≤ 256) :
    (((8390047168116913201 : Int) == (x 0 : Int)) && ((1 : Int) == (x 1 : Int)) && ((k : Int) == (x 2 : Int)) && ((x 3 : Int) == (x 3 : Int)) && ((0 : Int) == (x 4 : Int)) && ((0 : Int) == (x 5 : Int)) && ((0 : Int) == (x 6 : Int)) && (((sumS k (x 3) : Nat) : Int) == (x 7 : Int))) = decide (codeS x = 0 ∧ k = x 2) := by
  rw [Bool.eq_iff_iff]
  simp only [Bool.and_eq_true, beq_iff_eq, decide_eq_true_eq, code_zero]
  constructor
  · rintro ⟨⟨⟨⟨⟨⟨⟨a, b⟩, c⟩, -⟩, d⟩, e⟩, f⟩, g⟩
    obtain rfl : k = x 2 := by omega
    exact ⟨⟨⟨by omega, by omega, by omega, by omega, by omega, by omega⟩, h2, h3⟩, rfl⟩
  · rintro ⟨⟨⟨a, b, c, d, e, f⟩, -, -⟩, rfl⟩
    exact ⟨⟨⟨⟨⟨⟨⟨by omega, by omega⟩, rfl⟩, trivial⟩, by omega⟩, by omega⟩, by omega⟩, by omega⟩

/-- What a line tells, as the reference tells it. -/
def RefTells (x : Nat → Nat) (w : World) (e : Ending) (w' : World) : Prop := e = .returned (.tuple #[.int .i64 (blocksS x : Nat), .int .u64 (idS x : Nat), .int .i64 (codeS x : Nat)]) ∧ Below w.heap.size w w'

set_option maxHeartbeats 2000000 in
theorem refDecode_any (x : Nat → Nat) (w : World) (hx : ∀ i, x i < 2 ^ 64) :
    Calls Tryd.prog 8 #[(Value.agg #[Value.int .u64 ((x 0 : Nat) : Int), Value.int .u64 ((x 1 : Nat) : Int), Value.int .u64 ((x 2 : Nat) : Int), Value.int .u64 ((x 3 : Nat) : Int), Value.int .u64 ((x 4 : Nat) : Int), Value.int .u64 ((x 5 : Nat) : Int), Value.int .u64 ((x 6 : Nat) : Int), Value.int .u64 ((x 7 : Nat) : Int)])] w (RefTells x w) := by
  by_cases h0 : x 0 = 8390047168116913201
  rotate_left
  · have hc : codeS x = 24 := by unfold codeS; rw [if_pos h0]
    have HP : Hid (blocksS x = 0 ∧ idS x = 0 ∧ codeS x = 24) := Lib.hid ⟨by unfold blocksS; rw [hc]; rfl, by unfold idS; rw [hc]; rfl, hc⟩
    have h0' : ((x 0 : Int) == 8390047168116913201) = false := by simp; omega
    have h0'' : ((x 0 : Int) != 8390047168116913201) = true := by simp; omega
    clear hx hc h0
    go_enter Tryd.func8, Tryd.ntmps8
    go_wp2_with fail
    go_ret3
    exact ⟨by rw [HP.out.1, HP.out.2.1, HP.out.2.2]; rfl, (Below.refl _ _).alloc (Nat.le_refl _) _⟩
  have h0' : ((x 0 : Int) == 8390047168116913201) = true := by simp; omega
  have h0'' : ((x 0 : Int) != 8390047168116913201) = false := by simp; omega
  have HI : Hid (IsInts .u64 (w.alloc (.cells #[.int .u64 (x 0), .int .u64 (x 1), .int .u64 (x 2), .int .u64 (x 3), .int .u64 (x 4), .int .u64 (x 5), .int .u64 (x 6), .int .u64 (x 7)] 23)).drew (.slice (some ⟨w.heap.size, 0, none⟩) 7 8) (castL [x 0, x 1, x 2, x 3, x 4, x 5, x 6])) := Lib.hid (seven_of (BoxT.new 23 w #[.int .u64 (x 0), .int .u64 (x 1), .int .u64 (x 2), .int .u64 (x 3), .int .u64 (x 4), .int .u64 (x 5), .int .u64 (x 6), .int .u64 (x 7)]))
  have H7s := Lib.hid (lt_all7 _ ⟨hx 0, hx 1, hx 2, hx 3, hx 4, hx 5, hx 6⟩)
  have HX := Lib.hid hx
  have hwr : IntKind.u64.wrap ((wordsC [x 0, x 1, x 2, x 3, x 4, x 5, x 6] : Nat) : Int) = ((wordsC [x 0, x 1, x 2, x 3, x 4, x 5, x 6] : Nat) : Int) := by
    have hw : wordsC [x 0, x 1, x 2, x 3, x 4, x 5, x 6] < 4294967296 := moreN_lt _ _
    simp [IntKind.wrap, IntKind.bits, IntKind.signed]; omega
  have CK : Hid (∀ w' : World, BoxT 23 w' w.heap.size #[.int .u64 (x 0), .int .u64 (x 1), .int .u64 (x 2), .int .u64 (x 3), .int .u64 (x 4), .int .u64 (x 5), .int .u64 (x 6), .int .u64 (x 7)] → w'.cell? ⟨w.heap.size, 0, none⟩ = some (.int .u64 (x 0)) ∧ w'.cell? ⟨w.heap.size, 1, none⟩ = some (.int .u64 (x 1)) ∧ w'.cell? ⟨w.heap.size, 2, none⟩ = some (.int .u64 (x 2)) ∧ w'.cell? ⟨w.heap.size, 3, none⟩ = some (.int .u64 (x 3)) ∧ w'.cell? ⟨w.heap.size, 4, none⟩ = some (.int .u64 (x 4)) ∧ w'.cell? ⟨w.heap.size, 5, none⟩ = some (.int .u64 (x 5)) ∧ w'.cell? ⟨w.heap.size, 6, none⟩ = some (.int .u64 (x 6)) ∧ w'.cell? ⟨w.heap.size, 7, none⟩ = some (.int .u64 (x 7))) := Lib.hid fun w' h => ⟨h.cell 0, h.cell 1, h.cell 2, h.cell 3, h.cell 4, h.cell 5, h.cell 6, h.cell 7⟩
  by_cases h7 : x 7 = wordsC [x 0, x 1, x 2, x 3, x 4, x 5, x 6]
  rotate_left
  · have hc : codeS x = 25 := by unfold codeS; rw [if_neg (by simpa using h0), if_pos h7]
    have HP : Hid (blocksS x = 0 ∧ idS x = 0 ∧ codeS x = 25) := Lib.hid ⟨by unfold blocksS; rw [hc]; rfl, by unfold idS; rw [hc]; rfl, hc⟩
    have h7' : (((x 7 : Nat) : Int) == ((wordsC [x 0, x 1, x 2, x 3, x 4, x 5, x 6] : Nat) : Int)) = false := by simp; omega
    have h7'' : (((x 7 : Nat) : Int) != ((wordsC [x 0, x 1, x 2, x 3, x 4, x 5, x 6] : Nat) : Int)) = true := by simp; omega
    clear hx hc h0 h7
    go_enter Tryd.func8, Tryd.ntmps8
    go_wp2_with fail
    go_region_held3 (fun w' => w'.cell? ⟨w.heap.size, 0, none⟩ = some (.int .u64 (x 0)) ∧ w'.cell? ⟨w.heap.size, 1, none⟩ = some (.int .u64 (x 1)) ∧ w'.cell? ⟨w.heap.size, 2, none⟩ = some (.int .u64 (x 2)) ∧ w'.cell? ⟨w.heap.size, 3, none⟩ = some (.int .u64 (x 3)) ∧ w'.cell? ⟨w.heap.size, 4, none⟩ = some (.int .u64 (x 4)) ∧ w'.cell? ⟨w.heap.size, 5, none⟩ = some (.int .u64 (x 5)) ∧ w'.cell? ⟨w.heap.size, 6, none⟩ = some (.int .u64 (x 6)) ∧ w'.cell? ⟨w.heap.size, 7, none⟩ = some (.int .u64 (x 7))) (first | go_keep | exact CK.out _ B1.out)
      (first
        | (go_at_call 21; refine (refWords32_any _ [x 0, x 1, x 2, x 3, x 4, x 5, x 6] _ HI.out H7s.out (by simp)).mono ?_; rintro e W ⟨rfl, hb⟩; obtain ⟨b1, k, s⟩ := boxT_of1 (below_undrew hb); have B1 := Lib.hid b1; have K := Lib.hid k; clear hb b1 k))
    go_wp2_with fail
    go_ret3
    exact ⟨by rw [HP.out.1, HP.out.2.1, HP.out.2.2]; rfl, K.out⟩
  have h7' : (((x 7 : Nat) : Int) == ((wordsC [x 0, x 1, x 2, x 3, x 4, x 5, x 6] : Nat) : Int)) = true := by simp; omega
  have h7'' : (((x 7 : Nat) : Int) != ((wordsC [x 0, x 1, x 2, x 3, x 4, x 5, x 6] : Nat) : Int)) = false := by simp; omega
  have H0 := Lib.hid h0
  have H7 := Lib.hid h7
  have hx3 := hx 3
  clear hx h0 h7
  go_enter Tryd.func8, Tryd.ntmps8
  go_wp2_with fail
  go_region_held3 (fun w' => w'.cell? ⟨w.heap.size, 0, none⟩ = some (.int .u64 (x 0)) ∧ w'.cell? ⟨w.heap.size, 1, none⟩ = some (.int .u64 (x 1)) ∧ w'.cell? ⟨w.heap.size, 2, none⟩ = some (.int .u64 (x 2)) ∧ w'.cell? ⟨w.heap.size, 3, none⟩ = some (.int .u64 (x 3)) ∧ w'.cell? ⟨w.heap.size, 4, none⟩ = some (.int .u64 (x 4)) ∧ w'.cell? ⟨w.heap.size, 5, none⟩ = some (.int .u64 (x 5)) ∧ w'.cell? ⟨w.heap.size, 6, none⟩ = some (.int .u64 (x 6)) ∧ w'.cell? ⟨w.heap.size, 7, none⟩ = some (.int .u64 (x 7))) (first | go_keep | exact CK.out _ B1.out)
    (first
      | (go_at_call 21; refine (refWords32_any _ [x 0, x 1, x 2, x 3, x 4, x 5, x 6] _ HI.out H7s.out (by simp)).mono ?_; rintro e W ⟨rfl, hb⟩; obtain ⟨b1, k, s⟩ := boxT_of1 (below_undrew hb); have B1 := Lib.hid b1; have K := Lib.hid k; clear hb b1 k))
  go_wp2_with fail
  have HW : Hid (BoxT 23 W w.heap.size #[.int .u64 (x 0), .int .u64 (x 1), .int .u64 (x 2), .int .u64 (x 3), .int .u64 (x 4), .int .u64 (x 5), .int .u64 (x 6), .int .u64 (x 7)] ∧ Below w.heap.size w W) := Lib.hid ⟨B1.out, K.out⟩
  clear B1 K
  go_loopw [2, 3, 4, 5] (fun _ _ _ i wr => ∃ k : Nat, 2 ≤ k ∧ k ≤ 257 ∧ i = .int .i64 k ∧ Hid (¬ (codeS x = 0 ∧ x 2 < k)) ∧ Hid (BoxT 23 wr w.heap.size #[.int .u64 (x 0), .int .u64 (x 1), .int .u64 (x 2), .int .u64 (x 3), .int .u64 (x 4), .int .u64 (x 5), .int .u64 (x 6), .int .u64 (x 7)] ∧ Below w.heap.size w wr)) (fun _ _ _ i _ => 257 - (intOf i).toNat)
  case atStart => exact ⟨2, by omega, by omega, rfl, Lib.hid (fun h => by have := ((code_zero x).1 h.1).2; omega), HW⟩
  case round =>
    obtain ⟨k, hk2, hk, rfl, HN, HR⟩ := hrel
    clear HW
    by_cases hlt : k ≤ 256
    · have hlt' : (k : Int) ≤ 256 := by omega
      obtain ⟨q0, q1, q2, q3, q4, q5, q6, q7⟩ := CK.out _ HR.out.1
      have heq := fun w' => eq8V 8390047168116913201 1 (k : Nat) (x 3) 0 0 0 (sumS k (x 3) : Nat) (x 0) (x 1) (x 2) (x 3) (x 4) (x 5) (x 6) (x 7) w'
      rw [chain_eq x k hk2 hlt] at heq
      have hwk : IntKind.u64.wrap (k : Int) = (k : Int) := by simp [IntKind.wrap, IntKind.bits, IntKind.signed]; omega
      have HWK := Lib.hid hwk
      clear hwk
      by_cases hg : codeS x = 0 ∧ k = x 2
      · rw [decide_eq_true hg] at heq
        have HP : Hid (blocksS x = k ∧ idS x = x 3 ∧ codeS x = 0) := Lib.hid ⟨by unfold blocksS; rw [if_pos hg.1]; exact hg.2.symm, by unfold idS; rw [if_pos hg.1], hg.1⟩
        clear hg
        go_wp2_with fail
        go_region_held3 (fun w' => w'.cell? ⟨w.heap.size, 0, none⟩ = some (.int .u64 (x 0)) ∧ w'.cell? ⟨w.heap.size, 1, none⟩ = some (.int .u64 (x 1)) ∧ w'.cell? ⟨w.heap.size, 2, none⟩ = some (.int .u64 (x 2)) ∧ w'.cell? ⟨w.heap.size, 3, none⟩ = some (.int .u64 (x 3)) ∧ w'.cell? ⟨w.heap.size, 4, none⟩ = some (.int .u64 (x 4)) ∧ w'.cell? ⟨w.heap.size, 5, none⟩ = some (.int .u64 (x 5)) ∧ w'.cell? ⟨w.heap.size, 6, none⟩ = some (.int .u64 (x 6)) ∧ w'.cell? ⟨w.heap.size, 7, none⟩ = some (.int .u64 (x 7))) (first | go_keep | exact CK.out _ B1.out)
          (first
            | (go_at_call 10; refine (refEncode_any k k (x 3) _ HWK.out (by omega) hx3).mono ?_; rintro e W1 ⟨rfl, hb⟩; have B1 := Lib.hid (HR.out.1.below (below_undrew hb) HR.out.1.lt); have K1 := Lib.hid (HR.out.2.trans ((below_undrew hb).mono HR.out.2.size)); clear hb))
        go_wp2_with fail
        go_quiet (fail)
        go_wp2_with fail
        go_ret3
        exact ⟨by rw [HP.out.1, HP.out.2.1, HP.out.2.2]; rfl, below_drewN K1.out _⟩
      · rw [decide_eq_false hg] at heq
        have HM : Hid (¬ (codeS x = 0 ∧ x 2 < k + 1)) := Lib.hid fun h => by
          rcases Nat.lt_or_ge (x 2) k with h2 | h2
          · exact HN.out ⟨h.1, h2⟩
          · exact hg ⟨h.1, by have := h.2; omega⟩
        clear hg
        go_wp2_with fail
        go_region_held3 (fun w' => w'.cell? ⟨w.heap.size, 0, none⟩ = some (.int .u64 (x 0)) ∧ w'.cell? ⟨w.heap.size, 1, none⟩ = some (.int .u64 (x 1)) ∧ w'.cell? ⟨w.heap.size, 2, none⟩ = some (.int .u64 (x 2)) ∧ w'.cell? ⟨w.heap.size, 3, none⟩ = some (.int .u64 (x 3)) ∧ w'.cell? ⟨w.heap.size, 4, none⟩ = some (.int .u64 (x 4)) ∧ w'.cell? ⟨w.heap.size, 5, none⟩ = some (.int .u64 (x 5)) ∧ w'.cell? ⟨w.heap.size, 6, none⟩ = some (.int .u64 (x 6)) ∧ w'.cell? ⟨w.heap.size, 7, none⟩ = some (.int .u64 (x 7))) (first | go_keep | exact CK.out _ B1.out)
          (first
            | (go_at_call 10; refine (refEncode_any k k (x 3) _ HWK.out (by omega) hx3).mono ?_; rintro e W1 ⟨rfl, hb⟩; have B1 := Lib.hid (HR.out.1.below (below_undrew hb) HR.out.1.lt); have K1 := Lib.hid (HR.out.2.trans ((below_undrew hb).mono HR.out.2.size)); clear hb))
        go_wp2_with fail
        go_roundw
        case rel => exact ⟨k + 1, by omega, by omega, by go_num, HM, Lib.hid ⟨B1.out, K1.out⟩⟩
        case measure => simp [intOf]; omega
    · have hlt' : ¬ (k : Int) ≤ 256 := by omega
      have hc : codeS x = 26 := by
        rcases code_cases x with h | h | h | h
        · exact absurd ⟨h, by have := ((code_zero x).1 h).2; omega⟩ HN.out
        · unfold codeS at h; rw [if_neg (by rw [H0.out]; simp), if_neg (by rw [← H7.out]; simp)] at h; split at h <;> cases h
        · unfold codeS at h; rw [if_neg (by rw [H0.out]; simp), if_neg (by rw [← H7.out]; simp)] at h; split at h <;> cases h
        · exact h
      have HP : Hid (blocksS x = 0 ∧ idS x = 0 ∧ codeS x = 26) := Lib.hid ⟨by unfold blocksS; rw [hc]; rfl, by unfold idS; rw [hc]; rfl, hc⟩
      clear hc
      go_wp2_with fail
      go_ret3
      exact ⟨by rw [HP.out.1, HP.out.2.1, HP.out.2.2]; rfl, HR.out.2⟩

end Go.Proofs.YtpgkplknfhdmgaaDoor
