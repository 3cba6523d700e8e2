/- crc.More, crc.Sum. -/
import Derived.Test.YtdhakfkcenfdoaaDoorHalved
import Derived.Test.YtdhakfkcenfdoaaDoorSl
import Derived.Laws.BitsAllLaws
namespace Go.Proofs.YtdhakfkcenfdoaaDoor
open Go.ChangeShapes Go.WideShapes Go.ChangeAt Go.RowKit Cr Bt
set_option linter.unusedVariables false

theorem ones_less (s : Nat) (h : s < 4294967296) : bits .xor .u32 IntKind.u32.max (s : Int) = ((4294967295 - s : Nat) : Int) := by
  have e : (4294967295 ^^^ s) = 4294967295 - s := by
    apply Nat.eq_of_testBit_eq; intro i
    rw [show 4294967295 - s = 2 ^ 32 - (s + 1) by omega, Nat.testBit_two_pow_sub_succ (show s < 2 ^ 32 from h), show 4294967295 = 2 ^ 32 - 1 from rfl, Nat.testBit_xor, Nat.testBit_two_pow_sub_one]
    by_cases hi : i < 32
    · simp [hi]
    · rw [Nat.testBit_lt_two_pow (x := s) (Nat.lt_of_lt_of_le h (show 2 ^ 32 ≤ 2 ^ i from Nat.pow_le_pow_right (by decide) (by omega)))]; simp [hi]
  rw [show IntKind.u32.max = ((4294967295 : Nat) : Int) from rfl, xor_nat32 _ _ (by decide) h, e]

set_option maxHeartbeats 400000 in
theorem more_any (s : Nat) (va : Value) (ds : List Nat) (w : World) (hs : s < 4294967296) (h : IsInts .u8 w va (castL ds)) (hd : ∀ p, ds.getD p 0 < 256) (hlen : ds.length ≤ 1000000000) (hT : HasRests w) :
    Calls Tryd.prog 46 #[.int .u32 s, va] w fun e w' => e = .returned (.int .u32 (moreN s ds : Nat)) ∧ ∃ n, w' = w.drewN n := by
  obtain ⟨a, ca, rfl, hca, ha⟩ := h
  obtain ⟨len, hl⟩ : ∃ len, ds.length = len := ⟨_, rfl⟩
  rw [castL_length, hl] at hca ha
  rw [castL_length, hl]
  rw [hl] at hlen
  have HD := Lib.hid hd
  have HA := Lib.hid ha
  have HL := Lib.hid hl
  have HT := Lib.hid hT
  clear hd ha hl hT
  have e0 := ones_less s hs
  go_enter Tryd.func46, Tryd.ntmps46
  go_wp2_with fail
  clear e0
  go_loop [5, 7, 12] (fun x _ i => ∃ k R : Nat, k ≤ len ∧ R < 4294967296 ∧ Hid (R = foldC (4294967295 - s) (ds.take k)) ∧ i = .int .i64 k ∧ x = .int .u32 R) (fun _ _ i => len - (intOf i).toNat)
  case atStart => exact ⟨0, 4294967295 - s, by omega, by omega, Lib.hid rfl, rfl, rfl⟩
  case round =>
    obtain ⟨k, R, hk, hR, HR, rfl, rfl⟩ := hrel
    by_cases hlt : k < len
    · have hlt' : (k : Int) < (len : Int) := by omega
      have hk0 : (0 : Int) ≤ (k : Int) := by omega
      obtain ⟨b, off, rfl, hblt, hcells⟩ := HA.out.resolve_left (by intro h; have := HL.out; rw [← castL_length, h] at this; simp at this; omega)
      have hc := hcells k hlt
      rw [castL_getD] at hc
      have hB := HD.out k
      have HN : Hid (byteC R (ds.getD k 0) = foldC (4294967295 - s) (ds.take (k + 1))) := Lib.hid (by rw [HR.out, foldC_take _ _ _ (by rw [HL.out]; exact hlt)])
      generalize ds.getD k 0 = B at hc hB HN
      have ex := xor_nat32 R B hR (by omega)
      have hx := xor_lt32 (a := R) (b := B) hR (by omega)
      have hB' : (B : Int) ≤ 255 := by omega
      clear hcells
      go_wp2_with fail
      refine (halved_any _ _ hx HT.out).mono ?_
      rintro e w' ⟨rfl, rfl⟩
      have hx2 := half_lt _ hx
      go_wp2_with fail
      refine (halved_any _ _ hx2 HT.out).mono ?_
      rintro e w' ⟨rfl, rfl⟩
      have hx3 := half_lt _ hx2
      have HE := Lib.hid (half_half (R ^^^ B))
      clear hx2
      generalize halfN (halfN (R ^^^ B)) = Z at hx3 HE
      go_wp2_with fail
      go_round
      case rel => exact ⟨k + 1, Z, by omega, hx3, Lib.hid (by rw [HE.out]; exact HN.out), by go_num, rfl⟩
      case measure => simp [intOf]; omega
    · have hlt' : ¬ (k : Int) < (len : Int) := by omega
      have e1 := ones_less R hR
      have HF : Hid (4294967295 - R = moreN s ds) := Lib.hid (by unfold moreN; rw [HR.out, List.take_of_length_le (by rw [HL.out]; omega)])
      go_wp2_with fail
      go_ret
      exact ⟨ret_int (by rw [← HF.out]), 0, rfl⟩

theorem sum_any (va : Value) (ds : List Nat) (w : World) (h : IsInts .u8 w va (castL ds)) (hd : ∀ p, ds.getD p 0 < 256) (hlen : ds.length ≤ 1000000000) (hT : HasRests w) :
    Calls Tryd.prog 42 #[va] w fun e w' => e = .returned (.int .u32 (moreN 0 ds : Nat)) ∧ ∃ n, w' = w.drewN n := by
  have HI := Lib.hid h
  have HD := Lib.hid hd
  have HT := Lib.hid hT
  clear h hd hT
  go_enter Tryd.func42, Tryd.ntmps42
  go_wp2_with fail
  refine (more_any 0 va ds _ (by decide) HI.out HD.out hlen HT.out).mono ?_
  rintro e w' ⟨rfl, n, rfl⟩
  go_wp2_with fail
  go_ret
  exact ⟨rfl, n, rfl⟩

end Go.Proofs.YtdhakfkcenfdoaaDoor
