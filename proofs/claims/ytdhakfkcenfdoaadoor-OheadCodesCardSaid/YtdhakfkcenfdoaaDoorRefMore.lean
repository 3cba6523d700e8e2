/- The reference: More. -/
import Derived.Test.YtdhakfkcenfdoaaDoorSl
import Derived.Test.YtdhakfkcenfdoaaDoorCrcMath
namespace Go.Proofs.YtdhakfkcenfdoaaDoor
open Go.ChangeShapes Go.WideShapes Go.ChangeAt Go.RowKit Cr Bt
set_option linter.unusedVariables false

set_option maxHeartbeats 400000 in
theorem refMore_any (s : Nat) (va : Value) (ds : List Nat) (w : World) (hs : s < 4294967296) (h : IsInts .u8 w va (castL ds)) (hd : ∀ p, ds.getD p 0 < 256) (hlen : ds.length ≤ 1000000000) :
    Calls Tryd.prog 44 #[.int .u32 s, va] w fun e w' => e = .returned (.int .u32 (moreN s ds : Nat)) ∧ ∃ n, w' = w.drewN n := by
  obtain ⟨a, ca, rfl, hca, ha⟩ := h
  obtain ⟨len, hl⟩ : ∃ len, ds.length = len := ⟨_, rfl⟩
  rw [castL_length, hl] at hca ha
  rw [castL_length, hl]
  rw [hl] at hlen
  have HD := Lib.hid hd
  have HA := Lib.hid ha
  have HL := Lib.hid hl
  clear hd ha hl
  have hs' : (s : Int) ≤ 4294967295 := by omega
  go_enter Tryd.func44, Tryd.ntmps44
  go_wp2_with fail
  go_loop [5, 6, 7, 8] (fun x i _ _ => ∃ k R : Nat, k ≤ len ∧ R < 4294967296 ∧ Hid (R = foldC (4294967295 - s) (ds.take k)) ∧ i = .int .i64 k ∧ x = .int .u32 R) (fun _ i _ _ => len - (intOf i).toNat)
  case atStart => exact ⟨0, 4294967295 - s, by omega, by omega, Lib.hid rfl, rfl, by go_num⟩
  case round =>
    obtain ⟨k, R, hk, hR, HR, rfl, rfl⟩ := hrel
    by_cases hlt : k < len
    · have hlt' : (k : Int) < (len : Int) := by omega
      have hk0 : (0 : Int) ≤ (k : Int) := by omega
      obtain ⟨b, off, rfl, hblt, hcells⟩ := HA.out.resolve_left (by intro h; have := HL.out; rw [← castL_length, h] at this; simp at this; omega)
      have hc := hcells k hlt
      rw [castL_getD] at hc
      have hB := HD.out k
      have HN : Hid (byteC R (ds.getD k 0) = foldC (4294967295 - s) (ds.take (k + 1))) := Lib.hid (by rw [HR.out, foldC_take _ _ _ (by rw [HL.out]; exact hlt)])
      generalize ds.getD k 0 = B at hc hB HN
      have ex := xor_nat32 R B hR (by omega)
      have hx := xor_lt32 (a := R) (b := B) hR (by omega)
      have hB' : (B : Int) ≤ 255 := by omega
      clear hcells
      have HX := Lib.hid (show R ^^^ B = stN 0 (R ^^^ B) from rfl)
      generalize hX0 : R ^^^ B = X0 at ex hx HX
      have HN' : Hid (stN 8 X0 = foldC (4294967295 - s) (ds.take (k + 1))) := Lib.hid (by rw [← hX0]; exact HN.out)
      clear HN hX0
      go_wp2_with fail
      go_loop [5, 7, 8] (fun x j _ => ∃ i Y : Nat, i ≤ 8 ∧ Y < 4294967296 ∧ Hid (Y = stN i X0) ∧ j = .int .i64 i ∧ x = .int .u32 Y) (fun _ j _ => 8 - (intOf j).toNat)
      case atStart => exact ⟨0, X0, by omega, hx, HX, rfl, rfl⟩
      case round =>
        obtain ⟨i, Y, hi, hY, HY, rfl, rfl⟩ := hrel
        have hY' : (Y : Int) ≤ 4294967295 := by omega
        by_cases hit : i < 8
        · have hit' : (i : Int) < 8 := by omega
          have hS := st_lt Y hY
          have HS : Hid (st Y = stN (i + 1) X0) := Lib.hid (by rw [HY.out]; rfl)
          have e2 : bits .xor .u32 ((Y : Int) / 2) 3988292384 = ((Y / 2 ^^^ 3988292384 : Nat) : Int) := xor_nat32 (Y / 2) 3988292384 (by omega) (by decide)
          by_cases hp : Y % 2 = 1
          · have HU : Hid (Y / 2 ^^^ 3988292384 = st Y) := Lib.hid (by unfold st; rw [hp])
            have hp' : (Y : Int) % 2 = 1 := by omega
            clear hp
            go_wp2_with fail
            go_round
            case rel => exact ⟨i + 1, st Y, by omega, hS, HS, by go_num, by rw [← HU.out]⟩
            case measure => simp [intOf]; omega
          · have HU : Hid (Y / 2 = st Y) := Lib.hid (by unfold st; rw [show Y % 2 = 0 by omega]; simp)
            have hp' : (Y : Int) % 2 = 0 := by omega
            clear hp e2
            go_wp2_with fail
            go_round
            case rel => exact ⟨i + 1, st Y, by omega, hS, HS, by go_num, by rw [← HU.out]; rfl⟩
            case measure => simp [intOf]; omega
        · have hit' : ¬ (i : Int) < 8 := by omega
          have HZ : Hid (Y = foldC (4294967295 - s) (ds.take (k + 1))) := Lib.hid (by rw [HY.out, show i = 8 by omega]; exact HN'.out)
          go_wp2_with fail
          go_round
          case rel => exact ⟨k + 1, Y, by omega, hY, HZ, by go_num, rfl⟩
          case measure => simp [intOf]; omega
    · have hlt' : ¬ (k : Int) < (len : Int) := by omega
      have hR' : (R : Int) ≤ 4294967295 := by omega
      have HF : Hid (4294967295 - R = moreN s ds) := Lib.hid (by unfold moreN; rw [HR.out, List.take_of_length_le (by rw [HL.out]; omega)])
      go_wp2_with fail
      go_ret
      exact ⟨ret_int (by rw [← HF.out]; omega), 0, rfl⟩

end Go.Proofs.YtdhakfkcenfdoaaDoor
