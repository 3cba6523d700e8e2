/- The reference: all bytes of all words. -/
import Derived.Test.YtdhakfkcenfdoaaDoorSl
import Derived.Test.YtdhakfkcenfdoaaDoorByteMath
namespace Go.Proofs.YtdhakfkcenfdoaaDoor
open Go.ChangeShapes Go.WideShapes Go.ChangeAt Go.RowKit Bt
set_option linter.unusedVariables false

/-- What the reference's loops hold: so many words and so many bytes of the next. -/
def RBytesAt (xs : List Nat) (k j : Nat) (w : World) (v : Value) (wr : World) : Prop :=
  wr.ownsRow w.heap.size 5 1 v (8 * k + j) ((castL (partN xs k j)).map (Value.int .u8)) ∧ Below w.heap.size w wr

theorem byte_mod (Y X j : Nat) (h : Y = X / 256 ^ j) : Y % 256 = byteN X j := by rw [h]; rfl
theorem byte_div (Y X j : Nat) (h : Y = X / 256 ^ j) : Y / 256 = X / 256 ^ (j + 1) := by rw [h, Nat.div_div_eq_div_mul, Nat.pow_succ]

set_option maxHeartbeats 1000000 in
theorem refBytes_any (va : Value) (xs : List Nat) (w : World) (h : IsInts .u64 w va (castL xs)) (hx : ∀ p, xs.getD p 0 < 2 ^ 64) (hlen : xs.length ≤ 1000000000) :
    Calls Tryd.prog 45 #[va] w (MadeInts .u8 (castL (bytesN xs)) w) := by
  obtain ⟨i0, hi, hz0, hz1, hz2⟩ := info_parts infoU8
  obtain ⟨a, ca, rfl, hca, ha⟩ := h
  obtain ⟨len, hl⟩ : ∃ len, xs.length = len := ⟨_, rfl⟩
  rw [castL_length, hl] at hca ha
  rw [castL_length, hl]
  rw [hl] at hlen
  have HX := Lib.hid hx
  have HA := Lib.hid ha
  have HL := Lib.hid hl
  clear hx ha hl
  have H0 : Hid (RBytesAt xs 0 0 w (.slice none 0 0) w) := Lib.hid ⟨World.ownsRow_nil _ _ _ _, Below.refl _ _⟩
  go_enter Tryd.func45, Tryd.ntmps45
  go_wp2_with fail
  go_loopw [3, 4] (fun v i wr => ∃ k : Nat, k ≤ len ∧ i = .int .i64 k ∧ Hid (RBytesAt xs k 0 w v wr)) (fun _ i _ => len - (intOf i).toNat)
  case atStart => exact ⟨0, by omega, rfl, H0⟩
  case round =>
    obtain ⟨k, hk, rfl, HB⟩ := hrel
    by_cases hlt : k < len
    · have hlt' : (k : Int) < (len : Int) := by omega
      have hk0 : (0 : Int) ≤ (k : Int) := by omega
      obtain ⟨b, off, rfl, hblt, hcells⟩ := HA.out.resolve_left (by intro h; have := HL.out; rw [← castL_length, h] at this; simp at this; omega)
      have hc := hcells k hlt
      rw [castL_getD] at hc
      have hX := HX.out k
      have hc' : wr.cell? ⟨b, off + k, none⟩ = some (.int .u64 (xs.getD k 0 : Nat)) := (HB.out.2.cell (p := ⟨b, off + k, none⟩) hblt).trans hc
      obtain ⟨X, hXe⟩ : ∃ X, xs.getD k 0 = X := ⟨_, rfl⟩
      rw [hXe] at hX hc'
      have HE := Lib.hid hXe
      clear hXe hc hcells
      obtain ⟨wo, rfl⟩ : ∃ wo : World, wo = wr := ⟨_, rfl⟩
      go_wp2_with fail
      go_loopw [3, 5, 6] (fun v x i wr => ∃ j Y : Nat, j ≤ 8 ∧ Y ≤ X ∧ Hid (Y = X / 256 ^ j) ∧ i = .int .i64 j ∧ x = .int .u64 Y ∧ Hid (RBytesAt xs k j w v wr)) (fun _ _ i _ => 8 - (intOf i).toNat)
      case atStart => exact ⟨0, X, by omega, by omega, Lib.hid (by simp), rfl, rfl, HB⟩
      case round =>
        obtain ⟨j, Y, hj, hYX, HY, rfl, rfl, HI⟩ := hrel
        by_cases hjt : j < 8
        · have hsz : w.heap.size ≤ wr.heap.size := HI.out.2.size
          have hY64 : (Y : Int) ≤ 18446744073709551615 := by omega
          have hm0 : (j : Int) < 8 := by omega
          go_wp2_with (at_builtin; refine wpList_append_own _ rfl (.tmp 21) (.tmp 25) 65 rfl w.heap.size 5 i0 (.int .u8 0) 1 1 Tryd.underlying65 hi hz0 hz1 hz2 rfl (by decide) _ _ _ rfl (HI.out.1.alloc _) ⟨wr.heap.size, 0, none⟩ 1 1 [.int .u8 ((Y % 256 : Nat) : Int)] rfl rfl (cell_new1 _ _ _) (by intro u hu; simp at hu; subst hu; rfl) (by unfold maxLen; omega) (by omega) (by simp; omega) ?_)
          intro v' w1 hown' hgrow _
          have HN : Hid (RBytesAt xs k (j + 1) w v' w1) := by
            refine Lib.hid ⟨?_, (HI.out.2.alloc hsz _).grown hgrow (by simp; omega) (fun b hb => (HI.out.1.lt b hb).1)⟩
            rw [partN_byte, HE.out, ← byte_mod Y X j HY.out, castL_append, List.map_append]
            exact hown'
          have HD := Lib.hid (byte_div Y X j HY.out)
          clear hown' hgrow
          go_wp2_with fail
          go_roundw
          case rel => exact ⟨j + 1, Y / 256, by omega, by omega, HD, by go_num, by go_num, HN⟩
          case measure => simp [intOf]; omega
        · have hm0 : ¬ (j : Int) < 8 := by omega
          have hlen' : k < xs.length := by rw [HL.out]; exact hlt
          have HN : Hid (RBytesAt xs (k + 1) 0 w u3 wr) := by
            have h8 : j = 8 := by omega
            have := HI.out
            rw [h8] at this
            unfold RBytesAt at this ⊢
            rw [partN_word xs k hlen'] at this
            exact Lib.hid this
          clear HI
          go_wp2_with fail
          go_roundw
          case rel => exact ⟨k + 1, by omega, by go_num, HN⟩
          case measure => simp [intOf]; omega
    · have hlt' : ¬ (k : Int) < (len : Int) := by omega
      have hfin : ∃ v', u3 = v' ∧ IsInts .u8 wr v' (castL (bytesN xs)) ∧ Below w.heap.size w wr := by
        obtain ⟨h1, h2⟩ := HB.out
        rw [show k = xs.length by rw [HL.out]; omega, partN_end] at h1
        exact ⟨u3, rfl, .of_own h1, h2⟩
      have HF := Lib.hid hfin
      clear hfin
      go_wp2_with fail
      go_ret
      obtain ⟨v', rfl, hF⟩ := HF.out
      exact ⟨u3, rfl, hF⟩

end Go.Proofs.YtdhakfkcenfdoaaDoor
