/- bits.Bytes: all bytes of all words. -/
import Derived.Test.YtdhakfkcenfdoaaDoorSl
import Derived.Test.YtdhakfkcenfdoaaDoorByteMath
namespace Go.Proofs.YtdhakfkcenfdoaaDoor
open Go.ChangeShapes Go.WideShapes Go.ChangeAt Go.RowKit Bt
set_option linter.unusedVariables false

/-- What the loops hold: so many words and so many bytes of the next. -/
def BytesAt (xs : List Nat) (k j : Nat) (w : World) (v : Value) (wr : World) : Prop :=
  wr.ownsRow w.heap.size 5 1 v (8 * k + j) ((castL (partN xs k j)).map (Value.int .u8)) ∧ Below w.heap.size w wr

theorem shr_byte (X j : Nat) : IntKind.u8.wrap ((X : Int) / 2 ^ (8 * j)) = (byteN X j : Nat) := by
  rw [IntKind.wrap_u8', cast_pow]
  unfold byteN
  rw [Nat.pow_mul]; rfl

set_option maxHeartbeats 1000000 in
theorem bytes_any (va : Value) (xs : List Nat) (w : World) (h : IsInts .u64 w va (castL xs)) (hx : ∀ p, xs.getD p 0 < 2 ^ 64) (hlen : xs.length ≤ 1000000000) :
    Calls Tryd.prog 43 #[va] w (MadeInts .u8 (castL (bytesN xs)) w) := by
  obtain ⟨i0, hi, hz0, hz1, hz2⟩ := info_parts infoU8
  obtain ⟨a, ca, rfl, hca, ha⟩ := h
  obtain ⟨len, hl⟩ : ∃ len, xs.length = len := ⟨_, rfl⟩
  rw [castL_length, hl] at hca ha
  rw [castL_length, hl]
  rw [hl] at hlen
  have HX := Lib.hid hx
  have HA := Lib.hid ha
  have HL := Lib.hid hl
  clear hx ha hl
  go_enter Tryd.func43, Tryd.ntmps43
  go_wp2_with (at_make; go_loud (refine wpList_make_own _ rfl _ _ 65 rfl w.heap.size 5 i0 (.int .u8 0) 1 Tryd.underlying65 hi hz0 hz1 _ _ _ (len * 8) rfl rfl (by omega) ?b2 ?b3 (Nat.le_refl _) ?_))
  case b2 => rw [hz2]; omega
  case b3 => unfold maxLen; omega
  intro w0 hown0 hgrow0
  have hb0 : Below w.heap.size w w0 := (Below.refl _ _).grown hgrow0 (Nat.le_refl _) (fun k h => by cases h)
  have H0 : Hid (BytesAt xs 0 0 w (.slice (some ⟨w.heap.size, 0, none⟩) 0 (len * 8)) w0) := Lib.hid ⟨hown0, hb0⟩
  clear hown0 hgrow0 hb0
  go_wp2_with fail
  go_loopw [3, 13] (fun v i wr => ∃ k : Nat, k ≤ len ∧ i = .int .i64 k ∧ Hid (BytesAt xs k 0 w v wr)) (fun _ i _ => len - (intOf i).toNat)
  case atStart => exact ⟨0, by omega, rfl, H0⟩
  case round =>
    obtain ⟨k, hk, rfl, HB⟩ := hrel
    by_cases hlt : k < len
    · have hlt' : (k : Int) < (len : Int) := by omega
      have hk0 : (0 : Int) ≤ (k : Int) := by omega
      obtain ⟨b, off, rfl, hblt, hcells⟩ := HA.out.resolve_left (by intro h; have := HL.out; rw [← castL_length, h] at this; simp at this; omega)
      have hc := hcells k hlt
      rw [castL_getD] at hc
      have hX := HX.out k
      have hc' : wr.cell? ⟨b, off + k, none⟩ = some (.int .u64 (xs.getD k 0 : Nat)) := (HB.out.2.cell (p := ⟨b, off + k, none⟩) hblt).trans hc
      obtain ⟨X, hXe⟩ : ∃ X, xs.getD k 0 = X := ⟨_, rfl⟩
      rw [hXe] at hX hc'
      have HE := Lib.hid hXe
      clear hXe hc hcells
      obtain ⟨wo, rfl⟩ : ∃ wo : World, wo = wr := ⟨_, rfl⟩
      go_wp2_with fail
      go_loopw [3, 6] (fun v i wr => ∃ j m : Nat, j ≤ 8 ∧ m ≤ 64 ∧ Hid (m = 8 * j) ∧ i = .int .i64 m ∧ Hid (BytesAt xs k j w v wr)) (fun _ i _ => 64 - (intOf i).toNat)
      case atStart => exact ⟨0, 0, by omega, by omega, Lib.hid rfl, rfl, HB⟩
      case round =>
        obtain ⟨j, m, hj, hm64, HM, rfl, HI⟩ := hrel
        by_cases hjt : m < 64
        · have hj8 : j < 8 := by have := HM.out; omega
          have he : IntKind.u8.wrap ((X : Int) / 2 ^ m) = (byteN X j : Nat) := by rw [HM.out]; exact shr_byte X j
          generalize hY : byteN X j = Y at he
          have HY := Lib.hid hY
          clear hY
          have hm0 : (m : Int) < 64 := by omega
          have hsz : w.heap.size ≤ wr.heap.size := HI.out.2.size
          go_wp2_with (at_builtin; go_loud (refine wpList_append_own _ rfl (.tmp 21) (.tmp 26) 65 rfl w.heap.size 5 i0 (.int .u8 0) 1 1 Tryd.underlying65 hi hz0 hz1 hz2 rfl (by decide) _ _ _ rfl (HI.out.1.alloc _) ⟨wr.heap.size, 0, none⟩ 1 1 [.int .u8 Y] rfl rfl (cell_new1 _ _ _) (by intro u hu; simp at hu; subst hu; rfl) (by unfold maxLen; omega) (by omega) (by simp; omega) ?_))
          intro v' w1 hown' hgrow _
          have HN : Hid (BytesAt xs k (j + 1) w v' w1) := by
            refine Lib.hid ⟨?_, (HI.out.2.alloc hsz _).grown hgrow (by simp; omega) (fun b hb => (HI.out.1.lt b hb).1)⟩
            rw [partN_byte, HE.out, HY.out, castL_append, List.map_append]
            exact hown'
          clear hown' hgrow
          go_wp2_with fail
          go_roundw
          case rel => exact ⟨j + 1, m + 8, by omega, by have := HM.out; omega, Lib.hid (by have := HM.out; omega), by go_num, HN⟩
          case measure => simp [intOf]; omega
        · have hm0 : ¬ (m : Int) < 64 := by omega
          have hlen' : k < xs.length := by rw [HL.out]; exact hlt
          have HN : Hid (BytesAt xs (k + 1) 0 w u3 wr) := by
            have h8 : j = 8 := by have := HM.out; omega
            have := HI.out
            rw [h8] at this
            unfold BytesAt at this ⊢
            rw [partN_word xs k hlen'] at this
            exact Lib.hid this
          clear HM HI
          go_wp2_with fail
          go_roundw
          case rel => exact ⟨k + 1, by omega, by go_num, HN⟩
          case measure => simp [intOf]; omega
    · have hlt' : ¬ (k : Int) < (len : Int) := by omega
      have hfin : ∃ v', u3 = v' ∧ IsInts .u8 wr v' (castL (bytesN xs)) ∧ Below w.heap.size w wr := by
        obtain ⟨h1, h2⟩ := HB.out
        rw [show k = xs.length by rw [HL.out]; omega, partN_end] at h1
        exact ⟨u3, rfl, .of_own h1, h2⟩
      have HF := Lib.hid hfin
      clear hfin
      go_wp2_with fail
      go_ret
      obtain ⟨v', rfl, hF⟩ := HF.out
      exact ⟨u3, rfl, hF⟩

end Go.Proofs.YtdhakfkcenfdoaaDoor
