/- bits.Words: the words of bytes, noughts behind. -/
import Derived.Test.YtggbhjhnhgkiiaaSl
import Derived.Test.YtggbhjhnhgkiiaaByteMath
import Derived.Test.YtggbhjhnhgkiiaaUpB
import Derived.Laws.OwnMore
import Derived.RegionTactic
import Derived.ChangeAlike
namespace Go.Proofs.Ytggbhjhnhgkiiaa
open Go.ChangeShapes Go.WideShapes Go.ChangeAt Go.RowKit Bt
set_option linter.unusedVariables false

/-- What the loop holds: the words that the first i bytes give. -/
def WordsAt (ds : List Nat) (i m : Nat) (w wr : World) : Prop :=
  wr.ownsRow w.heap.size 22 1 (.slice (some ⟨w.heap.size, 0, none⟩) m m) m ((castL (wordsN (ds.take i) m)).map (Value.int .u64)) ∧ Below w.heap.size w wr

theorem up_eight (n : Nat) : upS n 8 = (upN n : Nat) := by unfold upS upN; split <;> omega

theorem castL_get? (l : List Nat) (i : Nat) : (castL l)[i]? = l[i]?.map fun (n : Nat) => (n : Int) := by simp [castL]
theorem castL_set (l : List Nat) (i v : Nat) : castL (l.set i v) = (castL l).set i (v : Int) := by simp [castL, List.map_set]
theorem words_start (ds : List Nat) (m : Nat) : (castL (wordsN (ds.take 0) m)).map (Value.int .u64) = List.replicate m (Value.int .u64 0) := by
  apply List.ext_getElem?
  intro j
  rw [List.getElem?_map, castL_get?, List.getElem?_replicate]
  by_cases hj : j < m
  · rw [wordsN_get _ _ _ hj, if_pos hj, List.take_zero, wordN_nil]; rfl
  · rw [List.getElem?_eq_none (by rw [wordsN_length]; omega), if_neg hj]; rfl
theorem or_word (V D c : Nat) (hV : V < 256 ^ c) (hD : D < 256) (hc : c < 8) : bits .or .u64 (V : Int) (IntKind.u64.wrap ((D : Int) * 2 ^ (c * 8))) = ((V + D * 256 ^ c : Nat) : Int) := by
  have e1 : 256 ^ c = 2 ^ (c * 8) := by rw [show 256 = 2 ^ 8 from rfl, ← Nat.pow_mul, Nat.mul_comm]
  rw [e1] at hV ⊢
  have hp : D * 2 ^ (c * 8) < 2 ^ 64 := by
    have h1 : D * 2 ^ (c * 8) < 2 ^ 8 * 2 ^ (c * 8) := Nat.mul_lt_mul_of_pos_right hD (two_pow_pos _)
    rw [← Nat.pow_add] at h1
    exact Nat.lt_of_lt_of_le h1 (Nat.pow_le_pow_right (by decide) (by omega))
  have hV64 : V < 2 ^ 64 := Nat.lt_of_lt_of_le hV (Nat.pow_le_pow_right (by decide) (by omega))
  rw [cast_pow, ← Int.natCast_mul, wrap_nat _ hp, or_nat _ _ hV64 hp, Nat.or_comm, nat_join (c * 8) _ _ (Nat.mul_mod_left _ _) hV, Nat.add_comm]

set_option maxHeartbeats 1000000 in
theorem words_any (va : Value) (ds : List Nat) (w : World) (h : IsInts .u8 w va (castL ds)) (hx : ∀ p, ds.getD p 0 < 256) (hlen : ds.length ≤ 1000000000) :
    Calls Try.prog 24 #[va] w (MadeInts .u64 (castL (wordsN ds (upN ds.length))) w) := by
  obtain ⟨i0, hi, hz0, hz1, hz2⟩ := info_parts infoU64
  obtain ⟨a, ca, rfl, hca, ha⟩ := h
  obtain ⟨len, hl⟩ : ∃ len, ds.length = len := ⟨_, rfl⟩
  rw [castL_length, hl] at hca ha
  rw [castL_length, hl]
  rw [hl] at hlen
  obtain ⟨m, hm⟩ : ∃ m, upN len = m := ⟨_, rfl⟩
  have hm8 : len ≤ 8 * m := by unfold upN at hm; omega
  have hm9 : m ≤ len := by unfold upN at hm; omega
  rw [hm]
  have hu := up_eight len
  rw [hm] at hu
  have HU := Lib.hid hu
  have HX := Lib.hid hx
  have HA := Lib.hid ha
  have HL := Lib.hid hl
  clear hx ha hl hu hm
  go_enter Try.func24, Try.ntmps24
  go_wp2_with fail
  refine (up_any _ 8 _ (by omega) (by omega)).mono ?_
  rintro e w' ⟨rfl, rfl⟩
  rw [HU.out]
  go_wp2_with (at_make; go_loud (refine wpList_make_full _ rfl _ _ 36 rfl w.heap.size 22 i0 (.int .u64 0) 1 Try.underlying36 hi hz0 hz1 _ _ _ _ m rfl rfl rfl rfl ?b2 ?b3 (Nat.le_refl _) ?_))
  case b2 => rw [hz2]; omega
  case b3 => unfold maxLen; omega
  intro w0 hown0 hgrow0
  have hb0 : Below w.heap.size w w0 := (Below.refl _ _).grown hgrow0 (Nat.le_refl _) (fun k h => by cases h)
  have H0 : Hid (WordsAt ds 0 m w w0) := by
    refine Lib.hid ⟨?_, hb0⟩
    rw [words_start, ← toList_madeCells_one]
    simpa [Value.cells] using hown0
  clear hown0 hgrow0 hb0
  go_wp2_with fail
  go_loopw [12] (fun i wr => ∃ k : Nat, k ≤ len ∧ i = .int .i64 k ∧ Hid (WordsAt ds k m w wr)) (fun i _ => len - (intOf i).toNat)
  case atStart => exact ⟨0, by omega, rfl, H0⟩
  case round =>
    obtain ⟨k, hk, rfl, HB⟩ := hrel
    by_cases hlt : k < len
    · have hlt' : (k : Int) < (len : Int) := by omega
      have hk0 : (0 : Int) ≤ (k : Int) := by omega
      obtain ⟨b, off, rfl, hblt, hcells⟩ := HA.out.resolve_left (by intro h; have := HL.out; rw [← castL_length, h] at this; simp at this; omega)
      have hc := hcells k hlt
      rw [castL_getD] at hc
      have hD := HX.out k
      have hc' : wr.cell? ⟨b, off + k, none⟩ = some (.int .u8 (ds.getD k 0 : Nat)) := (HB.out.2.cell (p := ⟨b, off + k, none⟩) hblt).trans hc
      obtain ⟨D, hDe⟩ : ∃ D, ds.getD k 0 = D := ⟨_, rfl⟩
      rw [hDe] at hD hc'
      have HE := Lib.hid hDe
      clear hDe hc hcells
      have hq : k / 8 < m := by omega
      have hw : wr.cell? ⟨w.heap.size, k / 8, none⟩ = some (.int .u64 (wordN (ds.take k) (k / 8) : Nat)) := by
        rw [HB.out.1.cellAt (k / 8) (by omega), List.getElem?_map, castL_get?, wordsN_get _ _ _ hq]; rfl
      have hf : wr.frozen? ⟨w.heap.size, k / 8, none⟩ = false := HB.out.1.frozenAt (k / 8)
      obtain ⟨V, hV⟩ : ∃ V, wordN (ds.take k) (k / 8) = V := ⟨_, rfl⟩
      rw [hV] at hw
      have HO := Lib.hid (or_word V D (k % 8) (by rw [← hV]; exact wordN_low ds k HX.out) hD (by omega))
      have HV := Lib.hid hV
      clear hV
      have hq0 : (0 : Int) ≤ (k : Int) / 8 := by omega
      have hq1 : (k : Int) / 8 < (m : Int) := by omega
      go_wp2_with fail
      go_region
      all_goals go_wp2_with fail
      rw [HO.out]
      have HN : Hid (WordsAt ds (k + 1) m w ((wr.setCell ⟨w.heap.size, k / 8, none⟩ (.int .u64 ((V + D * 256 ^ (k % 8) : Nat) : Int))).drew)) := by
        obtain ⟨h1, h2⟩ := HB.out
        refine Lib.hid ⟨?_, (h2.setCell (Nat.le_refl _) _).drew⟩
        have h3 := (h1.stored (k / 8) (.int .u64 ((V + D * 256 ^ (k % 8) : Nat) : Int))).1
        have e := wordsN_step ds k m (by omega)
        rw [HV.out, HE.out] at e
        rw [← e, castL_set, List.map_set]
        exact h3.drew
      refine ⟨⟨k + 1, by omega, by go_num, HN⟩, ?_⟩
      simp [intOf]; omega
    · have hlt' : ¬ (k : Int) < (len : Int) := by omega
      have hfin : MadeInts .u64 (castL (wordsN ds m)) w (.returned (.slice (some ⟨w.heap.size, 0, none⟩) m m)) wr := by
        obtain ⟨h1, h2⟩ := HB.out
        rw [show ds.take k = ds by rw [List.take_of_length_le]; rw [HL.out]; omega] at h1
        exact ⟨_, rfl, .of_own h1, h2⟩
      have HF := Lib.hid hfin
      clear hfin
      go_wp2_with fail
      go_ret
      exact HF.out

end Go.Proofs.Ytggbhjhnhgkiiaa
