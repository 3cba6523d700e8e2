/- runs: Fill; all calls of an index of runs. -/
import Derived.Test.YtkejpdkokaiidaaRefTake
import Derived.Test.YtkejpdkokaiidaaIdxTake
namespace Go.Proofs.Ytkejpdkokaiidaa
open Go.ChangeShapes Go.WideShapes Go.ChangeAt Go.RowKit Bk Rn
set_option linter.unusedVariables false

/-- Spans given one by one, up to the first error. -/
def fillTo (N : Nat) (ls : List (Int × Int)) : Nat → (Nat → Bool) × Int
  | 0 => (fun _ => false, 0)
  | q + 1 => if (fillTo N ls q).2 = 0 then giveR (fillTo N ls q).1 N (ls.getD q (0, 0)).1 (ls.getD q (0, 0)).2 else fillTo N ls q
def FillIs (lim : Int) (r : (Nat → Bool) × Int) (w : World) (e : Ending) (w' : World) : Prop :=
  if r.2 = 0 then ∃ x own, e = .returned (.tuple #[.pointer (some ⟨x, 0, none⟩), .int .i64 0]) ∧ Ix w' x own lim r.1 ∧ Below w.heap.size w w' ∧ ∀ b, own b → w.heap.size ≤ b
  else e = .returned (.tuple #[.pointer none, .int .i64 r.2]) ∧ Below w.heap.size w w'

theorem fillTo_stay {N : Nat} {ls : List (Int × Int)} {q : Nat} (h : (fillTo N ls q).2 ≠ 0) : ∀ j, fillTo N ls (q + j) = fillTo N ls q
  | 0 => rfl
  | j + 1 => by
    have ih := fillTo_stay h j
    show (if (fillTo N ls (q + j)).2 = 0 then _ else fillTo N ls (q + j)) = _
    rw [ih, if_neg h]

/-- A filling, some way on. -/
structure FlAt (lim : Int) (ls : List (Int × Int)) (w : World) (x q : Nat) (own : Nat → Prop) (wr : World) : Prop where
  e : (fillTo lim.toNat ls q).2 = 0
  ix : Ix wr x own lim (fillTo lim.toNat ls q).1
  b : Below w.heap.size w wr
  o : ∀ b, own b → w.heap.size ≤ b

set_option maxRecDepth 100000 in
set_option maxHeartbeats 1000000 in
theorem idxFill_any (lim : Int) (w : World) (h1 : -1000 ≤ lim) (h2 : lim ≤ 1000) (v : Value) (ls : List (Int × Int)) (hv : IsSps w v ls) (hlen : ls.length ≤ 1000)
    (hb : ∀ i, i < ls.length → (-9223372036854775808 ≤ (ls.getD i (0, 0)).1 ∧ (ls.getD i (0, 0)).1 ≤ 9223372036854775807) ∧ (-9223372036854775808 ≤ (ls.getD i (0, 0)).2 ∧ (ls.getD i (0, 0)).2 ≤ 9223372036854775807)) :
    Calls Try.prog 9 #[.int .i64 lim, v] w (FillIs lim (fillTo lim.toNat ls ls.length) w) := by
  obtain ⟨a, cap, rfl, hcap, hc⟩ := hv
  have HC := Lib.hid hc
  have HB := Lib.hid hb
  obtain ⟨n, hn⟩ : ∃ n, ls.length = n := ⟨_, rfl⟩
  have HN := Lib.hid hn
  rw [hn] at hcap hlen ⊢
  clear hc hb hn
  go_enter Try.func9, Try.ntmps9
  go_wp2_with fail
  refine (idxNew_any lim w h1 h2).mono ?_
  rintro e w1 ⟨x, own, rfl, hix, hb1, ho1⟩
  have H0 : Hid (FlAt lim ls w x 0 own w1) := Lib.hid ⟨rfl, hix, hb1, ho1⟩
  clear hix hb1 ho1
  go_wp2_with fail
  go_loopw [8, 9, 14] (fun _ _ i wr => ∃ (q : Nat) (own : Nat → Prop), q ≤ n ∧ i = .int .i64 q ∧ Hid (FlAt lim ls w x q own wr)) (fun _ _ i _ => n - (intOf i).toNat)
  case atStart => exact ⟨0, own, by omega, rfl, H0⟩
  case round =>
    obtain ⟨q, ow, hq, rfl, HR⟩ := hrel
    by_cases hlt : q < n
    · have hlt' : (q : Int) < (n : Int) := by omega
      have hq0 : (0 : Int) ≤ (q : Int) := by omega
      obtain ⟨b, off, rfl, hbl, hcell⟩ := HC.out.resolve_left (fun h => by have := HN.out; rw [h] at this; simp at this; omega)
      obtain ⟨e0, e1⟩ := hcell q (by rw [HN.out]; exact hlt)
      have d0 := (HR.out.b.cell (p := ⟨b, off + q * 2, none⟩) hbl).trans e0
      have d1 := (HR.out.b.cell (p := ⟨b, off + q * 2 + 1, none⟩) hbl).trans e1
      obtain ⟨⟨y1, y2⟩, ⟨z1, z2⟩⟩ := HB.out q (by rw [HN.out]; exact hlt)
      have HST : Hid (fillTo lim.toNat ls (q + 1) = giveR (fillTo lim.toNat ls q).1 lim.toNat (ls.getD q (0, 0)).1 (ls.getD q (0, 0)).2) := Lib.hid (if_pos HR.out.e)
      generalize ls.getD q (0, 0) = z at *
      obtain ⟨s, k⟩ := z
      simp only at y1 y2 z1 z2 d0 d1
      have HIA := Lib.hid (HR.out.ix.keep (S := fun _ => False) ((Keep.refl _ _).alloc (.cells #[.int .i64 s, .int .i64 k] 38)) (fun _ _ _ h => h))
      have HBA := Lib.hid (HR.out.b.alloc HR.out.b.size (.cells #[.int .i64 s, .int .i64 k] 38))
      clear hcell e0 e1
      go_wp2_with fail
      refine (idxGive_any HIA.out h2 s k y1 y2 z1 z2).mono ?_
      rintro e w3 ⟨rfl, ow2, hix, hk, ho⟩
      have hb3 : Below w.heap.size w w3 := HBA.out.trans (hk.below HBA.out.size HR.out.o)
      have ho3 : ∀ b, ow2 b → w.heap.size ≤ b := fun b hb => (ho b hb).elim (HR.out.o b) (fun h => by have := HBA.out.size; omega)
      have HB3 := Lib.hid hb3
      by_cases hr : (giveR (fillTo lim.toNat ls q).1 lim.toNat s k).2 = 0
      · rw [hr]
        have HNX : Hid (FlAt lim ls w x (q + 1) ow2 w3) := Lib.hid ⟨by rw [HST.out]; exact hr, by rw [HST.out]; exact hix, hb3, ho3⟩
        clear hix hk ho hb3 ho3 hr d0 d1
        go_wp2_with fail
        go_roundw
        case rel => exact ⟨q + 1, ow2, by omega, by go_num, HNX⟩
        case measure => simp [intOf]; omega
      · have HE : Hid (fillTo lim.toNat ls n = giveR (fillTo lim.toNat ls q).1 lim.toNat s k) := Lib.hid (by
          have h := fillTo_stay (N := lim.toNat) (ls := ls) (q := q + 1) (by rw [HST.out]; exact hr) (n - (q + 1))
          rw [show q + 1 + (n - (q + 1)) = n by omega, HST.out] at h
          exact h)
        generalize hg : giveR (fillTo lim.toNat ls q).1 lim.toNat s k = G at *
        obtain ⟨g, r⟩ := G
        simp only at hr
        have hrb : (r != 0) = true := by simpa using hr
        have HG : Hid (r ≠ 0) := Lib.hid hr
        clear hix hk ho hb3 ho3 hr d0 d1 hg HST
        go_wp2_with fail
        go_ret2
        unfold FillIs
        rw [HE.out, if_neg HG.out]
        exact ⟨rfl, HB3.out⟩
    · obtain rfl : q = n := by omega
      go_wp2_with fail
      go_ret2
      unfold FillIs
      rw [if_pos HR.out.e]
      exact ⟨x, ow, rfl, HR.out.ix, HR.out.b, HR.out.o⟩

end Go.Proofs.Ytkejpdkokaiidaa
