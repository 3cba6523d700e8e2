/- runs: shortest. -/
import Derived.Test.YtkejpdkokaiidaaIdxGive
namespace Go.Proofs.Ytkejpdkokaiidaa
open Go.ChangeShapes Go.WideShapes Go.ChangeAt Go.RowKit Bk Rn
set_option linter.unusedVariables false

/-- The best so far, as a span. -/
def bestP (l : List (Int × Int)) (n : Int) (q : Nat) : Int × Int := if 0 ≤ bestTo l n q then l.getD (bestTo l n q).toNat (0, 0) else (0, 0)
def betterP (l : List (Int × Int)) (n : Int) (q : Nat) : Prop := n ≤ (l.getD q (0, 0)).2 ∧ (bestTo l n q < 0 ∨ (l.getD q (0, 0)).2 < (bestP l n q).2)
theorem best_yes {l : List (Int × Int)} {n : Int} {q : Nat} (h : betterP l n q) : bestTo l n (q + 1) = q ∧ bestP l n (q + 1) = l.getD q (0, 0) := by
  have e : bestTo l n (q + 1) = q := by
    unfold bestTo
    refine if_pos ⟨h.1, ?_⟩
    rcases h.2 with h2 | h2
    · exact .inl h2
    · by_cases c : bestTo l n q < 0
      · exact .inl c
      · right
        unfold bestP at h2
        rwa [if_pos (by omega)] at h2
  refine ⟨e, ?_⟩
  unfold bestP
  rw [e, if_pos (by omega), Int.toNat_natCast]
theorem best_no {l : List (Int × Int)} {n : Int} {q : Nat} (h : ¬ betterP l n q) : bestTo l n (q + 1) = bestTo l n q ∧ bestP l n (q + 1) = bestP l n q := by
  have e : bestTo l n (q + 1) = bestTo l n q := by
    conv => lhs; unfold bestTo
    rw [if_neg]
    rintro ⟨h1, h2⟩
    refine h ⟨h1, ?_⟩
    by_cases c : bestTo l n q < 0
    · exact .inl c
    · right
      unfold bestP
      rw [if_pos (by omega)]
      exact h2.resolve_left c
  refine ⟨e, ?_⟩
  unfold bestP
  rw [e]

def ShortIs (l : List (Int × Int)) (n : Int) (w : World) (e : Ending) (w' : World) : Prop :=
  Below w.heap.size w w' ∧ e = .returned (.tuple #[.agg #[.int .i64 (bestP l n l.length).1, .int .i64 (bestP l n l.length).2], .bool (decide (0 ≤ bestTo l n l.length))])

theorem IsSps.keep {w w' : World} {S : Nat → Prop} {v : Value} {l : List (Int × Int)} (h : IsSps w v l) (hk : Keep S w w') (hS : ∀ b off n c, v = .slice (some ⟨b, off, none⟩) n c → ¬ S b) : IsSps w' v l := by
  obtain ⟨a, cap, rfl, hc, h⟩ := h
  refine ⟨a, cap, rfl, hc, h.imp id ?_⟩
  rintro ⟨b, off, rfl, hb, hcell⟩
  have hn := hS b off _ _ rfl
  exact ⟨b, off, rfl, Nat.lt_of_lt_of_le hb hk.size, fun i hi => ⟨(hk.cell hb hn).trans (hcell i hi).1, (hk.cell hb hn).trans (hcell i hi).2⟩⟩

/-- The walk of shortest, some way on. -/
structure ShAt (w w3 : World) (l : List (Int × Int)) (n : Int) (q : Nat) (v : Value) (wr : World) : Prop where
  k : Keep (fun b => b = w.heap.size + 1) w3 wr
  r : BoxT 38 wr w.heap.size #[.int .i64 0, .int .i64 0]
  b : BoxT 38 wr (w.heap.size + 1) #[.int .i64 (bestP l n q).1, .int .i64 (bestP l n q).2]
  l : IsSps wr v l
  w : Below w.heap.size w wr

section
variable {w w3 wr : World} {l : List (Int × Int)} {n : Int} {q : Nat} {v : Value}
theorem ShAt.alloc (h : ShAt w w3 l n q v wr) (o : Obj) : ShAt w w3 l n q v (wr.alloc o) :=
  ⟨h.k.alloc o, h.r.alloc o, h.b.alloc o, h.l.below ((Below.refl _ _).alloc (Nat.le_refl _) o) (Nat.le_refl _), h.w.alloc h.w.size o⟩
theorem ShAt.no (h : ShAt w w3 l n q v wr) (hb : ¬ betterP l n q) : ShAt w w3 l n (q + 1) v wr :=
  ⟨h.k, h.r, by rw [(best_no hb).2]; exact h.b, h.l, h.w⟩
theorem ShAt.yes (h : ShAt w w3 l n q v wr) (hb : betterP l n q) {x y : Int} (e : l.getD q (0, 0) = (x, y)) (hv : ∀ b off k c, v = .slice (some ⟨b, off, none⟩) k c → w.heap.size + 2 ≤ b) :
    ShAt w w3 l n (q + 1) v (wr.setRow (w.heap.size + 1) #[.int .i64 x, .int .i64 y]) := by
  have hk : Keep (fun b => b = w.heap.size + 1) wr (wr.setRow (w.heap.size + 1) #[.int .i64 x, .int .i64 y]) := Keep.setRow (S := fun b => b = w.heap.size + 1) (g := w.heap.size + 1) (Keep.refl _ _) (fun _ => rfl) _
  refine ⟨h.k.trans' hk, h.r.keep hk (by omega), ?_, h.l.keep hk (fun b off k c e => by have := hv b off k c e; omega), below_setRow h.w (by omega) _⟩
  rw [(best_yes hb).2, e]
  exact h.b.row _
end

set_option maxRecDepth 100000 in
set_option maxHeartbeats 2000000 in
theorem idxShortest_any {w : World} {x : Nat} {own : Nat → Prop} {lim : Int} {f : Nat → Bool} (h : Ix w x own lim f) (h2 : lim ≤ 1000) (n : Int) (hn1 : -9223372036854775808 ≤ n) (hn2 : n ≤ 9223372036854775807) :
    Calls Try.prog 27 #[.pointer (some ⟨x, 0, none⟩), .int .i64 n] w (ShortIs (runsTo f lim.toNat) n w) := by
  have hIA : Ix ((w.alloc (.cells #[.int .i64 0, .int .i64 0] 38)).alloc (.cells #[.int .i64 0, .int .i64 0] 38)) x own lim f := h.keep (S := fun _ => False) (((Keep.refl _ _).alloc _).alloc _) (fun _ _ _ h => h)
  have HC := Lib.hid (idxList_any hIA h2)
  have HLE := Lib.hid (runsTo_len f lim.toNat)
  obtain ⟨M, hM⟩ : ∃ M, (runsTo f lim.toNat).length = M := ⟨_, rfl⟩
  have HL := Lib.hid hM
  have hM2 : M ≤ 1000 := by have := runsTo_len f lim.toNat; omega
  clear h hM hIA
  go_enter Try.func27, Try.ntmps27
  go_wp2_with fail
  refine HC.out.mono ?_
  rintro e w3 ⟨v, rfl, hsp, hnew, hb3⟩
  obtain ⟨a, cap, hv, hcap, hc⟩ := id hsp
  rw [HL.out] at hv hcap
  subst hv
  obtain ⟨B1, B2, B3, B4⟩ := boxT_of2 hb3
  have HS0 : Hid (ShAt w w3 (runsTo f lim.toNat) n 0 (.slice a M cap) w3) := Lib.hid ⟨Keep.refl _ _, B1, B2, hsp, B3⟩
  have HNEW : Hid (∀ b off k c, Value.slice a M cap = .slice (some ⟨b, off, none⟩) k c → runsTo f lim.toNat = [] ∨ w.heap.size + 2 ≤ b) := Lib.hid (fun b off k c e => by
    rcases hnew with h | ⟨b', off', n', c', e', hb'⟩
    · exact .inl h
    · right
      rw [e'] at e
      injection e with e _ _
      injection e with e
      injection e with e _ _
      subst e
      simp at hb'
      omega)
  clear hsp hnew hb3 hc B1 B2 B3
  go_wp2_with fail
  go_loopw [7, 9, 13] (fun fd _ i wr => ∃ q : Nat, q ≤ M ∧ i = .int .i64 q ∧ fd = .bool (decide (0 ≤ bestTo (runsTo f lim.toNat) n q)) ∧ Hid (ShAt w w3 (runsTo f lim.toNat) n q (.slice a M cap) wr)) (fun _ _ i _ => M - (intOf i).toNat)
  case atStart => exact ⟨0, by omega, rfl, rfl, HS0⟩
  case round =>
    obtain ⟨q, hq, rfl, rfl, HR⟩ := hrel
    by_cases hlt : q < M
    · have hlt' : (q : Int) < (M : Int) := by omega
      have hq0 : (0 : Int) ≤ (q : Int) := by omega
      obtain ⟨a', cap', e', hc', hcell⟩ := HR.out.l
      injection e' with e1 e2 e3
      subst e1 e3
      clear e2 hc'
      obtain ⟨b, off, rfl, hb, hcell⟩ := hcell.resolve_left (fun h => by have := HL.out; rw [h] at this; simp at this; omega)
      have hnil : runsTo f lim.toNat ≠ [] := fun h => by have := HL.out; rw [h] at this; simp at this; omega
      have hb2 : w.heap.size + 2 ≤ b := (HNEW.out b off M cap rfl).resolve_left hnil
      have HNE : Hid (∀ b' off' k' c', Value.slice (some ⟨b, off, none⟩) M cap = .slice (some ⟨b', off', none⟩) k' c' → w.heap.size + 2 ≤ b') := Lib.hid (fun b' off' k' c' e => by
        injection e with e _ _
        injection e with e
        injection e with e _ _
        omega)
      obtain ⟨s, k, hsk, hrun⟩ := runs_get (f := f) (b := lim.toNat) (i := q) (by rw [HL.out]; exact hlt)
      obtain ⟨d0, d1⟩ := hcell q (by rw [HL.out]; exact hlt)
      rw [hsk] at d0 d1
      have HSK := Lib.hid hsk
      have hkl := hrun.le
      have HRA : Hid (ShAt w w3 (runsTo f lim.toNat) n q (.slice (some ⟨b, off, none⟩) M cap) (wr.alloc (.cells #[.int .i64 s, .int .i64 k] 38))) := Lib.hid (HR.out.alloc _)
      have hbst : (wr.alloc (.cells #[.int .i64 s, .int .i64 k] 38)).cell? ⟨w.heap.size + 1, 1, none⟩ = some (.int .i64 (bestP (runsTo f lim.toNat) n q).2) := HRA.out.b.cell 1
      have HY : Hid (betterP (runsTo f lim.toNat) n q → ShAt w w3 (runsTo f lim.toNat) n (q + 1) (.slice (some ⟨b, off, none⟩) M cap) ((wr.alloc (.cells #[.int .i64 s, .int .i64 k] 38)).setRow (w.heap.size + 1) #[.int .i64 s, .int .i64 k]) ∧ decide (0 ≤ bestTo (runsTo f lim.toNat) n (q + 1)) = true) :=
        Lib.hid fun h => ⟨HRA.out.yes h HSK.out HNE.out, by rw [(best_yes h).1]; exact decide_eq_true (by omega)⟩
      have HN : Hid (¬ betterP (runsTo f lim.toNat) n q → ShAt w w3 (runsTo f lim.toNat) n (q + 1) (.slice (some ⟨b, off, none⟩) M cap) (wr.alloc (.cells #[.int .i64 s, .int .i64 k] 38)) ∧ bestTo (runsTo f lim.toNat) n (q + 1) = bestTo (runsTo f lim.toNat) n q) :=
        Lib.hid fun h => ⟨HRA.out.no h, (best_no h).1⟩
      have HBT : Hid (betterP (runsTo f lim.toNat) n q ↔ n ≤ (k : Int) ∧ (bestTo (runsTo f lim.toNat) n q < 0 ∨ (k : Int) < (bestP (runsTo f lim.toNat) n q).2)) := Lib.hid (by unfold betterP; rw [HSK.out])
      have HB6 := Lib.hid HRA.out.b
      generalize hbp : (bestP (runsTo f lim.toNat) n q).2 = bp at *
      generalize hbt : bestTo (runsTo f lim.toNat) n q = bt at *
      have HP := Lib.hid hbp
      have HT := Lib.hid hbt
      clear hcell hsk hrun hbp hbt hnil
      by_cases c1 : n ≤ (k : Int)
      rotate_left
      · obtain ⟨hA, hB⟩ := HN.out (fun h => c1 (HBT.out.1 h).1)
        have HA := Lib.hid hA
        have HBB := Lib.hid hB
        clear hA hB HY HN
        go_wp2_with fail
        go_roundw
        case rel => exact ⟨q + 1, by omega, by go_num, by rw [HBB.out], HA⟩
        case measure => simp [intOf]; omega
      by_cases c2 : 0 ≤ bt
      · by_cases c3 : (k : Int) < bp
        · obtain ⟨hA, hB⟩ := HY.out (HBT.out.2 ⟨c1, .inr c3⟩)
          have HA := Lib.hid hA
          have HBB := Lib.hid hB
          clear hA hB HY HN
          have hd : decide (0 ≤ bt) = true := decide_eq_true c2
          rw [hd]
          go_wp2_with ((show wpList _ _ _ ((Oper.mk _ (Op.store _ (.tmp 6) _) _ _ _ _) :: _) _ _); refine wpList_store_boxT rfl _ _ _ rfl (b := w.heap.size + 1) (cells := #[.int .i64 s, .int .i64 k]) rfl rfl HB6.out infoIx (ixSz _ _ _ _) (ixOne _ _) ?_)
          go_roundw
          case rel => first | exact ⟨q + 1, by omega, by go_num, by rw [HBB.out], HA⟩ | ((repeat apply Exists.intro); exact ⟨⟨q + 1, by omega, by go_num, by rw [HBB.out], HA⟩, rfl⟩)
          case measure => simp [intOf]; omega
        · obtain ⟨hA, hB⟩ := HN.out (fun h => by have := (HBT.out.1 h).2; omega)
          have HA := Lib.hid hA
          have HBB := Lib.hid hB
          clear hA hB HY HN
          have hd : decide (0 ≤ bt) = true := decide_eq_true c2
          rw [hd]
          go_wp2_with fail
          go_roundw
          case rel => exact ⟨q + 1, by omega, by go_num, by rw [HBB.out, decide_eq_true c2], HA⟩
          case measure => simp [intOf]; omega
      · obtain ⟨hA, hB⟩ := HY.out (HBT.out.2 ⟨c1, .inl (by omega)⟩)
        have HA := Lib.hid hA
        have HBB := Lib.hid hB
        clear hA hB HY HN
        have hd : decide (0 ≤ bt) = false := decide_eq_false c2
        rw [hd]
        go_wp2_with ((show wpList _ _ _ ((Oper.mk _ (Op.store _ (.tmp 6) _) _ _ _ _) :: _) _ _); refine wpList_store_boxT rfl _ _ _ rfl (b := w.heap.size + 1) (cells := #[.int .i64 s, .int .i64 k]) rfl rfl HB6.out infoIx (ixSz _ _ _ _) (ixOne _ _) ?_)
        go_roundw
        case rel => first | exact ⟨q + 1, by omega, by go_num, by rw [HBB.out], HA⟩ | ((repeat apply Exists.intro); exact ⟨⟨q + 1, by omega, by go_num, by rw [HBB.out], HA⟩, rfl⟩)
        case measure => simp [intOf]; omega
    · obtain rfl : q = M := by omega
      have HBX := Lib.hid HR.out.b
      have HBR := Lib.hid HR.out.r
      go_wp2_with (first
        | ((show wpList _ _ _ ((Oper.mk _ (Op.load _ (.tmp 6)) _ _ _ _) :: _) _ _); refine wpList_load_boxT rfl _ _ rfl (b := w.heap.size + 1) (cells := #[.int .i64 (bestP (runsTo f lim.toNat) n q).1, .int .i64 (bestP (runsTo f lim.toNat) n q).2]) rfl HBX.out Try.underlying38 rfl infoIx ?_)
        | ((show wpList _ _ _ ((Oper.mk _ (Op.store _ (.tmp 4) _) _ _ _ _) :: _) _ _); refine wpList_store_boxT rfl _ _ _ rfl (b := w.heap.size) (cells := #[.int .i64 (bestP (runsTo f lim.toNat) n q).1, .int .i64 (bestP (runsTo f lim.toNat) n q).2]) rfl rfl HBR.out infoIx (ixSz _ _ _ _) (ixOne _ _) ?_))
      exact bodyPost_ret (results_boxT2 rfl _ _ (w.heap.size) #[.int .i64 (bestP (runsTo f lim.toNat) n q).1, .int .i64 (bestP (runsTo f lim.toNat) n q).2] (.bool (decide (0 ≤ bestTo (runsTo f lim.toNat) n q))) rfl (HBR.out.row _) Try.underlying38 rfl infoIx rfl) rfl ⟨below_setRow HR.out.w (Nat.le_refl _) _, by rw [HL.out]⟩

end Go.Proofs.Ytkejpdkokaiidaa
