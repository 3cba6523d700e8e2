/- The laws' played: calls at an index, and at the reference's truths. -/
import Derived.Test.YtkejpdkokaiidaaShows
import Derived.Deep.RegionHeld3
import Derived.Deep.DeepCutAuto
import Derived.Deep.RegionLaw
namespace Go.Proofs.Ytkejpdkokaiidaa
open Go.ChangeShapes Go.WideShapes Go.ChangeAt Go.RowKit Bk Rn
set_option linter.unusedVariables false

theorem madeBools_get {n k : Nat} (hk : k < n) : (madeCells (#[Value.bool false]) n)[k]? = some (.bool false) := by
  have hs : k < (madeCells (#[Value.bool false]) n).size := by simp [madeCells]; omega
  rw [Array.getElem?_eq_getElem hs]
  simp [madeCells, Nat.mod_one]
set_option maxRecDepth 100000 in
theorem make_bools (n : Nat) (hn : n ≤ 300000) : ∃ C : Array Value, (∀ w : World, Row (w.alloc (.cells C 4)) w.heap.size 4 n fun _ => .bool false) ∧
    ∀ w, (Instr.makeSlice 26 (.int .i64 n) (.int .i64 n)).run Try.prog w = .ok (.slice (some ⟨w.heap.size, 0, none⟩) n n) (w.alloc (.cells C 4)) := by
  obtain ⟨i, h1, h2, h3, h4⟩ := info_parts infoBl
  refine ⟨madeCells (#[Value.bool false]) n, fun w => Row.new w _ _ _ _ (by simp [madeCells]) (fun k hk => madeBools_get hk), fun w => ?_⟩
  have := run_make (P := Try.prog) w 26 4 i _ Try.underlying26 h1 h2 .i64 .i64 n n (by omega) (by omega) (by rw [h4]; omega) (by omega)
  rw [h3] at this
  simpa [Value.cells] using this
theorem row_bools {w : World} {b n : Nat} {f : Nat → Bool} {T : Nat → Prop} (h : Row w b 4 n fun k => .bool (f k)) (hT : T b) : BoolS w T (.slice (some ⟨b, 0, none⟩) n n) n f := by
  obtain ⟨cs, h1, h2, h3⟩ := h
  exact ⟨_, _, rfl, Nat.le_refl _, fun _ => ⟨b, rfl, hT, cs, h1, by omega, fun k hk => h3 k (by omega)⟩⟩

theorem begin_a {w w' : World} {x : Nat} {own : Nat → Prop} {lim : Int} {C : Array Value} (hC : ∀ w : World, Row (w.alloc (.cells C 4)) w.heap.size 4 lim.toNat fun _ => .bool false) (hx : Ix w' x own lim fun _ => false) (hb : Below w.heap.size w w') (ho : ∀ b, own b → w.heap.size ≤ b) :
    PlAt w x own lim (fun _ => false) (.slice (some ⟨w'.heap.size, 0, none⟩) lim.toNat lim.toNat) (w'.alloc (.cells C 4)) :=
  ⟨hb.alloc hb.size _, hx.below ((Below.refl _ _).alloc (Nat.le_refl _) _), ho, row_bools (f := fun _ => false) (hC w') fun h => by have := hx.lt _ h; omega⟩
theorem begin_b {w w1 w' : World} {x : Nat} {own : Nat → Prop} {lim : Int} {C : Array Value} (hC : ∀ w : World, Row (w.alloc (.cells C 4)) w.heap.size 4 lim.toNat fun _ => .bool false) (h1 : Below w.heap.size w w1) (hs : w1.heap.size = w.heap.size) (hx : Ix w' x own lim fun _ => false) (hb : Below (w1.alloc (.cells C 4)).heap.size (w1.alloc (.cells C 4)) w') (ho : ∀ b, own b → (w1.alloc (.cells C 4)).heap.size ≤ b) :
    PlAt w x own lim (fun _ => false) (.slice (some ⟨w.heap.size, 0, none⟩) lim.toNat lim.toNat) w' := by
  have e : (w1.alloc (.cells C 4)).heap.size = w.heap.size + 1 := by simp [hs]
  rw [e] at hb ho
  refine ⟨(h1.alloc (by omega) _).trans (hb.mono (by omega)), hx, fun b h => by have := ho b h; omega, row_bools (f := fun _ => false) ?_ fun h => by have := ho _ h; omega⟩
  have := hC w1
  rw [hs] at this
  exact Row.keep this (hb.block _ (by omega))

def PlayedIs (lim : Int) (w : World) (e : Ending) (w' : World) : Prop := ∃ x own f u, e = .returned (.tuple #[.pointer (some ⟨x, 0, none⟩), u, .bool true]) ∧ PlAt w x own lim f u w'

set_option maxRecDepth 100000 in
set_option maxHeartbeats 4000000 in
theorem played_any (lim : Int) (w : World) (h1 : -128 ≤ lim) (h2 : lim ≤ 127) (v : Value) (ls : List H3) (hv : IsHs w v ls)
    (hb : ∀ i, i < ls.length → (-9223372036854775808 ≤ (ls.getD i (0, 0, 0)).1 ∧ (ls.getD i (0, 0, 0)).1 ≤ 9223372036854775807) ∧ (-9223372036854775808 ≤ (ls.getD i (0, 0, 0)).2.1 ∧ (ls.getD i (0, 0, 0)).2.1 ≤ 9223372036854775807) ∧ (-9223372036854775808 ≤ (ls.getD i (0, 0, 0)).2.2 ∧ (ls.getD i (0, 0, 0)).2.2 ≤ 9223372036854775807)) :
    Calls Try.prog 7 #[.int .i64 lim, v] w (PlayedIs lim w) := by
  have HV := Lib.hid hv
  have HB := Lib.hid hb
  obtain ⟨a, cap, rfl, hcap, -⟩ := id hv
  obtain ⟨C, hC, hmk⟩ := make_bools lim.toNat (by omega)
  have NW := Lib.hid (fun W => idxNew_any lim W (by omega) (by omega))
  have hmk' : ∀ w, (Instr.makeSlice 26 (.int .i64 (if lim < 0 then 0 else lim)) (.int .i64 (if lim < 0 then 0 else lim))).run Try.prog w = .ok (.slice (some ⟨w.heap.size, 0, none⟩) lim.toNat lim.toNat) (w.alloc (.cells C 4)) := by
    intro w
    have := hmk w
    rwa [show ((lim.toNat : Nat) : Int) = if lim < 0 then 0 else lim by split <;> omega] at this
  have hmk2 : ∀ w, (Instr.makeSlice 26 (.int .i64 (max lim 0)) (.int .i64 (max lim 0))).run Try.prog w = .ok (.slice (some ⟨w.heap.size, 0, none⟩) lim.toNat lim.toNat) (w.alloc (.cells C 4)) := by
    intro w
    have := hmk w
    rwa [show ((lim.toNat : Nat) : Int) = max lim 0 by omega] at this
  have HC := Lib.hid hC
  clear hv hb hC hmk
  go_enter Try.func7, Try.ntmps7
  go_wp2_with fail
  go_cut [7, 8] (fun x7 x8 wx => ∃ x own, x7 = .pointer (some ⟨x, 0, none⟩) ∧ Hid (PlAt w x own lim (fun _ => false) x8 wx))
  case first =>
    by_cases hl : lim < 0
    case' pos => rw [if_pos hl] at hmk'
    case' neg => rw [if_neg hl] at hmk'
    all_goals
      go_region_held3 (fun w' => True)
        (trivial)
        (first
          | (go_at_call 16; refine (NW.out _).mono ?_; rintro e w' ⟨x, own, rfl, hx, hb1, ho⟩; have HX := Lib.hid (And.intro hx (And.intro hb1 ho)); clear hx hb1 ho))
      all_goals
        go_wp2_with fail
        go_meet
        refine ⟨x, own, rfl, Lib.hid ?_⟩
        first
          | exact begin_a HC.out HX.out.1 HX.out.2.1 HX.out.2.2
          | exact begin_a HC.out HX.out.1 (below_undrew HX.out.2.1) HX.out.2.2
          | exact begin_b HC.out (below_drewN (Below.refl _ _) 1) rfl HX.out.1 HX.out.2.1 HX.out.2.2
  case rest =>
    obtain ⟨x, own, rfl, HI⟩ := hcut
    clear hmk' hmk2 NW HC
    go_wp2_with fail
    obtain ⟨n, hn⟩ : ∃ n, ls.length = n := ⟨_, rfl⟩
    have HN := Lib.hid hn
    rw [hn] at HV HB hcap ⊢
    clear hn
    have hl1 : lim ≤ 1000 := by omega
    have hl0 : lim.toNat ≤ 1000 := by omega
    go_loopw [8, 9, 10, 11, 12, 13, 14, 15, 16, 17] (fun u i _ _ _ _ _ _ _ _ wr => ∃ (q : Nat) (own : Nat → Prop) (f : Nat → Bool), q ≤ n ∧ i = .int .i64 q ∧ Hid (PlAt w x own lim f u wr)) (fun _ i _ _ _ _ _ _ _ _ _ => n - (intOf i).toNat)
    case atStart => exact ⟨0, own, _, by omega, rfl, HI⟩
    case round =>
      obtain ⟨q, own, f, hq, rfl, HI⟩ := hrel
      obtain ⟨ua, uc, rfl, -⟩ := id HI.out.s
      by_cases hlt : q < n
      rotate_left
      · have hlt' : ¬ (q : Int) < (n : Int) := by omega
        clear hlt
        go_wp2_with fail
        exact bodyPost_ret (v := .tuple #[.pointer (some ⟨x, 0, none⟩), .slice ua lim.toNat uc, .bool true]) (by simp [results, Try.results7, go_sem]) rfl ⟨x, own, f, _, rfl, HI.out⟩
      have hlt' : (q : Int) < (n : Int) := by omega
      by_cases h100 : (q : Int) < 100
      rotate_left
      · go_wp2_with fail
        exact bodyPost_ret (v := .tuple #[.pointer (some ⟨x, 0, none⟩), .slice ua lim.toNat uc, .bool true]) (by simp [results, Try.results7, go_sem]) rfl ⟨x, own, f, _, rfl, HI.out⟩
      have hq0 : (0 : Int) ≤ (q : Int) := by omega
      obtain ⟨a', cap', ev, -, hcx⟩ := HV.out
      obtain ⟨lb, off, ha, hlb, hcell⟩ := hcx.resolve_left (fun h => by have := HN.out; rw [h] at this; simp at this; omega)
      subst ha
      obtain rfl : a = some ⟨lb, off, none⟩ := by cases ev; rfl
      obtain ⟨e0, e1, e2⟩ := hcell q (by rw [HN.out]; exact hlt)
      have d0 := (HI.out.b.cell (p := ⟨lb, off + q * 3, none⟩) hlb).trans e0
      have d1 := (HI.out.b.cell (p := ⟨lb, off + q * 3 + 1, none⟩) hlb).trans e1
      have d2 := (HI.out.b.cell (p := ⟨lb, off + q * 3 + 2, none⟩) hlb).trans e2
      obtain ⟨b0, b1, b2⟩ := HB.out q hlt
      clear hcell hcx e0 e1 e2 ev
      generalize ls.getD q (0, 0, 0) = z at *
      obtain ⟨k, A, M⟩ := z
      simp only at b0 b1 b2
      have HA := Lib.hid (And.intro b1 b2)
      clear b0 b1 b2
      have I1 : Hid (PlAt w x own lim f (.slice ua lim.toNat uc) (wr.alloc (.cells #[.int .i64 k, .int .i64 A, .int .i64 M] 49))) := Lib.hid (HI.out.step ((Below.refl _ _).alloc (Nat.le_refl _) _))
      have X1 : Hid (BoxT 49 (wr.alloc (.cells #[.int .i64 k, .int .i64 A, .int .i64 M] 49)) wr.heap.size #[.int .i64 k, .int .i64 A, .int .i64 M]) := Lib.hid (BoxT.new _ _ _)
      have NO : Hid (¬ own wr.heap.size) := Lib.hid fun h => by have := HI.out.ix.lt _ h; omega
      by_cases hk : k = 0
      · subst hk
        clear HI
        go_wp2_with fail
        generalize wr.alloc (.cells #[.int .i64 0, .int .i64 A, .int .i64 M] 49) = w1 at *
        generalize wr.heap.size = ob at *
        clear d0 d1 d2
        refine (refGive_any _ lim.toNat f w1 I1.out.s hl0 A M).mono ?_
        rintro e w2 ⟨u2, rfl, hs2, hb2⟩
        have S2 := Lib.hid (I1.out.new hs2)
        have I2 := Lib.hid (I1.out.step hb2)
        have X2 := Lib.hid (X1.out.below hb2 X1.out.lt)
        have c1 : w2.cell? ⟨ob, 1, none⟩ = some (.int .i64 A) := X2.out.cell 1
        have c2 : w2.cell? ⟨ob, 2, none⟩ = some (.int .i64 M) := X2.out.cell 2
        clear hs2 hb2 I1 X1
        obtain ⟨u2a, u2c, rfl, -⟩ := id S2.out
        go_wp2_with fail
        refine (idxGive_any I2.out.ix hl1 A M HA.out.1.1 HA.out.1.2 HA.out.2.1 HA.out.2.2).mono ?_
        rintro e w3 ⟨rfl, ht⟩
        obtain ⟨own3, h3, s3, o3, k3⟩ := I2.out.to ht S2.out
        have I3 : Hid (PlAt w x own3 lim (giveR f lim.toNat A M).1 (.slice u2a lim.toNat u2c) w3) := Lib.hid ⟨k3, h3, o3, s3⟩
        clear ht h3 s3 o3 k3 I2 S2 X2 c1 c2
        generalize giveR f lim.toNat A M = r at *
        obtain ⟨f3, code⟩ := r
        go_wp2_with fail
        refine (shows_any I3.out hl1).mono ?_
        rintro e w4 ⟨rfl, hb4⟩
        have I4 := Lib.hid (I3.out.step hb4)
        clear hb4 I3
        go_wp2_with fail
        go_roundw
        case rel => exact ⟨q + 1, own3, f3, by omega, by go_num, I4⟩
        case measure => simp [intOf]; omega
      · have hkb : (k == 0) = false := by simpa using hk
        clear HI hk
        go_wp2_with fail
        generalize wr.alloc (.cells #[.int .i64 k, .int .i64 A, .int .i64 M] 49) = w1 at *
        generalize wr.heap.size = ob at *
        clear d0 d1 d2
        refine (refTake_any _ lim.toNat f w1 I1.out.s hl0 A).mono ?_
        rintro e w2 ⟨u2, rfl, hs2, hb2⟩
        have S2 := Lib.hid (I1.out.new hs2)
        have I2 := Lib.hid (I1.out.step hb2)
        have X2 := Lib.hid (X1.out.below hb2 X1.out.lt)
        have c1 : w2.cell? ⟨ob, 1, none⟩ = some (.int .i64 A) := X2.out.cell 1
        clear hs2 hb2 I1 X1
        obtain ⟨u2a, u2c, rfl, -⟩ := id S2.out
        go_wp2_with fail
        refine (idxTake_any I2.out.ix hl1 A HA.out.1.1 HA.out.1.2).mono ?_
        rintro e w3 ⟨rfl, ht⟩
        obtain ⟨own3, h3, s3, o3, k3⟩ := I2.out.to ht S2.out
        have I3 : Hid (PlAt w x own3 lim (takeR f lim.toNat A).1 (.slice u2a lim.toNat u2c) w3) := Lib.hid ⟨k3, h3, o3, s3⟩
        clear ht h3 s3 o3 k3 I2 S2 X2 c1
        generalize takeR f lim.toNat A = r at *
        obtain ⟨f3, bb, code⟩ := r
        go_wp2_with fail
        refine (shows_any I3.out hl1).mono ?_
        rintro e w4 ⟨rfl, hb4⟩
        have I4 := Lib.hid (I3.out.step hb4)
        clear hb4 I3
        go_wp2_with fail
        go_roundw
        case rel => exact ⟨q + 1, own3, f3, by omega, by go_num, I4⟩
        case measure => simp [intOf]; omega

end Go.Proofs.Ytkejpdkokaiidaa
