/- Operations, played on a device and on the reference, one after the other. -/
import Derived.Test.YtnkndhmkamaccaaSame
import Derived.Test.YtnkndhmkamaccaaFew
import Derived.Test.YtnkndhmkamaccaaAwake03
namespace Go.Proofs.Ytnkndhmkamaccaa
open Go.ChangeShapes Go.WideShapes Go.ChangeAt Go.RowKit Nv
set_option linter.unusedVariables false

set_option maxHeartbeats 1000000 in
theorem Box.refill {w : World} {b : Nat} {a0 a1 a2 a3 a4 a5 a6 a7 : Value} (h : Box w b #[a0, a1, a2, a3, a4, a5, a6, a7]) (v0 v1 v2 v3 v4 v5 v6 v7 : Value) : Box ((((((((w.setCell ⟨b, 0, none⟩ (v0)).setCell ⟨b, 1, none⟩ (v1)).setCell ⟨b, 2, none⟩ (v2)).setCell ⟨b, 3, none⟩ (v3)).setCell ⟨b, 4, none⟩ (v4)).setCell ⟨b, 5, none⟩ (v5)).setCell ⟨b, 6, none⟩ (v6)).setCell ⟨b, 7, none⟩ (v7)) b #[v0, v1, v2, v3, v4, v5, v6, v7] ∧ Keep (fun x => x = b) w ((((((((w.setCell ⟨b, 0, none⟩ (v0)).setCell ⟨b, 1, none⟩ (v1)).setCell ⟨b, 2, none⟩ (v2)).setCell ⟨b, 3, none⟩ (v3)).setCell ⟨b, 4, none⟩ (v4)).setCell ⟨b, 5, none⟩ (v5)).setCell ⟨b, 6, none⟩ (v6)).setCell ⟨b, 7, none⟩ (v7)) := by
  have h0 : Box (w.setCell ⟨b, 0, none⟩ (v0)) b #[v0, a1, a2, a3, a4, a5, a6, a7] := by
    have e : (#[a0, a1, a2, a3, a4, a5, a6, a7] : Array Value).setIfInBounds 0 v0 = #[v0, a1, a2, a3, a4, a5, a6, a7] := by simp
    rw [← e]
    exact h.set 0 v0
  have h1 : Box ((w.setCell ⟨b, 0, none⟩ (v0)).setCell ⟨b, 1, none⟩ (v1)) b #[v0, v1, a2, a3, a4, a5, a6, a7] := by
    have e : (#[v0, a1, a2, a3, a4, a5, a6, a7] : Array Value).setIfInBounds 1 v1 = #[v0, v1, a2, a3, a4, a5, a6, a7] := by simp
    rw [← e]
    exact h0.set 1 v1
  have h2 : Box (((w.setCell ⟨b, 0, none⟩ (v0)).setCell ⟨b, 1, none⟩ (v1)).setCell ⟨b, 2, none⟩ (v2)) b #[v0, v1, v2, a3, a4, a5, a6, a7] := by
    have e : (#[v0, v1, a2, a3, a4, a5, a6, a7] : Array Value).setIfInBounds 2 v2 = #[v0, v1, v2, a3, a4, a5, a6, a7] := by simp
    rw [← e]
    exact h1.set 2 v2
  have h3 : Box ((((w.setCell ⟨b, 0, none⟩ (v0)).setCell ⟨b, 1, none⟩ (v1)).setCell ⟨b, 2, none⟩ (v2)).setCell ⟨b, 3, none⟩ (v3)) b #[v0, v1, v2, v3, a4, a5, a6, a7] := by
    have e : (#[v0, v1, v2, a3, a4, a5, a6, a7] : Array Value).setIfInBounds 3 v3 = #[v0, v1, v2, v3, a4, a5, a6, a7] := by simp
    rw [← e]
    exact h2.set 3 v3
  have h4 : Box (((((w.setCell ⟨b, 0, none⟩ (v0)).setCell ⟨b, 1, none⟩ (v1)).setCell ⟨b, 2, none⟩ (v2)).setCell ⟨b, 3, none⟩ (v3)).setCell ⟨b, 4, none⟩ (v4)) b #[v0, v1, v2, v3, v4, a5, a6, a7] := by
    have e : (#[v0, v1, v2, v3, a4, a5, a6, a7] : Array Value).setIfInBounds 4 v4 = #[v0, v1, v2, v3, v4, a5, a6, a7] := by simp
    rw [← e]
    exact h3.set 4 v4
  have h5 : Box ((((((w.setCell ⟨b, 0, none⟩ (v0)).setCell ⟨b, 1, none⟩ (v1)).setCell ⟨b, 2, none⟩ (v2)).setCell ⟨b, 3, none⟩ (v3)).setCell ⟨b, 4, none⟩ (v4)).setCell ⟨b, 5, none⟩ (v5)) b #[v0, v1, v2, v3, v4, v5, a6, a7] := by
    have e : (#[v0, v1, v2, v3, v4, a5, a6, a7] : Array Value).setIfInBounds 5 v5 = #[v0, v1, v2, v3, v4, v5, a6, a7] := by simp
    rw [← e]
    exact h4.set 5 v5
  have h6 : Box (((((((w.setCell ⟨b, 0, none⟩ (v0)).setCell ⟨b, 1, none⟩ (v1)).setCell ⟨b, 2, none⟩ (v2)).setCell ⟨b, 3, none⟩ (v3)).setCell ⟨b, 4, none⟩ (v4)).setCell ⟨b, 5, none⟩ (v5)).setCell ⟨b, 6, none⟩ (v6)) b #[v0, v1, v2, v3, v4, v5, v6, a7] := by
    have e : (#[v0, v1, v2, v3, v4, v5, a6, a7] : Array Value).setIfInBounds 6 v6 = #[v0, v1, v2, v3, v4, v5, v6, a7] := by simp
    rw [← e]
    exact h5.set 6 v6
  have h7 : Box ((((((((w.setCell ⟨b, 0, none⟩ (v0)).setCell ⟨b, 1, none⟩ (v1)).setCell ⟨b, 2, none⟩ (v2)).setCell ⟨b, 3, none⟩ (v3)).setCell ⟨b, 4, none⟩ (v4)).setCell ⟨b, 5, none⟩ (v5)).setCell ⟨b, 6, none⟩ (v6)).setCell ⟨b, 7, none⟩ (v7)) b #[v0, v1, v2, v3, v4, v5, v6, v7] := by
    have e : (#[v0, v1, v2, v3, v4, v5, v6, a7] : Array Value).setIfInBounds 7 v7 = #[v0, v1, v2, v3, v4, v5, v6, v7] := by simp
    rw [← e]
    exact h6.set 7 v7
  exact ⟨h7, (((((((((Keep.refl (fun x => x = b) w).setCell (fun _ => rfl) _).setCell (fun _ => rfl) _).setCell (fun _ => rfl) _).setCell (fun _ => rfl) _).setCell (fun _ => rfl) _).setCell (fun _ => rfl) _).setCell (fun _ => rfl) _).setCell (fun _ => rfl) _)⟩

/-- The device behind the first k of the operations. -/
def playM (os : List OpV) (m : Mdl) : Nat → Mdl
  | 0 => m
  | k + 1 => match os[k]? with | some o => (opM o (playM os m k)).1 | none => playM os m k
theorem playM_next {os : List OpV} {m : Mdl} {k : Nat} (h : k < os.length) : playM os m (k + 1) = (opM os[k] (playM os m k)).1 := by
  simp only [playM]; rw [List.getElem?_eq_getElem h]

structure PlayAt (w : World) (B : Nat) (L : Nat) (k : Nat) (m : Mdl) (p : Nat) (f : Fp) (r : RV) (T : Nat → Prop) (wr : World) : Prop where
  dev : Dev wr p f m
  ref : Ref wr T r m
  dis : ∀ b, T b → ¬ f.own p b
  box : Box wr B (rc r m)
  res : Box wr w.heap.size z30
  own : ∀ b, f.own p b → w.heap.size < b ∧ b ≠ B
  ownT : ∀ b, T b → w.heap.size < b ∧ b ≠ B
  bw : Below w.heap.size w wr
  hB : w.heap.size < B
  ok : Okm L (100 * k) m

def PlayedTo (m : Mdl) (L : Nat) (n : Nat) (w : World) (e : Ending) (w' : World) : Prop :=
  ∃ p f r T, e = .returned (.tuple #[.pointer (some ⟨p, 0, none⟩), rv r m, .bool true]) ∧ Dev w' p f m ∧ Ref w' T r m ∧ (∀ b, T b → ¬ f.own p b) ∧ (∀ b, f.own p b → w.heap.size < b) ∧ (∀ b, T b → w.heap.size < b) ∧ Below w.heap.size w w' ∧ Okm L (100 * n) m

section
variable {w : World}

set_option maxHeartbeats 8000000 in
set_option maxRecDepth 100000 in
theorem played_any (v0 : Value) (ws : List Int) (hv : IsInts .u64 w v0 ws) (hlen : ws.length ≤ 200) (v1 : Value) (os : List OpV) (hos : OpsIn w v1 os) (hfew : Few os) :
    Calls Try.prog 9 #[v0, v1] w (PlayedTo (playM os (fresh (linesFor ws.length) (padded ws)) os.length) (linesFor ws.length) os.length w) := by
  have hLb : linesFor ws.length ≤ 26 := by unfold linesFor; omega
  obtain ⟨L, hL⟩ : ∃ L, linesFor ws.length = L := ⟨_, rfl⟩
  rw [hL] at hLb ⊢
  obtain ⟨m0, hm0⟩ : ∃ m0, fresh L (padded ws) = m0 := ⟨_, rfl⟩
  have hok0 : Okm L 0 m0 := by rw [← hm0]; exact ⟨rfl, Int.le_refl 0, Int.le_refl 0, by show (-1 : Int) ≤ -1 ∧ (-1 : Int) ≤ 9223372036854775807; decide⟩
  rw [hm0]
  obtain ⟨mF, hmF⟩ : ∃ mF, playM os m0 os.length = mF := ⟨_, rfl⟩
  rw [hmF]
  have HMF := Lib.hid hmF
  clear hmF
  have hld := fun w' (h : IsInts .u64 w' v0 ws) => load_any v0 ws w' h (by omega)
  have hrl := fun w' (h : IsInts .u64 w' v0 ws) => refLoad_any (w := w') v0 ws h (by omega)
  rw [hL, hm0] at hld hrl
  obtain ⟨a1, cap1, rfl, hcap, hin⟩ := hos
  have hI : ∀ w', Below w.heap.size w w' → IsInts .u64 w' v0 ws := fun w' hb => hv.below hb (Nat.le_refl _)
  have hb1 : Box (w.alloc (.cells z30 30)) w.heap.size z30 := Box.new w _
  have bw1 : Below w.heap.size w (w.alloc (.cells z30 30)) := (Below.refl _ _).alloc (Nat.le_refl _) _
  have z1 : (w.alloc (.cells z30 30)).heap.size = w.heap.size + 1 := by simp
  have HB := Lib.hid (And.intro hb1 (And.intro bw1 z1))
  unfold z30 at HB
  have HIN := Lib.hid hin
  have HI := Lib.hid hI
  have HLD := Lib.hid hld
  have HRL := Lib.hid hrl
  have HFEW := Lib.hid hfew
  have HOK0 := Lib.hid hok0
  have h60 := hfew.1
  clear hv hin hI hb1 bw1 z1 hld hrl hm0 hL hfew hok0
  go_enter Try.func9, Try.ntmps9
  go_upto_region 1 with fail
  have hB := HB.out
  clear HB
  generalize w.alloc (.cells #[.slice none 0 0, .slice none 0 0, .slice none 0 0, .slice none 0 0, .slice none 0 0, .int .i64 0, .int .i64 0, .bool false] 30) = w1 at hB ⊢
  obtain ⟨hb1, bw1, z1⟩ := hB
  have HB1 : Hid (Box w1 w.heap.size z30) := Lib.hid hb1
  have BW1 := Lib.hid bw1
  have Z1 := Lib.hid z1
  clear hb1 bw1 z1
  go_upto_region 4 with (first
    | (go_at_call 22; refine (HLD.out _ (HI.out _ BW1.out)).mono ?_; rintro e w2 ⟨p, f, rfl, d2, k2, o2⟩; have D2 := Lib.hid d2; have K2 := Lib.hid k2; have O2 := Lib.hid o2; have BW2 := Lib.hid (BW1.out.trans (k2.below (B := w.heap.size) (by have := Z1.out; omega) (fun _ h => h.elim))); clear d2 k2 o2)
    | (go_at_call 27; refine (HRL.out _ (HI.out _ BW2.out)).mono ?_; rintro e w3 ⟨r, rfl, r3, b3⟩; have R3 := Lib.hid r3; have B3 := Lib.hid b3; have HZ3 : Hid (Box (w3.alloc (.cells z30 30)) w3.heap.size z30) := Lib.hid (Box.new w3 _); clear r3 b3)
    | (refine wpList_store_box rfl _ _ rfl (b := w3.heap.size) (old := z30) (cells := rc r m0) rfl rfl HZ3.out rfl rfl (rc_one _ _) ?_; intro w4 hb4 k4; have HB4 := Lib.hid hb4; have K4 := Lib.hid k4; have K34 : Hid (Keep (fun b => b = w3.heap.size) w3 w4) := Lib.hid (((Keep.refl (fun b => b = w3.heap.size) w3).alloc _).trans' k4); have D4 : Hid (Dev w4 p f m0) := Lib.hid ((D2.out.keep (Keep.ofBelow (S := fun _ => False) B3.out) (fun _ _ _ h => h)).keep K34.out (fun b hb ho e => by omega)); have R4 := Lib.hid (R3.out.keep (T' := fun b => w2.heap.size ≤ b ∧ b < w3.heap.size) K34.out (fun b hb _ e => by omega) (fun b hb _ => hb)); have c0 : w4.cell? ⟨w3.heap.size, 0, none⟩ = some (.slice r.aN m0.L r.cN) := hb4.cell 0; have c1 : w4.cell? ⟨w3.heap.size, 1, none⟩ = some (.slice r.aL m0.L r.cL) := hb4.cell 1; have c2 : w4.cell? ⟨w3.heap.size, 2, none⟩ = some (.slice r.aW m0.L r.cW) := hb4.cell 2; have c3 : w4.cell? ⟨w3.heap.size, 3, none⟩ = some (.slice r.aD m0.L r.cD) := hb4.cell 3; have c4 : w4.cell? ⟨w3.heap.size, 4, none⟩ = some (.slice r.aP m0.L r.cP) := hb4.cell 4; have c5 : w4.cell? ⟨w3.heap.size, 5, none⟩ = some (.int .i64 m0.steps) := hb4.cell 5; have c6 : w4.cell? ⟨w3.heap.size, 6, none⟩ = some (.int .i64 m0.fuse) := hb4.cell 6; have c7 : w4.cell? ⟨w3.heap.size, 7, none⟩ = some (.bool m0.dead) := hb4.cell 7; clear hb4 k4)
    | (go_at_call 28; refine (same_any D4.out R4.out).mono ?_; rintro e w5 ⟨rfl, b5⟩; have B5 := Lib.hid b5; clear b5))
  have hp0 : PlayAt w w3.heap.size L 0 m0 p f r (fun b => w2.heap.size ≤ b ∧ b < w3.heap.size) w5 := by
    have zz1 := Z1.out
    have zz2 := K2.out.size
    have zz3 := B3.out.size
    have k5 : Keep (fun _ => False) w4 w5 := Keep.ofBelow B5.out
    have kk : Keep (fun b => b = w3.heap.size) w1 w5 := (((K2.out.mono (S' := fun b => b = w3.heap.size) (fun _ _ h => h.elim)).trans (Keep.ofBelow (S := fun _ => False) B3.out) (fun i hi e => e.elim)).trans K34.out (fun i hi e => e)).trans k5 (fun i hi e => e.elim)
    refine ⟨D4.out.keep k5 (fun _ _ _ h => h), R4.out.keep k5 (fun _ _ _ h => h) (fun _ h _ => h), fun b hb ho => ?_, HB4.out.keep k5 (fun h => h), HB1.out.keep kk (by omega), fun b hb => ?_, fun b hb => ⟨by omega, by omega⟩, BW1.out.trans (kk.below (by omega) (fun i e => by omega)), by omega, HOK0.out⟩
    · have := D2.out.own_all b ho; omega
    · have := O2.out b hb; have := D2.out.own_all b hb; exact ⟨by omega, by omega⟩
  have HP0 := Lib.hid hp0
  have Z3 : Hid (w.heap.size < w3.heap.size) := Lib.hid hp0.hB
  clear c0 c1 c2 c3 c4 c5 c6 c7
  clear hp0 D2 K2 O2 BW1 BW2 R3 B3 HZ3 HB4 K4 K34 D4 R4 B5 HB1
  generalize w3.heap.size = B at HP0 Z3 ⊢
  unfold rv
  go_wp2_with fail
  go_loopw [7, 9] (fun x i wr => ∃ (k p : Nat) (f : Fp) (r : RV) (T : Nat → Prop), k ≤ os.length ∧ i = .int .i64 k ∧ x = .pointer (some ⟨p, 0, none⟩) ∧ Hid (PlayAt w B L k (playM os m0 k) p f r T wr)) (fun _ i _ => os.length - (intOf i).toNat)
  case atStart => exact ⟨0, p, f, r, _, by omega, rfl, rfl, HP0⟩
  case round =>
    clear HP0
    obtain ⟨k, p, f, r, T, hk, rfl, rfl, HP⟩ := hrel
    by_cases hlt : k < os.length
    · have hlt' : (k : Int) < (os.length : Int) := by omega
      have hk0 : (0 : Int) ≤ (k : Int) := by omega
      obtain ⟨ob, off, rfl, hob, hat⟩ := HIN.out.resolve_left (by intro e; rw [e] at hlt; simp at hlt)
      have hop := (hat k hlt).below hob HP.out.bw (Nat.le_refl _)
      have hcl := HFEW.out.2 k hlt
      have hnx := playM_next (m := m0) hlt
      generalize os[k] = o at hop hcl hnx
      generalize playM os m0 k = m at HP hnx
      obtain ⟨mn, hmn⟩ : ∃ mn, playM os m0 (k + 1) = mn := ⟨_, rfl⟩
      rw [hmn] at hnx
      have HMN := Lib.hid hmn
      clear hmn
      have q0 : wr.cell? ⟨ob, off + k * 5, none⟩ = some (.int .i64 o.k) := by rw [Nat.mul_comm]; exact hop.k
      have q1 : wr.cell? ⟨ob, off + k * 5 + 1, none⟩ = some (.int .i64 o.a) := by rw [Nat.mul_comm]; exact hop.a
      have q2 : wr.cell? ⟨ob, off + k * 5 + 2, none⟩ = some (.int .i64 o.n) := by rw [Nat.mul_comm]; exact hop.n
      have q3 : wr.cell? ⟨ob, off + k * 5 + 3, none⟩ = some (.int .u64 o.x) := by rw [Nat.mul_comm]; exact hop.x
      have q4 : wr.cell? ⟨ob, off + k * 5 + 4, none⟩ = some (.slice o.ca o.cl o.ccap) := by rw [Nat.mul_comm]; exact hop.c
      have hbx : Box wr B (rc r m) := HP.out.box
      have hbd : (100 * (k : Int)) < 10000 := by omega
      have hs1 := HP.out.ok.s1
      have hdo : Calls Try.prog 24 #[.pointer (some ⟨p, 0, none⟩), rv r m, o.val] wr.drew (DoTo (o.k ≠ 6) p f T (opM o m).1 (opM o m).1 true wr.drew) := by
        have := do_any (w := wr.drew) (HP.out.dev.drewN 1) (T := T) (r := r) (m2 := m) (HP.out.ref.keep (Keep.refl (fun _ => False) wr).drew (fun _ _ _ h => h) (fun _ h _ => h)) HP.out.dis o (hop.fine.below (Below.refl wr.heap.size wr).drew (Nat.le_refl _)) (by omega) (by omega) HP.out.ok.s0 (by omega) HP.out.ok.hf
        rwa [beq_self_eq_true] at this
      have hokn := opM_ok HP.out.ok (by omega) o hop.fine.hn.2
      rw [← hnx] at hdo hokn
      have HDO := Lib.hid hdo
      have HOK := Lib.hid hokn
      have HBX := Lib.hid hbx
      have c0 : wr.cell? ⟨B, 0, none⟩ = some (.slice r.aN m.L r.cN) := hbx.cell 0
      have c1 : wr.cell? ⟨B, 1, none⟩ = some (.slice r.aL m.L r.cL) := hbx.cell 1
      have c2 : wr.cell? ⟨B, 2, none⟩ = some (.slice r.aW m.L r.cW) := hbx.cell 2
      have c3 : wr.cell? ⟨B, 3, none⟩ = some (.slice r.aD m.L r.cD) := hbx.cell 3
      have c4 : wr.cell? ⟨B, 4, none⟩ = some (.slice r.aP m.L r.cP) := hbx.cell 4
      have c5 : wr.cell? ⟨B, 5, none⟩ = some (.int .i64 m.steps) := hbx.cell 5
      have c6 : wr.cell? ⟨B, 6, none⟩ = some (.int .i64 m.fuse) := hbx.cell 6
      have c7 : wr.cell? ⟨B, 7, none⟩ = some (.bool m.dead) := hbx.cell 7
      clear hop hcl hat hbx hdo hokn hbd hs1 hnx
      go_wp2_with fail
      go_region_law ((first
        | (go_simp; go_at_call 24; refine HDO.out.mono ?_; rintro e w6 ⟨p', f', r', -, rfl, d6, k6, o6, T', rf6, t6, ds6⟩; have hb6 : Box w6 B (rc r m) := (Box.drew HBX.out).keep k6 (fun e => (HP.out.own _ e).2 rfl); have s0 : w6.cell? ⟨B, 0, none⟩ = some (.slice r.aN m.L r.cN) := hb6.cell 0; have s1 : w6.cell? ⟨B, 1, none⟩ = some (.slice r.aL m.L r.cL) := hb6.cell 1; have s2 : w6.cell? ⟨B, 2, none⟩ = some (.slice r.aW m.L r.cW) := hb6.cell 2; have s3 : w6.cell? ⟨B, 3, none⟩ = some (.slice r.aD m.L r.cD) := hb6.cell 3; have s4 : w6.cell? ⟨B, 4, none⟩ = some (.slice r.aP m.L r.cP) := hb6.cell 4; have s5 : w6.cell? ⟨B, 5, none⟩ = some (.int .i64 m.steps) := hb6.cell 5; have s6 : w6.cell? ⟨B, 6, none⟩ = some (.int .i64 m.fuse) := hb6.cell 6; have s7 : w6.cell? ⟨B, 7, none⟩ = some (.bool m.dead) := hb6.cell 7; have g0 := hb6.frozen 0; have g1 := hb6.frozen 1; have g2 := hb6.frozen 2; have g3 := hb6.frozen 3; have g4 := hb6.frozen 4; have g5 := hb6.frozen 5; have g6 := hb6.frozen 6; have g7 := hb6.frozen 7; have HB6 := Lib.hid hb6; have D6 := Lib.hid d6; have K6 := Lib.hid k6; have O6 := Lib.hid o6; have RF6 := Lib.hid rf6; have T6 := Lib.hid t6; have DS6 := Lib.hid ds6; clear hb6 d6 k6 o6 rf6 t6 ds6; unfold rv)))
      all_goals
        have hk7 := (show Box w6 B #[.slice r.aN m.L r.cN, .slice r.aL m.L r.cL, .slice r.aW m.L r.cW, .slice r.aD m.L r.cD, .slice r.aP m.L r.cP, .int .i64 m.steps, .int .i64 m.fuse, .bool m.dead] from HB6.out).refill (.slice r'.aN mn.L r'.cN) (.slice r'.aL mn.L r'.cL) (.slice r'.aW mn.L r'.cW) (.slice r'.aD mn.L r'.cD) (.slice r'.aP mn.L r'.cP) (.int .i64 mn.steps) (.int .i64 mn.fuse) (.bool mn.dead)
        obtain ⟨hb7, k7⟩ := hk7
        generalize ((((((((w6.setCell ⟨B, 0, none⟩ (.slice r'.aN mn.L r'.cN)).setCell ⟨B, 1, none⟩ (.slice r'.aL mn.L r'.cL)).setCell ⟨B, 2, none⟩ (.slice r'.aW mn.L r'.cW)).setCell ⟨B, 3, none⟩ (.slice r'.aD mn.L r'.cD)).setCell ⟨B, 4, none⟩ (.slice r'.aP mn.L r'.cP)).setCell ⟨B, 5, none⟩ (.int .i64 mn.steps)).setCell ⟨B, 6, none⟩ (.int .i64 mn.fuse)).setCell ⟨B, 7, none⟩ (.bool mn.dead)) = w7 at hb7 k7 ⊢
        have hb7' : Box w7 B (rc r' mn) := hb7
        have zb := HP.out.box.lt
        have zd : wr.drew.heap.size = wr.heap.size := rfl
        have d7 : Dev w7 p' f' mn := D6.out.keep k7 (fun b _ ho e => by rcases O6.out b ho with h | h; (exact (HP.out.own b h).2 e); omega)
        have r7 : Ref w7 T' r' mn := RF6.out.keep k7 (fun b ho _ e => by rcases T6.out b ho with h | h; (exact (HP.out.ownT b h).2 e); omega) (fun _ h _ => h)
        have D7 := Lib.hid d7
        have R7 := Lib.hid r7
        have HB7 := Lib.hid hb7'
        have K7 := Lib.hid k7
        have x0 : w7.cell? ⟨B, 0, none⟩ = some (.slice r'.aN mn.L r'.cN) := hb7'.cell 0
        have x1 : w7.cell? ⟨B, 1, none⟩ = some (.slice r'.aL mn.L r'.cL) := hb7'.cell 1
        have x2 : w7.cell? ⟨B, 2, none⟩ = some (.slice r'.aW mn.L r'.cW) := hb7'.cell 2
        have x3 : w7.cell? ⟨B, 3, none⟩ = some (.slice r'.aD mn.L r'.cD) := hb7'.cell 3
        have x4 : w7.cell? ⟨B, 4, none⟩ = some (.slice r'.aP mn.L r'.cP) := hb7'.cell 4
        have x5 : w7.cell? ⟨B, 5, none⟩ = some (.int .i64 mn.steps) := hb7'.cell 5
        have x6 : w7.cell? ⟨B, 6, none⟩ = some (.int .i64 mn.fuse) := hb7'.cell 6
        have x7 : w7.cell? ⟨B, 7, none⟩ = some (.bool mn.dead) := hb7'.cell 7
        clear hb7 hb7' k7 d7 r7 zb zd q0 q1 q2 q3 q4 c0 s0 g0 c1 s1 g1 c2 s2 g2 c3 s3 g3 c4 s4 g4 c5 s5 g5 c6 s6 g6 c7 s7 g7
        go_wp2_with (go_at_call 28; refine (same_any D7.out R7.out).mono ?_; rintro e w8 ⟨rfl, b8⟩; have B8 := Lib.hid b8; clear b8)
        have hp8 : PlayAt w B L (k + 1) mn p' f' r' T' w8 := by
          have zb := HP.out.box.lt
          have zr := HP.out.res.lt
          have zB := HP.out.hB
          have zd : wr.drew.heap.size = wr.heap.size := rfl
          have z6 := K6.out.size
          have z7 := K7.out.size
          have k8 : Keep (fun _ => False) w7 w8 := Keep.ofBelow B8.out
          have hres6 : Box w6 w.heap.size z30 := (Box.drew HP.out.res).keep K6.out (fun e => by have := (HP.out.own _ e).1; omega)
          refine ⟨D7.out.keep k8 (fun _ _ _ h => h), R7.out.keep k8 (fun _ _ _ h => h) (fun _ h _ => h), DS6.out, HB7.out.keep k8 (fun h => h), (hres6.keep K7.out (by omega)).keep k8 (fun h => h), fun b hb => ?_, fun b hb => ?_, ?_, zB, HOK.out.mono (by omega)⟩
          · rcases O6.out b hb with h | h
            · exact HP.out.own b h
            · exact ⟨by omega, by omega⟩
          · rcases T6.out b hb with h | h
            · exact HP.out.ownT b h
            · exact ⟨by omega, by omega⟩
          · exact HP.out.bw.drew.trans ((K6.out.below (B := w.heap.size) (by omega) (fun i e => Nat.le_of_lt (HP.out.own i e).1)).trans ((K7.out.below (B := w.heap.size) (by omega) (fun i e => by omega)).trans (B8.out.mono (by omega))))
        have HP8 : Hid (PlayAt w B L (k + 1) (playM os m0 (k + 1)) p' f' r' T' w8) := Lib.hid (by rw [HMN.out]; exact hp8)
        clear hp8 x0 x1 x2 x3 x4 x5 x6 x7
        go_roundw
        case rel => exact ⟨k + 1, p', f', r', T', by omega, by go_num, rfl, HP8⟩
        case measure => simp [intOf]; omega
    · have hlt' : ¬ (k : Int) < (os.length : Int) := by omega
      obtain rfl : k = os.length := by omega
      rw [HMF.out] at HP
      have HPm := HP
      clear HP
      have HP := HPm
      clear HPm
      have hbx : Box wr B (rc r mF) := HP.out.box
      have hrs : Box wr w.heap.size z30 := HP.out.res
      have s0 : wr.cell? ⟨B, 0, none⟩ = some (.slice r.aN mF.L r.cN) := hbx.cell 0
      have d0 : wr.cell? ⟨w.heap.size, 0, none⟩ = some (.slice none 0 0) := hrs.cell 0
      have g0 := hrs.frozen 0
      have s1 : wr.cell? ⟨B, 1, none⟩ = some (.slice r.aL mF.L r.cL) := hbx.cell 1
      have d1 : wr.cell? ⟨w.heap.size, 1, none⟩ = some (.slice none 0 0) := hrs.cell 1
      have g1 := hrs.frozen 1
      have s2 : wr.cell? ⟨B, 2, none⟩ = some (.slice r.aW mF.L r.cW) := hbx.cell 2
      have d2 : wr.cell? ⟨w.heap.size, 2, none⟩ = some (.slice none 0 0) := hrs.cell 2
      have g2 := hrs.frozen 2
      have s3 : wr.cell? ⟨B, 3, none⟩ = some (.slice r.aD mF.L r.cD) := hbx.cell 3
      have d3 : wr.cell? ⟨w.heap.size, 3, none⟩ = some (.slice none 0 0) := hrs.cell 3
      have g3 := hrs.frozen 3
      have s4 : wr.cell? ⟨B, 4, none⟩ = some (.slice r.aP mF.L r.cP) := hbx.cell 4
      have d4 : wr.cell? ⟨w.heap.size, 4, none⟩ = some (.slice none 0 0) := hrs.cell 4
      have g4 := hrs.frozen 4
      have s5 : wr.cell? ⟨B, 5, none⟩ = some (.int .i64 mF.steps) := hbx.cell 5
      have d5 : wr.cell? ⟨w.heap.size, 5, none⟩ = some (.int .i64 0) := hrs.cell 5
      have g5 := hrs.frozen 5
      have s6 : wr.cell? ⟨B, 6, none⟩ = some (.int .i64 mF.fuse) := hbx.cell 6
      have d6 : wr.cell? ⟨w.heap.size, 6, none⟩ = some (.int .i64 0) := hrs.cell 6
      have g6 := hrs.frozen 6
      have s7 : wr.cell? ⟨B, 7, none⟩ = some (.bool mF.dead) := hbx.cell 7
      have d7 : wr.cell? ⟨w.heap.size, 7, none⟩ = some (.bool false) := hrs.cell 7
      have g7 := hrs.frozen 7
      have hBw : B ≠ w.heap.size := by have := HP.out.hB; omega
      have HRS := Lib.hid hrs
      clear hbx hrs
      go_wp2_with fail
      go_big_region
      have hk7 := HRS.out.fill (.slice r.aN mF.L r.cN) (.slice r.aL mF.L r.cL) (.slice r.aW mF.L r.cW) (.slice r.aD mF.L r.cD) (.slice r.aP mF.L r.cP) (.int .i64 mF.steps) (.int .i64 mF.fuse) (.bool mF.dead)
      obtain ⟨hb7, k7⟩ := hk7
      generalize ((((((((wr.setCell ⟨w.heap.size, 0, none⟩ (.slice r.aN mF.L r.cN)).setCell ⟨w.heap.size, 1, none⟩ (.slice r.aL mF.L r.cL)).setCell ⟨w.heap.size, 2, none⟩ (.slice r.aW mF.L r.cW)).setCell ⟨w.heap.size, 3, none⟩ (.slice r.aD mF.L r.cD)).setCell ⟨w.heap.size, 4, none⟩ (.slice r.aP mF.L r.cP)).setCell ⟨w.heap.size, 5, none⟩ (.int .i64 mF.steps)).setCell ⟨w.heap.size, 6, none⟩ (.int .i64 mF.fuse)).setCell ⟨w.heap.size, 7, none⟩ (.bool mF.dead)).drew = w7 at hb7 k7 ⊢
      have HB7 : Hid (Box w7 w.heap.size (rc r mF)) := Lib.hid hb7
      have K7 := Lib.hid k7
      clear hb7 k7 s0 d0 g0 s1 d1 g1 s2 d2 g2 s3 d3 g3 s4 d4 g4 s5 d5 g5 s6 d6 g6 s7 d7 g7
      go_wp2_with fail
      exact bodyPost_ret (results_box3 rfl _ _ w.heap.size (rc r mF) _ _ rfl HB7.out rfl rfl rfl) rfl ⟨p, f, r, T, rfl, HP.out.dev.keep K7.out (fun b _ ho e => by have := (HP.out.own b ho).1; omega), HP.out.ref.keep K7.out (fun b hb _ e => by have := (HP.out.ownT b hb).1; omega) (fun _ h _ => h), HP.out.dis, fun b hb => (HP.out.own b hb).1, fun b hb => (HP.out.ownT b hb).1, HP.out.bw.trans (K7.out.below (B := w.heap.size) HP.out.bw.size (fun i e => by omega)), HP.out.ok⟩
end

end Go.Proofs.Ytnkndhmkamaccaa
