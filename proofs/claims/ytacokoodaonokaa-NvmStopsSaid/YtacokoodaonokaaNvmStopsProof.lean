/-
  A device whose fuse is set makes so many steps and no more, and is dead from there on, for all words, operations and fuses.
  Conditions: none beyond the row (every argument that can be read as data).
-/
import Derived.Test.YtacokoodaonokaaPre
import Derived.Test.YtacokoodaonokaaFew
import Derived.Test.YtacokoodaonokaaRefNew
import Derived.Test.YtacokoodaonokaaAwake03
namespace Go.Proofs.Ytacokoodaonokaa.nvmStops
open Go.ChangeShapes Go.WideShapes Go.ChangeAt Go.RowKit
open Go.ChangeMaps (open_string shut_string)
set_option linter.unusedVariables false

open Nv
structure SInv (n : Int) (m : Mdl) : Prop where
  f0 : 0 ≤ m.fuse
  sum : m.steps + m.fuse = n
  dead : m.dead = true → m.fuse = 0
theorem SInv.same {n : Int} {m m' : Mdl} (h : SInv n m) (h1 : m'.fuse = m.fuse) (h2 : m'.steps = m.steps) (h3 : m'.dead = m.dead) : SInv n m' := ⟨h1 ▸ h.f0, by rw [h1, h2]; exact h.sum, by rw [h1, h3]; exact h.dead⟩
theorem SInv.step {n : Int} {m : Mdl} (h : SInv n m) (hs : ¬ stops m = true) : SInv n (stepM m) := by
  have hs' : m.dead = false ∧ m.fuse ≠ 0 := by
    unfold stops at hs; simp at hs; exact hs
  obtain ⟨h1, h2⟩ := hs'
  have h3 := h.f0
  have h4 := h.sum
  have e1 : (stepM m).fuse = m.fuse - 1 := by show (if 0 < m.fuse then m.fuse - 1 else m.fuse) = _; rw [if_pos (by omega)]
  have e2 : (stepM m).steps = m.steps + 1 := rfl
  have e3 : (stepM m).dead = m.dead := rfl
  refine ⟨by omega, by omega, fun h => ?_⟩
  rw [e3, h1] at h; cases h
theorem SInv.stop {n : Int} {m : Mdl} (h : SInv n m) (hs : stops m = true) : SInv n (deadM m) := by
  refine ⟨h.f0, h.sum, fun _ => ?_⟩
  show m.fuse = 0
  unfold stops at hs; simp at hs
  rcases hs with hs | hs
  · exact h.dead hs
  · exact hs
theorem sinv_store {n : Int} {m : Mdl} (h : SInv n m) (a x : Int) : SInv n (Nv.store m a x).1 := by
  unfold Nv.store; split
  · exact h
  · split
    · rename_i hs; exact h.stop hs
    · rename_i hs; exact (h.step hs).same rfl rfl rfl
theorem sinv_flush {n : Int} {m : Mdl} (h : SInv n m) (a : Int) : SInv n (Nv.flush m a).1 := by
  unfold Nv.flush; split
  · exact h
  · split
    · rename_i hs; exact h.stop hs
    · rename_i hs
      simp only [flushM]; split
      · exact (h.step hs).same rfl rfl rfl
      · exact h.step hs
theorem sinv_fence {n : Int} {m : Mdl} (h : SInv n m) : SInv n (Nv.fence m).1 := by
  unfold Nv.fence; split
  · rename_i hs; exact h.stop hs
  · rename_i hs; exact (h.step hs).same rfl rfl rfl
theorem sinv_evict {n : Int} {m : Mdl} (h : SInv n m) (a : Int) : SInv n (Nv.evict m a).1 := by
  unfold Nv.evict; split
  · exact h
  · split
    · exact h
    · exact h.same rfl rfl rfl
theorem sinv_flushes {n : Int} : ∀ (k a : Nat) {m : Mdl}, SInv n m → SInv n (flushes m a k).1
  | 0, _, _, h => h
  | k + 1, a, m, h => by
    have h1 := sinv_flush h a
    simp only [flushes]; split
    · exact sinv_flushes k (a + 1) h1
    · exact h1
theorem sinv_persist {n : Int} {m : Mdl} (h : SInv n m) (a x : Int) : SInv n (Nv.persist m a x).1 := by
  unfold Nv.persist; split
  · exact h
  · simp only; split
    · exact sinv_fence (sinv_flushes _ _ h)
    · exact sinv_flushes _ _ h
theorem sinv_op {n : Int} {m : Mdl} (h : SInv n m) (o : OpV) (hk : o.k < 5) : SInv n (opM o m).1 := by
  unfold opM; split
  · exact sinv_store h _ _
  · split
    · exact sinv_flush h _
    · split
      · exact sinv_fence h
      · split
        · exact sinv_evict h _
        · split
          · exact sinv_persist h _ _
          · rw [if_neg (by omega), if_neg (by omega)]; exact h
theorem dead_store {m : Mdl} (h : m.dead = true) (a x : Int) : (Nv.store m a x).2 ≠ 0 ∧ (Nv.store m a x).1.dead = true ∧ (Nv.store m a x).1.now = m.now ∧ (Nv.store m a x).1.L = m.L := by
  have hs : stops m = true := by unfold stops; rw [h]; rfl
  unfold Nv.store; split
  · exact ⟨by show (2 : Int) ≠ 0; decide, h, rfl, rfl⟩
  · exact ⟨by show (3 : Int) ≠ 0; decide, rfl, rfl, rfl⟩
theorem dead_fence {m : Mdl} (h : m.dead = true) : (Nv.fence m).2 = 3 ∧ (Nv.fence m).1.now = m.now ∧ (Nv.fence m).1.L = m.L := by
  have hs : stops m = true := by unfold stops; rw [h]; rfl
  unfold Nv.fence; simp [hs, deadM]

structure StopAt (w : World) (n : Int) (L k : Nat) (m : Mdl) (p : Nat) (f : Fp) (wr : World) : Prop where
  dev : Dev wr p f m
  own : ∀ b, f.own p b → w.heap.size ≤ b
  bw : Below w.heap.size w wr
  ok : Okm L (100 * k) m
  inv : SInv n m

set_option maxHeartbeats 1000000 in
theorem walk {H : Type} {enc : TypeId × Value → H} {base : Nat} {d1 : DataW H} {p1 : List MemPlace} (a0 : Option Addr) (len0 cap0 : Nat) (z0 : List Int) (a1 : Value) (a2 : Int) (w : World) (w0 : IsRow .u64 w a0 len0 cap0 z0) (w1 : Value.okWide Try.prog w .any base 23 a1) (k1 : DataW.Trod enc Try.prog w 0 (fun _ => true) true 23 a1 d1 p1) (w2 : (Lit.int .u8 a2).wf = true)  :
    Calls Try.prog 6 #[.slice a0 len0 cap0, a1, .int .u8 a2] w fun e w' => e = .returned (.bool true) ∧ Below w.heap.size w w' := by
  obtain ⟨q1, q2, q3⟩ := w0.ints
  obtain ⟨os, hos⟩ := ops_of_trod w1 k1
  have hn := bounds_u8 w2
  have HQ := Lib.hid q1
  have HOS := Lib.hid hos
  clear q1 q3 w0 w1 k1
  obtain ⟨av, acap, rfl, -, -⟩ := hos
  obtain ⟨ws, hws⟩ : ∃ ws, z0.take len0 = ws := ⟨_, rfl⟩
  rw [hws] at HQ q2
  clear hws
  go_enter Try.func6, Try.ntmps6
  go_wp2_with fail
  refine (awake_yes _).mono ?_
  rintro e wa ⟨rfl, hb1⟩
  have B1 := Lib.hid hb1
  clear hb1
  go_wp2_with fail
  refine (few_any a0 len0 cap0 _ os (HOS.out.below B1.out (Nat.le_refl _))).mono ?_
  rintro e w' ⟨b, rfl, hF, rfl⟩
  cases b
  · go_wp2_with fail
    go_ret
    exact ⟨rfl, B1.out⟩
  · obtain ⟨h200, hfew⟩ := hF rfl
    have HFEW := Lib.hid hfew
    have h60 := hfew.1
    clear hF hfew
    obtain ⟨L, hL⟩ : ∃ L, linesFor ws.length = L := ⟨_, rfl⟩
    have hLb : L ≤ 26 := by rw [← hL]; unfold linesFor; omega
    obtain ⟨m0, hm0⟩ : ∃ m0, fresh L (padded ws) = m0 := ⟨_, rfl⟩
    have hld := load_any _ ws wa (HQ.out.below B1.out (Nat.le_refl _)) (by omega)
    rw [hL, hm0] at hld
    have HLD := Lib.hid hld
    have HM0 := Lib.hid hm0
    clear hld hm0 hL
    go_wp2_with fail
    refine HLD.out.mono ?_
    rintro e wb ⟨p, f, rfl, d2, k2, o2⟩
    have D2 := Lib.hid d2
    have B2 : Hid (Below w.heap.size w wb) := Lib.hid (B1.out.trans (k2.below B1.out.size (fun _ h => h.elim)))
    have O2 : Hid (∀ b, f.own p b → w.heap.size ≤ b) := Lib.hid fun b hb => Nat.le_trans B1.out.size (o2 b hb)
    clear d2 k2 o2 HLD
    go_wp2_with fail
    refine (arm_any D2.out a2 (by omega) (by omega)).mono ?_
    rintro e wc ⟨rfl, f3, d3, k3, o3⟩
    have hs0 : StopAt w a2 L 0 (Nv.arm m0 a2) p f3 wc := by
      have hm : max a2 (-1) = a2 := by omega
      refine ⟨d3, fun b hb => ?_, B2.out.trans (k3.below (B := w.heap.size) B2.out.size O2.out), ?_, ?_⟩
      · rcases o3 b hb with h | h
        · exact O2.out b h
        · have := B2.out.size; omega
      · rw [← HM0.out]
        refine ⟨rfl, Int.le_refl 0, Int.le_refl 0, ?_⟩
        show -1 ≤ max a2 (-1) ∧ max a2 (-1) ≤ 9223372036854775807
        omega
      · rw [← HM0.out]
        refine ⟨?_, ?_, fun h => by cases h⟩
        · show 0 ≤ max a2 (-1); omega
        · show 0 + max a2 (-1) = a2; omega
    have HS0 := Lib.hid hs0
    clear d3 k3 o3 hs0 D2 B2 O2
    go_wp2_with fail
    go_loopw [8] (fun i wr => ∃ (k : Nat) (m : Mdl) (f : Fp), k ≤ os.length ∧ i = .int .i64 k ∧ Hid (StopAt w a2 L k m p f wr)) (fun i _ => os.length - (intOf i).toNat)
    case atStart => exact ⟨0, _, f3, by omega, rfl, HS0⟩
    case round =>
      clear HS0
      obtain ⟨k, m, f, hk, rfl, HP⟩ := hrel
      by_cases hlt : k < os.length
      · have hlt' : (k : Int) < (os.length : Int) := by omega
        have hk0 : (0 : Int) ≤ (k : Int) := by omega
        have hop' := HOS.out.below HP.out.bw (Nat.le_refl _)
        obtain ⟨av', acap', heq, hacap, hin⟩ := hop'
        cases heq
        obtain ⟨ob, off, rfl, hob, hat⟩ := hin.resolve_left (by intro e; rw [e] at hlt; simp at hlt)
        have hop := hat k hlt
        have hcl := HFEW.out.2 k hlt
        generalize os[k] = o at hop hcl
        have q0 : wr.cell? ⟨ob, off + k * 5, none⟩ = some (.int .i64 o.k) := by rw [Nat.mul_comm]; exact hop.k
        have q1 : wr.cell? ⟨ob, off + k * 5 + 1, none⟩ = some (.int .i64 o.a) := by rw [Nat.mul_comm]; exact hop.a
        have q2' : wr.cell? ⟨ob, off + k * 5 + 2, none⟩ = some (.int .i64 o.n) := by rw [Nat.mul_comm]; exact hop.n
        have q3 : wr.cell? ⟨ob, off + k * 5 + 3, none⟩ = some (.int .u64 o.x) := by rw [Nat.mul_comm]; exact hop.x
        have q4 : wr.cell? ⟨ob, off + k * 5 + 4, none⟩ = some (.slice o.ca o.cl o.ccap) := by rw [Nat.mul_comm]; exact hop.c
        have HF := Lib.hid hop.fine
        clear hat hop hin
        go_upto_region 13 with fail
        have hob1 : OBox (wr.alloc (.cells #[.int .i64 o.k, .int .i64 o.a, .int .i64 o.n, .int .u64 o.x, .slice o.ca o.cl o.ccap] 36)) wr.heap.size #[.int .i64 o.k, .int .i64 o.a, .int .i64 o.n, .int .u64 o.x, .slice o.ca o.cl o.ccap] := OBox.new wr _
        have hbwo : Below wr.heap.size wr (wr.alloc (.cells #[.int .i64 o.k, .int .i64 o.a, .int .i64 o.n, .int .u64 o.x, .slice o.ca o.cl o.ccap] 36)) := (Below.refl _ _).alloc (Nat.le_refl _) _
        generalize wr.alloc (.cells #[.int .i64 o.k, .int .i64 o.a, .int .i64 o.n, .int .u64 o.x, .slice o.ca o.cl o.ccap] 36) = wo at hob1 hbwo ⊢
        have r0 : wo.cell? ⟨wr.heap.size, 0, none⟩ = some (.int .i64 o.k) := hob1.cell 0
        have r1 : wo.cell? ⟨wr.heap.size, 1, none⟩ = some (.int .i64 o.a) := hob1.cell 1
        have r2 : wo.cell? ⟨wr.heap.size, 2, none⟩ = some (.int .i64 o.n) := hob1.cell 2
        have r3 : wo.cell? ⟨wr.heap.size, 3, none⟩ = some (.int .u64 o.x) := hob1.cell 3
        have r4 : wo.cell? ⟨wr.heap.size, 4, none⟩ = some (.slice o.ca o.cl o.ccap) := hob1.cell 4
        have hso : wr.heap.size < wo.heap.size := hob1.lt
        have HBO := Lib.hid hbwo
        have DO : Hid (Dev wo p f m) := Lib.hid (HP.out.dev.keep (Keep.ofBelow (S := fun _ => False) hbwo) (fun _ _ _ h => h))
        have hk6 : (100 * (k : Int)) < 10000 := by omega
        clear hob1 hbwo q0 q1 q2' q3 q4
        by_cases h5 : o.k < 5
        · have HRN := Lib.hid (refNew_none wo.drew)
          have HDOO : Hid (∀ w5 r, Ref w5 (fun b => wo.drew.heap.size ≤ b ∧ b < w5.heap.size) r mZ → Below wo.drew.heap.size wo.drew w5 → Calls Try.prog 24 #[.pointer (some ⟨p, 0, none⟩), rv r mZ, o.val] w5 (DoTo (o.k ≠ 6) p f (fun b => wo.drew.heap.size ≤ b ∧ b < w5.heap.size) (opM o m).1 (opM o mZ).1 ((opM o m).2 == (opM o mZ).2) w5)) := Lib.hid fun w5 r r5 b5 => by
            have zd : wo.drew.heap.size = wo.heap.size := rfl
            have s1 := HP.out.ok.s1
            have d5 : Dev w5 p f m := (DO.out.drewN 1).keep (Keep.ofBelow (S := fun _ => False) b5) (fun _ _ _ h => h)
            have z5 := b5.size
            exact do_any d5 r5 (fun b hb ho => by have := HP.out.dev.own_all b ho; obtain ⟨hb1, _⟩ := hb; omega) o (OpV.Fine.below (w := wo.drew) (OpV.Fine.below (w := wr) HF.out HBO.out.drew (Nat.le_refl _)) b5 (Nat.le_refl _)) (by omega) (by omega) (Int.le_refl 0) (by show (0 : Int) < _; decide) (by show (-1 : Int) ≤ -1 ∧ (-1 : Int) ≤ 9223372036854775807; decide)
          have hokn := opM_ok HP.out.ok (by omega) o HF.out.hn.2
          have hinv := sinv_op HP.out.inv o h5
          obtain ⟨mn, hmn⟩ : ∃ mn, (opM o m).1 = mn := ⟨_, rfl⟩
          rw [hmn] at hokn hinv HDOO
          have HO := Lib.hid (And.intro hokn hinv)
          have h56 : o.k ≠ 6 := by omega
          clear hmn hokn hinv hcl
          go_wp2_with fail
          go_region_law ((first
            | (go_simp; go_at_call 25; refine HRN.out.mono ?_; rintro e w5 ⟨r, rfl, r5, b5⟩; have r0 := (b5.cell (p := ⟨wr.heap.size, 0, none⟩) hso).trans r0; have r1 := (b5.cell (p := ⟨wr.heap.size, 1, none⟩) hso).trans r1; have r2 := (b5.cell (p := ⟨wr.heap.size, 2, none⟩) hso).trans r2; have r3 := (b5.cell (p := ⟨wr.heap.size, 3, none⟩) hso).trans r3; have r4 := (b5.cell (p := ⟨wr.heap.size, 4, none⟩) hso).trans r4; have R5 := Lib.hid r5; have B5 := Lib.hid b5; clear r5 b5)
            | (go_simp; go_at_call 24; refine (HDOO.out _ _ R5.out B5.out).mono ?_; rintro e w6 ⟨p', f6, r6, hpp, rfl, d6, k6, o6, -⟩; have hpe := hpp h56; subst hpe; have D6 := Lib.hid d6; have K6 := Lib.hid k6; have O6 := Lib.hid o6; clear hpp d6 k6 o6)))
          all_goals
            have hp6 : StopAt w a2 L (k + 1) mn p' f6 w6 := by
              have zd : wo.drew.heap.size = wo.heap.size := rfl
              have zw := HP.out.bw.size
              have z5 := B5.out.size
              have e1 : Below w.heap.size w wo.drew := (HP.out.bw.trans (HBO.out.mono zw)).drew
              have e2 : w.heap.size ≤ wo.drew.heap.size := by omega
              have e3 : Below w.heap.size wo.drew w5 := B5.out.mono e2
              have e4 : Below w.heap.size w5 w6 := K6.out.below (Nat.le_trans e2 z5) HP.out.own
              have e5 : ((k + 1 : Nat) : Int) = k + 1 := by omega
              refine ⟨D6.out, fun b hb => ?_, (e1.trans e3).trans e4, HO.out.1.mono (by omega), HO.out.2⟩
              rcases O6.out b hb with h | h
              · exact HP.out.own b h
              · omega
            have HP6 := Lib.hid hp6
            clear hp6
            have hst := steps_any HP6.out.dev
            have hdd := dead_any HP6.out.dev
            by_cases hd : mn.dead = true
            · have hsn : mn.steps = a2 := by have := HP6.out.inv.sum; have := HP6.out.inv.dead hd; omega
              rw [hsn] at hst
              rw [hd] at hdd
              have HST := Lib.hid hst
              have HDD := Lib.hid hdd
              clear hst hdd hd hsn
              go_wp2_with (first
                | (go_at_call 20; refine HST.out.mono ?_; rintro e w' ⟨rfl, rfl⟩)
                | (go_at_call 19; refine HDD.out.mono ?_; rintro e w' ⟨rfl, rfl⟩))
              go_roundw
              case rel => exact ⟨k + 1, mn, f6, by omega, by go_num, HP6⟩
              case measure => simp [intOf]; omega
            · have hd' : mn.dead = false := by simpa using hd
              have hsn : ¬ a2 < mn.steps := by have := HP6.out.inv.sum; have := HP6.out.inv.f0; omega
              rw [hd'] at hdd
              have HST := Lib.hid hst
              have HDD := Lib.hid hdd
              clear hst hdd hd hd'
              generalize mn.steps = st at HST hsn
              have hsd : decide (a2 < st) = false := by simpa using hsn
              go_wp2_with (first
                | (go_at_call 20; refine HST.out.mono ?_; rintro e w' ⟨rfl, rfl⟩)
                | (go_at_call 19; refine HDD.out.mono ?_; rintro e w' ⟨rfl, rfl⟩))
              go_roundw
              case rel => exact ⟨k + 1, mn, f6, by omega, by go_num, HP6⟩
              case measure => simp [intOf]; omega
        · have hd5 : decide (o.k < 5) = false := by simpa using h5
          have HP6 : Hid (StopAt w a2 L (k + 1) m p f wo) := Lib.hid ⟨DO.out, HP.out.own, HP.out.bw.trans (HBO.out.mono HP.out.bw.size), HP.out.ok.mono (by omega), HP.out.inv⟩
          have hst := steps_any HP6.out.dev
          have hdd := dead_any HP6.out.dev
          by_cases hd : m.dead = true
          · have hsn : m.steps = a2 := by have := HP6.out.inv.sum; have := HP6.out.inv.dead hd; omega
            rw [hsn] at hst
            rw [hd] at hdd
            have HST := Lib.hid hst
            have HDD := Lib.hid hdd
            clear hst hdd hd hsn
            go_wp2_with (first
              | (go_at_call 20; refine HST.out.mono ?_; rintro e w' ⟨rfl, rfl⟩)
              | (go_at_call 19; refine HDD.out.mono ?_; rintro e w' ⟨rfl, rfl⟩))
            go_roundw
            case rel => exact ⟨k + 1, m, f, by omega, by go_num, HP6⟩
            case measure => simp [intOf]; omega
          · have hd' : m.dead = false := by simpa using hd
            have hsn : ¬ a2 < m.steps := by have := HP6.out.inv.sum; have := HP6.out.inv.f0; omega
            rw [hd'] at hdd
            have HST := Lib.hid hst
            have HDD := Lib.hid hdd
            clear hst hdd hd hd'
            generalize m.steps = st at HST hsn
            have hsd : decide (a2 < st) = false := by simpa using hsn
            go_wp2_with (first
              | (go_at_call 20; refine HST.out.mono ?_; rintro e w' ⟨rfl, rfl⟩)
              | (go_at_call 19; refine HDD.out.mono ?_; rintro e w' ⟨rfl, rfl⟩))
            go_roundw
            case rel => exact ⟨k + 1, m, f, by omega, by go_num, HP6⟩
            case measure => simp [intOf]; omega
      · have hlt' : ¬ (k : Int) < (os.length : Int) := by omega
        obtain rfl : k = os.length := by omega
        have hdd := dead_any HP.out.dev
        by_cases hd : m.dead = true
        · rw [hd] at hdd
          have hg1 := get_any HP.out.dev 0
          have hs1 := HP.out.ok.s1
          have hstr := fun x => store_any HP.out.dev 0 x (by omega)
          have HG1 := Lib.hid hg1
          have HDD := Lib.hid hdd
          have HSTR := Lib.hid hstr
          have HDS := Lib.hid fun x => dead_store hd 0 x
          clear hdd hg1 hs1 hstr
          go_wp2_with (first
            | (go_at_call 19; refine HDD.out.mono ?_; rintro e w' ⟨rfl, rfl⟩)
            | (go_at_call 13; refine HG1.out.mono ?_; rintro e w' ⟨rfl, rfl⟩)
            | fail)
          obtain ⟨hc1, hdd2, hnow, hLL⟩ := HDS.out (IntKind.u64.wrap (getNow m 0 + 1))
          refine (HSTR.out (IntKind.u64.wrap (getNow m 0 + 1))).mono ?_
          rintro e w6 ⟨rfl, f6, d6, k6, o6⟩
          have hok1 := (store_ok HP.out.ok 0 (IntKind.u64.wrap (getNow m 0 + 1))).s1
          generalize Nv.store m 0 (IntKind.u64.wrap (getNow m 0 + 1)) = r1 at hc1 hdd2 hnow hLL d6 hok1 ⊢
          obtain ⟨m1, c1⟩ := r1
          simp only at hc1 hdd2 hnow hLL d6 hok1 ⊢
          have hcne : ((c1 : Int) != 0) = true := by simpa using hc1
          obtain ⟨hf1, hf2, hf3⟩ := dead_fence hdd2
          have hb6 : Below w.heap.size w w6 := HP.out.bw.trans (k6.below (B := w.heap.size) HP.out.bw.size HP.out.own)
          have hB6 := Lib.hid hb6
          have HO6 : Hid (∀ b, f6.own p b → w.heap.size ≤ b) := Lib.hid fun b hb => by
            rcases o6 b hb with h | h
            · exact HP.out.own b h
            · have := HP.out.bw.size; omega
          have D6 := Lib.hid d6
          have hgg : ∀ m2 : Mdl, m2.now = m.now → m2.L = m.L → getNow m2 0 = getNow m 0 := fun m2 h1 h2 => by unfold getNow hasW; rw [h1, h2]
          have hfc := fence_any d6 (by omega)
          rcases hfe : Nv.fence m1 with ⟨m2, c2⟩
          rw [hfe] at hfc hf1 hf2 hf3
          simp only at hf1 hf2 hf3
          subst hf1
          have hge : getNow m2 0 = getNow m 0 := hgg m2 (hf2.trans hnow) (hf3.trans hLL)
          have HFC := Lib.hid hfc
          have HGE := Lib.hid hge
          clear hc1 hdd2 k6 o6 d6 hb6 hgg hfc hfe hf2 hf3 hnow hLL hge hok1
          go_wp2_with (first
            | (go_at_call 26; refine HFC.out.mono ?_; rintro e w7 ⟨rfl, f7, d7, k7, o7⟩; have d7' : Dev w7 p f7 m2 := d7; have hg2 := get_any d7' 0; rw [HGE.out] at hg2; have HG2 := Lib.hid hg2; have B7 := Lib.hid (hB6.out.trans (k7.below (B := w.heap.size) hB6.out.size HO6.out)); clear d7 d7' k7 o7 hg2)
            | (go_at_call 13; refine HG2.out.mono ?_; rintro e w' ⟨rfl, rfl⟩))
          go_ret
          exact ⟨rfl, B7.out⟩
        · have hd' : m.dead = false := by simpa using hd
          rw [hd'] at hdd
          have HDD := Lib.hid hdd
          clear hdd hd hd'
          go_wp2_with (go_at_call 19; refine HDD.out.mono ?_; rintro e w' ⟨rfl, rfl⟩)
          go_ret
          exact ⟨rfl, HP.out.bw⟩

set_option maxRecDepth 100000 in
theorem lifted (os : Os) (started : os.Started) (H : Type) (enc : TypeId × Value → H) :
    ReturnsInHanded {} Try.checked os 6 .any (Rows.nvmStopsSpec.pre6 enc Try.prog Try.f6 Rows.nvmStopsRow.domain false) (Rows.nvmStopsSpec.post enc Try.prog Try.f6 false true false false) := by
  refine returnsInHanded_of_change (C := Try.checked) own started (by kernel_rfl) Try.func6
    (ChangeSpec.witness6 (enc := enc) (C := Try.checked) false ⟨#[], #[.slice none 0 0, .slice none 0 0, .int .u8 0], []⟩ 8 (by kernel_rfl) (by kernel_rfl) (by kernel_rfl) (by kernel_rfl)) ?_
  intro W base args ds gs before hval0 hW hcnd _
  have hval : ∀ (j : Nat) t v, Try.f6.params[j]? = some t → args[j]? = some v → Value.okWide Try.prog W .any base t v := hval0
  have hW' := hW
  obtain ⟨p, q, hA0, hV, rfl, hfz, hnd⟩ := hW
  have hA : DataW.TrodAll enc Try.prog W 0 (fun _ => true) true Try.f6.params.toList args.toList ds p := hA0
  rw [Try.params6] at hA hval
  obtain ⟨v0, vs0, d0, ds0, p0, q0, hargs, rfl, rfl, h0, r0⟩ := trodAll_cons hA
  obtain ⟨v1, vs1, d1, ds1, p1, q1, rfl, rfl, rfl, h1, r1⟩ := trodAll_cons r0
  obtain ⟨v2, vs2, d2, ds2, p2, q2, rfl, rfl, rfl, h2, r2⟩ := trodAll_cons r1
  obtain ⟨rfl, rfl, rfl⟩ := trodAll_nil r2
  obtain rfl : args = #[v0, v1, v2] := by cases args; simp_all
  obtain ⟨rfl, rfl⟩ := trodVars_none hV
  obtain ⟨a0, len0, cap0, rfl⟩ := okWide_slice Try.underlying22 (hval 0 22 v0 rfl rfl)
  have k0 := h0
  have lt0 : ∀ x ∈ p0, x.block < W.heap.size := by obtain ⟨m, hm⟩ := k0; exact DataW.trod_lt m _ _ _ hm
  obtain ⟨z0, w0⟩ : ∃ zs, IsRow .u64 W a0 len0 cap0 zs := isRow_of Try.underlying22 Try.underlying33 (by kernel_rfl) h0
  have k1 := h1
  have lt1 : ∀ x ∈ p1, x.block < W.heap.size := by obtain ⟨m, hm⟩ := k1; exact DataW.trod_lt m _ _ _ hm
  obtain ⟨a2, rfl, rfl, rfl, w2⟩ := open_int Try.underlying5 (hval 2 5 v2 rfl rfl) h2
  clear hA0 hval0
  refine (walk a0 len0 cap0 z0 v1 a2 W w0 (hval 1 23 v1 rfl rfl) k1 w2 ).mono fun e W' ⟨he, bel⟩ => ?_
  subst he
  exact ⟨_, rfl, _, _, _, [], _, [], hW', trodAll_mk1 (shut_bool Try.underlying4 _), (trodAll_cons_mk (Below.trod laidOut (by kernel_rfl) (of_decide_eq_true (by kernel_rfl)) k0 bel lt0) (trodAll_cons_mk (Below.trod laidOut (by kernel_rfl) (of_decide_eq_true (by kernel_rfl)) k1 bel lt1) (trodAll_cons_mk (shut_int Try.underlying5 w2) trodAll_mk0))), rfl, bel.frame _, fun h => by cases h⟩

theorem over : Rows.nvmStopsRow.holds Try.pinned (OpenSpec.ofChange Rows.nvmStopsSpec) :=
  OpenClaim.holds_of_wide 6 Try.f6 rfl rfl rfl rfl rfl rfl rfl ⟨rfl, rfl, rfl, rfl, rfl⟩ rfl rfl rfl rfl rfl (by kernel_rfl) Try.func6 (by kernel_rfl)
    (of_decide_eq_true (by kernel_rfl)) (by unfold Func.isWrapper; first | (rw [if_pos (by decide +kernel)]; kernel_rfl) | (rw [if_neg (by decide +kernel)]; exact ⟨rfl, rfl⟩))
    (fun os started H enc _ => lifted os started H enc)

/-- The statement. -/
theorem proved : Rows.NvmStopsSaid := over
#print axioms proved
end Go.Proofs.Ytacokoodaonokaa.nvmStops
