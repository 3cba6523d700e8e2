/- A line is evicted. -/
import Derived.Test.YtnkndhmkamaccaaCrash
namespace Go.Proofs.Ytnkndhmkamaccaa
open Go.ChangeShapes Go.WideShapes Go.ChangeAt Go.RowKit Nv
set_option linter.unusedVariables false

section
variable {w : World} {p : Nat} {f : Fp} {m : Mdl}

set_option maxHeartbeats 1000000 in
theorem evict_any (h : Dev w p f m) (a : Int) :
    Calls Try.prog 40 #[.pointer (some ⟨p, 0, none⟩), .int .i64 a] w (CodeTo p f (Nv.evict m a) w) := by
  have hL := h.hL
  by_cases hw : hasL m a = true
  · obtain ⟨k, rfl, hk⟩ := hasL_cast hw
    have hk' : (k : Int) < ((m.L : Nat) : Int) := by omega
    have c6 := h.c6
    cases hs : m.dead
    · have hr : Nv.evict m k = (evictM m k, 0) := by unfold Nv.evict; rw [if_neg (by rw [hw]; decide), if_neg (by rw [hs]; decide)]; rfl
      rw [hr]
      rw [hs] at c6
      have hkey : keyOf Try.prog 3 (.int .i64 k) = some (.int .i64 k) := Go.Maps.keyOf_int_mk Try.underlying3 (WalkArith.wf_i64 (by omega))
      have HK := Lib.hid hkey
      have c0 := h.c0
      have c1 := h.c1
      have hd : Row w.drew f.bl 33 (8 * m.L) (fun k => .int .u64 (m.last k)) := h.hl
      have hsrc : ∀ j, j < 8 → w.drew.cell? ((⟨f.bn, 8 * k, none⟩ : Addr).add j) = some (.int .u64 (lineOf m.now k j)) := fun j hj => by rw [addr_add]; exact h.hn.cell (k := 8 * k + j) (by omega)
      have hsup : ∀ w2, Row w2 f.bl 33 (8 * m.L) (fun j => if 8 * k ≤ j ∧ j < 8 * k + 8 then .int .u64 (lineOf m.now k (j - 8 * k)) else .int .u64 (m.last j)) → Keep (fun x => x = f.bl) w.drew w2 → Dev w2 p f (Nv.setLast m k (lineOf m.now k)) := fun w2 h2 k2 => Dev.laidLast (h.drewN 1) hk k2 h2
      have hne : p ≠ f.bl := h.lp.symm
      have HR := Lib.hid hd
      have HS := Lib.hid hsrc
      have HU := Lib.hid hsup
      have H := Lib.hid h
      have hpl := h.ptr_lt
      clear hr hs hkey hd hsrc hsup
      go_enter Try.func40, Try.ntmps40
      go_wp2_with fail
      refine (hasLine_any h _).mono ?_
      rintro e w' ⟨rfl, rfl⟩
      clear h
      go_wp2_with fail
      go_region_held3 (fun w' => w'.cell? ⟨p, 0, none⟩ = some (.slice (some ⟨f.bl, 0, none⟩) (8 * m.L) (8 * m.L)) ∧ w'.cell? ⟨p, 1, none⟩ = some (.slice (some ⟨f.bn, 0, none⟩) (8 * m.L) (8 * m.L)))
        (first | go_keep | exact ⟨(k2.cell (p := ⟨p, 0, none⟩) hpl hne).trans c0, (k2.cell (p := ⟨p, 1, none⟩) hpl hne).trans c1⟩)
        (first
          | (go_at_call 30; refine (part_any _ _ (8 * m.L) (8 * m.L) k (by omega) (by omega) (by omega)).mono ?_; rintro e w' ⟨rfl, rfl⟩)
          | ((with_reducible refine step_copy_cells rfl _ _ 22 22 rfl 33 Try.underlying22 infoU64s _ _ 8 8 8 8 rfl rfl f.bl (8 * k) (8 * m.L) 33 _ (fun j => .int .u64 (lineOf m.now k j)) 8 HR.out rfl (fun _ => ⟨rfl, _, rfl, HS.out⟩) (by omega) (fun _ => rfl) ?_); intro w2 r2 k2))
      have d2 := HU.out w2 r2 k2
      have c2 : w2.cell? ⟨p, 2, none⟩ = some (.slice (some ⟨f.bd, 0, none⟩) m.L m.L) := d2.c2
      have e2 := d2.hd.frozen k
      have hc2 := d2.hd.cell (k := k) hk
      have d3 := d2.setDirty k false
      have c3 := d3.c3
      have hm3 := d3.hm
      have HM := Lib.hid hm3
      have D3 := Lib.hid d3
      have K2 := Lib.hid k2
      clear r2 k2 d2 d3 hm3
      go_wp2_with (at_delete; refine wpList_delete_own _ rfl _ _ 58 3 rfl 22 keyI Try.underlying58 blkElem f.bm f.n f.D rfl HM.out _ _ rfl HK.out ?_; intro w4 ho4 ht4; have HO := Lib.hid ho4; have HG := Lib.hid ht4.grown; clear ho4 ht4)
      go_ret
      have d4 := D3.out.delWait (i := k) HO.out HG.out
      have k1 : Keep (f.own p) w w2 := (Keep.refl (f.own p) w).drew.trans K2.out (fun i _ e => by subst e; exact own_bl f p)
      have k3 := k1.setCell (p := ⟨f.bd, k, none⟩) (fun _ => own_bd f p) (.bool false)
      exact ⟨rfl, _, d4, k3.trans (Keep.ofGrown (S := fun x => x = f.bm) HG.out (by intro b hb; cases hb; rfl)) (fun i _ e => by subst e; exact own_bm f p), fun b hb => .inl hb⟩
    · have hr : Nv.evict m k = (m, 3) := by unfold Nv.evict; rw [if_neg (by rw [hw]; decide), if_pos hs]
      rw [hr]
      rw [hs] at c6
      clear hr hs
      go_enter Try.func40, Try.ntmps40
      go_wp2_with fail
      refine (hasLine_any h _).mono ?_
      rintro e w' ⟨rfl, rfl⟩
      go_wp2_with fail
      go_ret
      exact ⟨rfl, h.to⟩
  · have hw' : hasL m a = false := by simpa using hw
    have hr : Nv.evict m a = (m, 2) := by unfold Nv.evict; rw [if_pos hw']
    rw [hr]
    clear hr hw
    go_enter Try.func40, Try.ntmps40
    go_wp2_with fail
    refine (hasLine_any h _).mono ?_
    rintro e w' ⟨rfl, rfl⟩
    go_wp2_with fail
    go_ret
    exact ⟨rfl, h.to⟩
end

end Go.Proofs.Ytnkndhmkamaccaa
