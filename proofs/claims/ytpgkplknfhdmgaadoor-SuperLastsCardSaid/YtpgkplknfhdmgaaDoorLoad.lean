/- A device of words; all that lasts; the dirty lines. -/
import Derived.Test.YtpgkplknfhdmgaaDoorNew
import Derived.Test.YtpgkplknfhdmgaaDoorApp
namespace Go.Proofs.YtpgkplknfhdmgaaDoor
open Go.ChangeShapes Go.WideShapes Go.ChangeAt Go.RowKit Nv
set_option linter.unusedVariables false

theorem upS_nat (n : Nat) : (upS (n : Int) 8).toNat = linesFor n := by
  unfold upS linesFor; split <;> omega

theorem fresh_congr {w : World} {p : Nat} {f : Fp} {L : Nat} {g g' : Nat → Int} (h : Dev w p f (fresh L g)) (hg : ∀ j, j < 8 * L → g j = g' j) : Dev w p f (fresh L g') where
  hp := h.hp
  hl := h.hl.congr fun k hk => by show Value.int .u64 (g k) = .int .u64 (g' k); rw [hg k hk]
  hn := h.hn.congr fun k hk => by show Value.int .u64 (g k) = .int .u64 (g' k); rw [hg k hk]
  hd := h.hd
  hm := h.hm
  ne := h.ne
  pend := h.pend
  back := h.back
  hn' := h.hn'
  hf := h.hf
  hlo := h.hlo
  hL := h.hL
  hpb := h.hpb

section
variable {w : World} {p : Nat} {f : Fp} {m : Mdl}

/-- All words of a device's line are given anew. -/
theorem Dev.allLast {w' : World} (h : Dev w p f m) (g : Nat → Int) (hk : Keep (fun x => x = f.bl) w w') (hr : Row w' f.bl 22 (8 * m.L) (fun j => .int .u64 (g j))) : Dev w' p f { m with last := g } where
  hp := (hk.block p h.ptr_lt h.lp.symm).trans h.hp
  hl := hr
  hn := hk.row h.hn h.ne.symm
  hd := hk.row h.hd h.ld.symm
  hm := grown_of_keep hk h.hm.lt h.lm.symm h.hm
  ne := h.ne
  pend := fun x hx => by
    obtain ⟨i, b, c, e1, e2, e3, e4, e5, e6, e7, e8⟩ := h.pend x hx
    exact ⟨i, b, c, e1, e2, e3, e4, hk.row e5 e6, e6, e7, e8⟩
  back := h.back
  hn' := h.hn'
  hf := h.hf
  hlo := h.hlo
  hL := h.hL
  hpb := fun b hb => Nat.lt_of_lt_of_le (h.hpb b hb) hk.size
theorem Dev.allNow {w' : World} (h : Dev w p f m) (g : Nat → Int) (hk : Keep (fun x => x = f.bn) w w') (hr : Row w' f.bn 22 (8 * m.L) (fun j => .int .u64 (g j))) : Dev w' p f { m with now := g } where
  hp := (hk.block p h.ptr_lt h.np.symm).trans h.hp
  hl := hk.row h.hl h.ne
  hn := hr
  hd := hk.row h.hd h.nd.symm
  hm := grown_of_keep hk h.hm.lt h.nm.symm h.hm
  ne := h.ne
  pend := fun x hx => by
    obtain ⟨i, b, c, e1, e2, e3, e4, e5, e6, e7, e8⟩ := h.pend x hx
    exact ⟨i, b, c, e1, e2, e3, e4, hk.row e5 e7, e6, e7, e8⟩
  back := h.back
  hn' := h.hn'
  hf := h.hf
  hlo := h.hlo
  hL := h.hL
  hpb := fun b hb => Nat.lt_of_lt_of_le (h.hpb b hb) hk.size

theorem pad_row {w : World} {b n : Nat} {ws : List Int} (hn : ws.length ≤ n) (h : Row w b 22 n (fun j => if 0 ≤ j ∧ j < 0 + ws.length then .int .u64 (ws.getD (j - 0) 0) else .int .u64 0)) : Row w b 22 n (fun j => .int .u64 (padded ws j)) :=
  h.congr fun j _ => by
    by_cases e : j < ws.length
    · rw [if_pos (by omega)]; rfl
    · rw [if_neg (by omega)]; unfold padded; rw [List.getD_eq_getElem?_getD, List.getElem?_eq_none (by omega)]; rfl

set_option maxHeartbeats 400000 in
theorem load_any (v : Value) (ws : List Int) (w : World) (hv : IsInts .u64 w v ws) (hlen : ws.length ≤ 268435456) :
    Calls Tryd.prog 11 #[v] w (MadeDev (fresh (linesFor ws.length) (padded ws)) w) := by
  obtain ⟨a, cap, rfl, hc, hx⟩ := hv
  have hnew := fun w => new_any (ws.length : Int) w (by omega) (by omega)
  simp only [upS_nat] at hnew
  have hfit : ws.length ≤ 8 * linesFor ws.length := by unfold linesFor; omega
  generalize linesFor ws.length = L at hnew hfit ⊢
  have HN := Lib.hid hnew
  have HX := Lib.hid hx
  have hsrc : ∀ w1 : World, Keep (fun _ => False) w w1 → 0 < ws.length → ∃ ad, a = some ad ∧ ∀ j, j < ws.length → w1.cell? (ad.add j) = some (.int .u64 (ws.getD j 0)) := fun w1 hk h0 => by
    obtain ⟨b, off, rfl, hlt, hcell⟩ := hx.resolve_left (by rintro rfl; simp at h0)
    refine ⟨_, rfl, fun j hj => ?_⟩
    rw [addr_add, hk.cell (p := ⟨b, off + j, none⟩) hlt (fun h => h)]
    exact hcell j hj
  have HS := Lib.hid hsrc
  clear hnew hx hsrc
  generalize hn : ws.length = n at hlen hfit hc
  have HL := Lib.hid hn
  clear hn
  go_enter Tryd.func11, Tryd.ntmps11
  go_wp2_with fail
  have hnw := HN.out
  rw [HL.out] at hnw
  refine (hnw _).mono ?_
  clear hnw
  rintro e w1 ⟨p, f, rfl, hd, hk, ho⟩
  have c0 : w1.cell? ⟨p, 0, none⟩ = some (.slice (some ⟨f.bl, 0, none⟩) (8 * L) (8 * L)) := hd.c0
  have hr : Row w1 f.bl 22 (8 * L) (fun _ => .int .u64 0) := hd.hl
  have hsup : ∀ w2, Row w2 f.bl 22 (8 * L) (fun j => if 0 ≤ j ∧ j < 0 + n then .int .u64 (ws.getD (j - 0) 0) else .int .u64 0) → Keep (fun x => x = f.bl) w1 w2 → Dev w2 p f { fresh L (fun _ => 0) with last := padded ws } := fun w2 h2 k2 =>
    hd.allLast (padded ws) k2 (pad_row (by rw [HL.out]; exact hfit) (by rw [HL.out]; exact h2))
  have hsup2 : ∀ w2 w3, Dev w2 p f { fresh L (fun _ => 0) with last := padded ws } → Row w3 f.bn 22 (8 * L) (fun j => if 0 ≤ j ∧ j < 0 + n then .int .u64 (ws.getD (j - 0) 0) else .int .u64 0) → Keep (fun x => x = f.bn) w2 w3 → Dev w3 p f (fresh L (padded ws)) := fun w2 w3 h2 h3 k3 =>
    h2.allNow (padded ws) k3 (pad_row (by rw [HL.out]; exact hfit) (by rw [HL.out]; exact h3))
  have hs1 : 0 < n → ∃ ad, a = some ad ∧ ∀ j, j < n → w1.cell? (ad.add j) = some (.int .u64 (ws.getD j 0)) := by have := HS.out w1 hk; rwa [HL.out] at this
  have hs2 : ∀ w2, Keep (fun x => x = f.bl) w1 w2 → 0 < n → ∃ ad, a = some ad ∧ ∀ j, j < n → w2.cell? (ad.add j) = some (.int .u64 (ws.getD j 0)) := fun w2 k2 => by
    have := HS.out w2 (hk.trans k2 (fun i hi e => by have := ho _ (own_bl f p); omega)); rwa [HL.out] at this
  have H1 := Lib.hid hs1
  have H2 := Lib.hid hs2
  have HR := Lib.hid hr
  have HU := Lib.hid hsup
  have HU2 := Lib.hid hsup2
  have HK := Lib.hid hk
  have HO := Lib.hid ho
  have hmin : n = Nat.min n (8 * L) := (Nat.min_eq_left hfit).symm
  have HM := Lib.hid hmin
  clear hs1 hs2 hr hsup hsup2 hk ho hd hmin
  go_wp2_with (first
    | ((with_reducible refine wpList_copy_cells rfl _ _ 36 36 rfl 22 Tryd.underlying36 infoU64s _ a (8 * L) (8 * L) n cap rfl rfl f.bl 0 (8 * L) 22 _ (fun j => .int .u64 (ws.getD j 0)) n HR.out HM.out (fun h => ⟨rfl, H1.out h⟩) (by omega) (fun _ => rfl) ?_); intro w2 r2 k2; have h2 := HU.out w2 r2 k2; have c1 : w2.cell? ⟨p, 1, none⟩ = some (.slice (some ⟨f.bn, 0, none⟩) (8 * L) (8 * L)) := h2.c1; have R2 : Hid (Row w2 f.bn 22 (8 * L) (fun _ => .int .u64 0)) := h2.hn; have D2 := Lib.hid h2; have K2 := Lib.hid k2; clear h2 r2 k2)
    | ((with_reducible refine wpList_copy_cells rfl _ _ 36 36 rfl 22 Tryd.underlying36 infoU64s _ a (8 * L) (8 * L) n cap rfl rfl f.bn 0 (8 * L) 22 _ (fun j => .int .u64 (ws.getD j 0)) n R2.out HM.out (fun h => ⟨rfl, H2.out _ K2.out h⟩) (by omega) (fun _ => rfl) ?_); intro w3 r3 k3; have D3 := Lib.hid (HU2.out _ w3 D2.out r3 k3); have K3 := Lib.hid k3; clear r3 k3))
  go_ret
  have ho := HO.out
  exact ⟨p, f, rfl, D3.out, (HK.out.trans K2.out (fun i hi e => by have := ho _ (own_bl f p); omega)).trans K3.out (fun i hi e => by have := ho _ (own_bn f p); omega), ho⟩

/-- All words of a device, in a list of its own. -/
def AllTo (m : Mdl) (w : World) (e : Ending) (w' : World) : Prop := ∃ B, e = .returned (.slice (some ⟨B, 0, none⟩) (8 * m.L) (8 * m.L)) ∧ w.heap.size ≤ B ∧ Row w' B 22 (8 * m.L) (fun j => .int .u64 (m.last j)) ∧ Keep (fun _ => False) w w'

set_option maxHeartbeats 400000 in
theorem all_any (h : Dev w p f m) : Calls Tryd.prog 27 #[.pointer (some ⟨p, 0, none⟩)] w (AllTo m w) := by
  have hL := h.hL
  have c0 := h.c0
  obtain ⟨C1, hs1, hc1, hm1⟩ := make_words (8 * m.L) (by omega)
  rw [show ((8 * m.L : Nat) : Int) = 8 * (m.L : Int) from by omega] at hm1
  have h1 := h.alloc (.cells C1 22)
  have c0' := h1.c0
  have hr : Row (w.alloc (.cells C1 22)) w.heap.size 22 (8 * m.L) (fun _ => .int .u64 0) := Row.new w _ C1 _ _ hs1 hc1
  have hsrc : ∀ j, j < 8 * m.L → (w.alloc (.cells C1 22)).cell? ((⟨f.bl, 0, none⟩ : Addr).add j) = some (.int .u64 (m.last j)) := fun j hj => by rw [addr_add, Nat.zero_add]; exact h1.hl.cell hj
  have HR := Lib.hid hr
  have HS := Lib.hid hsrc
  have HD := Lib.hid h1
  clear h1 hr hsrc h
  go_enter Tryd.func27, Tryd.ntmps27
  go_wp2_with ((with_reducible refine wpList_copy_cells rfl _ _ 36 36 rfl 22 Tryd.underlying36 infoU64s _ _ (8 * m.L) (8 * m.L) (8 * m.L) (8 * m.L) rfl rfl w.heap.size 0 (8 * m.L) 22 _ (fun j => .int .u64 (m.last j)) (8 * m.L) HR.out (Nat.min_self _).symm (fun _ => ⟨rfl, _, rfl, HS.out⟩) (by omega) (fun _ => rfl) ?_); intro w2 r2 k2; have R2 := Lib.hid r2; have K2 := Lib.hid k2; clear r2 k2)
  go_ret
  exact ⟨_, rfl, Nat.le_refl _, R2.out.congr fun j hj => by rw [if_pos (by omega)]; rfl, ((Keep.refl _ w).alloc _).trans K2.out (fun i hi e => by omega)⟩

/-- Lines below k that are dirty. -/
def dirtyTo (m : Mdl) (k : Nat) : List Int := ((List.range k).filter m.dirty).map Int.ofNat
theorem dirtyTo_yes {m : Mdl} {k : Nat} (h : m.dirty k = true) : dirtyTo m (k + 1) = dirtyTo m k ++ [(k : Int)] := by
  unfold dirtyTo; rw [List.range_succ, List.filter_append, List.map_append]; simp [h]
theorem dirtyTo_no {m : Mdl} {k : Nat} (h : m.dirty k = false) : dirtyTo m (k + 1) = dirtyTo m k := by
  unfold dirtyTo; rw [List.range_succ, List.filter_append, List.map_append]; simp [h]
theorem dirtyTo_len (m : Mdl) (k : Nat) : (dirtyTo m k).length ≤ k := by
  unfold dirtyTo; rw [List.length_map]; exact Nat.le_trans (List.length_filter_le _ _) (by simp)

def DirtyAt (m : Mdl) (k : Nat) (w : World) (v : Value) (wr : World) : Prop :=
  wr.ownsRow w.heap.size 3 1 v (dirtyTo m k).length ((dirtyTo m k).map (Value.int .i64)) ∧ Below w.heap.size w wr
theorem infoI : (Tryd.prog.info? 3).map (fun i => (i.zero, i.size, i.bytes)) = some (some (.int .i64 0), 1, 8) := by kernel_rfl

/-- A call hands back a slice of these integers, in new memory. -/
def MadeNew (k : IntKind) (xs : List Int) (w : World) (e : Ending) (w' : World) : Prop := ∃ v, e = .returned v ∧ IsInts k w' v xs ∧ Below w.heap.size w w' ∧ ∀ b, v.ownBlock = some b → w.heap.size ≤ b

set_option maxHeartbeats 1000000 in
theorem dirty_any (h : Dev w p f m) : Calls Tryd.prog 28 #[.pointer (some ⟨p, 0, none⟩)] w (MadeNew .i64 (dirtyTo m m.L) w) := by
  obtain ⟨i0, hi, hz0, hz1, hz2⟩ := info_parts infoI
  have hL := h.hL
  have c2 := h.c2
  have hdlt := h.hd.lt
  have hcells : ∀ k, k < m.L → w.cell? ⟨f.bd, k, none⟩ = some (.bool (m.dirty k)) := fun k hk => h.hd.cell hk
  have HC := Lib.hid hcells
  have H0 : Hid (DirtyAt m 0 w (.slice none 0 0) w) := Lib.hid ⟨World.ownsRow_nil _ _ _ _, Below.refl _ _⟩
  clear h hcells
  go_enter Tryd.func28, Tryd.ntmps28
  go_wp2_with fail
  go_loopw [3, 11] (fun v i wr => ∃ k : Nat, k ≤ m.L ∧ i = .int .i64 k ∧ Hid (DirtyAt m k w v wr)) (fun _ i _ => m.L - (intOf i).toNat)
  case atStart => exact ⟨0, by omega, rfl, H0⟩
  case round =>
    obtain ⟨k, hk, rfl, HB⟩ := hrel
    by_cases hlt : k < m.L
    · have hlt' : (k : Int) < ((m.L : Nat) : Int) := by omega
      have hcell : wr.cell? ⟨f.bd, k, none⟩ = some (.bool (m.dirty k)) := by rw [HB.out.2.cell (p := ⟨f.bd, k, none⟩) hdlt]; exact HC.out k hlt
      have hsz : w.heap.size ≤ wr.heap.size := HB.out.2.size
      have hlen := dirtyTo_len m k
      cases hd : m.dirty k
      · have hE := dirtyTo_no hd
        rw [hd] at hcell
        have HN : Hid (DirtyAt m (k + 1) w u3 wr) := Lib.hid (by have := HB.out; unfold DirtyAt at this ⊢; rw [hE]; exact this)
        clear hE hd HB
        go_wp2_with fail
        go_roundw
        case rel => exact ⟨k + 1, by omega, by go_num, HN⟩
        case measure => simp [intOf]; omega
      · have hE := dirtyTo_yes hd
        rw [hd] at hcell
        have HE := Lib.hid hE
        clear hE hd
        go_wp2_with (at_builtin; refine wpList_append_own _ rfl (.tmp 17) (.tmp 19) 64 rfl w.heap.size 3 i0 (.int .i64 0) 1 8 Tryd.underlying64 hi hz0 hz1 hz2 rfl (by decide) _ _ _ rfl (HB.out.1.alloc _) ⟨wr.heap.size, 0, none⟩ 1 1 [.int .i64 (k : Nat)] rfl rfl (cell_new1 _ _ _) (by intro u hu; simp at hu; subst hu; rfl) (by unfold maxLen; omega) (by omega) (by simp; omega) ?_)
        intro v' w1 hown' hgrow _
        have HN : Hid (DirtyAt m (k + 1) w v' w1) := by
          refine Lib.hid ⟨?_, (HB.out.2.alloc hsz _).grown hgrow (by simp; omega) (fun b hb => (HB.out.1.lt b hb).1)⟩
          rw [HE.out, List.map_append, List.length_append]
          exact hown'
        clear hown' hgrow
        go_wp2_with fail
        go_roundw
        case rel => exact ⟨k + 1, by omega, by go_num, HN⟩
        case measure => simp [intOf]; omega
    · have hlt' : ¬ (k : Int) < ((m.L : Nat) : Int) := by omega
      obtain rfl : k = m.L := by omega
      have HF : Hid (∃ v', u3 = v' ∧ IsInts .i64 wr v' (dirtyTo m m.L) ∧ Below w.heap.size w wr ∧ ∀ b, v'.ownBlock = some b → w.heap.size ≤ b) := Lib.hid ⟨u3, rfl, .of_own HB.out.1, HB.out.2, fun b hb => (HB.out.1.lt b hb).1⟩
      clear HB
      go_wp2_with fail
      go_ret
      obtain ⟨v', rfl, hF⟩ := HF.out
      exact ⟨u3, rfl, hF⟩
end

end Go.Proofs.YtpgkplknfhdmgaaDoor
