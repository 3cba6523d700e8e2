/- Texts of the proof, merged: RefSpans10, BlkSpans, NvmInv, NvmLast, BlockDev, BlkStore, BlkFormat, RefSame10, GeoWords, BlkNew, Awake10. -/
import Derived.Test.YtaigocnnmjjhgaaDoorPk2
import Derived.Test.YtaigocnnmjjhgaaDoorPk1
import Derived.Test.YtaigocnnmjjhgaaDoorPk3
import Derived.Deep.RegionHeld3
import Derived.Test.YtaigocnnmjjhgaaDoorPk4
namespace Go.Proofs.YtaigocnnmjjhgaaDoor
open Go.ChangeShapes Go.WideShapes Go.ChangeAt Go.RowKit Bk
set_option linter.unusedVariables false

/-- A row so far, of n spans of type e. -/
def SpsAt (e : TypeId) (l : List (Int × Int)) (n B : Nat) (v : Value) (w wr : World) : Prop :=
  wr.ownsRow B e 2 v n ((flat2 l).map (Value.int .i64)) ∧ n = l.length ∧ Below B w wr
/-- One span more. -/
theorem SpsAt.snoc {e : TypeId} {l : List (Int × Int)} {n B : Nat} {v v' : Value} {w wr w1 : World} {o : Obj} {x y : Int} (hh : SpsAt e l n B v w wr) (hB : B ≤ wr.heap.size)
    (hown : w1.ownsRow B e 2 v' (n + 1) ((flat2 l).map (Value.int .i64) ++ [.int .i64 x, .int .i64 y])) (hg : (wr.alloc o).grownBy w1 v.ownBlock) : SpsAt e (l ++ [(x, y)]) (n + 1) B v' w w1 := by
  refine ⟨?_, by rw [List.length_append, ← hh.2.1]; rfl, (hh.2.2.alloc hB _).grown hg (by simp; omega) (fun b hb => (hh.1.lt b hb).1)⟩
  rw [flat2_app, List.map_append]
  exact hown
theorem flat2_bump (l : List (Int × Int)) (p : Int × Int) : ((flat2 (l ++ [p])).map (Value.int .i64)).set (l.length * 2 + 1) (.int .i64 (p.2 + 1)) = (flat2 (bump (l ++ [p]))).map (Value.int .i64) := by
  rw [bump_snoc, flat2_app, flat2_app, List.map_append, List.map_append, List.set_append_right _ _ (by rw [List.length_map, flat2_len]; omega)]
  congr 1
  rw [List.length_map, flat2_len, show l.length * 2 + 1 - l.length * 2 = 1 by omega]
  rfl
/-- The last span is one longer. -/
theorem SpsAt.bumped {e : TypeId} {l : List (Int × Int)} {n B g cap j : Nat} {w wr : World} {x : Int} (hne : l ≠ []) (hj : n = j + 1) (hx : (l.getLast hne).2 = x) (hh : SpsAt e l n B (.slice (some ⟨g, 0, none⟩) n cap) w wr) (hg : B ≤ g) :
    SpsAt e (bump l) n B (.slice (some ⟨g, 0, none⟩) n cap) w (wr.setCell ⟨g, j * 2 + 1, none⟩ (.int .i64 (x + 1))) := by
  have hl : l = l.dropLast ++ [l.getLast hne] := (List.dropLast_concat_getLast hne).symm
  have hd : l.dropLast.length = j := by have := hh.2.1; simp; omega
  refine ⟨?_, by rw [bump_len hne]; exact hh.2.1, hh.2.2.setCell (p := ⟨g, j * 2 + 1, none⟩) hg _⟩
  have hs := (hh.1.stored (j * 2 + 1) (.int .i64 (x + 1))).1
  have hb := flat2_bump l.dropLast (l.getLast hne)
  rw [← hl, hd, hx] at hb
  rw [← hb]
  exact hs

theorem SpsAt.last {e : TypeId} {l : List (Int × Int)} {n B g cap j : Nat} {w wr : World} (hne : l ≠ []) (hj : n = j + 1) (hh : SpsAt e l n B (.slice (some ⟨g, 0, none⟩) n cap) w wr) :
    wr.cell? ⟨g, j * 2 + 1, none⟩ = some (.int .i64 (l.getLast hne).2) ∧ wr.frozen? ⟨g, j * 2 + 1, none⟩ = false := by
  have hl := hh.2.1
  refine ⟨?_, hh.1.frozenAt _⟩
  rw [hh.1.cellAt _ (by omega), List.getElem?_map, (flat2_get l j (by omega)).2, List.getD_eq_getElem?_getD, List.getElem?_eq_getElem (by omega), List.getLast_eq_getElem]
  simp [show l.length - 1 = j by omega]
/-- Where the spans so far lie. -/
theorem SpsAt.at_ {e : TypeId} {l : List (Int × Int)} {n B : Nat} {v : Value} {w wr : World} (hh : SpsAt e l n B v w wr) (hn : 0 < n) : ∃ g cap, v = .slice (some ⟨g, 0, none⟩) n cap ∧ B ≤ g := by
  rcases hh.1.2 with ⟨_, h0⟩ | ⟨g, cap, _, rfl, hg, _⟩
  · omega
  · exact ⟨g, cap, rfl, hg⟩

theorem infoSp : (Tryd.prog.info? 70).map (fun i => (i.zero, i.size, i.bytes)) = some (some (.agg #[.int .i64 0, .int .i64 0]), 2, 16) := by kernel_rfl

set_option maxRecDepth 100000 in
set_option maxHeartbeats 2000000 in
theorem refSpans10_any (v : Value) (hs : List H3) (w : World) (h : IsHs w v hs) (hlen : hs.length ≤ 100000) :
    Calls Tryd.prog 18 #[v] w fun e w' => ∃ v', e = .returned v' ∧ IsSps w' v' (spansOf hs) ∧ Below w.heap.size w w' := by
  obtain ⟨i0, hi, hz0, hz1, hz2⟩ := info_parts infoSp
  obtain ⟨a, cap, rfl, hcap, hc⟩ := h
  have H0 : Hid (SpsAt 70 (spansTo hs 1) (spansTo hs 1).length w.heap.size (.slice none 0 0) w w) := Lib.hid ⟨World.ownsRow_nil _ _ _ _, rfl, Below.refl _ _⟩
  have HC := Lib.hid hc
  clear hc
  obtain ⟨n, hn⟩ : ∃ n, hs.length = n := ⟨_, rfl⟩
  have HN := Lib.hid hn
  have HE0 : Hid (n = 0 → spansTo hs n = spansTo hs 1) := Lib.hid fun h => by rw [h]; rfl
  rw [hn] at hcap hlen ⊢
  clear hn
  go_enter Tryd.func18, Tryd.ntmps18
  go_wp2_with fail
  go_loopw [3, 4] (fun v i wr => ∃ m L : Nat, 1 ≤ m ∧ (m ≤ n ∨ n = 0 ∧ m = 1) ∧ i = .int .i64 m ∧ L ≤ m ∧ Hid (SpsAt 70 (spansTo hs m) L w.heap.size v w wr)) (fun _ i _ => n - (intOf i).toNat)
  case atStart => exact ⟨1, 0, by omega, by omega, rfl, by omega, H0⟩
  case round =>
    obtain ⟨m, L, hm1, hm, rfl, hLm, HR⟩ := hrel
    by_cases hlt : m < n
    · have hlt' : ((m : Nat) : Int) < ((n : Nat) : Int) := by omega
      have hm0 : (0 : Int) ≤ ((m : Nat) : Int) := by omega
      obtain ⟨b, off, rfl, hb, hcell⟩ := HC.out.resolve_left (fun h => by have := HN.out; rw [h] at this; simp at this; omega)
      have d0 : wr.cell? ⟨b, off + m * 3, none⟩ = some (.int .i64 (kindAt hs m)) := (HR.out.2.2.cell (p := ⟨b, off + m * 3, none⟩) hb).trans (hcell m (by rw [HN.out]; exact hlt)).1
      by_cases hk : kindAt hs m = 0
      · rw [hk] at d0
        by_cases hq : 1 < m ∧ kindAt hs (m - 1) = 0
        · obtain ⟨q, rfl⟩ : ∃ q, m = q + 1 := ⟨m - 1, by omega⟩
          have hkq : kindAt hs q = 0 := by simpa using hq.2
          have d1 : wr.cell? ⟨b, off + q * 3, none⟩ = some (.int .i64 0) := by
            rw [← hkq]; exact (HR.out.2.2.cell (p := ⟨b, off + q * 3, none⟩) hb).trans (hcell q (by rw [HN.out]; omega)).1
          have hne := spansTo_ne hq.1 hq.2
          have HS := Lib.hid (spansTo_bump hq.1 hk hq.2)
          have hin := spansTo_in hs (q + 1)
          have hx := hin.2 _ (List.getLast_mem hne)
          have hLp : 0 < L := by rw [HR.out.2.1]; exact List.length_pos_iff.2 hne
          obtain ⟨g, cg, rfl, hg⟩ := HR.out.at_ hLp
          obtain ⟨j, rfl⟩ : ∃ j, L = j + 1 := ⟨L - 1, by omega⟩
          obtain ⟨e0, f0⟩ := HR.out.last hne rfl
          have HB := Lib.hid (HR.out.bumped hne rfl rfl hg)
          rw [← HS.out] at HB
          obtain ⟨hx1, hx2⟩ := hx
          generalize ((spansTo hs (q + 1)).getLast hne).2 = x at *
          have hq1 : (1 : Int) ≤ ((q : Nat) : Int) := by omega
          have hj0 : (0 : Int) ≤ ((j : Nat) : Int) := by omega
          have hx3 : x ≤ 100000 := by omega
          clear hk hq hkq hcell hne hin hLp HR
          go_wp2_with fail
          go_roundw
          case rel => exact ⟨q + 1 + 1, j + 1, by omega, by omega, by go_num, by omega, HB⟩
          case measure => simp [intOf]; omega
        · have HS := Lib.hid (spansTo_new hm1 hk hq)
          have hsz := HR.out.2.2.size
          by_cases hm2 : 1 < m
          · obtain ⟨q, rfl⟩ : ∃ q, m = q + 1 := ⟨m - 1, by omega⟩
            have hkq : ¬ kindAt hs q = 0 := fun h => hq ⟨hm2, by simpa using h⟩
            have d1 : wr.cell? ⟨b, off + q * 3, none⟩ = some (.int .i64 (kindAt hs q)) := (HR.out.2.2.cell (p := ⟨b, off + q * 3, none⟩) hb).trans (hcell q (by rw [HN.out]; omega)).1
            have hkq' : (kindAt hs q == 0) = false := by simpa using hkq
            have hq1 : (1 : Int) ≤ ((q : Nat) : Int) := by omega
            generalize kindAt hs q = kq at d1 hkq'
            clear hk hq hkq hcell
            go_wp2_with (at_builtin; refine wpList_append_own _ rfl (.tmp 38) (.tmp 41) 54 rfl w.heap.size 70 i0 _ 2 16 Tryd.underlying54 hi hz0 hz1 hz2 rfl (by decide) _ _ _ rfl (HR.out.1.alloc _) ⟨wr.heap.size, 0, none⟩ 1 1 [.int .i64 ((q : Int) + 1), .int .i64 1] rfl rfl (two_new _ _ _ _) (by intro u hu; simp at hu; rcases hu with rfl | rfl <;> rfl) (by unfold maxLen; omega) (by omega) (by simp; omega) ?_)
            intro v' w3 hown' hgrow _
            have HB : Hid (SpsAt 70 (spansTo hs (q + 1 + 1)) (L + 1) w.heap.size v' w w3) := Lib.hid (by rw [HS.out]; rw [show (((q + 1 : Nat)) : Int) = (q : Int) + 1 by omega]; exact HR.out.snoc hsz hown' hgrow)
            clear hown' hgrow HR
            go_wp2_with fail
            go_roundw
            case rel => exact ⟨q + 1 + 1, L + 1, by omega, by omega, by go_num, by omega, HB⟩
            case measure => simp [intOf]; omega
          · obtain rfl : m = 1 := by omega
            clear hk hq hcell
            go_wp2_with (at_builtin; refine wpList_append_own _ rfl (.tmp 38) (.tmp 41) 54 rfl w.heap.size 70 i0 _ 2 16 Tryd.underlying54 hi hz0 hz1 hz2 rfl (by decide) _ _ _ rfl (HR.out.1.alloc _) ⟨wr.heap.size, 0, none⟩ 1 1 [.int .i64 1, .int .i64 1] rfl rfl (two_new _ _ _ _) (by intro u hu; simp at hu; rcases hu with rfl | rfl <;> rfl) (by unfold maxLen; omega) (by omega) (by simp; omega) ?_)
            intro v' w3 hown' hgrow _
            have HB : Hid (SpsAt 70 (spansTo hs (1 + 1)) (L + 1) w.heap.size v' w w3) := Lib.hid (by rw [HS.out]; exact HR.out.snoc hsz hown' hgrow)
            clear hown' hgrow HR
            go_wp2_with fail
            go_roundw
            case rel => exact ⟨2, L + 1, by omega, by omega, by go_num, by omega, HB⟩
            case measure => simp [intOf]; omega
      · have HS := Lib.hid (spansTo_skip hm1 hk)
        have hk' : (kindAt hs m == 0) = false := by simpa using hk
        have hk2 : (kindAt hs m != 0) = true := by simpa using hk
        have HR' : Hid (SpsAt 70 (spansTo hs (m + 1)) L w.heap.size u3 w wr) := Lib.hid (by rw [HS.out]; exact HR.out)
        clear hk hcell
        go_wp2_with fail
        go_roundw
        case rel => exact ⟨m + 1, L, by omega, by omega, by go_num, by omega, HR'⟩
        case measure => simp [intOf]; omega
    · have hlt' : ¬ ((m : Nat) : Int) < ((n : Nat) : Int) := by omega
      have HM : Hid (spansTo hs m = spansOf hs) := Lib.hid (by
        unfold spansOf
        rw [HN.out]
        rcases hm with h | ⟨h, rfl⟩
        · rw [show m = n by omega]
        · exact (HE0.out h).symm)
      clear hlt hm
      go_wp2_with fail
      go_ret
      have hr := HR.out
      rw [HM.out] at hr
      exact ⟨_, rfl, .of_own hr.1 hr.2.1, hr.2.2⟩

end Go.Proofs.YtaigocnnmjjhgaaDoor

namespace Go.Proofs.YtaigocnnmjjhgaaDoor
open Go.ChangeShapes Go.WideShapes Go.ChangeAt Go.RowKit Bk
set_option linter.unusedVariables false

theorem infoBSp : (Tryd.prog.info? 84).map (fun i => (i.zero, i.size, i.bytes)) = some (some (.agg #[.int .i64 0, .int .i64 0]), 2, 16) := by kernel_rfl
theorem SpsAt.alloc {e : TypeId} {l : List (Int × Int)} {n B : Nat} {v : Value} {w wr : World} (hh : SpsAt e l n B v w wr) (hB : B ≤ wr.heap.size) (o : Obj) : SpsAt e l n B v w (wr.alloc o) :=
  ⟨hh.1.alloc _, hh.2.1, hh.2.2.alloc hB _⟩
/-- Whether the block ahead of block q is the last one of a span. -/
def touchesB (hs : List H3) (q : Nat) : Bool := decide (1 < q ∧ kindAt hs (q - 1) = 0)
theorem touchesB_no {hs : List H3} {q : Nat} (h : q = 0 ∨ kindAt hs q ≠ 0) : touchesB hs (q + 1) = false := by
  unfold touchesB
  rcases h with rfl | h
  · simp
  · simpa using fun _ => h
theorem touchesB_yes {hs : List H3} {q : Nat} (h1 : 1 ≤ q) (h : kindAt hs q = 0) : touchesB hs (q + 1) = true := by
  unfold touchesB; simp [h]; omega

set_option maxRecDepth 100000 in
set_option maxHeartbeats 2000000 in
theorem blkSpans_any (v : Value) (hs : List H3) (w : World) (h : IsHs w v hs) (hlen : hs.length ≤ 100000) :
    Calls Tryd.prog 17 #[v] w fun e w' => ∃ v', e = .returned v' ∧ IsSps w' v' (spansOf hs) ∧ Below w.heap.size w w' := by
  obtain ⟨i0, hi, hz0, hz1, hz2⟩ := info_parts infoBSp
  obtain ⟨a, cap, rfl, hcap, hc⟩ := h
  have H0 : Hid (SpsAt 84 (spansTo hs 0) 0 w.heap.size (.slice none 0 0) w w) := Lib.hid ⟨World.ownsRow_nil _ _ _ _, rfl, Below.refl _ _⟩
  have HC := Lib.hid hc
  clear hc
  obtain ⟨n, hn⟩ : ∃ n, hs.length = n := ⟨_, rfl⟩
  have HN := Lib.hid hn
  rw [hn] at hcap hlen ⊢
  clear hn
  go_enter Tryd.func17, Tryd.ntmps17
  go_wp2_with fail
  go_loopw [3, 4, 5, 6, 7, 10, 22, 37] (fun v tch _ _ _ i _ _ wr => ∃ m L : Nat, m ≤ n ∧ i = .int .i64 m ∧ tch = .bool (touchesB hs m) ∧ L ≤ m ∧ Hid (SpsAt 84 (spansTo hs m) L w.heap.size v w wr)) (fun _ _ _ _ _ i _ _ _ => n - (intOf i).toNat)
  case atStart => exact ⟨0, 0, by omega, rfl, rfl, by omega, H0⟩
  case round =>
    obtain ⟨m, L, hm, rfl, rfl, hLm, HR⟩ := hrel
    by_cases hlt : m < n
    · have hlt' : ((m : Nat) : Int) < ((n : Nat) : Int) := by omega
      have hm0 : (0 : Int) ≤ ((m : Nat) : Int) := by omega
      obtain ⟨b, off, rfl, hb, hcell⟩ := HC.out.resolve_left (fun h => by have := HN.out; rw [h] at this; simp at this; omega)
      obtain ⟨e0, e1, e2⟩ := hcell m (by rw [HN.out]; exact hlt)
      have d0 := (HR.out.2.2.cell (p := ⟨b, off + m * 3, none⟩) hb).trans e0
      have d1 := (HR.out.2.2.cell (p := ⟨b, off + m * 3 + 1, none⟩) hb).trans e1
      have d2 := (HR.out.2.2.cell (p := ⟨b, off + m * 3 + 2, none⟩) hb).trans e2
      have hsz := HR.out.2.2.size
      have HNO : Hid ((m = 0 ∨ kindAt hs m ≠ 0) → touchesB hs (m + 1) = false ∧ spansTo hs (m + 1) = spansTo hs m) := Lib.hid fun h => ⟨touchesB_no h, by
        by_cases h0 : m = 0
        · subst h0; rfl
        · exact spansTo_skip (by omega) (h.resolve_left h0)⟩
      have HYES : Hid (1 ≤ m → kindAt hs m = 0 → touchesB hs (m + 1) = true ∧ (touchesB hs m = true → 1 < m ∧ kindAt hs (m - 1) = 0 ∧ spansTo hs (m + 1) = bump (spansTo hs m)) ∧ (touchesB hs m = false → spansTo hs (m + 1) = spansTo hs m ++ [((m : Int), 1)])) := Lib.hid fun h1 h2 => by
        refine ⟨touchesB_yes h1 h2, fun h => ?_, fun h => ?_⟩
        · obtain ⟨g1, g2⟩ := of_decide_eq_true h
          exact ⟨g1, g2, spansTo_bump g1 h2 g2⟩
        · exact spansTo_new h1 h2 (of_decide_eq_false h)
      clear hcell e0 e1 e2
      generalize htt : touchesB hs m = tt at *
      have HTT := Lib.hid htt
      clear htt
      unfold kindAt at HNO HYES
      generalize hs.getD m (0, 0, 0) = z at *
      obtain ⟨z0, z1, z2⟩ := z
      have HRA : Hid (SpsAt 84 (spansTo hs m) L w.heap.size u3 w (wr.alloc (.cells #[.int .i64 z0, .int .i64 z1, .int .i64 z2] 48))) := Lib.hid (HR.out.alloc hsz _)
      by_cases hm1 : m = 0
      · obtain ⟨hT, hS⟩ := HNO.out (.inl hm1)
        have hm1' : ¬ (1 : Int) ≤ (m : Int) := by omega
        rw [← hS] at HRA
        have HT := Lib.hid hT
        clear hm1 hS hT HNO HYES HR
        go_wp2_with fail
        go_roundw
        case rel => exact ⟨m + 1, L, by omega, by go_num, by rw [HT.out], by omega, HRA⟩
        case measure => simp [intOf]; omega
      have hm1' : (1 : Int) ≤ (m : Int) := by omega
      by_cases hk : z0 = 0
      rotate_left
      · obtain ⟨hT, hS⟩ := HNO.out (.inr hk)
        have hkb : (z0 == 0) = false := by simpa using hk
        rw [← hS] at HRA
        have HT := Lib.hid hT
        clear hk hS hT HNO HYES HR
        go_wp2_with fail
        go_roundw
        case rel => exact ⟨m + 1, L, by omega, by go_num, by rw [HT.out], by omega, HRA⟩
        case measure => simp [intOf]; omega
      subst hk
      obtain ⟨hT, hS1, hS2⟩ := HYES.out (by omega) rfl
      have HT := Lib.hid hT
      cases htb : tt
      · have HS := Lib.hid (hS2 htb)
        subst htb
        clear hS1 hS2 hT HNO HYES HR
        go_wp2_with (at_builtin; refine wpList_append_own _ rfl (.tmp 39) (.tmp 42) 52 rfl w.heap.size 84 i0 _ 2 16 Tryd.underlying52 hi hz0 hz1 hz2 rfl (by decide) _ _ _ rfl (HRA.out.1.alloc _) ⟨wr.heap.size + 1, 0, none⟩ 1 1 [.int .i64 (m : Int), .int .i64 1] rfl rfl (by have := two_new (wr.alloc (.cells #[.int .i64 0, .int .i64 z1, .int .i64 z2] 48)) 84 (.int .i64 (m : Int)) (.int .i64 1); rwa [World.size_alloc] at this) (by intro u hu; simp at hu; rcases hu with rfl | rfl <;> rfl) (by unfold maxLen; omega) (by omega) (by simp; omega) ?_)
        intro v' w3 hown' hgrow _
        have HB : Hid (SpsAt 84 (spansTo hs (m + 1)) (L + 1) w.heap.size v' w w3) := Lib.hid (by rw [HS.out]; exact HRA.out.snoc (by simp; omega) hown' hgrow)
        clear hown' hgrow HRA
        go_wp2_with fail
        go_roundw
        case rel => exact ⟨m + 1, L + 1, by omega, by go_num, by rw [HT.out], by omega, HB⟩
        case measure => simp [intOf]; omega
      · obtain ⟨g1, g2, g3⟩ := hS1 htb
        subst htb
        have HS := Lib.hid g3
        have hne := spansTo_ne g1 g2
        have hin := spansTo_in hs m
        have hx := hin.2 _ (List.getLast_mem hne)
        have hLp : 0 < L := by rw [HRA.out.2.1]; exact List.length_pos_iff.2 hne
        obtain ⟨g, cg, rfl, hg⟩ := HRA.out.at_ hLp
        obtain ⟨j, rfl⟩ : ∃ j, L = j + 1 := ⟨L - 1, by omega⟩
        obtain ⟨e0, f0⟩ := HRA.out.last hne rfl
        have HB := Lib.hid (HRA.out.bumped hne rfl rfl hg)
        rw [← HS.out] at HB
        obtain ⟨hx1, hx2⟩ := hx
        generalize ((spansTo hs m).getLast hne).2 = x at *
        have hj0 : (0 : Int) ≤ ((j : Nat) : Int) := by omega
        have hx3 : x ≤ 100000 := by omega
        clear hS1 hS2 hT HNO HYES HR g1 g2 g3 hne hin hLp HRA
        go_wp2_with fail
        go_roundw
        case rel => exact ⟨m + 1, j + 1, by omega, by go_num, by rw [HT.out], by omega, HB⟩
        case measure => simp [intOf]; omega
    · have hlt' : ¬ ((m : Nat) : Int) < ((n : Nat) : Int) := by omega
      obtain rfl : m = n := by omega
      have HM : Hid (spansTo hs m = spansOf hs) := Lib.hid (by unfold spansOf; rw [HN.out])
      clear hlt hm
      go_wp2_with fail
      go_ret
      have hr := HR.out
      rw [HM.out] at hr
      exact ⟨_, rfl, .of_own hr.1 hr.2.1, hr.2.2⟩

end Go.Proofs.YtaigocnnmjjhgaaDoor

namespace Go.Proofs.YtaigocnnmjjhgaaDoor
namespace Nv
set_option linter.unusedVariables false

/-- A line that is not dirty lasts as it is, and nothing of it waits. -/
def Clean (m : Mdl) : Prop := ∀ i, m.dirty i = false → m.wait i = none ∧ ∀ j, j / 8 = i → m.now j = m.last j

theorem clean_fresh (L : Nat) (f : Nat → Int) : Clean (fresh L f) := fun i _ => ⟨rfl, fun _ _ => rfl⟩
theorem Clean.same {m m' : Mdl} (h : Clean m) (h1 : m'.dirty = m.dirty) (h2 : m'.wait = m.wait) (h3 : m'.now = m.now) (h4 : m'.last = m.last) : Clean m' := fun i hi => by
  rw [h1] at hi; rw [h2, h3, h4]; exact h i hi
theorem clean_store {m : Mdl} (h : Clean m) (a x : Int) : Clean (Nv.store m a x).1 := by
  unfold Nv.store; split
  · exact h
  · split
    · exact h.same rfl rfl rfl rfl
    · intro i hi
      simp only [setDirty, setNow, stepM] at hi ⊢
      by_cases e : i = a.toNat / 8
      · rw [if_pos e] at hi; cases hi
      · rw [if_neg e] at hi
        obtain ⟨h1, h2⟩ := h i hi
        refine ⟨h1, fun j hj => ?_⟩
        rw [if_neg (by intro e2; subst e2; exact e hj.symm)]
        exact h2 j hj
theorem clean_flush {m : Mdl} (h : Clean m) (a : Int) : Clean (Nv.flush m a).1 := by
  unfold Nv.flush; split
  · exact h
  · split
    · exact h.same rfl rfl rfl rfl
    · simp only [flushM]; split
      · rename_i hd
        intro i hi
        simp only [setWait, stepM] at hi ⊢
        have e : ¬ i = a.toNat := by intro e; subst e; rw [hd] at hi; cases hi
        rw [if_neg e]
        exact h i hi
      · exact h.same rfl rfl rfl rfl
theorem eq8_iff (f g : Nat → Int) : eq8 f g = true ↔ ∀ j, j < 8 → f j = g j := by
  unfold eq8; simp
theorem clean_fence {m : Mdl} (h : Clean m) : Clean (Nv.fence m).1 := by
  unfold Nv.fence; split
  · exact h.same rfl rfl rfl rfl
  · intro i hi
    refine ⟨rfl, fun j hj => ?_⟩
    simp only [fenceM, noWait, fenced, stepM, if_true] at hi ⊢
    rw [hj]
    cases hw : m.wait i with
    | none => rw [hw] at hi; exact (h i hi).2 j hj
    | some c =>
      rw [hw] at hi
      simp only [Bool.not_eq_false'] at hi
      have := (eq8_iff _ _).1 hi (j % 8) (by omega)
      simp only [lineOf] at this
      simp only
      rw [this, show 8 * i + j % 8 = j from by omega]
theorem clean_evict {m : Mdl} (h : Clean m) (a : Int) : Clean (Nv.evict m a).1 := by
  unfold Nv.evict; split
  · exact h
  · split
    · exact h
    · intro i hi
      simp only [evictM, setWait, setDirty, setLast] at hi ⊢
      by_cases e : i = a.toNat
      · subst e
        refine ⟨if_pos rfl, fun j hj => ?_⟩
        rw [if_pos hj]; simp only [lineOf]; rw [show 8 * a.toNat + j % 8 = j from by omega]
      · rw [if_neg e] at hi
        rw [if_neg e]
        refine ⟨(h i hi).1, fun j hj => ?_⟩
        rw [if_neg (by omega)]
        exact (h i hi).2 j hj
theorem clean_flushes : ∀ (k a : Nat) {m : Mdl}, Clean m → Clean (flushes m a k).1
  | 0, _, _, h => h
  | k + 1, a, m, h => by
    have h1 := clean_flush h a
    simp only [flushes]; split
    · exact clean_flushes k (a + 1) h1
    · exact h1
theorem clean_persist {m : Mdl} (h : Clean m) (a n : Int) : Clean (Nv.persist m a n).1 := by
  unfold Nv.persist; split
  · exact h
  · simp only; split
    · exact clean_fence (clean_flushes _ _ h)
    · exact clean_flushes _ _ h
/-- Of a crash without choices there is left what lasted. -/
theorem crash_last (m : Mdl) : (Nv.crash m []).now = m.last := by
  show crashW m [] (min (dirtyL m).length 0) = _
  rw [Nat.min_zero]; rfl

end Nv
end Go.Proofs.YtaigocnnmjjhgaaDoor

namespace Go.Proofs.YtaigocnnmjjhgaaDoor
namespace Nv
set_option linter.unusedVariables false

theorem crashW_two (m : Mdl) (cs : List Int) (j : Nat) : ∀ k, (∀ i, i < k → cs.getD i 0 = 2) → (∃ i, i < k ∧ (dirtyL m).getD i 0 = j / 8) → crashW m cs k j = m.now j
  | 0, _, h => by obtain ⟨i, hi, _⟩ := h; omega
  | k + 1, hc, h => by
    simp only [crashW]
    by_cases e : j / 8 = (dirtyL m).getD k 0
    · rw [if_pos e, hc k (by omega), ← e]
      unfold outcome lineOf
      rw [if_pos (by decide), show 8 * (j / 8) + j % 8 = j from by omega]
    · rw [if_neg e]
      obtain ⟨i, hi, hd⟩ := h
      refine crashW_two m cs j k (fun i hi => hc i (by omega)) ⟨i, ?_, hd⟩
      rcases Nat.lt_or_ge i k with h | h
      · exact h
      · obtain rfl : i = k := by omega
        exact absurd hd.symm e

theorem mem_dirtyL (m : Mdl) (i : Nat) : i ∈ dirtyL m ↔ i < m.L ∧ m.dirty i = true := by
  unfold dirtyL; rw [List.mem_filter, List.mem_range]

theorem dirtyL_len (m : Mdl) : (dirtyL m).length ≤ m.L := by
  unfold dirtyL; exact Nat.le_trans (List.length_filter_le _ _) (by simp)

/-- All kept. -/
theorem crash_now {m : Mdl} (h : Clean m) (j : Nat) (hj : j < 8 * m.L) : (Nv.crash m (List.replicate m.L 2)).now j = m.now j := by
  show crashW m (List.replicate m.L 2) (min (dirtyL m).length (List.replicate m.L 2).length) j = _
  have hl := dirtyL_len m
  rw [List.length_replicate, Nat.min_eq_left hl]
  cases hd : m.dirty (j / 8)
  · rw [crashW_still m _ j _ fun i hi e => by
      have hm : (dirtyL m).getD i 0 ∈ dirtyL m := by
        rw [List.getD_eq_getElem?_getD, List.getElem?_eq_getElem hi]; exact List.getElem_mem hi
      rw [e, mem_dirtyL, hd] at hm
      cases hm.2]
    exact ((h (j / 8) hd).2 j rfl).symm
  · refine crashW_two m _ j _ (fun i hi => ?_) ?_
    · rw [List.getD_eq_getElem?_getD, List.getElem?_replicate, if_pos (by omega)]; rfl
    · have hm : j / 8 ∈ dirtyL m := (mem_dirtyL m _).2 ⟨by omega, hd⟩
      obtain ⟨i, hi, he⟩ := List.getElem_of_mem hm
      exact ⟨i, hi, by rw [List.getD_eq_getElem?_getD, List.getElem?_eq_getElem hi]; exact he⟩

/-- Line i waits as it is now, if it is dirty. -/
def Ready (m : Mdl) (i : Nat) : Prop := m.dirty i = true → m.wait i = some (lineOf m.now i)

theorem flush_ready {m : Mdl} (l : Int) (h0 : (Nv.flush m l).2 = 0) : Ready (Nv.flush m l).1 l.toNat ∧ (∀ i, Ready m i → Ready (Nv.flush m l).1 i) ∧ (Nv.flush m l).1.now = m.now := by
  unfold Nv.flush at h0 ⊢
  split
  · rename_i h; rw [if_pos h] at h0; exact absurd h0 (by simp)
  · rename_i h
    rw [if_neg h] at h0
    split
    · rename_i h2; rw [if_pos h2] at h0; exact absurd h0 (by simp)
    · rename_i h2
      simp only [flushM]
      split
      · rename_i hd
        refine ⟨fun _ => ?_, fun i hi hdi => ?_, rfl⟩
        · simp [setWait, stepM]
        · simp only [setWait, stepM] at hdi ⊢
          by_cases e : i = l.toNat
          · rw [if_pos e, e]
          · rw [if_neg e]; exact hi hdi
      · rename_i hd
        exact ⟨fun h => absurd h hd, fun i hi => hi, rfl⟩

theorem flushes_ready : ∀ (k a : Nat) {m : Mdl}, (flushes m a k).2 = 0 → (∀ i, a ≤ i → i < a + k → Ready (flushes m a k).1 i) ∧ (∀ i, Ready m i → Ready (flushes m a k).1 i) ∧ (flushes m a k).1.now = m.now
  | 0, a, m, _ => ⟨fun i h1 h2 => by omega, fun i h => h, rfl⟩
  | k + 1, a, m, h0 => by
    simp only [flushes] at h0 ⊢
    by_cases e : (Nv.flush m a).2 = 0
    · rw [if_pos e] at h0 ⊢
      obtain ⟨f1, f2, f3⟩ := flush_ready (m := m) (a : Int) e
      obtain ⟨g1, g2, g3⟩ := flushes_ready k (a + 1) h0
      refine ⟨fun i h1 h2 => ?_, fun i h => g2 i (f2 i h), g3.trans f3⟩
      by_cases ea : i = a
      · subst ea; exact g2 _ (by simpa using f1)
      · exact g1 i (by omega) (by omega)
    · rw [if_neg e] at h0; exact absurd h0 e

theorem flush_L' (m : Mdl) (l : Int) : (Nv.flush m l).1.L = m.L := by
  unfold Nv.flush; split
  · rfl
  · split
    · rfl
    · simp only [flushM]; split <;> rfl
theorem flushes_L' : ∀ (k a : Nat) (m : Mdl), (flushes m a k).1.L = m.L
  | 0, _, _ => rfl
  | k + 1, a, m => by
    simp only [flushes]; split
    · exact (flushes_L' k (a + 1) _).trans (flush_L' m a)
    · exact flush_L' m a

/-- Behind a persist that went through the words of its span last as they are, and are what they were. -/
theorem persist_done {m : Mdl} (hc : Clean m) (a n : Int) (h0 : (Nv.persist m a n).2 = 0) :
    0 ≤ a ∧ 0 ≤ n ∧ a + n ≤ 8 * (m.L : Int) ∧ (Nv.persist m a n).1.L = m.L ∧ Clean (Nv.persist m a n).1 ∧
    ∀ j : Nat, a ≤ j → (j : Int) < a + n → (Nv.persist m a n).1.dirty (j / 8) = false := by
  have hC := clean_persist hc a n
  refine ⟨?_, ?_, ?_, ?_, hC, ?_⟩ <;> clear hC
  iterate 3
    · unfold Nv.persist at h0
      by_cases hb : badSpan m a n = true
      · rw [if_pos hb] at h0; exact absurd h0 (by simp)
      · unfold badSpan at hb; simp at hb; omega
  · unfold Nv.persist at h0 ⊢
    by_cases hb : badSpan m a n = true
    · rw [if_pos hb]
    · rw [if_neg hb]
      simp only
      split
      · unfold Nv.fence; split
        · exact flushes_L' _ _ _
        · exact flushes_L' _ _ _
      · exact flushes_L' _ _ _
  · intro j h1 h2
    unfold Nv.persist at h0 ⊢
    by_cases hb : badSpan m a n = true
    · rw [if_pos hb] at h0; exact absurd h0 (by simp)
    · rw [if_neg hb] at h0 ⊢
      have hb' : 0 ≤ a ∧ 0 ≤ n ∧ a ≤ 8 * (m.L : Int) - n := by unfold badSpan at hb; simp at hb; omega
      simp only at h0 ⊢
      by_cases hf : (flushes m (firstLine a n) (endLine a n - firstLine a n)).2 = 0
      · rw [if_pos hf] at h0 ⊢
        obtain ⟨g1, -, -⟩ := flushes_ready _ _ hf
        have hcf := clean_flushes (endLine a n - firstLine a n) (firstLine a n) hc
        generalize (flushes m (firstLine a n) (endLine a n - firstLine a n)).1 = m1 at h0 g1 hcf ⊢
        have hr : Ready m1 (j / 8) := g1 _ (by unfold firstLine; rw [if_neg (by omega)]; omega) (by unfold firstLine endLine; rw [if_neg (by omega), if_neg (by omega)]; omega)
        unfold Nv.fence at h0 ⊢
        by_cases hs : stops m1 = true
        · rw [if_pos hs] at h0; exact absurd h0 (by simp)
        · rw [if_neg hs]
          simp only [fenceM, noWait, fenced, stepM, if_true]
          cases hd : m1.dirty (j / 8)
          · rw [(hcf _ hd).1]
          · rw [hr hd]
            simp only [Bool.not_eq_false']
            exact (eq8_iff _ _).2 fun _ _ => rfl
      · rw [if_neg hf] at h0; exact absurd h0 hf

/-- It lasts through every crash. -/
theorem persist_lasts {m : Mdl} (hc : Clean m) (j : Nat) (hd : m.dirty (j / 8) = false) (cs : List Int) : (Nv.crash m cs).now j = m.now j ∧ (Nv.crash m cs).last j = m.now j := by
  have h : crashW m cs (min (dirtyL m).length cs.length) j = m.now j := by
    rw [crashW_still m _ j _ fun i hi e => by
      have hi' : i < (dirtyL m).length := by omega
      have hm : (dirtyL m).getD i 0 ∈ dirtyL m := by
        rw [List.getD_eq_getElem?_getD, List.getElem?_eq_getElem hi']; exact List.getElem_mem hi'
      rw [e, mem_dirtyL, hd] at hm
      cases hm.2]
    exact ((hc (j / 8) hd).2 j rfl).symm
  exact ⟨h, h⟩

end Nv
end Go.Proofs.YtaigocnnmjjhgaaDoor

namespace Go.Proofs.YtaigocnnmjjhgaaDoor
namespace Bk
open Nv Bh
set_option linter.unusedVariables false

/-- Words are stored from place a on, n of them, one by one; the first error ends it. -/
def storesM (m : Mdl) (x : Nat → Nat) (a : Nat) : Nat → Mdl × Int
  | 0 => (m, 0)
  | n + 1 => let r := Nv.store m a (x a); if r.2 = 0 then storesM r.1 x (a + 1) n else r
theorem storesM_succ (m : Mdl) (x : Nat → Nat) (a n : Nat) : storesM m x a (n + 1) = if (Nv.store m a (x a)).2 = 0 then storesM (Nv.store m a (x a)).1 x (a + 1) n else Nv.store m a (x a) := rfl
/-- One more at the end. -/
theorem storesM_last (x : Nat → Nat) : ∀ (n a : Nat) (m : Mdl), storesM m x a (n + 1) = if (storesM m x a n).2 = 0 then Nv.store (storesM m x a n).1 ((a + n : Nat) : Int) (x (a + n)) else storesM m x a n
  | 0, a, m => by
    show (if (Nv.store m a (x a)).2 = 0 then ((Nv.store m a (x a)).1, (0 : Int)) else Nv.store m a (x a)) = if (0 : Int) = 0 then Nv.store m a (x a) else (m, 0)
    rw [if_pos (rfl : (0 : Int) = 0)]
    split
    · rename_i h; exact Prod.ext rfl h.symm
    · rfl
  | n + 1, a, m => by
    have ih := storesM_last x n (a + 1) (Nv.store m a (x a)).1
    rw [show a + 1 + n = a + (n + 1) by omega] at ih
    rw [storesM_succ m x a (n + 1), storesM_succ m x a n]
    by_cases h : (Nv.store m a (x a)).2 = 0
    · simp only [if_pos h]; exact ih
    · simp only [if_neg h]
theorem store_L (m : Mdl) (a x : Int) : (Nv.store m a x).1.L = m.L := by
  unfold Nv.store; split
  · rfl
  · split <;> rfl
theorem store_steps (m : Mdl) (a x : Int) : (Nv.store m a x).1.steps ≤ m.steps + 1 := by
  unfold Nv.store; split
  · show m.steps ≤ _; omega
  · split
    · show m.steps ≤ _; omega
    · show m.steps + 1 ≤ _; omega
theorem stores_L (x : Nat → Nat) : ∀ (n a : Nat) (m : Mdl), (storesM m x a n).1.L = m.L
  | 0, _, _ => rfl
  | n + 1, a, m => by
    rw [storesM_succ]; split
    · rw [stores_L x n (a + 1), store_L]
    · exact store_L _ _ _
theorem stores_steps (x : Nat → Nat) : ∀ (n a : Nat) (m : Mdl), (storesM m x a n).1.steps ≤ m.steps + n
  | 0, _, m => by show m.steps ≤ _; omega
  | n + 1, a, m => by
    have h1 := store_steps m a (x a)
    rw [storesM_succ]; split
    · have := stores_steps x n (a + 1) (Nv.store m a (x a)).1; omega
    · omega
theorem store_clean_line {m : Mdl} (a : Nat) (x : Int) (i : Nat) (h : (Nv.store m a x).1.dirty i = true) : m.dirty i = true ∨ i = a / 8 := by
  unfold Nv.store at h
  split at h
  · exact .inl h
  · split at h
    · exact .inl h
    · simp only [setDirty, setNow, stepM] at h
      by_cases e : i = ((a : Nat) : Int).toNat / 8
      · exact .inr (by simpa using e)
      · rw [if_neg e] at h; exact .inl h
theorem store_now {m : Mdl} (a : Nat) (x : Int) (h : (Nv.store m a x).2 = 0) : (Nv.store m a x).1.now = fun j => if j = a then x else m.now j := by
  unfold Nv.store at h ⊢
  split
  · rename_i h2; rw [if_pos h2] at h; exact absurd h (by simp)
  · rename_i h2
    rw [if_neg h2] at h
    split
    · rename_i h3; rw [if_pos h3] at h; exact absurd h (by simp)
    · rfl
/-- All went through: what is there now, and which lines are dirty. -/
theorem stores_done (x : Nat → Nat) : ∀ (n a : Nat) {m : Mdl}, Nv.Clean m → (storesM m x a n).2 = 0 →
    (∀ j, (storesM m x a n).1.now j = if a ≤ j ∧ j < a + n then (x j : Int) else m.now j) ∧ Nv.Clean (storesM m x a n).1 ∧ ∀ i, (storesM m x a n).1.dirty i = true → m.dirty i = true ∨ ∃ j, a ≤ j ∧ j < a + n ∧ j / 8 = i
  | 0, a, m, hc, _ => ⟨fun j => by rw [if_neg (by omega)]; rfl, hc, fun i h => .inl h⟩
  | n + 1, a, m, hc, h0 => by
    rw [storesM_succ] at h0 ⊢
    by_cases h : (Nv.store m a (x a)).2 = 0
    · rw [if_pos h] at h0 ⊢
      obtain ⟨g1, g2, g3⟩ := stores_done x n (a + 1) (clean_store hc _ _) h0
      have hn := store_now a (x a : Int) h
      refine ⟨fun j => ?_, g2, fun i hi => ?_⟩
      · rw [g1, hn]
        by_cases e : j = a
        · subst e; rw [if_neg (by omega), if_pos (by omega)]; exact if_pos rfl
        · by_cases e2 : a + 1 ≤ j ∧ j < a + 1 + n
          · rw [if_pos e2, if_pos (by omega)]
          · rw [if_neg e2, if_neg (by omega)]; exact if_neg e
      · rcases g3 i hi with hh | ⟨j, h1, h2, h3⟩
        · rcases store_clean_line a _ i hh with h4 | h4
          · exact .inl h4
          · exact .inr ⟨a, by omega, by omega, h4.symm⟩
        · exact .inr ⟨j, by omega, by omega, h3⟩
    · rw [if_neg h] at h0; exact absurd h0 h

theorem flush_dirty {m : Mdl} (l : Int) : (Nv.flush m l).1.dirty = m.dirty ∧ (Nv.flush m l).1.now = m.now := by
  unfold Nv.flush; split
  · exact ⟨rfl, rfl⟩
  · split
    · exact ⟨rfl, rfl⟩
    · unfold flushM; split <;> exact ⟨rfl, rfl⟩
theorem flushes_dirty : ∀ (k a : Nat) (m : Mdl), (flushes m a k).1.dirty = m.dirty ∧ (flushes m a k).1.now = m.now
  | 0, _, _ => ⟨rfl, rfl⟩
  | k + 1, a, m => by
    obtain ⟨h1, h2⟩ := flush_dirty (m := m) (a : Int)
    simp only [flushes]; split
    · obtain ⟨g1, g2⟩ := flushes_dirty k (a + 1) (Nv.flush m a).1
      exact ⟨g1.trans h1, g2.trans h2⟩
    · exact ⟨h1, h2⟩
theorem flush_steps1 (m : Mdl) (l : Int) : (Nv.flush m l).1.steps ≤ m.steps + 1 := by
  unfold Nv.flush; split
  · show m.steps ≤ _; omega
  · split
    · show m.steps ≤ _; omega
    · show (flushM m l.toNat).steps ≤ _
      unfold flushM; split
      · show m.steps + 1 ≤ _; omega
      · show m.steps + 1 ≤ _; omega
theorem flushes_steps1 : ∀ (k a : Nat) (m : Mdl), (flushes m a k).1.steps ≤ m.steps + k
  | 0, _, m => by show m.steps ≤ _; omega
  | k + 1, a, m => by
    have h1 := flush_steps1 m a
    simp only [flushes]; split
    · have := flushes_steps1 k (a + 1) (Nv.flush m a).1; omega
    · omega
/-- A persist leaves all words; no line is dirty that wasn't; its steps. -/
theorem persist_now (m : Mdl) (a n : Int) : (Nv.persist m a n).1.now = m.now := by
  unfold Nv.persist; split
  · rfl
  · simp only; split
    · unfold Nv.fence; split
      · exact (flushes_dirty _ _ m).2
      · exact (flushes_dirty _ _ m).2
    · exact (flushes_dirty _ _ m).2
theorem persist_dirty {m : Mdl} (hc : Nv.Clean m) (a n : Int) (i : Nat) (h : m.dirty i = false) : (Nv.persist m a n).1.dirty i = false := by
  unfold Nv.persist; split
  · exact h
  · simp only
    have hcf := clean_flushes (endLine a n - firstLine a n) (firstLine a n) hc
    have hd := (flushes_dirty (endLine a n - firstLine a n) (firstLine a n) m).1
    split
    · unfold Nv.fence; split
      · show (flushes _ _ _).1.dirty i = false; rw [hd]; exact h
      · simp only [fenceM, noWait, fenced, stepM, if_true]
        rw [(hcf i (by rw [hd]; exact h)).1, hd]
        exact h
    · rw [hd]; exact h
theorem persist_steps (m : Mdl) (a n : Int) : (Nv.persist m a n).1.steps ≤ m.steps + (endLine a n - firstLine a n : Nat) + 1 := by
  unfold Nv.persist; split
  · show m.steps ≤ _; omega
  · simp only
    have h1 := flushes_steps1 (endLine a n - firstLine a n) (firstLine a n) m
    split
    · unfold Nv.fence; split
      · show (flushes _ _ _).1.steps ≤ _; omega
      · show (flushes _ _ _).1.steps + 1 ≤ _; omega
    · omega

/-- The lines of words from a on, n of them, are not dirty. -/
def Still (m : Mdl) (a n : Nat) : Prop := ∀ j, a ≤ j → j < a + n → m.dirty (j / 8) = false
theorem still_fresh (L : Nat) (f : Nat → Int) (a n : Nat) : Still (fresh L f) a n := fun _ _ _ => rfl
/-- Words are stored, and persisted together. -/
def putM (m : Mdl) (x : Nat → Nat) (a n : Nat) : Mdl × Int :=
  let r := storesM m x a n
  if r.2 = 0 then Nv.persist r.1 a n else r
theorem putM_L (m : Mdl) (x : Nat → Nat) (a n : Nat) (hc : Nv.Clean m) (h : (putM m x a n).2 = 0) : (putM m x a n).1.L = m.L := by
  unfold putM at h ⊢
  simp only at h ⊢
  by_cases h0 : (storesM m x a n).2 = 0
  · rw [if_pos h0] at h ⊢
    obtain ⟨-, g2, -⟩ := stores_done x n a hc h0
    exact (persist_done g2 a n h).2.2.2.1.trans (stores_L _ _ _ _)
  · rw [if_neg h0] at h; exact absurd h h0
/-- All went through: what is there, and it lasts, with what lasted beside it. -/
theorem put_done {m : Mdl} {x : Nat → Nat} {a n A N : Nat} (hc : Nv.Clean m) (hs : Still m A N) (ha : A ≤ a) (hn : a + n ≤ A + N) (h : (putM m x a n).2 = 0) :
    Nv.Clean (putM m x a n).1 ∧ Still (putM m x a n).1 A N ∧ ∀ j, (putM m x a n).1.now j = if a ≤ j ∧ j < a + n then (x j : Int) else m.now j := by
  unfold putM at h ⊢
  simp only at h ⊢
  by_cases h0 : (storesM m x a n).2 = 0
  · rw [if_pos h0] at h ⊢
    obtain ⟨g1, g2, g3⟩ := stores_done x n a hc h0
    obtain ⟨-, -, -, -, d5, d6⟩ := persist_done g2 a n h
    refine ⟨d5, fun j h1 h2 => ?_, fun j => by rw [persist_now, g1]⟩
    by_cases hd : (storesM m x a n).1.dirty (j / 8) = true
    · rcases g3 _ hd with hh | ⟨i, i1, i2, i3⟩
      · rw [hs j h1 h2] at hh; cases hh
      · rw [← i3]; exact d6 i (by omega) (by omega)
    · exact persist_dirty g2 _ _ _ (by simpa using hd)
  · rw [if_neg h0] at h; exact absurd h h0
/-- What lies still lasts through every crash. -/
theorem still_lasts {m : Mdl} (hc : Nv.Clean m) {A N : Nat} (hs : Still m A N) (cs : List Int) (j : Nat) (h1 : A ≤ j) (h2 : j < A + N) : (Nv.crash m cs).now j = m.now j :=
  (persist_lasts hc j (hs j h1 h2) cs).1

/-- A device that never stops. -/
def Runs (m : Mdl) : Prop := m.dead = false ∧ m.fuse = -1
theorem runs_fresh (L : Nat) (f : Nat → Int) : Runs (fresh L f) := ⟨rfl, rfl⟩
theorem runs_stops {m : Mdl} (h : Runs m) : stops m = false := by unfold stops; rw [h.1, h.2]; decide
theorem runs_step {m : Mdl} (h : Runs m) : Runs (stepM m) := ⟨h.1, by unfold stepM; simp only [h.2]; rfl⟩
theorem store_runs {m : Mdl} (h : Runs m) (a : Nat) (ha : a < 8 * m.L) (x : Int) : (Nv.store m a x).2 = 0 ∧ Runs (Nv.store m a x).1 := by
  have hw : hasW m a = true := by unfold hasW; simp; omega
  have e : Nv.store m a x = (setDirty (setNow (stepM m) a x) (a / 8) true, 0) := by unfold Nv.store; rw [if_neg (by rw [hw]; decide), if_neg (by rw [runs_stops h]; decide)]; rfl
  rw [e]
  exact ⟨rfl, runs_step h⟩
theorem stores_run (x : Nat → Nat) : ∀ (n a : Nat) {m : Mdl}, Runs m → a + n ≤ 8 * m.L → (storesM m x a n).2 = 0 ∧ Runs (storesM m x a n).1
  | 0, a, m, h, _ => ⟨rfl, h⟩
  | n + 1, a, m, h, hl => by
    obtain ⟨h1, h2⟩ := store_runs h a (by omega) (x a)
    rw [storesM_succ, if_pos h1]
    exact stores_run x n (a + 1) h2 (by rw [store_L]; omega)
theorem flush_runs {m : Mdl} (h : Runs m) (l : Nat) (hl : l < m.L) : (Nv.flush m l).2 = 0 ∧ Runs (Nv.flush m l).1 := by
  have hw : hasL m l = true := by unfold hasL; simp; omega
  have e : Nv.flush m l = (flushM m l, 0) := by unfold Nv.flush; rw [if_neg (by rw [hw]; decide), if_neg (by rw [runs_stops h]; decide)]; rfl
  rw [e]
  refine ⟨rfl, ?_⟩
  show Runs (flushM m l)
  unfold flushM; split
  · exact runs_step h
  · exact runs_step h
theorem flushes_run : ∀ (k a : Nat) {m : Mdl}, Runs m → a + k ≤ m.L → (flushes m a k).2 = 0 ∧ Runs (flushes m a k).1
  | 0, _, m, h, _ => ⟨rfl, h⟩
  | k + 1, a, m, h, hl => by
    obtain ⟨h1, h2⟩ := flush_runs h a (by omega)
    simp only [flushes]
    rw [if_pos h1]
    exact flushes_run k (a + 1) h2 (by rw [flush_L']; omega)
theorem persist_runs {m : Mdl} (h : Runs m) (a n : Nat) (hl : a + n ≤ 8 * m.L) : (Nv.persist m a n).2 = 0 ∧ Runs (Nv.persist m a n).1 := by
  have hb : badSpan m a n = false := by unfold badSpan; simp; omega
  have hk : firstLine a n + (endLine a n - firstLine a n) ≤ m.L := by
    unfold firstLine endLine
    by_cases h0 : (n : Int) = 0
    · rw [if_pos h0, if_pos h0]; omega
    · rw [if_neg h0, if_neg h0]; omega
  obtain ⟨f1, f2⟩ := flushes_run (endLine a n - firstLine a n) (firstLine a n) h hk
  unfold Nv.persist
  rw [if_neg (by rw [hb]; decide)]
  simp only
  rw [if_pos f1]
  unfold Nv.fence
  rw [if_neg (by rw [runs_stops f2]; decide)]
  exact ⟨rfl, runs_step f2⟩
theorem put_runs {m : Mdl} (x : Nat → Nat) {a n : Nat} (h : Runs m) (hl : a + n ≤ 8 * m.L) : (putM m x a n).2 = 0 ∧ Runs (putM m x a n).1 := by
  obtain ⟨h1, h2⟩ := stores_run x n a h hl
  unfold putM
  simp only
  rw [if_pos h1]
  exact persist_runs h2 a n (by rw [stores_L]; exact hl)
theorem put_steps (m : Mdl) (x : Nat → Nat) (a n : Nat) : (putM m x a n).1.steps ≤ m.steps + 3 * n + 3 := by
  have h1 := stores_steps x n a m
  unfold putM; simp only
  split
  · have h2 := persist_steps (storesM m x a n).1 a n
    have h3 : endLine a n - firstLine a n ≤ n + 1 := by
      unfold firstLine endLine
      by_cases h0 : (n : Int) = 0
      · rw [if_pos h0, if_pos h0]; omega
      · rw [if_neg h0, if_neg h0]; omega
    omega
  · omega

/-- Words that are headers' of blocks: what is read. -/
theorem read_words {f : Nat → Int} {n : Nat} {h : Nat → H3} (hr : ∀ b, 1 ≤ b → b < n → rightH (h b).1 (h b).2.1 (h b).2.2 = true ∧ f (256 + b) = (encN (h b).1 (h b).2.1 (h b).2.2 (256 + b) : Nat)) :
    firstBad f n = none ∧ ∀ b, 1 ≤ b → b < n → hdrAt f b = h b := by
  have key : ∀ b, 1 ≤ b → b < n → badAt f b = false ∧ hdrAt f b = h b := fun b h1 h2 => by
    obtain ⟨hr1, hf⟩ := hr b h1 h2
    obtain ⟨k, c, l, e1, e2, e3, -⟩ := right_nat hr1
    unfold badAt hdrAt
    rw [hf, Int.toNat_natCast]
    generalize h b = z at *
    obtain ⟨z1, z2, z3⟩ := z
    simp only at e1 e2 e3 hr1 ⊢
    subst e1 e2 e3
    obtain ⟨g0, g1, g2, g3⟩ := back_all (256 + b) hr1
    rw [g0, g1, g2, g3]
    exact ⟨by simp, rfl⟩
  exact ⟨firstBad_none fun b h1 h2 => (key b h1 h2).1, fun b h1 h2 => (key b h1 h2).2⟩

end Bk
end Go.Proofs.YtaigocnnmjjhgaaDoor

namespace Go.Proofs.YtaigocnnmjjhgaaDoor
open Go.ChangeShapes Go.WideShapes Go.ChangeAt Go.RowKit Bk Bh Nv
set_option linter.unusedVariables false

/-- The device and the boxes of a geometry and of a header, behind calls that make memory. -/
structure StAt (w : World) (p : Nat) (f : Fp) (m : Mdl) (gb hb : Nat) (n k c l : Int) (W : World) : Prop where
  b : Below w.heap.size w W
  d : Dev W p f m
  g : BoxT 25 W gb #[.int .i64 n]
  h : BoxT 48 W hb #[.int .i64 k, .int .i64 c, .int .i64 l]
theorem StAt.step {w W W' : World} {p : Nat} {f : Fp} {m : Mdl} {gb hb : Nat} {n k c l : Int} (i : StAt w p f m gb hb n k c l W) (hW : Below W.heap.size W W') : StAt w p f m gb hb n k c l W' :=
  ⟨i.b.trans (hW.mono i.b.size), i.d.below hW, i.g.below hW i.g.lt, i.h.below hW i.h.lt⟩
theorem StAt.drew {w W : World} {p : Nat} {f : Fp} {m : Mdl} {gb hb : Nat} {n k c l : Int} (i : StAt w p f m gb hb n k c l W) : StAt w p f m gb hb n k c l W.drew := i.step (below_drewN (Below.refl _ _) 1)
theorem StAt.facts {w W : World} {p : Nat} {f : Fp} {m : Mdl} {gb hb : Nat} {n k c l : Int} (i : StAt w p f m gb hb n k c l W) :
    W.cell? ⟨gb, 0, none⟩ = some (.int .i64 n) ∧ W.cell? ⟨hb, 0, none⟩ = some (.int .i64 k) ∧ W.cell? ⟨hb, 1, none⟩ = some (.int .i64 c) ∧ W.cell? ⟨hb, 2, none⟩ = some (.int .i64 l) :=
  ⟨i.g.cell 0, i.h.cell 0, i.h.cell 1, i.h.cell 2⟩
/-- The device's own call behind them. -/
theorem StAt.to {w W W' : World} {p : Nat} {f : Fp} {m : Mdl} {r : Mdl × Int} {gb hb : Nat} {n k c l : Int} {e : Ending} (i : StAt w p f m gb hb n k c l W) (hg : w.heap.size ≤ gb) (hh : w.heap.size ≤ hb) (ho : ∀ b, f.own p b → b < w.heap.size) (ht : CodeTo p f r W e W') :
    CodeTo p f r w e W' ∧ W'.cell? ⟨gb, 0, none⟩ = some (.int .i64 n) ∧ W'.cell? ⟨hb, 0, none⟩ = some (.int .i64 k) ∧ W'.cell? ⟨hb, 1, none⟩ = some (.int .i64 c) ∧ W'.cell? ⟨hb, 2, none⟩ = some (.int .i64 l) := by
  obtain ⟨he, f', d, kp, o⟩ := ht
  obtain ⟨f0, f1, f2, f3⟩ := i.facts
  have kc : ∀ g o, w.heap.size ≤ g → g < W.heap.size → W'.cell? ⟨g, o, none⟩ = W.cell? ⟨g, o, none⟩ := fun g o h1 h2 => kp.cell (p := ⟨g, o, none⟩) h2 (fun e => by have := ho g e; omega)
  refine ⟨⟨he, f', d, (Keep.ofBelow i.b).trans' kp, fun b hb => (o b hb).imp id fun h => by have := i.b.size; omega⟩, ?_, ?_, ?_, ?_⟩
  · rw [kc gb 0 hg i.g.lt]; exact f0
  · rw [kc hb 0 hh i.h.lt]; exact f1
  · rw [kc hb 1 hh i.h.lt]; exact f2
  · rw [kc hb 2 hh i.h.lt]; exact f3

set_option maxRecDepth 100000 in
set_option maxHeartbeats 1000000 in
theorem blkStore_any {w : World} {p : Nat} {f : Fp} {m : Mdl} (h : Dev w p f m) (n b : Nat) (k c l : Int) (hb1 : 1 ≤ b) (hbn : b < n) (hn : n ≤ 256) (hst : m.steps < 4611686018427387904) (hT : HasRests w) :
    Calls Tryd.prog 31 #[.pointer (some ⟨p, 0, none⟩), .agg #[.int .i64 n], .int .i64 b, .agg #[.int .i64 k, .int .i64 c, .int .i64 l]] w (CodeTo p f (Nv.store m (256 + (b : Int)) (encN k c l (256 + b) : Nat)) w) := by
  have HH : Hid (∀ W, Calls Tryd.prog 33 #[.agg #[.int .i64 n], .int .i64 b] W fun e w' => e = .returned (.int .i64 (256 + (b : Int))) ∧ Below W.heap.size W w') := Lib.hid fun W => by
    have := geoHeader_any (n : Int) (b : Int) W (by omega)
    unfold headerG at this
    rwa [if_pos (by omega)] at this
  have HE : Hid (∀ W, HasRests W → Calls Tryd.prog 46 #[.int .i64 b, .agg #[.int .i64 k, .int .i64 c, .int .i64 l]] W (MadeOne (.int .u64 (encN k c l (256 + b) : Nat)) W)) := Lib.hid fun W hW =>
    headEnc_any b (256 + (b : Int)) (256 + b) k c l W (by unfold wrap64; omega) (by rw [IntKind.wrap_u64]; omega) (by omega) hW
  have HS : Hid (∀ W, Dev W p f m → Calls Tryd.prog 45 #[.pointer (some ⟨p, 0, none⟩), .int .i64 (256 + (b : Int)), .int .u64 (encN k c l (256 + b) : Nat)] W (CodeTo p f (Nv.store m (256 + (b : Int)) (encN k c l (256 + b) : Nat)) W)) := Lib.hid fun W hW => store_any hW _ _ (by omega)
  have HT := Lib.hid hT
  have HO := Lib.hid h.own_all
  have INV : Hid (StAt w p f m w.heap.size (w.heap.size + 1) n k c l ((w.alloc (.cells #[.int .i64 n] 25)).alloc (.cells #[.int .i64 k, .int .i64 c, .int .i64 l] 48))) := Lib.hid
    ⟨((Below.refl _ _).alloc (Nat.le_refl _) _).alloc (by simp) _, (h.alloc _).alloc _, (BoxT.new _ _ _).alloc _, by have := BoxT.new 48 (w.alloc (.cells #[.int .i64 n] 25)) #[.int .i64 k, .int .i64 c, .int .i64 l]; rwa [World.size_alloc] at this⟩
  obtain ⟨g, hg⟩ : ∃ g, g = w.heap.size + 1 := ⟨_, rfl⟩
  have HG : Hid (w.heap.size ≤ g) := Lib.hid (by omega)
  rw [← hg] at INV
  obtain ⟨r, hr⟩ : ∃ r, r = Nv.store m (256 + (b : Int)) (encN k c l (256 + b) : Nat) := ⟨_, rfl⟩
  rw [← hr] at HS ⊢
  generalize encN k c l (256 + b) = y at HS HE
  obtain ⟨m', code⟩ := r
  clear h hT hr
  go_enter Tryd.func31, Tryd.ntmps31
  go_wp2_with fail
  simp only [← hg]
  clear hg
  generalize (w.alloc (.cells #[.int .i64 n] 25)).alloc (.cells #[.int .i64 k, .int .i64 c, .int .i64 l] 48) = V at INV ⊢
  obtain ⟨c0, c1, c2, c3⟩ := INV.out.facts
  as_aux_lemma =>
    go_region_held3 (fun w' => w'.cell? ⟨w.heap.size, 0, none⟩ = some (.int .i64 n) ∧ w'.cell? ⟨g, 0, none⟩ = some (.int .i64 k) ∧ w'.cell? ⟨g, 1, none⟩ = some (.int .i64 c) ∧ w'.cell? ⟨g, 2, none⟩ = some (.int .i64 l))
      (first | go_keep | exact INV.out.facts | exact HF.out)
      (first
        | (go_at_call 33; refine (HH.out _).mono ?_; rintro e w' ⟨rfl, hb⟩; have INV := Lib.hid (INV.out.drew.step hb); clear hb)
        | (go_at_call 46; refine (HE.out _ (HT.out.below INV.out.b (Nat.le_refl _))).mono ?_; rintro e w' ⟨rfl, hb⟩; have INV := Lib.hid (INV.out.step hb); clear hb)
        | (go_at_call 45; refine (HS.out _ INV.out.d).mono ?_; intro e w' ht; have HP := Lib.hid (INV.out.to (Nat.le_refl _) HG.out HO.out ht).1; have HF := Lib.hid (INV.out.to (Nat.le_refl _) HG.out HO.out ht).2; obtain rfl := ht.1; clear ht INV))
    go_wp2_with fail
    go_ret
    exact HP.out

end Go.Proofs.YtaigocnnmjjhgaaDoor

namespace Go.Proofs.YtaigocnnmjjhgaaDoor
open Go.ChangeShapes Go.WideShapes Go.ChangeAt Go.RowKit Bk Bh Nv
set_option linter.unusedVariables false

/-- The zero header's word. -/
def zeroX (j : Nat) : Nat := encN 0 0 0 j
/-- Behind some stores: the device, what it was made of; the geometry's box. -/
structure FmtAt (w : World) (p : Nat) (f : Fp) (gb : Nat) (n : Int) (mk : Mdl) (wr : World) : Prop where
  d : ∃ fk, Dev wr p fk mk ∧ ∀ b, fk.own p b → f.own p b ∨ w.heap.size ≤ b
  k : Keep (f.own p) w wr
  g : wr.cell? ⟨gb, 0, none⟩ = some (.int .i64 n)
  lt : gb < wr.heap.size
theorem FmtAt.on {w wr w' : World} {p : Nat} {f : Fp} {gb : Nat} {n : Int} {mk : Mdl} (h : FmtAt w p f gb n mk wr) (hb : Below wr.heap.size wr w') : FmtAt w p f gb n mk w' := by
  obtain ⟨fk, h1, h2⟩ := h.d
  exact ⟨⟨fk, h1.below hb, h2⟩, h.k.trans' (Keep.ofBelow hb), (hb.cell (p := ⟨gb, 0, none⟩) h.lt).trans h.g, Nat.lt_of_lt_of_le h.lt hb.size⟩
theorem FmtAt.to {w wr w' : World} {p : Nat} {f : Fp} {gb : Nat} {n : Int} {mk m' : Mdl} (h : FmtAt w p f gb n mk wr) (fk : Fp) (h1 : Dev wr p fk mk) (h2 : ∀ b, fk.own p b → f.own p b ∨ w.heap.size ≤ b) (hg : ¬ fk.own p gb) (ht : DevTo p fk m' wr w') : FmtAt w p f gb n m' w' := by
  obtain ⟨f', d, k, o⟩ := ht
  exact ⟨⟨f', d, own_step h.k h2 o⟩, keep_step h.k h2 k, (k.cell (p := ⟨gb, 0, none⟩) h.lt hg).trans h.g, Nat.lt_of_lt_of_le h.lt k.size⟩

theorem stores_stop {x : Nat → Nat} {a k : Nat} {m : Mdl} {r : Mdl × Int} (h : storesM m x a k = r) (h0 : r.2 ≠ 0) : ∀ n, k ≤ n → storesM m x a n = r
  | 0, hk => by obtain rfl : k = 0 := by omega
                exact h
  | n + 1, hk => by
    by_cases e : k = n + 1
    · subst e; exact h
    · have ih := stores_stop h h0 n (by omega)
      rw [storesM_last, ih, if_neg h0]

set_option maxRecDepth 100000 in
set_option maxHeartbeats 1000000 in
theorem blkFormat_any {w : World} {p : Nat} {f : Fp} {m : Mdl} (h : Dev w p f m) (n : Nat) (h1 : 2 ≤ n) (hn : n ≤ 256) (hL : 512 * n ≤ 8 * m.L) (hst : m.steps < 1152921504606846976) (hT : ∀ W, Keep (f.own p) w W → HasRests W) :
    Calls Tryd.prog 22 #[.pointer (some ⟨p, 0, none⟩), .agg #[.int .i64 n]] w (CodeTo p f (putM m zeroX 257 (n - 1)) w) := by
  have hg0 : ¬ f.own p w.heap.size := fun e => by have := h.own_all _ e; omega
  have HG0 := Lib.hid hg0
  have H0 : Hid (FmtAt (w.alloc (.cells #[.int .i64 n] 25)) p f w.heap.size n m (w.alloc (.cells #[.int .i64 n] 25))) := Lib.hid
    ⟨⟨f, h.alloc _, fun b hb => .inl hb⟩, Keep.refl _ _, box1_cell _ _ _, by simp⟩
  have K0 : Hid (Keep (f.own p) w (w.alloc (.cells #[.int .i64 n] 25))) := Lib.hid ((Keep.refl _ _).alloc _)
  have Z0 : Hid (w.heap.size < (w.alloc (.cells #[.int .i64 n] 25)).heap.size) := Lib.hid (by simp)
  have HH : Hid (∀ (b : Nat) W, 1 ≤ b → b < n → Calls Tryd.prog 33 #[.agg #[.int .i64 n], .int .i64 b] W fun e w' => e = .returned (.int .i64 (256 + (b : Int))) ∧ Below W.heap.size W w') := Lib.hid fun b W hb1 hb2 => by
    have := geoHeader_any (n : Int) (b : Int) W (by omega)
    unfold headerG at this
    rwa [if_pos (by omega)] at this
  have HE : Hid (∀ (b : Nat) W, b < n → HasRests W → Calls Tryd.prog 46 #[.int .i64 b, .agg #[.int .i64 0, .int .i64 0, .int .i64 0]] W (MadeOne (.int .u64 (zeroX (256 + b) : Nat)) W)) := Lib.hid fun b W hb hW =>
    headEnc_any b (256 + (b : Int)) (256 + b) 0 0 0 W (by unfold wrap64; omega) (by rw [IntKind.wrap_u64]; omega) (by omega) hW
  have HT : Hid (∀ W, Keep (f.own p) (w.alloc (.cells #[.int .i64 n] 25)) W → HasRests W) := Lib.hid fun W hk => hT W (K0.out.trans' hk)
  have HF : Hid (∀ e W, CodeTo p f (putM m zeroX 257 (n - 1)) (w.alloc (.cells #[.int .i64 n] 25)) e W → CodeTo p f (putM m zeroX 257 (n - 1)) w e W) := Lib.hid fun e W hc => by
    obtain ⟨he, f', d, k, o⟩ := hc
    exact ⟨he, f', d, K0.out.trans' k, fun b hb => (o b hb).imp id fun hh => by have := Z0.out; omega⟩
  have cg : (w.alloc (.cells #[.int .i64 n] 25)).cell? ⟨w.heap.size, 0, none⟩ = some (.int .i64 n) := box1_cell _ _ _
  clear h hT K0 hg0
  go_enter Tryd.func22, Tryd.ntmps22
  go_wp2_with fail
  generalize w.alloc (.cells #[.int .i64 n] 25) = w0 at *
  generalize w.heap.size = gb at *
  clear cg
  go_loopw [5, 6] (fun i _ wr => ∃ (q : Nat) (mk : Mdl), 1 ≤ q ∧ q ≤ n ∧ i = .int .i64 q ∧ Hid (FmtAt w0 p f gb n mk wr) ∧ Hid (storesM m zeroX 257 (q - 1) = (mk, 0))) (fun i _ _ => n - (intOf i).toNat)
  case atStart => exact ⟨1, m, by omega, by omega, rfl, H0, Lib.hid rfl⟩
  case round =>
    obtain ⟨q, mk, hq1, hq, rfl, HI, HS⟩ := hrel
    have cg : wr.cell? ⟨gb, 0, none⟩ = some (.int .i64 n) := HI.out.g
    by_cases hlt : q < n
    · have hlt' : (q : Int) < (n : Int) := by omega
      go_wp2_with fail
      have H2 := HI
      obtain ⟨fk, d2, o2⟩ := H2.out.d
      have hmL : mk.L = m.L := by have := stores_L zeroX (q - 1) 257 m; rw [HS.out] at this; exact this
      have hms : mk.steps ≤ m.steps + (q - 1 : Nat) := by have := stores_steps zeroX (q - 1) 257 m; rw [HS.out] at this; exact this
      have hst1 := blkStore_any d2 n q 0 0 0 hq1 hlt hn (by omega) (HT.out _ H2.out.k)
      have hnext : storesM m zeroX 257 (q + 1 - 1) = Nv.store mk (256 + (q : Int)) (zeroX (256 + q) : Nat) := by
        have := storesM_last zeroX (q - 1) 257 m
        rw [HS.out] at this
        simp only [if_pos] at this
        rw [show q + 1 - 1 = q - 1 + 1 by omega, this, show 257 + (q - 1) = 256 + q by omega, show (((256 + q : Nat) : Int)) = 256 + (q : Int) by omega]
      change Calls _ _ _ _ (CodeTo p fk (Nv.store mk (256 + (q : Int)) (zeroX (256 + q) : Nat)) wr) at hst1
      rcases hfe : Nv.store mk (256 + (q : Int)) (zeroX (256 + q) : Nat) with ⟨m1, c⟩
      rw [hfe] at hst1 hnext
      refine hst1.mono ?_
      rintro e w3 ⟨rfl, ht⟩
      have H3 := Lib.hid (H2.out.to fk d2 o2 (fun e => (o2 _ e).elim HG0.out (fun e => by have := Z0.out; omega)) ht)
      have HNX := Lib.hid hnext
      clear hst1 hnext hfe ht d2 o2 H2 hmL hms cg HI
      by_cases hc : c = 0
      · subst hc
        go_wp2_with fail
        go_roundw
        case rel => exact ⟨q + 1, m1, by omega, by omega, by go_num, H3, HNX⟩
        case measure => simp [intOf]; omega
      · have hcb : ((c : Int) != 0) = true := by simpa using hc
        have HP : Hid (putM m zeroX 257 (n - 1) = (m1, c)) := Lib.hid (by
          have := stores_stop HNX.out hc (n - 1) (by omega)
          unfold putM
          rw [this]
          exact if_neg hc)
        have HC := Lib.hid hc
        clear hc
        go_wp2_with fail
        go_ret
        apply HF.out
        rw [HP.out]
        obtain ⟨f3, d3, o3⟩ := H3.out.d
        exact ⟨rfl, f3, d3, H3.out.k, o3⟩
    · have hlt' : ¬ (q : Int) < (n : Int) := by omega
      obtain rfl : q = n := by omega
      clear hlt
      go_wp2_with fail
      have hmL : mk.L = m.L := by have := stores_L zeroX (q - 1) 257 m; rw [HS.out] at this; exact this
      have hms : mk.steps ≤ m.steps + (q - 1 : Nat) := by have := stores_steps zeroX (q - 1) 257 m; rw [HS.out] at this; exact this
      have HH1 : Hid (∀ W, Calls Tryd.prog 33 #[.agg #[.int .i64 q], .int .i64 1] W fun e w' => e = .returned (.int .i64 257) ∧ Below W.heap.size W w') := Lib.hid fun W => HH.out 1 W (by omega) (by omega)
      have PS : Hid (∀ W a, a = (q : Int) - 1 → FmtAt w0 p f gb q mk W → Calls Tryd.prog 32 #[.pointer (some ⟨p, 0, none⟩), .int .i64 257, .int .i64 a] W (CodeTo p f (putM m zeroX 257 (q - 1)) w0)) := Lib.hid fun W a ha hW => by
        subst ha
        obtain ⟨fk, d2, o2⟩ := hW.d
        have hp : putM m zeroX 257 (q - 1) = Nv.persist mk 257 ((q : Int) - 1) := by
          unfold putM
          rw [HS.out]
          simp only [if_pos]
          rw [show ((q - 1 : Nat) : Int) = (q : Int) - 1 by omega]
          rfl
        rw [hp]
        refine (persist_any d2 257 ((q : Int) - 1) (by omega) (by omega) (by omega) (by omega) (by omega)).mono ?_
        rintro e w' ⟨he, f', d', k', o'⟩
        exact ⟨he, f', d', keep_step hW.k o2 k', own_step hW.k o2 o'⟩
      have G0 : Hid (w0.cell? ⟨gb, 0, none⟩ = some (.int .i64 q)) := Lib.hid H0.out.g
      clear hmL hms HS HH HE HT H0
      go_region_held3 (fun w' => w'.cell? ⟨gb, 0, none⟩ = some (.int .i64 q))
        (first | go_keep | exact HI.out.g | exact HG1.out)
        (first
          | (go_at_call 33; refine (HH1.out _).mono ?_; rintro e w' ⟨rfl, hb⟩; have HI := Lib.hid ((HI.out.on (below_drewN (Below.refl _ _) 1)).on hb); clear hb)
          | (go_at_call 32; refine (PS.out _ _ (by first | with_reducible rfl | (rw [IntKind.wrap_i64]; omega) | go_num) HI.out).mono ?_; rintro e w' ⟨rfl, ht⟩; have HP := Lib.hid (HF.out _ _ ⟨rfl, ht⟩); have HG1 := Lib.hid ((ht.choose_spec.2.1.cell (p := ⟨gb, 0, none⟩) Z0.out HG0.out).trans G0.out); clear ht HI))
      go_wp2_with fail
      go_ret
      exact HP.out

end Go.Proofs.YtaigocnnmjjhgaaDoor

namespace Go.Proofs.YtaigocnnmjjhgaaDoor
open Go.ChangeShapes Go.WideShapes Go.ChangeAt Go.RowKit Bk
set_option linter.unusedVariables false

set_option maxHeartbeats 1000000 in
theorem refSame10_yes (va vb : Value) (hs : List H3) (w : World) (ha : IsHs w va hs) (hb : IsHs w vb hs) (hlen : hs.length ≤ 100000) :
    Calls Tryd.prog 11 #[va, vb] w fun e w' => e = .returned (.bool true) ∧ ∃ n, w' = w.drewN n := by
  obtain ⟨a, ca, rfl, hca, ha⟩ := ha
  obtain ⟨b, cb, rfl, hcb, hb⟩ := hb
  have HE : Hid (∀ (x y z : Int) w', (Op.equalIn 10000 46 (.agg #[.int .i64 x, .int .i64 y, .int .i64 z]) (.agg #[.int .i64 x, .int .i64 y, .int .i64 z])).run Tryd.prog w' = .ok true w') := Lib.hid fun x y z w' => by rw [eqR3V]; simp
  by_cases h0 : hs = []
  · subst h0
    go_enter Tryd.func11, Tryd.ntmps11
    go_wp2
    go_loop [5] (fun i => i = .int .i64 0) (fun _ => 0)
    case atStart => exact rfl
    case round =>
      obtain rfl := hrel
      go_wp2
      go_ret
      exact ⟨rfl, 0, rfl⟩
  · obtain ⟨b1, o1, rfl, _, h1⟩ := ha.resolve_left h0
    obtain ⟨b2, o2, rfl, _, h2⟩ := hb.resolve_left h0
    generalize hl : hs.length = len at *
    have H1 := Lib.hid h1
    have H2 := Lib.hid h2
    clear h1 h2 h0 hl ha hb
    go_enter Tryd.func11, Tryd.ntmps11
    go_wp2
    go_loopw [5] (fun i wr => ∃ k n : Nat, k ≤ len ∧ i = .int .i64 k ∧ wr = w.drewN n) (fun i _ => len - (intOf i).toNat)
    case atStart => exact ⟨0, 0, by omega, rfl, rfl⟩
    case round =>
      obtain ⟨k, n, hk, rfl, rfl⟩ := hrel
      by_cases hlt : k < len
      · obtain ⟨c0, c1, c2⟩ := H1.out k hlt
        obtain ⟨d0, d1, d2⟩ := H2.out k hlt
        generalize hs.getD k (0, 0, 0) = x at c0 c1 c2 d0 d1 d2
        obtain ⟨x0, x1, x2⟩ := x
        have heq := HE.out x0 x1 x2
        have hlt' : (k : Int) < (len : Int) := by omega
        have hk0 : (0 : Int) ≤ (k : Int) := by omega
        go_wp2_with fail
        go_quiet (fail)
        go_wp2_with fail
        go_roundw
        case rel => exact ⟨k + 1, _, by omega, by go_num, rfl⟩
        case measure => simp [intOf]; omega
      · have hlt' : ¬ (k : Int) < (len : Int) := by omega
        go_wp2_with fail
        go_ret
        exact ⟨rfl, _, rfl⟩

set_option maxHeartbeats 1000000 in
theorem lawSpans_yes (va vb : Value) (l : List (Int × Int)) (w : World) (ha : IsSps w va l) (hb : IsSps w vb l) (hlen : l.length ≤ 100000) :
    Calls Tryd.prog 16 #[va, vb] w fun e w' => e = .returned (.bool true) ∧ ∃ n, w' = w.drewN n := by
  obtain ⟨a, ca, rfl, hca, ha⟩ := ha
  obtain ⟨b, cb, rfl, hcb, hb⟩ := hb
  by_cases h0 : l = []
  · subst h0
    go_enter Tryd.func16, Tryd.ntmps16
    go_wp2
    go_loop [5] (fun i => i = .int .i64 0) (fun _ => 0)
    case atStart => exact rfl
    case round =>
      obtain rfl := hrel
      go_wp2
      go_ret
      exact ⟨rfl, 0, rfl⟩
  · obtain ⟨b1, o1, rfl, _, h1⟩ := ha.resolve_left h0
    obtain ⟨b2, o2, rfl, _, h2⟩ := hb.resolve_left h0
    generalize hl : l.length = len at *
    have H1 := Lib.hid h1
    have H2 := Lib.hid h2
    clear h1 h2 h0 hl ha hb
    go_enter Tryd.func16, Tryd.ntmps16
    go_wp2
    go_loopw [5] (fun i wr => ∃ k n : Nat, k ≤ len ∧ i = .int .i64 k ∧ wr = w.drewN n) (fun i _ => len - (intOf i).toNat)
    case atStart => exact ⟨0, 0, by omega, rfl, rfl⟩
    case round =>
      obtain ⟨k, n, hk, rfl, rfl⟩ := hrel
      by_cases hlt : k < len
      · obtain ⟨c0, c1⟩ := H1.out k hlt
        obtain ⟨d0, d1⟩ := H2.out k hlt
        generalize l.getD k (0, 0) = x at c0 c1 d0 d1
        obtain ⟨x0, x1⟩ := x
        have hlt' : (k : Int) < (len : Int) := by omega
        have hk0 : (0 : Int) ≤ (k : Int) := by omega
        go_wp2_with fail
        go_quiet (fail)
        go_wp2_with fail
        go_roundw
        case rel => exact ⟨k + 1, _, by omega, by go_num, rfl⟩
        case measure => simp [intOf]; omega
      · have hlt' : ¬ (k : Int) < (len : Int) := by omega
        go_wp2_with fail
        go_ret
        exact ⟨rfl, _, rfl⟩

end Go.Proofs.YtaigocnnmjjhgaaDoor

namespace Go.Proofs.YtaigocnnmjjhgaaDoor
open Go.ChangeShapes Go.WideShapes Go.ChangeAt Go.RowKit
set_option linter.unusedVariables false

set_option maxHeartbeats 400000 in
theorem geoWords_any (n : Int) (w : World) (h0 : 0 ≤ n) (h1 : n ≤ 1048576) :
    Calls Tryd.prog 21 #[.agg #[.int .i64 n]] w fun e w' => e = .returned (.int .i64 (512 * n)) ∧ Below w.heap.size w w' := by
  go_enter Tryd.func21, Tryd.ntmps21
  go_wp2
  go_ret
  exact ⟨ret_int (Int.mul_comm _ _), (Below.refl _ _).alloc (Nat.le_refl _) _⟩

end Go.Proofs.YtaigocnnmjjhgaaDoor

namespace Go.Proofs.YtaigocnnmjjhgaaDoor
open Go.ChangeShapes Go.WideShapes Go.ChangeAt Go.RowKit Bk Bh Nv
set_option linter.unusedVariables false

/-- A device of n blocks, formatted. -/
def fmtM (n : Nat) : Mdl × Int := putM (fresh (64 * n) fun _ => 0) zeroX 257 (n - 1)
theorem fmt_ok {n : Nat} (h1 : 2 ≤ n) (hn : n ≤ 256) : (fmtM n).2 = 0 ∧ Runs (fmtM n).1 := put_runs zeroX (runs_fresh _ _) (by show 257 + (n - 1) ≤ 8 * (64 * n); omega)
theorem put_L (m : Mdl) (x : Nat → Nat) (a n : Nat) (h : (putM m x a n).2 = 0) (hc : Nv.Clean m) : (putM m x a n).1.L = m.L := by
  unfold putM at h ⊢
  simp only at h ⊢
  by_cases h0 : (storesM m x a n).2 = 0
  · rw [if_pos h0] at h ⊢
    obtain ⟨g1, g2, g3⟩ := stores_done x n a hc h0
    exact (persist_done g2 a n h).2.2.2.1.trans (stores_L _ _ _ _)
  · rw [if_neg h0] at h; exact absurd h h0
/-- What there is behind Format: all words of headers are the zero one's; they lie still. -/
theorem fmt_all {n : Nat} (h1 : 2 ≤ n) (hn : n ≤ 256) : (fmtM n).1.L = 64 * n ∧ Nv.Clean (fmtM n).1 ∧ Still (fmtM n).1 257 (n - 1) ∧ ∀ j, 256 < j → j < 256 + n → (fmtM n).1.now j = (zeroX j : Nat) := by
  have h := (fmt_ok h1 hn).1
  obtain ⟨a, b, c⟩ := put_done (m := fresh (64 * n) fun _ => 0) (A := 257) (N := n - 1) (clean_fresh _ _) (still_fresh _ _ _ _) (Nat.le_refl _) (Nat.le_refl _) h
  refine ⟨put_L _ _ _ _ h (clean_fresh _ _), a, b, fun j hj1 hj2 => ?_⟩
  unfold fmtM
  rw [c, if_pos (by omega)]
theorem zero_right : rightH 0 0 0 = true := by decide
theorem zeroX_lt (j : Nat) : 0 ≤ ((zeroX j : Nat) : Int) ∧ ((zeroX j : Nat) : Int) < 2 ^ 64 := by
  have := encN_lt 0 0 0 j
  unfold zeroX
  omega
/-- All words are the zero header's: what is read. -/
theorem zero_hdrs {f : Nat → Int} {n : Nat} (hf : ∀ j, 256 < j → j < 256 + n → f j = (zeroX j : Nat)) : firstBad f n = none ∧ hdrs f n = List.replicate n (0, 0, 0) := by
  obtain ⟨a, b⟩ := read_words (f := f) (n := n) (h := fun _ => (0, 0, 0)) fun b hb1 hb2 => ⟨zero_right, hf _ (by omega) (by omega)⟩
  refine ⟨a, ?_⟩
  unfold hdrs
  apply List.ext_getElem
  · simp
  · intro i hi1 hi2
    simp only [List.getElem_map, List.getElem_range, List.getElem_replicate]
    split
    · rfl
    · simp at hi2; exact b i (by omega) hi2

/-- A device that was made behind world w, and the geometry's box. -/
structure DvAt (w : World) (p : Nat) (f : Fp) (m : Mdl) (gb : Nat) (n : Int) (W : World) : Prop where
  b : Below w.heap.size w W
  d : Dev W p f m
  o : ∀ b, f.own p b → w.heap.size ≤ b
  g : BoxT 25 W gb #[.int .i64 n]
  no : ¬ f.own p gb
theorem DvAt.step {w W W' : World} {p : Nat} {f : Fp} {m : Mdl} {gb : Nat} {n : Int} (i : DvAt w p f m gb n W) (hb : Below W.heap.size W W') : DvAt w p f m gb n W' :=
  ⟨i.b.trans (hb.mono i.b.size), i.d.below hb, i.o, i.g.below hb i.g.lt, i.no⟩
theorem DvAt.cell {w W : World} {p : Nat} {f : Fp} {m : Mdl} {gb : Nat} {n : Int} (i : DvAt w p f m gb n W) : W.cell? ⟨gb, 0, none⟩ = some (.int .i64 n) := i.g.cell 0
theorem DvAt.to {w W W' : World} {p : Nat} {f : Fp} {m m' : Mdl} {gb : Nat} {n : Int} (i : DvAt w p f m gb n W) (ht : DevTo p f m' W W') : ∃ f', DvAt w p f' m' gb n W' := by
  obtain ⟨f', d, k, o⟩ := ht
  refine ⟨f', i.b.trans (k.below (B := w.heap.size) i.b.size fun b hb => i.o b hb), d, fun b hb => ?_, i.g.keep k i.no, fun hb => ?_⟩
  · rcases o b hb with h | h
    · exact i.o b h
    · exact Nat.le_trans i.b.size h
  · rcases o _ hb with h | h
    · exact i.no h
    · have := i.g.lt; omega
theorem DvAt.rests {w W W' : World} {p : Nat} {f : Fp} {m : Mdl} {gb : Nat} {n : Int} (i : DvAt w p f m gb n W) (hT : HasRests w) (hk : Keep (f.own p) W W') : HasRests W' :=
  hT.below (i.b.trans (hk.below (B := w.heap.size) i.b.size fun b hb => i.o b hb)) (Nat.le_refl _)
theorem DvAt.make {w W W' : World} {e : Ending} {m : Mdl} {gb : Nat} {n : Int} (hb : Below w.heap.size w W) (hg : BoxT 25 W gb #[.int .i64 n]) (h : MadeDev m W e W') : ∃ p f, e = .returned (.pointer (some ⟨p, 0, none⟩)) ∧ DvAt w p f m gb n W' := by
  obtain ⟨p, f, he, d, k, o⟩ := h
  exact ⟨p, f, he, hb.trans (k.below (B := w.heap.size) hb.size fun b hb => hb.elim), d, fun b h => Nat.le_trans hb.size (o b h), hg.keep k fun h => h, fun h => by have := o _ h; have := hg.lt; omega⟩

/-- Format of a device that was just made, of n blocks. -/
theorem fmt_new {w W : World} {p : Nat} {f : Fp} {gb n : Nat} (h1 : 2 ≤ n) (hn : n ≤ 256) (i : DvAt w p f (fresh (64 * n) fun _ => 0) gb n W) (hT : HasRests w) :
    Calls Tryd.prog 22 #[.pointer (some ⟨p, 0, none⟩), .agg #[.int .i64 n]] W fun e W' => e = .returned (.int .i64 0) ∧ ∃ f', DvAt w p f' (fmtM n).1 gb n W' := by
  refine (blkFormat_any i.d n h1 hn (by show 512 * n ≤ 8 * (64 * n); omega) (show (0 : Int) < 1152921504606846976 by decide) fun W' hk => i.rests hT hk).mono ?_
  rintro e W' ⟨he, ht⟩
  refine ⟨he.trans ?_, i.to ht⟩
  rw [show (putM (fresh (64 * n) fun _ => 0) zeroX 257 (n - 1)).2 = 0 from (fmt_ok h1 hn).1]
/-- Open of a device all of whose headers are the zero one. -/
theorem open_zero {w W : World} {p : Nat} {f : Fp} {m : Mdl} {gb n : Nat} (h1 : 2 ≤ n) (hn : n ≤ 256) (i : DvAt w p f m gb n W) (hT : HasRests w) (hL : m.L = 64 * n) (hz : ∀ j, 256 < j → j < 256 + n → m.now j = (zeroX j : Nat)) :
    Calls Tryd.prog 10 #[.pointer (some ⟨p, 0, none⟩), .agg #[.int .i64 n]] W fun e W' => ∃ t, e = .returned (.tuple #[.pointer (some ⟨t, 0, none⟩), .int .i64 0]) ∧ Tab W' t p n (List.replicate n (0, 0, 0)) ∧ Below W.heap.size W W' := by
  refine (blkOpen_any i.d n (fun j h2 h3 => by rw [hz j h2 h3]; exact zeroX_lt j) h1 hn (by omega) (hT.below i.b (Nat.le_refl _))).mono ?_
  rintro e W' ⟨v, he, hv, hb⟩
  obtain ⟨g1, g2⟩ := zero_hdrs hz
  rw [g1, g2] at hv
  obtain ⟨t, rfl, ht⟩ := hv
  exact ⟨t, by rw [he, (read_good g1).2.2]; rfl, ht, hb⟩

end Go.Proofs.YtaigocnnmjjhgaaDoor

namespace Go.Proofs.YtaigocnnmjjhgaaDoor
open Go.ChangeShapes Go.WideShapes Go.ChangeAt Go.RowKit Bk Bh Nv
set_option linter.unusedVariables false

theorem spans_of_four : spansOf (List.replicate 4 (0, 0, 0)) = [(1, 3)] := by decide
theorem sps_one {w : World} {b : Nat} {x y : Int} (h : BoxT 70 w b #[.int .i64 x, .int .i64 y]) : IsSps w (.slice (some ⟨b, 0, none⟩) 1 1) [(x, y)] :=
  ⟨_, _, rfl, Nat.le_refl _, .inr ⟨b, 0, rfl, h.lt, fun i hi => by
    obtain rfl : i = 0 := by simpa using hi
    exact ⟨h.cell 0, h.cell 1⟩⟩⟩

set_option maxRecDepth 100000 in
set_option maxHeartbeats 1000000 in
theorem tabSpans_any {w : World} {t p m : Nat} {hs : List H3} (h : Tab w t p m hs) (hlen : hs.length ≤ 100000) :
    Calls Tryd.prog 25 #[.pointer (some ⟨t, 0, none⟩)] w fun e w' => ∃ v', e = .returned v' ∧ IsSps w' v' (spansOf hs) ∧ Below w.heap.size w w' := by
  obtain ⟨v, hx, hv⟩ := h
  have c1 : w.cell? ⟨t, 2, none⟩ = some v := hx.cell 2
  have SP := Lib.hid (blkSpans_any v hs w hv hlen)
  obtain ⟨a, cap, rfl, -⟩ := id hv
  clear hx hv
  go_enter Tryd.func25, Tryd.ntmps25
  go_wp2_with fail
  refine SP.out.mono ?_
  rintro e w' ⟨v', rfl, hs', hb⟩
  have H := Lib.hid (show ∃ x, v' = x ∧ IsSps w' x (spansOf hs) ∧ Below w.heap.size w w' from ⟨v', rfl, hs', hb⟩)
  clear hs' hb
  go_wp2_with fail
  go_ret
  obtain ⟨x, rfl, h1, h2⟩ := H.out
  exact ⟨_, rfl, h1, h2⟩

set_option maxRecDepth 100000 in
set_option maxHeartbeats 1000000 in
theorem awake10_yes (w : World) (hT : HasRests w) : Calls Tryd.prog 5 #[] w fun e w' => e = .returned (.bool true) ∧ Below w.heap.size w w' := by
  have HT := Lib.hid hT
  have HW : Hid (∀ W, Calls Tryd.prog 21 #[.agg #[.int .i64 4]] W fun e w' => e = .returned (.int .i64 2048) ∧ Below W.heap.size W w') := Lib.hid fun W => geoWords_any 4 W (by decide) (by decide)
  have NW : Hid (∀ W, Calls Tryd.prog 20 #[.int .i64 2048] W (MadeDev (fresh (64 * 4) fun _ => 0) W)) := Lib.hid fun W => by
    have := new_any 2048 W (by decide) (by decide)
    rwa [show (upS 2048 8).toNat = 64 * 4 from by decide] at this
  have FM : Hid (∀ p f gb W, DvAt w p f (fresh (64 * 4) fun _ => 0) gb (4 : Nat) W → Calls Tryd.prog 22 #[.pointer (some ⟨p, 0, none⟩), .agg #[.int .i64 4]] W fun e W' => e = .returned (.int .i64 0) ∧ ∃ f', DvAt w p f' (fmtM 4).1 gb (4 : Nat) W') := Lib.hid fun p f gb W i => fmt_new (by decide) (by decide) i HT.out
  have OP : Hid (∀ p f gb W, DvAt w p f (fmtM 4).1 gb (4 : Nat) W → Calls Tryd.prog 10 #[.pointer (some ⟨p, 0, none⟩), .agg #[.int .i64 4]] W fun e W' => ∃ t, e = .returned (.tuple #[.pointer (some ⟨t, 0, none⟩), .int .i64 0]) ∧ Tab W' t p 4 (List.replicate 4 (0, 0, 0)) ∧ Below W.heap.size W W') := Lib.hid fun p f gb W i => by
    obtain ⟨a, -, -, c⟩ := fmt_all (n := 4) (by decide) (by decide)
    exact open_zero (by decide) (by decide) i HT.out a c
  clear hT
  go_enter Tryd.func5, Tryd.ntmps5
  go_wp2_with fail
  refine (HW.out _).mono ?_
  rintro e w1 ⟨rfl, hb⟩
  obtain ⟨g1, k1, -⟩ := boxT_of1 hb
  have G1 := Lib.hid g1
  have K1 := Lib.hid k1
  clear hb g1 k1
  go_wp2_with fail
  refine (NW.out _).mono ?_
  intro e w2 hm
  obtain ⟨p, f, rfl, hd⟩ := DvAt.make (n := (4 : Nat)) K1.out G1.out hm
  have D2 := Lib.hid hd
  have cg := hd.cell
  clear hm hd G1 K1
  go_wp2_with fail
  refine (FM.out _ _ _ _ D2.out).mono ?_
  rintro e w3 ⟨rfl, f3, hd⟩
  have D3 := Lib.hid hd
  have cg := hd.cell
  clear hd D2
  go_wp2_with fail
  refine (OP.out _ _ _ _ D3.out).mono ?_
  rintro e w4 ⟨t, rfl, ht, hb⟩
  have T4 := Lib.hid ht
  have K4 : Hid (Below w.heap.size w w4) := Lib.hid (D3.out.b.trans (hb.mono D3.out.b.size))
  clear ht hb D3 cg
  go_wp2_with fail
  refine (tabSpans_any T4.out (by simp)).mono ?_
  rintro e w5 ⟨v, rfl, hs, hb⟩
  rw [spans_of_four] at hs
  have S5 := Lib.hid (hs.below ((Below.refl _ _).alloc (Nat.le_refl _) (.cells #[.int .i64 1, .int .i64 3] 70)) (Nat.le_refl _))
  have K5 : Hid (Below w.heap.size w (w5.alloc (.cells #[.int .i64 1, .int .i64 3] 70))) := Lib.hid ((K4.out.trans (hb.mono K4.out.size)).alloc (Nat.le_trans K4.out.size hb.size) _)
  have S6 := Lib.hid (sps_one (BoxT.new 70 w5 #[.int .i64 1, .int .i64 3]))
  clear hs hb
  go_wp2_with fail
  refine (lawSpans_yes _ _ _ _ S5.out S6.out (by decide)).mono ?_
  rintro e w6 ⟨rfl, nd, rfl⟩
  go_wp2_with fail
  go_ret
  exact ⟨rfl, below_drewN K5.out nd⟩

end Go.Proofs.YtaigocnnmjjhgaaDoor
