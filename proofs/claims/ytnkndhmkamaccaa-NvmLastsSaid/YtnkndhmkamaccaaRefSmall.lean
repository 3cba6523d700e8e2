/- The reference: a word of lines, the dirty lines, all words. -/
import Derived.Test.YtnkndhmkamaccaaRefBox
namespace Go.Proofs.Ytnkndhmkamaccaa
open Go.ChangeShapes Go.WideShapes Go.ChangeAt Go.RowKit Nv
set_option linter.unusedVariables false

section
variable {w : World} {T : Nat → Prop}

set_option maxHeartbeats 400000 in
theorem refGet_any {a : Option Addr} {n cap : Nat} {f : Nat → Int} (h : SRow w T 76 8 a n cap fun k => .int .u64 (f k)) (hn : n ≤ 33554432) (x : Int) :
    Calls Try.prog 49 #[.slice a n cap, .int .i64 x] w fun e w' => e = .returned (.int .u64 (if 0 ≤ x ∧ x < 8 * (n : Int) then f x.toNat else 0)) ∧ w = w' := by
  have hcap := h.cap
  by_cases h0 : x < 0
  · have hi : (if 0 ≤ x ∧ x < 8 * (n : Int) then f x.toNat else 0) = 0 := if_neg (by omega)
    rw [hi]
    clear hi
    go_enter Try.func49, Try.ntmps49
    go_wp2
    go_ret
    exact ⟨rfl, rfl⟩
  · by_cases h1 : x < 8 * (n : Int)
    · obtain ⟨k, rfl⟩ : ∃ k : Nat, x = k := ⟨x.toNat, by omega⟩
      have hi : (if 0 ≤ (k : Int) ∧ (k : Int) < 8 * (n : Int) then f (k : Int).toNat else 0) = f k := if_pos (by omega)
      rw [hi]
      obtain ⟨b, rfl, _, hr⟩ := h.at_ (by omega)
      have ek : k / 8 * 8 + k % 8 = k := by omega
      have c1 := hr.cell (k := k) (by omega)
      have hk3 : decide (8 * (n : Int) ≤ (k : Int)) = false := by simp; omega
      have hq : (k : Int) / 8 < (n : Int) := by omega
      have hq0 : (0 : Int) ≤ (k : Int) / 8 := by omega
      have hm0 : (0 : Int) ≤ (k : Int) % 8 := by omega
      have hm1 : (k : Int) % 8 < 8 := by omega
      clear hi h hr
      go_enter Try.func49, Try.ntmps49
      go_wp2
      go_ret
      exact ⟨rfl, rfl⟩
    · have hi : (if 0 ≤ x ∧ x < 8 * (n : Int) then f x.toNat else 0) = 0 := if_neg (by omega)
      rw [hi]
      have h2 : 8 * (n : Int) ≤ x := by omega
      clear hi h
      go_enter Try.func49, Try.ntmps49
      go_wp2
      go_ret
      exact ⟨rfl, rfl⟩

def RDirtyAt (m : Mdl) (k : Nat) (B : Nat) (v : Value) (w : World) (wr : World) : Prop :=
  wr.ownsRow B 3 1 v (dirtyTo m k).length ((dirtyTo m k).map (Value.int .i64)) ∧ Below w.heap.size w wr

set_option maxHeartbeats 1000000 in
theorem refDirty_any {r : RV} {m : Mdl} (h : Ref w T r m) : Calls Try.prog 46 #[rv r m] w (MadeNew .i64 (dirtyTo m m.L) w) := by
  obtain ⟨i0, hi, hz0, hz1, hz2⟩ := info_parts infoI
  have hL := h.lb
  have H := Lib.hid h
  have hbx : Box (w.alloc (.cells (rc r m) 30)) w.heap.size (rc r m) := Box.new w _
  have bw := (Below.refl w.heap.size w).alloc (Nat.le_refl _) (.cells (rc r m) 30)
  have H0 : Hid (RDirtyAt m 0 (w.heap.size + 1) (.slice none 0 0) w (w.alloc (.cells (rc r m) 30))) := Lib.hid ⟨World.ownsRow_nil _ _ _ _, bw⟩
  have HBX := Lib.hid hbx
  unfold rc at H0 HBX
  unfold rv
  clear h hbx bw
  go_enter Try.func46, Try.ntmps46
  go_wp2_with fail
  go_loopw [3, 4] (fun v i wr => ∃ k : Nat, k ≤ m.L ∧ i = .int .i64 k ∧ Hid (RDirtyAt m k (w.heap.size + 1) v w wr) ∧ Hid (Box wr w.heap.size #[.slice r.aN m.L r.cN, .slice r.aL m.L r.cL, .slice r.aW m.L r.cW, .slice r.aD m.L r.cD, .slice r.aP m.L r.cP, .int .i64 m.steps, .int .i64 m.fuse, .bool m.dead])) (fun _ i _ => m.L - (intOf i).toNat)
  case atStart => exact ⟨0, by omega, rfl, H0, HBX⟩
  case round =>
    obtain ⟨k, hk, rfl, HB, HX⟩ := hrel
    have c3 : wr.cell? ⟨w.heap.size, 3, none⟩ = some (.slice r.aD m.L r.cD) := HX.out.cell 3
    by_cases hlt : k < m.L
    · have hlt' : (k : Int) < ((m.L : Nat) : Int) := by omega
      have hk0 : (0 : Int) ≤ (k : Int) := by omega
      obtain ⟨bD, hbD, _, rD⟩ := H.out.hD.at_ (by omega)
      rw [hbD] at c3
      have hcell : wr.cell? ⟨bD, k, none⟩ = some (.bool (m.dirty k)) := by rw [HB.out.2.cell (p := ⟨bD, k, none⟩) rD.lt]; exact rD.cell (by omega)
      have hsz : w.heap.size ≤ wr.heap.size := HB.out.2.size
      have hsz1 : w.heap.size < wr.heap.size := HX.out.lt
      have hlen := dirtyTo_len m k
      clear rD hbD
      cases hd : m.dirty k
      · have hE := dirtyTo_no hd
        rw [hd] at hcell
        have HN : Hid (RDirtyAt m (k + 1) (w.heap.size + 1) u3 w wr) := Lib.hid (by have := HB.out; unfold RDirtyAt at this ⊢; rw [hE]; exact this)
        clear hE hd HB
        go_wp2_with fail
        go_roundw
        case rel => exact ⟨k + 1, by omega, by go_num, HN, HX⟩
        case measure => simp [intOf]; omega
      · have hE := dirtyTo_yes hd
        rw [hd] at hcell
        have HE := Lib.hid hE
        clear hE hd
        go_wp2_with (at_builtin; refine wpList_append_own _ rfl (.tmp 17) (.tmp 19) 46 rfl (w.heap.size + 1) 3 i0 (.int .i64 0) 1 8 Try.underlying46 hi hz0 hz1 hz2 rfl (by decide) _ _ _ rfl (HB.out.1.alloc _) ⟨wr.heap.size, 0, none⟩ 1 1 [.int .i64 (k : Nat)] rfl rfl (cell_new1 _ _ _) (by intro u hu; simp at hu; subst hu; rfl) (by unfold maxLen; omega) (by omega) (by simp; omega) ?_)
        intro v' w1 hown' hgrow _
        have HN : Hid (RDirtyAt m (k + 1) (w.heap.size + 1) v' w w1) := by
          refine Lib.hid ⟨?_, (HB.out.2.alloc hsz _).grown hgrow (by simp; omega) (fun b hb => by have := (HB.out.1.lt b hb).1; omega)⟩
          rw [HE.out, List.map_append, List.length_append]
          exact hown'
        have HX2 : Hid (Box w1 w.heap.size #[.slice r.aN m.L r.cN, .slice r.aL m.L r.cL, .slice r.aW m.L r.cW, .slice r.aD m.L r.cD, .slice r.aP m.L r.cP, .int .i64 m.steps, .int .i64 m.fuse, .bool m.dead]) :=
          Lib.hid ((hgrow.block w.heap.size (by simp; omega) (fun e => by have := (HB.out.1.lt _ e.symm).1; omega)).trans ((Below.heap_alloc _ _ _ hsz1).trans HX.out))
        clear hown' hgrow
        go_wp2_with fail
        go_roundw
        case rel => exact ⟨k + 1, by omega, by go_num, HN, HX2⟩
        case measure => simp [intOf]; omega
    · have hlt' : ¬ (k : Int) < ((m.L : Nat) : Int) := by omega
      obtain rfl : k = m.L := by omega
      have HF : Hid (∃ v', u3 = v' ∧ IsInts .i64 wr v' (dirtyTo m m.L) ∧ Below w.heap.size w wr ∧ ∀ b, v'.ownBlock = some b → w.heap.size ≤ b) := Lib.hid ⟨u3, rfl, .of_own HB.out.1, HB.out.2, fun b hb => by have := (HB.out.1.lt b hb).1; omega⟩
      clear HB
      go_wp2_with fail
      go_ret
      obtain ⟨v', rfl, hF⟩ := HF.out
      exact ⟨u3, rfl, hF⟩

/-- All words of lines. -/
def wordsTo (f : Nat → Int) (k : Nat) : List Int := (List.range (8 * k)).map f
theorem wordsTo_succ (f : Nat → Int) (k : Nat) : wordsTo f (k + 1) = wordsTo f k ++ (List.range 8).map fun j => f (8 * k + j) := by
  unfold wordsTo
  rw [show 8 * (k + 1) = 8 * k + 8 from by omega, List.range_add, List.map_append, List.map_map]
  rfl
theorem wordsTo_len (f : Nat → Int) (k : Nat) : (wordsTo f k).length = 8 * k := by unfold wordsTo; simp

def RAllAt (f : Nat → Int) (k : Nat) (w : World) (v : Value) (wr : World) : Prop :=
  wr.ownsRow w.heap.size 33 1 v (8 * k) ((wordsTo f k).map (Value.int .u64)) ∧ Below w.heap.size w wr

set_option maxHeartbeats 1000000 in
theorem refAll_any {a : Option Addr} {n cap : Nat} {f : Nat → Int} (h : SRow w T 76 8 a n cap fun k => .int .u64 (f k)) (hn : n ≤ 33554432) :
    Calls Try.prog 48 #[.slice a n cap] w (MadeNew .u64 (wordsTo f n) w) := by
  obtain ⟨i0, hi, hz0, hz1, hz2⟩ := info_parts infoU64
  have H := Lib.hid h
  have H0 : Hid (RAllAt f 0 w (.slice none 0 0) w) := Lib.hid ⟨World.ownsRow_nil _ _ _ _, Below.refl _ _⟩
  clear h
  go_enter Try.func48, Try.ntmps48
  go_wp2_with fail
  go_loopw [3, 4] (fun v i wr => ∃ k : Nat, k ≤ n ∧ i = .int .i64 k ∧ Hid (RAllAt f k w v wr)) (fun _ i _ => n - (intOf i).toNat)
  case atStart => exact ⟨0, by omega, rfl, H0⟩
  case round =>
    obtain ⟨k, hk, rfl, HB⟩ := hrel
    by_cases hlt : k < n
    · have hlt' : (k : Int) < ((n : Nat) : Int) := by omega
      have hk0 : (0 : Int) ≤ (k : Int) := by omega
      obtain ⟨b, rfl, _, rb⟩ := H.out.at_ (by omega)
      have hsz : w.heap.size ≤ wr.heap.size := HB.out.2.size
      have hnews : ∀ j u, ((List.range 8).map fun j => Value.int .u64 (f (8 * k + j)))[j]? = some u → wr.cell? ((⟨b, k * 8, none⟩ : Addr).add j) = some u := by
        intro j u hu
        have hj : j < 8 := by have := (List.getElem?_eq_some_iff.1 hu).1; simpa using this
        rw [addr_add, HB.out.2.cell (p := ⟨b, k * 8 + j, none⟩) rb.lt, rb.cell (k := k * 8 + j) (by omega)]
        rw [List.getElem?_map, List.getElem?_range hj] at hu
        simp at hu
        rw [← hu, show k * 8 + j = 8 * k + j from by omega]
      have HNW := Lib.hid hnews
      clear hnews rb
      go_wp2_with (at_builtin; refine wpList_append_own _ rfl (.tmp 11) (.tmp 15) 22 rfl w.heap.size 33 i0 (.int .u64 0) 1 8 Try.underlying22 hi hz0 hz1 hz2 rfl (by decide) _ _ _ rfl HB.out.1 ⟨b, k * 8, none⟩ 8 8 ((List.range 8).map fun j => Value.int .u64 (f (8 * k + j))) rfl rfl HNW.out (by intro u hu; obtain ⟨j, _, rfl⟩ := List.mem_map.1 hu; rfl) (by unfold maxLen; omega) (by omega) hsz ?_)
      intro v' w1 hown' hgrow _
      have HN : Hid (RAllAt f (k + 1) w v' w1) := by
        refine Lib.hid ⟨?_, HB.out.2.grown hgrow hsz (fun b hb => (HB.out.1.lt b hb).1)⟩
        rw [wordsTo_succ, List.map_append, List.map_map]
        exact hown'
      clear hown' hgrow
      go_wp2_with fail
      go_roundw
      case rel => exact ⟨k + 1, by omega, by go_num, HN⟩
      case measure => simp [intOf]; omega
    · have hlt' : ¬ (k : Int) < ((n : Nat) : Int) := by omega
      obtain rfl : k = n := by omega
      have HF : Hid (∃ v', u3 = v' ∧ IsInts .u64 wr v' (wordsTo f k) ∧ Below w.heap.size w wr ∧ ∀ b, v'.ownBlock = some b → w.heap.size ≤ b) := Lib.hid ⟨u3, rfl, .of_own HB.out.1, HB.out.2, fun b hb => (HB.out.1.lt b hb).1⟩
      clear HB
      go_wp2_with fail
      go_ret
      obtain ⟨v', rfl, hF⟩ := HF.out
      exact ⟨u3, rfl, hF⟩
end

end Go.Proofs.Ytnkndhmkamaccaa
