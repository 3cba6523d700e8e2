/- Texts of the proof, merged: RefSame10, GeoWords, BlkNew, BlkPut, BlkLast, Awake10. -/
import Derived.Test.YtaigocnnmjjhgaaDoorPk2
import Derived.Test.YtaigocnnmjjhgaaDoorPk1
import Derived.Test.YtaigocnnmjjhgaaDoorPk5
import Derived.Test.YtaigocnnmjjhgaaDoorPk4
import Derived.StillTailTactics
namespace Go.Proofs.YtaigocnnmjjhgaaDoor
open Go.ChangeShapes Go.WideShapes Go.ChangeAt Go.RowKit Bk
set_option linter.unusedVariables false

set_option maxHeartbeats 1000000 in
theorem refSame10_yes (va vb : Value) (hs : List H3) (w : World) (ha : IsHs w va hs) (hb : IsHs w vb hs) (hlen : hs.length ≤ 100000) :
    Calls Tryd.prog 11 #[va, vb] w fun e w' => e = .returned (.bool true) ∧ ∃ n, w' = w.drewN n := by
  obtain ⟨a, ca, rfl, hca, ha⟩ := ha
  obtain ⟨b, cb, rfl, hcb, hb⟩ := hb
  have HE : Hid (∀ (x y z : Int) w', (Op.equalIn 10000 46 (.agg #[.int .i64 x, .int .i64 y, .int .i64 z]) (.agg #[.int .i64 x, .int .i64 y, .int .i64 z])).run Tryd.prog w' = .ok true w') := Lib.hid fun x y z w' => by rw [eqR3V]; simp
  by_cases h0 : hs = []
  · subst h0
    go_enter Tryd.func11, Tryd.ntmps11
    go_wp2
    go_loop [5] (fun i => i = .int .i64 0) (fun _ => 0)
    case atStart => exact rfl
    case round =>
      obtain rfl := hrel
      go_wp2
      go_ret
      exact ⟨rfl, 0, rfl⟩
  · obtain ⟨b1, o1, rfl, _, h1⟩ := ha.resolve_left h0
    obtain ⟨b2, o2, rfl, _, h2⟩ := hb.resolve_left h0
    generalize hl : hs.length = len at *
    have H1 := Lib.hid h1
    have H2 := Lib.hid h2
    clear h1 h2 h0 hl ha hb
    go_enter Tryd.func11, Tryd.ntmps11
    go_wp2
    go_loopw [5] (fun i wr => ∃ k n : Nat, k ≤ len ∧ i = .int .i64 k ∧ wr = w.drewN n) (fun i _ => len - (intOf i).toNat)
    case atStart => exact ⟨0, 0, by omega, rfl, rfl⟩
    case round =>
      obtain ⟨k, n, hk, rfl, rfl⟩ := hrel
      by_cases hlt : k < len
      · obtain ⟨c0, c1, c2⟩ := H1.out k hlt
        obtain ⟨d0, d1, d2⟩ := H2.out k hlt
        generalize hs.getD k (0, 0, 0) = x at c0 c1 c2 d0 d1 d2
        obtain ⟨x0, x1, x2⟩ := x
        have heq := HE.out x0 x1 x2
        have hlt' : (k : Int) < (len : Int) := by omega
        have hk0 : (0 : Int) ≤ (k : Int) := by omega
        go_wp2_with fail
        go_quiet (fail)
        go_wp2_with fail
        go_roundw
        case rel => exact ⟨k + 1, _, by omega, by go_num, rfl⟩
        case measure => simp [intOf]; omega
      · have hlt' : ¬ (k : Int) < (len : Int) := by omega
        go_wp2_with fail
        go_ret
        exact ⟨rfl, _, rfl⟩

set_option maxHeartbeats 1000000 in
theorem lawSpans_yes (va vb : Value) (l : List (Int × Int)) (w : World) (ha : IsSps w va l) (hb : IsSps w vb l) (hlen : l.length ≤ 100000) :
    Calls Tryd.prog 16 #[va, vb] w fun e w' => e = .returned (.bool true) ∧ ∃ n, w' = w.drewN n := by
  obtain ⟨a, ca, rfl, hca, ha⟩ := ha
  obtain ⟨b, cb, rfl, hcb, hb⟩ := hb
  by_cases h0 : l = []
  · subst h0
    go_enter Tryd.func16, Tryd.ntmps16
    go_wp2
    go_loop [5] (fun i => i = .int .i64 0) (fun _ => 0)
    case atStart => exact rfl
    case round =>
      obtain rfl := hrel
      go_wp2
      go_ret
      exact ⟨rfl, 0, rfl⟩
  · obtain ⟨b1, o1, rfl, _, h1⟩ := ha.resolve_left h0
    obtain ⟨b2, o2, rfl, _, h2⟩ := hb.resolve_left h0
    generalize hl : l.length = len at *
    have H1 := Lib.hid h1
    have H2 := Lib.hid h2
    clear h1 h2 h0 hl ha hb
    go_enter Tryd.func16, Tryd.ntmps16
    go_wp2
    go_loopw [5] (fun i wr => ∃ k n : Nat, k ≤ len ∧ i = .int .i64 k ∧ wr = w.drewN n) (fun i _ => len - (intOf i).toNat)
    case atStart => exact ⟨0, 0, by omega, rfl, rfl⟩
    case round =>
      obtain ⟨k, n, hk, rfl, rfl⟩ := hrel
      by_cases hlt : k < len
      · obtain ⟨c0, c1⟩ := H1.out k hlt
        obtain ⟨d0, d1⟩ := H2.out k hlt
        generalize l.getD k (0, 0) = x at c0 c1 d0 d1
        obtain ⟨x0, x1⟩ := x
        have hlt' : (k : Int) < (len : Int) := by omega
        have hk0 : (0 : Int) ≤ (k : Int) := by omega
        go_wp2_with fail
        go_quiet (fail)
        go_wp2_with fail
        go_roundw
        case rel => exact ⟨k + 1, _, by omega, by go_num, rfl⟩
        case measure => simp [intOf]; omega
      · have hlt' : ¬ (k : Int) < (len : Int) := by omega
        go_wp2_with fail
        go_ret
        exact ⟨rfl, _, rfl⟩

end Go.Proofs.YtaigocnnmjjhgaaDoor

namespace Go.Proofs.YtaigocnnmjjhgaaDoor
open Go.ChangeShapes Go.WideShapes Go.ChangeAt Go.RowKit
set_option linter.unusedVariables false

set_option maxHeartbeats 400000 in
theorem geoWords_any (n : Int) (w : World) (h0 : 0 ≤ n) (h1 : n ≤ 1048576) :
    Calls Tryd.prog 21 #[.agg #[.int .i64 n]] w fun e w' => e = .returned (.int .i64 (512 * n)) ∧ Below w.heap.size w w' := by
  go_enter Tryd.func21, Tryd.ntmps21
  go_wp2
  go_ret
  exact ⟨ret_int (Int.mul_comm _ _), (Below.refl _ _).alloc (Nat.le_refl _) _⟩

end Go.Proofs.YtaigocnnmjjhgaaDoor

namespace Go.Proofs.YtaigocnnmjjhgaaDoor
open Go.ChangeShapes Go.WideShapes Go.ChangeAt Go.RowKit Bk Bh Nv
set_option linter.unusedVariables false

/-- A device of n blocks, formatted. -/
def fmtM (n : Nat) : Mdl × Int := putM (fresh (64 * n) fun _ => 0) zeroX 257 (n - 1)
theorem fmt_ok {n : Nat} (h1 : 2 ≤ n) (hn : n ≤ 256) : (fmtM n).2 = 0 ∧ Runs (fmtM n).1 := put_runs zeroX (runs_fresh _ _) (by show 257 + (n - 1) ≤ 8 * (64 * n); omega)
theorem put_L (m : Mdl) (x : Nat → Nat) (a n : Nat) (h : (putM m x a n).2 = 0) (hc : Nv.Clean m) : (putM m x a n).1.L = m.L := by
  unfold putM at h ⊢
  simp only at h ⊢
  by_cases h0 : (storesM m x a n).2 = 0
  · rw [if_pos h0] at h ⊢
    obtain ⟨g1, g2, g3⟩ := stores_done x n a hc h0
    exact (persist_done g2 a n h).2.2.2.1.trans (stores_L _ _ _ _)
  · rw [if_neg h0] at h; exact absurd h h0
/-- What there is behind Format: all words of headers are the zero one's; they lie still. -/
theorem fmt_all {n : Nat} (h1 : 2 ≤ n) (hn : n ≤ 256) : (fmtM n).1.L = 64 * n ∧ Nv.Clean (fmtM n).1 ∧ Still (fmtM n).1 257 (n - 1) ∧ ∀ j, 256 < j → j < 256 + n → (fmtM n).1.now j = (zeroX j : Nat) := by
  have h := (fmt_ok h1 hn).1
  obtain ⟨a, b, c⟩ := put_done (m := fresh (64 * n) fun _ => 0) (A := 257) (N := n - 1) (clean_fresh _ _) (still_fresh _ _ _ _) (Nat.le_refl _) (Nat.le_refl _) h
  refine ⟨put_L _ _ _ _ h (clean_fresh _ _), a, b, fun j hj1 hj2 => ?_⟩
  unfold fmtM
  rw [c, if_pos (by omega)]
theorem zero_right : rightH 0 0 0 = true := by decide
theorem zeroX_lt (j : Nat) : 0 ≤ ((zeroX j : Nat) : Int) ∧ ((zeroX j : Nat) : Int) < 2 ^ 64 := by
  have := encN_lt 0 0 0 j
  unfold zeroX
  omega
/-- All words are the zero header's: what is read. -/
theorem zero_hdrs {f : Nat → Int} {n : Nat} (hf : ∀ j, 256 < j → j < 256 + n → f j = (zeroX j : Nat)) : firstBad f n = none ∧ hdrs f n = List.replicate n (0, 0, 0) := by
  obtain ⟨a, b⟩ := read_words (f := f) (n := n) (h := fun _ => (0, 0, 0)) fun b hb1 hb2 => ⟨zero_right, hf _ (by omega) (by omega)⟩
  refine ⟨a, ?_⟩
  unfold hdrs
  apply List.ext_getElem
  · simp
  · intro i hi1 hi2
    simp only [List.getElem_map, List.getElem_range, List.getElem_replicate]
    split
    · rfl
    · simp at hi2; exact b i (by omega) hi2

/-- A device that was made behind world w, and the geometry's box. -/
structure DvAt (w : World) (p : Nat) (f : Fp) (m : Mdl) (gb : Nat) (n : Int) (W : World) : Prop where
  b : Below w.heap.size w W
  d : Dev W p f m
  o : ∀ b, f.own p b → w.heap.size ≤ b
  g : BoxT 25 W gb #[.int .i64 n]
  no : ¬ f.own p gb
theorem DvAt.step {w W W' : World} {p : Nat} {f : Fp} {m : Mdl} {gb : Nat} {n : Int} (i : DvAt w p f m gb n W) (hb : Below W.heap.size W W') : DvAt w p f m gb n W' :=
  ⟨i.b.trans (hb.mono i.b.size), i.d.below hb, i.o, i.g.below hb i.g.lt, i.no⟩
theorem DvAt.cell {w W : World} {p : Nat} {f : Fp} {m : Mdl} {gb : Nat} {n : Int} (i : DvAt w p f m gb n W) : W.cell? ⟨gb, 0, none⟩ = some (.int .i64 n) := i.g.cell 0
theorem DvAt.to {w W W' : World} {p : Nat} {f : Fp} {m m' : Mdl} {gb : Nat} {n : Int} (i : DvAt w p f m gb n W) (ht : DevTo p f m' W W') : ∃ f', DvAt w p f' m' gb n W' := by
  obtain ⟨f', d, k, o⟩ := ht
  refine ⟨f', i.b.trans (k.below (B := w.heap.size) i.b.size fun b hb => i.o b hb), d, fun b hb => ?_, i.g.keep k i.no, fun hb => ?_⟩
  · rcases o b hb with h | h
    · exact i.o b h
    · exact Nat.le_trans i.b.size h
  · rcases o _ hb with h | h
    · exact i.no h
    · have := i.g.lt; omega
theorem DvAt.rests {w W W' : World} {p : Nat} {f : Fp} {m : Mdl} {gb : Nat} {n : Int} (i : DvAt w p f m gb n W) (hT : HasRests w) (hk : Keep (f.own p) W W') : HasRests W' :=
  hT.below (i.b.trans (hk.below (B := w.heap.size) i.b.size fun b hb => i.o b hb)) (Nat.le_refl _)
theorem DvAt.make {w W W' : World} {e : Ending} {m : Mdl} {gb : Nat} {n : Int} (hb : Below w.heap.size w W) (hg : BoxT 25 W gb #[.int .i64 n]) (h : MadeDev m W e W') : ∃ p f, e = .returned (.pointer (some ⟨p, 0, none⟩)) ∧ DvAt w p f m gb n W' := by
  obtain ⟨p, f, he, d, k, o⟩ := h
  exact ⟨p, f, he, hb.trans (k.below (B := w.heap.size) hb.size fun b hb => hb.elim), d, fun b h => Nat.le_trans hb.size (o b h), hg.keep k fun h => h, fun h => by have := o _ h; have := hg.lt; omega⟩

/-- Format of a device that was just made, of n blocks. -/
theorem fmt_new {w W : World} {p : Nat} {f : Fp} {gb n : Nat} (h1 : 2 ≤ n) (hn : n ≤ 256) (i : DvAt w p f (fresh (64 * n) fun _ => 0) gb n W) (hT : HasRests w) :
    Calls Tryd.prog 22 #[.pointer (some ⟨p, 0, none⟩), .agg #[.int .i64 n]] W fun e W' => e = .returned (.int .i64 0) ∧ ∃ f', DvAt w p f' (fmtM n).1 gb n W' := by
  refine (blkFormat_any i.d n h1 hn (by show 512 * n ≤ 8 * (64 * n); omega) (show (0 : Int) < 1152921504606846976 by decide) fun W' hk => i.rests hT hk).mono ?_
  rintro e W' ⟨he, ht⟩
  refine ⟨he.trans ?_, i.to ht⟩
  rw [show (putM (fresh (64 * n) fun _ => 0) zeroX 257 (n - 1)).2 = 0 from (fmt_ok h1 hn).1]
/-- Open of a device all of whose headers are the zero one. -/
theorem open_zero {w W : World} {p : Nat} {f : Fp} {m : Mdl} {gb n : Nat} (h1 : 2 ≤ n) (hn : n ≤ 256) (i : DvAt w p f m gb n W) (hT : HasRests w) (hL : m.L = 64 * n) (hz : ∀ j, 256 < j → j < 256 + n → m.now j = (zeroX j : Nat)) :
    Calls Tryd.prog 10 #[.pointer (some ⟨p, 0, none⟩), .agg #[.int .i64 n]] W fun e W' => ∃ t, e = .returned (.tuple #[.pointer (some ⟨t, 0, none⟩), .int .i64 0]) ∧ Tab W' t p n (List.replicate n (0, 0, 0)) ∧ Below W.heap.size W W' := by
  refine (blkOpen_any i.d n (fun j h2 h3 => by rw [hz j h2 h3]; exact zeroX_lt j) h1 hn (by omega) (hT.below i.b (Nat.le_refl _))).mono ?_
  rintro e W' ⟨v, he, hv, hb⟩
  obtain ⟨g1, g2⟩ := zero_hdrs hz
  rw [g1, g2] at hv
  obtain ⟨t, rfl, ht⟩ := hv
  exact ⟨t, by rw [he, (read_good g1).2.2]; rfl, ht, hb⟩

end Go.Proofs.YtaigocnnmjjhgaaDoor

namespace Go.Proofs.YtaigocnnmjjhgaaDoor
open Go.ChangeShapes Go.WideShapes Go.ChangeAt Go.RowKit Bk Bh Nv
set_option linter.unusedVariables false

theorem own_keep {w w' : World} {base size n : Nat} {e : TypeId} {v : Value} {xs : List Value} (h : w.ownsRow base e size v n xs) (hk : ∀ g, v.ownBlock = some g → w'.heap[g]? = w.heap[g]?) : w'.ownsRow base e size v n xs := by
  obtain ⟨hl, h⟩ := h
  refine ⟨hl, ?_⟩
  rcases h with h | ⟨g, cap, cur, rfl, h2, h3, h4⟩
  · exact .inl h
  · exact .inr ⟨g, cap, cur, rfl, h2, (hk g rfl).trans h3, h4⟩

/-- A table over a device: both were made behind world w0. -/
structure PutAt (w0 : World) (p : Nat) (f : Fp) (m : Mdl) (t n rb cap : Nat) (hs : List H3) (W : World) : Prop where
  b : Below w0.heap.size w0 W
  d : Dev W p f m
  o : ∀ b, f.own p b → w0.heap.size ≤ b
  x : BoxT 83 W t #[.pointer (some ⟨p, 0, none⟩), .int .i64 n, .slice (some ⟨rb, 0, none⟩) n cap]
  tge : w0.heap.size ≤ t
  tno : ¬ f.own p t
  r : W.ownsRow w0.heap.size 48 3 (.slice (some ⟨rb, 0, none⟩) n cap) n ((flat3 hs).map (Value.int .i64))
  rno : ¬ f.own p rb
  ne : rb ≠ t
  len : hs.length = n
section
variable {w0 W W' : World} {p : Nat} {f : Fp} {m m' : Mdl} {t n rb cap : Nat} {hs : List H3}
theorem PutAt.rlt (i : PutAt w0 p f m t n rb cap hs W) : rb < W.heap.size := (i.r.lt rb rfl).2
theorem PutAt.rge (i : PutAt w0 p f m t n rb cap hs W) : w0.heap.size ≤ rb := (i.r.lt rb rfl).1
theorem PutAt.step (i : PutAt w0 p f m t n rb cap hs W) (hb : Below W.heap.size W W') : PutAt w0 p f m t n rb cap hs W' :=
  ⟨i.b.trans (hb.mono i.b.size), i.d.below hb, i.o, i.x.below hb i.x.lt, i.tge, i.tno, own_keep i.r fun g hg => by cases hg; exact hb.block rb i.rlt, i.rno, i.ne, i.len⟩
theorem PutAt.tab (i : PutAt w0 p f m t n rb cap hs W) : Tab W t p n hs := ⟨_, i.x, .of_own i.r i.len.symm⟩
theorem PutAt.cells (i : PutAt w0 p f m t n rb cap hs W) : W.cell? ⟨t, 0, none⟩ = some (.pointer (some ⟨p, 0, none⟩)) ∧ W.cell? ⟨t, 1, none⟩ = some (.int .i64 n) ∧ W.cell? ⟨t, 2, none⟩ = some (.slice (some ⟨rb, 0, none⟩) n cap) := ⟨i.x.cell 0, i.x.cell 1, i.x.cell 2⟩
/-- The device's own calls. -/
theorem PutAt.dev (i : PutAt w0 p f m t n rb cap hs W) (ht : DevTo p f m' W W') : ∃ f', PutAt w0 p f' m' t n rb cap hs W' ∧ ∀ b, ¬ f.own p b → b < W.heap.size → ¬ f'.own p b ∧ W'.heap[b]? = W.heap[b]? := by
  obtain ⟨f', d, k, o⟩ := ht
  have no : ∀ b, ¬ f.own p b → b < W.heap.size → ¬ f'.own p b := fun b h1 h2 hb => by
    rcases o _ hb with h | h
    · exact h1 h
    · omega
  refine ⟨f', ⟨i.b.trans (k.below (B := w0.heap.size) i.b.size fun b hb => i.o b hb), d, fun b hb => ?_, i.x.keep k i.tno, i.tge, no t i.tno i.x.lt, own_keep i.r fun g hg => by cases hg; exact k.block rb i.rlt i.rno, no rb i.rno i.rlt, i.ne, i.len⟩, fun b h1 h2 => ⟨no b h1 h2, k.block b h2 h1⟩⟩
  rcases o b hb with h | h
  · exact i.o b h
  · exact Nat.le_trans i.b.size h
/-- A header is stored into the list. -/
theorem PutAt.row (i : PutAt w0 p f m t n rb cap hs W) (j : Nat) (hj : j < n) (z : H3) : PutAt w0 p f m t n rb cap (hs.set j z) (W.setCells rb (j * 3) [.int .i64 z.1, .int .i64 z.2.1, .int .i64 z.2.2]) := by
  have kp := setCells_keep rb [.int .i64 z.1, .int .i64 z.2.1, .int .i64 z.2.2] (j * 3) W
  refine ⟨i.b.trans (kp.below (B := w0.heap.size) i.b.size fun b e => by rw [e]; exact i.rge), i.d.keep kp (fun b _ ho e => i.rno (e ▸ ho)), i.o, i.x.keep kp (fun e => i.ne e.symm), i.tge, i.tno, ?_, i.rno, i.ne, by rw [List.length_set]; exact i.len⟩
  have h1 := (i.r.stored (j * 3) (.int .i64 z.1)).1
  have h2 := (h1.stored (j * 3 + 1) (.int .i64 z.2.1)).1
  have h3 := (h2.stored (j * 3 + 1 + 1) (.int .i64 z.2.2)).1
  rw [flat3_set hs j z (by have := i.len; omega), List.map_set, List.map_set, List.map_set]
  exact h3
theorem PutAt.there (i : PutAt w0 p f m t n rb cap hs W) {j : Nat} (hj : j < n) : W.there rb (j * 3) 3 := fun k hk => by
  have hl : (flat3 hs).length = n * 3 := by rw [flat3_len, i.len]
  refine ⟨?_, i.r.frozenAt _⟩
  rw [i.r.cellAt _ (by omega), List.getElem?_map, List.getElem?_eq_getElem (by omega)]
  rfl
/-- Of a table that was just opened. -/
theorem PutAt.ofOpen {gb : Nat} {g : Int} (i : DvAt w0 p f m gb g W) (h : TabOwn W W' t p n hs) (hn : 1 ≤ n) (hb : Below W.heap.size W W') : ∃ rb cap, PutAt w0 p f m t n rb cap hs W' := by
  obtain ⟨v, hx, ho, hlt⟩ := h.x
  have hob : ∀ b, f.own p b → b < W.heap.size := i.d.own_all
  rcases id ho.2 with ⟨-, h0⟩ | ⟨g, c, cur, rfl, hg, -⟩
  · omega
  · exact ⟨g, c, i.b.trans (hb.mono i.b.size), i.d.below hb, i.o, hx, Nat.le_trans i.b.size h.ge, fun e => by have := hob _ e; have := h.ge; omega, own_base ho i.b.size, fun e => by have := hob _ e; omega, fun e => by have := hlt g rfl; omega, h.len⟩
end

/-- And the box of a header. -/
structure PutBox (w0 : World) (p : Nat) (f : Fp) (m : Mdl) (t n rb cap : Nat) (hs : List H3) (hb : Nat) (z : H3) (W : World) : Prop where
  i : PutAt w0 p f m t n rb cap hs W
  h : BoxT 48 W hb #[.int .i64 z.1, .int .i64 z.2.1, .int .i64 z.2.2]
  no : ¬ f.own p hb
section
variable {w0 W W' : World} {p : Nat} {f : Fp} {m m' : Mdl} {t n rb cap hb : Nat} {hs : List H3} {z : H3}
theorem PutBox.step (i : PutBox w0 p f m t n rb cap hs hb z W) (hW : Below W.heap.size W W') : PutBox w0 p f m t n rb cap hs hb z W' := ⟨i.i.step hW, i.h.below hW i.h.lt, i.no⟩
theorem PutBox.drew (i : PutBox w0 p f m t n rb cap hs hb z W) : PutBox w0 p f m t n rb cap hs hb z W.drew := i.step (below_drewN (Below.refl _ _) 1)
theorem PutBox.dev (i : PutBox w0 p f m t n rb cap hs hb z W) (ht : DevTo p f m' W W') : ∃ f', PutBox w0 p f' m' t n rb cap hs hb z W' := by
  obtain ⟨f', h1, h2⟩ := i.i.dev ht
  obtain ⟨h3, h4⟩ := h2 hb i.no i.h.lt
  exact ⟨f', h1, h4.trans i.h, h3⟩
theorem PutBox.cells (i : PutBox w0 p f m t n rb cap hs hb z W) : W.cell? ⟨t, 0, none⟩ = some (.pointer (some ⟨p, 0, none⟩)) ∧ W.cell? ⟨t, 1, none⟩ = some (.int .i64 n) ∧ W.cell? ⟨t, 2, none⟩ = some (.slice (some ⟨rb, 0, none⟩) n cap) ∧
    W.cell? ⟨hb, 0, none⟩ = some (.int .i64 z.1) ∧ W.cell? ⟨hb, 1, none⟩ = some (.int .i64 z.2.1) ∧ W.cell? ⟨hb, 2, none⟩ = some (.int .i64 z.2.2) := ⟨i.i.x.cell 0, i.i.x.cell 1, i.i.x.cell 2, i.h.cell 0, i.h.cell 1, i.h.cell 2⟩
end

/-- What Put does: the device and the error's number, the list. -/
def putR (m : Mdl) (n : Nat) (hs : List H3) (b : Int) (ls : List H3) : (Mdl × Int) × List H3 :=
  if hasB n b ls.length = true ∧ allOk ls = true then
    if ls = [] then ((m, 0), hs) else (putM m (wordX b.toNat ls) (256 + b.toNat) ls.length, putH hs b.toNat ls (okS m (wordX b.toNat ls) (256 + b.toNat) ls.length))
  else ((m, 1), hs)
def PutTells (w0 : World) (p : Nat) (r : (Mdl × Int) × List H3) (t n rb cap : Nat) (e : Ending) (W' : World) : Prop :=
  e = .returned (.int .i64 r.1.2) ∧ ∃ f', PutAt w0 p f' r.1.1 t n rb cap r.2 W'

set_option maxRecDepth 100000 in
set_option maxHeartbeats 4000000 in
theorem blkPut_any {w0 W : World} {p : Nat} {f : Fp} {m : Mdl} {t n rb cap : Nat} {hs : List H3} (i : PutAt w0 p f m t n rb cap hs W) (hT : HasRests w0) (hn : n ≤ 256) (hL : 512 * n ≤ 8 * m.L) (hst : m.steps < 1152921504606846976)
    (v : Value) (ls : List H3) (hv : IsHs w0 v ls) (hlen : ls.length ≤ 100000) (b : Int) (hb : b ≤ 9223372036854775807) :
    Calls Tryd.prog 24 #[.pointer (some ⟨t, 0, none⟩), .int .i64 b, v] W (PutTells w0 p (putR m n hs b ls) t n rb cap) := by
  have HA := Lib.hid (blkHas_any i.tab (by have := i.len; omega) b ls.length hb)
  rw [i.len] at HA
  have HV := Lib.hid hv
  obtain ⟨a, vc, rfl, hvc, -⟩ := id hv
  have HR : Hid (∀ W, Below w0.heap.size w0 W → Calls Tryd.prog 39 #[.slice a ls.length vc] W (MadeOne (.bool (allOk ls)) W)) := Lib.hid fun W h => blkRight_any _ ls W (HV.out.below h (Nat.le_refl _)) hlen
  have I := Lib.hid i
  have HT := Lib.hid hT
  clear hv i hT
  by_cases hh : hasB n b ls.length = true
  rotate_left
  · have hhf : hasB n b ls.length = false := by simpa using hh
    have hr : putR m n hs b ls = ((m, 1), hs) := by unfold putR; rw [if_neg (fun e => hh e.1)]
    rw [hr]
    rw [hhf] at HA
    clear hh hhf hr
    go_enter Tryd.func24, Tryd.ntmps24
    go_wp2_with fail
    refine HA.out.mono ?_
    rintro e W1 ⟨rfl, rfl⟩
    go_wp2_with fail
    go_ret
    exact ⟨rfl, f, I.out⟩
  by_cases ho : allOk ls = true
  rotate_left
  · have hof : allOk ls = false := by simpa using ho
    have hr : putR m n hs b ls = ((m, 1), hs) := by unfold putR; rw [if_neg (fun e => ho e.2)]
    rw [hr]
    rw [hof] at HR
    rw [hh] at HA
    clear hh hof ho hr
    go_enter Tryd.func24, Tryd.ntmps24
    go_wp2_with fail
    refine HA.out.mono ?_
    rintro e W1 ⟨rfl, rfl⟩
    go_wp2_with fail
    refine (HR.out _ I.out.b).mono ?_
    rintro e W1 ⟨rfl, hb1⟩
    have I1 := Lib.hid (I.out.step hb1)
    clear hb1
    go_wp2_with fail
    go_ret
    exact ⟨rfl, f, I1.out⟩
  by_cases hl : ls = []
  · have hr : putR m n hs b ls = ((m, 0), hs) := by unfold putR; rw [if_pos ⟨hh, ho⟩, if_pos hl]
    rw [hr]
    subst hl
    rw [ho] at HR
    rw [hh] at HA
    clear hh ho hr
    go_enter Tryd.func24, Tryd.ntmps24
    go_wp2_with fail
    refine HA.out.mono ?_
    rintro e W1 ⟨rfl, rfl⟩
    go_wp2_with fail
    refine (HR.out _ I.out.b).mono ?_
    rintro e W1 ⟨rfl, hb1⟩
    have I1 := Lib.hid (I.out.step hb1)
    clear hb1
    go_wp2_with fail
    go_ret
    exact ⟨rfl, f, I1.out⟩
  have hbn : 1 ≤ b ∧ (ls.length : Int) ≤ (n : Int) - b := by unfold hasB at hh; simpa using hh
  obtain ⟨B, rfl⟩ := Int.eq_ofNat_of_zero_le (show 0 ≤ b by omega)
  obtain ⟨hB1, hBL⟩ : 1 ≤ B ∧ B + ls.length ≤ n := by omega
  have hL1 : 0 < ls.length := List.length_pos_iff.2 hl
  have hr : putR m n hs B ls = (putM m (wordX B ls) (256 + B) ls.length, putH hs B ls (okS m (wordX B ls) (256 + B) ls.length)) := by
    unfold putR; rw [if_pos ⟨hh, ho⟩, if_neg hl]; simp only [Int.toNat_natCast]
  rw [hr]
  rw [ho] at HR
  rw [hh] at HA
  have hms : ∀ q mk, storesM m (wordX B ls) (256 + B) q = (mk, 0) → mk.steps ≤ m.steps + q ∧ mk.L = m.L := fun q mk hq => by
    have h1 := stores_steps (wordX B ls) q (256 + B) m
    have h2 := stores_L (wordX B ls) q (256 + B) m
    rw [hq] at h1 h2
    exact ⟨h1, h2⟩
  have HMS := Lib.hid hms
  have HW : Hid (∀ q, wordX B ls (256 + B + q) = encN (ls.getD q (0, 0, 0)).1 (ls.getD q (0, 0, 0)).2.1 (ls.getD q (0, 0, 0)).2.2 (256 + (B + q))) := Lib.hid fun q => by
    unfold wordX
    rw [show 256 + B + q - (256 + B) = q by omega, show 256 + (B + q) = 256 + B + q by omega]
  obtain ⟨L, hLL⟩ : ∃ L, ls.length = L := ⟨_, rfl⟩
  have LN := Lib.hid hLL
  rw [hLL] at hL1 hBL hlen HA HR hvc ⊢
  have HVC := Lib.hid hvc
  clear hh ho hl hr hbn hms hLL hb hvc
  have hd0 : ¬ ((L : Int) = 0) := by omega
  have hd1 : ((L : Int) == 0) = false := by simp; omega
  go_enter Tryd.func24, Tryd.ntmps24
  go_wp2_with fail
  refine HA.out.mono ?_
  rintro e W1 ⟨rfl, rfl⟩
  go_wp2_with fail
  refine (HR.out _ I.out.b).mono ?_
  rintro e W1 ⟨rfl, hb1⟩
  have I1 := Lib.hid (I.out.step hb1)
  clear hb1 HA HR I
  go_wp2_with fail
  go_loopw [7, 8, 9, 26] (fun _ _ _ i wr => ∃ (q : Nat) (mk : Mdl) (fk : Fp), q ≤ L ∧ i = .int .i64 q ∧ Hid (PutAt w0 p fk mk t n rb cap (putH hs B ls q) wr) ∧ Hid (storesM m (wordX B ls) (256 + B) q = (mk, 0))) (fun _ _ _ i _ => L - (intOf i).toNat)
  case atStart => exact ⟨0, m, f, by omega, rfl, I1, Lib.hid rfl⟩
  case round =>
    obtain ⟨q, mk, fk, hq, rfl, HI, HS⟩ := hrel
    have hmk := HMS.out q mk HS.out
    by_cases hlt : q < L
    · have hlt' : (q : Int) < (L : Int) := by omega
      have hq0 : (0 : Int) ≤ (q : Int) := by omega
      have hix : (B : Int) + (q : Int) < (n : Int) := by omega
      have hix0 : (0 : Int) ≤ (B : Int) + (q : Int) := by omega
      have hcell := HV.out
      obtain ⟨a', cap', ev, -, hcx⟩ := hcell
      obtain ⟨lb, off, ha, hlb, hcell⟩ := hcx.resolve_left (fun h => by have := LN.out; rw [h] at this; simp at this; omega)
      subst ha
      obtain rfl : a = some ⟨lb, off, none⟩ := by cases ev; rfl
      obtain ⟨e0, e1, e2⟩ := hcell q (by rw [LN.out]; exact hlt)
      have d0 := (HI.out.b.cell (p := ⟨lb, off + q * 3, none⟩) hlb).trans e0
      have d1 := (HI.out.b.cell (p := ⟨lb, off + q * 3 + 1, none⟩) hlb).trans e1
      have d2 := (HI.out.b.cell (p := ⟨lb, off + q * 3 + 2, none⟩) hlb).trans e2
      have hnext : storesM m (wordX B ls) (256 + B) (q + 1) = Nv.store mk (256 + ((B + q : Nat) : Int)) (encN (ls.getD q (0, 0, 0)).1 (ls.getD q (0, 0, 0)).2.1 (ls.getD q (0, 0, 0)).2.2 (256 + (B + q)) : Nat) := by
        have := storesM_last (wordX B ls) q (256 + B) m
        rw [HS.out] at this
        simp only [if_pos] at this
        rw [this, HW.out q, show ((256 + B + q : Nat) : Int) = 256 + ((B + q : Nat) : Int) by omega]
      have HP : Hid (putH hs B ls (q + 1) = (putH hs B ls q).set (B + q) (ls.getD q (0, 0, 0))) := Lib.hid rfl
      clear hcell hcx e0 e1 e2 ev
      generalize ls.getD q (0, 0, 0) = z at *
      obtain ⟨z0, z1, z2⟩ := z
      simp only at d0 d1 d2 hnext
      have PB : Hid (PutBox w0 p fk mk t n rb cap (putH hs B ls q) wr.heap.size (z0, z1, z2) (wr.alloc (.cells #[.int .i64 z0, .int .i64 z1, .int .i64 z2] 48))) := Lib.hid
        ⟨HI.out.step ((Below.refl _ _).alloc (Nat.le_refl _) _), BoxT.new _ _ _, fun e => by have := HI.out.d.own_all _ e; omega⟩
      have ST : Hid (∀ W' a, a = ((B + q : Nat) : Int) → PutBox w0 p fk mk t n rb cap (putH hs B ls q) wr.heap.size (z0, z1, z2) W' → Calls Tryd.prog 31 #[.pointer (some ⟨p, 0, none⟩), .agg #[.int .i64 n], .int .i64 a, .agg #[.int .i64 z0, .int .i64 z1, .int .i64 z2]] W' (CodeTo p fk (Nv.store mk (256 + ((B + q : Nat) : Int)) (encN z0 z1 z2 (256 + (B + q)) : Nat)) W')) := Lib.hid fun W' a ha h => by
        subst ha
        exact blkStore_any h.i.d n (B + q) z0 z1 z2 (by omega) (by omega) hn (by omega) (HT.out.below h.i.b (Nat.le_refl _))
      rcases hfe : Nv.store mk (256 + ((B + q : Nat) : Int)) (encN z0 z1 z2 (256 + (B + q)) : Nat) with ⟨m1, c⟩
      rw [hfe] at ST hnext
      have HNX := Lib.hid hnext
      clear hnext hfe HI
      go_wp2_with fail
      generalize wr.alloc (.cells #[.int .i64 z0, .int .i64 z1, .int .i64 z2] 48) = V at PB ⊢
      generalize wr.heap.size = hb at *
      obtain ⟨c0, c1, c2, c3, c4, c5⟩ := PB.out.cells
      clear d0 d1 d2
      go_region_held3 (fun w' => w'.cell? ⟨t, 0, none⟩ = some (.pointer (some ⟨p, 0, none⟩)) ∧ w'.cell? ⟨t, 1, none⟩ = some (.int .i64 n) ∧ w'.cell? ⟨t, 2, none⟩ = some (.slice (some ⟨rb, 0, none⟩) n cap) ∧ w'.cell? ⟨hb, 0, none⟩ = some (.int .i64 z0) ∧ w'.cell? ⟨hb, 1, none⟩ = some (.int .i64 z1) ∧ w'.cell? ⟨hb, 2, none⟩ = some (.int .i64 z2))
        (first | go_keep | exact PB.out.cells | exact PC.out.choose_spec.cells)
        (first
          | (go_at_call 31; refine (ST.out _ _ (by first | with_reducible rfl | (rw [IntKind.wrap_i64]; omega) | go_num) PB.out.drew).mono ?_; intro e w' ht; have PC := Lib.hid (PB.out.drew.dev ht.2); obtain rfl := ht.1; clear ht PB))
      obtain ⟨f1, hpb⟩ := PC.out
      have PB := Lib.hid hpb
      obtain ⟨c0, c1, c2, c3, c4, c5⟩ := hpb.cells
      clear hpb PC
      by_cases hc : c = 0
      · subst hc
        go_wp2_with fail
        clear ST
        obtain ⟨j, hj⟩ : ∃ j, j = B + q := ⟨_, rfl⟩
        have hwr : IntKind.i64.wrap ((B : Int) + (q : Int)) = (j : Int) := by rw [IntKind.wrap_i64]; omega
        have hj0 : (0 : Int) ≤ (j : Int) := by omega
        have hj1 : (j : Int) < (n : Int) := by omega
        have HJ := Lib.hid hj
        clear hj hix hix0
        go_still_tail 9, (by kernel_rfl)
        change wpList _ _ _ _ _ w'.drew
        have PD := Lib.hid PB.out.drew
        clear c0 c1 c2 c3 c4 c5
        generalize w'.drew = V2 at *
        have hjn : j < n := by omega
        have PR := Lib.hid (PD.out.i.row j hjn (z0, z1, z2))
        have TH := Lib.hid (PD.out.i.there hjn)
        clear hwr
        go_wp2_with (show wpList _ _ _ ((Oper.mk _ (Op.store _ (.tmp 55) (.tmp 54)) _ _ _ _) :: _) _ _; refine wpList_store_mid rfl 48 (.tmp 55) (.tmp 54) rfl rb (j * 3) #[.int .i64 z0, .int .i64 z1, .int .i64 z2] ?_ ?_ TH.out info3 (one3 _ _ _) ?_; (exact rfl); (exact rfl))
        go_roundw
        case rel => exact ⟨q + 1, m1, f1, by omega, by go_num, by rw [HP.out, ← HJ.out]; exact PR, HNX⟩
        case measure => simp [intOf]; omega
      · have hcb : ((c : Int) != 0) = true := by simpa using hc
        have hcc : ((c : Int) == 0) = false := by simpa using hc
        have hr : putM m (wordX B ls) (256 + B) L = (m1, c) := by
          have := stores_stop HNX.out hc L (by omega)
          unfold putM
          rw [this]
          exact if_neg hc
        have hk : okS m (wordX B ls) (256 + B) L = q := okS_stop (by rw [HS.out]) (by rw [HNX.out]; exact hc) L hlt
        have HRK := Lib.hid (And.intro hr hk)
        clear hc hr hk ST
        go_wp2_with fail
        go_ret
        refine ⟨?_, f1, ?_⟩
        · rw [HRK.out.1]; rfl
        · rw [HRK.out.1, HRK.out.2]; exact PB.out.i
    · have hlt' : ¬ (q : Int) < (L : Int) := by omega
      obtain rfl : q = L := by omega
      have hr : putM m (wordX B ls) (256 + B) q = Nv.persist mk ((256 + B : Nat) : Int) ((q : Nat) : Int) := by
        unfold putM
        rw [HS.out]
        exact if_pos rfl
      have hk : okS m (wordX B ls) (256 + B) q = q := okS_all q (by rw [HS.out])
      have HH : Hid (∀ W, Calls Tryd.prog 33 #[.agg #[.int .i64 n], .int .i64 B] W fun e w' => e = .returned (.int .i64 (256 + (B : Int))) ∧ Below W.heap.size W w') := Lib.hid fun W => by
        have := geoHeader_any (n : Int) (B : Int) W (by omega)
        unfold headerG at this
        rwa [if_pos (by omega)] at this
      have PS : Hid (∀ W, PutAt w0 p fk mk t n rb cap (putH hs B ls q) W → Calls Tryd.prog 32 #[.pointer (some ⟨p, 0, none⟩), .int .i64 (256 + (B : Int)), .int .i64 q] W (CodeTo p fk (Nv.persist mk ((256 + B : Nat) : Int) ((q : Nat) : Int)) W)) := Lib.hid fun W h => by
        have := persist_any h.d (256 + (B : Int)) (q : Int) (by omega) (by omega) (by omega) (by omega) (by omega)
        rwa [show (256 + (B : Int)) = ((256 + B : Nat) : Int) by omega] at this ⊢
      generalize Nv.persist mk ((256 + B : Nat) : Int) ((q : Nat) : Int) = r at *
      obtain ⟨m1, c⟩ := r
      have HRK := Lib.hid (And.intro hr hk)
      obtain ⟨c0, c1, c2⟩ := HI.out.cells
      clear hlt hr hk
      go_wp2_with fail
      go_region_held3 (fun w' => w'.cell? ⟨t, 0, none⟩ = some (.pointer (some ⟨p, 0, none⟩)) ∧ w'.cell? ⟨t, 1, none⟩ = some (.int .i64 n) ∧ w'.cell? ⟨t, 2, none⟩ = some (.slice (some ⟨rb, 0, none⟩) n cap))
        (first | go_keep | exact HI.out.cells | exact PC.out.choose_spec.1.cells)
        (first
          | (go_at_call 33; refine (HH.out _).mono ?_; rintro e w' ⟨rfl, hb⟩; have HI := Lib.hid ((HI.out.step (below_drewN (Below.refl _ _) 1)).step hb); clear hb)
          | (go_at_call 32; refine (PS.out _ HI.out).mono ?_; intro e w' ht; have PC := Lib.hid (HI.out.dev ht.2); obtain rfl := ht.1; clear ht HI))
      go_wp2_with fail
      go_ret
      obtain ⟨f1, h1, -⟩ := PC.out
      refine ⟨?_, f1, ?_⟩
      · rw [HRK.out.1]; rfl
      · rw [HRK.out.1, HRK.out.2]; exact h1

end Go.Proofs.YtaigocnnmjjhgaaDoor

namespace Go.Proofs.YtaigocnnmjjhgaaDoor
open Go.ChangeShapes Go.WideShapes Go.ChangeAt Go.RowKit Bk Bh Nv
set_option linter.unusedVariables false

/-- The headers behind a Put into a device that was formatted. -/
def lastH (b : Nat) (ls : List H3) (j : Nat) : H3 := if b ≤ j ∧ j < b + ls.length then ls.getD (j - b) (0, 0, 0) else (0, 0, 0)
theorem crash_L (m : Mdl) (cs : List Int) : (Nv.crash m cs).L = m.L := rfl
/-- Behind Format, through any crash. -/
theorem fmt_lasts {n : Nat} (h1 : 2 ≤ n) (hn : n ≤ 256) (cs : List Int) : (Nv.crash (fmtM n).1 cs).L = 64 * n ∧ ∀ j, 256 < j → j < 256 + n → (Nv.crash (fmtM n).1 cs).now j = (zeroX j : Nat) := by
  obtain ⟨a, b, c, d⟩ := fmt_all h1 hn
  exact ⟨(crash_L _ _).trans a, fun j hj1 hj2 => by rw [still_lasts b c cs j (by omega) (by omega), d j hj1 hj2]⟩
/-- Behind Put, through any crash. -/
theorem put_lasts {n : Nat} (h1 : 2 ≤ n) (hn : n ≤ 256) {hs : List H3} {b : Int} {ls : List H3} {m1 : Mdl} (hp : (putR (fmtM n).1 n hs b ls).1 = (m1, 0)) (cs : List Int) :
    m1.L = 64 * n ∧ hasB n b ls.length = true ∧ firstBad (Nv.crash m1 cs).now n = none ∧ (∀ j, 256 < j → j < 256 + n → 0 ≤ (Nv.crash m1 cs).now j ∧ (Nv.crash m1 cs).now j < 2 ^ 64) ∧
      ∀ i : Nat, i < ls.length → hAt (hdrs (Nv.crash m1 cs).now n) (b + i) = ls.getD i (0, 0, 0) := by
  obtain ⟨fL, fc, fs, fz⟩ := fmt_all h1 hn
  unfold putR at hp
  by_cases hv : hasB n b ls.length = true ∧ allOk ls = true
  rotate_left
  · rw [if_neg hv] at hp
    exact absurd (congrArg Prod.snd hp) (by show ¬ (1 : Int) = 0; decide)
  rw [if_pos hv] at hp
  have hb : 1 ≤ b ∧ (ls.length : Int) ≤ (n : Int) - b := by have := hv.1; unfold hasB at this; simpa using this
  have key : m1.L = 64 * n ∧ Nv.Clean m1 ∧ Still m1 257 (n - 1) ∧ ∀ j, 256 < j → j < 256 + n → m1.now j = (encN (lastH b.toNat ls (j - 256)).1 (lastH b.toNat ls (j - 256)).2.1 (lastH b.toNat ls (j - 256)).2.2 j : Nat) := by
    by_cases hl : ls = []
    · rw [if_pos hl] at hp
      have e : (fmtM n).1 = m1 := congrArg Prod.fst hp
      rw [← e]
      refine ⟨fL, fc, fs, fun j hj1 hj2 => ?_⟩
      rw [fz j hj1 hj2]
      unfold lastH
      rw [if_neg (by rw [hl]; simp)]
      rfl
    · rw [if_neg hl] at hp
      have e : putM (fmtM n).1 (wordX b.toNat ls) (256 + b.toNat) ls.length = (m1, 0) := hp
      have e2 : (putM (fmtM n).1 (wordX b.toNat ls) (256 + b.toNat) ls.length).2 = 0 := by rw [e]
      obtain ⟨d1, d2, d3⟩ := put_done (A := 257) (N := n - 1) fc fs (by omega) (by omega) e2
      have d4 := put_L _ _ _ _ e2 fc
      rw [e] at d1 d2 d3 d4
      refine ⟨d4.trans fL, d1, d2, fun j hj1 hj2 => ?_⟩
      rw [show m1.now j = _ from d3 j]
      unfold lastH
      by_cases hj : 256 + b.toNat ≤ j ∧ j < 256 + b.toNat + ls.length
      · rw [if_pos hj, if_pos (by omega)]
        unfold wordX
        rw [show j - (256 + b.toNat) = j - 256 - b.toNat by omega]
      · rw [if_neg hj, if_neg (by omega), fz j hj1 hj2]
        rfl
  obtain ⟨k1, k2, k3, k4⟩ := key
  have kn : ∀ j, 256 < j → j < 256 + n → (Nv.crash m1 cs).now j = (encN (lastH b.toNat ls (j - 256)).1 (lastH b.toNat ls (j - 256)).2.1 (lastH b.toNat ls (j - 256)).2.2 j : Nat) := fun j hj1 hj2 => by
    rw [still_lasts k2 k3 cs j (by omega) (by omega), k4 j hj1 hj2]
  have hr : ∀ i, rightH (lastH b.toNat ls i).1 (lastH b.toNat ls i).2.1 (lastH b.toNat ls i).2.2 = true := fun i => by
    unfold lastH
    by_cases h : b.toNat ≤ i ∧ i < b.toNat + ls.length
    · rw [if_pos h]; exact allOk_iff.1 hv.2 (i - b.toNat) (by omega)
    · rw [if_neg h]; exact zero_right
  obtain ⟨r1, r2⟩ := read_words (f := (Nv.crash m1 cs).now) (n := n) (h := lastH b.toNat ls) fun q hq1 hq2 => ⟨hr q, by rw [kn _ (by omega) (by omega), show 256 + q - 256 = q by omega]⟩
  refine ⟨k1, hv.1, r1, fun j hj1 hj2 => ?_, fun i hi => ?_⟩
  · rw [kn j hj1 hj2]
    have := encN_lt (lastH b.toNat ls (j - 256)).1 (lastH b.toNat ls (j - 256)).2.1 (lastH b.toNat ls (j - 256)).2.2 j
    omega
  · unfold hAt
    rw [if_pos (by rw [hdrs_len]; omega), hdrs_at _ (by omega) (by omega), show (b + (i : Int)).toNat = b.toNat + i by omega, r2 _ (by omega) (by omega)]
    unfold lastH
    rw [if_pos (by omega), show b.toNat + i - b.toNat = i by omega]

end Go.Proofs.YtaigocnnmjjhgaaDoor

namespace Go.Proofs.YtaigocnnmjjhgaaDoor
open Go.ChangeShapes Go.WideShapes Go.ChangeAt Go.RowKit Bk Bh Nv
set_option linter.unusedVariables false

theorem spans_of_four : spansOf (List.replicate 4 (0, 0, 0)) = [(1, 3)] := by decide
theorem sps_one {w : World} {b : Nat} {x y : Int} (h : BoxT 70 w b #[.int .i64 x, .int .i64 y]) : IsSps w (.slice (some ⟨b, 0, none⟩) 1 1) [(x, y)] :=
  ⟨_, _, rfl, Nat.le_refl _, .inr ⟨b, 0, rfl, h.lt, fun i hi => by
    obtain rfl : i = 0 := by simpa using hi
    exact ⟨h.cell 0, h.cell 1⟩⟩⟩

set_option maxRecDepth 100000 in
set_option maxHeartbeats 1000000 in
theorem tabSpans_any {w : World} {t p m : Nat} {hs : List H3} (h : Tab w t p m hs) (hlen : hs.length ≤ 100000) :
    Calls Tryd.prog 25 #[.pointer (some ⟨t, 0, none⟩)] w fun e w' => ∃ v', e = .returned v' ∧ IsSps w' v' (spansOf hs) ∧ Below w.heap.size w w' := by
  obtain ⟨v, hx, hv⟩ := h
  have c1 : w.cell? ⟨t, 2, none⟩ = some v := hx.cell 2
  have SP := Lib.hid (blkSpans_any v hs w hv hlen)
  obtain ⟨a, cap, rfl, -⟩ := id hv
  clear hx hv
  go_enter Tryd.func25, Tryd.ntmps25
  go_wp2_with fail
  refine SP.out.mono ?_
  rintro e w' ⟨v', rfl, hs', hb⟩
  have H := Lib.hid (show ∃ x, v' = x ∧ IsSps w' x (spansOf hs) ∧ Below w.heap.size w w' from ⟨v', rfl, hs', hb⟩)
  clear hs' hb
  go_wp2_with fail
  go_ret
  obtain ⟨x, rfl, h1, h2⟩ := H.out
  exact ⟨_, rfl, h1, h2⟩

set_option maxRecDepth 100000 in
set_option maxHeartbeats 1000000 in
theorem awake10_yes (w : World) (hT : HasRests w) : Calls Tryd.prog 5 #[] w fun e w' => e = .returned (.bool true) ∧ Below w.heap.size w w' := by
  have HT := Lib.hid hT
  have HW : Hid (∀ W, Calls Tryd.prog 21 #[.agg #[.int .i64 4]] W fun e w' => e = .returned (.int .i64 2048) ∧ Below W.heap.size W w') := Lib.hid fun W => geoWords_any 4 W (by decide) (by decide)
  have NW : Hid (∀ W, Calls Tryd.prog 20 #[.int .i64 2048] W (MadeDev (fresh (64 * 4) fun _ => 0) W)) := Lib.hid fun W => by
    have := new_any 2048 W (by decide) (by decide)
    rwa [show (upS 2048 8).toNat = 64 * 4 from by decide] at this
  have FM : Hid (∀ p f gb W, DvAt w p f (fresh (64 * 4) fun _ => 0) gb (4 : Nat) W → Calls Tryd.prog 22 #[.pointer (some ⟨p, 0, none⟩), .agg #[.int .i64 4]] W fun e W' => e = .returned (.int .i64 0) ∧ ∃ f', DvAt w p f' (fmtM 4).1 gb (4 : Nat) W') := Lib.hid fun p f gb W i => fmt_new (by decide) (by decide) i HT.out
  have OP : Hid (∀ p f gb W, DvAt w p f (fmtM 4).1 gb (4 : Nat) W → Calls Tryd.prog 10 #[.pointer (some ⟨p, 0, none⟩), .agg #[.int .i64 4]] W fun e W' => ∃ t, e = .returned (.tuple #[.pointer (some ⟨t, 0, none⟩), .int .i64 0]) ∧ Tab W' t p 4 (List.replicate 4 (0, 0, 0)) ∧ Below W.heap.size W W') := Lib.hid fun p f gb W i => by
    obtain ⟨a, -, -, c⟩ := fmt_all (n := 4) (by decide) (by decide)
    exact open_zero (by decide) (by decide) i HT.out a c
  clear hT
  go_enter Tryd.func5, Tryd.ntmps5
  go_wp2_with fail
  refine (HW.out _).mono ?_
  rintro e w1 ⟨rfl, hb⟩
  obtain ⟨g1, k1, -⟩ := boxT_of1 hb
  have G1 := Lib.hid g1
  have K1 := Lib.hid k1
  clear hb g1 k1
  go_wp2_with fail
  refine (NW.out _).mono ?_
  intro e w2 hm
  obtain ⟨p, f, rfl, hd⟩ := DvAt.make (n := (4 : Nat)) K1.out G1.out hm
  have D2 := Lib.hid hd
  have cg := hd.cell
  clear hm hd G1 K1
  go_wp2_with fail
  refine (FM.out _ _ _ _ D2.out).mono ?_
  rintro e w3 ⟨rfl, f3, hd⟩
  have D3 := Lib.hid hd
  have cg := hd.cell
  clear hd D2
  go_wp2_with fail
  refine (OP.out _ _ _ _ D3.out).mono ?_
  rintro e w4 ⟨t, rfl, ht, hb⟩
  have T4 := Lib.hid ht
  have K4 : Hid (Below w.heap.size w w4) := Lib.hid (D3.out.b.trans (hb.mono D3.out.b.size))
  clear ht hb D3 cg
  go_wp2_with fail
  refine (tabSpans_any T4.out (by simp)).mono ?_
  rintro e w5 ⟨v, rfl, hs, hb⟩
  rw [spans_of_four] at hs
  have S5 := Lib.hid (hs.below ((Below.refl _ _).alloc (Nat.le_refl _) (.cells #[.int .i64 1, .int .i64 3] 70)) (Nat.le_refl _))
  have K5 : Hid (Below w.heap.size w (w5.alloc (.cells #[.int .i64 1, .int .i64 3] 70))) := Lib.hid ((K4.out.trans (hb.mono K4.out.size)).alloc (Nat.le_trans K4.out.size hb.size) _)
  have S6 := Lib.hid (sps_one (BoxT.new 70 w5 #[.int .i64 1, .int .i64 3]))
  clear hs hb
  go_wp2_with fail
  refine (lawSpans_yes _ _ _ _ S5.out S6.out (by decide)).mono ?_
  rintro e w6 ⟨rfl, nd, rfl⟩
  go_wp2_with fail
  go_ret
  exact ⟨rfl, below_drewN K5.out nd⟩

end Go.Proofs.YtaigocnnmjjhgaaDoor
