/- One operation, of the device and of the reference. -/
import Derived.Test.YtnkndhmkamaccaaRefCrash
namespace Go.Proofs.Ytnkndhmkamaccaa
open Go.ChangeShapes Go.WideShapes Go.ChangeAt Go.RowKit Nv
set_option linter.unusedVariables false

def OBox (w : World) (b : Nat) (cs : Array Value) : Prop := w.heap[b]? = some (.cells cs 36 (0, 0))
theorem OBox.cell {w : World} {b : Nat} {cs : Array Value} (h : OBox w b cs) (i : Nat) : w.cell? ⟨b, i, none⟩ = cs[i]? := cell_of_row w b i cs _ _ h
theorem OBox.lt {w : World} {b : Nat} {cs : Array Value} (h : OBox w b cs) : b < w.heap.size := (Array.getElem?_eq_some_iff.1 h).1
theorem OBox.keep {S : Nat → Prop} {w w' : World} {b : Nat} {cs : Array Value} (h : OBox w b cs) (hk : Keep S w w') (hS : ¬ S b) : OBox w' b cs := (hk.block b h.lt hS).trans h
theorem OBox.new (w : World) (cs : Array Value) : OBox (w.alloc (.cells cs 36)) w.heap.size cs := heap_alloc_new w _

theorem results_box3 {fn : Func} {p q s : Tmp} (h : fn.results = #[.tmp q, .cell p 30, .tmp s]) (tmps : Array Value) (w : World) (b : Nat) (cs : Array Value) (v u : Value) (hp : tmps.getD p undef = .pointer (some ⟨b, 0, none⟩)) (hb : Box w b cs) (hc : cs.size = 8) (hq : tmps.getD q undef = v) (hs : tmps.getD s undef = u) :
    (results fn tmps).run Try.prog w = .ok (.tuple #[v, .agg cs, u]) w := by
  have hp' : tmps[p]?.getD undef = .pointer (some ⟨b, 0, none⟩) := by simpa using hp
  have hq' : tmps[q]?.getD undef = v := by simpa using hq
  have hs' : tmps[s]?.getD undef = u := by simpa using hs
  have hl := run_loadVar_row (P := Try.prog) w b _ 30 cs (0, 0) _ hb Try.underlying30 rfl (by rw [hc]; exact info30)
  simp [results, h, hp', hq', hs', asAddr, hl, Result.andThen]

theorem do_boxes (w : World) (A O : Array Value) : Box (((w.alloc (.cells A 30)).alloc (.cells O 36)).alloc (.cells z30 30)) w.heap.size A ∧
    OBox (((w.alloc (.cells A 30)).alloc (.cells O 36)).alloc (.cells z30 30)) (w.heap.size + 1) O ∧
    Box (((w.alloc (.cells A 30)).alloc (.cells O 36)).alloc (.cells z30 30)) (w.heap.size + 2) z30 ∧
    Below w.heap.size w (((w.alloc (.cells A 30)).alloc (.cells O 36)).alloc (.cells z30 30)) ∧
    w.heap.size + 3 ≤ (((w.alloc (.cells A 30)).alloc (.cells O 36)).alloc (.cells z30 30)).heap.size := by
  have e1 : (w.alloc (.cells A 30)).heap.size = w.heap.size + 1 := by simp
  have e2 : ((w.alloc (.cells A 30)).alloc (.cells O 36)).heap.size = w.heap.size + 2 := by simp
  have h0 : Box (w.alloc (.cells A 30)) w.heap.size A := Box.new w A
  have h1 : OBox ((w.alloc (.cells A 30)).alloc (.cells O 36)) (w.heap.size + 1) O := by have := OBox.new (w.alloc (.cells A 30)) O; rwa [e1] at this
  have h2 : Box (((w.alloc (.cells A 30)).alloc (.cells O 36)).alloc (.cells z30 30)) (w.heap.size + 2) z30 := by have := Box.new ((w.alloc (.cells A 30)).alloc (.cells O 36)) z30; rwa [e2] at this
  exact ⟨(h0.alloc _).alloc _, (Below.heap_alloc _ _ _ (by omega)).trans h1, h2, (below_two w _ _).alloc (by omega) _, by simp⟩

theorem Box.drew {w : World} {b : Nat} {cs : Array Value} (h : Box w b cs) : Box w.drew b cs := h
set_option maxHeartbeats 1000000 in
theorem Box.fill {w : World} {b : Nat} (h : Box w b z30) (v0 v1 v2 v3 v4 v5 v6 v7 : Value) : Box ((((((((w.setCell ⟨b, 0, none⟩ v0).setCell ⟨b, 1, none⟩ v1).setCell ⟨b, 2, none⟩ v2).setCell ⟨b, 3, none⟩ v3).setCell ⟨b, 4, none⟩ v4).setCell ⟨b, 5, none⟩ v5).setCell ⟨b, 6, none⟩ v6).setCell ⟨b, 7, none⟩ v7).drew b #[v0, v1, v2, v3, v4, v5, v6, v7] ∧ Keep (fun x => x = b) w ((((((((w.setCell ⟨b, 0, none⟩ v0).setCell ⟨b, 1, none⟩ v1).setCell ⟨b, 2, none⟩ v2).setCell ⟨b, 3, none⟩ v3).setCell ⟨b, 4, none⟩ v4).setCell ⟨b, 5, none⟩ v5).setCell ⟨b, 6, none⟩ v6).setCell ⟨b, 7, none⟩ v7).drew := by
  have h0 : Box (w.setCell ⟨b, 0, none⟩ v0) b #[v0, .slice none 0 0, .slice none 0 0, .slice none 0 0, .slice none 0 0, .int .i64 0, .int .i64 0, .bool false] := by
    have e : z30.setIfInBounds 0 v0 = #[v0, .slice none 0 0, .slice none 0 0, .slice none 0 0, .slice none 0 0, .int .i64 0, .int .i64 0, .bool false] := by simp [z30]
    rw [← e]
    exact h.set 0 v0
  have h1 : Box ((w.setCell ⟨b, 0, none⟩ v0).setCell ⟨b, 1, none⟩ v1) b #[v0, v1, .slice none 0 0, .slice none 0 0, .slice none 0 0, .int .i64 0, .int .i64 0, .bool false] := by
    have e : (#[v0, .slice none 0 0, .slice none 0 0, .slice none 0 0, .slice none 0 0, .int .i64 0, .int .i64 0, .bool false] : Array Value).setIfInBounds 1 v1 = #[v0, v1, .slice none 0 0, .slice none 0 0, .slice none 0 0, .int .i64 0, .int .i64 0, .bool false] := by simp
    rw [← e]
    exact h0.set 1 v1
  have h2 : Box (((w.setCell ⟨b, 0, none⟩ v0).setCell ⟨b, 1, none⟩ v1).setCell ⟨b, 2, none⟩ v2) b #[v0, v1, v2, .slice none 0 0, .slice none 0 0, .int .i64 0, .int .i64 0, .bool false] := by
    have e : (#[v0, v1, .slice none 0 0, .slice none 0 0, .slice none 0 0, .int .i64 0, .int .i64 0, .bool false] : Array Value).setIfInBounds 2 v2 = #[v0, v1, v2, .slice none 0 0, .slice none 0 0, .int .i64 0, .int .i64 0, .bool false] := by simp
    rw [← e]
    exact h1.set 2 v2
  have h3 : Box ((((w.setCell ⟨b, 0, none⟩ v0).setCell ⟨b, 1, none⟩ v1).setCell ⟨b, 2, none⟩ v2).setCell ⟨b, 3, none⟩ v3) b #[v0, v1, v2, v3, .slice none 0 0, .int .i64 0, .int .i64 0, .bool false] := by
    have e : (#[v0, v1, v2, .slice none 0 0, .slice none 0 0, .int .i64 0, .int .i64 0, .bool false] : Array Value).setIfInBounds 3 v3 = #[v0, v1, v2, v3, .slice none 0 0, .int .i64 0, .int .i64 0, .bool false] := by simp
    rw [← e]
    exact h2.set 3 v3
  have h4 : Box (((((w.setCell ⟨b, 0, none⟩ v0).setCell ⟨b, 1, none⟩ v1).setCell ⟨b, 2, none⟩ v2).setCell ⟨b, 3, none⟩ v3).setCell ⟨b, 4, none⟩ v4) b #[v0, v1, v2, v3, v4, .int .i64 0, .int .i64 0, .bool false] := by
    have e : (#[v0, v1, v2, v3, .slice none 0 0, .int .i64 0, .int .i64 0, .bool false] : Array Value).setIfInBounds 4 v4 = #[v0, v1, v2, v3, v4, .int .i64 0, .int .i64 0, .bool false] := by simp
    rw [← e]
    exact h3.set 4 v4
  have h5 : Box ((((((w.setCell ⟨b, 0, none⟩ v0).setCell ⟨b, 1, none⟩ v1).setCell ⟨b, 2, none⟩ v2).setCell ⟨b, 3, none⟩ v3).setCell ⟨b, 4, none⟩ v4).setCell ⟨b, 5, none⟩ v5) b #[v0, v1, v2, v3, v4, v5, .int .i64 0, .bool false] := by
    have e : (#[v0, v1, v2, v3, v4, .int .i64 0, .int .i64 0, .bool false] : Array Value).setIfInBounds 5 v5 = #[v0, v1, v2, v3, v4, v5, .int .i64 0, .bool false] := by simp
    rw [← e]
    exact h4.set 5 v5
  have h6 : Box (((((((w.setCell ⟨b, 0, none⟩ v0).setCell ⟨b, 1, none⟩ v1).setCell ⟨b, 2, none⟩ v2).setCell ⟨b, 3, none⟩ v3).setCell ⟨b, 4, none⟩ v4).setCell ⟨b, 5, none⟩ v5).setCell ⟨b, 6, none⟩ v6) b #[v0, v1, v2, v3, v4, v5, v6, .bool false] := by
    have e : (#[v0, v1, v2, v3, v4, v5, .int .i64 0, .bool false] : Array Value).setIfInBounds 6 v6 = #[v0, v1, v2, v3, v4, v5, v6, .bool false] := by simp
    rw [← e]
    exact h5.set 6 v6
  have h7 : Box ((((((((w.setCell ⟨b, 0, none⟩ v0).setCell ⟨b, 1, none⟩ v1).setCell ⟨b, 2, none⟩ v2).setCell ⟨b, 3, none⟩ v3).setCell ⟨b, 4, none⟩ v4).setCell ⟨b, 5, none⟩ v5).setCell ⟨b, 6, none⟩ v6).setCell ⟨b, 7, none⟩ v7) b #[v0, v1, v2, v3, v4, v5, v6, v7] := by
    have e : (#[v0, v1, v2, v3, v4, v5, v6, .bool false] : Array Value).setIfInBounds 7 v7 = #[v0, v1, v2, v3, v4, v5, v6, v7] := by simp
    rw [← e]
    exact h6.set 7 v7
  exact ⟨h7.drew, ((((((((((Keep.refl (fun x => x = b) w).setCell (fun _ => rfl) _).setCell (fun _ => rfl) _).setCell (fun _ => rfl) _).setCell (fun _ => rfl) _).setCell (fun _ => rfl) _).setCell (fun _ => rfl) _).setCell (fun _ => rfl) _).setCell (fun _ => rfl) _).drew)⟩

/-- Behind one operation. -/
def DoTo (c : Prop) (p : Nat) (f : Fp) (T : Nat → Prop) (m1 m2 : Mdl) (ok : Bool) (w : World) (e : Ending) (w' : World) : Prop :=
  ∃ p' f' r', (c → p' = p) ∧ e = .returned (.tuple #[.pointer (some ⟨p', 0, none⟩), rv r' m2, .bool ok]) ∧ Dev w' p' f' m1 ∧ Keep (f.own p) w w' ∧ (∀ b, f'.own p' b → f.own p b ∨ w.heap.size ≤ b) ∧
    ∃ T', Ref w' T' r' m2 ∧ (∀ b, T' b → T b ∨ w.heap.size ≤ b) ∧ ∀ b, T' b → ¬ f'.own p' b

section
variable {w : World} {p : Nat} {f : Fp} {T : Nat → Prop} {r : RV} {m1 m2 : Mdl}

theorem DoTo.imp {c c' : Prop} {ok : Bool} {e : Ending} {w' : World} (h : DoTo c p f T m1 m2 ok w e w') (hc : c' → c) : DoTo c' p f T m1 m2 ok w e w' := by
  obtain ⟨p', f', r', h1, h2⟩ := h
  exact ⟨p', f', r', fun h => h1 (hc h), h2⟩

theorem do_done {c : Prop} {w3 w4 w5 w6 w7 : World} {p4 : Nat} {f4 : Fp} {n1 n2 : Mdl} {r5 : RV} {ok : Bool} (hc : c → p4 = p) (h : Dev w p f m1) (hT : ∀ b, T b → ¬ f.own p b) (b3 : Below w.heap.size w w3) (z3 : w.heap.size + 3 ≤ w3.heap.size)
    (d4 : Dev w4 p4 f4 n1) (k4 : Keep (f.own p) w3 w4) (o4 : ∀ b, f4.own p4 b → f.own p b ∨ w3.heap.size ≤ b) (r5' : Ref w5 (fun b => (T b ∧ b < w.heap.size) ∨ (w4.heap.size ≤ b ∧ b < w5.heap.size)) r5 n2) (b5 : Below w4.heap.size w4 w5)
    (k6 : Keep (fun b => b = w.heap.size) w5 w6) (k7 : Keep (fun b => b = w.heap.size + 2) w6 w7) :
    DoTo c p f T n1 n2 ok w (.returned (.tuple #[.pointer (some ⟨p4, 0, none⟩), rv r5 n2, .bool ok])) w7 := by
  have z4 := k4.size
  have z5 := b5.size
  have z6 := k6.size
  have hown : ∀ b, f4.own p4 b → b ≠ w.heap.size ∧ b ≠ w.heap.size + 2 := fun b hb => by
    rcases o4 b hb with h' | h'
    · have := h.own_all b h'; omega
    · omega
  have k5 : Keep (fun _ => False) w4 w5 := Keep.ofBelow (S := fun _ => False) b5
  refine ⟨p4, f4, r5, hc, rfl, ((d4.keep k5 (fun _ _ _ h => h)).keep k6 (fun b _ ho e => (hown b ho).1 e)).keep k7 (fun b _ ho e => (hown b ho).2 e), ?_, fun b hb => ?_, fun b => (T b ∧ b < w.heap.size) ∨ (w4.heap.size ≤ b ∧ b < w5.heap.size), ?_, fun b hb => ?_, fun b hb ho => ?_⟩
  · exact ((((Keep.ofBelow (S := f.own p) b3).trans k4 (fun i hi h => h)).trans k5 (fun i hi h => h.elim)).trans k6 (fun i hi e => by omega)).trans k7 (fun i hi e => by omega)
  · rcases o4 b hb with h' | h'
    · exact .inl h'
    · exact .inr (by omega)
  · exact (r5'.keep k6 (fun b hb _ e => by rcases hb with hb | hb <;> omega) (fun b hb _ => hb)).keep k7 (fun b hb _ e => by rcases hb with hb | hb <;> omega) (fun b hb _ => hb)
  · rcases hb with hb | hb
    · exact .inl hb.1
    · exact .inr (by omega)
  · have hlt := d4.own_all b ho
    rcases hb with hb | hb
    · rcases o4 b ho with h' | h'
      · exact hT b hb.1 h'
      · omega
    · omega

end

end Go.Proofs.Ytnkndhmkamaccaa
