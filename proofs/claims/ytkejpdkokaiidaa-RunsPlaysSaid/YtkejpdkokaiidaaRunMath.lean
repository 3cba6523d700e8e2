/- Plain facts: runs of free blocks, as a list, and what giving and taking does to them. No program in sight. -/
import Derived.Test.YtkejpdkokaiidaaBlockMath
namespace Go.Proofs.Ytkejpdkokaiidaa
namespace Rn
open Bk

/-- The runs of free blocks among those below b. -/
def runsTo (f : Nat → Bool) : Nat → List (Int × Int)
  | 0 => []
  | b + 1 => if f b = false then runsTo f b else if 0 < b ∧ f (b - 1) = true then bump (runsTo f b) else runsTo f b ++ [((b : Int), 1)]
theorem runsTo_skip {f : Nat → Bool} {b : Nat} (h : f b = false) : runsTo f (b + 1) = runsTo f b := by simp only [runsTo]; rw [if_pos h]
theorem runsTo_bump {f : Nat → Bool} {b : Nat} (h : f b = true) (hb : 0 < b) (h1 : f (b - 1) = true) : runsTo f (b + 1) = bump (runsTo f b) := by
  simp only [runsTo]; rw [if_neg (by rw [h]; decide), if_pos ⟨hb, h1⟩]
theorem runsTo_new {f : Nat → Bool} {b : Nat} (h : f b = true) (h1 : ¬ (0 < b ∧ f (b - 1) = true)) : runsTo f (b + 1) = runsTo f b ++ [((b : Int), 1)] := by
  simp only [runsTo]; rw [if_neg (by rw [h]; decide), if_neg h1]
theorem runsTo_last {f : Nat → Bool} : ∀ b, 0 < b → f (b - 1) = true → ∃ l, ∃ s : Nat, runsTo f b = l ++ [((s : Int), ((b - s : Nat) : Int))] ∧ s < b
  | 0, h, _ => by omega
  | b + 1, _, h => by
    simp only [Nat.add_sub_cancel] at h
    by_cases h1 : 0 < b ∧ f (b - 1) = true
    · obtain ⟨l, s, e, hs⟩ := runsTo_last b h1.1 h1.2
      refine ⟨l, s, ?_, by omega⟩
      rw [runsTo_bump h h1.1 h1.2, e, bump_snoc]
      simp only
      rw [show (((b + 1 - s : Nat)) : Int) = ((b - s : Nat) : Int) + 1 by omega]
    · refine ⟨runsTo f b, b, ?_, by omega⟩
      rw [runsTo_new h h1, show (((b + 1 - b : Nat)) : Int) = 1 by omega]
/-- A run: as long as it can be, below b. -/
structure Run (f : Nat → Bool) (b s k : Nat) : Prop where
  pos : 1 ≤ k
  le : s + k ≤ b
  all : ∀ i, s ≤ i → i < s + k → f i = true
  lo : s = 0 ∨ f (s - 1) = false
  hi : s + k = b ∨ f (s + k) = false
/-- Two runs that have a block in common, or touch, are one. -/
theorem Run.same {f : Nat → Bool} {b s k s' k' : Nat} (h : Run f b s k) (h' : Run f b s' k') (h1 : s ≤ s' + k') (h2 : s' ≤ s + k) : s = s' ∧ k = k' := by
  have es : s = s' := by
    rcases Nat.lt_trichotomy s s' with c | c | c
    · rcases h'.lo with e | e
      · omega
      · have := h.all (s' - 1) (by omega) (by omega); rw [this] at e; cases e
    · exact c
    · rcases h.lo with e | e
      · omega
      · have := h'.all (s - 1) (by omega) (by omega); rw [this] at e; cases e
  subst es
  refine ⟨rfl, ?_⟩
  have p := h.pos
  have p' := h'.pos
  rcases Nat.lt_trichotomy k k' with c | c | c
  · rcases h.hi with e | e
    · have := h'.le; omega
    · have := h'.all (s + k) (by omega) (by omega); rw [this] at e; cases e
  · exact c
  · rcases h'.hi with e | e
    · have := h.le; omega
    · have := h.all (s + k') (by omega) (by omega); rw [this] at e; cases e
/-- The runs are what the list has, rising. -/
theorem runsTo_all (f : Nat → Bool) : ∀ b, (∀ x y : Int, (x, y) ∈ runsTo f b ↔ ∃ s k : Nat, x = s ∧ y = k ∧ Run f b s k) ∧ (runsTo f b).Pairwise fun p q => p.1 + p.2 < q.1
  | 0 => ⟨fun x y => ⟨fun h => by simp [runsTo] at h, fun ⟨s, k, _, _, h⟩ => by have := h.pos; have := h.le; omega⟩, by simp [runsTo]⟩
  | b + 1 => by
    obtain ⟨hm, hp⟩ := runsTo_all f b
    cases hb : f b
    · rw [runsTo_skip hb]
      refine ⟨fun x y => (hm x y).trans ⟨?_, ?_⟩, hp⟩
      · rintro ⟨s, k, rfl, rfl, h⟩
        refine ⟨s, k, rfl, rfl, h.pos, by have := h.le; omega, h.all, h.lo, .inr ?_⟩
        rcases h.hi with e | e
        · rw [e]; exact hb
        · exact e
      · rintro ⟨s, k, rfl, rfl, h⟩
        have hle : s + k ≤ b := by
          rcases Nat.lt_or_ge b (s + k) with c | c
          · have := h.all b (by have := h.le; have := h.pos; omega) c; rw [this] at hb; cases hb
          · exact c
        refine ⟨s, k, rfl, rfl, h.pos, hle, h.all, h.lo, ?_⟩
        rcases h.hi with e | e
        · omega
        · exact .inr e
    · by_cases h1 : 0 < b ∧ f (b - 1) = true
      · obtain ⟨l, s0, e, hs0⟩ := runsTo_last b h1.1 h1.2
        rw [runsTo_bump hb h1.1 h1.2, e, bump_snoc]
        rw [e] at hm hp
        simp only
        have hl := List.pairwise_append.1 hp
        have r0 : Run f b s0 (b - s0) := by
          obtain ⟨s, k, e1, e2, h⟩ := (hm s0 ((b - s0 : Nat) : Int)).1 (by simp)
          obtain rfl : s = s0 := by omega
          obtain rfl : k = b - s := by omega
          exact h
        have r1 : Run f (b + 1) s0 (b - s0 + 1) := ⟨by omega, by omega, fun i h2 h3 => by
          by_cases c : i = b
          · subst c; exact hb
          · exact r0.all i h2 (by omega), r0.lo, .inl (by omega)⟩
        have up : ∀ s k, s + k < b → (Run f b s k ↔ Run f (b + 1) s k) := fun s k hlt =>
          ⟨fun h => ⟨h.pos, by omega, h.all, h.lo, .inr (h.hi.resolve_left (by omega))⟩, fun h => ⟨h.pos, by omega, h.all, h.lo, .inr (h.hi.resolve_left (by omega))⟩⟩
        refine ⟨fun x y => ⟨fun hx => ?_, ?_⟩, ?_⟩
        · rcases List.mem_append.1 hx with hx | hx
          · obtain ⟨s, k, rfl, rfl, h⟩ := (hm x y).1 (List.mem_append_left _ hx)
            have := hl.2.2 _ hx _ (List.mem_singleton_self _)
            simp only at this
            exact ⟨s, k, rfl, rfl, (up s k (by omega)).1 h⟩
          · obtain ⟨rfl, rfl⟩ : x = s0 ∧ y = ((b - s0 : Nat) : Int) + 1 := by simpa using hx
            exact ⟨s0, b - s0 + 1, rfl, by omega, r1⟩
        · rintro ⟨s, k, rfl, rfl, h⟩
          by_cases c : s + k < b
          · have := (hm s k).2 ⟨s, k, rfl, rfl, (up s k c).2 h⟩
            rcases List.mem_append.1 this with h2 | h2
            · exact List.mem_append_left _ h2
            · have h3 : (s : Int) = s0 ∧ (k : Int) = ((b - s0 : Nat) : Int) := by simpa using h2
              omega
          · have hle := h.le
            have hend : s + k = b + 1 := by
              rcases h.hi with e | e
              · exact e
              · by_cases c2 : s + k = b
                · rw [c2] at e; rw [e] at hb; cases hb
                · omega
            obtain ⟨q1, q2⟩ := h.same r1 (by omega) (by omega)
            apply List.mem_append_right
            subst q1
            simp
            omega
        · refine List.pairwise_append.2 ⟨hl.1, by simp, fun p hpm q hq => ?_⟩
          obtain rfl : q = ((s0 : Int), ((b - s0 : Nat) : Int) + 1) := by simpa using hq
          have := hl.2.2 _ hpm _ (List.mem_singleton_self _)
          exact this
      · rw [runsTo_new hb h1]
        have h1' : b = 0 ∨ f (b - 1) = false := by
          by_cases c : b = 0
          · exact .inl c
          · right
            cases e : f (b - 1)
            · rfl
            · exact absurd ⟨by omega, e⟩ h1
        have r1 : Run f (b + 1) b 1 := ⟨by omega, by omega, fun i h2 h3 => by rw [show i = b by omega]; exact hb, h1', .inl rfl⟩
        have lt : ∀ s k, Run f b s k → s + k < b := fun s k h => by
          have hle := h.le
          have hp1 := h.pos
          rcases h1' with c | c
          · omega
          · by_cases c2 : s + k = b
            · have := h.all (b - 1) (by omega) (by omega); rw [this] at c; cases c
            · omega
        refine ⟨fun x y => ⟨fun hx => ?_, ?_⟩, ?_⟩
        · rcases List.mem_append.1 hx with hx | hx
          · obtain ⟨s, k, rfl, rfl, h⟩ := (hm x y).1 hx
            have := lt s k h
            exact ⟨s, k, rfl, rfl, h.pos, by omega, h.all, h.lo, .inr (h.hi.resolve_left (by omega))⟩
          · obtain ⟨rfl, rfl⟩ : x = (b : Int) ∧ y = 1 := by simpa using hx
            exact ⟨b, 1, rfl, rfl, r1⟩
        · rintro ⟨s, k, rfl, rfl, h⟩
          by_cases c : s + k < b
          · exact List.mem_append_left _ ((hm s k).2 ⟨s, k, rfl, rfl, h.pos, by omega, h.all, h.lo, .inr (h.hi.resolve_left (by omega))⟩)
          · have hle := h.le
            have hp1 := h.pos
            have hend : s + k = b + 1 := by
              rcases h.hi with e | e
              · exact e
              · by_cases c2 : s + k = b
                · rw [c2] at e; rw [e] at hb; cases hb
                · omega
            obtain ⟨q1, q2⟩ := h.same r1 (by omega) (by omega)
            apply List.mem_append_right
            subst q1 q2
            simp
        · refine List.pairwise_append.2 ⟨hp, by simp, fun p hpm q hq => ?_⟩
          obtain rfl : q = ((b : Int), 1) := by simpa using hq
          obtain ⟨x, y⟩ := p
          obtain ⟨s, k, rfl, rfl, h⟩ := (hm x y).1 hpm
          have := lt s k h
          simp only
          omega
/-- A list that has the same runs, rising, is that list. -/
theorem runsTo_unique {f : Nat → Bool} {b : Nat} {l : List (Int × Int)} (hm : ∀ x y : Int, (x, y) ∈ l ↔ ∃ s k : Nat, x = s ∧ y = k ∧ Run f b s k) (hp : l.Pairwise fun p q => p.1 < q.1) : l = runsTo f b := by
  obtain ⟨gm, gp⟩ := runsTo_all f b
  have gp' : (runsTo f b).Pairwise fun p q => p.1 < q.1 := gp.imp_of_mem fun {p q} hpm hqm h => by
    obtain ⟨x, y⟩ := p
    obtain ⟨s, k, rfl, rfl, hr⟩ := (gm x y).1 hpm
    simp only at h ⊢
    omega
  have key : ∀ (a c : List (Int × Int)), (a.Pairwise fun p q => p.1 < q.1) → (c.Pairwise fun p q => p.1 < q.1) → (∀ p, p ∈ a ↔ p ∈ c) → a = c := by
    intro a
    induction a with
    | nil =>
      intro c _ _ h
      cases c with
      | nil => rfl
      | cons q c => exact absurd ((h q).2 (by simp)) (by simp)
    | cons p a ih =>
      intro c ha hc h
      cases c with
      | nil => exact absurd ((h p).1 (by simp)) (by simp)
      | cons q c =>
        have ha' := List.pairwise_cons.1 ha
        have hc' := List.pairwise_cons.1 hc
        have e : p = q := by
          rcases List.mem_cons.1 ((h p).1 (by simp)) with e | e
          · exact e
          · rcases List.mem_cons.1 ((h q).2 (by simp)) with e2 | e2
            · exact e2.symm
            · have h1 := hc'.1 p e
              have h2 := ha'.1 q e2
              omega
        subst e
        rw [ih c ha'.2 hc'.2 fun r => ?_]
        constructor
        · intro hr
          rcases List.mem_cons.1 ((h r).1 (List.mem_cons_of_mem _ hr)) with e | e
          · subst e; have := ha'.1 _ hr; omega
          · exact e
        · intro hr
          rcases List.mem_cons.1 ((h r).2 (List.mem_cons_of_mem _ hr)) with e | e
          · subst e; have := hc'.1 _ hr; omega
          · exact e
  exact key l (runsTo f b) hp gp' fun p => by obtain ⟨x, y⟩ := p; rw [hm, gm]

/-- Blocks from a on, n of them, are free, or not. -/
def setF (f : Nat → Bool) (a n : Nat) (is : Bool) : Nat → Bool := fun i => if a ≤ i ∧ i < a + n then is else f i
/-- What touches ahead, and behind. -/
theorem Run.of {f : Nat → Bool} {b i : Nat} (hi : i < b) (h : f i = true) : ∃ s k, Run f b s k ∧ s ≤ i ∧ i < s + k := by
  have lo : ∃ s, s ≤ i ∧ (∀ j, s ≤ j → j ≤ i → f j = true) ∧ (s = 0 ∨ f (s - 1) = false) := by
    clear hi
    induction i with
    | zero => exact ⟨0, by omega, fun j _ h2 => by rw [show j = 0 by omega]; exact h, .inl rfl⟩
    | succ i ih =>
      cases e : f i
      · exact ⟨i + 1, by omega, fun j h1 h2 => by rw [show j = i + 1 by omega]; exact h, .inr e⟩
      · obtain ⟨s, h1, h2, h3⟩ := ih e
        exact ⟨s, by omega, fun j h4 h5 => by
          by_cases c : j = i + 1
          · subst c; exact h
          · exact h2 j h4 (by omega), h3⟩
  have up : ∀ d, ∃ e, i < e ∧ e ≤ i + 1 + d ∧ (∀ j, i ≤ j → j < e → f j = true) ∧ (e = i + 1 + d ∨ f e = false) := by
    intro d
    induction d with
    | zero => exact ⟨i + 1, by omega, by omega, fun j h1 h2 => by rw [show j = i by omega]; exact h, .inl rfl⟩
    | succ d ih =>
      obtain ⟨e, h1, h2, h3, h4⟩ := ih
      rcases h4 with h4 | h4
      · cases c : f e
        · exact ⟨e, h1, by omega, h3, .inr c⟩
        · exact ⟨e + 1, by omega, by omega, fun j h5 h6 => by
            by_cases cj : j = e
            · subst cj; exact c
            · exact h3 j h5 (by omega), .inl (by omega)⟩
      · exact ⟨e, h1, by omega, h3, .inr h4⟩
  obtain ⟨s, h1, h2, h3⟩ := lo
  obtain ⟨e, h4, h5, h6, h7⟩ := up (b - i - 1)
  refine ⟨s, e - s, ⟨by omega, by omega, fun j h8 h9 => ?_, h3, ?_⟩, h1, by omega⟩
  · by_cases c : j ≤ i
    · exact h2 j h8 c
    · exact h6 j (by omega) (by omega)
  · rw [show s + (e - s) = e by omega]
    rcases h7 with h7 | h7
    · exact .inl (by omega)
    · exact .inr h7
/-- Behind a Give of blocks of which none was free: the run that they are in now, and all others. -/
theorem run_give {f : Nat → Bool} {b a n a' e' : Nat} (hn : 1 ≤ n) (hb : a + n ≤ b) (hno : ∀ i, a ≤ i → i < a + n → f i = false)
    (hlo : (a' = a ∧ (a = 0 ∨ f (a - 1) = false)) ∨ Run f b a' (a - a') ∧ a' < a) (hhi : (e' = a + n ∧ (a + n = b ∨ f (a + n) = false)) ∨ Run f b (a + n) (e' - (a + n)) ∧ a + n < e') (s k : Nat) :
    Run (setF f a n true) b s k ↔ (s = a' ∧ k = e' - a') ∨ (Run f b s k ∧ s ≠ a' ∧ s ≠ a + n) := by
  have ha' : a' ≤ a := by rcases hlo with h | h <;> omega
  have he' : a + n ≤ e' := by rcases hhi with h | h <;> omega
  have heb : e' ≤ b := by
    rcases hhi with h | h
    · omega
    · have := h.1.le; omega
  have new : Run (setF f a n true) b a' (e' - a') := by
    refine ⟨by omega, by omega, fun i h1 h2 => ?_, ?_, ?_⟩
    · unfold setF
      by_cases c : a ≤ i ∧ i < a + n
      · rw [if_pos c]
      · rw [if_neg c]
        by_cases c2 : i < a
        · rcases hlo with h | h
          · omega
          · exact h.1.all i h1 (by omega)
        · rcases hhi with h | h
          · omega
          · exact h.1.all i (by omega) (by omega)
    · unfold setF
      rcases hlo with h | h
      · rcases h.2 with h2 | h2
        · left; omega
        · by_cases c : a = 0
          · left; omega
          · right; rw [h.1, if_neg (by omega)]; exact h2
      · rcases h.1.lo with h2 | h2
        · exact .inl h2
        · right
          by_cases c : a' = 0
          · subst c; rw [if_neg (by omega)]; exact h2
          · rw [if_neg (by omega)]; exact h2
    · rw [show a' + (e' - a') = e' by omega]
      unfold setF
      rw [if_neg (by omega)]
      rcases hhi with h | h
      · rw [h.1]; exact h.2
      · have := h.1.hi
        rwa [show a + n + (e' - (a + n)) = e' by omega] at this
  have apart : ∀ s k, Run f b s k → s ≠ a' → s ≠ a + n → s + k < a' ∨ e' < s := fun s k h h1 h2 => by
    have hp := h.pos
    have c1 : ¬ (s ≤ a ∧ a ≤ s + k) ∨ s + k = a := by
      by_cases c : s ≤ a ∧ a ≤ s + k
      · right
        by_cases c2 : a < s + k
        · have := h.all a c.1 c2; rw [hno a (by omega) (by omega)] at this; cases this
        · omega
      · exact .inl c
    have inn : ¬ (a ≤ s ∧ s < a + n) := fun c => by
      have := h.all s (by omega) (by omega); rw [hno s c.1 c.2] at this; cases this
    by_cases c : s < a
    · left
      have hsk : s + k ≤ a := by
        rcases c1 with c1 | c1
        · omega
        · omega
      rcases hlo with hh | hh
      · rcases hh.2 with h3 | h3
        · omega
        · have : s + k ≠ a := fun e => by
            have := h.all (a - 1) (by omega) (by omega); rw [h3] at this; cases this
          omega
      · by_cases c3 : s + k < a'
        · exact c3
        · exact absurd (h.same hh.1 (by omega) (by omega)).1 h1
    · right
      have hs : a + n < s := by omega
      rcases hhi with hh | hh
      · omega
      · by_cases c3 : e' < s
        · exact c3
        · exact absurd (h.same hh.1 (by omega) (by omega)).1 (by omega)
  constructor
  · intro h
    by_cases c : s ≤ e' ∧ a' ≤ s + k
    · left
      obtain ⟨q1, q2⟩ := h.same new (by omega) (by omega)
      exact ⟨q1, q2⟩
    · right
      have hp := h.pos
      have out : ∀ i, s ≤ i → i < s + k → ¬ (a ≤ i ∧ i < a + n) := fun i h1 h2 => by omega
      refine ⟨⟨h.pos, h.le, fun i h1 h2 => ?_, ?_, ?_⟩, by omega, by omega⟩
      · have := h.all i h1 h2
        unfold setF at this
        rwa [if_neg (out i h1 h2)] at this
      · rcases h.lo with h1 | h1
        · exact .inl h1
        · right
          unfold setF at h1
          by_cases c2 : a ≤ s - 1 ∧ s - 1 < a + n
          · rw [if_pos c2] at h1; cases h1
          · rwa [if_neg c2] at h1
      · rcases h.hi with h1 | h1
        · exact .inl h1
        · right
          unfold setF at h1
          by_cases c2 : a ≤ s + k ∧ s + k < a + n
          · rw [if_pos c2] at h1; cases h1
          · rwa [if_neg c2] at h1
  · rintro (⟨rfl, rfl⟩ | ⟨h, h1, h2⟩)
    · exact new
    · have hap := apart s k h h1 h2
      refine ⟨h.pos, h.le, fun i h3 h4 => ?_, ?_, ?_⟩
      · unfold setF; rw [if_neg (by omega)]; exact h.all i h3 h4
      · rcases h.lo with h3 | h3
        · exact .inl h3
        · right; unfold setF; rw [if_neg (by have := h.pos; omega)]; exact h3
      · rcases h.hi with h3 | h3
        · exact .inl h3
        · right; unfold setF; rw [if_neg (by omega)]; exact h3
/-- Behind a Take of a run's first n blocks. -/
theorem run_take {f : Nat → Bool} {b a l n : Nat} (hr : Run f b a l) (hn : 1 ≤ n) (hl : n ≤ l) (s k : Nat) :
    Run (setF f a n false) b s k ↔ (n < l ∧ s = a + n ∧ k = l - n) ∨ (Run f b s k ∧ s ≠ a) := by
  have hle := hr.le
  have apart : ∀ s k, Run f b s k → s ≠ a → s + k < a ∨ a + l < s := fun s k h h1 => by
    by_cases c : s ≤ a + l ∧ a ≤ s + k
    · exact absurd (h.same hr (by omega) (by omega)).1 h1
    · omega
  have new : n < l → Run (setF f a n false) b (a + n) (l - n) := fun h => by
    refine ⟨by omega, by omega, fun i h1 h2 => ?_, ?_, ?_⟩
    · unfold setF; rw [if_neg (by omega)]; exact hr.all i (by omega) (by omega)
    · right; unfold setF; rw [if_pos (by omega)]
    · rw [show a + n + (l - n) = a + l by omega]
      rcases hr.hi with h3 | h3
      · exact .inl h3
      · right; unfold setF; rw [if_neg (by omega)]; exact h3
  constructor
  · intro h
    have hp := h.pos
    have hsk := h.le
    have nin : ∀ i, s ≤ i → i < s + k → ¬ (a ≤ i ∧ i < a + n) := fun i h1 h2 c => by
      have := h.all i h1 h2; unfold setF at this; rw [if_pos c] at this; cases this
    by_cases c : s ≤ a + l ∧ a ≤ s + k ∧ n < l ∧ a + n ≤ s + k
    · by_cases c2 : s + k = a
      · omega
      · left
        have hs : a + n ≤ s := by
          by_cases c3 : s < a + n
          · by_cases c4 : a ≤ s
            · exact absurd ⟨c4, c3⟩ (nin s (by omega) (by omega))
            · exact absurd ⟨Nat.le_refl a, by omega⟩ (nin a (by omega) (by omega))
          · omega
        obtain ⟨q1, q2⟩ := h.same (new c.2.2.1) (by omega) (by omega)
        exact ⟨c.2.2.1, q1, q2⟩
    · right
      have hal : s + k ≤ a ∨ a + n ≤ s := by
        by_cases c4 : a + n ≤ s
        · exact .inr c4
        · left
          by_cases c5 : s + k ≤ a
          · exact c5
          · by_cases c6 : a ≤ s
            · exact absurd ⟨c6, by omega⟩ (nin s (by omega) (by omega))
            · exact absurd ⟨Nat.le_refl a, by omega⟩ (nin a (by omega) (by omega))
      have ne : s + k ≠ a := fun e => by
        rcases hr.lo with h3 | h3
        · omega
        · have := h.all (a - 1) (by omega) (by omega)
          unfold setF at this
          rw [if_neg (by omega), h3] at this; cases this
      have far : s + k < a ∨ a + l < s := by
        rcases hal with h3 | h3
        · omega
        · right
          by_cases c4 : a + l < s
          · exact c4
          · -- within the run's rest
            by_cases c5 : s < a + l
            · have hnl : n < l := by omega
              exact absurd ⟨by omega, by omega, hnl, by omega⟩ c
            · have e : s = a + l := by omega
              rcases h.lo with h6 | h6
              · omega
              · unfold setF at h6
                by_cases c7 : n < l
                · exact absurd ⟨by omega, by omega, c7, by omega⟩ c
                · -- n = l: the block behind the run isn't free
                  have hx := h.all s (by omega) (by omega)
                  unfold setF at hx
                  rw [if_neg (by omega)] at hx
                  rcases hr.hi with h8 | h8
                  · omega
                  · rw [← e, hx] at h8; cases h8
      refine ⟨⟨h.pos, h.le, fun i h1 h2 => ?_, ?_, ?_⟩, by omega⟩
      · have := h.all i h1 h2
        unfold setF at this
        rwa [if_neg (nin i h1 h2)] at this
      · rcases h.lo with h1 | h1
        · exact .inl h1
        · right; unfold setF at h1; rwa [if_neg (by omega)] at h1
      · rcases h.hi with h1 | h1
        · exact .inl h1
        · right; unfold setF at h1; rwa [if_neg (by omega)] at h1
  · rintro (⟨h1, rfl, rfl⟩ | ⟨h, h1⟩)
    · exact new h1
    · have hap := apart s k h h1
      refine ⟨h.pos, h.le, fun i h3 h4 => ?_, ?_, ?_⟩
      · unfold setF; rw [if_neg (by omega)]; exact h.all i h3 h4
      · rcases h.lo with h3 | h3
        · exact .inl h3
        · right; unfold setF; rw [if_neg (by have := h.pos; omega)]; exact h3
      · rcases h.hi with h3 | h3
        · exact .inl h3
        · right; unfold setF; rw [if_neg (by omega)]; exact h3

theorem runsTo_len (f : Nat → Bool) : ∀ b, (runsTo f b).length ≤ b
  | 0 => by simp [runsTo]
  | b + 1 => by
    have ih := runsTo_len f b
    cases h : f b
    · rw [runsTo_skip h]; omega
    · by_cases h1 : 0 < b ∧ f (b - 1) = true
      · obtain ⟨l, s, e, hs⟩ := runsTo_last b h1.1 h1.2
        rw [runsTo_bump h h1.1 h1.2, e, bump_snoc]
        rw [e] at ih
        simp at ih ⊢
        omega
      · rw [runsTo_new h h1]; simp; omega
/-- A run of the list, by its place. -/
theorem runs_get {f : Nat → Bool} {b i : Nat} (h : i < (runsTo f b).length) : ∃ s k : Nat, (runsTo f b).getD i (0, 0) = ((s : Int), (k : Int)) ∧ Run f b s k := by
  have hm : (runsTo f b).getD i (0, 0) ∈ runsTo f b := by
    rw [List.getD_eq_getElem?_getD, List.getElem?_eq_getElem h]; exact List.getElem_mem _
  generalize (runsTo f b).getD i (0, 0) = p at hm ⊢
  obtain ⟨x, y⟩ := p
  obtain ⟨s, k, rfl, rfl, hr⟩ := ((runsTo_all f b).1 x y).1 hm
  exact ⟨s, k, rfl, hr⟩
/-- How many blocks the first q runs have; how many the longest of them. -/
def totTo (l : List (Int × Int)) : Nat → Int
  | 0 => 0
  | q + 1 => totTo l q + (l.getD q (0, 0)).2
def maxTo (l : List (Int × Int)) : Nat → Int
  | 0 => 0
  | q + 1 => if maxTo l q < (l.getD q (0, 0)).2 then (l.getD q (0, 0)).2 else maxTo l q
/-- Of the first q runs, the place of the shortest that has n, of alike ones the first; -1. -/
def bestTo (l : List (Int × Int)) (n : Int) : Nat → Int
  | 0 => -1
  | q + 1 => if n ≤ (l.getD q (0, 0)).2 ∧ (bestTo l n q < 0 ∨ (l.getD q (0, 0)).2 < (l.getD (bestTo l n q).toNat (0, 0)).2) then (q : Int) else bestTo l n q
theorem bestTo_in (l : List (Int × Int)) (n : Int) : ∀ q, -1 ≤ bestTo l n q ∧ bestTo l n q < q ∧ (0 ≤ bestTo l n q → n ≤ (l.getD (bestTo l n q).toNat (0, 0)).2)
  | 0 => by
    have e : bestTo l n 0 = -1 := rfl
    rw [e]
    exact ⟨by omega, by omega, fun h => by omega⟩
  | q + 1 => by
    obtain ⟨h1, h2, h3⟩ := bestTo_in l n q
    unfold bestTo
    split
    · rename_i h
      exact ⟨by omega, by omega, fun _ => by simpa using h.1⟩
    · exact ⟨h1, by omega, h3⟩
/-- Of all of the first q that have n, none is shorter; where none is told, none has. -/
theorem bestTo_least (l : List (Int × Int)) (n : Int) : ∀ q i, i < q → n ≤ (l.getD i (0, 0)).2 → 0 ≤ bestTo l n q ∧ (l.getD (bestTo l n q).toNat (0, 0)).2 ≤ (l.getD i (0, 0)).2
  | 0, i, hi, _ => by omega
  | q + 1, i, hi, hn => by
    obtain ⟨g1, g2, g3⟩ := bestTo_in l n q
    unfold bestTo
    by_cases c : n ≤ (l.getD q (0, 0)).2 ∧ (bestTo l n q < 0 ∨ (l.getD q (0, 0)).2 < (l.getD (bestTo l n q).toNat (0, 0)).2)
    · rw [if_pos c]
      refine ⟨by omega, ?_⟩
      rw [Int.toNat_natCast]
      by_cases e : i = q
      · subst e; omega
      · obtain ⟨h1, h2⟩ := bestTo_least l n q i (by omega) hn
        omega
    · rw [if_neg c]
      by_cases e : i = q
      · subst e
        by_cases c2 : 0 ≤ bestTo l n i
        · exact ⟨c2, by omega⟩
        · exact absurd ⟨hn, .inl (by omega)⟩ c
      · exact bestTo_least l n q i (by omega) hn
/-- Give, Take: the blocks then, what is told. -/
def okGive (N : Nat) (a n : Int) : Bool := decide (1 ≤ a ∧ 1 ≤ n ∧ a < N ∧ n ≤ N - a)
def anyF (f : Nat → Bool) (a n : Nat) : Bool := (List.range n).any fun i => f (a + i)
theorem anyF_no {f : Nat → Bool} {a n : Nat} : anyF f a n = false ↔ ∀ i, i < n → f (a + i) = false := by unfold anyF; simp [List.any_eq_false]
def giveR (f : Nat → Bool) (N : Nat) (a n : Int) : (Nat → Bool) × Int :=
  if okGive N a n = true then if anyF f a.toNat n.toNat = true then (f, 41) else (setF f a.toNat n.toNat true, 0) else (f, 1)
def takeR (f : Nat → Bool) (N : Nat) (n : Int) : (Nat → Bool) × Int × Int :=
  if n < 1 then (f, 0, 1)
  else if bestTo (runsTo f N) n (runsTo f N).length < 0 then (f, 0, 4)
  else (setF f ((runsTo f N).getD (bestTo (runsTo f N) n (runsTo f N).length).toNat (0, 0)).1.toNat n.toNat false, ((runsTo f N).getD (bestTo (runsTo f N) n (runsTo f N).length).toNat (0, 0)).1, 0)

/-- The longest is shorter, where none has enough. -/
theorem maxTo_lt {l : List (Int × Int)} {n : Int} (hn : 1 ≤ n) (h : bestTo l n l.length < 0) : maxTo l l.length < n := by
  have key : ∀ q, q ≤ l.length → maxTo l q < n := by
    intro q
    induction q with
    | zero => intro _; show (0 : Int) < n; omega
    | succ q ih =>
      intro hq
      have h1 := ih (by omega)
      unfold maxTo
      split
      · by_cases c : n ≤ (l.getD q (0, 0)).2
        · have := (bestTo_least l n l.length q (by omega) c).1; omega
        · omega
      · exact h1
  exact key _ (Nat.le_refl _)
/-- What is taken is of blocks that were free; given back, all is as it was. -/
theorem take_back {f : Nat → Bool} {N : Nat} {n : Int} (hf : ∀ b, f b = true → 1 ≤ b) (h : (takeR f N n).2.2 = 0) :
    ∃ (B s k M : Nat), n = M ∧ 1 ≤ M ∧ M ≤ k ∧ B < (runsTo f N).length ∧ (runsTo f N).getD B (0, 0) = ((s : Int), (k : Int)) ∧ Run f N s k ∧ 1 ≤ s ∧ takeR f N n = (setF f s M false, (s : Int), 0) ∧
      (∀ i, i < (runsTo f N).length → i ≠ B → ((runsTo f N).getD i (0, 0)).1 ≠ s) ∧ (∀ i, i < (runsTo f N).length → n ≤ ((runsTo f N).getD i (0, 0)).2 → (k : Int) ≤ ((runsTo f N).getD i (0, 0)).2) ∧ giveR (setF f s M false) N s n = (f, 0) := by
  unfold takeR at h ⊢
  by_cases h1 : n < 1
  · rw [if_pos h1] at h; exact absurd (show (1 : Int) = 0 from h) (by decide)
  rw [if_neg h1] at h ⊢
  by_cases h2 : bestTo (runsTo f N) n (runsTo f N).length < 0
  · rw [if_pos h2] at h; exact absurd (show (4 : Int) = 0 from h) (by decide)
  rw [if_neg h2] at h ⊢
  obtain ⟨g1, g2, g3⟩ := bestTo_in (runsTo f N) n (runsTo f N).length
  obtain ⟨B, hB⟩ := Int.eq_ofNat_of_zero_le (show 0 ≤ bestTo (runsTo f N) n (runsTo f N).length by omega)
  obtain ⟨M, rfl⟩ := Int.eq_ofNat_of_zero_le (show 0 ≤ n by omega)
  have g3 := g3 (by omega)
  have hl := bestTo_least (runsTo f N) M (runsTo f N).length
  rw [hB] at g2 g3 hl ⊢
  simp only [Int.toNat_natCast] at g3 hl ⊢
  have hBl : B < (runsTo f N).length := by omega
  obtain ⟨s, k, e, hr⟩ := runs_get hBl
  rw [e] at g3 hl
  simp only at g3 hl
  have hpos := hr.pos
  have hle := hr.le
  have hs1 : 1 ≤ s := hf s (hr.all s (by omega) (by omega))
  have back : setF (setF f s M false) s M true = f := funext fun i => by
    unfold setF
    by_cases c : s ≤ i ∧ i < s + M
    · rw [if_pos c]; exact (hr.all i c.1 (by omega)).symm
    · rw [if_neg c, if_neg c]
  refine ⟨B, s, k, M, rfl, by omega, by omega, hBl, e, hr, hs1, by rw [e]; simp only [Int.toNat_natCast], fun i hi hne hse => ?_, fun i hi hn => (hl i hi hn).2, ?_⟩
  · obtain ⟨s', k', e', hr'⟩ := runs_get hi
    rw [e'] at hse
    simp only at hse
    obtain rfl : s' = s := by omega
    have := hr.same hr' (by omega) (by omega)
    have hp := (runsTo_all f N).2
    rcases Nat.lt_trichotomy i B with c | c | c
    · have := List.pairwise_iff_getElem.1 hp i B hi hBl c
      rw [List.getD_eq_getElem?_getD, List.getElem?_eq_getElem hi, Option.getD_some] at e'
      rw [List.getD_eq_getElem?_getD, List.getElem?_eq_getElem hBl, Option.getD_some] at e
      rw [e, e'] at this
      simp only at this
      omega
    · exact hne c
    · have := List.pairwise_iff_getElem.1 hp B i hBl hi c
      rw [List.getD_eq_getElem?_getD, List.getElem?_eq_getElem hi, Option.getD_some] at e'
      rw [List.getD_eq_getElem?_getD, List.getElem?_eq_getElem hBl, Option.getD_some] at e
      rw [e, e'] at this
      simp only at this
      omega
  · unfold giveR
    rw [if_pos (by unfold okGive; simp; omega)]
    simp only [Int.toNat_natCast]
    rw [if_neg, back]
    rw [show anyF (setF f s M false) s M = false from anyF_no.2 fun i hi => by unfold setF; rw [if_pos (by omega)]]
    decide

end Rn
end Go.Proofs.Ytkejpdkokaiidaa
