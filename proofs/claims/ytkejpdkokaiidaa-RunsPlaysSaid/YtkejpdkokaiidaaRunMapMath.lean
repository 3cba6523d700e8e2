/- Plain facts: the map that holds the runs of free blocks, as it reads. No program in sight. -/
import Derived.Test.YtkejpdkokaiidaaRunMath
import Derived.Maps.Ext
namespace Go.Proofs.Ytkejpdkokaiidaa
namespace Rn
open Bk Go.Maps Go.WideShapes
set_option linter.unusedVariables false

theorem ikey (x : Int) : WideAt.IsKeyLit (.int .i64 x) := trivial
theorem ikey_ne {x i : Int} (h : x ≠ i) : (Lit.int .i64 x) ≠ Lit.int .i64 i := fun e => h (by cases e; rfl)
def enL (p : Int × Int) : Lit × DataW Unit := (.int .i64 p.1, .lit (.int .i64 p.2))
/-- The map that holds the runs of free blocks. -/
def mapOf (f : Nat → Bool) (N : Nat) : DataW Unit := .map ((runsTo f N).map enL)
theorem mapOf_rises (f : Nat → Bool) (N : Nat) : (runsTo f N).Pairwise fun p q => p.1 < q.1 :=
  (runsTo_all f N).2.imp_of_mem fun {p q} hp hq h => by
    obtain ⟨x, y⟩ := p
    obtain ⟨s, k, rfl, rfl, hr⟩ := ((runsTo_all f N).1 x y).1 hp
    simp only at h ⊢
    omega
theorem mapOf_canon (f : Nat → Bool) (N : Nat) : Canon (mapOf f N) := by
  refine ⟨_, rfl, ?_, fun p hp => ?_⟩
  · rw [List.pairwise_map]
    refine (mapOf_rises f N).imp fun {p q} h => ?_
    simp [enL, Lit.before, h]
  · obtain ⟨q, _, rfl⟩ := List.mem_map.1 hp
    exact ikey _
theorem mapOf_size (f : Nat → Bool) (N : Nat) : size (mapOf f N) = (runsTo f N).length := by simp [mapOf, size]
theorem has_mapOf {f : Nat → Bool} {N : Nat} (k : Lit) : has (mapOf f N) k = true ↔ ∃ s l : Nat, k = .int .i64 s ∧ Run f N s l := by
  unfold mapOf
  rw [has_eq, List.any_eq_true]
  constructor
  · rintro ⟨p, hp, h⟩
    obtain ⟨q, hq, rfl⟩ := List.mem_map.1 hp
    obtain ⟨x, y⟩ := q
    obtain ⟨s, l, rfl, rfl, hr⟩ := ((runsTo_all f N).1 x y).1 hq
    exact ⟨s, l, (WideAt.sameKey_eq h).symm, hr⟩
  · rintro ⟨s, l, rfl, hr⟩
    exact ⟨enL (s, l), List.mem_map.2 ⟨_, ((runsTo_all f N).1 s l).2 ⟨s, l, rfl, rfl, hr⟩, rfl⟩, WideAt.sameKey_self (ikey _)⟩
theorem at_mapOf {f : Nat → Bool} {N s l : Nat} (hr : Run f N s l) (z : DataW Unit) : (mapOf f N).atKey (.int .i64 s) z = .lit (.int .i64 l) := by
  have hm : enL ((s : Int), (l : Int)) ∈ (runsTo f N).map enL := List.mem_map.2 ⟨_, ((runsTo_all f N).1 s l).2 ⟨s, l, rfl, rfl, hr⟩, rfl⟩
  obtain ⟨es, e, hs, _⟩ := mapOf_canon f N
  have e' : es = (runsTo f N).map enL := by unfold mapOf at e; injection e with e; exact e.symm
  subst e'
  exact WideAt.atKey_mem z (ikey _) (apart_of_rising hs) hm
theorem has_run {f : Nat → Bool} {N : Nat} {x : Int} (h : has (mapOf f N) (.int .i64 x) = true) : ∃ s l : Nat, x = s ∧ Run f N s l := by
  obtain ⟨s, l, e, hr⟩ := (has_mapOf _).1 h
  injection e with _ e
  exact ⟨s, l, e, hr⟩
/-- What reads alike is that map. -/
theorem mapOf_ext {f : Nat → Bool} {N : Nat} {D : DataW Unit} (c : Canon D) (hh : ∀ k, has D k = true ↔ ∃ s l : Nat, k = .int .i64 s ∧ Run f N s l) (ha : ∀ s l : Nat, Run f N s l → ∀ z, D.atKey (.int .i64 s) z = .lit (.int .i64 l)) : D = mapOf f N := by
  refine ext c (mapOf_canon f N) (fun k => ?_) (fun k z h => ?_)
  · have h1 := hh k
    rw [← has_mapOf] at h1
    exact Bool.eq_iff_iff.2 h1
  · obtain ⟨s, l, rfl, hr⟩ := (hh k).1 h
    rw [ha s l hr, at_mapOf hr]
/-- An element of the map, where no run begins: none. -/
theorem mapOf_at_none {f : Nat → Bool} {N : Nat} {x : Int} (h : ∀ s l : Nat, x = s → ¬ Run f N s l) (z : DataW Unit) : (mapOf f N).atKey (.int .i64 x) z = z := by
  refine atKey_of_not_has ?_ z
  cases e : has (mapOf f N) (.int .i64 x)
  · rfl
  · obtain ⟨s, l, e1, hr⟩ := has_run e
    exact absurd hr (h s l e1)
theorem nkey_ne {x i : Nat} (h : x ≠ i) : (Lit.int .i64 (x : Int)) ≠ Lit.int .i64 (i : Int) := ikey_ne (by omega)
/-- Behind a Give. -/
theorem mapOf_give {f : Nat → Bool} {b a n a' e' : Nat} (hn : 1 ≤ n) (hb : a + n ≤ b) (hno : ∀ i, a ≤ i → i < a + n → f i = false)
    (hlo : (a' = a ∧ (a = 0 ∨ f (a - 1) = false)) ∨ Run f b a' (a - a') ∧ a' < a) (hhi : (e' = a + n ∧ (a + n = b ∨ f (a + n) = false)) ∨ Run f b (a + n) (e' - (a + n)) ∧ a + n < e')
    (c : Canon (((mapOf f b).del (.int .i64 ((a + n : Nat) : Int))).put (.int .i64 (a' : Int)) (.lit (.int .i64 ((e' - a' : Nat) : Int))))) :
    (((mapOf f b).del (.int .i64 ((a + n : Nat) : Int))).put (.int .i64 (a' : Int)) (.lit (.int .i64 ((e' - a' : Nat) : Int)))) = mapOf (setF f a n true) b := by
  have hm : IsMap (mapOf f b) := ⟨_, rfl⟩
  have ha : a' ≤ a := by rcases hlo with h | h <;> omega
  refine mapOf_ext c (fun k => ?_) (fun s l hr z => ?_)
  · constructor
    · intro h
      by_cases e : k = .int .i64 (a' : Int)
      · subst e
        exact ⟨a', e' - a', rfl, (run_give hn hb hno hlo hhi _ _).2 (.inl ⟨rfl, rfl⟩)⟩
      · rw [has_put_other e] at h
        by_cases e2 : k = .int .i64 ((a + n : Nat) : Int)
        · subst e2; rw [has_del_same] at h; cases h
        · rw [has_del_other e2] at h
          obtain ⟨s, l, rfl, hr⟩ := (has_mapOf _).1 h
          exact ⟨s, l, rfl, (run_give hn hb hno hlo hhi _ _).2 (.inr ⟨hr, fun h => e (by rw [h]), fun h => e2 (by rw [h])⟩)⟩
    · rintro ⟨s, l, rfl, hr⟩
      rcases (run_give hn hb hno hlo hhi _ _).1 hr with ⟨rfl, rfl⟩ | ⟨hr, h1, h2⟩
      · exact has_put_same (hm.del _) (ikey _) _
      · rw [has_put_other (nkey_ne h1), has_del_other (nkey_ne h2)]
        exact (has_mapOf _).2 ⟨s, l, rfl, hr⟩
  · rcases (run_give hn hb hno hlo hhi _ _).1 hr with ⟨rfl, rfl⟩ | ⟨hr, h1, h2⟩
    · exact atKey_put_same (hm.del _) (ikey _) _ _
    · rw [atKey_put_other (nkey_ne h1), atKey_del_other (nkey_ne h2)]
      exact at_mapOf hr z
/-- Behind a Take of a part of a run; of a whole one. -/
theorem mapOf_take {f : Nat → Bool} {b a l n : Nat} (hr : Run f b a l) (hn : 1 ≤ n) (hl : n < l) (c : Canon (((mapOf f b).del (.int .i64 (a : Int))).put (.int .i64 ((a + n : Nat) : Int)) (.lit (.int .i64 ((l - n : Nat) : Int))))) :
    (((mapOf f b).del (.int .i64 (a : Int))).put (.int .i64 ((a + n : Nat) : Int)) (.lit (.int .i64 ((l - n : Nat) : Int)))) = mapOf (setF f a n false) b := by
  have hm : IsMap (mapOf f b) := ⟨_, rfl⟩
  have ht := run_take hr hn (Nat.le_of_lt hl)
  have apart : ∀ s k, Run f b s k → s ≠ a + n := fun s k h e => by
    subst e
    have := hr.same h (by omega) (by omega)
    omega
  refine mapOf_ext c (fun k => ?_) (fun s k hr' z => ?_)
  · constructor
    · intro h
      by_cases e : k = .int .i64 ((a + n : Nat) : Int)
      · subst e
        exact ⟨a + n, l - n, rfl, (ht _ _).2 (.inl ⟨hl, rfl, rfl⟩)⟩
      · rw [has_put_other e] at h
        by_cases e2 : k = .int .i64 (a : Int)
        · subst e2; rw [has_del_same] at h; cases h
        · rw [has_del_other e2] at h
          obtain ⟨s, k, rfl, hr'⟩ := (has_mapOf _).1 h
          exact ⟨s, k, rfl, (ht _ _).2 (.inr ⟨hr', fun h => e2 (by rw [h])⟩)⟩
    · rintro ⟨s, k, rfl, hr'⟩
      rcases (ht _ _).1 hr' with ⟨_, rfl, rfl⟩ | ⟨hr', h1⟩
      · exact has_put_same (hm.del _) (ikey _) _
      · rw [has_put_other (nkey_ne (apart s k hr')), has_del_other (nkey_ne h1)]
        exact (has_mapOf _).2 ⟨s, k, rfl, hr'⟩
  · rcases (ht _ _).1 hr' with ⟨_, rfl, rfl⟩ | ⟨hr', h1⟩
    · exact atKey_put_same (hm.del _) (ikey _) _ _
    · rw [atKey_put_other (nkey_ne (apart s k hr')), atKey_del_other (nkey_ne h1)]
      exact at_mapOf hr' z
theorem mapOf_takeAll {f : Nat → Bool} {b a l : Nat} (hr : Run f b a l) (c : Canon ((mapOf f b).del (.int .i64 (a : Int)))) : (mapOf f b).del (.int .i64 (a : Int)) = mapOf (setF f a l false) b := by
  have ht := run_take hr hr.pos (Nat.le_refl l)
  refine mapOf_ext c (fun k => ?_) (fun s k hr' z => ?_)
  · constructor
    · intro h
      by_cases e2 : k = .int .i64 (a : Int)
      · subst e2; rw [has_del_same] at h; cases h
      · rw [has_del_other e2] at h
        obtain ⟨s, k, rfl, hr'⟩ := (has_mapOf _).1 h
        exact ⟨s, k, rfl, (ht _ _).2 (.inr ⟨hr', fun h => e2 (by rw [h])⟩)⟩
    · rintro ⟨s, k, rfl, hr'⟩
      rcases (ht _ _).1 hr' with ⟨h, _, _⟩ | ⟨hr', h1⟩
      · omega
      · rw [has_del_other (nkey_ne h1)]
        exact (has_mapOf _).2 ⟨s, k, rfl, hr'⟩
  · rcases (ht _ _).1 hr' with ⟨h, _, _⟩ | ⟨hr', h1⟩
    · omega
    · rw [atKey_del_other (nkey_ne h1)]
      exact at_mapOf hr' z

/-! What has come of a range over that map: all but what is left. -/
/-- A run that has come. -/
def Come (f : Nat → Bool) (N : Nat) (left : Lit → Bool) (s k : Nat) : Prop := Run f N s k ∧ left (.int .i64 s) = false
theorem come_none {f : Nat → Bool} {N s k : Nat} (h : Come f N (has (mapOf f N)) s k) : False := by
  have h1 : has (mapOf f N) (.int .i64 (s : Int)) = true := (has_mapOf _).2 ⟨s, k, rfl, h.1⟩
  rw [h.2] at h1; cases h1
theorem come_all {f : Nat → Bool} {N : Nat} {left : Lit → Bool} (h : ∀ kl, left kl = false) {s k : Nat} (hr : Run f N s k) : Come f N left s k := ⟨hr, h _⟩
theorem run_len {f : Nat → Bool} {N s k k' : Nat} (h : Run f N s k) (h' : Run f N s k') : k = k' := (h.same h' (by omega) (by omega)).2
theorem come_step {f : Nat → Bool} {N : Nat} {left : Lit → Bool} {x l : Nat} (hr : Run f N x l) (s k : Nat) :
    Come f N (fun z => left z && !z.sameKey (.int .i64 (x : Int))) s k ↔ (s = x ∧ k = l) ∨ Come f N left s k := by
  simp only [Come]
  by_cases e : s = x
  · subst e
    rw [WideAt.sameKey_self (ikey _)]
    simp only [Bool.not_true, Bool.and_false, and_true, true_and]
    constructor
    · intro h; exact .inl (run_len h hr)
    · rintro (rfl | h)
      · exact hr
      · exact h.1
  · rw [sameKey_ne (nkey_ne e)]
    simp [e]

/-! Sums and the greatest over what has come. -/
def sumCome (l : List (Int × Int)) (left : Lit → Bool) : Int := (l.map fun p => if left (.int .i64 p.1) = true then 0 else p.2).sum
theorem sumCome_step {left : Lit → Bool} {x c : Int} : ∀ {l : List (Int × Int)}, (l.Pairwise fun p q => p.1 < q.1) → (x, c) ∈ l → left (.int .i64 x) = true →
    sumCome l (fun z => left z && !z.sameKey (.int .i64 x)) = sumCome l left + c
  | [], _, h, _ => by simp at h
  | p :: l, hp, h, hl => by
    obtain ⟨h1, h2⟩ := List.pairwise_cons.1 hp
    have same : ∀ {l : List (Int × Int)}, (∀ q ∈ l, q.1 ≠ x) → sumCome l (fun z => left z && !z.sameKey (.int .i64 x)) = sumCome l left := fun {l} hq => by
      unfold sumCome
      congr 1
      refine List.map_congr_left fun q hq' => ?_
      simp [sameKey_ne (ikey_ne (hq q hq'))]
    by_cases e : p.1 = x
    · have e2 : p = (x, c) := by
        rcases List.mem_cons.1 h with h | h
        · exact h.symm
        · have := h1 _ h; simp only at this; omega
      subst e2
      have := same (l := l) (fun q hq => by have := h1 q hq; simp only at this; omega)
      unfold sumCome at this ⊢
      rw [List.map_cons, List.map_cons, List.sum_cons, List.sum_cons, this]
      simp only [WideAt.sameKey_self (ikey _), hl]
      simp
      omega
    · have h3 : (x, c) ∈ l := by
        rcases List.mem_cons.1 h with h | h
        · exact absurd (by rw [← h]) e
        · exact h
      have ih := sumCome_step h2 h3 hl
      unfold sumCome at ih ⊢
      rw [List.map_cons, List.map_cons, List.sum_cons, List.sum_cons, ih]
      simp only [sameKey_ne (ikey_ne e)]
      simp
      omega
theorem sumCome_le {left : Lit → Bool} {B : Int} (hB : 0 ≤ B) : ∀ {l : List (Int × Int)}, (∀ p ∈ l, 0 ≤ p.2 ∧ p.2 ≤ B) → 0 ≤ sumCome l left ∧ sumCome l left ≤ B * l.length
  | [], _ => by simp [sumCome]
  | p :: l, h => by
    obtain ⟨h1, h2⟩ := h p (by simp)
    have ih := sumCome_le (left := left) hB (l := l) (fun q hq => h q (by simp [hq]))
    unfold sumCome at ih ⊢
    rw [List.map_cons, List.sum_cons, List.length_cons]
    have e : B * ((l.length + 1 : Nat) : Int) = B * l.length + B := by rw [Int.natCast_add, Int.mul_add]; simp
    rw [e]
    split <;> omega
theorem sumCome_none {f : Nat → Bool} {N : Nat} : sumCome (runsTo f N) (has (mapOf f N)) = 0 := by
  unfold sumCome
  have e : ((runsTo f N).map fun p => if has (mapOf f N) (.int .i64 p.1) = true then 0 else p.2) = (runsTo f N).map fun _ => (0 : Int) := List.map_congr_left fun p hp => by
    obtain ⟨x, y⟩ := p
    obtain ⟨s, k, rfl, rfl, hr⟩ := ((runsTo_all f N).1 x y).1 hp
    rw [if_pos ((has_mapOf _).2 ⟨s, k, rfl, hr⟩)]
  rw [e]
  generalize runsTo f N = l
  induction l with
  | nil => rfl
  | cons p l ih => rw [List.map_cons, List.sum_cons, ih]; rfl
theorem totTo_take (l : List (Int × Int)) : ∀ q, q ≤ l.length → totTo l q = ((l.take q).map Prod.snd).sum
  | 0, _ => by simp [totTo]
  | q + 1, h => by
    unfold totTo
    rw [totTo_take l q (by omega), List.take_add_one, List.map_append, List.sum_append, List.getD_eq_getElem?_getD, List.getElem?_eq_getElem (show q < l.length by omega)]
    simp
theorem sumCome_all {l : List (Int × Int)} {left : Lit → Bool} (h : ∀ kl, left kl = false) : sumCome l left = totTo l l.length := by
  rw [totTo_take l _ (Nat.le_refl _), List.take_length]
  unfold sumCome
  congr 1
  refine List.map_congr_left fun p _ => ?_
  rw [h]; rfl
theorem maxTo_is (l : List (Int × Int)) : ∀ q, 0 ≤ maxTo l q ∧ (∀ i, i < q → (l.getD i (0, 0)).2 ≤ maxTo l q) ∧ (maxTo l q = 0 ∨ ∃ i, i < q ∧ (l.getD i (0, 0)).2 = maxTo l q)
  | 0 => ⟨by simp [maxTo], fun i h => by omega, .inl rfl⟩
  | q + 1 => by
    obtain ⟨h1, h2, h3⟩ := maxTo_is l q
    unfold maxTo
    split
    · rename_i h
      refine ⟨by omega, fun i hi => ?_, .inr ⟨q, by omega, rfl⟩⟩
      by_cases e : i = q
      · subst e; omega
      · have := h2 i (by omega); omega
    · rename_i h
      refine ⟨h1, fun i hi => ?_, ?_⟩
      · by_cases e : i = q
        · subst e; omega
        · exact h2 i (by omega)
      · rcases h3 with h3 | ⟨i, hi, h3⟩
        · exact .inl h3
        · exact .inr ⟨i, by omega, h3⟩
/-- The greatest of all runs, by what it is. -/
theorem maxTo_eq {f : Nat → Bool} {N : Nat} {m : Int} (h0 : 0 ≤ m) (h1 : ∀ s k : Nat, Run f N s k → (k : Int) ≤ m) (h2 : m = 0 ∨ ∃ s k : Nat, Run f N s k ∧ (k : Int) = m) : maxTo (runsTo f N) (runsTo f N).length = m := by
  obtain ⟨g0, g1, g2⟩ := maxTo_is (runsTo f N) (runsTo f N).length
  have a : maxTo (runsTo f N) (runsTo f N).length ≤ m := by
    rcases g2 with g2 | ⟨i, hi, g2⟩
    · omega
    · obtain ⟨s, k, e, hr⟩ := runs_get hi
      rw [e] at g2
      have := h1 s k hr
      simp only at g2
      omega
  have b : m ≤ maxTo (runsTo f N) (runsTo f N).length := by
    rcases h2 with h2 | ⟨s, k, hr, rfl⟩
    · omega
    · have hm := ((runsTo_all f N).1 s k).2 ⟨s, k, rfl, rfl, hr⟩
      obtain ⟨i, hi, e⟩ := List.getElem_of_mem hm
      have := g1 i hi
      rw [List.getD_eq_getElem?_getD, List.getElem?_eq_getElem hi, e] at this
      exact this
  omega
end Rn
end Go.Proofs.Ytkejpdkokaiidaa
