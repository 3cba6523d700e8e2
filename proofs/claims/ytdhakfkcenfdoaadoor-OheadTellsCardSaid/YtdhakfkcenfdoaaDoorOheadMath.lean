/- Plain facts: headers of objects as numbers. No program in sight. -/
import Derived.Test.YtdhakfkcenfdoaaDoorCrcMath
import Derived.Test.YtdhakfkcenfdoaaDoorBheadMath
namespace Go.Proofs.YtdhakfkcenfdoaaDoor
namespace Oh

/-- May there be an object of so many pointers and words? -/
def mayO (p d : Int) : Bool := decide ((0 ≤ p ∧ p ≤ 63) ∧ (0 ≤ d ∧ d ≤ 16384))
/-- How many words it has; 0, if it may not be. -/
def sizeO (p d : Int) : Int := if mayO p d then 1 + p + d else 0
/-- The number of an object's header, for small fields. -/
def numO (p d : Nat) : Nat := 165 + 256 * p + 16384 * d
theorem numO_lt {p d : Nat} (hp : p < 64) (hd : d < 32768) : numO p d < 536870912 := by unfold numO; omega
theorem may_iff {p d : Int} : mayO p d = true ↔ (0 ≤ p ∧ p ≤ 63) ∧ (0 ≤ d ∧ d ≤ 16384) := by unfold mayO; simp
theorem may_nat {p d : Int} (h : mayO p d = true) : ∃ p' d' : Nat, p = p' ∧ d = d' ∧ p' < 64 ∧ d' ≤ 16384 := by
  have := may_iff.1 h
  exact ⟨p.toNat, d.toNat, by omega, by omega, by omega, by omega⟩
theorem sizeO_yes {p d : Int} (h : mayO p d = true) : sizeO p d = 1 + p + d := by unfold sizeO; rw [if_pos h]
theorem sizeO_no {p d : Int} (h : mayO p d = false) : sizeO p d = 0 := by unfold sizeO; rw [if_neg (by rw [h]; decide)]
theorem size_zero {p d : Int} : sizeO p d = 0 ↔ mayO p d = false := by
  constructor
  · intro h
    cases hm : mayO p d with
    | false => rfl
    | true =>
      have := may_iff.1 hm
      rw [sizeO_yes hm] at h; omega
  · exact sizeO_no
theorem size_in (p d : Int) : 0 ≤ sizeO p d ∧ sizeO p d ≤ 16448 := by
  cases hm : mayO p d with
  | false => rw [sizeO_no hm]; omega
  | true => have := may_iff.1 hm; rw [sizeO_yes hm]; omega

theorem put0 : Bt.putN 0 0 8 165 = 165 := Bh.put_sum 0 0 8 165 (by decide) (by decide) (by decide) (by decide)
theorem put1 (p : Nat) (hp : p < 64) : Bt.putN 165 8 6 p = 165 + 256 * p := Bh.put_sum 165 8 6 p (by decide) (by decide) (by decide) hp
theorem put2 (p d : Nat) (hp : p < 64) (hd : d < 32768) : Bt.putN (165 + 256 * p) 14 15 d = numO p d :=
  Bh.put_sum (165 + 256 * p) 14 15 d (show 165 + 256 * p < 16384 by omega) (by decide) (by decide) hd
/-- Of a number the object. -/
def pOf (n : Nat) : Nat := n / 256 % 64
def dOf (n : Nat) : Nat := n / 16384 % 32768
theorem pOf_lt (n : Nat) : pOf n < 64 := Nat.mod_lt _ (by decide)
theorem dOf_lt (n : Nat) : dOf n < 32768 := Nat.mod_lt _ (by decide)
theorem get1 (X : Nat) : Bt.getN X 8 6 = pOf X := Bh.get_of X 8 6 (by decide) (by decide)
theorem get2 (X : Nat) : Bt.getN X 14 15 = dOf X := Bh.get_of X 14 15 (by decide) (by decide)
theorem back1 {p d : Nat} (hp : p < 64) : pOf (numO p d) = p := by unfold numO pOf; omega
theorem back2 {p d : Nat} (hp : p < 64) (hd : d < 32768) : dOf (numO p d) = d := by unfold numO dOf; omega

/-- The word of an object's header at an address. -/
def encO (p d : Int) (a : Nat) : Nat := if mayO p d then Cr.sealN (numO p.toNat d.toNat) a else 0
/-- The error's number of a word at an address. -/
def codeO (x a : Nat) : Nat := if Cr.sealN (x % 4294967296) a = x then (if encO (pOf (x % 4294967296)) (dOf (x % 4294967296)) a = x then 0 else 26) else 25
def okP (x a : Nat) : Nat := if codeO x a = 0 then pOf (x % 4294967296) else 0
def okD (x a : Nat) : Nat := if codeO x a = 0 then dOf (x % 4294967296) else 0

theorem encO_lt (p d : Int) (a : Nat) : encO p d a < 2 ^ 64 := by
  unfold encO
  split
  · rename_i h
    obtain ⟨p', d', rfl, rfl, h1, h2⟩ := may_nat h
    have := @numO_lt p' d' h1 (by omega)
    exact Cr.sealN_lt _ _ (by simp; omega)
  · decide
theorem encO_may {p d : Nat} (a : Nat) (h : mayO p d = true) : encO p d a = Cr.sealN (numO p d) a := by
  unfold encO; rw [if_pos h]; simp
theorem encO_not {p d : Int} (a : Nat) (h : mayO p d = false) : encO p d a = 0 := by
  unfold encO; rw [if_neg (by rw [h]; decide)]
/-- What may not be isn't its word's. -/
theorem wrong_ne {x a : Nat} (h : mayO (pOf (x % 4294967296)) (dOf (x % 4294967296)) = false) : encO (pOf (x % 4294967296)) (dOf (x % 4294967296)) a ≠ x := by
  rw [encO_not a h]
  intro e
  subst e
  exact absurd h (by decide)
theorem code_zero {x a : Nat} : codeO x a = 0 ↔ Cr.sealN (x % 4294967296) a = x ∧ encO (pOf (x % 4294967296)) (dOf (x % 4294967296)) a = x := by
  unfold codeO
  split
  · split <;> simp_all
  · simp_all
/-- An object that may be is read from its word. -/
theorem back_all {p d : Nat} (a : Nat) (h : mayO p d = true) : codeO (encO p d a) a = 0 ∧ okP (encO p d a) a = p ∧ okD (encO p d a) a = d := by
  obtain ⟨p', d', e1, e2, h1, h2⟩ := may_nat h
  have e1 : p = p' := by omega
  have e2 : d = d' := by omega
  subst e1 e2
  have hn := @numO_lt p d h1 (by omega)
  have hx : encO p d a % 4294967296 = numO p d := by rw [encO_may a h]; exact Cr.sealN_low _ _ (by omega)
  have f1 : pOf (numO p d) = p := back1 h1
  have f2 : dOf (numO p d) = d := back2 h1 (by omega)
  have hz : codeO (encO p d a) a = 0 := by
    rw [code_zero, hx, f1, f2]
    exact ⟨(encO_may a h).symm, rfl⟩
  unfold okP okD
  rw [hz, hx, f1, f2]
  simp
/-- What may not be isn't read. -/
theorem back_none {p d : Int} (a : Nat) (h : mayO p d = false) : ¬ (codeO 0 a = 0 ∧ (okP 0 a : Int) = p ∧ (okD 0 a : Int) = d) := by
  rintro ⟨h0, h1, h2⟩
  unfold okP at h1
  unfold okD at h2
  rw [if_pos h0] at h1 h2
  rw [← h1, ← h2] at h
  exact absurd h (by decide)

end Oh
end Go.Proofs.YtdhakfkcenfdoaaDoor
