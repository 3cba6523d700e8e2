/- The page's example of layer 3. -/
import Derived.Test.YtnkndhmkamaccaaCrash
namespace Go.Proofs.Ytnkndhmkamaccaa
open Go.ChangeShapes Go.WideShapes Go.ChangeAt Go.RowKit Nv
set_option linter.unusedVariables false

theorem ints_nil (k : IntKind) (w : World) : IsInts k w (.slice none 0 0) [] := ⟨none, 0, rfl, by simp, .inl rfl⟩
theorem crash_none {w : World} {p : Nat} {f : Fp} {m : Mdl} (h : Dev w p f m) : Calls Try.prog 11 #[.pointer (some ⟨p, 0, none⟩), .slice none 0 0] w (MadeDev (Nv.crash m []) w) :=
  crash_any h _ [] (ints_nil _ _) (fun k => by simp) (by simp)

/-- Made behind what was kept. -/
theorem made_keep {w w1 w2 : World} {S : Nat → Prop} (k1 : Keep (fun _ => False) w w1) (k2 : Keep S w1 w2) (hS : ∀ b, S b → w.heap.size ≤ b) : Keep (fun _ => False) w w2 :=
  k1.trans k2 fun i hi e => by have := hS i e; omega

def aM1 : Mdl := (Nv.store (fresh 1 fun _ => 0) 0 5).1
def aM2 : Mdl := (Nv.persist aM1 0 1).1
theorem aM_0 : getNow (Nv.crash aM1 []) 0 = 0 := by decide
theorem aM_5 : getNow (Nv.crash aM2 []) 0 = 5 := by decide

set_option maxHeartbeats 1000000 in
theorem awake_yes (w : World) : Calls Try.prog 7 #[] w fun e w' => e = .returned (.bool true) ∧ Below w.heap.size w w' := by
  have hnew := new_any 8 w (by decide) (by decide)
  rw [show (upS 8 8).toNat = 1 from by decide] at hnew
  go_enter Try.func7, Try.ntmps7
  go_wp2_with fail
  refine hnew.mono ?_
  rintro e w1 ⟨p, f1, rfl, d1, k1, o1⟩
  have hc := store_any d1 0 5 (by decide)
  have D1 := Lib.hid d1
  have K1 := Lib.hid k1
  have O1 := Lib.hid o1
  clear hnew d1 k1 o1
  go_wp2_with fail
  refine hc.mono ?_
  rintro e w2 ⟨rfl, f2, d2, k2, o2⟩
  have d2' : Dev w2 p f2 aM1 := d2
  have hcr := crash_none d2'
  have K2 : Hid (Keep (fun _ => False) w w2) := Lib.hid (made_keep K1.out k2 O1.out)
  have O2 : Hid (∀ b, f2.own p b → w.heap.size ≤ b) := Lib.hid fun b hb => by have := K1.out.size; rcases o2 b hb with h | h; (exact O1.out b h); omega
  have D2 := Lib.hid d2'
  clear hc d2 d2' k2 o2
  go_wp2_with fail
  refine hcr.mono ?_
  rintro e w3 ⟨pc, fc, rfl, d3, k3, o3⟩
  have hd3 : Dev w3 p f2 aM1 := D2.out.keep k3 (fun _ _ _ h => h)
  have hpe := persist_any hd3 0 1 (by decide) (by decide) (by decide) (by decide) (by decide)
  have K3 : Hid (Keep (fun _ => False) w w3) := Lib.hid (K2.out.trans' k3)
  have D3 := Lib.hid d3
  have O3 := Lib.hid o3
  have Z3 := Lib.hid k3.size
  clear hcr d3 hd3 k3 o3
  go_wp2_with fail
  refine hpe.mono ?_
  rintro e w4 ⟨rfl, f4, d4, k4, o4⟩
  have d4' : Dev w4 p f4 aM2 := d4
  have hcr := crash_none d4'
  have D4 : Hid (Dev w4 pc fc (Nv.crash aM1 [])) := Lib.hid (D3.out.keep k4 (fun b _ ho e => by have := D2.out.own_all b e; have := O3.out b ho; omega))
  have K4 : Hid (Keep (fun _ => False) w w4) := Lib.hid (made_keep K3.out k4 O2.out)
  clear hpe d4 d4' k4 o4
  go_wp2_with fail
  refine hcr.mono ?_
  rintro e w5 ⟨px, fx, rfl, d5, k5, o5⟩
  have g1 := get_any (D4.out.keep k5 (fun _ _ _ h => h)) 0
  have g2 := get_any d5 0
  rw [aM_0] at g1
  rw [aM_5] at g2
  have G1 := Lib.hid g1
  have G2 := Lib.hid g2
  have K5 : Hid (Keep (fun _ => False) w w5) := Lib.hid (K4.out.trans' k5)
  clear hcr d5 k5 o5 g1 g2
  go_wp2_with fail
  refine G1.out.mono ?_
  rintro e w' ⟨rfl, rfl⟩
  go_wp2_with fail
  refine G2.out.mono ?_
  rintro e w' ⟨rfl, rfl⟩
  go_wp2_with fail
  go_ret
  exact ⟨rfl, K5.out.below (Nat.le_refl _) (fun _ h => h.elim)⟩

end Go.Proofs.Ytnkndhmkamaccaa
