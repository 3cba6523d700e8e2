/- The reference: Seal, Open. -/
import Derived.Test.YtdhakfkcenfdoaaDoorRefWords32
import Derived.Test.YtdhakfkcenfdoaaDoorSeal
namespace Go.Proofs.YtdhakfkcenfdoaaDoor
open Go.ChangeShapes Go.WideShapes Go.ChangeAt Go.RowKit Cr Bt
set_option linter.unusedVariables false

set_option maxHeartbeats 400000 in
theorem refSeal_any (n p : Nat) (w : World) (hn : n < 4294967296) (pl : Int) (hp : IntKind.u64.wrap pl = (p : Int)) (hp64 : p < 2 ^ 64) :
    Calls Tryd.prog 26 #[.int .u32 n, .int .i64 pl] w (MadeOne (.int .u64 (sealN n p : Nat)) w) := by
  go_enter Tryd.func26, Tryd.ntmps26
  go_wp2_with fail
  refine (refWords32_any _ [n, p] _ (.built w _ (castL [n, p]) 2 _ rfl rfl) (by intro q; match q with | 0 => exact (show n < 2 ^ 64 by omega) | 1 => exact hp64 | _ + 2 => simp) (by simp)).mono ?_
  rintro e W ⟨rfl, hb⟩
  have HB := Lib.hid (((Below.refl w.heap.size w).alloc (Nat.le_refl _) _).trans (hb.mono (by simp)))
  have hc : wordsC [n, p] < 4294967296 := moreN_lt _ _
  have HP : Hid (sealN n p = wordsC [n, p] * 4294967296 + n) := Lib.hid rfl
  clear hb
  generalize wordsC [n, p] = c at hc HP
  have c1 : (c : Int) ≤ 4294967295 := by omega
  have c2 : (n : Int) ≤ 4294967295 := by omega
  go_wp2_with fail
  go_ret
  exact ⟨ret_int (by rw [HP.out]; omega), HB.out⟩

set_option maxHeartbeats 400000 in
theorem refOpen_any (x p : Nat) (w : World) (hx : x < 2 ^ 64) (pl : Int) (hp : IntKind.u64.wrap pl = (p : Int)) (hp64 : p < 2 ^ 64) :
    Calls Tryd.prog 22 #[.int .u64 x, .int .i64 pl] w (OpenIs x p w) := by
  have HP := Lib.hid hp
  have hm : x % 4294967296 < 4294967296 := Nat.mod_lt _ (by decide)
  have hx' : (x : Int) ≤ 18446744073709551615 := by omega
  have hc1 : (x : Int) % 4294967296 = ((x % 4294967296 : Nat) : Int) := rfl
  clear hp
  generalize hmm : x % 4294967296 = m at *
  have HM := Lib.hid hmm
  have hs := sealN_lt m p hm
  clear hmm
  go_enter Tryd.func22, Tryd.ntmps22
  go_wp2_with fail
  refine (refSeal_any m p _ hm pl HP.out hp64).mono ?_
  rintro e W ⟨rfl, hb⟩
  have HW := Lib.hid hb
  clear hb hc1
  generalize hz : sealN m p = s at hs ⊢
  have HQ := Lib.hid hz
  clear hz
  by_cases hq : s = x
  · subst hq
    go_wp2_with fail
    go_ret2
    exact ⟨by rw [HM.out, if_pos HQ.out]; rfl, HW.out⟩
  · have HN := Lib.hid hq
    have hq' : ((s : Int) == (x : Int)) = false := by simp; omega
    have hq2 : ((s : Int) != (x : Int)) = true := by simp; omega
    clear hq
    go_wp2_with fail
    go_ret2
    exact ⟨by rw [HM.out, if_neg (by rw [HQ.out]; exact HN.out)]; rfl, HW.out⟩

end Go.Proofs.YtdhakfkcenfdoaaDoor
