/- crc.Seal, crc.Open. -/
import Derived.Test.YtdhakfkcenfdoaaDoorWords32
import Derived.Test.YtdhakfkcenfdoaaDoorGet
import Derived.Test.YtdhakfkcenfdoaaDoorPut
namespace Go.Proofs.YtdhakfkcenfdoaaDoor
open Go.ChangeShapes Go.WideShapes Go.ChangeAt Go.RowKit Cr Bt
set_option linter.unusedVariables false

set_option maxHeartbeats 400000 in
theorem seal_any (n p : Nat) (w : World) (hn : n < 4294967296) (hT : HasRests w) (pl : Int) (hp : IntKind.u64.wrap pl = (p : Int)) (hp64 : p < 2 ^ 64) :
    Calls Tryd.prog 24 #[.int .u32 n, .int .i64 pl] w (MadeOne (.int .u64 (sealN n p : Nat)) w) := by
  have HT := Lib.hid hT
  clear hT
  go_enter Tryd.func24, Tryd.ntmps24
  go_wp2_with fail
  refine (words32_any _ [n, p] _ (.built w _ (castL [n, p]) 2 _ rfl rfl) (by intro q; match q with | 0 => exact (show n < 2 ^ 64 by omega) | 1 => exact hp64 | _ + 2 => simp) (by simp) (HT.out.below ((Below.refl _ _).alloc (Nat.le_refl _) _) (Nat.le_refl _))).mono ?_
  rintro e W ⟨rfl, hb⟩
  have HB := Lib.hid (((Below.refl w.heap.size w).alloc (Nat.le_refl _) _).trans (hb.mono (by simp)))
  have hc : wordsC [n, p] < 4294967296 := moreN_lt _ _
  have HP := Lib.hid (put_seal n p hn)
  clear hb
  generalize wordsC [n, p] = c at hc HP
  go_wp2_with fail
  refine (put_any n c 32 32 _ (by omega) (by decide) (by decide)).mono ?_
  rintro e w' ⟨rfl, rfl⟩
  go_wp2_with fail
  go_ret
  exact ⟨ret_int (by rw [HP.out]), HB.out⟩

/-- What Open answers. -/
def OpenIs (x p : Nat) (w : World) (e : Ending) (w' : World) : Prop :=
  (if sealN (x % 4294967296) p = x then e = .returned (.tuple #[.int .u32 ((x % 4294967296 : Nat) : Int), .bool true]) else e = .returned (.tuple #[.int .u32 0, .bool false])) ∧ Below w.heap.size w w'

set_option maxHeartbeats 400000 in
theorem open_any (x p : Nat) (w : World) (hx : x < 2 ^ 64) (hT : HasRests w) (pl : Int) (hp : IntKind.u64.wrap pl = (p : Int)) (hp64 : p < 2 ^ 64) :
    Calls Tryd.prog 20 #[.int .u64 x, .int .i64 pl] w (OpenIs x p w) := by
  have HT := Lib.hid hT
  have HP := Lib.hid hp
  have hm : x % 4294967296 < 4294967296 := Nat.mod_lt _ (by decide)
  have HG := Lib.hid (get_low x)
  clear hT hp
  go_enter Tryd.func20, Tryd.ntmps20
  go_wp2_with fail
  refine (get_any x 0 32 _ hx (by decide) (by decide)).mono ?_
  rintro e w' ⟨rfl, n, rfl⟩
  rw [HG.out]
  have HS := Lib.hid (rfl : sealN (x % 4294967296) p = sealN (x % 4294967296) p)
  generalize hmm : x % 4294967296 = m at *
  have hs := sealN_lt m p hm
  go_wp2_with fail
  refine (seal_any m p _ hm (HT.out.drewN n) pl HP.out hp64).mono ?_
  rintro e W ⟨rfl, hb⟩
  have HB := Lib.hid hb
  clear hb HS
  have HW : Hid (Below w.heap.size w W) := Lib.hid ((below_drewN (Below.refl _ _) n).trans HB.out)
  generalize hz : sealN m p = s at hs ⊢
  have HQ := Lib.hid hz
  clear hz
  by_cases hq : s = x
  · subst hq
    have HM := Lib.hid hmm
    clear hmm
    go_wp2_with fail
    go_ret2
    exact ⟨by rw [HM.out, if_pos HQ.out]; rfl, HW.out⟩
  · have HM := Lib.hid hmm
    clear hmm
    have HN := Lib.hid hq
    have hq' : ((s : Int) == (x : Int)) = false := by simp; omega
    have hq2 : ((s : Int) != (x : Int)) = true := by simp; omega
    clear hq
    go_wp2_with fail
    go_ret2
    exact ⟨by rw [HM.out, if_neg (by rw [HQ.out]; exact HN.out)]; rfl, HW.out⟩

end Go.Proofs.YtdhakfkcenfdoaaDoor
