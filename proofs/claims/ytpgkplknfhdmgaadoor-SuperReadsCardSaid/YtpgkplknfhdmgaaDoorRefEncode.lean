/- The reference: Encode. -/
import Derived.Test.YtpgkplknfhdmgaaDoorSumOf
import Derived.Test.YtpgkplknfhdmgaaDoorSupMath
import Derived.Test.YtpgkplknfhdmgaaDoorRefWords32
namespace Go.Proofs.YtpgkplknfhdmgaaDoor
open Go.ChangeShapes Go.WideShapes Go.ChangeAt Go.RowKit Cr Bt Su
set_option linter.unusedVariables false

set_option maxHeartbeats 1000000 in
theorem refEncode_any (B : Int) (b id : Nat) (w : World) (hB : IntKind.u64.wrap B = (b : Int)) (hb : b < 2 ^ 64) (hid : id < 2 ^ 64) :
    Calls Tryd.prog 10 #[.int .i64 B, .int .u64 id] w (MadeOne (Value.agg #[Value.int .u64 ((8390047168116913201 : Nat) : Int), Value.int .u64 ((1 : Nat) : Int), Value.int .u64 ((b : Nat) : Int), Value.int .u64 ((id : Nat) : Int), Value.int .u64 ((0 : Nat) : Int), Value.int .u64 ((0 : Nat) : Int), Value.int .u64 ((0 : Nat) : Int), Value.int .u64 ((sumS b id : Nat) : Int)]) w) := by
  have HI : Hid (∀ o : Obj, IsInts .u64 ((w.alloc o).alloc (.cells #[.int .u64 8390047168116913201, .int .u64 1, .int .u64 b, .int .u64 id, .int .u64 0, .int .u64 0, .int .u64 0, .int .u64 0] 23)) (.slice (some ⟨w.heap.size + 1, 0, none⟩) 7 8) (castL [8390047168116913201, 1, b, id, 0, 0, 0])) := Lib.hid fun o => by
    have h := BoxT.new 23 (w.alloc o) #[.int .u64 (8390047168116913201 : Nat), .int .u64 (1 : Nat), .int .u64 b, .int .u64 id, .int .u64 (0 : Nat), .int .u64 (0 : Nat), .int .u64 (0 : Nat), .int .u64 (0 : Nat)]
    have h := seven_of h
    rwa [show (w.alloc o).heap.size = w.heap.size + 1 by simp] at h
  go_enter Tryd.func10, Tryd.ntmps10
  go_wp2_with fail
  refine (refWords32_any _ [8390047168116913201, 1, b, id, 0, 0, 0] _ (HI.out _) (lt_all7 _ ⟨by decide, by decide, hb, hid, by decide, by decide, by decide⟩) (by simp)).mono ?_
  rintro e W ⟨rfl, hb⟩
  obtain ⟨b1, b2, k, s⟩ := boxT_of2 hb
  have HS : Hid (wordsC [8390047168116913201, 1, b, id, 0, 0, 0] = sumS b id) := Lib.hid rfl
  have hs := sumS_lt b id
  have c3 : W.cell? ⟨w.heap.size + 1, 7, none⟩ = some (.int .u64 0) := b2.cell 7
  have f3 := b2.frozen 7
  have B1 := Lib.hid b1
  have B2 := Lib.hid b2
  have K := Lib.hid k
  rw [HS.out]
  clear hb b1 b2 k HI HS
  go_wp2_with (first
    | (refine wpList_load_boxT rfl _ _ rfl (b := w.heap.size + 1) (cells := #[.int .u64 8390047168116913201, .int .u64 1, .int .u64 b, .int .u64 id, .int .u64 0, .int .u64 0, .int .u64 0, .int .u64 (sumS b id : Nat)]) rfl (B2.out.set 7 _) Tryd.underlying23 rfl info8 ?_)
    | (refine wpList_store_boxT rfl _ _ _ rfl (b := w.heap.size) (cells := #[.int .u64 8390047168116913201, .int .u64 1, .int .u64 b, .int .u64 id, .int .u64 0, .int .u64 0, .int .u64 0, .int .u64 (sumS b id : Nat)]) rfl rfl (B1.out.far (by simp) _) info8 rfl (one8 _ _ _ _ _ _ _ _) ?_)
    | fail)
  exact bodyPost_ret (results_boxT1 rfl _ _ (w.heap.size) _ rfl ((B1.out.far (by simp) _).row _) Tryd.underlying23 rfl info8) rfl ⟨rfl, below_setRow (K.out.setCell (by simp) _) (by omega) _⟩

end Go.Proofs.YtpgkplknfhdmgaaDoor
