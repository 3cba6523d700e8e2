/- super: Encode. -/
import Derived.Test.YtpgkplknfhdmgaaDoorSumOf
import Derived.Test.YtpgkplknfhdmgaaDoorSupMath
namespace Go.Proofs.YtpgkplknfhdmgaaDoor
open Go.ChangeShapes Go.WideShapes Go.ChangeAt Go.RowKit Cr Bt Su
set_option linter.unusedVariables false

set_option maxHeartbeats 1000000 in
theorem encode_any (B : Int) (b id : Nat) (w : World) (hB : IntKind.u64.wrap B = (b : Int)) (hb : b < 2 ^ 64) (hid : id < 2 ^ 64) (hT : HasRests w) :
    Calls Tryd.prog 9 #[.agg #[.int .i64 B, .int .u64 id]] w (MadeOne (Value.agg #[Value.int .u64 ((8390047168116913201 : Nat) : Int), Value.int .u64 ((1 : Nat) : Int), Value.int .u64 ((b : Nat) : Int), Value.int .u64 ((id : Nat) : Int), Value.int .u64 ((0 : Nat) : Int), Value.int .u64 ((0 : Nat) : Int), Value.int .u64 ((0 : Nat) : Int), Value.int .u64 ((sumS b id : Nat) : Int)]) w) := by
  have HT : Hid (∀ (o1 o2 o3 : Obj), HasRests (((w.alloc o1).alloc o2).alloc o3)) := Lib.hid fun o1 o2 o3 => by
    have h1 := hT.below ((Below.refl _ _).alloc (Nat.le_refl _) o1) (Nat.le_refl _)
    have h2 := h1.below ((Below.refl _ _).alloc (Nat.le_refl _) o2) (Nat.le_refl _)
    exact h2.below ((Below.refl _ _).alloc (Nat.le_refl _) o3) (Nat.le_refl _)
  clear hT
  go_enter Tryd.func9, Tryd.ntmps9
  go_wp2_with fail
  refine (sumOf_any 8390047168116913201 1 b id 0 0 0 0 _ ⟨by decide, by decide, hb, hid, by decide, by decide, by decide⟩ (HT.out _ _ _)).mono ?_
  rintro e W ⟨rfl, hb⟩
  obtain ⟨-, b2, b3, k, s⟩ := boxT_of3 hb
  have HS : Hid (wordsC [8390047168116913201, 1, b, id, 0, 0, 0] = sumS b id) := Lib.hid rfl
  have c3 : W.cell? ⟨w.heap.size + 1 + 1, 7, none⟩ = some (.int .u64 0) := b3.cell 7
  have f3 := b3.frozen 7
  have B2 := Lib.hid b2
  have B3 := Lib.hid b3
  have K := Lib.hid k
  rw [HS.out]
  clear hb b2 b3 k HT HS
  go_wp2_with (first
    | (refine wpList_load_boxT rfl _ _ rfl (b := w.heap.size + 1 + 1) (cells := #[.int .u64 8390047168116913201, .int .u64 1, .int .u64 b, .int .u64 id, .int .u64 0, .int .u64 0, .int .u64 0, .int .u64 (sumS b id : Nat)]) rfl (B3.out.set 7 _) Tryd.underlying23 rfl info8 ?_)
    | (refine wpList_store_boxT rfl _ _ _ rfl (b := w.heap.size + 1) (cells := #[.int .u64 8390047168116913201, .int .u64 1, .int .u64 b, .int .u64 id, .int .u64 0, .int .u64 0, .int .u64 0, .int .u64 (sumS b id : Nat)]) rfl rfl (B2.out.far (by simp) _) info8 rfl (one8 _ _ _ _ _ _ _ _) ?_)
    | fail)
  exact bodyPost_ret (results_boxT1 rfl _ _ (w.heap.size + 1) _ rfl ((B2.out.far (by simp) _).row _) Tryd.underlying23 rfl info8) rfl ⟨rfl, below_setRow (K.out.setCell (by simp; omega) _) (by omega) _⟩

end Go.Proofs.YtpgkplknfhdmgaaDoor
