/- crc.halved, over its table. -/
import Derived.Test.YtdhakfkcenfdoaaDoorPre
import Derived.Test.YtdhakfkcenfdoaaDoorCrcMath
import Derived.Lib.LaidTab
namespace Go.Proofs.YtdhakfkcenfdoaaDoor
open Go.ChangeShapes Go.WideShapes Go.ChangeAt Go.RowKit Cr
set_option linter.unusedVariables false

/-- The table lies in the world. -/
def HasRests (w : World) : Prop := ∀ i, i < 16 → w.cell? ⟨1, i, none⟩ = some (.int .u32 ((tab.getD i 0 : Nat) : Int))
theorem HasRests.drewN {w : World} (h : HasRests w) (n : Nat) : HasRests (w.drewN n) := h
theorem HasRests.lt {w : World} (h : HasRests w) : 1 < w.heap.size := World.block_lt_of_cell? _ _ (h 0 (by decide))
theorem HasRests.below {w w' : World} {B : Nat} (h : HasRests w) (hb : Below B w w') (hB : w.heap.size ≤ B) : HasRests w' := fun i hi =>
  (hb.cell (p := ⟨1, i, none⟩) (Nat.lt_of_lt_of_le h.lt hB)).trans (h i hi)

theorem halved_any (r : Nat) (w : World) (hr : r < 4294967296) (hT : HasRests w) :
    Calls Tryd.prog 47 #[.int .u32 r] w fun e w' => e = .returned (.int .u32 (halfN r : Nat)) ∧ w = w' := by
  have e1 := and15_nat32 r hr
  have hm : r % 16 < 16 := Nat.mod_lt _ (by decide)
  have hc := hT _ hm
  have e2 := xor_nat32 (r / 16) (tab.getD (r % 16) 0) (by omega) (tab_lt _ hm)
  have b0 : (r : Int) ≤ 4294967295 := by omega
  have H2 := Lib.hid e2
  clear e2
  go_enter Tryd.func47, Tryd.ntmps47
  go_wp2_with fail
  go_ret
  exact ⟨ret_int H2.out, rfl⟩

end Go.Proofs.YtdhakfkcenfdoaaDoor
