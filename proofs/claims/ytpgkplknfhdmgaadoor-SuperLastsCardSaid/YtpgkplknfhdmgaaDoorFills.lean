/- super: geometry, fills. -/
import Derived.Test.YtpgkplknfhdmgaaDoorGeoWords
import Derived.Test.YtpgkplknfhdmgaaDoorGeoRight
import Derived.Test.YtpgkplknfhdmgaaDoorStep
import Derived.Test.YtpgkplknfhdmgaaDoorBoxes
namespace Go.Proofs.YtpgkplknfhdmgaaDoor
open Go.ChangeShapes Go.WideShapes Go.ChangeAt Go.RowKit Nv
set_option linter.unusedVariables false

set_option maxHeartbeats 400000 in
theorem geometry_any (n : Int) (id : Nat) (w : World) :
    Calls Tryd.prog 19 #[.agg #[.int .i64 n, .int .u64 id]] w fun e w' => e = .returned (.agg #[.int .i64 n]) ∧ Below w.heap.size w w' := by
  go_enter Tryd.func19, Tryd.ntmps19
  go_wp2
  exact bodyPost_ret (results_boxT1 rfl _ _ (w.heap.size + 1) #[.int .i64 n] rfl (by have := BoxT.new 49 (w.alloc (.cells #[.int .i64 n, .int .u64 id] 27)) #[.int .i64 n]; rwa [show (w.alloc (.cells #[.int .i64 n, .int .u64 id] 27)).heap.size = w.heap.size + 1 by simp] at this) Tryd.underlying49 rfl (by kernel_rfl)) rfl ⟨rfl, ((Below.refl _ _).alloc (Nat.le_refl _) _).alloc (by simp) _⟩

set_option maxHeartbeats 400000 in
theorem fills_any (n : Int) (id : Nat) (w : World) {p : Nat} {f : Fp} {m : Mdl} (hd : Dev w p f m) (h0 : 0 ≤ n) (h1 : n ≤ 1048576) :
    Calls Tryd.prog 22 #[.agg #[.int .i64 n, .int .u64 id], .pointer (some ⟨p, 0, none⟩)] w fun e w' => e = .returned (.bool (decide (512 * n = ((8 * m.L : Nat) : Int)))) ∧ Below w.heap.size w w' := by
  have HD := Lib.hid hd
  have hL := hd.hL
  clear hd
  go_enter Tryd.func22, Tryd.ntmps22
  go_wp2_with fail
  refine (geometry_any n id _).mono ?_
  rintro e w1 ⟨rfl, k1⟩
  obtain ⟨-, k1, -⟩ := boxT_of1 k1
  have K1 := Lib.hid k1
  clear k1
  go_wp2_with fail
  refine (geoWords_any n _ h0 h1).mono ?_
  rintro e w2 ⟨rfl, k2⟩
  have K2 : Hid (Below w.heap.size w w2) := Lib.hid (K1.out.trans (k2.mono K1.out.size))
  have D2 : Hid (Dev w2 p f m) := Lib.hid (HD.out.keep (Keep.ofBelow (S := fun _ => False) K2.out) (fun _ _ _ h => h))
  clear k2 K1 HD
  go_wp2_with fail
  refine (len_any D2.out).mono ?_
  rintro e w' ⟨rfl, rfl⟩
  have HE : Hid (((512 * n : Int) == ((8 * m.L : Nat) : Int)) = decide (512 * n = ((8 * m.L : Nat) : Int))) := Lib.hid rfl
  go_wp2_with fail
  go_ret
  exact ⟨ret_bool HE.out, K2.out⟩

end Go.Proofs.YtpgkplknfhdmgaaDoor
