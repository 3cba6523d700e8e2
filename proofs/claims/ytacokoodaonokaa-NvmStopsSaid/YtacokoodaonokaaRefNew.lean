/- The reference: New of nothing. -/
import Derived.Test.YtacokoodaonokaaRefCrash
import Derived.Test.YtacokoodaonokaaNew
namespace Go.Proofs.Ytacokoodaonokaa
open Go.ChangeShapes Go.WideShapes Go.ChangeAt Go.RowKit Nv
set_option linter.unusedVariables false

def mZ : Mdl := fresh (linesFor ([] : List Int).length) (padded [])

set_option maxHeartbeats 2000000 in
theorem refNew_none (w : World) : Calls Try.prog 25 #[.int .i64 0] w (RefMade mZ w) := by
  obtain ⟨C1, hs1, hc1, hm1⟩ := make_words 0 (by omega)
  have hm0 : ∀ w, (Instr.makeSlice 22 (.int .i64 0) (.int .i64 0)).run Try.prog w = .ok (.slice (some ⟨w.heap.size, 0, none⟩) 0 0) (w.alloc (.cells C1 33)) := hm1
  have hb : Box ((w.alloc (.cells z30 30)).alloc (.cells C1 33)) w.heap.size z30 := (Box.new w _).alloc _
  have bw : Below w.heap.size w ((w.alloc (.cells z30 30)).alloc (.cells C1 33)) := below_two w _ _
  have hz : ((w.alloc (.cells z30 30)).alloc (.cells C1 33)).heap.size = w.heap.size + 2 := by simp
  have HB := Lib.hid (And.intro hb (And.intro bw hz))
  unfold z30 at HB
  clear hb bw hz hm1
  go_enter Try.func25, Try.ntmps25
  go_wp2_with fail
  have hB := HB.out
  clear HB
  generalize (w.alloc (.cells #[.slice none 0 0, .slice none 0 0, .slice none 0 0, .slice none 0 0, .slice none 0 0, .int .i64 0, .int .i64 0, .bool false] 30)).alloc (.cells C1 33) = w1 at hB ⊢
  obtain ⟨hb1, bw1, z1⟩ := hB
  have HB1 : Hid (Box w1 w.heap.size z30) := Lib.hid hb1
  have BW1 := Lib.hid bw1
  have Z1 := Lib.hid z1
  clear hb1 bw1 z1 hm0
  refine (refLoad_any _ [] (⟨_, 0, rfl, by simp, .inl rfl⟩) (by simp)).mono ?_
  rintro e w2 ⟨r, rfl, r2, b2⟩
  have R2 := Lib.hid r2
  have B2 := Lib.hid b2
  have HB2 := Lib.hid (HB1.out.below b2 HB1.out.lt)
  clear r2 b2
  go_wp2_with (refine wpList_store_box rfl _ _ rfl (b := w.heap.size) (old := z30) (cells := rc r _) rfl rfl HB2.out rfl rfl (rc_one _ _) ?_; intro w3 hb3 k3; have HB3 := Lib.hid hb3; have K3 := Lib.hid k3; clear hb3 k3)
  have zz := Z1.out
  have z2 := B2.out.size
  exact bodyPost_ret (results_box1 rfl _ _ w.heap.size (rc r mZ) rfl HB3.out rfl) rfl ⟨r, rfl, R2.out.keep K3.out (fun b hb _ e => by omega) (fun b hb _ => ⟨by omega, Nat.lt_of_lt_of_le hb.2 K3.out.size⟩), (BW1.out.trans (B2.out.mono (by omega))).trans (K3.out.below (B := w.heap.size) (by omega) (fun i e => by omega))⟩

end Go.Proofs.Ytacokoodaonokaa
