/- super: Line. -/
import Derived.Test.YtpgkplknfhdmgaaDoorLineV
import Derived.Test.YtpgkplknfhdmgaaDoorStep
namespace Go.Proofs.YtpgkplknfhdmgaaDoor
open Go.ChangeShapes Go.WideShapes Go.ChangeAt Go.RowKit Nv
set_option linter.unusedVariables false

/-- A line's cells, the first k of which are x's. -/
def lineTo (x : Nat → Nat) (k : Nat) : Array Value := #[.int .u64 (if 0 < k then x 0 else 0 : Nat), .int .u64 (if 1 < k then x 1 else 0 : Nat), .int .u64 (if 2 < k then x 2 else 0 : Nat), .int .u64 (if 3 < k then x 3 else 0 : Nat), .int .u64 (if 4 < k then x 4 else 0 : Nat), .int .u64 (if 5 < k then x 5 else 0 : Nat), .int .u64 (if 6 < k then x 6 else 0 : Nat), .int .u64 (if 7 < k then x 7 else 0 : Nat)]
theorem lineTo_step (x : Nat → Nat) (k : Nat) (hk : k < 8) : (lineTo x k).setIfInBounds k (.int .u64 (x k : Nat)) = lineTo x (k + 1) := by
  match k, hk with
  | 0, _ => simp [lineTo]
  | 1, _ => simp [lineTo]
  | 2, _ => simp [lineTo]
  | 3, _ => simp [lineTo]
  | 4, _ => simp [lineTo]
  | 5, _ => simp [lineTo]
  | 6, _ => simp [lineTo]
  | 7, _ => simp [lineTo]
theorem lineTo_cell (x : Nat → Nat) (k : Nat) (hk : k < 8) : ∃ v, (lineTo x k)[k]? = some v := by
  refine ⟨(lineTo x k)[k]'(by simp [lineTo]; exact hk), ?_⟩
  simp
theorem lineTo_all (x : Nat → Nat) : lineTo x 8 = #[.int .u64 (x 0 : Nat), .int .u64 (x 1 : Nat), .int .u64 (x 2 : Nat), .int .u64 (x 3 : Nat), .int .u64 (x 4 : Nat), .int .u64 (x 5 : Nat), .int .u64 (x 6 : Nat), .int .u64 (x 7 : Nat)] := by simp [lineTo]
theorem lineTo_none (x : Nat → Nat) : lineTo x 0 = #[.int .u64 0, .int .u64 0, .int .u64 0, .int .u64 0, .int .u64 0, .int .u64 0, .int .u64 0, .int .u64 0] := by simp [lineTo]

/-- A call hands back a line; what was there is as it was. -/
def MadeLine (x : Nat → Nat) (w : World) (e : Ending) (w' : World) : Prop := e = .returned (Value.agg #[Value.int .u64 ((x 0 : Nat) : Int), Value.int .u64 ((x 1 : Nat) : Int), Value.int .u64 ((x 2 : Nat) : Int), Value.int .u64 ((x 3 : Nat) : Int), Value.int .u64 ((x 4 : Nat) : Int), Value.int .u64 ((x 5 : Nat) : Int), Value.int .u64 ((x 6 : Nat) : Int), Value.int .u64 ((x 7 : Nat) : Int)]) ∧ Below w.heap.size w w'

set_option maxHeartbeats 1000000 in
theorem line_any (w : World) {p : Nat} {f : Fp} {m : Mdl} (hd : Dev w p f m) (x : Nat → Nat) (hx : ∀ k : Nat, k < 8 → getNow m k = (x k : Int)) :
    Calls Tryd.prog 13 #[.pointer (some ⟨p, 0, none⟩)] w (MadeLine x w) := by
  have HD := Lib.hid hd
  have HX := Lib.hid hx
  clear hd hx
  go_enter Tryd.func13, Tryd.ntmps13
  go_wp2_with fail
  have b1 := (BoxT.new 23 w #[.int .u64 0, .int .u64 0, .int .u64 0, .int .u64 0, .int .u64 0, .int .u64 0, .int .u64 0, .int .u64 0]).alloc (.cells #[.int .u64 0, .int .u64 0, .int .u64 0, .int .u64 0, .int .u64 0, .int .u64 0, .int .u64 0, .int .u64 0] 23)
  have b2 := BoxT.new 23 (w.alloc (.cells #[.int .u64 0, .int .u64 0, .int .u64 0, .int .u64 0, .int .u64 0, .int .u64 0, .int .u64 0, .int .u64 0] 23)) #[.int .u64 0, .int .u64 0, .int .u64 0, .int .u64 0, .int .u64 0, .int .u64 0, .int .u64 0, .int .u64 0]
  have kv : Below w.heap.size w ((w.alloc (.cells #[.int .u64 0, .int .u64 0, .int .u64 0, .int .u64 0, .int .u64 0, .int .u64 0, .int .u64 0, .int .u64 0] 23)).alloc (.cells #[.int .u64 0, .int .u64 0, .int .u64 0, .int .u64 0, .int .u64 0, .int .u64 0, .int .u64 0, .int .u64 0] 23)) := ((Below.refl _ _).alloc (Nat.le_refl _) _).alloc (by simp) _
  rw [show (w.alloc (.cells #[.int .u64 0, .int .u64 0, .int .u64 0, .int .u64 0, .int .u64 0, .int .u64 0, .int .u64 0, .int .u64 0] 23)).heap.size = w.heap.size + 1 by simp] at b2
  generalize ((w.alloc (.cells #[.int .u64 0, .int .u64 0, .int .u64 0, .int .u64 0, .int .u64 0, .int .u64 0, .int .u64 0, .int .u64 0] 23)).alloc (.cells #[.int .u64 0, .int .u64 0, .int .u64 0, .int .u64 0, .int .u64 0, .int .u64 0, .int .u64 0, .int .u64 0] 23)) = V at b1 b2 kv ⊢
  have H0 : Hid (BoxT 23 V w.heap.size #[.int .u64 0, .int .u64 0, .int .u64 0, .int .u64 0, .int .u64 0, .int .u64 0, .int .u64 0, .int .u64 0] ∧ BoxT 23 V (w.heap.size + 1) (lineTo x 0) ∧ Below w.heap.size w V) := Lib.hid ⟨b1, by rw [lineTo_none]; exact b2, kv⟩
  clear b1 b2 kv
  go_loopw [4, 5] (fun _ i wr => ∃ k : Nat, k ≤ 8 ∧ i = .int .i64 k ∧ Hid (BoxT 23 wr w.heap.size #[.int .u64 0, .int .u64 0, .int .u64 0, .int .u64 0, .int .u64 0, .int .u64 0, .int .u64 0, .int .u64 0] ∧ BoxT 23 wr (w.heap.size + 1) (lineTo x k) ∧ Below w.heap.size w wr)) (fun _ i _ => 8 - (intOf i).toNat)
  case atStart => exact ⟨0, by omega, rfl, H0⟩
  case round =>
    obtain ⟨k, hk, rfl, HR⟩ := hrel
    clear H0
    by_cases hlt : k < 8
    · have hlt' : (k : Int) < 8 := by omega
      have hg := get_any (HD.out.keep (Keep.ofBelow (S := fun _ => False) HR.out.2.2) (fun _ _ _ h => h)) k
      rw [HX.out k hlt] at hg
      have HG := Lib.hid hg
      obtain ⟨v, hv⟩ := lineTo_cell x k hlt
      have hc : wr.cell? ⟨w.heap.size + 1, k, none⟩ = some v := (HR.out.2.1.cell k).trans hv
      have hf := HR.out.2.1.frozen k
      have HN : Hid (BoxT 23 (wr.setCell ⟨w.heap.size + 1, k, none⟩ (.int .u64 (x k : Nat))) w.heap.size #[.int .u64 0, .int .u64 0, .int .u64 0, .int .u64 0, .int .u64 0, .int .u64 0, .int .u64 0, .int .u64 0] ∧ BoxT 23 (wr.setCell ⟨w.heap.size + 1, k, none⟩ (.int .u64 (x k : Nat))) (w.heap.size + 1) (lineTo x (k + 1)) ∧ Below w.heap.size w (wr.setCell ⟨w.heap.size + 1, k, none⟩ (.int .u64 (x k : Nat)))) := Lib.hid ⟨HR.out.1.far (by simp) _, by rw [← lineTo_step x k hlt]; exact HR.out.2.1.set k _, HR.out.2.2.setCell (by simp) _⟩
      clear hg hv HR
      go_wp2_with fail
      refine HG.out.mono ?_
      rintro e w' ⟨rfl, rfl⟩
      go_wp2_with fail
      go_roundw
      case rel => exact ⟨k + 1, by omega, by go_num, HN⟩
      case measure => simp [intOf]; omega
    · have hlt' : ¬ (k : Int) < 8 := by omega
      obtain rfl : k = 8 := by omega
      have HB := HR.out.2.1
      rw [lineTo_all] at HB
      have HB' := Lib.hid HB
      clear HB
      go_wp2_with (first
        | (refine wpList_load_boxT rfl _ _ rfl (b := w.heap.size + 1) rfl HB'.out Tryd.underlying23 rfl info8 ?_)
        | (refine wpList_store_boxT rfl _ _ _ rfl (b := w.heap.size) rfl rfl HR.out.1 info8 rfl (one8 _ _ _ _ _ _ _ _) ?_)
        | fail)
      exact bodyPost_ret (results_boxT1 rfl _ _ (w.heap.size) _ rfl (HR.out.1.row _) Tryd.underlying23 rfl info8) rfl ⟨rfl, below_setRow HR.out.2.2 (Nat.le_refl _) _⟩

end Go.Proofs.YtpgkplknfhdmgaaDoor
