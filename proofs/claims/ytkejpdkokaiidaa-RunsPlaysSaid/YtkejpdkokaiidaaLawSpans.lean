/- The laws' Spans (spans alike). -/
import Derived.Test.YtkejpdkokaiidaaSps
namespace Go.Proofs.Ytkejpdkokaiidaa
open Go.ChangeShapes Go.WideShapes Go.ChangeAt Go.RowKit Bk
set_option linter.unusedVariables false

set_option maxHeartbeats 1000000 in
theorem lawSpans_yes (va vb : Value) (l : List (Int × Int)) (w : World) (ha : IsSps w va l) (hb : IsSps w vb l) (hlen : l.length ≤ 100000) :
    Calls Try.prog 22 #[va, vb] w fun e w' => e = .returned (.bool true) ∧ ∃ n, w' = w.drewN n := by
  obtain ⟨a, ca, rfl, hca, ha⟩ := ha
  obtain ⟨b, cb, rfl, hcb, hb⟩ := hb
  by_cases h0 : l = []
  · subst h0
    go_enter Try.func22, Try.ntmps22
    go_wp2
    go_loop [5] (fun i => i = .int .i64 0) (fun _ => 0)
    case atStart => exact rfl
    case round =>
      obtain rfl := hrel
      go_wp2
      go_ret
      exact ⟨rfl, 0, rfl⟩
  · obtain ⟨b1, o1, rfl, _, h1⟩ := ha.resolve_left h0
    obtain ⟨b2, o2, rfl, _, h2⟩ := hb.resolve_left h0
    generalize hl : l.length = len at *
    have H1 := Lib.hid h1
    have H2 := Lib.hid h2
    clear h1 h2 h0 hl ha hb
    go_enter Try.func22, Try.ntmps22
    go_wp2
    go_loopw [5] (fun i wr => ∃ k n : Nat, k ≤ len ∧ i = .int .i64 k ∧ wr = w.drewN n) (fun i _ => len - (intOf i).toNat)
    case atStart => exact ⟨0, 0, by omega, rfl, rfl⟩
    case round =>
      obtain ⟨k, n, hk, rfl, rfl⟩ := hrel
      by_cases hlt : k < len
      · obtain ⟨c0, c1⟩ := H1.out k hlt
        obtain ⟨d0, d1⟩ := H2.out k hlt
        generalize l.getD k (0, 0) = x at c0 c1 d0 d1
        obtain ⟨x0, x1⟩ := x
        have hlt' : (k : Int) < (len : Int) := by omega
        have hk0 : (0 : Int) ≤ (k : Int) := by omega
        go_wp2_with fail
        go_quiet (fail)
        go_wp2_with fail
        go_roundw
        case rel => exact ⟨k + 1, _, by omega, by go_num, rfl⟩
        case measure => simp [intOf]; omega
      · have hlt' : ¬ (k : Int) < (len : Int) := by omega
        go_wp2_with fail
        go_ret
        exact ⟨rfl, _, rfl⟩

end Go.Proofs.Ytkejpdkokaiidaa
