/-
  No cell of these rows narrows 'for every input' (looked for: loops, veiled, ifaces, maps, wideKeys, modest, calm, conditions, laid).
  DERIVED. THE GIVEN ROWS OF THIS SEAT. 4 by the template 'for every input the law returns true; each argument reads behind the call as it read before'; 0 by the template 'total and deterministic' (their statements: YtnkndhmkamaccaaTotals.lean).
  GIVEN WITH THE SEED: the statements are not yours to turn. If you find one false, say at which input.
  Laid BY PROGRAM, IN A SANDBOX (cutbox-rows.mjs): the forced cells as the released guide's own fill.sh prints them over the translation 3fa527bfef6d5adc… (all of the seat's roots in one cut). By AI agents, Wed Nov 11 2026. No macro, syntax, notation, axiom, sorry.
-/
import Derived.Test.YtnkndhmkamaccaaChecked
import GoSem.Claim
import GoSem.ClaimJoined
import GoSem.ClaimMapViews
import Derived.JoinedTies
import Derived.KernelRfl
namespace Go.Proofs.Ytnkndhmkamaccaa
/- THE CELL 'sum', in the pinned program and in every row, IS THE sha256 OF THE DUMP (.gsa) THAT YtnkndhmkamaccaaProg.lean LOADS. Nothing in Lean hashes anything: it is a label: what it is worth is what the hold of that sum in a sandbox is worth. -/
noncomputable def Try.pinned : Pinned := { name := "ytnkndhmkamaccaa", sum := "3fa527bfef6d5adc08b93df92df00e0b04f9d5250c16fd85c4643f317587c450", checked := Try.checked }
namespace Rows
def none {H : Type} : Left H := { results := [], args := [] }

/-- 'taprootlaw03.NvmPlays': WHATEVER THE INPUT: true; the input reads as it did. -/
def nvmPlaysSpec : ChangeSpec := { name := "nvmPlays", fn := fun _ => fun
  | [d1, d2] => { results := [.lit (.bool true)], args := [d1, d2] }
  | _ => none }
def nvmPlaysRow : OpenClaim := { program := "ytnkndhmkamaccaa", sum := "3fa527bfef6d5adc08b93df92df00e0b04f9d5250c16fd85c4643f317587c450", func := "taproot/taprootlaw03.NvmPlays", spec := "nvmPlays", apart := false }
def NvmPlaysSaid : Prop := nvmPlaysRow.holds Try.pinned (OpenSpec.ofChange nvmPlaysSpec)

/-- ITS FALSE NEIGHBOUR: 'it returns false'. Refute it at one input. -/
def nvmPlaysWrong : ChangeSpec := { name := "nvmPlays", fn := fun _ => fun
  | [d1, d2] => { results := [.lit (.bool false)], args := [d1, d2] }
  | _ => none }
def NvmPlaysWrongFalsely : Prop := nvmPlaysRow.holds Try.pinned (OpenSpec.ofChange nvmPlaysWrong)

/-- 'taprootlaw03.NvmLasts': WHATEVER THE INPUT: true; the input reads as it did. -/
def nvmLastsSpec : ChangeSpec := { name := "nvmLasts", fn := fun _ => fun
  | [d1, d2, d3] => { results := [.lit (.bool true)], args := [d1, d2, d3] }
  | _ => none }
def nvmLastsRow : OpenClaim := { program := "ytnkndhmkamaccaa", sum := "3fa527bfef6d5adc08b93df92df00e0b04f9d5250c16fd85c4643f317587c450", func := "taproot/taprootlaw03.NvmLasts", spec := "nvmLasts", apart := false }
def NvmLastsSaid : Prop := nvmLastsRow.holds Try.pinned (OpenSpec.ofChange nvmLastsSpec)

/-- ITS FALSE NEIGHBOUR: 'it returns false'. Refute it at one input. -/
def nvmLastsWrong : ChangeSpec := { name := "nvmLasts", fn := fun _ => fun
  | [d1, d2, d3] => { results := [.lit (.bool false)], args := [d1, d2, d3] }
  | _ => none }
def NvmLastsWrongFalsely : Prop := nvmLastsRow.holds Try.pinned (OpenSpec.ofChange nvmLastsWrong)

/-- 'taprootlaw03.NvmSizes': WHATEVER THE INPUT: true; the input reads as it did. -/
def nvmSizesSpec : ChangeSpec := { name := "nvmSizes", fn := fun _ => fun
  | [d1, d2] => { results := [.lit (.bool true)], args := [d1, d2] }
  | _ => none }
def nvmSizesRow : OpenClaim := { program := "ytnkndhmkamaccaa", sum := "3fa527bfef6d5adc08b93df92df00e0b04f9d5250c16fd85c4643f317587c450", func := "taproot/taprootlaw03.NvmSizes", spec := "nvmSizes", apart := false }
def NvmSizesSaid : Prop := nvmSizesRow.holds Try.pinned (OpenSpec.ofChange nvmSizesSpec)

/-- ITS FALSE NEIGHBOUR: 'it returns false'. Refute it at one input. -/
def nvmSizesWrong : ChangeSpec := { name := "nvmSizes", fn := fun _ => fun
  | [d1, d2] => { results := [.lit (.bool false)], args := [d1, d2] }
  | _ => none }
def NvmSizesWrongFalsely : Prop := nvmSizesRow.holds Try.pinned (OpenSpec.ofChange nvmSizesWrong)

/-- 'taprootlaw03.NvmStops': WHATEVER THE INPUT: true; the input reads as it did. -/
def nvmStopsSpec : ChangeSpec := { name := "nvmStops", fn := fun _ => fun
  | [d1, d2, d3] => { results := [.lit (.bool true)], args := [d1, d2, d3] }
  | _ => none }
def nvmStopsRow : OpenClaim := { program := "ytnkndhmkamaccaa", sum := "3fa527bfef6d5adc08b93df92df00e0b04f9d5250c16fd85c4643f317587c450", func := "taproot/taprootlaw03.NvmStops", spec := "nvmStops", apart := false }
def NvmStopsSaid : Prop := nvmStopsRow.holds Try.pinned (OpenSpec.ofChange nvmStopsSpec)

/-- ITS FALSE NEIGHBOUR: 'it returns false'. Refute it at one input. -/
def nvmStopsWrong : ChangeSpec := { name := "nvmStops", fn := fun _ => fun
  | [d1, d2, d3] => { results := [.lit (.bool false)], args := [d1, d2, d3] }
  | _ => none }
def NvmStopsWrongFalsely : Prop := nvmStopsRow.holds Try.pinned (OpenSpec.ofChange nvmStopsWrong)

/- THE SECOND FORM. 'bulk': how many values and letters a reading holds, each counted each time it is reached (what is shared counts as often as it is met; a slice's spare places count too). A statement '..UptoSaid' is the law's where the arguments, and the package variables that the reading takes, are together of bulk at most 1048576: NARROWER than '..Said'. Prove '..Said' where nothing that the law and all that it calls make is longer than what came in: it says more and counts as full. Else prove '..UptoSaid'. A law counts once. -/
mutual
def uptoBulk {H : Type} : DataW H → Nat
  | .lit (.string bytes) => bytes.length + 1
  | .lit _ => 1
  | .nil => 1
  | .ptr d => uptoBulk d + 1
  | .slice elems spare => uptoBulkAll elems + uptoBulkAll spare + 1
  | .agg parts => uptoBulkAll parts + 1
  | .iface _ d => uptoBulk d + 1
  | .map entries => uptoBulkEntries entries + 1
  | .held _ => 1
def uptoBulkAll {H : Type} : List (DataW H) → Nat
  | [] => 0
  | d :: r => uptoBulk d + uptoBulkAll r
def uptoBulkEntries {H : Type} : List (Lit × DataW H) → Nat
  | [] => 0
  | x :: r => uptoBulkEntry x + uptoBulkEntries r
def uptoBulkEntry {H : Type} : Lit × DataW H → Nat
  | (.string bytes, d) => bytes.length + uptoBulk d + 1
  | (_, d) => uptoBulk d + 1
 end
def uptoSmall : (H : Type) → List (DataW H) → Bool := fun _ ds => decide (uptoBulkAll ds ≤ 1048576)
def OpenSpec.upto (s : _root_.Go.ChangeSpec) : _root_.Go.OpenSpec := { _root_.Go.OpenSpec.ofChange s with cond := some uptoSmall }

/-- 'taprootlaw03.NvmPlays', WHERE WHAT IT READS IS OF BULK AT MOST 1048576: true; the input reads as it did. -/
def nvmPlaysUptoRow : OpenClaim := { program := "ytnkndhmkamaccaa", sum := "3fa527bfef6d5adc08b93df92df00e0b04f9d5250c16fd85c4643f317587c450", func := "taproot/taprootlaw03.NvmPlays", spec := "nvmPlays", apart := false, narrowed := true }
def NvmPlaysUptoSaid : Prop := nvmPlaysUptoRow.holds Try.pinned (OpenSpec.upto nvmPlaysSpec)

/-- 'taprootlaw03.NvmLasts', WHERE WHAT IT READS IS OF BULK AT MOST 1048576: true; the input reads as it did. -/
def nvmLastsUptoRow : OpenClaim := { program := "ytnkndhmkamaccaa", sum := "3fa527bfef6d5adc08b93df92df00e0b04f9d5250c16fd85c4643f317587c450", func := "taproot/taprootlaw03.NvmLasts", spec := "nvmLasts", apart := false, narrowed := true }
def NvmLastsUptoSaid : Prop := nvmLastsUptoRow.holds Try.pinned (OpenSpec.upto nvmLastsSpec)

/-- 'taprootlaw03.NvmSizes', WHERE WHAT IT READS IS OF BULK AT MOST 1048576: true; the input reads as it did. -/
def nvmSizesUptoRow : OpenClaim := { program := "ytnkndhmkamaccaa", sum := "3fa527bfef6d5adc08b93df92df00e0b04f9d5250c16fd85c4643f317587c450", func := "taproot/taprootlaw03.NvmSizes", spec := "nvmSizes", apart := false, narrowed := true }
def NvmSizesUptoSaid : Prop := nvmSizesUptoRow.holds Try.pinned (OpenSpec.upto nvmSizesSpec)

/-- 'taprootlaw03.NvmStops', WHERE WHAT IT READS IS OF BULK AT MOST 1048576: true; the input reads as it did. -/
def nvmStopsUptoRow : OpenClaim := { program := "ytnkndhmkamaccaa", sum := "3fa527bfef6d5adc08b93df92df00e0b04f9d5250c16fd85c4643f317587c450", func := "taproot/taprootlaw03.NvmStops", spec := "nvmStops", apart := false, narrowed := true }
def NvmStopsUptoSaid : Prop := nvmStopsUptoRow.holds Try.pinned (OpenSpec.upto nvmStopsSpec)

end Rows
end Go.Proofs.Ytnkndhmkamaccaa
