/-
  NARROWER THAN 'FOR EVERY INPUT', by the rows' own cells (each row's printed sentence says how): BlocksReads: laid · BlocksLast: laid.
  DERIVED. THE GIVEN ROWS OF THIS SEAT. 2 by the template 'for every input the law returns true; each argument reads behind the call as it read before'; 0 by the template 'total and deterministic' (their statements: YtaigocnnmjjhgaaDoorTotals.lean).
  GIVEN WITH THE SEED: the statements are not yours to turn. If you find one false, say at which input.
  Laid BY PROGRAM, IN A SANDBOX (cutbox-rows.mjs): the forced cells as the released guide's own fill.sh prints them over the translation adcacd8c343cc5fc… (all of the seat's roots in one cut). By AI agents, Wed Nov 11 2026. No macro, syntax, notation, axiom, sorry.
-/
import Derived.Test.YtaigocnnmjjhgaaDoorChecked
import GoSem.Claim
import GoSem.ClaimJoined
import GoSem.ClaimMapViews
import Derived.JoinedTies
import Derived.KernelRfl
namespace Go.Proofs.YtaigocnnmjjhgaaDoor
/- THE CELL 'sum', in the pinned program and in every row, IS THE sha256 OF THE DUMP (.gsa) THAT YtaigocnnmjjhgaaDoorProg.lean LOADS. Nothing in Lean hashes anything: it is a label: what it is worth is what the hold of that sum in a sandbox is worth. -/
noncomputable def Tryd.pinned : Pinned := { name := "ytaigocnnmjjhgaadoor", sum := "adcacd8c343cc5fc568710cec2f11cb7bf45085d387222e61f54ee85f1d5e8f0", checked := Tryd.checked }
namespace Rows
def none {H : Type} : Left H := { results := [], args := [] }

/- WHAT THE LISTED PACKAGE-LEVEL VARIABLES READ AS WHEN THE CALL BEGINS. Each datum BY PROGRAM (the guide's laid-datum.mjs) off the statement by which the dump's own 'gosem.cut.vars' lays the variable. In a bare row this is a premise. The card (YtaigocnnmjjhgaaDoorCards.lean) ties it to the program's text. -/
def laid_taproot_crc_rests {H : Type} : DataW H := .agg [.lit (.int .u32 0), .lit (.int .u32 498536548), .lit (.int .u32 997073096), .lit (.int .u32 651767980), .lit (.int .u32 1994146192), .lit (.int .u32 1802195444), .lit (.int .u32 1303535960), .lit (.int .u32 1342533948), .lit (.int .u32 3988292384), .lit (.int .u32 4027552580), .lit (.int .u32 3604390888), .lit (.int .u32 3412177804), .lit (.int .u32 2607071920), .lit (.int .u32 2262029012), .lit (.int .u32 2685067896), .lit (.int .u32 3183342108)]

/-- 'taprootlaw10.BlocksReads': WHATEVER THE INPUT: true; the input reads as it did. -/
def blocksReadsSpec : ChangeSpec := { name := "blocksReads", fn := fun _ => fun
  | [d1, d2, d3] => { results := [.lit (.bool true)], args := [d1, d2, d3] }
  | _ => none }
def blocksReadsRow : OpenClaim := { program := "ytaigocnnmjjhgaadoor", sum := "adcacd8c343cc5fc568710cec2f11cb7bf45085d387222e61f54ee85f1d5e8f0", func := "taproot/taprootlaw10.BlocksReads", spec := "blocksReads", unfollowed := true, recurses := true, named := ["taproot/crc.rests"], apart := false, laid := [("taproot/crc.rests", laid_taproot_crc_rests)] }
def BlocksReadsSaid : Prop := blocksReadsRow.holds Tryd.pinned (OpenSpec.ofChange blocksReadsSpec)

/-- ITS FALSE NEIGHBOUR: 'it returns false'. Refute it at one input. -/
def blocksReadsWrong : ChangeSpec := { name := "blocksReads", fn := fun _ => fun
  | [d1, d2, d3] => { results := [.lit (.bool false)], args := [d1, d2, d3] }
  | _ => none }
def BlocksReadsWrongFalsely : Prop := blocksReadsRow.holds Tryd.pinned (OpenSpec.ofChange blocksReadsWrong)

/-- 'taprootlaw10.BlocksLast': WHATEVER THE INPUT: true; the input reads as it did. -/
def blocksLastSpec : ChangeSpec := { name := "blocksLast", fn := fun _ => fun
  | [d1, d2, d3] => { results := [.lit (.bool true)], args := [d1, d2, d3] }
  | _ => none }
def blocksLastRow : OpenClaim := { program := "ytaigocnnmjjhgaadoor", sum := "adcacd8c343cc5fc568710cec2f11cb7bf45085d387222e61f54ee85f1d5e8f0", func := "taproot/taprootlaw10.BlocksLast", spec := "blocksLast", unfollowed := true, recurses := true, named := ["taproot/crc.rests"], apart := false, laid := [("taproot/crc.rests", laid_taproot_crc_rests)] }
def BlocksLastSaid : Prop := blocksLastRow.holds Tryd.pinned (OpenSpec.ofChange blocksLastSpec)

/-- ITS FALSE NEIGHBOUR: 'it returns false'. Refute it at one input. -/
def blocksLastWrong : ChangeSpec := { name := "blocksLast", fn := fun _ => fun
  | [d1, d2, d3] => { results := [.lit (.bool false)], args := [d1, d2, d3] }
  | _ => none }
def BlocksLastWrongFalsely : Prop := blocksLastRow.holds Tryd.pinned (OpenSpec.ofChange blocksLastWrong)

/- THE SECOND FORM. 'bulk': how many values and letters a reading holds, each counted each time it is reached (what is shared counts as often as it is met; a slice's spare places count too). A statement '..UptoSaid' is the law's where the arguments, and the package variables that the reading takes, are together of bulk at most 1048576: NARROWER than '..Said'. Prove '..Said' where nothing that the law and all that it calls make is longer than what came in: it says more and counts as full. Else prove '..UptoSaid'. A law counts once. -/
mutual
def uptoBulk {H : Type} : DataW H → Nat
  | .lit (.string bytes) => bytes.length + 1
  | .lit _ => 1
  | .nil => 1
  | .ptr d => uptoBulk d + 1
  | .slice elems spare => uptoBulkAll elems + uptoBulkAll spare + 1
  | .agg parts => uptoBulkAll parts + 1
  | .iface _ d => uptoBulk d + 1
  | .map entries => uptoBulkEntries entries + 1
  | .held _ => 1
def uptoBulkAll {H : Type} : List (DataW H) → Nat
  | [] => 0
  | d :: r => uptoBulk d + uptoBulkAll r
def uptoBulkEntries {H : Type} : List (Lit × DataW H) → Nat
  | [] => 0
  | x :: r => uptoBulkEntry x + uptoBulkEntries r
def uptoBulkEntry {H : Type} : Lit × DataW H → Nat
  | (.string bytes, d) => bytes.length + uptoBulk d + 1
  | (_, d) => uptoBulk d + 1
 end
def uptoSmall : (H : Type) → List (DataW H) → Bool := fun _ ds => decide (uptoBulkAll ds ≤ 1048576)
def OpenSpec.upto (s : _root_.Go.ChangeSpec) : _root_.Go.OpenSpec := { _root_.Go.OpenSpec.ofChange s with cond := some uptoSmall }

/-- 'taprootlaw10.BlocksReads', WHERE WHAT IT READS IS OF BULK AT MOST 1048576: true; the input reads as it did. -/
def blocksReadsUptoRow : OpenClaim := { program := "ytaigocnnmjjhgaadoor", sum := "adcacd8c343cc5fc568710cec2f11cb7bf45085d387222e61f54ee85f1d5e8f0", func := "taproot/taprootlaw10.BlocksReads", spec := "blocksReads", unfollowed := true, recurses := true, named := ["taproot/crc.rests"], apart := false, laid := [("taproot/crc.rests", laid_taproot_crc_rests)], narrowed := true }
def BlocksReadsUptoSaid : Prop := blocksReadsUptoRow.holds Tryd.pinned (OpenSpec.upto blocksReadsSpec)

/-- 'taprootlaw10.BlocksLast', WHERE WHAT IT READS IS OF BULK AT MOST 1048576: true; the input reads as it did. -/
def blocksLastUptoRow : OpenClaim := { program := "ytaigocnnmjjhgaadoor", sum := "adcacd8c343cc5fc568710cec2f11cb7bf45085d387222e61f54ee85f1d5e8f0", func := "taproot/taprootlaw10.BlocksLast", spec := "blocksLast", unfollowed := true, recurses := true, named := ["taproot/crc.rests"], apart := false, laid := [("taproot/crc.rests", laid_taproot_crc_rests)], narrowed := true }
def BlocksLastUptoSaid : Prop := blocksLastUptoRow.holds Tryd.pinned (OpenSpec.upto blocksLastSpec)

end Rows
end Go.Proofs.YtaigocnnmjjhgaaDoor
