/-
  NARROWER THAN 'FOR EVERY INPUT', by the rows' own cells (each row's printed sentence says how): SuperCodes: laid · SuperReads: laid · SuperLasts: laid.
  DERIVED. THE GIVEN ROWS OF THIS SEAT. 3 by the template 'for every input the law returns true; each argument reads behind the call as it read before'; 0 by the template 'total and deterministic' (their statements: YtpgkplknfhdmgaaDoorTotals.lean).
  GIVEN WITH THE SEED: the statements are not yours to turn. If you find one false, say at which input.
  Laid BY PROGRAM, IN A SANDBOX (cutbox-rows.mjs): the forced cells as the released guide's own fill.sh prints them over the translation cb65d520946e56e2… (all of the seat's roots in one cut). By AI agents, Wed Nov 11 2026. No macro, syntax, notation, axiom, sorry.
-/
import Derived.Test.YtpgkplknfhdmgaaDoorChecked
import GoSem.Claim
import GoSem.ClaimJoined
import GoSem.ClaimMapViews
import Derived.JoinedTies
import Derived.KernelRfl
namespace Go.Proofs.YtpgkplknfhdmgaaDoor
/- THE CELL 'sum', in the pinned program and in every row, IS THE sha256 OF THE DUMP (.gsa) THAT YtpgkplknfhdmgaaDoorProg.lean LOADS. Nothing in Lean hashes anything: it is a label: what it is worth is what the hold of that sum in a sandbox is worth. -/
noncomputable def Tryd.pinned : Pinned := { name := "ytpgkplknfhdmgaadoor", sum := "cb65d520946e56e238122c592097d813b28809e7d834566b5f074c079530250f", checked := Tryd.checked }
namespace Rows
def none {H : Type} : Left H := { results := [], args := [] }

/- WHAT THE LISTED PACKAGE-LEVEL VARIABLES READ AS WHEN THE CALL BEGINS. Each datum BY PROGRAM (the guide's laid-datum.mjs) off the statement by which the dump's own 'gosem.cut.vars' lays the variable. In a bare row this is a premise. The card (YtpgkplknfhdmgaaDoorCards.lean) ties it to the program's text. -/
def laid_taproot_crc_rests {H : Type} : DataW H := .agg [.lit (.int .u32 0), .lit (.int .u32 498536548), .lit (.int .u32 997073096), .lit (.int .u32 651767980), .lit (.int .u32 1994146192), .lit (.int .u32 1802195444), .lit (.int .u32 1303535960), .lit (.int .u32 1342533948), .lit (.int .u32 3988292384), .lit (.int .u32 4027552580), .lit (.int .u32 3604390888), .lit (.int .u32 3412177804), .lit (.int .u32 2607071920), .lit (.int .u32 2262029012), .lit (.int .u32 2685067896), .lit (.int .u32 3183342108)]

/-- 'taprootlaw05.SuperCodes': WHATEVER THE INPUT: true; the input reads as it did. -/
def superCodesSpec : ChangeSpec := { name := "superCodes", fn := fun _ => fun
  | [d1, d2, d3] => { results := [.lit (.bool true)], args := [d1, d2, d3] }
  | _ => none }
def superCodesRow : OpenClaim := { program := "ytpgkplknfhdmgaadoor", sum := "cb65d520946e56e238122c592097d813b28809e7d834566b5f074c079530250f", func := "taproot/taprootlaw05.SuperCodes", spec := "superCodes", named := ["taproot/crc.rests"], apart := false, laid := [("taproot/crc.rests", laid_taproot_crc_rests)] }
def SuperCodesSaid : Prop := superCodesRow.holds Tryd.pinned (OpenSpec.ofChange superCodesSpec)

/-- ITS FALSE NEIGHBOUR: 'it returns false'. Refute it at one input. -/
def superCodesWrong : ChangeSpec := { name := "superCodes", fn := fun _ => fun
  | [d1, d2, d3] => { results := [.lit (.bool false)], args := [d1, d2, d3] }
  | _ => none }
def SuperCodesWrongFalsely : Prop := superCodesRow.holds Tryd.pinned (OpenSpec.ofChange superCodesWrong)

/-- 'taprootlaw05.SuperReads': WHATEVER THE INPUT: true; the input reads as it did. -/
def superReadsSpec : ChangeSpec := { name := "superReads", fn := fun _ => fun
  | [d1, d2] => { results := [.lit (.bool true)], args := [d1, d2] }
  | _ => none }
def superReadsRow : OpenClaim := { program := "ytpgkplknfhdmgaadoor", sum := "cb65d520946e56e238122c592097d813b28809e7d834566b5f074c079530250f", func := "taproot/taprootlaw05.SuperReads", spec := "superReads", named := ["taproot/crc.rests"], apart := false, laid := [("taproot/crc.rests", laid_taproot_crc_rests)] }
def SuperReadsSaid : Prop := superReadsRow.holds Tryd.pinned (OpenSpec.ofChange superReadsSpec)

/-- ITS FALSE NEIGHBOUR: 'it returns false'. Refute it at one input. -/
def superReadsWrong : ChangeSpec := { name := "superReads", fn := fun _ => fun
  | [d1, d2] => { results := [.lit (.bool false)], args := [d1, d2] }
  | _ => none }
def SuperReadsWrongFalsely : Prop := superReadsRow.holds Tryd.pinned (OpenSpec.ofChange superReadsWrong)

/-- 'taprootlaw05.SuperLasts': WHATEVER THE INPUT: true; the input reads as it did. -/
def superLastsSpec : ChangeSpec := { name := "superLasts", fn := fun _ => fun
  | [d1, d2, d3] => { results := [.lit (.bool true)], args := [d1, d2, d3] }
  | _ => none }
def superLastsRow : OpenClaim := { program := "ytpgkplknfhdmgaadoor", sum := "cb65d520946e56e238122c592097d813b28809e7d834566b5f074c079530250f", func := "taproot/taprootlaw05.SuperLasts", spec := "superLasts", named := ["taproot/crc.rests"], apart := false, laid := [("taproot/crc.rests", laid_taproot_crc_rests)] }
def SuperLastsSaid : Prop := superLastsRow.holds Tryd.pinned (OpenSpec.ofChange superLastsSpec)

/-- ITS FALSE NEIGHBOUR: 'it returns false'. Refute it at one input. -/
def superLastsWrong : ChangeSpec := { name := "superLasts", fn := fun _ => fun
  | [d1, d2, d3] => { results := [.lit (.bool false)], args := [d1, d2, d3] }
  | _ => none }
def SuperLastsWrongFalsely : Prop := superLastsRow.holds Tryd.pinned (OpenSpec.ofChange superLastsWrong)

/- THE SECOND FORM. 'bulk': how many values and letters a reading holds, each counted each time it is reached (what is shared counts as often as it is met; a slice's spare places count too). A statement '..UptoSaid' is the law's where the arguments, and the package variables that the reading takes, are together of bulk at most 1048576: NARROWER than '..Said'. Prove '..Said' where nothing that the law and all that it calls make is longer than what came in: it says more and counts as full. Else prove '..UptoSaid'. A law counts once. -/
mutual
def uptoBulk {H : Type} : DataW H → Nat
  | .lit (.string bytes) => bytes.length + 1
  | .lit _ => 1
  | .nil => 1
  | .ptr d => uptoBulk d + 1
  | .slice elems spare => uptoBulkAll elems + uptoBulkAll spare + 1
  | .agg parts => uptoBulkAll parts + 1
  | .iface _ d => uptoBulk d + 1
  | .map entries => uptoBulkEntries entries + 1
  | .held _ => 1
def uptoBulkAll {H : Type} : List (DataW H) → Nat
  | [] => 0
  | d :: r => uptoBulk d + uptoBulkAll r
def uptoBulkEntries {H : Type} : List (Lit × DataW H) → Nat
  | [] => 0
  | x :: r => uptoBulkEntry x + uptoBulkEntries r
def uptoBulkEntry {H : Type} : Lit × DataW H → Nat
  | (.string bytes, d) => bytes.length + uptoBulk d + 1
  | (_, d) => uptoBulk d + 1
 end
def uptoSmall : (H : Type) → List (DataW H) → Bool := fun _ ds => decide (uptoBulkAll ds ≤ 1048576)
def OpenSpec.upto (s : _root_.Go.ChangeSpec) : _root_.Go.OpenSpec := { _root_.Go.OpenSpec.ofChange s with cond := some uptoSmall }

/-- 'taprootlaw05.SuperCodes', WHERE WHAT IT READS IS OF BULK AT MOST 1048576: true; the input reads as it did. -/
def superCodesUptoRow : OpenClaim := { program := "ytpgkplknfhdmgaadoor", sum := "cb65d520946e56e238122c592097d813b28809e7d834566b5f074c079530250f", func := "taproot/taprootlaw05.SuperCodes", spec := "superCodes", named := ["taproot/crc.rests"], apart := false, laid := [("taproot/crc.rests", laid_taproot_crc_rests)], narrowed := true }
def SuperCodesUptoSaid : Prop := superCodesUptoRow.holds Tryd.pinned (OpenSpec.upto superCodesSpec)

/-- 'taprootlaw05.SuperReads', WHERE WHAT IT READS IS OF BULK AT MOST 1048576: true; the input reads as it did. -/
def superReadsUptoRow : OpenClaim := { program := "ytpgkplknfhdmgaadoor", sum := "cb65d520946e56e238122c592097d813b28809e7d834566b5f074c079530250f", func := "taproot/taprootlaw05.SuperReads", spec := "superReads", named := ["taproot/crc.rests"], apart := false, laid := [("taproot/crc.rests", laid_taproot_crc_rests)], narrowed := true }
def SuperReadsUptoSaid : Prop := superReadsUptoRow.holds Tryd.pinned (OpenSpec.upto superReadsSpec)

/-- 'taprootlaw05.SuperLasts', WHERE WHAT IT READS IS OF BULK AT MOST 1048576: true; the input reads as it did. -/
def superLastsUptoRow : OpenClaim := { program := "ytpgkplknfhdmgaadoor", sum := "cb65d520946e56e238122c592097d813b28809e7d834566b5f074c079530250f", func := "taproot/taprootlaw05.SuperLasts", spec := "superLasts", named := ["taproot/crc.rests"], apart := false, laid := [("taproot/crc.rests", laid_taproot_crc_rests)], narrowed := true }
def SuperLastsUptoSaid : Prop := superLastsUptoRow.holds Tryd.pinned (OpenSpec.upto superLastsSpec)

end Rows
end Go.Proofs.YtpgkplknfhdmgaaDoor
