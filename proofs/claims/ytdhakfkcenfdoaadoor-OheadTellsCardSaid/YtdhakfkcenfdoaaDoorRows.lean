/-
  NARROWER THAN 'FOR EVERY INPUT', by the rows' own cells (each row's printed sentence says how): OheadCodes: laid · OheadTells: laid · OheadBack: laid.
  DERIVED. THE GIVEN ROWS OF THIS SEAT. 3 by the template 'for every input the law returns true; each argument reads behind the call as it read before'; 0 by the template 'total and deterministic' (their statements: YtdhakfkcenfdoaaDoorTotals.lean).
  GIVEN WITH THE SEED: the statements are not yours to turn. If you find one false, say at which input.
  Laid BY PROGRAM, IN A SANDBOX (cutbox-rows.mjs): the forced cells as the released guide's own fill.sh prints them over the translation 21c7260dc7f28d03… (all of the seat's roots in one cut). By AI agents, Wed Nov 11 2026. No macro, syntax, notation, axiom, sorry.
-/
import Derived.Test.YtdhakfkcenfdoaaDoorChecked
import GoSem.Claim
import GoSem.ClaimJoined
import GoSem.ClaimMapViews
import Derived.JoinedTies
import Derived.KernelRfl
namespace Go.Proofs.YtdhakfkcenfdoaaDoor
/- THE CELL 'sum', in the pinned program and in every row, IS THE sha256 OF THE DUMP (.gsa) THAT YtdhakfkcenfdoaaDoorProg.lean LOADS. Nothing in Lean hashes anything: it is a label: what it is worth is what the hold of that sum in a sandbox is worth. -/
noncomputable def Tryd.pinned : Pinned := { name := "ytdhakfkcenfdoaadoor", sum := "21c7260dc7f28d0327f7fb2ab22941ccea4aba1452959b0a47b0ac856fe86d00", checked := Tryd.checked }
namespace Rows
def none {H : Type} : Left H := { results := [], args := [] }

/- WHAT THE LISTED PACKAGE-LEVEL VARIABLES READ AS WHEN THE CALL BEGINS. Each datum BY PROGRAM (the guide's laid-datum.mjs) off the statement by which the dump's own 'gosem.cut.vars' lays the variable. In a bare row this is a premise. The card (YtdhakfkcenfdoaaDoorCards.lean) ties it to the program's text. -/
def laid_taproot_crc_rests {H : Type} : DataW H := .agg [.lit (.int .u32 0), .lit (.int .u32 498536548), .lit (.int .u32 997073096), .lit (.int .u32 651767980), .lit (.int .u32 1994146192), .lit (.int .u32 1802195444), .lit (.int .u32 1303535960), .lit (.int .u32 1342533948), .lit (.int .u32 3988292384), .lit (.int .u32 4027552580), .lit (.int .u32 3604390888), .lit (.int .u32 3412177804), .lit (.int .u32 2607071920), .lit (.int .u32 2262029012), .lit (.int .u32 2685067896), .lit (.int .u32 3183342108)]
def laid_taproot_class_cell {H : Type} : DataW H := .agg [.lit (.int .i64 2), .lit (.int .i64 3), .lit (.int .i64 4), .lit (.int .i64 5), .lit (.int .i64 6), .lit (.int .i64 7), .lit (.int .i64 8), .lit (.int .i64 10), .lit (.int .i64 12), .lit (.int .i64 14), .lit (.int .i64 16), .lit (.int .i64 18), .lit (.int .i64 20), .lit (.int .i64 24), .lit (.int .i64 28), .lit (.int .i64 32), .lit (.int .i64 36), .lit (.int .i64 40), .lit (.int .i64 46), .lit (.int .i64 51), .lit (.int .i64 56), .lit (.int .i64 64), .lit (.int .i64 73), .lit (.int .i64 85), .lit (.int .i64 92), .lit (.int .i64 102), .lit (.int .i64 113), .lit (.int .i64 128), .lit (.int .i64 146), .lit (.int .i64 170), .lit (.int .i64 204), .lit (.int .i64 256)]

/-- 'taprootlaw08.OheadCodes': WHATEVER THE INPUT: true; the input reads as it did. -/
def oheadCodesSpec : ChangeSpec := { name := "oheadCodes", fn := fun _ => fun
  | [d1, d2, d3] => { results := [.lit (.bool true)], args := [d1, d2, d3] }
  | _ => none }
def oheadCodesRow : OpenClaim := { program := "ytdhakfkcenfdoaadoor", sum := "21c7260dc7f28d0327f7fb2ab22941ccea4aba1452959b0a47b0ac856fe86d00", func := "taproot/taprootlaw08.OheadCodes", spec := "oheadCodes", unfollowed := true, recurses := true, named := ["taproot/crc.rests"], apart := false, laid := [("taproot/crc.rests", laid_taproot_crc_rests)] }
def OheadCodesSaid : Prop := oheadCodesRow.holds Tryd.pinned (OpenSpec.ofChange oheadCodesSpec)

/-- ITS FALSE NEIGHBOUR: 'it returns false'. Refute it at one input. -/
def oheadCodesWrong : ChangeSpec := { name := "oheadCodes", fn := fun _ => fun
  | [d1, d2, d3] => { results := [.lit (.bool false)], args := [d1, d2, d3] }
  | _ => none }
def OheadCodesWrongFalsely : Prop := oheadCodesRow.holds Tryd.pinned (OpenSpec.ofChange oheadCodesWrong)

/-- 'taprootlaw08.OheadTells': WHATEVER THE INPUT: true; the input reads as it did. -/
def oheadTellsSpec : ChangeSpec := { name := "oheadTells", fn := fun _ => fun
  | [d1, d2] => { results := [.lit (.bool true)], args := [d1, d2] }
  | _ => none }
def oheadTellsRow : OpenClaim := { program := "ytdhakfkcenfdoaadoor", sum := "21c7260dc7f28d0327f7fb2ab22941ccea4aba1452959b0a47b0ac856fe86d00", func := "taproot/taprootlaw08.OheadTells", spec := "oheadTells", named := ["taproot/class.cell"], apart := false, laid := [("taproot/class.cell", laid_taproot_class_cell)] }
def OheadTellsSaid : Prop := oheadTellsRow.holds Tryd.pinned (OpenSpec.ofChange oheadTellsSpec)

/-- ITS FALSE NEIGHBOUR: 'it returns false'. Refute it at one input. -/
def oheadTellsWrong : ChangeSpec := { name := "oheadTells", fn := fun _ => fun
  | [d1, d2] => { results := [.lit (.bool false)], args := [d1, d2] }
  | _ => none }
def OheadTellsWrongFalsely : Prop := oheadTellsRow.holds Tryd.pinned (OpenSpec.ofChange oheadTellsWrong)

/-- 'taprootlaw08.OheadBack': WHATEVER THE INPUT: true; the input reads as it did. -/
def oheadBackSpec : ChangeSpec := { name := "oheadBack", fn := fun _ => fun
  | [d1, d2] => { results := [.lit (.bool true)], args := [d1, d2] }
  | _ => none }
def oheadBackRow : OpenClaim := { program := "ytdhakfkcenfdoaadoor", sum := "21c7260dc7f28d0327f7fb2ab22941ccea4aba1452959b0a47b0ac856fe86d00", func := "taproot/taprootlaw08.OheadBack", spec := "oheadBack", unfollowed := true, recurses := true, named := ["taproot/crc.rests"], apart := false, laid := [("taproot/crc.rests", laid_taproot_crc_rests)] }
def OheadBackSaid : Prop := oheadBackRow.holds Tryd.pinned (OpenSpec.ofChange oheadBackSpec)

/-- ITS FALSE NEIGHBOUR: 'it returns false'. Refute it at one input. -/
def oheadBackWrong : ChangeSpec := { name := "oheadBack", fn := fun _ => fun
  | [d1, d2] => { results := [.lit (.bool false)], args := [d1, d2] }
  | _ => none }
def OheadBackWrongFalsely : Prop := oheadBackRow.holds Tryd.pinned (OpenSpec.ofChange oheadBackWrong)

/- THE SECOND FORM. 'bulk': how many values and letters a reading holds, each counted each time it is reached (what is shared counts as often as it is met; a slice's spare places count too). A statement '..UptoSaid' is the law's where the arguments, and the package variables that the reading takes, are together of bulk at most 1048576: NARROWER than '..Said'. Prove '..Said' where nothing that the law and all that it calls make is longer than what came in: it says more and counts as full. Else prove '..UptoSaid'. A law counts once. -/
mutual
def uptoBulk {H : Type} : DataW H → Nat
  | .lit (.string bytes) => bytes.length + 1
  | .lit _ => 1
  | .nil => 1
  | .ptr d => uptoBulk d + 1
  | .slice elems spare => uptoBulkAll elems + uptoBulkAll spare + 1
  | .agg parts => uptoBulkAll parts + 1
  | .iface _ d => uptoBulk d + 1
  | .map entries => uptoBulkEntries entries + 1
  | .held _ => 1
def uptoBulkAll {H : Type} : List (DataW H) → Nat
  | [] => 0
  | d :: r => uptoBulk d + uptoBulkAll r
def uptoBulkEntries {H : Type} : List (Lit × DataW H) → Nat
  | [] => 0
  | x :: r => uptoBulkEntry x + uptoBulkEntries r
def uptoBulkEntry {H : Type} : Lit × DataW H → Nat
  | (.string bytes, d) => bytes.length + uptoBulk d + 1
  | (_, d) => uptoBulk d + 1
 end
def uptoSmall : (H : Type) → List (DataW H) → Bool := fun _ ds => decide (uptoBulkAll ds ≤ 1048576)
def OpenSpec.upto (s : _root_.Go.ChangeSpec) : _root_.Go.OpenSpec := { _root_.Go.OpenSpec.ofChange s with cond := some uptoSmall }

/-- 'taprootlaw08.OheadCodes', WHERE WHAT IT READS IS OF BULK AT MOST 1048576: true; the input reads as it did. -/
def oheadCodesUptoRow : OpenClaim := { program := "ytdhakfkcenfdoaadoor", sum := "21c7260dc7f28d0327f7fb2ab22941ccea4aba1452959b0a47b0ac856fe86d00", func := "taproot/taprootlaw08.OheadCodes", spec := "oheadCodes", unfollowed := true, recurses := true, named := ["taproot/crc.rests"], apart := false, laid := [("taproot/crc.rests", laid_taproot_crc_rests)], narrowed := true }
def OheadCodesUptoSaid : Prop := oheadCodesUptoRow.holds Tryd.pinned (OpenSpec.upto oheadCodesSpec)

/-- 'taprootlaw08.OheadTells', WHERE WHAT IT READS IS OF BULK AT MOST 1048576: true; the input reads as it did. -/
def oheadTellsUptoRow : OpenClaim := { program := "ytdhakfkcenfdoaadoor", sum := "21c7260dc7f28d0327f7fb2ab22941ccea4aba1452959b0a47b0ac856fe86d00", func := "taproot/taprootlaw08.OheadTells", spec := "oheadTells", named := ["taproot/class.cell"], apart := false, laid := [("taproot/class.cell", laid_taproot_class_cell)], narrowed := true }
def OheadTellsUptoSaid : Prop := oheadTellsUptoRow.holds Tryd.pinned (OpenSpec.upto oheadTellsSpec)

/-- 'taprootlaw08.OheadBack', WHERE WHAT IT READS IS OF BULK AT MOST 1048576: true; the input reads as it did. -/
def oheadBackUptoRow : OpenClaim := { program := "ytdhakfkcenfdoaadoor", sum := "21c7260dc7f28d0327f7fb2ab22941ccea4aba1452959b0a47b0ac856fe86d00", func := "taproot/taprootlaw08.OheadBack", spec := "oheadBack", unfollowed := true, recurses := true, named := ["taproot/crc.rests"], apart := false, laid := [("taproot/crc.rests", laid_taproot_crc_rests)], narrowed := true }
def OheadBackUptoSaid : Prop := oheadBackUptoRow.holds Tryd.pinned (OpenSpec.upto oheadBackSpec)

end Rows
end Go.Proofs.YtdhakfkcenfdoaaDoor
