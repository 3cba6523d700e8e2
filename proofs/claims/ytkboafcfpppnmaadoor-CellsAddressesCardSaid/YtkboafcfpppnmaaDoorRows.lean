/-
  NARROWER THAN 'FOR EVERY INPUT', by the rows' own cells (each row's printed sentence says how): CellsAddresses: laid · CellsAll: laid · CellsLines: laid · CellsApart: laid.
  DERIVED. THE GIVEN ROWS OF THIS SEAT. 4 by the template 'for every input the law returns true; each argument reads behind the call as it read before'; 0 by the template 'total and deterministic' (their statements: YtkboafcfpppnmaaDoorTotals.lean).
  GIVEN WITH THE SEED: the statements are not yours to turn. If you find one false, say at which input.
  Laid BY PROGRAM, IN A SANDBOX (cutbox-rows.mjs): the forced cells as the released guide's own fill.sh prints them over the translation ccb124086801bad5… (all of the seat's roots in one cut). By AI agents, Wed Nov 11 2026. No macro, syntax, notation, axiom, sorry.
-/
import Derived.Test.YtkboafcfpppnmaaDoorChecked
import GoSem.Claim
import GoSem.ClaimJoined
import GoSem.ClaimMapViews
import Derived.JoinedTies
import Derived.KernelRfl
namespace Go.Proofs.YtkboafcfpppnmaaDoor
/- THE CELL 'sum', in the pinned program and in every row, IS THE sha256 OF THE DUMP (.gsa) THAT YtkboafcfpppnmaaDoorProg.lean LOADS. Nothing in Lean hashes anything: it is a label: what it is worth is what the hold of that sum in a sandbox is worth. -/
noncomputable def Tryd.pinned : Pinned := { name := "ytkboafcfpppnmaadoor", sum := "ccb124086801bad54ffc26454d2dc32e562a11ff77c9450a0b22f6121a8f9102", checked := Tryd.checked }
namespace Rows
def none {H : Type} : Left H := { results := [], args := [] }

/- WHAT THE LISTED PACKAGE-LEVEL VARIABLES READ AS WHEN THE CALL BEGINS. Each datum BY PROGRAM (the guide's laid-datum.mjs) off the statement by which the dump's own 'gosem.cut.vars' lays the variable. In a bare row this is a premise. The card (YtkboafcfpppnmaaDoorCards.lean) ties it to the program's text. -/
def laid_taproot_class_cell {H : Type} : DataW H := .agg [.lit (.int .i64 2), .lit (.int .i64 3), .lit (.int .i64 4), .lit (.int .i64 5), .lit (.int .i64 6), .lit (.int .i64 7), .lit (.int .i64 8), .lit (.int .i64 10), .lit (.int .i64 12), .lit (.int .i64 14), .lit (.int .i64 16), .lit (.int .i64 18), .lit (.int .i64 20), .lit (.int .i64 24), .lit (.int .i64 28), .lit (.int .i64 32), .lit (.int .i64 36), .lit (.int .i64 40), .lit (.int .i64 46), .lit (.int .i64 51), .lit (.int .i64 56), .lit (.int .i64 64), .lit (.int .i64 73), .lit (.int .i64 85), .lit (.int .i64 92), .lit (.int .i64 102), .lit (.int .i64 113), .lit (.int .i64 128), .lit (.int .i64 146), .lit (.int .i64 170), .lit (.int .i64 204), .lit (.int .i64 256)]

/-- 'taprootlaw09.CellsAddresses': WHATEVER THE INPUT: true; the input reads as it did. -/
def cellsAddressesSpec : ChangeSpec := { name := "cellsAddresses", fn := fun _ => fun
  | [d1, d2, d3] => { results := [.lit (.bool true)], args := [d1, d2, d3] }
  | _ => none }
def cellsAddressesRow : OpenClaim := { program := "ytkboafcfpppnmaadoor", sum := "ccb124086801bad54ffc26454d2dc32e562a11ff77c9450a0b22f6121a8f9102", func := "taproot/taprootlaw09.CellsAddresses", spec := "cellsAddresses", named := ["taproot/class.cell"], apart := false, laid := [("taproot/class.cell", laid_taproot_class_cell)] }
def CellsAddressesSaid : Prop := cellsAddressesRow.holds Tryd.pinned (OpenSpec.ofChange cellsAddressesSpec)

/-- ITS FALSE NEIGHBOUR: 'it returns false'. Refute it at one input. -/
def cellsAddressesWrong : ChangeSpec := { name := "cellsAddresses", fn := fun _ => fun
  | [d1, d2, d3] => { results := [.lit (.bool false)], args := [d1, d2, d3] }
  | _ => none }
def CellsAddressesWrongFalsely : Prop := cellsAddressesRow.holds Tryd.pinned (OpenSpec.ofChange cellsAddressesWrong)

/-- 'taprootlaw09.CellsAll': WHATEVER THE INPUT: true; the input reads as it did. -/
def cellsAllSpec : ChangeSpec := { name := "cellsAll", fn := fun _ => fun
  | [d1, d2, d3] => { results := [.lit (.bool true)], args := [d1, d2, d3] }
  | _ => none }
def cellsAllRow : OpenClaim := { program := "ytkboafcfpppnmaadoor", sum := "ccb124086801bad54ffc26454d2dc32e562a11ff77c9450a0b22f6121a8f9102", func := "taproot/taprootlaw09.CellsAll", spec := "cellsAll", unfollowed := true, recurses := true, named := ["taproot/class.cell"], apart := false, laid := [("taproot/class.cell", laid_taproot_class_cell)] }
def CellsAllSaid : Prop := cellsAllRow.holds Tryd.pinned (OpenSpec.ofChange cellsAllSpec)

/-- ITS FALSE NEIGHBOUR: 'it returns false'. Refute it at one input. -/
def cellsAllWrong : ChangeSpec := { name := "cellsAll", fn := fun _ => fun
  | [d1, d2, d3] => { results := [.lit (.bool false)], args := [d1, d2, d3] }
  | _ => none }
def CellsAllWrongFalsely : Prop := cellsAllRow.holds Tryd.pinned (OpenSpec.ofChange cellsAllWrong)

/-- 'taprootlaw09.CellsLines': WHATEVER THE INPUT: true; the input reads as it did. -/
def cellsLinesSpec : ChangeSpec := { name := "cellsLines", fn := fun _ => fun
  | [d1, d2] => { results := [.lit (.bool true)], args := [d1, d2] }
  | _ => none }
def cellsLinesRow : OpenClaim := { program := "ytkboafcfpppnmaadoor", sum := "ccb124086801bad54ffc26454d2dc32e562a11ff77c9450a0b22f6121a8f9102", func := "taproot/taprootlaw09.CellsLines", spec := "cellsLines", named := ["taproot/class.cell"], apart := false, laid := [("taproot/class.cell", laid_taproot_class_cell)] }
def CellsLinesSaid : Prop := cellsLinesRow.holds Tryd.pinned (OpenSpec.ofChange cellsLinesSpec)

/-- ITS FALSE NEIGHBOUR: 'it returns false'. Refute it at one input. -/
def cellsLinesWrong : ChangeSpec := { name := "cellsLines", fn := fun _ => fun
  | [d1, d2] => { results := [.lit (.bool false)], args := [d1, d2] }
  | _ => none }
def CellsLinesWrongFalsely : Prop := cellsLinesRow.holds Tryd.pinned (OpenSpec.ofChange cellsLinesWrong)

/-- 'taprootlaw09.CellsApart': WHATEVER THE INPUT: true; the input reads as it did. -/
def cellsApartSpec : ChangeSpec := { name := "cellsApart", fn := fun _ => fun
  | [d1, d2] => { results := [.lit (.bool true)], args := [d1, d2] }
  | _ => none }
def cellsApartRow : OpenClaim := { program := "ytkboafcfpppnmaadoor", sum := "ccb124086801bad54ffc26454d2dc32e562a11ff77c9450a0b22f6121a8f9102", func := "taproot/taprootlaw09.CellsApart", spec := "cellsApart", unfollowed := true, recurses := true, named := ["taproot/class.cell"], apart := false, laid := [("taproot/class.cell", laid_taproot_class_cell)] }
def CellsApartSaid : Prop := cellsApartRow.holds Tryd.pinned (OpenSpec.ofChange cellsApartSpec)

/-- ITS FALSE NEIGHBOUR: 'it returns false'. Refute it at one input. -/
def cellsApartWrong : ChangeSpec := { name := "cellsApart", fn := fun _ => fun
  | [d1, d2] => { results := [.lit (.bool false)], args := [d1, d2] }
  | _ => none }
def CellsApartWrongFalsely : Prop := cellsApartRow.holds Tryd.pinned (OpenSpec.ofChange cellsApartWrong)

/- THE SECOND FORM. 'bulk': how many values and letters a reading holds, each counted each time it is reached (what is shared counts as often as it is met; a slice's spare places count too). A statement '..UptoSaid' is the law's where the arguments, and the package variables that the reading takes, are together of bulk at most 1048576: NARROWER than '..Said'. Prove '..Said' where nothing that the law and all that it calls make is longer than what came in: it says more and counts as full. Else prove '..UptoSaid'. A law counts once. -/
mutual
def uptoBulk {H : Type} : DataW H → Nat
  | .lit (.string bytes) => bytes.length + 1
  | .lit _ => 1
  | .nil => 1
  | .ptr d => uptoBulk d + 1
  | .slice elems spare => uptoBulkAll elems + uptoBulkAll spare + 1
  | .agg parts => uptoBulkAll parts + 1
  | .iface _ d => uptoBulk d + 1
  | .map entries => uptoBulkEntries entries + 1
  | .held _ => 1
def uptoBulkAll {H : Type} : List (DataW H) → Nat
  | [] => 0
  | d :: r => uptoBulk d + uptoBulkAll r
def uptoBulkEntries {H : Type} : List (Lit × DataW H) → Nat
  | [] => 0
  | x :: r => uptoBulkEntry x + uptoBulkEntries r
def uptoBulkEntry {H : Type} : Lit × DataW H → Nat
  | (.string bytes, d) => bytes.length + uptoBulk d + 1
  | (_, d) => uptoBulk d + 1
 end
def uptoSmall : (H : Type) → List (DataW H) → Bool := fun _ ds => decide (uptoBulkAll ds ≤ 1048576)
def OpenSpec.upto (s : _root_.Go.ChangeSpec) : _root_.Go.OpenSpec := { _root_.Go.OpenSpec.ofChange s with cond := some uptoSmall }

/-- 'taprootlaw09.CellsAddresses', WHERE WHAT IT READS IS OF BULK AT MOST 1048576: true; the input reads as it did. -/
def cellsAddressesUptoRow : OpenClaim := { program := "ytkboafcfpppnmaadoor", sum := "ccb124086801bad54ffc26454d2dc32e562a11ff77c9450a0b22f6121a8f9102", func := "taproot/taprootlaw09.CellsAddresses", spec := "cellsAddresses", named := ["taproot/class.cell"], apart := false, laid := [("taproot/class.cell", laid_taproot_class_cell)], narrowed := true }
def CellsAddressesUptoSaid : Prop := cellsAddressesUptoRow.holds Tryd.pinned (OpenSpec.upto cellsAddressesSpec)

/-- 'taprootlaw09.CellsAll', WHERE WHAT IT READS IS OF BULK AT MOST 1048576: true; the input reads as it did. -/
def cellsAllUptoRow : OpenClaim := { program := "ytkboafcfpppnmaadoor", sum := "ccb124086801bad54ffc26454d2dc32e562a11ff77c9450a0b22f6121a8f9102", func := "taproot/taprootlaw09.CellsAll", spec := "cellsAll", unfollowed := true, recurses := true, named := ["taproot/class.cell"], apart := false, laid := [("taproot/class.cell", laid_taproot_class_cell)], narrowed := true }
def CellsAllUptoSaid : Prop := cellsAllUptoRow.holds Tryd.pinned (OpenSpec.upto cellsAllSpec)

/-- 'taprootlaw09.CellsLines', WHERE WHAT IT READS IS OF BULK AT MOST 1048576: true; the input reads as it did. -/
def cellsLinesUptoRow : OpenClaim := { program := "ytkboafcfpppnmaadoor", sum := "ccb124086801bad54ffc26454d2dc32e562a11ff77c9450a0b22f6121a8f9102", func := "taproot/taprootlaw09.CellsLines", spec := "cellsLines", named := ["taproot/class.cell"], apart := false, laid := [("taproot/class.cell", laid_taproot_class_cell)], narrowed := true }
def CellsLinesUptoSaid : Prop := cellsLinesUptoRow.holds Tryd.pinned (OpenSpec.upto cellsLinesSpec)

/-- 'taprootlaw09.CellsApart', WHERE WHAT IT READS IS OF BULK AT MOST 1048576: true; the input reads as it did. -/
def cellsApartUptoRow : OpenClaim := { program := "ytkboafcfpppnmaadoor", sum := "ccb124086801bad54ffc26454d2dc32e562a11ff77c9450a0b22f6121a8f9102", func := "taproot/taprootlaw09.CellsApart", spec := "cellsApart", unfollowed := true, recurses := true, named := ["taproot/class.cell"], apart := false, laid := [("taproot/class.cell", laid_taproot_class_cell)], narrowed := true }
def CellsApartUptoSaid : Prop := cellsApartUptoRow.holds Tryd.pinned (OpenSpec.upto cellsApartSpec)

end Rows
end Go.Proofs.YtkboafcfpppnmaaDoor
