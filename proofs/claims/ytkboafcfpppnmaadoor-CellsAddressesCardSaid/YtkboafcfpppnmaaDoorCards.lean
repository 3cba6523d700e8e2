/-
  DERIVED. GIVEN WITH THE SEED: THE CARDS: each row of YtkboafcfpppnmaaDoorRows.lean that lists a variable, with what it lists TIED to the program's text (the seventh form; the later family's looks); each row that meets fmt, with fmt's text TOLD by the authors' own Lean function (tested against real Go, not proved from fmt's source: count such statements apart). THE CARD IS WHAT COUNTS. Prove the row's statement (the work); the ties are given (YtkboafcfpppnmaaDoorTie.lean); close each card by the builder's one call (the guide's Derived/Test/ToyasCard.lean, 'card_holds'). Laid BY PROGRAM, IN A SANDBOX (cutbox-door.mjs). By AI agents, Wed Nov 11 2026. No macro, syntax, notation, axiom, sorry.
-/
import Derived.Test.YtkboafcfpppnmaaDoorRows
import GoSem.ClaimSeven
namespace Go.Proofs.YtkboafcfpppnmaaDoor
namespace Rows

/-- THE TIED CARD OF 'taprootlaw09.CellsAddresses'. -/
def cellsAddressesCard : Claim7 := { stood := { row := cellsAddressesRow, standIns := [], harness := (true, "b2a1b5cb8aae3c0c473b38b98d7f92c9c8b7c90bbb3da756a7f3d153ba7789bc"), looks := false }, kinds := [], alts := [], laidByText := true, laidKinds := [.data], laidTests := true, laidLooks := .later }
def CellsAddressesCardSaid : Prop := Claim7.holds Tryd.pinned (.plain (OpenSpec.ofChange cellsAddressesSpec)) cellsAddressesCard

/-- THE TIED CARD OF 'taprootlaw09.CellsAll'. -/
def cellsAllCard : Claim7 := { stood := { row := cellsAllRow, standIns := [], harness := (true, "b2a1b5cb8aae3c0c473b38b98d7f92c9c8b7c90bbb3da756a7f3d153ba7789bc"), looks := false }, kinds := [], alts := [], laidByText := true, laidKinds := [.data], laidTests := true, laidLooks := .later }
def CellsAllCardSaid : Prop := Claim7.holds Tryd.pinned (.plain (OpenSpec.ofChange cellsAllSpec)) cellsAllCard

/-- THE TIED CARD OF 'taprootlaw09.CellsLines'. -/
def cellsLinesCard : Claim7 := { stood := { row := cellsLinesRow, standIns := [], harness := (true, "b2a1b5cb8aae3c0c473b38b98d7f92c9c8b7c90bbb3da756a7f3d153ba7789bc"), looks := false }, kinds := [], alts := [], laidByText := true, laidKinds := [.data], laidTests := true, laidLooks := .later }
def CellsLinesCardSaid : Prop := Claim7.holds Tryd.pinned (.plain (OpenSpec.ofChange cellsLinesSpec)) cellsLinesCard

/-- THE TIED CARD OF 'taprootlaw09.CellsApart'. -/
def cellsApartCard : Claim7 := { stood := { row := cellsApartRow, standIns := [], harness := (true, "b2a1b5cb8aae3c0c473b38b98d7f92c9c8b7c90bbb3da756a7f3d153ba7789bc"), looks := false }, kinds := [], alts := [], laidByText := true, laidKinds := [.data], laidTests := true, laidLooks := .later }
def CellsApartCardSaid : Prop := Claim7.holds Tryd.pinned (.plain (OpenSpec.ofChange cellsApartSpec)) cellsApartCard

/-- THE SECOND FORM's CARD OF 'taprootlaw09.CellsAddresses'. -/
def cellsAddressesUptoCard : Claim7 := { stood := { row := cellsAddressesUptoRow, standIns := [], harness := (true, "b2a1b5cb8aae3c0c473b38b98d7f92c9c8b7c90bbb3da756a7f3d153ba7789bc"), looks := false }, kinds := [], alts := [], laidByText := true, laidKinds := [.data], laidTests := true, laidLooks := .later }
def CellsAddressesUptoCardSaid : Prop := Claim7.holds Tryd.pinned (.plain (OpenSpec.upto cellsAddressesSpec)) cellsAddressesUptoCard

/-- THE SECOND FORM's CARD OF 'taprootlaw09.CellsAll'. -/
def cellsAllUptoCard : Claim7 := { stood := { row := cellsAllUptoRow, standIns := [], harness := (true, "b2a1b5cb8aae3c0c473b38b98d7f92c9c8b7c90bbb3da756a7f3d153ba7789bc"), looks := false }, kinds := [], alts := [], laidByText := true, laidKinds := [.data], laidTests := true, laidLooks := .later }
def CellsAllUptoCardSaid : Prop := Claim7.holds Tryd.pinned (.plain (OpenSpec.upto cellsAllSpec)) cellsAllUptoCard

/-- THE SECOND FORM's CARD OF 'taprootlaw09.CellsLines'. -/
def cellsLinesUptoCard : Claim7 := { stood := { row := cellsLinesUptoRow, standIns := [], harness := (true, "b2a1b5cb8aae3c0c473b38b98d7f92c9c8b7c90bbb3da756a7f3d153ba7789bc"), looks := false }, kinds := [], alts := [], laidByText := true, laidKinds := [.data], laidTests := true, laidLooks := .later }
def CellsLinesUptoCardSaid : Prop := Claim7.holds Tryd.pinned (.plain (OpenSpec.upto cellsLinesSpec)) cellsLinesUptoCard

/-- THE SECOND FORM's CARD OF 'taprootlaw09.CellsApart'. -/
def cellsApartUptoCard : Claim7 := { stood := { row := cellsApartUptoRow, standIns := [], harness := (true, "b2a1b5cb8aae3c0c473b38b98d7f92c9c8b7c90bbb3da756a7f3d153ba7789bc"), looks := false }, kinds := [], alts := [], laidByText := true, laidKinds := [.data], laidTests := true, laidLooks := .later }
def CellsApartUptoCardSaid : Prop := Claim7.holds Tryd.pinned (.plain (OpenSpec.upto cellsApartSpec)) cellsApartUptoCard
end Rows
end Go.Proofs.YtkboafcfpppnmaaDoor
