/-
  DERIVED. GIVEN WITH THE SEED: THE CARDS: each row of YtaigocnnmjjhgaaDoorRows.lean that lists a variable, with what it lists TIED to the program's text (the seventh form; the later family's looks); each row that meets fmt, with fmt's text TOLD by the authors' own Lean function (tested against real Go, not proved from fmt's source: count such statements apart). THE CARD IS WHAT COUNTS. Prove the row's statement (the work); the ties are given (YtaigocnnmjjhgaaDoorTie.lean); close each card by the builder's one call (the guide's Derived/Test/ToyasCard.lean, 'card_holds'). Laid BY PROGRAM, IN A SANDBOX (cutbox-door.mjs). By AI agents, Wed Nov 11 2026. No macro, syntax, notation, axiom, sorry.
-/
import Derived.Test.YtaigocnnmjjhgaaDoorRows
import GoSem.ClaimSeven
namespace Go.Proofs.YtaigocnnmjjhgaaDoor
namespace Rows

/-- THE TIED CARD OF 'taprootlaw10.BlocksReads'. -/
def blocksReadsCard : Claim7 := { stood := { row := blocksReadsRow, standIns := [], harness := (true, "d3cfdd85f51c49ad8a6ea43e215cb0f63a940d16e6722b99657d57ea13d77464"), looks := false }, kinds := [], alts := [], laidByText := true, laidKinds := [.data], laidTests := true, laidLooks := .later }
def BlocksReadsCardSaid : Prop := Claim7.holds Tryd.pinned (.plain (OpenSpec.ofChange blocksReadsSpec)) blocksReadsCard

/-- THE TIED CARD OF 'taprootlaw10.BlocksLast'. -/
def blocksLastCard : Claim7 := { stood := { row := blocksLastRow, standIns := [], harness := (true, "d3cfdd85f51c49ad8a6ea43e215cb0f63a940d16e6722b99657d57ea13d77464"), looks := false }, kinds := [], alts := [], laidByText := true, laidKinds := [.data], laidTests := true, laidLooks := .later }
def BlocksLastCardSaid : Prop := Claim7.holds Tryd.pinned (.plain (OpenSpec.ofChange blocksLastSpec)) blocksLastCard

/-- THE SECOND FORM's CARD OF 'taprootlaw10.BlocksReads'. -/
def blocksReadsUptoCard : Claim7 := { stood := { row := blocksReadsUptoRow, standIns := [], harness := (true, "d3cfdd85f51c49ad8a6ea43e215cb0f63a940d16e6722b99657d57ea13d77464"), looks := false }, kinds := [], alts := [], laidByText := true, laidKinds := [.data], laidTests := true, laidLooks := .later }
def BlocksReadsUptoCardSaid : Prop := Claim7.holds Tryd.pinned (.plain (OpenSpec.upto blocksReadsSpec)) blocksReadsUptoCard

/-- THE SECOND FORM's CARD OF 'taprootlaw10.BlocksLast'. -/
def blocksLastUptoCard : Claim7 := { stood := { row := blocksLastUptoRow, standIns := [], harness := (true, "d3cfdd85f51c49ad8a6ea43e215cb0f63a940d16e6722b99657d57ea13d77464"), looks := false }, kinds := [], alts := [], laidByText := true, laidKinds := [.data], laidTests := true, laidLooks := .later }
def BlocksLastUptoCardSaid : Prop := Claim7.holds Tryd.pinned (.plain (OpenSpec.upto blocksLastSpec)) blocksLastUptoCard
end Rows
end Go.Proofs.YtaigocnnmjjhgaaDoor
