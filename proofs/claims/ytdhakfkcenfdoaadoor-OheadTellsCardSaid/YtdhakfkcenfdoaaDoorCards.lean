/-
  DERIVED. GIVEN WITH THE SEED: THE CARDS: each row of YtdhakfkcenfdoaaDoorRows.lean that lists a variable, with what it lists TIED to the program's text (the seventh form; the later family's looks); each row that meets fmt, with fmt's text TOLD by the authors' own Lean function (tested against real Go, not proved from fmt's source: count such statements apart). THE CARD IS WHAT COUNTS. Prove the row's statement (the work); the ties are given (YtdhakfkcenfdoaaDoorTie.lean); close each card by the builder's one call (the guide's Derived/Test/ToyasCard.lean, 'card_holds'). Laid BY PROGRAM, IN A SANDBOX (cutbox-door.mjs). By AI agents, Wed Nov 11 2026. No macro, syntax, notation, axiom, sorry.
-/
import Derived.Test.YtdhakfkcenfdoaaDoorRows
import GoSem.ClaimSeven
namespace Go.Proofs.YtdhakfkcenfdoaaDoor
namespace Rows

/-- THE TIED CARD OF 'taprootlaw08.OheadCodes'. -/
def oheadCodesCard : Claim7 := { stood := { row := oheadCodesRow, standIns := [], harness := (true, "4598fa9a556cc7c097bab56157ca7b3672a6f2d491f426dabe2bb58d1c883e9f"), looks := false }, kinds := [], alts := [], laidByText := true, laidKinds := [.data], laidTests := true, laidLooks := .later }
def OheadCodesCardSaid : Prop := Claim7.holds Tryd.pinned (.plain (OpenSpec.ofChange oheadCodesSpec)) oheadCodesCard

/-- THE TIED CARD OF 'taprootlaw08.OheadTells'. -/
def oheadTellsCard : Claim7 := { stood := { row := oheadTellsRow, standIns := [], harness := (true, "4598fa9a556cc7c097bab56157ca7b3672a6f2d491f426dabe2bb58d1c883e9f"), looks := false }, kinds := [], alts := [], laidByText := true, laidKinds := [.data], laidTests := true, laidLooks := .later }
def OheadTellsCardSaid : Prop := Claim7.holds Tryd.pinned (.plain (OpenSpec.ofChange oheadTellsSpec)) oheadTellsCard

/-- THE TIED CARD OF 'taprootlaw08.OheadBack'. -/
def oheadBackCard : Claim7 := { stood := { row := oheadBackRow, standIns := [], harness := (true, "4598fa9a556cc7c097bab56157ca7b3672a6f2d491f426dabe2bb58d1c883e9f"), looks := false }, kinds := [], alts := [], laidByText := true, laidKinds := [.data], laidTests := true, laidLooks := .later }
def OheadBackCardSaid : Prop := Claim7.holds Tryd.pinned (.plain (OpenSpec.ofChange oheadBackSpec)) oheadBackCard

/-- THE SECOND FORM's CARD OF 'taprootlaw08.OheadCodes'. -/
def oheadCodesUptoCard : Claim7 := { stood := { row := oheadCodesUptoRow, standIns := [], harness := (true, "4598fa9a556cc7c097bab56157ca7b3672a6f2d491f426dabe2bb58d1c883e9f"), looks := false }, kinds := [], alts := [], laidByText := true, laidKinds := [.data], laidTests := true, laidLooks := .later }
def OheadCodesUptoCardSaid : Prop := Claim7.holds Tryd.pinned (.plain (OpenSpec.upto oheadCodesSpec)) oheadCodesUptoCard

/-- THE SECOND FORM's CARD OF 'taprootlaw08.OheadTells'. -/
def oheadTellsUptoCard : Claim7 := { stood := { row := oheadTellsUptoRow, standIns := [], harness := (true, "4598fa9a556cc7c097bab56157ca7b3672a6f2d491f426dabe2bb58d1c883e9f"), looks := false }, kinds := [], alts := [], laidByText := true, laidKinds := [.data], laidTests := true, laidLooks := .later }
def OheadTellsUptoCardSaid : Prop := Claim7.holds Tryd.pinned (.plain (OpenSpec.upto oheadTellsSpec)) oheadTellsUptoCard

/-- THE SECOND FORM's CARD OF 'taprootlaw08.OheadBack'. -/
def oheadBackUptoCard : Claim7 := { stood := { row := oheadBackUptoRow, standIns := [], harness := (true, "4598fa9a556cc7c097bab56157ca7b3672a6f2d491f426dabe2bb58d1c883e9f"), looks := false }, kinds := [], alts := [], laidByText := true, laidKinds := [.data], laidTests := true, laidLooks := .later }
def OheadBackUptoCardSaid : Prop := Claim7.holds Tryd.pinned (.plain (OpenSpec.upto oheadBackSpec)) oheadBackUptoCard
end Rows
end Go.Proofs.YtdhakfkcenfdoaaDoor
