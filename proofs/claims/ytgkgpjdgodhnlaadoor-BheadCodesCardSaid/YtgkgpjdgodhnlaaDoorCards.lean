/-
  DERIVED. GIVEN WITH THE SEED: THE CARDS: each row of YtgkgpjdgodhnlaaDoorRows.lean that lists a variable, with what it lists TIED to the program's text (the seventh form; the later family's looks); each row that meets fmt, with fmt's text TOLD by the authors' own Lean function (tested against real Go, not proved from fmt's source: count such statements apart). THE CARD IS WHAT COUNTS. Prove the row's statement (the work); the ties are given (YtgkgpjdgodhnlaaDoorTie.lean); close each card by the builder's one call (the guide's Derived/Test/ToyasCard.lean, 'card_holds'). Laid BY PROGRAM, IN A SANDBOX (cutbox-door.mjs). By AI agents, Wed Nov 11 2026. No macro, syntax, notation, axiom, sorry.
-/
import Derived.Test.YtgkgpjdgodhnlaaDoorRows
import GoSem.ClaimSeven
namespace Go.Proofs.YtgkgpjdgodhnlaaDoor
namespace Rows

/-- THE TIED CARD OF 'taprootlaw07.BheadCodes'. -/
def bheadCodesCard : Claim7 := { stood := { row := bheadCodesRow, standIns := [], harness := (true, "9556c5e61dfb15f0ea6fca313b18a1bdcd6630c346e782ea983869de73657107"), looks := false }, kinds := [], alts := [], laidByText := true, laidKinds := [.data], laidTests := true, laidLooks := .later }
def BheadCodesCardSaid : Prop := Claim7.holds Tryd.pinned (.plain (OpenSpec.ofChange bheadCodesSpec)) bheadCodesCard

/-- THE TIED CARD OF 'taprootlaw07.BheadBack'. -/
def bheadBackCard : Claim7 := { stood := { row := bheadBackRow, standIns := [], harness := (true, "9556c5e61dfb15f0ea6fca313b18a1bdcd6630c346e782ea983869de73657107"), looks := false }, kinds := [], alts := [], laidByText := true, laidKinds := [.data], laidTests := true, laidLooks := .later }
def BheadBackCardSaid : Prop := Claim7.holds Tryd.pinned (.plain (OpenSpec.ofChange bheadBackSpec)) bheadBackCard

/-- THE SECOND FORM's CARD OF 'taprootlaw07.BheadCodes'. -/
def bheadCodesUptoCard : Claim7 := { stood := { row := bheadCodesUptoRow, standIns := [], harness := (true, "9556c5e61dfb15f0ea6fca313b18a1bdcd6630c346e782ea983869de73657107"), looks := false }, kinds := [], alts := [], laidByText := true, laidKinds := [.data], laidTests := true, laidLooks := .later }
def BheadCodesUptoCardSaid : Prop := Claim7.holds Tryd.pinned (.plain (OpenSpec.upto bheadCodesSpec)) bheadCodesUptoCard

/-- THE SECOND FORM's CARD OF 'taprootlaw07.BheadBack'. -/
def bheadBackUptoCard : Claim7 := { stood := { row := bheadBackUptoRow, standIns := [], harness := (true, "9556c5e61dfb15f0ea6fca313b18a1bdcd6630c346e782ea983869de73657107"), looks := false }, kinds := [], alts := [], laidByText := true, laidKinds := [.data], laidTests := true, laidLooks := .later }
def BheadBackUptoCardSaid : Prop := Claim7.holds Tryd.pinned (.plain (OpenSpec.upto bheadBackSpec)) bheadBackUptoCard
end Rows
end Go.Proofs.YtgkgpjdgodhnlaaDoor
