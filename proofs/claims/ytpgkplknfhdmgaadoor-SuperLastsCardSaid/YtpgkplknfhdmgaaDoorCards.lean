/-
  DERIVED. GIVEN WITH THE SEED: THE CARDS: each row of YtpgkplknfhdmgaaDoorRows.lean that lists a variable, with what it lists TIED to the program's text (the seventh form; the later family's looks); each row that meets fmt, with fmt's text TOLD by the authors' own Lean function (tested against real Go, not proved from fmt's source: count such statements apart). THE CARD IS WHAT COUNTS. Prove the row's statement (the work); the ties are given (YtpgkplknfhdmgaaDoorTie.lean); close each card by the builder's one call (the guide's Derived/Test/ToyasCard.lean, 'card_holds'). Laid BY PROGRAM, IN A SANDBOX (cutbox-door.mjs). By AI agents, Wed Nov 11 2026. No macro, syntax, notation, axiom, sorry.
-/
import Derived.Test.YtpgkplknfhdmgaaDoorRows
import GoSem.ClaimSeven
namespace Go.Proofs.YtpgkplknfhdmgaaDoor
namespace Rows

/-- THE TIED CARD OF 'taprootlaw05.SuperCodes'. -/
def superCodesCard : Claim7 := { stood := { row := superCodesRow, standIns := [], harness := (true, "ae08d125fe56a3bd20d4911ba0db814855a7680930a7fc27c55e662b11f0b7c1"), looks := false }, kinds := [], alts := [], laidByText := true, laidKinds := [.data], laidTests := true, laidLooks := .later }
def SuperCodesCardSaid : Prop := Claim7.holds Tryd.pinned (.plain (OpenSpec.ofChange superCodesSpec)) superCodesCard

/-- THE TIED CARD OF 'taprootlaw05.SuperReads'. -/
def superReadsCard : Claim7 := { stood := { row := superReadsRow, standIns := [], harness := (true, "ae08d125fe56a3bd20d4911ba0db814855a7680930a7fc27c55e662b11f0b7c1"), looks := false }, kinds := [], alts := [], laidByText := true, laidKinds := [.data], laidTests := true, laidLooks := .later }
def SuperReadsCardSaid : Prop := Claim7.holds Tryd.pinned (.plain (OpenSpec.ofChange superReadsSpec)) superReadsCard

/-- THE TIED CARD OF 'taprootlaw05.SuperLasts'. -/
def superLastsCard : Claim7 := { stood := { row := superLastsRow, standIns := [], harness := (true, "ae08d125fe56a3bd20d4911ba0db814855a7680930a7fc27c55e662b11f0b7c1"), looks := false }, kinds := [], alts := [], laidByText := true, laidKinds := [.data], laidTests := true, laidLooks := .later }
def SuperLastsCardSaid : Prop := Claim7.holds Tryd.pinned (.plain (OpenSpec.ofChange superLastsSpec)) superLastsCard

/-- THE SECOND FORM's CARD OF 'taprootlaw05.SuperCodes'. -/
def superCodesUptoCard : Claim7 := { stood := { row := superCodesUptoRow, standIns := [], harness := (true, "ae08d125fe56a3bd20d4911ba0db814855a7680930a7fc27c55e662b11f0b7c1"), looks := false }, kinds := [], alts := [], laidByText := true, laidKinds := [.data], laidTests := true, laidLooks := .later }
def SuperCodesUptoCardSaid : Prop := Claim7.holds Tryd.pinned (.plain (OpenSpec.upto superCodesSpec)) superCodesUptoCard

/-- THE SECOND FORM's CARD OF 'taprootlaw05.SuperReads'. -/
def superReadsUptoCard : Claim7 := { stood := { row := superReadsUptoRow, standIns := [], harness := (true, "ae08d125fe56a3bd20d4911ba0db814855a7680930a7fc27c55e662b11f0b7c1"), looks := false }, kinds := [], alts := [], laidByText := true, laidKinds := [.data], laidTests := true, laidLooks := .later }
def SuperReadsUptoCardSaid : Prop := Claim7.holds Tryd.pinned (.plain (OpenSpec.upto superReadsSpec)) superReadsUptoCard

/-- THE SECOND FORM's CARD OF 'taprootlaw05.SuperLasts'. -/
def superLastsUptoCard : Claim7 := { stood := { row := superLastsUptoRow, standIns := [], harness := (true, "ae08d125fe56a3bd20d4911ba0db814855a7680930a7fc27c55e662b11f0b7c1"), looks := false }, kinds := [], alts := [], laidByText := true, laidKinds := [.data], laidTests := true, laidLooks := .later }
def SuperLastsUptoCardSaid : Prop := Claim7.holds Tryd.pinned (.plain (OpenSpec.upto superLastsSpec)) superLastsUptoCard
end Rows
end Go.Proofs.YtpgkplknfhdmgaaDoor
