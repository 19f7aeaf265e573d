/-
  DERIVED. GIVEN WITH THE SEED: THE CARDS: each row of YtemjmlogcamndaaDoorRows.lean that lists a variable, with what it lists TIED to the program's text (the seventh form; the later family's looks); each row that meets fmt, with fmt's text TOLD by the authors' own Lean function (tested against real Go, not proved from fmt's source: count such statements apart). THE CARD IS WHAT COUNTS. Prove the row's statement (the work); the ties are given (YtemjmlogcamndaaDoorTie.lean); close each card by the builder's one call (the guide's Derived/Test/ToyasCard.lean, 'card_holds'). Laid BY PROGRAM, IN A SANDBOX (cutbox-door.mjs). By AI agents, Wed Nov 11 2026. No macro, syntax, notation, axiom, sorry.
-/
import Derived.Test.YtemjmlogcamndaaDoorRows
import GoSem.ClaimSeven
namespace Go.Proofs.YtemjmlogcamndaaDoor
namespace Rows

/-- THE TIED CARD OF 'auditbookkeep.Coded'. -/
def codedCard : Claim7 := { stood := { row := codedRow, standIns := [], harness := (true, "5f4db686e88196f5468f60b91cb18c63abbd49b17e61563f5471fc19c61cf178"), looks := true }, kinds := [], alts := [], laidByText := true, laidKinds := [.handle, .data], laidTests := true, laidLooks := .later }
def CodedCardSaid : Prop := Claim7.holds Tryd.pinned (.plain (OpenSpec.ofChange codedSpec)) codedCard

/-- THE TIED CARD OF 'auditbookkeep.Included'. -/
def includedCard : Claim7 := { stood := { row := includedRow, standIns := [], harness := (true, "5f4db686e88196f5468f60b91cb18c63abbd49b17e61563f5471fc19c61cf178"), looks := true }, kinds := [], alts := [], laidByText := true, laidKinds := [.data], laidTests := true, laidLooks := .later }
def IncludedCardSaid : Prop := Claim7.holds Tryd.pinned (.plain (OpenSpec.ofChange includedSpec)) includedCard

/-- THE SECOND FORM's CARD OF 'auditbookkeep.Coded'. -/
def codedUptoCard : Claim7 := { stood := { row := codedUptoRow, standIns := [], harness := (true, "5f4db686e88196f5468f60b91cb18c63abbd49b17e61563f5471fc19c61cf178"), looks := true }, kinds := [], alts := [], laidByText := true, laidKinds := [.handle, .data], laidTests := true, laidLooks := .later }
def CodedUptoCardSaid : Prop := Claim7.holds Tryd.pinned (.plain (OpenSpec.upto codedSpec)) codedUptoCard

/-- THE SECOND FORM's CARD OF 'auditbookkeep.Included'. -/
def includedUptoCard : Claim7 := { stood := { row := includedUptoRow, standIns := [], harness := (true, "5f4db686e88196f5468f60b91cb18c63abbd49b17e61563f5471fc19c61cf178"), looks := true }, kinds := [], alts := [], laidByText := true, laidKinds := [.data], laidTests := true, laidLooks := .later }
def IncludedUptoCardSaid : Prop := Claim7.holds Tryd.pinned (.plain (OpenSpec.upto includedSpec)) includedUptoCard
end Rows
end Go.Proofs.YtemjmlogcamndaaDoor
