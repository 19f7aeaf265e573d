/-
  DERIVED. GIVEN WITH THE SEED: THE CARDS: each row of YteebdadnfaekmaaDoorRows.lean that lists a variable, with what it lists TIED to the program's text (the seventh form; the later family's looks); each row that meets fmt, with fmt's text TOLD by the authors' own Lean function (tested against real Go, not proved from fmt's source: count such statements apart). THE CARD IS WHAT COUNTS. Prove the row's statement (the work); the ties are given (YteebdadnfaekmaaDoorTie.lean); close each card by the builder's one call (the guide's Derived/Test/ToyasCard.lean, 'card_holds'). Laid BY PROGRAM, IN A SANDBOX (cutbox-door.mjs). By AI agents, Wed Nov 11 2026. No macro, syntax, notation, axiom, sorry.
-/
import Derived.Test.YteebdadnfaekmaaDoorRows
import GoSem.ClaimSeven
namespace Go.Proofs.YteebdadnfaekmaaDoor
namespace Rows

/-- THE TIED CARD OF 'auditbookkeep.Coded'. -/
def codedCard : Claim7 := { stood := { row := codedRow, standIns := [], harness := (true, "1b68f15ea610b4a8b63d96c46771b3263d27b73f6afc372749995274c44db8d3"), looks := true }, kinds := [], alts := [], laidByText := true, laidKinds := [.handle, .data], laidTests := true, laidLooks := .later }
def CodedCardSaid : Prop := Claim7.holds Tryd.pinned (.plain (OpenSpec.ofChange codedSpec)) codedCard

/-- THE TIED CARD OF 'auditbookkeep.Included'. -/
def includedCard : Claim7 := { stood := { row := includedRow, standIns := [], harness := (true, "1b68f15ea610b4a8b63d96c46771b3263d27b73f6afc372749995274c44db8d3"), looks := true }, kinds := [], alts := [], laidByText := true, laidKinds := [.data], laidTests := true, laidLooks := .later }
def IncludedCardSaid : Prop := Claim7.holds Tryd.pinned (.plain (OpenSpec.ofChange includedSpec)) includedCard

/-- THE TIED CARD OF 'auditbookkeep.Grows'. -/
def growsCard : Claim7 := { stood := { row := growsRow, standIns := [], harness := (true, "1b68f15ea610b4a8b63d96c46771b3263d27b73f6afc372749995274c44db8d3"), looks := true }, kinds := [], alts := [], laidByText := true, laidKinds := [.data], laidTests := true, laidLooks := .later }
def GrowsCardSaid : Prop := Claim7.holds Tryd.pinned (.plain (OpenSpec.ofChange growsSpec)) growsCard

/-- THE TIED CARD OF 'auditbookkeep.Signed'. -/
def signedCard : Claim7 := { stood := { row := signedRow, standIns := [], harness := (true, "1b68f15ea610b4a8b63d96c46771b3263d27b73f6afc372749995274c44db8d3"), looks := true }, kinds := [], alts := [], laidByText := true, laidKinds := [.handle, .data], laidTests := true, laidLooks := .later }
def SignedCardSaid : Prop := Claim7.holds Tryd.pinned (.plain (OpenSpec.ofChange signedSpec)) signedCard

/-- THE SECOND FORM's CARD OF 'auditbookkeep.Coded'. -/
def codedUptoCard : Claim7 := { stood := { row := codedUptoRow, standIns := [], harness := (true, "1b68f15ea610b4a8b63d96c46771b3263d27b73f6afc372749995274c44db8d3"), looks := true }, kinds := [], alts := [], laidByText := true, laidKinds := [.handle, .data], laidTests := true, laidLooks := .later }
def CodedUptoCardSaid : Prop := Claim7.holds Tryd.pinned (.plain (OpenSpec.upto codedSpec)) codedUptoCard

/-- THE SECOND FORM's CARD OF 'auditbookkeep.Included'. -/
def includedUptoCard : Claim7 := { stood := { row := includedUptoRow, standIns := [], harness := (true, "1b68f15ea610b4a8b63d96c46771b3263d27b73f6afc372749995274c44db8d3"), looks := true }, kinds := [], alts := [], laidByText := true, laidKinds := [.data], laidTests := true, laidLooks := .later }
def IncludedUptoCardSaid : Prop := Claim7.holds Tryd.pinned (.plain (OpenSpec.upto includedSpec)) includedUptoCard

/-- THE SECOND FORM's CARD OF 'auditbookkeep.Grows'. -/
def growsUptoCard : Claim7 := { stood := { row := growsUptoRow, standIns := [], harness := (true, "1b68f15ea610b4a8b63d96c46771b3263d27b73f6afc372749995274c44db8d3"), looks := true }, kinds := [], alts := [], laidByText := true, laidKinds := [.data], laidTests := true, laidLooks := .later }
def GrowsUptoCardSaid : Prop := Claim7.holds Tryd.pinned (.plain (OpenSpec.upto growsSpec)) growsUptoCard

/-- THE SECOND FORM's CARD OF 'auditbookkeep.Signed'. -/
def signedUptoCard : Claim7 := { stood := { row := signedUptoRow, standIns := [], harness := (true, "1b68f15ea610b4a8b63d96c46771b3263d27b73f6afc372749995274c44db8d3"), looks := true }, kinds := [], alts := [], laidByText := true, laidKinds := [.handle, .data], laidTests := true, laidLooks := .later }
def SignedUptoCardSaid : Prop := Claim7.holds Tryd.pinned (.plain (OpenSpec.upto signedSpec)) signedUptoCard
end Rows
end Go.Proofs.YteebdadnfaekmaaDoor
