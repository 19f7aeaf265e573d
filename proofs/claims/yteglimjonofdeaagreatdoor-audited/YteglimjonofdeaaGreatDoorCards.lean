/-
  DERIVED. GIVEN WITH THE SEED: THE CARDS: each row of YteglimjonofdeaaGreatDoorRows.lean that lists a variable, with what it lists TIED to the program's text (the seventh form; the later family's looks); each row that meets fmt, with fmt's text TOLD by the authors' own Lean function (tested against real Go, not proved from fmt's source: count such statements apart). THE CARD IS WHAT COUNTS. Prove the row's statement (the work); the ties are given (YteglimjonofdeaaGreatDoorTie.lean); close each card by the builder's one call (the guide's Derived/Test/ToyasCard.lean, 'card_holds'). Laid BY PROGRAM, IN A SANDBOX (cutbox-door.mjs). By AI agents, Wed Nov 11 2026. No macro, syntax, notation, axiom, sorry.
-/
import Derived.Test.YteglimjonofdeaaGreatDoorRows
import GoSem.ClaimSeven
namespace Go.Proofs.YteglimjonofdeaaGreatDoor
namespace Rows

/-- THE TIED CARD OF 'auditbookkeep.Once'. -/
def onceCard : Claim7 := { stood := { row := onceRow, standIns := [], harness := (true, "a4ce83e06206024dd22ecb2340a60b0c7a9599adf4316314aec788ed53613a56"), looks := true }, kinds := [], alts := [], laidByText := true, laidKinds := [.handle, .data], laidTests := true, laidLooks := .later }
def OnceCardSaid : Prop := Claim7.holds Tryz.pinned (.plain (OpenSpec.ofChange onceSpec)) onceCard

/-- THE TIED CARD OF 'auditbookkeep.Prefix'. -/
def prefixCard : Claim7 := { stood := { row := prefixRow, standIns := [], harness := (true, "a4ce83e06206024dd22ecb2340a60b0c7a9599adf4316314aec788ed53613a56"), looks := true }, kinds := [], alts := [], laidByText := true, laidKinds := [.data], laidTests := true, laidLooks := .later }
def PrefixCardSaid : Prop := Claim7.holds Tryz.pinned (.plain (OpenSpec.ofChange prefixSpec)) prefixCard

/-- THE TIED CARD OF 'auditbookkeep.Audited'. -/
def auditedCard : Claim7 := { stood := { row := auditedRow, standIns := [], harness := (true, "a4ce83e06206024dd22ecb2340a60b0c7a9599adf4316314aec788ed53613a56"), looks := true }, kinds := [], alts := [], laidByText := true, laidKinds := [.handle, .data], laidTests := true, laidLooks := .later }
def AuditedCardSaid : Prop := Claim7.holds Tryz.pinned (.plain (OpenSpec.ofChange auditedSpec)) auditedCard

/-- THE SECOND FORM's CARD OF 'auditbookkeep.Once'. -/
def onceUptoCard : Claim7 := { stood := { row := onceUptoRow, standIns := [], harness := (true, "a4ce83e06206024dd22ecb2340a60b0c7a9599adf4316314aec788ed53613a56"), looks := true }, kinds := [], alts := [], laidByText := true, laidKinds := [.handle, .data], laidTests := true, laidLooks := .later }
def OnceUptoCardSaid : Prop := Claim7.holds Tryz.pinned (.plain (OpenSpec.upto onceSpec)) onceUptoCard

/-- THE SECOND FORM's CARD OF 'auditbookkeep.Prefix'. -/
def prefixUptoCard : Claim7 := { stood := { row := prefixUptoRow, standIns := [], harness := (true, "a4ce83e06206024dd22ecb2340a60b0c7a9599adf4316314aec788ed53613a56"), looks := true }, kinds := [], alts := [], laidByText := true, laidKinds := [.data], laidTests := true, laidLooks := .later }
def PrefixUptoCardSaid : Prop := Claim7.holds Tryz.pinned (.plain (OpenSpec.upto prefixSpec)) prefixUptoCard

/-- THE SECOND FORM's CARD OF 'auditbookkeep.Audited'. -/
def auditedUptoCard : Claim7 := { stood := { row := auditedUptoRow, standIns := [], harness := (true, "a4ce83e06206024dd22ecb2340a60b0c7a9599adf4316314aec788ed53613a56"), looks := true }, kinds := [], alts := [], laidByText := true, laidKinds := [.handle, .data], laidTests := true, laidLooks := .later }
def AuditedUptoCardSaid : Prop := Claim7.holds Tryz.pinned (.plain (OpenSpec.upto auditedSpec)) auditedUptoCard
end Rows
end Go.Proofs.YteglimjonofdeaaGreatDoor
