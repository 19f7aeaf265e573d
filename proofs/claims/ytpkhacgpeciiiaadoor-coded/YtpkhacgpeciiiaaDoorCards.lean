/-
  DERIVED. GIVEN WITH THE SEED: THE CARDS: each row of YtpkhacgpeciiiaaDoorRows.lean that lists a variable, with what it lists TIED to the program's text (the seventh form; the later family's looks); each row that meets fmt, with fmt's text TOLD by the authors' own Lean function (tested against real Go, not proved from fmt's source: count such statements apart). THE CARD IS WHAT COUNTS. Prove the row's statement (the work); the ties are given (YtpkhacgpeciiiaaDoorTie.lean); close each card by the builder's one call (the guide's Derived/Test/ToyasCard.lean, 'card_holds'). Laid BY PROGRAM, IN A SANDBOX (cutbox-door.mjs). By AI agents, Wed Nov 11 2026. No macro, syntax, notation, axiom, sorry.
-/
import Derived.Test.YtpkhacgpeciiiaaDoorRows
import GoSem.ClaimSeven
namespace Go.Proofs.YtpkhacgpeciiiaaDoor
namespace Rows

/-- THE TIED CARD OF 'auditbookkeep.Coded'. -/
def codedCard : Claim7 := { stood := { row := codedRow, standIns := [], harness := (true, "42ee63eb4a5c0ea92d47955eaf3be22ea6e4672f805f863c116ee915227fd096"), looks := true }, kinds := [], alts := [], laidByText := true, laidKinds := [.handle, .data], laidTests := true, laidLooks := .later }
def CodedCardSaid : Prop := Claim7.holds Tryd.pinned (.plain (OpenSpec.ofChange codedSpec)) codedCard

/-- THE SECOND FORM's CARD OF 'auditbookkeep.Coded'. -/
def codedUptoCard : Claim7 := { stood := { row := codedUptoRow, standIns := [], harness := (true, "42ee63eb4a5c0ea92d47955eaf3be22ea6e4672f805f863c116ee915227fd096"), looks := true }, kinds := [], alts := [], laidByText := true, laidKinds := [.handle, .data], laidTests := true, laidLooks := .later }
def CodedUptoCardSaid : Prop := Claim7.holds Tryd.pinned (.plain (OpenSpec.upto codedSpec)) codedUptoCard
end Rows
end Go.Proofs.YtpkhacgpeciiiaaDoor
