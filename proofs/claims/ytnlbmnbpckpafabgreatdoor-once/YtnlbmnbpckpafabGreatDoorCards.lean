/-
  DERIVED. GIVEN WITH THE SEED: THE CARDS: each row of YtnlbmnbpckpafabGreatDoorRows.lean that lists a variable, with what it lists TIED to the program's text (the seventh form; the later family's looks); each row that meets fmt, with fmt's text TOLD by the authors' own Lean function (tested against real Go, not proved from fmt's source: count such statements apart). THE CARD IS WHAT COUNTS. Prove the row's statement (the work); the ties are given (YtnlbmnbpckpafabGreatDoorTie.lean); close each card by the builder's one call (the guide's Derived/Test/ToyasCard.lean, 'card_holds'). Laid BY PROGRAM, IN A SANDBOX (cutbox-door.mjs). By AI agents, Wed Nov 11 2026. No macro, syntax, notation, axiom, sorry.
-/
import Derived.Test.YtnlbmnbpckpafabGreatDoorRows
import GoSem.ClaimSeven
namespace Go.Proofs.YtnlbmnbpckpafabGreatDoor
namespace Rows

/-- THE TIED CARD OF 'auditbookkeep.Once'. -/
def onceCard : Claim7 := { stood := { row := onceRow, standIns := [], harness := (true, "75b41e1d0762fb418c5bf3d85c419830ede9e7012ae9f955f3d3e85d8458719d"), looks := true }, kinds := [], alts := [], laidByText := true, laidKinds := [.handle, .data], laidTests := true, laidLooks := .later }
def OnceCardSaid : Prop := Claim7.holds Tryz.pinned (.plain (OpenSpec.ofChange onceSpec)) onceCard

/-- THE TIED CARD OF 'auditbookkeep.Kept'. -/
def keptCard : Claim7 := { stood := { row := keptRow, standIns := [], harness := (true, "75b41e1d0762fb418c5bf3d85c419830ede9e7012ae9f955f3d3e85d8458719d"), looks := true }, kinds := [], alts := [], laidByText := true, laidKinds := [.data], laidTests := true, laidLooks := .later }
def KeptCardSaid : Prop := Claim7.holds Tryz.pinned (.plain (OpenSpec.ofChange keptSpec)) keptCard

/-- THE TIED CARD OF 'auditbookkeep.Prefix'. -/
def prefixCard : Claim7 := { stood := { row := prefixRow, standIns := [], harness := (true, "75b41e1d0762fb418c5bf3d85c419830ede9e7012ae9f955f3d3e85d8458719d"), looks := true }, kinds := [], alts := [], laidByText := true, laidKinds := [.data], laidTests := true, laidLooks := .later }
def PrefixCardSaid : Prop := Claim7.holds Tryz.pinned (.plain (OpenSpec.ofChange prefixSpec)) prefixCard

/-- THE TIED CARD OF 'auditbookkeep.Restarts'. -/
def restartsCard : Claim7 := { stood := { row := restartsRow, standIns := [], harness := (true, "75b41e1d0762fb418c5bf3d85c419830ede9e7012ae9f955f3d3e85d8458719d"), looks := true }, kinds := [], alts := [], laidByText := true, laidKinds := [.data], laidTests := true, laidLooks := .later }
def RestartsCardSaid : Prop := Claim7.holds Tryz.pinned (.plain (OpenSpec.ofChange restartsSpec)) restartsCard

/-- THE SECOND FORM's CARD OF 'auditbookkeep.Once'. -/
def onceUptoCard : Claim7 := { stood := { row := onceUptoRow, standIns := [], harness := (true, "75b41e1d0762fb418c5bf3d85c419830ede9e7012ae9f955f3d3e85d8458719d"), looks := true }, kinds := [], alts := [], laidByText := true, laidKinds := [.handle, .data], laidTests := true, laidLooks := .later }
def OnceUptoCardSaid : Prop := Claim7.holds Tryz.pinned (.plain (OpenSpec.upto onceSpec)) onceUptoCard

/-- THE SECOND FORM's CARD OF 'auditbookkeep.Kept'. -/
def keptUptoCard : Claim7 := { stood := { row := keptUptoRow, standIns := [], harness := (true, "75b41e1d0762fb418c5bf3d85c419830ede9e7012ae9f955f3d3e85d8458719d"), looks := true }, kinds := [], alts := [], laidByText := true, laidKinds := [.data], laidTests := true, laidLooks := .later }
def KeptUptoCardSaid : Prop := Claim7.holds Tryz.pinned (.plain (OpenSpec.upto keptSpec)) keptUptoCard

/-- THE SECOND FORM's CARD OF 'auditbookkeep.Prefix'. -/
def prefixUptoCard : Claim7 := { stood := { row := prefixUptoRow, standIns := [], harness := (true, "75b41e1d0762fb418c5bf3d85c419830ede9e7012ae9f955f3d3e85d8458719d"), looks := true }, kinds := [], alts := [], laidByText := true, laidKinds := [.data], laidTests := true, laidLooks := .later }
def PrefixUptoCardSaid : Prop := Claim7.holds Tryz.pinned (.plain (OpenSpec.upto prefixSpec)) prefixUptoCard

/-- THE SECOND FORM's CARD OF 'auditbookkeep.Restarts'. -/
def restartsUptoCard : Claim7 := { stood := { row := restartsUptoRow, standIns := [], harness := (true, "75b41e1d0762fb418c5bf3d85c419830ede9e7012ae9f955f3d3e85d8458719d"), looks := true }, kinds := [], alts := [], laidByText := true, laidKinds := [.data], laidTests := true, laidLooks := .later }
def RestartsUptoCardSaid : Prop := Claim7.holds Tryz.pinned (.plain (OpenSpec.upto restartsSpec)) restartsUptoCard
end Rows
end Go.Proofs.YtnlbmnbpckpafabGreatDoor
