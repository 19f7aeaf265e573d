/-
  DERIVED. GIVEN WITH THE SEED: THE CARDS: each row of YtijdnpoenpjnlaaGreatDoorRows.lean that lists a variable, with what it lists TIED to the program's text (the seventh form; the later family's looks); each row that meets fmt, with fmt's text TOLD by the authors' own Lean function (tested against real Go, not proved from fmt's source: count such statements apart). THE CARD IS WHAT COUNTS. Prove the row's statement (the work); the ties are given (YtijdnpoenpjnlaaGreatDoorTie.lean); close each card by the builder's one call (the guide's Derived/Test/ToyasCard.lean, 'card_holds'). Laid BY PROGRAM, IN A SANDBOX (cutbox-door.mjs). By AI agents, Wed Nov 11 2026. No macro, syntax, notation, axiom, sorry.
-/
import Derived.Test.YtijdnpoenpjnlaaGreatDoorRows
import GoSem.ClaimSeven
namespace Go.Proofs.YtijdnpoenpjnlaaGreatDoor
namespace Rows

/-- THE TIED CARD OF 'auditbooklaw.Sums'. -/
def sumsCard : Claim7 := { stood := { row := sumsRow, standIns := [], harness := (true, "d91dbb0f3fb211d99b42c720b2a702feedef7062680c93d57b7c9c2f2a8d3f22"), looks := true }, kinds := [], alts := [], laidByText := true, laidKinds := [.handle, .data], laidTests := true, laidLooks := .later }
def SumsCardSaid : Prop := Claim7.holds Tryz.pinned (.plain (OpenSpec.ofChange sumsSpec)) sumsCard

/-- THE TIED CARD OF 'auditbooklaw.Trees'. -/
def treesCard : Claim7 := { stood := { row := treesRow, standIns := [], harness := (true, "d91dbb0f3fb211d99b42c720b2a702feedef7062680c93d57b7c9c2f2a8d3f22"), looks := true }, kinds := [], alts := [], laidByText := true, laidKinds := [.handle, .data], laidTests := true, laidLooks := .later }
def TreesCardSaid : Prop := Claim7.holds Tryz.pinned (.plain (OpenSpec.ofChange treesSpec)) treesCard

/-- THE TIED CARD OF 'auditbooklaw.Proofs'. -/
def proofsCard : Claim7 := { stood := { row := proofsRow, standIns := [], harness := (true, "d91dbb0f3fb211d99b42c720b2a702feedef7062680c93d57b7c9c2f2a8d3f22"), looks := true }, kinds := [], alts := [], laidByText := true, laidKinds := [.handle, .data], laidTests := true, laidLooks := .later }
def ProofsCardSaid : Prop := Claim7.holds Tryz.pinned (.plain (OpenSpec.ofChange proofsSpec)) proofsCard

/-- THE TIED CARD OF 'auditbooklaw.Signs'. -/
def signsCard : Claim7 := { stood := { row := signsRow, standIns := [], harness := (true, "d91dbb0f3fb211d99b42c720b2a702feedef7062680c93d57b7c9c2f2a8d3f22"), looks := true }, kinds := [], alts := [], laidByText := true, laidKinds := [.handle, .data], laidTests := true, laidLooks := .later }
def SignsCardSaid : Prop := Claim7.holds Tryz.pinned (.plain (OpenSpec.ofChange signsSpec)) signsCard

/-- THE TIED CARD OF 'auditbooklaw.Requests'. -/
def requestsCard : Claim7 := { stood := { row := requestsRow, standIns := [], harness := (true, "d91dbb0f3fb211d99b42c720b2a702feedef7062680c93d57b7c9c2f2a8d3f22"), looks := true }, kinds := [], alts := [], laidByText := true, laidKinds := [.handle, .data], laidTests := true, laidLooks := .later }
def RequestsCardSaid : Prop := Claim7.holds Tryz.pinned (.plain (OpenSpec.ofChange requestsSpec)) requestsCard

/-- THE TIED CARD OF 'auditbooklaw.Recovers'. -/
def recoversCard : Claim7 := { stood := { row := recoversRow, standIns := [], harness := (true, "d91dbb0f3fb211d99b42c720b2a702feedef7062680c93d57b7c9c2f2a8d3f22"), looks := true }, kinds := [], alts := [], laidByText := true, laidKinds := [.handle, .data], laidTests := true, laidLooks := .later }
def RecoversCardSaid : Prop := Claim7.holds Tryz.pinned (.plain (OpenSpec.ofChange recoversSpec)) recoversCard

/-- THE TIED CARD OF 'auditbooklaw.Chains'. -/
def chainsCard : Claim7 := { stood := { row := chainsRow, standIns := [], harness := (true, "d91dbb0f3fb211d99b42c720b2a702feedef7062680c93d57b7c9c2f2a8d3f22"), looks := true }, kinds := [], alts := [], laidByText := true, laidKinds := [.handle, .data], laidTests := true, laidLooks := .later }
def ChainsCardSaid : Prop := Claim7.holds Tryz.pinned (.plain (OpenSpec.ofChange chainsSpec)) chainsCard

/-- THE TIED CARD OF 'auditbooklaw.Crashes'. -/
def crashesCard : Claim7 := { stood := { row := crashesRow, standIns := [], harness := (true, "d91dbb0f3fb211d99b42c720b2a702feedef7062680c93d57b7c9c2f2a8d3f22"), looks := true }, kinds := [], alts := [], laidByText := true, laidKinds := [.handle, .data], laidTests := true, laidLooks := .later }
def CrashesCardSaid : Prop := Claim7.holds Tryz.pinned (.plain (OpenSpec.ofChange crashesSpec)) crashesCard

/-- THE TIED CARD OF 'auditbooklaw.Audits'. -/
def auditsCard : Claim7 := { stood := { row := auditsRow, standIns := [], harness := (true, "d91dbb0f3fb211d99b42c720b2a702feedef7062680c93d57b7c9c2f2a8d3f22"), looks := true }, kinds := [], alts := [], laidByText := true, laidKinds := [.handle, .data], laidTests := true, laidLooks := .later }
def AuditsCardSaid : Prop := Claim7.holds Tryz.pinned (.plain (OpenSpec.ofChange auditsSpec)) auditsCard

/-- THE TIED CARD OF 'auditbooklaw.All'. -/
def allCard : Claim7 := { stood := { row := allRow, standIns := [], harness := (true, "d91dbb0f3fb211d99b42c720b2a702feedef7062680c93d57b7c9c2f2a8d3f22"), looks := true }, kinds := [], alts := [], laidByText := true, laidKinds := [.handle, .data], laidTests := true, laidLooks := .later }
def AllCardSaid : Prop := Claim7.holds Tryz.pinned (.plain (OpenSpec.ofChange allSpec)) allCard

/-- THE SECOND FORM's CARD OF 'auditbooklaw.Sums'. -/
def sumsUptoCard : Claim7 := { stood := { row := sumsUptoRow, standIns := [], harness := (true, "d91dbb0f3fb211d99b42c720b2a702feedef7062680c93d57b7c9c2f2a8d3f22"), looks := true }, kinds := [], alts := [], laidByText := true, laidKinds := [.handle, .data], laidTests := true, laidLooks := .later }
def SumsUptoCardSaid : Prop := Claim7.holds Tryz.pinned (.plain (OpenSpec.upto sumsSpec)) sumsUptoCard

/-- THE SECOND FORM's CARD OF 'auditbooklaw.Trees'. -/
def treesUptoCard : Claim7 := { stood := { row := treesUptoRow, standIns := [], harness := (true, "d91dbb0f3fb211d99b42c720b2a702feedef7062680c93d57b7c9c2f2a8d3f22"), looks := true }, kinds := [], alts := [], laidByText := true, laidKinds := [.handle, .data], laidTests := true, laidLooks := .later }
def TreesUptoCardSaid : Prop := Claim7.holds Tryz.pinned (.plain (OpenSpec.upto treesSpec)) treesUptoCard

/-- THE SECOND FORM's CARD OF 'auditbooklaw.Proofs'. -/
def proofsUptoCard : Claim7 := { stood := { row := proofsUptoRow, standIns := [], harness := (true, "d91dbb0f3fb211d99b42c720b2a702feedef7062680c93d57b7c9c2f2a8d3f22"), looks := true }, kinds := [], alts := [], laidByText := true, laidKinds := [.handle, .data], laidTests := true, laidLooks := .later }
def ProofsUptoCardSaid : Prop := Claim7.holds Tryz.pinned (.plain (OpenSpec.upto proofsSpec)) proofsUptoCard

/-- THE SECOND FORM's CARD OF 'auditbooklaw.Signs'. -/
def signsUptoCard : Claim7 := { stood := { row := signsUptoRow, standIns := [], harness := (true, "d91dbb0f3fb211d99b42c720b2a702feedef7062680c93d57b7c9c2f2a8d3f22"), looks := true }, kinds := [], alts := [], laidByText := true, laidKinds := [.handle, .data], laidTests := true, laidLooks := .later }
def SignsUptoCardSaid : Prop := Claim7.holds Tryz.pinned (.plain (OpenSpec.upto signsSpec)) signsUptoCard

/-- THE SECOND FORM's CARD OF 'auditbooklaw.Requests'. -/
def requestsUptoCard : Claim7 := { stood := { row := requestsUptoRow, standIns := [], harness := (true, "d91dbb0f3fb211d99b42c720b2a702feedef7062680c93d57b7c9c2f2a8d3f22"), looks := true }, kinds := [], alts := [], laidByText := true, laidKinds := [.handle, .data], laidTests := true, laidLooks := .later }
def RequestsUptoCardSaid : Prop := Claim7.holds Tryz.pinned (.plain (OpenSpec.upto requestsSpec)) requestsUptoCard

/-- THE SECOND FORM's CARD OF 'auditbooklaw.Recovers'. -/
def recoversUptoCard : Claim7 := { stood := { row := recoversUptoRow, standIns := [], harness := (true, "d91dbb0f3fb211d99b42c720b2a702feedef7062680c93d57b7c9c2f2a8d3f22"), looks := true }, kinds := [], alts := [], laidByText := true, laidKinds := [.handle, .data], laidTests := true, laidLooks := .later }
def RecoversUptoCardSaid : Prop := Claim7.holds Tryz.pinned (.plain (OpenSpec.upto recoversSpec)) recoversUptoCard

/-- THE SECOND FORM's CARD OF 'auditbooklaw.Chains'. -/
def chainsUptoCard : Claim7 := { stood := { row := chainsUptoRow, standIns := [], harness := (true, "d91dbb0f3fb211d99b42c720b2a702feedef7062680c93d57b7c9c2f2a8d3f22"), looks := true }, kinds := [], alts := [], laidByText := true, laidKinds := [.handle, .data], laidTests := true, laidLooks := .later }
def ChainsUptoCardSaid : Prop := Claim7.holds Tryz.pinned (.plain (OpenSpec.upto chainsSpec)) chainsUptoCard

/-- THE SECOND FORM's CARD OF 'auditbooklaw.Crashes'. -/
def crashesUptoCard : Claim7 := { stood := { row := crashesUptoRow, standIns := [], harness := (true, "d91dbb0f3fb211d99b42c720b2a702feedef7062680c93d57b7c9c2f2a8d3f22"), looks := true }, kinds := [], alts := [], laidByText := true, laidKinds := [.handle, .data], laidTests := true, laidLooks := .later }
def CrashesUptoCardSaid : Prop := Claim7.holds Tryz.pinned (.plain (OpenSpec.upto crashesSpec)) crashesUptoCard

/-- THE SECOND FORM's CARD OF 'auditbooklaw.Audits'. -/
def auditsUptoCard : Claim7 := { stood := { row := auditsUptoRow, standIns := [], harness := (true, "d91dbb0f3fb211d99b42c720b2a702feedef7062680c93d57b7c9c2f2a8d3f22"), looks := true }, kinds := [], alts := [], laidByText := true, laidKinds := [.handle, .data], laidTests := true, laidLooks := .later }
def AuditsUptoCardSaid : Prop := Claim7.holds Tryz.pinned (.plain (OpenSpec.upto auditsSpec)) auditsUptoCard

/-- THE SECOND FORM's CARD OF 'auditbooklaw.All'. -/
def allUptoCard : Claim7 := { stood := { row := allUptoRow, standIns := [], harness := (true, "d91dbb0f3fb211d99b42c720b2a702feedef7062680c93d57b7c9c2f2a8d3f22"), looks := true }, kinds := [], alts := [], laidByText := true, laidKinds := [.handle, .data], laidTests := true, laidLooks := .later }
def AllUptoCardSaid : Prop := Claim7.holds Tryz.pinned (.plain (OpenSpec.upto allSpec)) allUptoCard
end Rows
end Go.Proofs.YtijdnpoenpjnlaaGreatDoor
