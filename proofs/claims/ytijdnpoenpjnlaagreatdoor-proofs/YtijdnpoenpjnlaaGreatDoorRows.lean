/-
  NARROWER THAN 'FOR EVERY INPUT', by the rows' own cells (each row's printed sentence says how): Sums: laid · Trees: laid · Proofs: laid · Signs: laid · Requests: laid · Recovers: laid · Chains: laid · Crashes: laid · Audits: laid · All: laid.
  DERIVED. THE GIVEN ROWS OF THIS SEAT. 10 by the template 'for every input the law returns true; each argument reads behind the call as it read before'; 0 by the template 'total and deterministic' (their statements: YtijdnpoenpjnlaaGreatDoorTotals.lean).
  GIVEN WITH THE SEED: the statements are not yours to turn. If you find one false, say at which input.
  Laid BY PROGRAM, IN A SANDBOX (cutbox-rows.mjs): the forced cells as the released guide's own fill.sh prints them over the translation c5bab449179f78fa… (all of the seat's roots in one cut). By AI agents, Wed Nov 11 2026. No macro, syntax, notation, axiom, sorry.
-/
import Derived.Test.YtijdnpoenpjnlaaGreatDoorChecked
import GoSem.Claim
import GoSem.ClaimJoined
import GoSem.ClaimMapViews
import Derived.JoinedTies
import Derived.KernelRfl
namespace Go.Proofs.YtijdnpoenpjnlaaGreatDoor
/- THE CELL 'sum', in the pinned program and in every row, IS THE sha256 OF THE DUMP (.gsa) THAT YtijdnpoenpjnlaaGreatDoorProg.lean LOADS. Nothing in Lean hashes anything: it is a label: what it is worth is what the hold of that sum in a sandbox is worth. -/
noncomputable def Tryz.pinned : Pinned := { name := "ytijdnpoenpjnlaagreatdoor", sum := "c5bab449179f78fa38b5acc894e20b8ec6bd8faaa7777efc28153e769ba86b8b", checked := Tryz.checked }
namespace Rows
def none {H : Type} : Left H := { results := [], args := [] }

/- WHAT THE LISTED PACKAGE-LEVEL VARIABLES READ AS WHEN THE CALL BEGINS. Each datum BY PROGRAM (the guide's laid-datum.mjs) off the statement by which the dump's own 'gosem.cut.vars' lays the variable. In a bare row this is a premise. The card (YtijdnpoenpjnlaaGreatDoorCards.lean) ties it to the program's text. -/
def laid_errors_errorType {H : Type} : DataW H := .iface "internal/reflectlite.rtype" (.agg [.ptr (.lit (.string [101, 114, 114, 111, 114]))])
def laid_auditbook_hash_rounds {H : Type} : DataW H := .agg [.lit (.int .u32 1116352408), .lit (.int .u32 1899447441), .lit (.int .u32 3049323471), .lit (.int .u32 3921009573), .lit (.int .u32 961987163), .lit (.int .u32 1508970993), .lit (.int .u32 2453635748), .lit (.int .u32 2870763221), .lit (.int .u32 3624381080), .lit (.int .u32 310598401), .lit (.int .u32 607225278), .lit (.int .u32 1426881987), .lit (.int .u32 1925078388), .lit (.int .u32 2162078206), .lit (.int .u32 2614888103), .lit (.int .u32 3248222580), .lit (.int .u32 3835390401), .lit (.int .u32 4022224774), .lit (.int .u32 264347078), .lit (.int .u32 604807628), .lit (.int .u32 770255983), .lit (.int .u32 1249150122), .lit (.int .u32 1555081692), .lit (.int .u32 1996064986), .lit (.int .u32 2554220882), .lit (.int .u32 2821834349), .lit (.int .u32 2952996808), .lit (.int .u32 3210313671), .lit (.int .u32 3336571891), .lit (.int .u32 3584528711), .lit (.int .u32 113926993), .lit (.int .u32 338241895), .lit (.int .u32 666307205), .lit (.int .u32 773529912), .lit (.int .u32 1294757372), .lit (.int .u32 1396182291), .lit (.int .u32 1695183700), .lit (.int .u32 1986661051), .lit (.int .u32 2177026350), .lit (.int .u32 2456956037), .lit (.int .u32 2730485921), .lit (.int .u32 2820302411), .lit (.int .u32 3259730800), .lit (.int .u32 3345764771), .lit (.int .u32 3516065817), .lit (.int .u32 3600352804), .lit (.int .u32 4094571909), .lit (.int .u32 275423344), .lit (.int .u32 430227734), .lit (.int .u32 506948616), .lit (.int .u32 659060556), .lit (.int .u32 883997877), .lit (.int .u32 958139571), .lit (.int .u32 1322822218), .lit (.int .u32 1537002063), .lit (.int .u32 1747873779), .lit (.int .u32 1955562222), .lit (.int .u32 2024104815), .lit (.int .u32 2227730452), .lit (.int .u32 2361852424), .lit (.int .u32 2428436474), .lit (.int .u32 2756734187), .lit (.int .u32 3204031479), .lit (.int .u32 3329325298)]

/-- 'auditbooklaw.Sums': WHATEVER THE INPUT: true; the input reads as it did. -/
def sumsSpec : ChangeSpec := { name := "sums", fn := fun _ => fun
  | [d] => { results := [.lit (.bool true)], args := [d] }
  | _ => none }
def sumsRow : OpenClaim := { program := "ytijdnpoenpjnlaagreatdoor", sum := "c5bab449179f78fa38b5acc894e20b8ec6bd8faaa7777efc28153e769ba86b8b", func := "auditbook/auditbooklaw.Sums", spec := "sums", inPlace := ["internal/reflectlite.ValueOf", "(internal/reflectlite.Value).Type", "(internal/reflectlite.Value).IsNil", "internal/reflectlite.TypeOf", "(internal/reflectlite.Value).Elem", "(internal/reflectlite.Value).Set"], unfollowed := true, recurses := true, named := ["auditbook/hash.rounds", "errors.errorType"], apart := false, laid := [("errors.errorType", laid_errors_errorType), ("auditbook/hash.rounds", laid_auditbook_hash_rounds)] }
def SumsSaid : Prop := sumsRow.holds Tryz.pinned (OpenSpec.ofChange sumsSpec)

/-- ITS FALSE NEIGHBOUR: 'it returns false'. Refute it at one input. -/
def sumsWrong : ChangeSpec := { name := "sums", fn := fun _ => fun
  | [d] => { results := [.lit (.bool false)], args := [d] }
  | _ => none }
def SumsWrongFalsely : Prop := sumsRow.holds Tryz.pinned (OpenSpec.ofChange sumsWrong)

/-- 'auditbooklaw.Trees': WHATEVER THE INPUT: true; the input reads as it did. -/
def treesSpec : ChangeSpec := { name := "trees", fn := fun _ => fun
  | [d] => { results := [.lit (.bool true)], args := [d] }
  | _ => none }
def treesRow : OpenClaim := { program := "ytijdnpoenpjnlaagreatdoor", sum := "c5bab449179f78fa38b5acc894e20b8ec6bd8faaa7777efc28153e769ba86b8b", func := "auditbook/auditbooklaw.Trees", spec := "trees", inPlace := ["internal/reflectlite.ValueOf", "(internal/reflectlite.Value).Type", "(internal/reflectlite.Value).IsNil", "internal/reflectlite.TypeOf", "(internal/reflectlite.Value).Elem", "(internal/reflectlite.Value).Set"], unfollowed := true, recurses := true, named := ["auditbook/hash.rounds", "errors.errorType"], apart := false, laid := [("errors.errorType", laid_errors_errorType), ("auditbook/hash.rounds", laid_auditbook_hash_rounds)] }
def TreesSaid : Prop := treesRow.holds Tryz.pinned (OpenSpec.ofChange treesSpec)

/-- ITS FALSE NEIGHBOUR: 'it returns false'. Refute it at one input. -/
def treesWrong : ChangeSpec := { name := "trees", fn := fun _ => fun
  | [d] => { results := [.lit (.bool false)], args := [d] }
  | _ => none }
def TreesWrongFalsely : Prop := treesRow.holds Tryz.pinned (OpenSpec.ofChange treesWrong)

/-- 'auditbooklaw.Proofs': WHATEVER THE INPUT: true; the input reads as it did. -/
def proofsSpec : ChangeSpec := { name := "proofs", fn := fun _ => fun
  | [d] => { results := [.lit (.bool true)], args := [d] }
  | _ => none }
def proofsRow : OpenClaim := { program := "ytijdnpoenpjnlaagreatdoor", sum := "c5bab449179f78fa38b5acc894e20b8ec6bd8faaa7777efc28153e769ba86b8b", func := "auditbook/auditbooklaw.Proofs", spec := "proofs", inPlace := ["internal/reflectlite.ValueOf", "(internal/reflectlite.Value).Type", "(internal/reflectlite.Value).IsNil", "internal/reflectlite.TypeOf", "(internal/reflectlite.Value).Elem", "(internal/reflectlite.Value).Set"], unfollowed := true, recurses := true, named := ["auditbook/hash.rounds", "errors.errorType"], apart := false, laid := [("errors.errorType", laid_errors_errorType), ("auditbook/hash.rounds", laid_auditbook_hash_rounds)] }
def ProofsSaid : Prop := proofsRow.holds Tryz.pinned (OpenSpec.ofChange proofsSpec)

/-- ITS FALSE NEIGHBOUR: 'it returns false'. Refute it at one input. -/
def proofsWrong : ChangeSpec := { name := "proofs", fn := fun _ => fun
  | [d] => { results := [.lit (.bool false)], args := [d] }
  | _ => none }
def ProofsWrongFalsely : Prop := proofsRow.holds Tryz.pinned (OpenSpec.ofChange proofsWrong)

/-- 'auditbooklaw.Signs': WHATEVER THE INPUT: true; the input reads as it did. -/
def signsSpec : ChangeSpec := { name := "signs", fn := fun _ => fun
  | [d] => { results := [.lit (.bool true)], args := [d] }
  | _ => none }
def signsRow : OpenClaim := { program := "ytijdnpoenpjnlaagreatdoor", sum := "c5bab449179f78fa38b5acc894e20b8ec6bd8faaa7777efc28153e769ba86b8b", func := "auditbook/auditbooklaw.Signs", spec := "signs", inPlace := ["internal/reflectlite.ValueOf", "(internal/reflectlite.Value).Type", "(internal/reflectlite.Value).IsNil", "internal/reflectlite.TypeOf", "(internal/reflectlite.Value).Elem", "(internal/reflectlite.Value).Set"], unfollowed := true, recurses := true, named := ["auditbook/hash.rounds", "errors.errorType"], apart := false, laid := [("errors.errorType", laid_errors_errorType), ("auditbook/hash.rounds", laid_auditbook_hash_rounds)] }
def SignsSaid : Prop := signsRow.holds Tryz.pinned (OpenSpec.ofChange signsSpec)

/-- ITS FALSE NEIGHBOUR: 'it returns false'. Refute it at one input. -/
def signsWrong : ChangeSpec := { name := "signs", fn := fun _ => fun
  | [d] => { results := [.lit (.bool false)], args := [d] }
  | _ => none }
def SignsWrongFalsely : Prop := signsRow.holds Tryz.pinned (OpenSpec.ofChange signsWrong)

/-- 'auditbooklaw.Requests': WHATEVER THE INPUT: true; the input reads as it did. -/
def requestsSpec : ChangeSpec := { name := "requests", fn := fun _ => fun
  | [d] => { results := [.lit (.bool true)], args := [d] }
  | _ => none }
def requestsRow : OpenClaim := { program := "ytijdnpoenpjnlaagreatdoor", sum := "c5bab449179f78fa38b5acc894e20b8ec6bd8faaa7777efc28153e769ba86b8b", func := "auditbook/auditbooklaw.Requests", spec := "requests", inPlace := ["internal/reflectlite.ValueOf", "(internal/reflectlite.Value).Type", "(internal/reflectlite.Value).IsNil", "internal/reflectlite.TypeOf", "(internal/reflectlite.Value).Elem", "(internal/reflectlite.Value).Set"], unfollowed := true, recurses := true, named := ["auditbook/hash.rounds", "errors.errorType"], apart := false, laid := [("errors.errorType", laid_errors_errorType), ("auditbook/hash.rounds", laid_auditbook_hash_rounds)] }
def RequestsSaid : Prop := requestsRow.holds Tryz.pinned (OpenSpec.ofChange requestsSpec)

/-- ITS FALSE NEIGHBOUR: 'it returns false'. Refute it at one input. -/
def requestsWrong : ChangeSpec := { name := "requests", fn := fun _ => fun
  | [d] => { results := [.lit (.bool false)], args := [d] }
  | _ => none }
def RequestsWrongFalsely : Prop := requestsRow.holds Tryz.pinned (OpenSpec.ofChange requestsWrong)

/-- 'auditbooklaw.Recovers': WHATEVER THE INPUT: true; the input reads as it did. -/
def recoversSpec : ChangeSpec := { name := "recovers", fn := fun _ => fun
  | [d] => { results := [.lit (.bool true)], args := [d] }
  | _ => none }
def recoversRow : OpenClaim := { program := "ytijdnpoenpjnlaagreatdoor", sum := "c5bab449179f78fa38b5acc894e20b8ec6bd8faaa7777efc28153e769ba86b8b", func := "auditbook/auditbooklaw.Recovers", spec := "recovers", inPlace := ["internal/reflectlite.ValueOf", "(internal/reflectlite.Value).Type", "(internal/reflectlite.Value).IsNil", "internal/reflectlite.TypeOf", "(internal/reflectlite.Value).Elem", "(internal/reflectlite.Value).Set"], unfollowed := true, recurses := true, named := ["auditbook/hash.rounds", "errors.errorType"], apart := false, laid := [("errors.errorType", laid_errors_errorType), ("auditbook/hash.rounds", laid_auditbook_hash_rounds)] }
def RecoversSaid : Prop := recoversRow.holds Tryz.pinned (OpenSpec.ofChange recoversSpec)

/-- ITS FALSE NEIGHBOUR: 'it returns false'. Refute it at one input. -/
def recoversWrong : ChangeSpec := { name := "recovers", fn := fun _ => fun
  | [d] => { results := [.lit (.bool false)], args := [d] }
  | _ => none }
def RecoversWrongFalsely : Prop := recoversRow.holds Tryz.pinned (OpenSpec.ofChange recoversWrong)

/-- 'auditbooklaw.Chains': WHATEVER THE INPUT: true; the input reads as it did. -/
def chainsSpec : ChangeSpec := { name := "chains", fn := fun _ => fun
  | [d] => { results := [.lit (.bool true)], args := [d] }
  | _ => none }
def chainsRow : OpenClaim := { program := "ytijdnpoenpjnlaagreatdoor", sum := "c5bab449179f78fa38b5acc894e20b8ec6bd8faaa7777efc28153e769ba86b8b", func := "auditbook/auditbooklaw.Chains", spec := "chains", inPlace := ["internal/reflectlite.ValueOf", "(internal/reflectlite.Value).Type", "(internal/reflectlite.Value).IsNil", "internal/reflectlite.TypeOf", "(internal/reflectlite.Value).Elem", "(internal/reflectlite.Value).Set"], unfollowed := true, recurses := true, named := ["auditbook/hash.rounds", "errors.errorType"], apart := false, laid := [("errors.errorType", laid_errors_errorType), ("auditbook/hash.rounds", laid_auditbook_hash_rounds)] }
def ChainsSaid : Prop := chainsRow.holds Tryz.pinned (OpenSpec.ofChange chainsSpec)

/-- ITS FALSE NEIGHBOUR: 'it returns false'. Refute it at one input. -/
def chainsWrong : ChangeSpec := { name := "chains", fn := fun _ => fun
  | [d] => { results := [.lit (.bool false)], args := [d] }
  | _ => none }
def ChainsWrongFalsely : Prop := chainsRow.holds Tryz.pinned (OpenSpec.ofChange chainsWrong)

/-- 'auditbooklaw.Crashes': WHATEVER THE INPUT: true; the input reads as it did. -/
def crashesSpec : ChangeSpec := { name := "crashes", fn := fun _ => fun
  | [d] => { results := [.lit (.bool true)], args := [d] }
  | _ => none }
def crashesRow : OpenClaim := { program := "ytijdnpoenpjnlaagreatdoor", sum := "c5bab449179f78fa38b5acc894e20b8ec6bd8faaa7777efc28153e769ba86b8b", func := "auditbook/auditbooklaw.Crashes", spec := "crashes", inPlace := ["internal/reflectlite.ValueOf", "(internal/reflectlite.Value).Type", "(internal/reflectlite.Value).IsNil", "internal/reflectlite.TypeOf", "(internal/reflectlite.Value).Elem", "(internal/reflectlite.Value).Set"], unfollowed := true, recurses := true, named := ["auditbook/hash.rounds", "errors.errorType"], apart := false, laid := [("errors.errorType", laid_errors_errorType), ("auditbook/hash.rounds", laid_auditbook_hash_rounds)] }
def CrashesSaid : Prop := crashesRow.holds Tryz.pinned (OpenSpec.ofChange crashesSpec)

/-- ITS FALSE NEIGHBOUR: 'it returns false'. Refute it at one input. -/
def crashesWrong : ChangeSpec := { name := "crashes", fn := fun _ => fun
  | [d] => { results := [.lit (.bool false)], args := [d] }
  | _ => none }
def CrashesWrongFalsely : Prop := crashesRow.holds Tryz.pinned (OpenSpec.ofChange crashesWrong)

/-- 'auditbooklaw.Audits': WHATEVER THE INPUT: true; the input reads as it did. -/
def auditsSpec : ChangeSpec := { name := "audits", fn := fun _ => fun
  | [d] => { results := [.lit (.bool true)], args := [d] }
  | _ => none }
def auditsRow : OpenClaim := { program := "ytijdnpoenpjnlaagreatdoor", sum := "c5bab449179f78fa38b5acc894e20b8ec6bd8faaa7777efc28153e769ba86b8b", func := "auditbook/auditbooklaw.Audits", spec := "audits", inPlace := ["internal/reflectlite.ValueOf", "(internal/reflectlite.Value).Type", "(internal/reflectlite.Value).IsNil", "internal/reflectlite.TypeOf", "(internal/reflectlite.Value).Elem", "(internal/reflectlite.Value).Set"], unfollowed := true, recurses := true, named := ["auditbook/hash.rounds", "errors.errorType"], apart := false, laid := [("errors.errorType", laid_errors_errorType), ("auditbook/hash.rounds", laid_auditbook_hash_rounds)] }
def AuditsSaid : Prop := auditsRow.holds Tryz.pinned (OpenSpec.ofChange auditsSpec)

/-- ITS FALSE NEIGHBOUR: 'it returns false'. Refute it at one input. -/
def auditsWrong : ChangeSpec := { name := "audits", fn := fun _ => fun
  | [d] => { results := [.lit (.bool false)], args := [d] }
  | _ => none }
def AuditsWrongFalsely : Prop := auditsRow.holds Tryz.pinned (OpenSpec.ofChange auditsWrong)

/-- 'auditbooklaw.All': WHATEVER THE INPUT: true; the input reads as it did. -/
def allSpec : ChangeSpec := { name := "all", fn := fun _ => fun
  | [d] => { results := [.lit (.bool true)], args := [d] }
  | _ => none }
def allRow : OpenClaim := { program := "ytijdnpoenpjnlaagreatdoor", sum := "c5bab449179f78fa38b5acc894e20b8ec6bd8faaa7777efc28153e769ba86b8b", func := "auditbook/auditbooklaw.All", spec := "all", inPlace := ["internal/reflectlite.ValueOf", "(internal/reflectlite.Value).Type", "(internal/reflectlite.Value).IsNil", "internal/reflectlite.TypeOf", "(internal/reflectlite.Value).Elem", "(internal/reflectlite.Value).Set"], unfollowed := true, recurses := true, named := ["auditbook/hash.rounds", "errors.errorType"], apart := false, laid := [("errors.errorType", laid_errors_errorType), ("auditbook/hash.rounds", laid_auditbook_hash_rounds)] }
def AllSaid : Prop := allRow.holds Tryz.pinned (OpenSpec.ofChange allSpec)

/-- ITS FALSE NEIGHBOUR: 'it returns false'. Refute it at one input. -/
def allWrong : ChangeSpec := { name := "all", fn := fun _ => fun
  | [d] => { results := [.lit (.bool false)], args := [d] }
  | _ => none }
def AllWrongFalsely : Prop := allRow.holds Tryz.pinned (OpenSpec.ofChange allWrong)

/- THE SECOND FORM. 'bulk': how many values and letters a reading holds, each counted each time it is reached (what is shared counts as often as it is met; a slice's spare places count too). A statement '..UptoSaid' is the law's where the arguments, and the package variables that the reading takes, are together of bulk at most 1048576: NARROWER than '..Said'. Prove '..Said' where nothing that the law and all that it calls make is longer than what came in: it says more and counts as full. Else prove '..UptoSaid'. A law counts once. -/
mutual
def uptoBulk {H : Type} : DataW H → Nat
  | .lit (.string bytes) => bytes.length + 1
  | .lit _ => 1
  | .nil => 1
  | .ptr d => uptoBulk d + 1
  | .slice elems spare => uptoBulkAll elems + uptoBulkAll spare + 1
  | .agg parts => uptoBulkAll parts + 1
  | .iface _ d => uptoBulk d + 1
  | .map entries => uptoBulkEntries entries + 1
  | .held _ => 1
def uptoBulkAll {H : Type} : List (DataW H) → Nat
  | [] => 0
  | d :: r => uptoBulk d + uptoBulkAll r
def uptoBulkEntries {H : Type} : List (Lit × DataW H) → Nat
  | [] => 0
  | x :: r => uptoBulkEntry x + uptoBulkEntries r
def uptoBulkEntry {H : Type} : Lit × DataW H → Nat
  | (.string bytes, d) => bytes.length + uptoBulk d + 1
  | (_, d) => uptoBulk d + 1
 end
def uptoSmall : (H : Type) → List (DataW H) → Bool := fun _ ds => decide (uptoBulkAll ds ≤ 1048576)
def OpenSpec.upto (s : _root_.Go.ChangeSpec) : _root_.Go.OpenSpec := { _root_.Go.OpenSpec.ofChange s with cond := some uptoSmall }

/-- 'auditbooklaw.Sums', WHERE WHAT IT READS IS OF BULK AT MOST 1048576: true; the input reads as it did. -/
def sumsUptoRow : OpenClaim := { program := "ytijdnpoenpjnlaagreatdoor", sum := "c5bab449179f78fa38b5acc894e20b8ec6bd8faaa7777efc28153e769ba86b8b", func := "auditbook/auditbooklaw.Sums", spec := "sums", inPlace := ["internal/reflectlite.ValueOf", "(internal/reflectlite.Value).Type", "(internal/reflectlite.Value).IsNil", "internal/reflectlite.TypeOf", "(internal/reflectlite.Value).Elem", "(internal/reflectlite.Value).Set"], unfollowed := true, recurses := true, named := ["auditbook/hash.rounds", "errors.errorType"], apart := false, laid := [("errors.errorType", laid_errors_errorType), ("auditbook/hash.rounds", laid_auditbook_hash_rounds)], narrowed := true }
def SumsUptoSaid : Prop := sumsUptoRow.holds Tryz.pinned (OpenSpec.upto sumsSpec)

/-- 'auditbooklaw.Trees', WHERE WHAT IT READS IS OF BULK AT MOST 1048576: true; the input reads as it did. -/
def treesUptoRow : OpenClaim := { program := "ytijdnpoenpjnlaagreatdoor", sum := "c5bab449179f78fa38b5acc894e20b8ec6bd8faaa7777efc28153e769ba86b8b", func := "auditbook/auditbooklaw.Trees", spec := "trees", inPlace := ["internal/reflectlite.ValueOf", "(internal/reflectlite.Value).Type", "(internal/reflectlite.Value).IsNil", "internal/reflectlite.TypeOf", "(internal/reflectlite.Value).Elem", "(internal/reflectlite.Value).Set"], unfollowed := true, recurses := true, named := ["auditbook/hash.rounds", "errors.errorType"], apart := false, laid := [("errors.errorType", laid_errors_errorType), ("auditbook/hash.rounds", laid_auditbook_hash_rounds)], narrowed := true }
def TreesUptoSaid : Prop := treesUptoRow.holds Tryz.pinned (OpenSpec.upto treesSpec)

/-- 'auditbooklaw.Proofs', WHERE WHAT IT READS IS OF BULK AT MOST 1048576: true; the input reads as it did. -/
def proofsUptoRow : OpenClaim := { program := "ytijdnpoenpjnlaagreatdoor", sum := "c5bab449179f78fa38b5acc894e20b8ec6bd8faaa7777efc28153e769ba86b8b", func := "auditbook/auditbooklaw.Proofs", spec := "proofs", inPlace := ["internal/reflectlite.ValueOf", "(internal/reflectlite.Value).Type", "(internal/reflectlite.Value).IsNil", "internal/reflectlite.TypeOf", "(internal/reflectlite.Value).Elem", "(internal/reflectlite.Value).Set"], unfollowed := true, recurses := true, named := ["auditbook/hash.rounds", "errors.errorType"], apart := false, laid := [("errors.errorType", laid_errors_errorType), ("auditbook/hash.rounds", laid_auditbook_hash_rounds)], narrowed := true }
def ProofsUptoSaid : Prop := proofsUptoRow.holds Tryz.pinned (OpenSpec.upto proofsSpec)

/-- 'auditbooklaw.Signs', WHERE WHAT IT READS IS OF BULK AT MOST 1048576: true; the input reads as it did. -/
def signsUptoRow : OpenClaim := { program := "ytijdnpoenpjnlaagreatdoor", sum := "c5bab449179f78fa38b5acc894e20b8ec6bd8faaa7777efc28153e769ba86b8b", func := "auditbook/auditbooklaw.Signs", spec := "signs", inPlace := ["internal/reflectlite.ValueOf", "(internal/reflectlite.Value).Type", "(internal/reflectlite.Value).IsNil", "internal/reflectlite.TypeOf", "(internal/reflectlite.Value).Elem", "(internal/reflectlite.Value).Set"], unfollowed := true, recurses := true, named := ["auditbook/hash.rounds", "errors.errorType"], apart := false, laid := [("errors.errorType", laid_errors_errorType), ("auditbook/hash.rounds", laid_auditbook_hash_rounds)], narrowed := true }
def SignsUptoSaid : Prop := signsUptoRow.holds Tryz.pinned (OpenSpec.upto signsSpec)

/-- 'auditbooklaw.Requests', WHERE WHAT IT READS IS OF BULK AT MOST 1048576: true; the input reads as it did. -/
def requestsUptoRow : OpenClaim := { program := "ytijdnpoenpjnlaagreatdoor", sum := "c5bab449179f78fa38b5acc894e20b8ec6bd8faaa7777efc28153e769ba86b8b", func := "auditbook/auditbooklaw.Requests", spec := "requests", inPlace := ["internal/reflectlite.ValueOf", "(internal/reflectlite.Value).Type", "(internal/reflectlite.Value).IsNil", "internal/reflectlite.TypeOf", "(internal/reflectlite.Value).Elem", "(internal/reflectlite.Value).Set"], unfollowed := true, recurses := true, named := ["auditbook/hash.rounds", "errors.errorType"], apart := false, laid := [("errors.errorType", laid_errors_errorType), ("auditbook/hash.rounds", laid_auditbook_hash_rounds)], narrowed := true }
def RequestsUptoSaid : Prop := requestsUptoRow.holds Tryz.pinned (OpenSpec.upto requestsSpec)

/-- 'auditbooklaw.Recovers', WHERE WHAT IT READS IS OF BULK AT MOST 1048576: true; the input reads as it did. -/
def recoversUptoRow : OpenClaim := { program := "ytijdnpoenpjnlaagreatdoor", sum := "c5bab449179f78fa38b5acc894e20b8ec6bd8faaa7777efc28153e769ba86b8b", func := "auditbook/auditbooklaw.Recovers", spec := "recovers", inPlace := ["internal/reflectlite.ValueOf", "(internal/reflectlite.Value).Type", "(internal/reflectlite.Value).IsNil", "internal/reflectlite.TypeOf", "(internal/reflectlite.Value).Elem", "(internal/reflectlite.Value).Set"], unfollowed := true, recurses := true, named := ["auditbook/hash.rounds", "errors.errorType"], apart := false, laid := [("errors.errorType", laid_errors_errorType), ("auditbook/hash.rounds", laid_auditbook_hash_rounds)], narrowed := true }
def RecoversUptoSaid : Prop := recoversUptoRow.holds Tryz.pinned (OpenSpec.upto recoversSpec)

/-- 'auditbooklaw.Chains', WHERE WHAT IT READS IS OF BULK AT MOST 1048576: true; the input reads as it did. -/
def chainsUptoRow : OpenClaim := { program := "ytijdnpoenpjnlaagreatdoor", sum := "c5bab449179f78fa38b5acc894e20b8ec6bd8faaa7777efc28153e769ba86b8b", func := "auditbook/auditbooklaw.Chains", spec := "chains", inPlace := ["internal/reflectlite.ValueOf", "(internal/reflectlite.Value).Type", "(internal/reflectlite.Value).IsNil", "internal/reflectlite.TypeOf", "(internal/reflectlite.Value).Elem", "(internal/reflectlite.Value).Set"], unfollowed := true, recurses := true, named := ["auditbook/hash.rounds", "errors.errorType"], apart := false, laid := [("errors.errorType", laid_errors_errorType), ("auditbook/hash.rounds", laid_auditbook_hash_rounds)], narrowed := true }
def ChainsUptoSaid : Prop := chainsUptoRow.holds Tryz.pinned (OpenSpec.upto chainsSpec)

/-- 'auditbooklaw.Crashes', WHERE WHAT IT READS IS OF BULK AT MOST 1048576: true; the input reads as it did. -/
def crashesUptoRow : OpenClaim := { program := "ytijdnpoenpjnlaagreatdoor", sum := "c5bab449179f78fa38b5acc894e20b8ec6bd8faaa7777efc28153e769ba86b8b", func := "auditbook/auditbooklaw.Crashes", spec := "crashes", inPlace := ["internal/reflectlite.ValueOf", "(internal/reflectlite.Value).Type", "(internal/reflectlite.Value).IsNil", "internal/reflectlite.TypeOf", "(internal/reflectlite.Value).Elem", "(internal/reflectlite.Value).Set"], unfollowed := true, recurses := true, named := ["auditbook/hash.rounds", "errors.errorType"], apart := false, laid := [("errors.errorType", laid_errors_errorType), ("auditbook/hash.rounds", laid_auditbook_hash_rounds)], narrowed := true }
def CrashesUptoSaid : Prop := crashesUptoRow.holds Tryz.pinned (OpenSpec.upto crashesSpec)

/-- 'auditbooklaw.Audits', WHERE WHAT IT READS IS OF BULK AT MOST 1048576: true; the input reads as it did. -/
def auditsUptoRow : OpenClaim := { program := "ytijdnpoenpjnlaagreatdoor", sum := "c5bab449179f78fa38b5acc894e20b8ec6bd8faaa7777efc28153e769ba86b8b", func := "auditbook/auditbooklaw.Audits", spec := "audits", inPlace := ["internal/reflectlite.ValueOf", "(internal/reflectlite.Value).Type", "(internal/reflectlite.Value).IsNil", "internal/reflectlite.TypeOf", "(internal/reflectlite.Value).Elem", "(internal/reflectlite.Value).Set"], unfollowed := true, recurses := true, named := ["auditbook/hash.rounds", "errors.errorType"], apart := false, laid := [("errors.errorType", laid_errors_errorType), ("auditbook/hash.rounds", laid_auditbook_hash_rounds)], narrowed := true }
def AuditsUptoSaid : Prop := auditsUptoRow.holds Tryz.pinned (OpenSpec.upto auditsSpec)

/-- 'auditbooklaw.All', WHERE WHAT IT READS IS OF BULK AT MOST 1048576: true; the input reads as it did. -/
def allUptoRow : OpenClaim := { program := "ytijdnpoenpjnlaagreatdoor", sum := "c5bab449179f78fa38b5acc894e20b8ec6bd8faaa7777efc28153e769ba86b8b", func := "auditbook/auditbooklaw.All", spec := "all", inPlace := ["internal/reflectlite.ValueOf", "(internal/reflectlite.Value).Type", "(internal/reflectlite.Value).IsNil", "internal/reflectlite.TypeOf", "(internal/reflectlite.Value).Elem", "(internal/reflectlite.Value).Set"], unfollowed := true, recurses := true, named := ["auditbook/hash.rounds", "errors.errorType"], apart := false, laid := [("errors.errorType", laid_errors_errorType), ("auditbook/hash.rounds", laid_auditbook_hash_rounds)], narrowed := true }
def AllUptoSaid : Prop := allUptoRow.holds Tryz.pinned (OpenSpec.upto allSpec)

end Rows
end Go.Proofs.YtijdnpoenpjnlaaGreatDoor
