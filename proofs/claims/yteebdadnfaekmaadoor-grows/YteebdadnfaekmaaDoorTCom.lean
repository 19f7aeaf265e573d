import Derived.Test.YteebdadnfaekmaaDoorTRoot2
import Derived.Deep.AppendLies
set_option linter.unusedVariables false
set_option linter.unusedSimpArgs false
namespace Go.Proofs.YteebdadnfaekmaaDoor
open Go.RowKit

def errIx : Value := .iface 34 (.int .i64 10)
/-- A list of texts that a call has made. -/
def madeL (w w' : World) (e : Ending) (l : List ByteArray) : Prop := ∃ ao cap, e = .returned (.slice ao l.length cap) ∧ w'.ownsRow w.heap.size 9 1 (.slice ao l.length cap) l.length (l.map .string) ∧ Below w.heap.size w w'

theorem leaf_form {w : World} {v : Value} {ls : List ByteArray} (h : LeafAt w v ls) : ∃ ao cap, v = .slice ao ls.length cap := by
  rcases h with ⟨rfl, ao, cap, rfl⟩ | ⟨g, off, cap, rfl, _⟩
  · exact ⟨ao, cap, rfl⟩
  · exact ⟨_, cap, rfl⟩

end Go.Proofs.YteebdadnfaekmaaDoor
