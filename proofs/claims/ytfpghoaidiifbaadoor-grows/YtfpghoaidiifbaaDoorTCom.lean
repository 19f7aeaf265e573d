import Derived.Test.YtfpghoaidiifbaaDoorTRoot2
import Derived.Deep.AppendLies
set_option linter.unusedVariables false
set_option linter.unusedSimpArgs false
namespace Go.Proofs.YtfpghoaidiifbaaDoor
open Go.RowKit

def errIx : Value := .iface 34 (.int .i64 10)
theorem own_below' {B : Nat} {e : TypeId} {k : Nat} {v : Value} {n : Nat} {xs : List Value} {w w' : World} (h : w.ownsRow B e k v n xs) (hb : Below w.heap.size w w') : w'.ownsRow B e k v n xs :=
  h.kept (row := none) ⟨hb.os, hb.tape, hb.output, hb.size, fun j hj _ => hb.block j hj⟩ (by cases hv : v.ownBlock <;> simp)
theorem info_strT : ∃ i, Tryd.prog.info? 9 = some i ∧ i.zero = some (.string ⟨#[]⟩) ∧ i.size = 1 ∧ i.bytes = 16 := by
  obtain ⟨i, hi⟩ : ∃ i, Tryd.prog.info? 9 = some i := Option.isSome_iff_exists.1 (by kernel_rfl)
  refine ⟨i, hi, ?_, ?_, ?_⟩
  · have : (Tryd.prog.info? 9).bind (·.zero) = some (.string ⟨#[]⟩) := by kernel_rfl
    rw [hi] at this; exact this
  · have : (Tryd.prog.info? 9).map (·.size) = some 1 := by kernel_rfl
    rw [hi] at this; exact Option.some.inj this
  · have : (Tryd.prog.info? 9).map (·.bytes) = some 16 := by kernel_rfl
    rw [hi] at this; exact Option.some.inj this
theorem htx_any (s : ByteArray) (e : s.size = 32) (w1 : World) : Calls Tryd.prog 27 #[.agg (hV s).toArray] w1 fun e w' => e = .returned (.string s) ∧ Below w1.heap.size w1 w' := by
  have := htext_any (numsOf s) w1 (by rw [numsOf_length, e])
  rw [str_nums] at this
  exact this
/-- A list of texts that a call has made. -/
def madeL (w w' : World) (e : Ending) (l : List ByteArray) : Prop := ∃ ao cap, e = .returned (.slice ao l.length cap) ∧ w'.ownsRow w.heap.size 9 1 (.slice ao l.length cap) l.length (l.map .string) ∧ Below w.heap.size w w'

theorem leaf_form {w : World} {v : Value} {ls : List ByteArray} (h : LeafAt w v ls) : ∃ ao cap, v = .slice ao ls.length cap := by
  rcases h with ⟨rfl, ao, cap, rfl⟩ | ⟨g, off, cap, rfl, _⟩
  · exact ⟨ao, cap, rfl⟩
  · exact ⟨_, cap, rfl⟩

end Go.Proofs.YtfpghoaidiifbaaDoor
