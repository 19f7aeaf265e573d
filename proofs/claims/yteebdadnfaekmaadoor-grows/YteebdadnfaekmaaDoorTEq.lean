import Derived.Test.YteebdadnfaekmaaDoorTCut
set_option linter.unusedVariables false
set_option linter.unusedSimpArgs false
namespace Go.Proofs.YteebdadnfaekmaaDoor
open Go.RowKit

theorem z32_hV : hV (strOfNums (List.replicate 32 0)) = z32 := by
  unfold hV
  rw [nums_str _ (fun x hx => by rw [List.eq_of_mem_replicate hx]; omega)]; rfl

/-- What a check answers: nil, or ErrProof. -/
def chkV (ok : Bool) : Value := if ok then .nilIface else .iface 34 (.int .i64 14)
theorem hash_eq (a b : ByteArray) (ha : a.size = 32) (hb : b.size = 32) (w : World) : (Op.equalIn 10000 54 (.agg (hV a).toArray) (.agg (hV b).toArray)).run Tryd.prog w = .ok (decide (a = b)) w := by
  have la : a.data.toList.length = 32 := by rw [← Lib.size_eq]; exact ha
  have lb : b.data.toList.length = 32 := by rw [← Lib.size_eq]; exact hb
  have := run_equalIn_bytes (P := Tryd.prog) w 9998 54 5 32 Tryd.underlying54 Tryd.underlying5 size_byte a.data.toList b.data.toList la lb
  have e : ∀ t : ByteArray, (t.data.toList.map Extern.Stop.cell) = hV t := fun t => by unfold hV bytesV numsOf; rw [List.map_map]; rfl
  rw [e, e] at this
  have e2 : (a.data.toList == b.data.toList) = decide (a = b) := by
    rw [Bool.eq_iff_iff]
    simp only [beq_iff_eq, decide_eq_true_eq]
    constructor
    · intro h
      apply ByteArray.ext
      exact Array.toList_inj.1 h
    · rintro rfl; rfl
  rw [e2] at this
  exact this
end Go.Proofs.YteebdadnfaekmaaDoor
