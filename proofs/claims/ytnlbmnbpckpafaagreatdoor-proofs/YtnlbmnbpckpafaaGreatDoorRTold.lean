import Derived.Test.YtnlbmnbpckpafaaGreatDoorREvent
import Derived.Test.YtnlbmnbpckpafaaGreatDoorWTold2
set_option linter.unusedVariables false
set_option linter.unusedSimpArgs false
namespace Go.Proofs.YtnlbmnbpckpafaaGreatDoor
open Go.RowKit

set_option maxHeartbeats 400000 in
theorem num_any (n : Int) (w : World) :
    Calls Tryz.prog 88 #[.int .i64 n] w fun e w' => e = .returned (.int .i64 n) ∧ w' = w := by
  go_enter Tryz.func88, Tryz.ntmps88
  go_wp2
  go_ret
  exact ⟨rfl, rfl⟩

set_option maxHeartbeats 400000 in
theorem ltold_hit (n m : Int) (w : World) (hg : w.cell? ⟨1, 0, none⟩ = some errTypeV) (hlt : 1 < w.heap.size) :
    Calls Tryz.prog 59 #[.iface 138 (.int .i64 n), .int .i64 m] w fun e w' => e = .returned (.bool (decide (n = m) && decide (m ≠ 0))) ∧ Below w.heap.size w w' := by
  go_enter Tryz.func59, Tryz.ntmps59
  go_wp2_with fail
  refine (told_hit n _ hg hlt).mono ?_
  rintro e w1 ⟨rfl, hb1⟩
  go_wp2_with (go_at_call 88; refine (num_any _ _).mono ?_; rintro e w' ⟨rfl, rfl⟩)
  all_goals go_ret
  all_goals exact ⟨ret_bool (by rw [Bool.eq_iff_iff]; simp; try omega), hb1⟩

set_option maxHeartbeats 400000 in
theorem told_nil (w : World) :
    Calls Tryz.prog 87 #[.nilIface] w fun e w' => e = .returned (.int .i64 0) ∧ w' = w := by
  go_enter Tryz.func87, Tryz.ntmps87
  go_wp2
  go_ret
  exact ⟨rfl, rfl⟩

set_option maxHeartbeats 400000 in
theorem ltold_nil (m : Int) (w : World) :
    Calls Tryz.prog 59 #[.nilIface, .int .i64 m] w fun e w' => e = .returned (.bool (decide (m = 0))) ∧ w' = w := by
  go_enter Tryz.func59, Tryz.ntmps59
  go_wp2_with (first | (go_at_call 87; refine (told_nil _).mono ?_; rintro e w' ⟨rfl, rfl⟩) | (go_at_call 88; refine (num_any _ _).mono ?_; rintro e w' ⟨rfl, rfl⟩))
  all_goals go_ret
  all_goals exact ⟨ret_bool (by rw [Bool.eq_iff_iff]; simp; try omega), rfl⟩
end Go.Proofs.YtnlbmnbpckpafaaGreatDoor
