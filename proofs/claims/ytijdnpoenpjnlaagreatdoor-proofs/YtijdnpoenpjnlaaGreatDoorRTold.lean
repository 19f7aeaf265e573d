import Derived.Test.YtijdnpoenpjnlaaGreatDoorREvent
import Derived.Test.YtijdnpoenpjnlaaGreatDoorWTold2
set_option linter.unusedVariables false
set_option linter.unusedSimpArgs false
namespace Go.Proofs.YtijdnpoenpjnlaaGreatDoor
open Go.RowKit

set_option maxHeartbeats 400000 in
theorem num_any (n : Int) (w : World) :
    Calls Tryz.prog 90 #[.int .i64 n] w fun e w' => e = .returned (.int .i64 n) ∧ w' = w := by
  go_enter Tryz.func90, Tryz.ntmps90
  go_wp2
  go_ret
  exact ⟨rfl, rfl⟩

set_option maxHeartbeats 400000 in
theorem ltold_hit (n m : Int) (w : World) (hg : w.cell? ⟨1, 0, none⟩ = some errTypeV) (hlt : 1 < w.heap.size) :
    Calls Tryz.prog 61 #[.iface 138 (.int .i64 n), .int .i64 m] w fun e w' => e = .returned (.bool (decide (n = m) && decide (m ≠ 0))) ∧ Below w.heap.size w w' := by
  go_enter Tryz.func61, Tryz.ntmps61
  go_wp2_with fail
  refine (told_hit n _ hg hlt).mono ?_
  rintro e w1 ⟨rfl, hb1⟩
  go_wp2_with (go_at_call 90; refine (num_any _ _).mono ?_; rintro e w' ⟨rfl, rfl⟩)
  all_goals go_ret
  all_goals exact ⟨ret_bool (by rw [Bool.eq_iff_iff]; simp; try omega), hb1⟩

set_option maxHeartbeats 400000 in
theorem told_nil (w : World) :
    Calls Tryz.prog 89 #[.nilIface] w fun e w' => e = .returned (.int .i64 0) ∧ w' = w := by
  go_enter Tryz.func89, Tryz.ntmps89
  go_wp2
  go_ret
  exact ⟨rfl, rfl⟩

set_option maxHeartbeats 400000 in
theorem ltold_nil (m : Int) (w : World) :
    Calls Tryz.prog 61 #[.nilIface, .int .i64 m] w fun e w' => e = .returned (.bool (decide (m = 0))) ∧ w' = w := by
  go_enter Tryz.func61, Tryz.ntmps61
  go_wp2_with (first | (go_at_call 89; refine (told_nil _).mono ?_; rintro e w' ⟨rfl, rfl⟩) | (go_at_call 90; refine (num_any _ _).mono ?_; rintro e w' ⟨rfl, rfl⟩))
  all_goals go_ret
  all_goals exact ⟨ret_bool (by rw [Bool.eq_iff_iff]; simp; try omega), rfl⟩
end Go.Proofs.YtijdnpoenpjnlaaGreatDoor
