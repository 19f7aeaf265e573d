import Derived.Test.YteglimjonofdeaaGreatDoorWLeaf
set_option linter.unusedVariables false
set_option linter.unusedSimpArgs false
namespace Go.Proofs.YteglimjonofdeaaGreatDoor
open Go.RowKit

/-- An event's cells: six numbers, and the digest. -/
def evCells (c n o p v k : Int) (d : List Value) : List Value := .int .i64 c :: .int .i64 n :: .int .i64 o :: .int .i64 p :: .int .i64 v :: .int .i64 k :: d
def inB (n lo hi : Int) : Bool := decide (lo ≤ n) && decide (n ≤ hi)
def wholeB (c n o p v k : Int) : Bool := inB c 1 9 && (inB n 1 2147483647 && (inB o 1 5 && (inB p 1 99 && (inB v 0 8 && inB k 0 5))))


section
variable (c n o p v k : Int) (d : List Value)
theorem ev0 : (evCells c n o p v k d)[0]? = some (.int .i64 c) := rfl
theorem ev1 : (evCells c n o p v k d)[1]? = some (.int .i64 n) := rfl
theorem ev2 : (evCells c n o p v k d)[2]? = some (.int .i64 o) := rfl
theorem ev3 : (evCells c n o p v k d)[3]? = some (.int .i64 p) := rfl
theorem ev4 : (evCells c n o p v k d)[4]? = some (.int .i64 v) := rfl
theorem ev5 : (evCells c n o p v k d)[5]? = some (.int .i64 k) := rfl
end

set_option maxHeartbeats 1000000 in
theorem whole_any (c n o p v k : Int) (d : List Value) (w : World) :
    Calls Tryz.prog 94 #[.agg (evCells c n o p v k d).toArray] w fun e w' => e = .returned (.bool (wholeB c n o p v k)) ∧ w' = w.alloc (.cells (evCells c n o p v k d).toArray 144) := by
  have h0 := ev0 c n o p v k d
  have h1 := ev1 c n o p v k d
  have h2 := ev2 c n o p v k d
  have h3 := ev3 c n o p v k d
  have h4 := ev4 c n o p v k d
  have h5 := ev5 c n o p v k d
  go_enter Tryz.func94, Tryz.ntmps94
  go_wp2_with (go_at_call 139; refine (within_any _ _ _ _).mono ?_; rintro e w' ⟨rfl, rfl⟩)
  all_goals go_ret
  all_goals exact ⟨ret_bool (by rw [Bool.eq_iff_iff]; simp [wholeB, inB]; omega), rfl⟩

theorem make8 (w : World) : (Instr.makeSlice 85 (.int .i64 0) (.int .i64 8)).run Tryz.prog w = .ok (.slice (some ⟨w.heap.size, 0, none⟩) 0 8) (w.alloc (.cells (Array.replicate 8 (.int .u8 0)) 5)) := by kernel_rfl

set_option maxRecDepth 10000 in
set_option maxHeartbeats 400000 in
theorem bitCount_any (x : Int) (w : World) (h0 : 0 ≤ x) (h1 : x ≤ 281474976710656) :
    Calls Tryz.prog 135 #[.int .u64 x] w fun e w' => ∃ v', e = .returned v' ∧ w'.ownsRow w.heap.size 5 1 v' 8 (fourI (x * 8 / 4294967296) ++ fourI (x * 8 % 4294967296)) ∧ Below w.heap.size w w' := by
  have hmk := make8
  go_enter Tryz.func135, Tryz.ntmps135
  go_wp2_with fail
  refine (append_any w.heap.size 0 [] _ _ _ (World.ownsRow_made w (Array.replicate 8 (.int .u8 0)) 8 (Nat.le_refl _) (by unfold maxLen; omega) (by simp)) (by omega) (by simp)).mono ?_
  rintro e w1 ⟨v1, rfl, ho1, hb1⟩
  have hz1 := hb1.size
  simp at hz1
  go_wp2_with fail
  refine (append_any w.heap.size 4 _ v1 _ _ ho1 (by omega) (by omega)).mono ?_
  rintro e w2 ⟨v2, rfl, ho2, hb2⟩
  go_wp2
  go_ret
  exact ⟨v2, rfl, ho2, ((Below.refl _ _).alloc (Nat.le_refl _) _).trans (hb1.trans hb2)⟩
end Go.Proofs.YteglimjonofdeaaGreatDoor
