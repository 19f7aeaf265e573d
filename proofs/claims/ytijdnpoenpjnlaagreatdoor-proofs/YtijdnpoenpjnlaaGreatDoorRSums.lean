import Derived.Test.YtijdnpoenpjnlaaGreatDoorRPlay2
set_option linter.unusedVariables false
set_option linter.unusedSimpArgs false
namespace Go.Proofs.YtijdnpoenpjnlaaGreatDoor
open Go.RowKit

set_option maxRecDepth 10000 in
set_option maxHeartbeats 400000 in
theorem sums_any (v : Value) (l : List Op8) (w : World) (h : OpsAt w v l) (hn : l.length ≤ 140737488355328) (hs : ∀ o ∈ l, o.s.size ≤ 140737488355328)
    (hok : ∀ o ∈ l, OpOk o.x o.y o.z o.a o.b o.c ∧ -9223372036854775808 ≤ o.k ∧ o.k ≤ 9223372036854775807) (G : Glob w.heap.size w) :
    Calls Tryz.prog 3 #[v] w fun e w' => e = .returned (.bool true) ∧ Below w.heap.size w w' := by
  have hb0 : Below w.heap.size w (w.alloc (.cells #[.int .i64 20, .int .i64 21, .int .i64 22] 3)) := (Below.refl _ _).alloc (Nat.le_refl _) _
  have hkc : ∀ j (hj : j < [(20 : Int), 21, 22].length), (w.alloc (.cells #[.int .i64 20, .int .i64 21, .int .i64 22] 3)).cell? ⟨w.heap.size, j, none⟩ = some (.int .i64 ([(20 : Int), 21, 22][j]'hj)) := by
    intro j hj
    have hj3 : j < 3 := hj
    have := range_new w [.int .i64 20, .int .i64 21, .int .i64 22] 3 j (.int .i64 ([(20 : Int), 21, 22][j]'hj)) (by
      obtain rfl | rfl | rfl : j = 0 ∨ j = 1 ∨ j = 2 := by omega
      all_goals rfl)
    rw [Nat.zero_add] at this
    exact this
  have hpl := plays_any v l _ [20, 21, 22] w.heap.size 3 sumsKind (h.below hb0) hn hs hok (by simp) hkc (fun kd hk => by simp at hk; unfold sumsKind; omega) (fun v' L w' hO hL hok' hB => upto_sums v' L w' hO hL hok' (by
    have hs' := hB.size
    simp at hs'
    have G0 : Glob w.heap.size w' := (G.below hb0).below (hB.mono (by simp))
    exact ⟨by have := G0.le; omega, G0.rounds, G0.err⟩))
  rw [show [(20 : Int), 21, 22].length = 3 from rfl] at hpl
  obtain ⟨ao, n, cap, rfl, hx, hy⟩ := ops_form h
  clear hx hy
  clear hkc
  go_enter Tryz.func3, Tryz.ntmps3
  go_wp2_with fail
  refine hpl.mono ?_
  rintro e w1 ⟨rfl, hb1⟩
  go_wp2_with fail
  go_ret
  exact ⟨rfl, hb0.trans (hb1.mono (by simp))⟩
end Go.Proofs.YtijdnpoenpjnlaaGreatDoor
