import Derived.Test.YteglimjonofdeaaGreatDoorProg
import Derived.Test.YteglimjonofdeaaGreatDoorSpec
import Derived.Deep.QuietTactic
import Derived.BigQuiet
import Derived.Deep.MidRow
set_option linter.unusedVariables false
set_option linter.unusedSimpArgs false
namespace Go.Proofs.YteglimjonofdeaaGreatDoor
open Go.RowKit

set_option maxHeartbeats 400000 in
theorem rot_any (x k s : Int) (w : World) (hs : bits .and .u64 (IntKind.u64.wrap k) 31 = s) (h0 : 0 ≤ s) (h1 : s ≤ 31) :
    Calls Tryz.prog 168 #[.int .u32 x, .int .i64 k] w fun e w' => e = .returned (.int .u32 (rotI x s)) ∧ w' = w := by
  go_enter Tryz.func168, Tryz.ntmps168
  go_wp2
  go_ret
  exact ⟨rfl, rfl⟩

set_option maxHeartbeats 400000 in
theorem within_any (n lo hi : Int) (w : World) :
    Calls Tryz.prog 139 #[.int .i64 n, .int .i64 lo, .int .i64 hi] w fun e w' => e = .returned (.bool (decide (lo ≤ n) && decide (n ≤ hi))) ∧ w' = w := by
  go_enter Tryz.func139, Tryz.ntmps139
  go_wp2
  all_goals go_ret
  all_goals exact ⟨by first | (simp [*]; done) | (simp; omega), rfl⟩

set_option maxHeartbeats 400000 in
theorem read_any (b o n cap : Nat) (x0 x1 x2 x3 : Int) (w : World) (_hn : 4 ≤ n) (hb : (4:Int) ≤ n) (h1 : w.cell? ⟨b, o, none⟩ = some (.int .u8 x0)) (h2 : w.cell? ⟨b, o + 1, none⟩ = some (.int .u8 x1)) (h3 : w.cell? ⟨b, o + 2, none⟩ = some (.int .u8 x2)) (h4 : w.cell? ⟨b, o + 3, none⟩ = some (.int .u8 x3)) :
    Calls Tryz.prog 124 #[.slice (some ⟨b, o, none⟩) n cap] w fun e w' => e = .returned (.int .u32 (readI x0 x1 x2 x3)) ∧ ∃ m, w' = w.drewN m := by
  go_enter Tryz.func124, Tryz.ntmps124
  go_wp2
  go_quiet (fail)
  go_wp2
  go_ret
  exact ⟨rfl, _, rfl⟩

set_option maxHeartbeats 400000 in
theorem turns_a (x : Int) (w : World) :
    Calls Tryz.prog 137 #[.int .u32 x, .int .i64 6, .int .i64 11, .int .i64 25] w fun e w' => e = .returned (.int .u32 (turnI x 26 21 7)) ∧ w' = w := by
  go_enter Tryz.func137, Tryz.ntmps137
  go_wp2_with fail
  refine (rot_any _ _ _ _ s6 (by omega) (by omega)).mono ?_
  rintro e w' ⟨rfl, rfl⟩
  go_wp2_with fail
  refine (rot_any _ _ _ _ s11 (by omega) (by omega)).mono ?_
  rintro e w' ⟨rfl, rfl⟩
  go_wp2_with fail
  refine (rot_any _ _ _ _ s25 (by omega) (by omega)).mono ?_
  rintro e w' ⟨rfl, rfl⟩
  go_wp2
  go_ret
  exact ⟨rfl, rfl⟩

set_option maxHeartbeats 400000 in
theorem turns_b (x : Int) (w : World) :
    Calls Tryz.prog 137 #[.int .u32 x, .int .i64 2, .int .i64 13, .int .i64 22] w fun e w' => e = .returned (.int .u32 (turnI x 30 19 10)) ∧ w' = w := by
  go_enter Tryz.func137, Tryz.ntmps137
  go_wp2_with fail
  refine (rot_any _ _ _ _ s2 (by omega) (by omega)).mono ?_
  rintro e w' ⟨rfl, rfl⟩
  go_wp2_with fail
  refine (rot_any _ _ _ _ s13 (by omega) (by omega)).mono ?_
  rintro e w' ⟨rfl, rfl⟩
  go_wp2_with fail
  refine (rot_any _ _ _ _ s22 (by omega) (by omega)).mono ?_
  rintro e w' ⟨rfl, rfl⟩
  go_wp2
  go_ret
  exact ⟨rfl, rfl⟩

theorem new_cells (w : World) (l : List Value) (t : TypeId) : ∀ j u, l[j]? = some u → (w.alloc (.cells l.toArray t)).cell? ((⟨w.heap.size, 0, none⟩ : Addr).add j) = some u := by
  intro j u hj
  rw [Addr.add_mid, World.cell?_alloc_at _ _ _ _ rfl]
  simpa using hj
theorem info5 : (Tryz.prog.info? 5).map (fun i => (i.zero, i.size, i.bytes)) = some (some (.int .u8 0), 1, 1) := by kernel_rfl

set_option maxHeartbeats 400000 in
theorem append_any (base n : Nat) (xs : List Value) (v : Value) (x : Int) (w : World) (hown : w.ownsRow base 5 1 v n xs) (hn : n ≤ 1000) (hb : base ≤ w.heap.size) :
    Calls Tryz.prog 138 #[v, .int .u32 x] w fun e w' => ∃ v', e = .returned v' ∧ w'.ownsRow base 5 1 v' (n + 4) (xs ++ fourI x) ∧ Below base w w' := by
  obtain ⟨i0, hi, hz0, hz1, hz2⟩ := info_parts info5
  go_enter Tryz.func138, Tryz.ntmps138
  go_wp2_with (at_builtin; refine wpList_append_own _ rfl _ _ 85 rfl base 5 i0 (.int .u8 0) 1 1 Tryz.underlying85 hi hz0 hz1 hz2 rfl (by decide) _ _ _ rfl (hown.alloc _) ⟨w.heap.size, 0, none⟩ 4 4 (fourI x) rfl rfl ?c1 (fourI_one x) ?c3 ?c4 ?c5 ?_)
  case c1 =>
    intro j u hj
    exact new_cells w (fourI x) _ j u hj
  case c3 => unfold maxLen; omega
  case c4 => omega
  case c5 => simp; omega
  intro v' w1 hown' hgrow _
  go_wp2
  go_ret
  exact ⟨v', rfl, hown', ((Below.refl _ _).alloc hb _).grown hgrow (by simp; omega) (fun k hk => (hown.lt k hk).1)⟩
end Go.Proofs.YteglimjonofdeaaGreatDoor
