import Derived.Test.YtijdnpoenpjnlaaGreatDoorConsts
import Derived.Test.YtijdnpoenpjnlaaGreatDoorRAid
set_option linter.unusedVariables false
set_option linter.unusedSimpArgs false
namespace Go.Proofs.YtijdnpoenpjnlaaGreatDoor
open Go.RowKit

set_option maxHeartbeats 400000 in
theorem turned_any (x n : Int) (w : World) (h0 : 1 ≤ n) (h1 : n ≤ 31) :
    Calls Tryz.prog 57 #[.int .u32 x, .int .i64 n] w fun e w' => e = .returned (.int .u32 (rotI x (32 - n))) ∧ ∃ m, w' = w.drewN m := by
  have e : rotI x (32 - n) = bits .or .u32 (x / 2 ^ n.toNat) (x * 2 ^ (32 - n).toNat % 4294967296) := by
    unfold rotI
    rw [or_comm32, show 32 - (32 - n) = n by omega]
  have HR : Hid (rotI x (32 - n) = bits .or .u32 (x / 2 ^ n.toNat) (x * 2 ^ (32 - n).toNat % 4294967296)) := e
  clear e
  go_enter Tryz.func57, Tryz.ntmps57
  go_wp2
  go_quiet (fail)
  go_wp2
  go_ret
  exact ⟨by rw [HR.out]; rfl, _, rfl⟩

/-- A row that is built of constants. -/
theorem wpList_build_val {P : Program} {ops : Array Oper} {rest : List Oper} {o : Oper} {a : Act} {w : World} {Q : Exit → Act → World → Prop} (hg : o.guard = none) (ty : TypeId) (parts : Array (Nat × Operand)) (ho : o.op = .build ty parts) (Z : Array Value)
    (hr : ∀ w, (Instr.build ty (parts.map fun (i, x) => (i, a.eval x))).run P w = .ok (.agg Z) w)
    (h : wpList P ops Q rest (a.put o.dst (.agg Z)) w) : wpList P ops Q (o :: rest) a w :=
  wpList_plain hg fun K hK => by
    unfold Oper.wp
    simp only [execOp, ho, Sem.run_bind, hr, Result.andThen_ok, Sem.run_pure]
    exact hK _ _ h

theorem consts_len : (roundsK.map (Value.int .u32)).length = 64 := rfl
set_option maxRecDepth 10000 in
set_option maxHeartbeats 400000 in
theorem constants_any (w : World) : Calls Tryz.prog 56 #[] w fun e w' => e = .returned (.agg (roundsK.map (Value.int .u32)).toArray) ∧ Below w.heap.size w w' := by
  have hroom := there_z64 w
  have hone := ints_oneCell .u32 roundsK
  go_enter Tryz.func56, Tryz.ntmps56
  go_wp2_with (first | (refine wpList_alloc_of rfl 94 rfl z64.toArray alloc_64 ?_) | (refine wpList_build_val rfl 94 _ rfl (roundsK.map (Value.int .u32)).toArray (fun _ => by kernel_rfl) ?_) | (refine wpList_store_abs rfl 94 _ _ rfl w.heap.size 0 (roundsK.map (Value.int .u32)) rfl rfl hroom info_64 hone ?_; intro w4 _hw4 hr4 ht4 hb4; clear _hw4))
  exact ret_cell rfl w.heap.size 0 _ _ rfl hr4 Tryz.underlying94 rfl info_64 rfl ⟨rfl, ((Below.refl _ _).alloc (Nat.le_refl _) _).trans (hb4 _ (Nat.le_refl _))⟩
end Go.Proofs.YtijdnpoenpjnlaaGreatDoor
