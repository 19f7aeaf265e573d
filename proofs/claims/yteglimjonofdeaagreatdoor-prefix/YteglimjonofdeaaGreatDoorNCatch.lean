import Derived.Test.YteglimjonofdeaaGreatDoorWSumAM
import Derived.Defers
import Derived.Recover
set_option linter.unusedVariables false
set_option linter.unusedSimpArgs false
namespace Go.Proofs.YteglimjonofdeaaGreatDoor
open Go.RowKit

theorem catch_idle (p : Addr) (w : World) :
    CallsD Tryz.prog 174 #[.pointer (some p)] .returning w fun e u' w' => e = .returned (.tuple #[]) ∧ u' = .returning ∧ w' = w := by
  refine callsD_of_wpS Tryz.func174 rfl fun c₀ cs hu => ?_
  apply wpS_seq
  apply wpS_region
  simp [wpOpsS, go_sem, recoverD, hu, Tryz.ntmps174, Exit.thenS]
  refine wpS_cond (t := false) (by simp [Act.eval, Array.replicate]) ?_
  simp only [Bool.false_eq_true, if_false]
  refine wpS_of_wp (wp_skip ?_)
  cases c₀
  simp_all [bodyPostS, results, Tryz.results174]

set_option maxRecDepth 100000 in
set_option maxHeartbeats 400000 in
/-- Catch, where what is done returns. -/
theorem catch_ok (f : FuncId) (caps : Array Value) (w : World) (Q : World → Prop) (hcf : ∀ w, (callFunc f caps).run Tryz.prog w = .ok (.enter f caps) w)
    (h : Calls Tryz.prog f caps (w.alloc (.cells #[.nilIface] 35)) fun e w' => e = .returned (.tuple #[]) ∧ Q w' ∧ w'.cell? ⟨w.heap.size, 0, none⟩ = some .nilIface ∧ w'.frozen? ⟨w.heap.size, 0, none⟩ = false) :
    Calls Tryz.prog 158 #[.func (.func f) #[] caps] w fun e w' => e = .returned .nilIface ∧ ∃ w1, Q w1 ∧ w' = w1.setCell ⟨w.heap.size, 0, none⟩ .nilIface := by
  have hmf : ∀ (fn : Fn) (first cap : Array Value) (w : World), (Instr.makeFunc fn first cap).run Tryz.prog w = .ok (.func fn first cap) w := fun _ _ _ _ => rfl
  go_enter_defers Tryz.func158, Tryz.ntmps158
  go_wp2_with fail
  refine h.mono ?_
  rintro e w1 ⟨rfl, hQ, hc, hf⟩
  clear h
  go_wp2_with fail
  refine leaves_cons (f := 174) (args := #[.pointer (some ⟨w.heap.size, 0, none⟩)]) (by simp) (by simp [go_sem]) ?_
  refine (catch_idle ⟨w.heap.size, 0, none⟩ _).mono ?_
  rintro e u' w2 ⟨rfl, rfl, rfl⟩
  have hc2 : (w1.setCell ⟨w.heap.size, 0, none⟩ .nilIface).cell? ⟨w.heap.size, 0, none⟩ = some .nilIface := World.cell?_setCell_same _ _ _ hc
  simp [Leaves, settle, results, Tryz.results158, go_sem, hc2]
  exact ⟨w1, hQ, rfl⟩
theorem enter_of1 (caps : Array Value) (w : World) : (callFunc 159 caps).run Tryz.prog w = .ok (.enter 159 caps) w := by kernel_rfl
end Go.Proofs.YteglimjonofdeaaGreatDoor
