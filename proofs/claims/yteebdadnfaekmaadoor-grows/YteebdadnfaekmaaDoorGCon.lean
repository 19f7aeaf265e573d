import Derived.Test.YteebdadnfaekmaaDoorConsts
import Derived.Test.YteebdadnfaekmaaDoorCards
import Derived.Test.YteebdadnfaekmaaDoorTie
import Derived.Test.YteebdadnfaekmaaDoorGLaw
import Derived.ProofKit
import Derived.OpenShut
import Derived.Deep.DeepHandedRow
import Derived.Lib.LaidTab
import Derived.SizedLaws
import Derived.LaidHandle
import Derived.Carry
set_option linter.unusedVariables false
set_option linter.unusedSimpArgs false
namespace Go.Proofs.YteebdadnfaekmaaDoor
open Go.ChangeShapes Go.WideShapes Go.ChangeAt Go.RowKit

theorem own : ownKnob Tryd.prog.godebug = none := by kernel_rfl
theorem gRounds : Tryd.prog.globalNamed "auditbook/hash.rounds" = some 1 := by kernel_rfl
theorem gRoundsType : (Tryd.prog.globals[1]?).map (·.type) = some 114 := by kernel_rfl
theorem cells64 : Tryd.prog.cellsOf 114 = 64 := by kernel_rfl
theorem cells32 : Tryd.prog.cellsOf 71 = 1 := by kernel_rfl

/-- What the row's list gives: the table's cells. -/
theorem laid_parts {W : World} (h : laidMetH Tryd.prog Rows.growsRow.laid W) : ∀ j, j < 64 → W.cell? ⟨1, j, none⟩ = some (.int .u32 (roundsK.getD j 0)) := by
  have h' : laidMet Tryd.prog [("auditbook/hash.rounds", Rows.laid_auditbook_hash_rounds)] W := h
  intro j hj
  have ht : Lib.TabIs Tryd.prog W "auditbook/hash.rounds" .u32 roundsK := Lib.tabIs_of_head (rest := []) gRounds gRoundsType Tryd.underlying114 Tryd.underlying71 cells32 cells64 h'
  exact ht.cell gRounds j (by show j < 64; exact hj)

theorem heap_of_cell {W : World} {b o : Nat} {v : Value} (h : W.cell? ⟨b, o, none⟩ = some v) : b < W.heap.size := by
  rcases Nat.lt_or_ge b W.heap.size with h1 | h1
  · exact h1
  · simp [World.cell?, Array.getElem?_eq_none h1] at h

set_option maxRecDepth 100000 in
/-- The law, for every argument and every world that holds the table. -/
theorem contract (H : Type) (enc : TypeId × Value → H) (W : World) (base : Nat) (args : Array Value) (ds gs : List (DataW H)) (before : List MemPlace)
    (hval : ∀ (j : Nat) t v, Tryd.f5.params[j]? = some t → args[j]? = some v → Value.okWide Tryd.prog W .any base t v)
    (hW : DataW.Whole enc Tryd.prog Tryd.f5.params.toList Rows.growsSpec.vars false W args.toList ds gs before) (hL : laidMetH Tryd.prog Rows.growsRow.laid W) :
    Calls Tryd.prog 5 args W fun e W' => ∃ v, e = .returned v ∧ Rows.growsSpec.post enc Tryd.prog Tryd.f5 false true false false W args v W' := by
  have hW' := hW
  obtain ⟨p, q, hA0, hV, rfl, hfz, hnd⟩ := hW
  have hA : DataW.TrodAll enc Tryd.prog W 0 (fun _ => true) true Tryd.f5.params.toList args.toList ds p := hA0
  rw [Tryd.params5] at hA hval
  obtain ⟨v0, v1, v2, v3, d0, d1, d2, d3, p0, p1, p2, p3, rfl, rfl, rfl, h0, h1, h2, h3⟩ := trodAll_four hA
  obtain ⟨rfl, rfl⟩ := trodVars_none hV
  obtain ⟨c, rfl, rfl, rfl, hwc⟩ := open_int Tryd.underlying3 (hval 0 3 v0 (by rfl) (by rfl)) h0
  obtain ⟨n, rfl, rfl, rfl, hwn⟩ := open_int Tryd.underlying3 (hval 1 3 v1 (by rfl) (by rfl)) h1
  obtain ⟨i, rfl, rfl, rfl, hwi⟩ := open_int Tryd.underlying3 (hval 2 3 v2 (by rfl) (by rfl)) h2
  obtain ⟨a, rfl, rfl, rfl, hwa⟩ := open_int Tryd.underlying3 (hval 3 3 v3 (by rfl) (by rfl)) h3
  clear hA0
  have hK := laid_parts hL
  have hgK := heap_of_cell (hK 0 (by omega))
  have bc := bounds_i64 hwc
  have bn := bounds_i64 hwn
  have bi := bounds_i64 hwi
  have ba := bounds_i64 hwa
  refine (grows_any c n i a _ W (by omega) (by omega) (by omega) (by omega) (by omega) (by omega) (by omega) (by omega) ⟨hgK, hK⟩).mono fun e W' ⟨he, hB⟩ => ?_
  subst he
  simp only [List.append_nil] at hW'
  have e1 : Rows.growsSpec.fn H ([.lit (.int .i64 c), .lit (.int .i64 n), .lit (.int .i64 i), .lit (.int .i64 a)] ++ []) = { results := [.lit (.bool true)], args := [.lit (.int .i64 c), .lit (.int .i64 n), .lit (.int .i64 i), .lit (.int .i64 a)] } := by simp [Rows.growsSpec]
  refine ⟨_, rfl, _, _, _, [], [], [], hW', ?_, ?_, ?_, hB.frame _, fun h => by cases h⟩
  · rw [e1]; exact trodAll_mk1 (shut_bool Tryd.underlying4 true)
  · rw [e1]; exact trodAll_mk4 (shut_int Tryd.underlying3 hwc) (shut_int Tryd.underlying3 hwn) (shut_int Tryd.underlying3 hwi) (shut_int Tryd.underlying3 hwa)
  · rw [e1]; rfl
end Go.Proofs.YteebdadnfaekmaaDoor
