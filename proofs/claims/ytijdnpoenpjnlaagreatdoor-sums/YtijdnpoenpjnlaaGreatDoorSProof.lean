import Derived.Test.YtijdnpoenpjnlaaGreatDoorConsts
import Derived.Test.YtijdnpoenpjnlaaGreatDoorCards
import Derived.Test.YtijdnpoenpjnlaaGreatDoorTie
import Derived.Test.YtijdnpoenpjnlaaGreatDoorSOpen
import Derived.ProofKit
import Derived.OpenShut
import Derived.Deep.DeepHandedRow
import Derived.Lib.LaidTab
import Derived.SizedLaws
import Derived.LaidHandle
import Derived.Carry
set_option linter.unusedVariables false
set_option linter.unusedSimpArgs false
namespace Go.Proofs.YtijdnpoenpjnlaaGreatDoor
open Go.ChangeShapes Go.WideShapes Go.ChangeAt Go.RowKit

theorem own : ownKnob Tryz.prog.godebug = none := by kernel_rfl
theorem laidOut : laidOutB Tryz.prog = true := by kernel_rfl
theorem gRounds : Tryz.prog.globalNamed "auditbook/hash.rounds" = some 0 := by kernel_rfl
theorem gRoundsType : (Tryz.prog.globals[0]?).map (·.type) = some 94 := by kernel_rfl
theorem cells64 : Tryz.prog.cellsOf 94 = 64 := by kernel_rfl
theorem cells32 : Tryz.prog.cellsOf 93 = 1 := by kernel_rfl
theorem gErr : Tryz.prog.globalNamed "errors.errorType" = some 1 := by kernel_rfl
theorem rtRow : (Tryz.prog.cutTypes.find? (·.1 == "internal/reflectlite.rtype")).map (·.2) = some 308 := by kernel_rfl
theorem oneRow : ((List.range 412).filter fun t => Tryz.prog.rowNamed t [101, 114, 114, 111, 114]) = [100] := by kernel_rfl
theorem typesSize : Tryz.prog.types.size = 412 := by kernel_rfl

/-- What the row's list gives: the table's cells, the handle's cell. -/
theorem laid_parts {W : World} (h : laidMetH Tryz.prog Rows.sumsRow.laid W) :
    (∀ j, j < 64 → W.cell? ⟨0, j, none⟩ = some (.int .u32 (roundsK.getD j 0))) ∧ W.cell? ⟨1, 0, none⟩ = some errTypeV := by
  have h' : laidMet Tryz.prog [("auditbook/hash.rounds", Rows.laid_auditbook_hash_rounds)] W ∧ handlesMet Tryz.prog [("errors.errorType", Rows.laid_errors_errorType)] W := h
  refine ⟨fun j hj => ?_, ?_⟩
  · have ht : Lib.TabIs Tryz.prog W "auditbook/hash.rounds" .u32 roundsK := Lib.tabIs_of_head (rest := []) gRounds gRoundsType Tryz.underlying94 Tryz.underlying93 cells32 cells64 h'.1
    exact ht.cell gRounds j (by show j < 64; exact hj)
  · obtain ⟨name, u, ty, e1, e2, e3, e4, e5⟩ := h'.2 _ (List.mem_singleton.2 rfl)
    have en : name = [101, 114, 114, 111, 114] := (Option.some.inj e1).symm
    subst en
    obtain rfl := Option.some.inj (rtRow.symm.trans e2)
    have hm : ty ∈ (List.range 412).filter fun t => Tryz.prog.rowNamed t [101, 114, 114, 111, 114] := List.mem_filter.2 ⟨List.mem_range.2 (by rw [← typesSize]; exact e3), e4⟩
    rw [oneRow] at hm
    obtain rfl := List.mem_singleton.1 hm
    have hh : typeHandle Tryz.prog 100 = .pointer (some ⟨2, 100, none⟩) := by kernel_rfl
    rw [hh] at e5
    have hc := World.var?_cell gErr e5 0
    simp at hc
    exact hc

theorem heap_of_cell {W : World} {b o : Nat} {v : Value} (h : W.cell? ⟨b, o, none⟩ = some v) : b < W.heap.size := by
  rcases Nat.lt_or_ge b W.heap.size with h1 | h1
  · exact h1
  · simp [World.cell?, Array.getElem?_eq_none h1] at h
end Go.Proofs.YtijdnpoenpjnlaaGreatDoor
