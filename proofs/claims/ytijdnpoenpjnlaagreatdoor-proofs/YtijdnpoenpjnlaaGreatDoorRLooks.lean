import Derived.Test.YtijdnpoenpjnlaaGreatDoorRText
set_option linter.unusedVariables false
set_option linter.unusedSimpArgs false
namespace Go.Proofs.YtijdnpoenpjnlaaGreatDoor
open Go.RowKit

set_option maxHeartbeats 400000 in
theorem looks_nil (p k : Nat) (S : WS) (w : World) (h : WAt p k w S) (hg : S.gv = .slice none 0 0) :
    Calls Tryz.prog 22 #[.pointer (some ⟨p, 0, none⟩)] w fun e w' => e = .returned (.bool true) ∧ w' = w := by
  have hc6 : w.cell? ⟨p, 6, none⟩ = some (.slice none 0 0) := by rw [h.cell 6, ← hg]; rfl
  have hc8 : w.cell? ⟨p, 8, none⟩ = some (.slice none 0 0) := h.cell 8
  clear h hg
  go_enter Tryz.func22, Tryz.ntmps22
  go_wp2
  go_loopw [3] (fun i wr => i = .int .i64 0 ∧ wr = w) (fun _ _ => 0)
  case atStart => exact ⟨rfl, rfl⟩
  case round =>
    obtain ⟨rfl, rfl⟩ := hrel
    go_wp2
    go_loopw [5] (fun i wr' => i = .int .i64 0 ∧ wr' = wr) (fun _ _ => 0)
    case atStart => exact ⟨rfl, rfl⟩
    case round =>
      obtain ⟨rfl, rfl⟩ := hrel
      go_wp2
      go_ret
      exact ⟨rfl, rfl⟩

/-- A step of a script, as its cells. -/
def opCells (k x y z a b c : Int) (s : ByteArray) : List Value := [.int .i64 k, .int .i64 x, .int .i64 y, .int .i64 z, .int .i64 a, .int .i64 b, .int .i64 c, .string s]
theorem info_op (k x y z a b c : Int) (s : ByteArray) : (Tryz.prog.info? 28).map (·.size) = some (opCells k x y z a b c s).length := by
  rw [show (opCells k x y z a b c s).length = 8 from rfl]; kernel_rfl

set_option maxHeartbeats 400000 in
theorem power_not (p : Nat) (k x y z a b c : Int) (s : ByteArray) (w : World) (hk : k < 11 ∨ 13 < k) :
    Calls Tryz.prog 28 #[.pointer (some ⟨p, 0, none⟩), .agg (opCells k x y z a b c s).toArray] w fun e w' => e = .returned (.bool false) ∧ Below w.heap.size w w' := by
  by_cases h1 : k < 11
  · go_enter Tryz.func28, Tryz.ntmps28
    unfold opCells
    go_wp2
    go_ret
    exact ⟨rfl, (Below.refl _ _).alloc (Nat.le_refl _) _⟩
  · have h2 : 13 < k := by omega
    clear hk
    go_enter Tryz.func28, Tryz.ntmps28
    unfold opCells
    go_wp2
    go_ret
    exact ⟨rfl, (Below.refl _ _).alloc (Nat.le_refl _) _⟩
end Go.Proofs.YtijdnpoenpjnlaaGreatDoor
