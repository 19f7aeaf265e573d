import Derived.Test.YteglimjonofdeaaGreatDoorNRead2
import Derived.Test.YteglimjonofdeaaGreatDoorNFmt2
set_option linter.unusedVariables false
set_option linter.unusedSimpArgs false
namespace Go.Proofs.YteglimjonofdeaaGreatDoor
open Go.RowKit

/-- What Open's own part leaves: the records that were read lie in f. -/
def op1Post (K : Nat → Int) (p bb n j a f : Nat) (C : Nat → List Int) (l r : ByteArray) (w : World) (e : Ending) (w' : World) : Prop :=
  e = .returned (.tuple #[]) ∧ ∃ g cap, w'.cell? ⟨f, 0, none⟩ = some (.slice (some ⟨g, 0, none⟩) 1 cap) ∧ w'.ownsRow w.heap.size 9 1 (.slice (some ⟨g, 0, none⟩) 1 cap) 1 [.string r] ∧ DiskAt w' p bb n C (.slice none 0 0) [] ∧ w'.rangeAt j 0 (jL p n (sumOf K (l ++ r)) 1) ∧ w'.there j 0 35 ∧ Kept (fun g => g = p ∨ g = bb ∨ g = j ∨ g = f) w w'

set_option maxRecDepth 100000 in
set_option maxHeartbeats 400000 in
theorem open1_any (K : Nat → Int) (p bb n j a f : Nat) (C : Nat → List Int) (l r : ByteArray) (w : World) (hn : n ≤ 1000) (hn8 : 8 ≤ n) (hl : l.size = 32) (hr : r.size ≤ 18) (hjp : j ≠ p) (hjb : j ≠ bb) (hjl : j < w.heap.size) (L0 : Jv p bb n j C l 0 w w) (T : Tab K w) (hpT : ¬ 1 = p) (hjT : ¬ 1 = j)
    (hC0 : C 0 = packN K l r) (hC1 : C 1 = z128) (hno : z128.take 32 ≠ (packN K (sumOf K (l ++ r)) ⟨#[]⟩).take 32)
    (hal : a < w.heap.size ∧ f < w.heap.size) (hap : a ≠ p ∧ a ≠ bb ∧ a ≠ j ∧ a ≠ f) (hfp : f ≠ p ∧ f ≠ bb ∧ f ≠ j) (x : Value) (hca : w.cell? ⟨a, 0, none⟩ = some (.pointer (some ⟨j, 0, none⟩))) (hcf : w.cell? ⟨f, 0, none⟩ = some x) (hff : w.frozen? ⟨f, 0, none⟩ = false) :
    Calls Tryz.prog 177 #[.pointer (some ⟨a, 0, none⟩), .pointer (some ⟨f, 0, none⟩)] w (op1Post K p bb n j a f C l r w) := by
  have hrd := read_fresh K p bb n j C l r w hn hn8 hl hr hjp hjb hjl L0 T hpT hjT hC0 hC1 hno
  have HPL : Hid (p < w.heap.size ∧ bb < w.heap.size) := L0.disk.lt
  have HIV : Hid ((Tryz.prog.info? 222).map (·.size) = some (volL p n).length) := info_vol p n
  clear L0 T hno hC0 hC1
  go_enter Tryz.func177, Tryz.ntmps177
  go_wp2_with fail
  refine hrd.mono ?_
  rintro e w1 ⟨g, cap, rfl, hO, hD, hJ, hT, hk⟩
  clear hrd
  have hca1 : w1.cell? ⟨a, 0, none⟩ = some (.pointer (some ⟨j, 0, none⟩)) := (hk.cell (a := ⟨a, 0, none⟩) hal.1 (by show ¬ (a = p ∨ a = j); omega)).trans hca
  have hcf1 : w1.cell? ⟨f, 0, none⟩ = some x := (hk.cell (a := ⟨f, 0, none⟩) hal.2 (by show ¬ (f = p ∨ f = j); omega)).trans hcf
  have hff1 : w1.frozen? ⟨f, 0, none⟩ = false := (hk.frozen (a := ⟨f, 0, none⟩) hal.2 (by show ¬ (f = p ∨ f = j); omega)).trans hff
  have hgb := (hO.lt g rfl)
  obtain ⟨W, hW⟩ : ∃ W, W = w1.setCell ⟨f, 0, none⟩ (.slice (some ⟨g, 0, none⟩) 1 cap) := ⟨_, rfl⟩
  have hk2 : Kept (· = f) w1 W := by rw [hW]; exact Kept.setCell _ _ _ (Or.inl rfl)
  have hs := hk.size
  have hcaW : W.cell? ⟨a, 0, none⟩ = some (.pointer (some ⟨j, 0, none⟩)) := (hk2.cell (a := ⟨a, 0, none⟩) (by show a < _; omega) (by show ¬ (a = f); omega)).trans hca1
  have hcfW : W.cell? ⟨f, 0, none⟩ = some (.slice (some ⟨g, 0, none⟩) 1 cap) := by rw [hW]; exact World.cell?_setCell_same _ _ _ hcf1
  have hOW : W.ownsRow w.heap.size 9 1 (.slice (some ⟨g, 0, none⟩) 1 cap) 1 [.string r] := hk2.own hO (fun g' hg' e => by
    obtain rfl : g = g' := by simpa [Value.ownBlock] using hg'
    have e' : g = f := e
    omega)
  have hDW := hD.kept hk2 (by omega) (by omega) (fun g hg => by cases hg)
  have hJW : W.rangeAt j 0 (jL p n (sumOf K (l ++ r)) 1) := fun i v hv => (hk2.cell (a := ⟨j, 0 + i, none⟩) (by show j < _; omega) (by show ¬ (j = f); omega)).trans (hJ i v hv)
  have hTW : W.there j 0 35 := fun i hi => by rw [hk2.cell (a := ⟨j, 0 + i, none⟩) (by show j < _; omega) (by show ¬ (j = f); omega), hk2.frozen (a := ⟨j, 0 + i, none⟩) (by show j < _; omega) (by show ¬ (j = f); omega)]; exact hT i hi
  have hv0 : W.cell? ⟨j, 0, none⟩ = some (devV p) := j_vol hJW 0 _ rfl
  have hv1 : W.cell? ⟨j, 1, none⟩ = some (.int .i64 (n : Nat)) := j_vol hJW 1 _ rfl
  have hse := vsettle_any p bb n C (.slice none 0 0) [] W hn (by show 0 ≤ _; omega) hDW
  have HK : Hid (Kept (fun g => g = p ∨ g = bb ∨ g = j ∨ g = f) w W) := Kept.trans (S := fun g => g = p ∨ g = bb ∨ g = j ∨ g = f) (hk.mono (fun g _ h => by omega)) hk2 (fun g _ h => by omega)
  have HR : Hid (W.ownsRow w.heap.size 9 1 (.slice (some ⟨g, 0, none⟩) 1 cap) 1 [.string r] ∧ W.rangeAt j 0 (jL p n (sumOf K (l ++ r)) 1) ∧ W.there j 0 35 ∧ w.heap.size ≤ g ∧ w.heap.size ≤ W.heap.size) := ⟨hOW, hJW, hTW, hgb.1, by have := hk2.size; omega⟩
  have HC : Hid (W.cell? ⟨f, 0, none⟩ = some (.slice (some ⟨g, 0, none⟩) 1 cap)) := hcfW
  clear hk hk2 hO hOW hD hDW hJ hT hJW hTW hgb hs
  unfold volL devV at *
  go_wp2_with (rw [← hW]; clear hW hca1 hcf1 hff1)
  refine hse.mono ?_
  rintro e w2 ⟨rfl, hD2, hk⟩
  clear hse
  go_wp2_with fail
  go_end0
  have hr := HR.out
  have hpl := HPL.out
  refine ⟨rfl, g, cap, (hk.cell (a := ⟨f, 0, none⟩) (by show f < _; omega) (by show ¬ (f = p ∨ f = bb); omega)).trans HC.out, hk.own hr.1 (fun g' hg' e => ?_), hD2, fun i v hv => (hk.cell (a := ⟨j, 0 + i, none⟩) (by show j < _; omega) (by show ¬ (j = p ∨ j = bb); omega)).trans (hr.2.1 i v hv), fun i hi => ?_, HK.out.trans hk (fun g _ h => by omega)⟩
  · obtain rfl : g = g' := by simpa [Value.ownBlock] using hg'
    have e' : g = p ∨ g = bb := e
    omega
  · rw [hk.cell (a := ⟨j, 0 + i, none⟩) (by show j < _; omega) (by show ¬ (j = p ∨ j = bb); omega), hk.frozen (a := ⟨j, 0 + i, none⟩) (by show j < _; omega) (by show ¬ (j = p ∨ j = bb); omega)]; exact hr.2.2.1 i hi
end Go.Proofs.YteglimjonofdeaaGreatDoor
