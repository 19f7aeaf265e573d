import Derived.Test.YteglimjonofdeaaGreatDoorWSumAM
set_option linter.unusedVariables false
set_option linter.unusedSimpArgs false
namespace Go.Proofs.YteglimjonofdeaaGreatDoor
open Go.RowKit

/-- The cells of n blocks. -/
def blkC (C : Nat → List Int) : Nat → List Value
  | 0 => []
  | n + 1 => blkC C n ++ bytesV (C n)
/-- The cells of writes that are not sure. -/
def cacheL (L : List (Nat × List Int)) : List Value := L.flatMap fun x => .int .i64 (x.1 : Nat) :: bytesV x.2
def diskH (bb n : Nat) (cv : Value) (c r : Int) : Array Value := #[.slice (some ⟨bb, 0, none⟩) n n, cv, .int .i64 c, .int .i64 r, .int .i64 0, .int .i64 (-1), .int .i64 0, .int .i64 0]
/-- A disk that tells no error. -/
structure DiskAt (w : World) (p bb n : Nat) (C : Nat → List Int) (cv : Value) (L : List (Nat × List Int)) : Prop where
  head : ∃ c r : Int, w.heap[p]? = some (.cells (diskH bb n cv c r) 151 (0, 0))
  blocks : w.heap[bb]? = some (.cells (blkC C n).toArray 254 (0, 0))
  cache : w.ownsRow 0 304 129 cv L.length (cacheL L)
  apart : p ≠ bb ∧ cv.ownBlock ≠ some p ∧ cv.ownBlock ≠ some bb
  len : ∀ i, i < n → (C i).length = 128
  lens : ∀ x ∈ L, x.1 < n ∧ x.2.length = 128

set_option maxRecDepth 10000 in
set_option maxHeartbeats 400000 in
theorem dfails_any (p bb n : Nat) (cv : Value) (c r : Int) (w : World) (h : w.heap[p]? = some (.cells (diskH bb n cv c r) 151 (0, 0))) :
    Calls Tryz.prog 212 #[.pointer (some ⟨p, 0, none⟩)] w fun e w' => e = .returned (.bool false) ∧ w' = w.setCell ⟨p, 2, none⟩ (.int .i64 (wrap64 (c + 1))) := by
  have c2 : w.cell? ⟨p, 2, none⟩ = some (.int .i64 c) := by rw [cell_of_row w p 2 _ _ _ h]; rfl
  have f2 : w.frozen? ⟨p, 2, none⟩ = false := frozen_of_row w p 2 _ _ h
  have h2 := heap_setCell_same w p 2 _ _ (.int .i64 (wrap64 (c + 1))) h
  have d5 : (w.setCell ⟨p, 2, none⟩ (.int .i64 (wrap64 (c + 1)))).cell? ⟨p, 5, none⟩ = some (.int .i64 (-1)) := by rw [cell_of_row _ p 5 _ _ _ h2]; rfl
  have d6 : (w.setCell ⟨p, 2, none⟩ (.int .i64 (wrap64 (c + 1)))).cell? ⟨p, 6, none⟩ = some (.int .i64 0) := by rw [cell_of_row _ p 6 _ _ _ h2]; rfl
  have d7 : (w.setCell ⟨p, 2, none⟩ (.int .i64 (wrap64 (c + 1)))).cell? ⟨p, 7, none⟩ = some (.int .i64 0) := by rw [cell_of_row _ p 7 _ _ _ h2]; rfl
  clear h h2
  by_cases hc : 0 ≤ c
  · have hc0 : ¬ c < 0 := by omega
    go_enter Tryz.func212, Tryz.ntmps212
    go_wp2_with fail
    go_ret
    exact ⟨rfl, rfl⟩
  · have hc0 : c < 0 := by omega
    go_enter Tryz.func212, Tryz.ntmps212
    go_wp2_with fail
    go_ret
    exact ⟨rfl, rfl⟩

theorem blkC_len (C : Nat → List Int) : ∀ n, (∀ i, i < n → (C i).length = 128) → (blkC C n).length = 128 * n
  | 0, _ => rfl
  | n + 1, h => by rw [blkC, List.length_append, blkC_len C n (fun i hi => h i (by omega)), bytesV_length, h n (by omega)]; omega
theorem blkC_get (C : Nat → List Int) : ∀ n i j, (∀ i, i < n → (C i).length = 128) → i < n → j < 128 → (blkC C n)[128 * i + j]? = (bytesV (C i))[j]?
  | n + 1, i, j, h, hi, hj => by
    have hl := blkC_len C n (fun i hi => h i (by omega))
    rw [blkC]
    by_cases e : i = n
    · subst e
      rw [List.getElem?_append_right (by omega), hl, show 128 * i + j - 128 * i = j by omega]
    · rw [List.getElem?_append_left (by omega)]
      exact blkC_get C n i j (fun i hi => h i (by omega)) (by omega) hj
theorem DiskAt.lt {w : World} {p bb n : Nat} {C : Nat → List Int} {cv : Value} {L : List (Nat × List Int)} (h : DiskAt w p bb n C cv L) : p < w.heap.size ∧ bb < w.heap.size := by
  obtain ⟨c, r, h1⟩ := h.head
  exact ⟨block_lt h1, block_lt h.blocks⟩
/-- The cells of block i. -/
theorem DiskAt.range {w : World} {p bb n : Nat} {C : Nat → List Int} {cv : Value} {L : List (Nat × List Int)} (h : DiskAt w p bb n C cv L) (i : Nat) (hi : i < n) : w.rangeAt bb (i * 128) (bytesV (C i)) := by
  intro j v hv
  have hj : j < 128 := by
    have := (List.getElem?_eq_some_iff.1 hv).1
    rw [bytesV_length, h.len i hi] at this
    exact this
  rw [Nat.mul_comm i 128, cell_of_row w bb (128 * i + j) _ _ _ h.blocks, List.getElem?_toArray, blkC_get C n i j h.len hi hj, hv]
theorem DiskAt.there {w : World} {p bb n : Nat} {C : Nat → List Int} {cv : Value} {L : List (Nat × List Int)} (h : DiskAt w p bb n C cv L) (i : Nat) (hi : i < n) : w.there bb (i * 128) 128 := by
  intro j hj
  rw [Nat.mul_comm i 128, cell_of_row w bb (128 * i + j) _ _ _ h.blocks, frozen_of_row w bb (128 * i + j) _ _ h.blocks, List.getElem?_toArray, List.getElem?_eq_getElem (by rw [blkC_len C n h.len]; omega)]
  exact ⟨rfl, rfl⟩
/-- None of the disk's blocks has turned. -/
theorem DiskAt.kept {w w' : World} {p bb n : Nat} {C : Nat → List Int} {cv : Value} {L : List (Nat × List Int)} {S : Nat → Prop} (h : DiskAt w p bb n C cv L) (hk : Kept S w w') (h1 : ¬ S p) (h2 : ¬ S bb) (h3 : ∀ g, cv.ownBlock = some g → ¬ S g) : DiskAt w' p bb n C cv L := by
  obtain ⟨c, r, hh⟩ := h.head
  exact ⟨⟨c, r, (hk.block p (block_lt hh) h1).trans hh⟩, (hk.block bb h.lt.2 h2).trans h.blocks, hk.own h.cache h3, h.apart, h.len, h.lens⟩
/-- Block p's numbers alone have turned. -/
theorem DiskAt.turn {w w' : World} {p bb n : Nat} {C : Nat → List Int} {cv : Value} {L : List (Nat × List Int)} (h : DiskAt w p bb n C cv L) (hk : Kept (· = p) w w') (hh : ∃ c r : Int, w'.heap[p]? = some (.cells (diskH bb n cv c r) 151 (0, 0))) : DiskAt w' p bb n C cv L :=
  ⟨hh, (hk.block bb h.lt.2 (fun e => h.apart.1 e.symm)).trans h.blocks, hk.own h.cache (fun g hg e => by subst e; exact h.apart.2.1 hg), h.apart, h.len, h.lens⟩

set_option maxRecDepth 10000 in
set_option maxHeartbeats 400000 in
theorem dblocks_any (p bb n : Nat) (cv : Value) (c r : Int) (w : World) (h : w.heap[p]? = some (.cells (diskH bb n cv c r) 151 (0, 0))) :
    Calls Tryz.prog 207 #[.pointer (some ⟨p, 0, none⟩)] w fun e w' => e = .returned (.int .i64 n) ∧ w' = w := by
  have c0 : w.cell? ⟨p, 0, none⟩ = some (.slice (some ⟨bb, 0, none⟩) n n) := by rw [cell_of_row w p 0 _ _ _ h]; rfl
  clear h
  go_enter Tryz.func207, Tryz.ntmps207
  go_wp2_with fail
  go_ret
  exact ⟨rfl, rfl⟩

set_option maxRecDepth 10000 in
set_option maxHeartbeats 400000 in
theorem dnone_any (p bb n i : Nat) (cv : Value) (c r : Int) (w : World) (hi : i < n) (h : w.heap[p]? = some (.cells (diskH bb n cv c r) 151 (0, 0))) :
    Calls Tryz.prog 213 #[.pointer (some ⟨p, 0, none⟩), .int .i64 i] w fun e w' => e = .returned (.bool false) ∧ w' = w := by
  have c0 : w.cell? ⟨p, 0, none⟩ = some (.slice (some ⟨bb, 0, none⟩) n n) := by rw [cell_of_row w p 0 _ _ _ h]; rfl
  have i0 : ¬ (i : Int) < 0 := by omega
  have i1 : decide (n ≤ i) = false := by simp; omega
  clear h
  go_enter Tryz.func213, Tryz.ntmps213
  go_wp2_with fail
  go_ret
  exact ⟨rfl, rfl⟩
end Go.Proofs.YteglimjonofdeaaGreatDoor
