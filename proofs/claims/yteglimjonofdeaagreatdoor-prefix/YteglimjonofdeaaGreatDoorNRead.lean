import Derived.Test.YteglimjonofdeaaGreatDoorNDisk
set_option linter.unusedVariables false
set_option linter.unusedSimpArgs false
namespace Go.Proofs.YteglimjonofdeaaGreatDoor
open Go.RowKit

def rdPost (w : World) (p bb n : Nat) (C : Nat → List Int) (i : Nat) (e : Ending) (w' : World) : Prop :=
  ∃ g, e = .returned (.tuple #[.slice (some ⟨g, 0, none⟩) 128 128, .nilIface]) ∧ w'.rangeAt g 0 (bytesV (C i)) ∧ w.heap.size ≤ g ∧ g < w'.heap.size ∧ DiskAt w' p bb n C (.slice none 0 0) [] ∧ Kept (· = p) w w'

set_option maxRecDepth 10000 in
set_option maxHeartbeats 1000000 in
theorem dread_any (p bb n i : Nat) (C : Nat → List Int) (w : World) (hi : i < n) (hn : n ≤ 1000) (h : DiskAt w p bb n C (.slice none 0 0) []) :
    Calls Tryz.prog 210 #[.pointer (some ⟨p, 0, none⟩), .int .i64 i] w (rdPost w p bb n C i) := by
  obtain ⟨c, r, hh⟩ := h.head
  have hf := dfails_any p bb n _ c r w hh
  obtain ⟨i0, hi8, hz8, hs8, hb8⟩ := info_u8
  go_enter Tryz.func210, Tryz.ntmps210
  go_wp2_with fail
  refine hf.mono ?_
  rintro e w1 ⟨rfl, hw1⟩
  have hh1 : w1.heap[p]? = some (.cells (diskH bb n (.slice none 0 0) (wrap64 (c + 1)) r) 151 (0, 0)) := by rw [hw1, heap_setCell_same w p 2 _ _ _ hh]; rfl
  have hk1 : Kept (· = p) w w1 := by rw [hw1]; exact Kept.setCell _ _ _ (Or.inl rfl)
  have HD1 : Hid (DiskAt w1 p bb n C (.slice none 0 0) []) := h.turn hk1 ⟨_, _, hh1⟩
  have hno := dnone_any p bb n i _ _ r w1 hi hh1
  have HH1 : Hid (w1.heap[p]? = some (.cells (diskH bb n (.slice none 0 0) (wrap64 (c + 1)) r) 151 (0, 0))) := hh1
  clear hf hw1 hh h hh1
  go_wp2_with fail
  refine hno.mono ?_
  rintro e w1' ⟨rfl, hw⟩
  obtain rfl : w1 = w1' := hw.symm
  clear hw hno
  go_wp2_with (at_make; refine wpList_make_full _ rfl _ _ 85 rfl w1.heap.size 5 i0 (.int .u8 0) 1 Tryz.underlying85 hi8 hz8 hs8 .i64 .i64 _ _ 128 rfl rfl ?L ?C ?b2 ?b3 (Nat.le_refl _) ?_)
  case L => rfl
  case C => rfl
  case b2 => rw [hb8]; omega
  case b3 => unfold maxLen; omega
  intro w2 ho2 hg2
  have hgt : w2.there w1.heap.size 0 128 := own_there ho2
  have hgl := (ho2.lt w1.heap.size rfl).2
  have hk2 : Kept (fun _ => False) w1 w2 := Kept.grown hg2 (fun k hk => by cases hk)
  have HD2 : Hid (DiskAt w2 p bb n C (.slice none 0 0) []) := HD1.out.turn (hk2.mono (fun _ _ h => h.elim)) ⟨_, _, (hk2.block p HD1.out.lt.1 id).trans HH1.out⟩
  have hh2 : w2.heap[p]? = some (.cells (diskH bb n (.slice none 0 0) (wrap64 (c + 1)) r) 151 (0, 0)) := (hk2.block p HD1.out.lt.1 id).trans HH1.out
  have c0 : w2.cell? ⟨p, 0, none⟩ = some (.slice (some ⟨bb, 0, none⟩) n n) := by rw [cell_of_row w2 p 0 _ _ _ hh2]; rfl
  have i1 : (i : Int) < (n : Int) := by omega
  have i2 : (0 : Int) ≤ (i : Int) := by omega
  have hrng := HD2.out.range i hi
  have hlen : (bytesV (C i)).length = 128 := by rw [bytesV_length, HD2.out.len i hi]
  have hrun := run_copy_cells (P := Tryz.prog) w2 85 85 3 5 w1.heap.size 0 128 128 ⟨bb, i * 128, none⟩ 128 128 (bytesV (C i)) Tryz.underlying85 (by kernel_rfl) (by rw [hlen]; rfl) (fun j v hv => by rw [addr_add]; exact hrng j v hv) (fun j hj => by rw [Nat.zero_add]; have := (hgt j (by omega)).1; rw [Nat.zero_add] at this; exact this) (fun j hj => by rw [Nat.zero_add]; have := (hgt j (by omega)).2; rw [Nat.zero_add] at this; exact this) (bytesV_one _)
  rw [hlen] at hrun
  have hk3 : Kept (fun _ => False) w1 (w2.setCells w1.heap.size 0 (bytesV (C i))) := hk2.trans (S' := (· = w1.heap.size)) (Kept.setCells _ _ _ _ (Or.inl rfl)) (fun g hg e => by omega)
  have hr3 : (w2.setCells w1.heap.size 0 (bytesV (C i))).rangeAt w1.heap.size 0 (bytesV (C i)) := World.rangeAt_setCells_same w2 _ _ _ (by rw [hlen]; exact hgt)
  generalize hw3 : w2.setCells w1.heap.size 0 (bytesV (C i)) = w3 at *
  have hz3 : w1.heap.size < w3.heap.size := by rw [← hw3, size_setCells]; exact hgl
  clear hh2 hrng hw3 hgt hgl
  have hh3 : w3.heap[p]? = some (.cells (diskH bb n (.slice none 0 0) (wrap64 (c + 1)) r) 151 (0, 0)) := (hk3.block p HD1.out.lt.1 id).trans HH1.out
  have HD3 : Hid (DiskAt w3 p bb n C (.slice none 0 0) []) := HD1.out.turn (hk3.mono (fun _ _ h => h.elim)) ⟨_, _, hh3⟩
  have c1 : w3.cell? ⟨p, 1, none⟩ = some (.slice none 0 0) := by rw [cell_of_row w3 p 1 _ _ _ hh3]; rfl
  clear hh3
  go_wp2_with (at_builtin; refine Lib.wpList_copy_run _ rfl _ _ 85 85 rfl _ _ rfl rfl hrun ?_)
  go_loopw [32] (fun i w4 => i = .int .i64 0 ∧ w4 = w3) (fun _ _ => 0)
  case atStart => exact ⟨rfl, rfl⟩
  case round =>
    obtain ⟨rfl, hw⟩ := hrel
    obtain rfl : w3 = wr := hw.symm
    clear hw
    go_wp2_with fail
    go_ret2
    exact ⟨w1.heap.size, rfl, hr3, hk1.size, hz3, HD3.out, hk1.trans hk3 (fun g _ h => h.elim)⟩
end Go.Proofs.YteglimjonofdeaaGreatDoor
