import Derived.Test.YteglimjonofdeaaGreatDoorNFlush
import Derived.Test.YteglimjonofdeaaGreatDoorNCatch
set_option linter.unusedVariables false
set_option linter.unusedSimpArgs false
namespace Go.Proofs.YteglimjonofdeaaGreatDoor
open Go.RowKit

/-- A disk as a device. -/
def devV (p : Nat) : Value := .iface 23 (.pointer (some ⟨p, 0, none⟩))
theorem m_blocks (v : Value) (w : World) : (method 421 23 v "Blocks").run Tryz.prog w = .ok (207, v) w := by kernel_rfl
theorem m_read (v : Value) (w : World) : (method 421 23 v "Read").run Tryz.prog w = .ok (210, v) w := by kernel_rfl
theorem m_write (v : Value) (w : World) : (method 421 23 v "Write").run Tryz.prog w = .ok (211, v) w := by kernel_rfl
theorem m_flush (v : Value) (w : World) : (method 421 23 v "Flush").run Tryz.prog w = .ok (209, v) w := by kernel_rfl

set_option maxRecDepth 10000 in
set_option maxHeartbeats 400000 in
theorem of1_any (p bb n a s : Nat) (C : Nat → List Int) (cv : Value) (L : List (Nat × List Int)) (w : World) (h : DiskAt w p bb n C cv L) (x : Value) (ha : w.cell? ⟨a, 0, none⟩ = some (devV p)) (hs : w.cell? ⟨s, 0, none⟩ = some x) (hf : w.frozen? ⟨s, 0, none⟩ = false) :
    Calls Tryz.prog 159 #[.pointer (some ⟨a, 0, none⟩), .pointer (some ⟨s, 0, none⟩)] w fun e w' => e = .returned (.tuple #[]) ∧ w' = w.setCell ⟨s, 0, none⟩ (.int .i64 n) := by
  obtain ⟨c, r, hh⟩ := h.head
  have hb := dblocks_any p bb n cv c r w hh
  have hm := m_blocks (.pointer (some ⟨p, 0, none⟩))
  unfold devV at ha
  clear h hh
  go_enter Tryz.func159, Tryz.ntmps159
  go_wp2_with fail
  refine hb.mono ?_
  rintro e w1 ⟨rfl, hw⟩
  obtain rfl : w = w1 := hw.symm
  clear hw hb
  go_wp2_with fail
  go_end0
  exact ⟨rfl, rfl⟩

set_option maxRecDepth 10000 in
set_option maxHeartbeats 400000 in
theorem throw_nil (w : World) : Calls Tryz.prog 176 #[.nilIface] w fun e w' => e = .returned (.tuple #[]) ∧ w' = w := by
  go_enter Tryz.func176, Tryz.ntmps176
  go_wp2_with fail
  go_end0
  exact ⟨rfl, rfl⟩

/-- A volume's cells. -/
def volL (p n : Nat) : List Value := [devV p, .int .i64 (n : Nat)]
theorem info_vol (p n : Nat) : (Tryz.prog.info? 222).map (·.size) = some (volL p n).length := by show _ = some 2; kernel_rfl
theorem volL_one (p n : Nat) : ∀ u ∈ volL p n, u.oneCell' = true := by intro u hu; unfold volL devV at hu; simp at hu; rcases hu with rfl | rfl <;> rfl
theorem DiskAt.fresh {w w' : World} {p bb n : Nat} {C : Nat → List Int} {cv : Value} {L : List (Nat × List Int)} (h : DiskAt w p bb n C cv L) (hb : Below w.heap.size w w') : DiskAt w' p bb n C cv L := by
  obtain ⟨c, r, hh⟩ := h.head
  exact h.turn (Kept.fresh hb) ⟨c, r, (hb.block p h.lt.1).trans hh⟩

set_option maxRecDepth 10000 in
set_option maxHeartbeats 400000 in
theorem volOf_any (p bb n : Nat) (C : Nat → List Int) (cv : Value) (L : List (Nat × List Int)) (w : World) (h : DiskAt w p bb n C cv L) (h8 : 8 ≤ n) (h4 : n ≤ 400) :
    Calls Tryz.prog 131 #[devV p] w fun e w' => e = .returned (.tuple #[.agg (volL p n).toArray, .nilIface]) ∧ Below w.heap.size w w' := by
  have hmf : ∀ (fn : Fn) (first cap : Array Value) (w : World), (Instr.makeFunc fn first cap).run Tryz.prog w = .ok (.func fn first cap) w := fun _ _ _ _ => rfl
  have n8 : ¬ (n : Int) < 8 := by omega
  have n4 : ¬ (400 : Int) < (n : Int) := by omega
  have HD : Hid (DiskAt w p bb n C cv L) := h
  clear h
  go_enter Tryz.func131, Tryz.ntmps131
  unfold devV
  go_wp2_with fail
  obtain ⟨W, hW⟩ : ∃ W, W = ((w.alloc (.cells #[.iface 23 (.pointer (some ⟨p, 0, none⟩))] 154)).alloc (.cells #[.nilIface, .int .i64 0] 222)).alloc (.cells #[.int .i64 0] 3) := ⟨_, rfl⟩
  rw [← hW]
  have hWs : W.heap.size = w.heap.size + 3 := by rw [hW]; simp
  have hB : Below w.heap.size w W := by rw [hW]; exact (((Below.refl _ _).alloc (Nat.le_refl _) _).alloc (by simp) _).alloc (by simp; omega) _
  have q0 : W.cell? ⟨w.heap.size, 0, none⟩ = some (devV p) := by rw [hW]; rw [World.cell?_alloc_past _ _ _ (by simp; omega), World.cell?_alloc_past _ _ _ (by simp), World.cell?_alloc_at _ _ _ _ rfl]; rfl
  have q1 : W.there (w.heap.size + 1) 0 2 := by
    rw [hW]
    have := World.there_alloc (there_new (w.alloc (.cells #[.iface 23 (.pointer (some ⟨p, 0, none⟩))] 154)) #[.nilIface, .int .i64 0] 222) (.cells #[.int .i64 0] 3)
    simpa using this
  have q2 : W.cell? ⟨w.heap.size + 1 + 1, 0, none⟩ = some (.int .i64 0) := by rw [hW]; rw [World.cell?_alloc_at _ _ _ _ (by simp)]; rfl
  have f2 : W.frozen? ⟨w.heap.size + 1 + 1, 0, none⟩ = false := by rw [hW]; rw [World.frozen?_alloc_at _ _ _ _ (by simp)]
  clear hW
  have hBe : Below W.heap.size W (W.alloc (.cells #[.nilIface] 35)) := (Below.refl _ _).alloc (Nat.le_refl _) _
  have h1 := of1_any p bb n w.heap.size (w.heap.size + 1 + 1) C cv L (W.alloc (.cells #[.nilIface] 35)) ((HD.out.fresh hB).fresh hBe) (.int .i64 0) (by rw [World.cell?_alloc_past _ _ _ (by omega)]; exact q0) (by rw [World.cell?_alloc_past _ _ _ (by omega)]; exact q2) (by rw [World.frozen?_alloc_past _ _ _ (by omega)]; exact f2)
  have hcat := catch_ok 159 #[.pointer (some ⟨w.heap.size, 0, none⟩), .pointer (some ⟨w.heap.size + 1 + 1, 0, none⟩)] W (fun w1 => w1 = (W.alloc (.cells #[.nilIface] 35)).setCell ⟨w.heap.size + 1 + 1, 0, none⟩ (.int .i64 n)) (enter_of1 _) (h1.mono (fun e w' ⟨he, hw'⟩ => ⟨he, hw', by rw [hw', World.cell?_setCell_other _ _ _ _ (by intro e; have := congrArg Addr.block e; simp at this; omega), World.cell?_alloc_at _ _ _ _ rfl]; rfl, by rw [hw', World.frozen?_setCell, World.frozen?_alloc_at _ _ _ _ rfl]⟩))
  refine hcat.mono ?_
  rintro e w4 ⟨rfl, w1, hw1, hw4⟩
  have hw4s : w4.heap.size = w.heap.size + 4 := by rw [hw4, hw1]; simp; omega
  have hB4 : Below w.heap.size w w4 := by rw [hw4, hw1]; exact ((hB.alloc (by omega) _).setCell (p := ⟨w.heap.size + 1 + 1, 0, none⟩) (by show w.heap.size ≤ w.heap.size + 1 + 1; omega) _).setCell (p := ⟨W.heap.size, 0, none⟩) (by show w.heap.size ≤ W.heap.size; omega) _
  have p2 : w4.cell? ⟨w.heap.size + 1 + 1, 0, none⟩ = some (.int .i64 n) := by
    rw [hw4, hw1, World.cell?_setCell_other _ _ _ _ (by intro e; have := congrArg Addr.block e; simp at this; omega), World.cell?_setCell_same _ _ _ (u := .int .i64 0) (by rw [World.cell?_alloc_past _ _ _ (by omega)]; exact q2)]
  have p0 : w4.cell? ⟨w.heap.size, 0, none⟩ = some (.iface 23 (.pointer (some ⟨p, 0, none⟩))) := by
    rw [hw4, hw1, World.cell?_setCell_other _ _ _ _ (by intro e; have := congrArg Addr.block e; simp at this; omega), World.cell?_setCell_other _ _ _ _ (by intro e; have := congrArg Addr.block e; simp at this; omega), World.cell?_alloc_past _ _ _ (by omega)]; exact q0
  have p1 : w4.there (w.heap.size + 1) 0 2 := by
    rw [hw4, hw1]
    intro j hj
    have := World.there_setCells (World.there_setCells (World.there_alloc q1 (.cells #[.nilIface] 35)) (w.heap.size + 1 + 1) 0 [.int .i64 n]) W.heap.size 0 [.nilIface] j hj
    exact this
  clear hcat h1 hw4 hw1 q0 q1 q2 f2 hBe
  go_wp2_with (refine wpList_store_abs rfl 222 _ _ rfl (w.heap.size + 1) 0 (volL p n) rfl rfl p1 (info_vol p n) (volL_one p n) ?_; intro w5 _hw5 hr5 _ht5 hb5; clear _hw5 _ht5)
  exact ret_cell_tmp rfl (w.heap.size + 1) 0 (volL p n) _ .nilIface rfl rfl hr5 Tryz.underlying222 rfl (info_vol p n) rfl ⟨rfl, hB4.trans (hb5 _ (by omega))⟩
end Go.Proofs.YteglimjonofdeaaGreatDoor
