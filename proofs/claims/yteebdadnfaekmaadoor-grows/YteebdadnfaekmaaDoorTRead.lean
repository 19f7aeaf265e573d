import Derived.Test.YteebdadnfaekmaaDoorTCom
set_option linter.unusedVariables false
set_option linter.unusedSimpArgs false
namespace Go.Proofs.YteebdadnfaekmaaDoor
open Go.RowKit

theorem build_h32 (w : World) : (Instr.build 54 #[]).run Tryd.prog w = .ok (.agg z32.toArray) w := by kernel_rfl
theorem z32_one : ∀ u ∈ z32, u.oneCell' = true := by decide
theorem z32_len : z32.length = 32 := rfl
theorem z32_info : (Tryd.prog.info? 54).map (·.size) = some z32.length := info_hash
theorem str_cells (s : ByteArray) : (s.data.toList.map fun x => Value.int .u8 (x.toNat : Int)) = hV s := by unfold hV bytesV numsOf; rw [List.map_map]; rfl

set_option maxHeartbeats 400000 in
theorem read_no (s : ByteArray) (w : World) (h : s.size ≠ 32) :
    Calls Tryd.prog 61 #[.string s] w fun e w' => e = .returned (.tuple #[.agg z32.toArray, .bool false]) ∧ Below w.heap.size w w' := by
  have hb : ((s.size : Int) != 32) = true := by rw [bne_iff_ne]; omega
  have ht := (rs_new w).t
  go_enter Tryd.func61, Tryd.ntmps61
  go_wp2_with (first | (refine wpList_alloc_of rfl 54 rfl z32.toArray alloc_32 ?_) | (refine wpList_build_of rfl 54 rfl z32.toArray build_h32 ?_) | (refine wpList_store_abs rfl 54 _ _ rfl w.heap.size 0 z32 rfl rfl ht z32_info z32_one ?_; intro w1 _hw1 hr1 ht1 hb1; clear _hw1))
  exact ret_cell_tmp rfl w.heap.size 0 z32 _ (.bool false) rfl rfl hr1 Tryd.underlying54 rfl z32_info rfl ⟨rfl, ((Below.refl _ _).alloc (Nat.le_refl _) _).trans (hb1 _ (Nat.le_refl _))⟩

set_option maxRecDepth 10000 in
set_option maxHeartbeats 400000 in
theorem read_yes (s : ByteArray) (w : World) (h : s.size = 32) :
    Calls Tryd.prog 61 #[.string s] w fun e w' => e = .returned (.tuple #[.agg (hV s).toArray, .bool true]) ∧ Below w.heap.size w w' := by
  have hb : ((s.size : Int) != 32) = false := by rw [h]; rfl
  obtain ⟨wA, hwA⟩ : ∃ wA, wA = (w.alloc (.cells z32.toArray 54)).alloc (.cells z32.toArray 54) := ⟨_, rfl⟩
  have htA : wA.there (w.heap.size + 1) 0 32 := by
    rw [hwA]; have := there_z32 (w.alloc (.cells z32.toArray 54)); simpa using this
  have htB : wA.there w.heap.size 0 32 := by
    rw [hwA]; exact there_below ((Below.refl _ _).alloc (by simp) _) (Nat.lt_succ_self _) (there_z32 w)
  have hbA : Below w.heap.size w wA := by rw [hwA]; exact ((Below.refl _ _).alloc (Nat.le_refl _) _).alloc (by simp) _
  have hrun := run_copy_string (P := Tryd.prog) wA 27 9 3 5 (w.heap.size + 1) 0 32 32 s Tryd.underlying27 size_byte (by rw [h]; exact Nat.le_refl _) (fun j hj => by simpa using (htA j (by omega)).1) (fun j hj => by simpa using (htA j (by omega)).2)
  rw [str_cells, h] at hrun
  have hl : (hV s).length = 32 := hV_len h
  have hinf := hV_info h
  have hone := hV_one s
  have hrC : (wA.setCells (w.heap.size + 1) 0 (hV s)).rangeAt (w.heap.size + 1) 0 (hV s) := World.rangeAt_setCells_same wA _ 0 (hV s) (by rw [hl]; exact htA)
  have htC : (wA.setCells (w.heap.size + 1) 0 (hV s)).there w.heap.size 0 (hV s).length := by rw [hl]; exact World.there_setCells htB _ _ _
  have hbC : Below w.heap.size w (wA.setCells (w.heap.size + 1) 0 (hV s)) := below_setCells (by omega) _ _ _ hbA
  obtain ⟨wC, hwC⟩ : ∃ wC, wC = wA.setCells (w.heap.size + 1) 0 (hV s) := ⟨_, rfl⟩
  rw [← hwC] at hrun hrC htC hbC
  rw [hwA] at hrun
  clear hwC htA htB hbA hwA hl
  go_enter Tryd.func61, Tryd.ntmps61
  go_wp2_with (first | (refine wpList_alloc_of rfl 54 rfl z32.toArray alloc_32 ?_) | (at_builtin; refine Lib.wpList_copy_run _ rfl _ _ 27 9 rfl _ _ rfl rfl hrun ?_) | (refine wpList_load_mid rfl 54 _ rfl (w.heap.size + 1) 0 rfl (hV s) _ hrC Tryd.underlying54 rfl hinf ?_) | (refine wpList_store_abs rfl 54 _ _ rfl w.heap.size 0 (hV s) rfl rfl htC hinf hone ?_; intro w1 _hw1 hr1 ht1 hb1; clear _hw1))
  exact ret_cell_tmp rfl w.heap.size 0 (hV s) _ (.bool true) rfl rfl hr1 Tryd.underlying54 rfl hinf rfl ⟨rfl, hbC.trans (hb1 _ (Nat.le_refl _))⟩
end Go.Proofs.YteebdadnfaekmaaDoor
