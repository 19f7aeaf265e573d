import Derived.Test.YteebdadnfaekmaaDoorTLen
import Derived.Test.YteebdadnfaekmaaDoorWCoded
set_option linter.unusedVariables false
set_option linter.unusedSimpArgs false
namespace Go.Proofs.YteebdadnfaekmaaDoor
open Go.RowKit



set_option maxRecDepth 10000 in
set_option maxHeartbeats 1000000 in
theorem rone_any (s : ByteArray) (K : Nat → Int) (w : World) (hs : s.size ≤ 140737488355000) (T : Tab K w) :
    Calls Tryd.prog 57 #[.string s] w fun e w' => e = .returned (.agg (hV (sumOf K (m0 ++ s))).toArray) ∧ Below w.heap.size w w' := by
  have hb0 : Below w.heap.size w ((w.alloc (.cells z32.toArray 54)).alloc (.cells #[.string ⟨#[0]⟩, .string s] 9)) := ((Below.refl _ _).alloc (Nat.le_refl _) _).alloc (by simp) _
  have T0 := T.below hb0
  have hof := of_any [m0, s] (w.heap.size + 1) 2 K ((w.alloc (.cells z32.toArray 54)).alloc (.cells #[.string ⟨#[0]⟩, .string s] 9)) (by simp) (by simp)
    (by simp [joinN, numsOf_length, m0, numsOf]; omega)
    (fun j hj => by
      rw [World.cell?_alloc_at _ _ _ _ (by simp)]
      have hj2 : j < 2 := hj
      obtain rfl | rfl : j = 0 ∨ j = 1 := by omega
      all_goals rfl) T0.lt T0.cells
  rw [hV_sum K (joinN [m0, s]) (m0 ++ s) (by rw [nums_app]; simp [joinN])] at hof
  rw [show [m0, s].length = 2 from rfl] at hof
  have h32 := sumOf_size K (m0 ++ s)
  generalize sumOf K (m0 ++ s) = h at *
  clear T0 T
  go_enter Tryd.func57, Tryd.ntmps57
  go_wp2_with (first | (refine wpList_alloc_of rfl 54 rfl z32.toArray alloc_32 ?_))
  refine hof.mono ?_
  rintro e w1 ⟨rfl, hb1⟩
  have hb1' : Below w.heap.size w w1 := hb0.trans (hb1.mono (by simp; omega))
  have ht : w1.there w.heap.size 0 (hV h).length := by
    rw [hV_len h32]
    exact there_below (hb1.mono (B' := w.heap.size + 1) (by simp)) (Nat.lt_succ_self _) (there_below ((Below.refl _ _).alloc (by simp) _) (Nat.lt_succ_self _) (there_z32 w))
  clear hof hb1
  go_wp2_with (refine wpList_store_abs rfl 54 _ _ rfl w.heap.size 0 (hV h) rfl rfl ht (hV_info h32) (hV_one h) ?_; intro w2 _hw2 hr2 _ht2 hb2; clear _hw2 _ht2)
  exact ret_cell rfl w.heap.size 0 (hV h) _ rfl hr2 Tryd.underlying54 rfl (hV_info h32) rfl ⟨rfl, hb1'.trans (hb2 _ (Nat.le_refl _))⟩
end Go.Proofs.YteebdadnfaekmaaDoor
