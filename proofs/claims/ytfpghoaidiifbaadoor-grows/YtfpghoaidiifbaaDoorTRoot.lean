import Derived.Test.YtfpghoaidiifbaaDoorTLen
import Derived.Test.YtfpghoaidiifbaaDoorWCoded
set_option linter.unusedVariables false
set_option linter.unusedSimpArgs false
namespace Go.Proofs.YtfpghoaidiifbaaDoor
open Go.RowKit

theorem fourN_range (n : Int) : ∀ x ∈ fourN n, 0 ≤ x ∧ x < 256 := by
  intro x hx
  simp only [fourN, List.mem_cons, List.not_mem_nil, or_false] at hx
  rcases hx with rfl | rfl | rfl | rfl <;> exact ⟨Int.emod_nonneg _ (by omega), Int.emod_lt_of_pos _ (by omega)⟩
theorem hashN_range (K : Nat → Int) (D : List Int) : ∀ x ∈ hashN K D, 0 ≤ x ∧ x < 256 := by
  intro x hx
  unfold hashN spreadN at hx
  obtain ⟨n, _, h⟩ := List.mem_flatMap.1 hx
  exact fourN_range n x h
theorem nums_app (a b : ByteArray) : numsOf (a ++ b) = numsOf a ++ numsOf b := by
  unfold numsOf; simp [ByteArray.data_append]
/-- A hash as the program holds it: the bytes of its text. -/
def hV (h : ByteArray) : List Value := bytesV (numsOf h)
theorem hV_sum (K : Nat → Int) (D : List Int) (s : ByteArray) (h : D = numsOf s) : bytesV (hashN K D) = hV (sumOf K s) := by
  subst h
  unfold hV sumOf
  rw [nums_str _ (hashN_range _ _)]
theorem hV_len {h : ByteArray} (e : h.size = 32) : (hV h).length = 32 := by unfold hV; rw [bytesV_length, numsOf_length, e]
theorem hV_info {h : ByteArray} (e : h.size = 32) : (Tryd.prog.info? 54).map (·.size) = some (hV h).length := by rw [hV_len e]; exact info_hash
theorem hV_one (h : ByteArray) : ∀ u ∈ hV h, u.oneCell' = true := bytesV_one _

/-- The table of rounds, below block B. -/
structure Tab (K : Nat → Int) (w : World) : Prop where
  lt : 1 < w.heap.size
  cells : ∀ j, j < 64 → w.cell? ⟨1, j, none⟩ = some (.int .u32 (K j))
theorem Tab.below {K : Nat → Int} {w w' : World} (h : Tab K w) (hb : Below w.heap.size w w') : Tab K w' :=
  ⟨Nat.lt_of_lt_of_le h.lt hb.size, fun j hj => (hb.cell (p := ⟨1, j, none⟩) h.lt).trans (h.cells j hj)⟩

set_option maxRecDepth 10000 in
set_option maxHeartbeats 1000000 in
theorem rone_any (s : ByteArray) (K : Nat → Int) (w : World) (hs : s.size ≤ 140737488355000) (T : Tab K w) :
    Calls Tryd.prog 57 #[.string s] w fun e w' => e = .returned (.agg (hV (sumOf K (m0 ++ s))).toArray) ∧ Below w.heap.size w w' := by
  have hb0 : Below w.heap.size w ((w.alloc (.cells z32.toArray 54)).alloc (.cells #[.string ⟨#[0]⟩, .string s] 9)) := ((Below.refl _ _).alloc (Nat.le_refl _) _).alloc (by simp) _
  have T0 := T.below hb0
  have hof := of_any [m0, s] (w.heap.size + 1) 2 K ((w.alloc (.cells z32.toArray 54)).alloc (.cells #[.string ⟨#[0]⟩, .string s] 9)) (by simp) (by simp)
    (by simp [joinN, numsOf_length, m0, numsOf]; omega)
    (fun j hj => by
      rw [World.cell?_alloc_at _ _ _ _ (by simp)]
      have hj2 : j < 2 := hj
      obtain rfl | rfl : j = 0 ∨ j = 1 := by omega
      all_goals rfl) T0.lt T0.cells
  rw [hV_sum K (joinN [m0, s]) (m0 ++ s) (by rw [nums_app]; simp [joinN])] at hof
  rw [show [m0, s].length = 2 from rfl] at hof
  have h32 := sumOf_size K (m0 ++ s)
  generalize sumOf K (m0 ++ s) = h at *
  clear T0 T
  go_enter Tryd.func57, Tryd.ntmps57
  go_wp2_with (first | (refine wpList_alloc_of rfl 54 rfl z32.toArray alloc_32 ?_))
  refine hof.mono ?_
  rintro e w1 ⟨rfl, hb1⟩
  have hb1' : Below w.heap.size w w1 := hb0.trans (hb1.mono (by simp; omega))
  have ht : w1.there w.heap.size 0 (hV h).length := by
    rw [hV_len h32]
    exact there_below (hb1.mono (B' := w.heap.size + 1) (by simp)) (Nat.lt_succ_self _) (there_below ((Below.refl _ _).alloc (by simp) _) (Nat.lt_succ_self _) (there_z32 w))
  clear hof hb1
  go_wp2_with (refine wpList_store_abs rfl 54 _ _ rfl w.heap.size 0 (hV h) rfl rfl ht (hV_info h32) (hV_one h) ?_; intro w2 _hw2 hr2 _ht2 hb2; clear _hw2 _ht2)
  exact ret_cell rfl w.heap.size 0 (hV h) _ rfl hr2 Tryd.underlying54 rfl (hV_info h32) rfl ⟨rfl, hb1'.trans (hb2 _ (Nat.le_refl _))⟩
end Go.Proofs.YtfpghoaidiifbaaDoor
