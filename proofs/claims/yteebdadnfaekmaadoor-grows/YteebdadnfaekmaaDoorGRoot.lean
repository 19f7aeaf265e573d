import Derived.Test.YteebdadnfaekmaaDoorTCom
set_option linter.unusedVariables false
set_option linter.unusedSimpArgs false
namespace Go.Proofs.YteebdadnfaekmaaDoor
open Go.RowKit

/-- The hash of no text. -/
theorem of_none (K : Nat → Int) (w : World) (T : Tab K w) : Calls Tryd.prog 26 #[.slice none 0 0] w fun e w' => e = .returned (.agg (hV (sumOf K ⟨#[]⟩)).toArray) ∧ Below w.heap.size w w' := by
  have := of_gen [] none 0 K w (by simp) (by simp [joinN]) (textsAt_nil w none) T.lt T.cells
  rw [hV_sum K (joinN []) ⟨#[]⟩ (by simp [joinN, numsOf])] at this
  exact this

set_option maxRecDepth 10000 in
set_option maxHeartbeats 1000000 in
theorem root_nil (K : Nat → Int) (ao : Option Addr) (cap : Nat) (w : World) (T : Tab K w) :
    Calls Tryd.prog 31 #[.slice ao 0 cap] w fun e w' => e = .returned (.agg (hV (rootF (sumOf K) [])).toArray) ∧ Below w.heap.size w w' := by
  have J0 := rs_new w
  have hr1 := of_none K (w.alloc (.cells z32.toArray 54)) (T.below ((Below.refl _ _).alloc (Nat.le_refl _) _))
  rw [show sumOf K ⟨#[]⟩ = rootF (sumOf K) [] by rw [rootF]] at hr1
  have h32 := rootF_size (sumOf K) (sumOf_size K) []
  generalize rootF (sumOf K) [] = h at *
  clear T
  go_enter Tryd.func31, Tryd.ntmps31
  go_wp2_with (first | (refine wpList_alloc_of rfl 54 rfl z32.toArray alloc_32 ?_))
  refine hr1.mono ?_
  rintro e w1 ⟨rfl, hb1⟩
  have J1 := J0.step hb1
  have ht : w1.there w.heap.size 0 (hV h).length := by rw [hV_len h32]; exact J1.t
  go_wp2_with (refine wpList_store_abs rfl 54 _ _ rfl w.heap.size 0 (hV h) rfl rfl ht (hV_info h32) (hV_one h) ?_; intro w2 _hw2 hr2 _ht2 hb2; clear _hw2 _ht2)
  exact ret_cell rfl w.heap.size 0 (hV h) _ rfl hr2 Tryd.underlying54 rfl (hV_info h32) rfl ⟨rfl, J1.b.trans (hb2 _ (Nat.le_refl _))⟩

theorem root_all (K : Nat → Int) (ls : List ByteArray) (v : Value) (w : World) (hn1 : ls.length ≤ 2147483647) (hl : LeafAt w v ls) (hs : ∀ s ∈ ls, s.size ≤ 140737488355000) (T : Tab K w) :
    Calls Tryd.prog 31 #[v] w fun e w' => e = .returned (.agg (hV (rootF (sumOf K) ls)).toArray) ∧ Below w.heap.size w w' := by
  by_cases h0 : ls = []
  · subst h0
    obtain ⟨ao, cap, rfl⟩ := leaf_form hl
    exact root_nil K ao cap w T
  · exact root_any K _ ls v w rfl (List.length_pos_iff.2 h0) hn1 hl hs T

set_option maxRecDepth 10000 in
set_option maxHeartbeats 400000 in
/-- The program's Root, of any leaves. -/
theorem aroot_all (K : Nat → Int) (ls : List ByteArray) (v : Value) (w : World) (hn1 : ls.length ≤ 2147483647) (hl : LeafAt w v ls) (hs : ∀ s ∈ ls, s.size ≤ 140737488355000) (T : Tab K w) :
    Calls Tryd.prog 13 #[v] w fun e w' => e = .returned (.string (rootF (sumOf K) ls)) ∧ Below w.heap.size w w' := by
  have hr := root_all K ls v w hn1 hl hs T
  have htx := htx_any (rootF (sumOf K) ls) (rootF_size (sumOf K) (sumOf_size K) ls)
  obtain ⟨ao, cap, rfl⟩ := leaf_form hl
  generalize rootF (sumOf K) ls = R at *
  clear hl hs T
  generalize ls.length = N at *
  go_enter Tryd.func13, Tryd.ntmps13
  go_wp2_with fail
  refine hr.mono ?_
  rintro e w1 ⟨rfl, hb1⟩
  clear hr
  go_wp2_with fail
  refine (htx w1).mono ?_
  rintro e w2 ⟨rfl, hb2⟩
  clear htx
  go_wp2_with fail
  go_ret
  exact ⟨rfl, hb1.trans (hb2.mono hb1.size)⟩
end Go.Proofs.YteebdadnfaekmaaDoor
