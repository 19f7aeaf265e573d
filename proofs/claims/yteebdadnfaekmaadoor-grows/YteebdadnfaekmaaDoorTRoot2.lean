import Derived.Test.YteebdadnfaekmaaDoorTJoin
set_option linter.unusedVariables false
set_option linter.unusedSimpArgs false
namespace Go.Proofs.YteebdadnfaekmaaDoor
open Go.RowKit

/-- A slice of texts, wherever it lies. -/
def LeafAt (w : World) (v : Value) (ls : List ByteArray) : Prop :=
  (ls = [] ∧ ∃ ao cap, v = .slice ao 0 cap) ∨ ∃ g off cap, v = .slice (some ⟨g, off, none⟩) ls.length cap ∧ ls.length ≤ cap ∧ ∀ j (h : j < ls.length), w.cell? ⟨g, off + j, none⟩ = some (.string (ls[j]'h))
theorem LeafAt.below {w w' : World} {v : Value} {ls : List ByteArray} (h : LeafAt w v ls) (hb : Below w.heap.size w w') : LeafAt w' v ls := by
  rcases h with h | ⟨g, off, cap, e, hc, h⟩
  · exact Or.inl h
  · refine Or.inr ⟨g, off, cap, e, hc, fun j hj => ?_⟩
    have := h j hj
    rw [hb.cell (World.block_lt_of_cell? w _ this)]; exact this
theorem leaf_take {w : World} {g off cap : Nat} {ls : List ByteArray} (k : Nat) (hk : k ≤ ls.length) (hc : ls.length ≤ cap) (h : ∀ j (h : j < ls.length), w.cell? ⟨g, off + j, none⟩ = some (.string (ls[j]'h))) : LeafAt w (.slice (some ⟨g, off, none⟩) k cap) (ls.take k) := by
  refine Or.inr ⟨g, off, cap, by simp [Nat.min_eq_left hk], by simp; omega, fun j hj => ?_⟩
  have hj' : j < k := by simp at hj; omega
  rw [List.getElem_take]
  exact h j (by omega)
theorem leaf_drop {w : World} {g off cap : Nat} {ls : List ByteArray} (k : Nat) (hk : k ≤ ls.length) (hc : ls.length ≤ cap) (h : ∀ j (h : j < ls.length), w.cell? ⟨g, off + j, none⟩ = some (.string (ls[j]'h))) : LeafAt w (.slice (some ⟨g, off + k, none⟩) (ls.length - k) (cap - k)) (ls.drop k) := by
  refine Or.inr ⟨g, off + k, cap - k, by simp, by simp; omega, fun j hj => ?_⟩
  simp at hj
  rw [List.getElem_drop, Nat.add_assoc]
  exact h (k + j) (by omega)
/-- Behind a function's result variable, the first block that it makes. -/
structure RS (n : Nat) (w w' : World) : Prop where
  b : Below n w w'
  t : w'.there n 0 32
  z : n + 1 ≤ w'.heap.size
theorem RS.step {n : Nat} {w w' w'' : World} (h : RS n w w') (hb : Below w'.heap.size w' w'') : RS n w w'' :=
  ⟨h.b.trans (hb.mono (by have := h.z; omega)), there_below hb (by have := h.z; omega) h.t, Nat.le_trans h.z hb.size⟩
theorem RS.store {n : Nat} {w w' : World} (h : RS n w w') (cs : List Value) : RS n w (w'.setCells n 0 cs) :=
  ⟨below_setCells (Nat.le_refl _) _ _ _ h.b, World.there_setCells h.t _ _ _, by rw [size_setCells]; exact h.z⟩
theorem rs_new (w : World) : RS w.heap.size w (w.alloc (.cells z32.toArray 54)) := ⟨(Below.refl _ _).alloc (Nat.le_refl _) _, there_z32 w, by simp⟩

set_option maxRecDepth 10000 in
set_option maxHeartbeats 2000000 in
theorem root_any (K : Nat → Int) : ∀ (n : Nat) (ls : List ByteArray) (v : Value) (w : World), ls.length = n → 0 < n → n ≤ 2147483647 → LeafAt w v ls → (∀ s ∈ ls, s.size ≤ 140737488355000) → Tab K w →
    Calls Tryd.prog 31 #[v] w fun e w' => e = .returned (.agg (hV (rootF (sumOf K) ls)).toArray) ∧ Below w.heap.size w w' := by
  intro n
  induction n using Nat.strongRecOn with
  | _ n ih =>
  intro ls v w hn hn0 hn1 hl hs T
  obtain ⟨g, off, cap, rfl, hcap, hc⟩ : ∃ g off cap, v = .slice (some ⟨g, off, none⟩) ls.length cap ∧ ls.length ≤ cap ∧ ∀ j (h : j < ls.length), w.cell? ⟨g, off + j, none⟩ = some (.string (ls[j]'h)) := by
    rcases hl with ⟨rfl, _⟩ | h
    · simp at hn; omega
    · exact h
  have J0 := rs_new w
  have hszF : ∀ l, (rootF (sumOf K) l).size = 32 := rootF_size (sumOf K) (sumOf_size K)
  by_cases h1 : n = 1
  · have h1' : ls.length = 1 := by omega
    obtain ⟨s, rfl⟩ : ∃ s, ls = [s] := List.length_eq_one_iff.1 h1'
    have hc0 : (w.alloc (.cells z32.toArray 54)).cell? ⟨g, off, none⟩ = some (.string s) := by
      have := hc 0 (by simp)
      rw [World.cell?_alloc_past _ _ _ (World.block_lt_of_cell? w _ this)]
      exact this
    have hr1 := rone_any s K (w.alloc (.cells z32.toArray 54)) (hs s (by simp)) (T.below ((Below.refl _ _).alloc (Nat.le_refl _) _))
    rw [show sumOf K (m0 ++ s) = rootF (sumOf K) [s] by rw [rootF]] at hr1
    have h32 := hszF [s]
    generalize rootF (sumOf K) [s] = h at *
    rw [show [s].length = 1 from rfl]
    clear ih hc hs hl T hszF
    go_enter Tryd.func31, Tryd.ntmps31
    go_wp2_with (first | (refine wpList_alloc_of rfl 54 rfl z32.toArray alloc_32 ?_))
    refine hr1.mono ?_
    rintro e w1 ⟨rfl, hb1⟩
    have J1 := J0.step hb1
    have ht : w1.there w.heap.size 0 (hV h).length := by rw [hV_len h32]; exact J1.t
    go_wp2_with (refine wpList_store_abs rfl 54 _ _ rfl w.heap.size 0 (hV h) rfl rfl ht (hV_info h32) (hV_one h) ?_; intro w2 _hw2 hr2 _ht2 hb2; clear _hw2 _ht2)
    exact ret_cell rfl w.heap.size 0 (hV h) _ rfl hr2 Tryd.underlying54 rfl (hV_info h32) rfl ⟨rfl, J1.b.trans (hb2 _ (Nat.le_refl _))⟩
  · have h2 : 2 ≤ ls.length := by omega
    have hk0 := halfN_pos ls.length
    have hk1 := halfN_lt h2
    have hsp := split_any ls.length (w.alloc (.cells z32.toArray 54)) h2 (by omega)
    have hL : ∀ W, RS w.heap.size w W → Calls Tryd.prog 31 #[.slice (some ⟨g, off, none⟩) (halfN ls.length) cap] W fun e w' => e = .returned (.agg (hV (rootF (sumOf K) (ls.take (halfN ls.length)))).toArray) ∧ Below W.heap.size W w' := fun W J =>
      ih (halfN ls.length) (by omega) (ls.take (halfN ls.length)) _ W (by simp; omega) hk0 (by omega) ((leaf_take _ (by omega) hcap hc).below J.b) (fun s hs' => hs s (List.mem_of_mem_take hs')) (T.below J.b)
    have hR : ∀ W, RS w.heap.size w W → Calls Tryd.prog 31 #[.slice (some ⟨g, off + halfN ls.length, none⟩) (ls.length - halfN ls.length) (cap - halfN ls.length)] W fun e w' => e = .returned (.agg (hV (rootF (sumOf K) (ls.drop (halfN ls.length)))).toArray) ∧ Below W.heap.size W w' := fun W J =>
      ih (ls.length - halfN ls.length) (by omega) (ls.drop (halfN ls.length)) _ W (by simp) (by omega) (by omega) ((leaf_drop _ (by omega) hcap hc).below J.b) (fun s hs' => hs s (List.mem_of_mem_drop hs')) (T.below J.b)
    have hJ : ∀ W, RS w.heap.size w W → Calls Tryd.prog 59 #[.agg (hV (rootF (sumOf K) (ls.take (halfN ls.length)))).toArray, .agg (hV (rootF (sumOf K) (ls.drop (halfN ls.length)))).toArray] W fun e w' => e = .returned (.agg (hV (rootF (sumOf K) ls)).toArray) ∧ Below W.heap.size W w' := fun W J => by
      rw [rootF_more (sumOf K) h2]
      exact join_any _ _ K W (hszF _) (hszF _) (T.below J.b)
    have h32 := hszF ls
    have hinf := hV_info h32
    have hl32 := hV_len h32
    generalize rootF (sumOf K) ls = h at *
    generalize rootF (sumOf K) (ls.take (halfN ls.length)) = a at *
    generalize rootF (sumOf K) (ls.drop (halfN ls.length)) = b at *
    generalize halfN ls.length = k at *
    clear ih hc hs hl T hszF
    generalize ls.length = N at *
    have n0 : ((N : Int) == 0) = false := by rw [beq_eq_false_iff_ne]; omega
    have n1 : ((N : Int) == 1) = false := by rw [beq_eq_false_iff_ne]; omega
    have k1 : (k : Int) ≤ (N : Int) := by omega
    have k2 : (k : Int) ≤ (cap : Int) := by omega
    have k3 : ¬ cap = k := by omega
    clear hn h1 h2
    go_enter Tryd.func31, Tryd.ntmps31
    go_wp2_with (first | (refine wpList_alloc_of rfl 54 rfl z32.toArray alloc_32 ?_))
    refine hsp.mono ?_
    rintro e w0 ⟨rfl, hw0⟩
    obtain rfl : w.alloc (.cells z32.toArray 54) = w0 := hw0.symm
    clear hw0 hsp
    go_wp2_with fail
    have J0d : RS w.heap.size w (w.alloc (.cells z32.toArray 54)).drew := ⟨J0.b.drew, J0.t, J0.z⟩
    refine wp_region_noPanic ?_
    refine wp_region_held_drew (S := RS w.heap.size w) (by kernel_rfl) J0d (fun _ => ?_)
    refine wpAnyH_take (i := 0) (v := ?_) rfl (by kernel_rfl) (by kernel_rfl) (by kernel_rfl) (fun _ _ _ h => h) (Or.inl ⟨by rfl, ?_⟩) J0d ?_
    rotate_left 1
    · intro w hSw; clear hSw; go_simp; try with_reducible rfl
    simp only [List.getElem_toArray, List.getElem_cons_zero, List.getElem_cons_succ, Act.put, List.setIfInBounds_toArray, List.set_cons_zero, List.set_cons_succ]
    refine wpAnyH_take (i := 1) (v := ?_) rfl (by kernel_rfl) (by kernel_rfl) (by kernel_rfl) (fun _ _ _ h => h) (Or.inl ⟨by rfl, ?_⟩) J0d ?_
    rotate_left 1
    · intro w hSw; clear hSw; go_simp; try with_reducible rfl
    simp only [List.getElem_toArray, List.getElem_cons_zero, List.getElem_cons_succ, Act.put, List.setIfInBounds_toArray, List.set_cons_zero, List.set_cons_succ]
    refine wpAnyH_take (i := 2) (v := ?_) rfl (by kernel_rfl) (by kernel_rfl) (by kernel_rfl) (fun _ _ _ h => h) (Or.inl ⟨by rfl, ?_⟩) J0d ?_
    rotate_left 1
    · intro w hSw; clear hSw; go_simp; try with_reducible rfl
    simp only [List.getElem_toArray, List.getElem_cons_zero, List.getElem_cons_succ, Act.put, List.setIfInBounds_toArray, List.set_cons_zero, List.set_cons_succ]
    refine wpAnyH_take (i := 4) (v := ?_) rfl (by kernel_rfl) (by kernel_rfl) (by kernel_rfl) (fun _ _ _ h => h) (Or.inl ⟨by rfl, ?_⟩) J0d ?_
    rotate_left 1
    · intro w hSw; clear hSw; go_simp; try with_reducible rfl
    simp only [List.getElem_toArray, List.getElem_cons_zero, List.getElem_cons_succ, Act.put, List.setIfInBounds_toArray, List.set_cons_zero, List.set_cons_succ]
    refine wpAnyH_take (i := 5) (v := ?_) rfl (by kernel_rfl) (by kernel_rfl) (by kernel_rfl) (fun _ _ _ h => h) (Or.inl ⟨by rfl, ?_⟩) J0d ?_
    rotate_left 1
    · intro w hSw; clear hSw; go_simp; try with_reducible rfl
    simp only [List.getElem_toArray, List.getElem_cons_zero, List.getElem_cons_succ, Act.put, List.setIfInBounds_toArray, List.set_cons_zero, List.set_cons_succ]
    refine wpAnyH_take (i := 6) (v := ?_) rfl (by kernel_rfl) (by kernel_rfl) (by kernel_rfl) (fun _ _ _ h => h) (Or.inl ⟨by rfl, ?_⟩) J0d ?_
    rotate_left 1
    · intro w hSw; clear hSw; go_simp; try with_reducible rfl
    simp only [List.getElem_toArray, List.getElem_cons_zero, List.getElem_cons_succ, Act.put, List.setIfInBounds_toArray, List.set_cons_zero, List.set_cons_succ]
    refine wpAnyH_ready (rs := [3]) (by kernel_rfl) (by simp) ?_
    refine AllReadyH.cons rfl (fun K hK => ?_) AllReadyH.nil
    rw [if_pos (by rfl)]
    go_simp
    refine (hL _ J0d).mono ?_
    rintro e w1 ⟨rfl, hb⟩
    have J1 : RS w.heap.size w w1 := J0d.step hb
    refine hK.out _ _ J1 (fun _ => ?_)
    clear hK K hb
    try simp only [List.getElem_toArray, List.getElem_cons_zero, List.getElem_cons_succ, Act.put, List.setIfInBounds_toArray, List.set_cons_zero, List.set_cons_succ]
    refine wpAnyH_ready (rs := [7]) (by kernel_rfl) (by simp) ?_
    refine AllReadyH.cons rfl (fun K hK => ?_) AllReadyH.nil
    rw [if_pos (by rfl)]
    go_simp
    refine (hR _ J1).mono ?_
    rintro e w2 ⟨rfl, hb⟩
    have J2 : RS w.heap.size w w2 := J1.step hb
    refine hK.out _ _ J2 (fun _ => ?_)
    clear hK K hb
    try simp only [List.getElem_toArray, List.getElem_cons_zero, List.getElem_cons_succ, Act.put, List.setIfInBounds_toArray, List.set_cons_zero, List.set_cons_succ]
    refine wpAnyH_ready (rs := [8]) (by kernel_rfl) (by simp) ?_
    refine AllReadyH.cons rfl (fun K hK => ?_) AllReadyH.nil
    rw [if_pos (by rfl)]
    go_simp
    refine (hJ _ J2).mono ?_
    rintro e w3 ⟨rfl, hb⟩
    have J3 : RS w.heap.size w w3 := J2.step hb
    refine hK.out _ _ J3 (fun _ => ?_)
    clear hK K hb
    try simp only [List.getElem_toArray, List.getElem_cons_zero, List.getElem_cons_succ, Act.put, List.setIfInBounds_toArray, List.set_cons_zero, List.set_cons_succ]
    refine wpAnyH_ready (rs := [9]) (by kernel_rfl) (by simp) ?_
    refine AllReadyH.cons rfl (fun K hK => ?_) AllReadyH.nil
    rw [if_pos (by rfl)]
    refine wp_store_mid 54 (.tmp 2) (.tmp 26) rfl w.heap.size 0 (hV h).toArray rfl rfl (by show w3.there w.heap.size 0 (hV h).length; rw [hl32]; exact J3.t) (by show _ = some (hV h).length; exact hinf) (all_oneCell_toArray (hV_one h)) ?_
    have J5 : RS w.heap.size w (w3.setCells w.heap.size 0 (hV h).toArray.toList) := J3.store _
    refine hK.out _ _ J5 (fun _ => ?_)
    clear hK K
    refine ⟨by kernel_rfl, ?_⟩
    refine NoPanic.normal ?_
    try simp only [List.getElem_toArray, List.getElem_cons_zero, List.getElem_cons_succ, Act.put, List.setIfInBounds_toArray, List.set_cons_zero, List.set_cons_succ]
    go_wp2_with fail
    exact ret_cell rfl w.heap.size 0 (hV h) _ rfl (by have := World.rangeAt_setCells_same w3 w.heap.size 0 (hV h) (by rw [hl32]; exact J3.t); simpa using this) Tryd.underlying54 rfl hinf rfl ⟨rfl, J5.b⟩
end Go.Proofs.YteebdadnfaekmaaDoor
