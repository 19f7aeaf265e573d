import Derived.Test.YteebdadnfaekmaaDoorTRoot
set_option linter.unusedVariables false
set_option linter.unusedSimpArgs false
namespace Go.Proofs.YteebdadnfaekmaaDoor
open Go.RowKit

/-- Between the two boxes of join's arguments and its result's: what may turn. -/
structure JS (n : Nat) (wB w' : World) : Prop where
  b : Below (n + 2) wB w'
  t : w'.there (n + 2) 0 32
  z : n + 3 ≤ w'.heap.size
theorem JS.step {n : Nat} {wB w' w'' : World} (h : JS n wB w') (hb : Below w'.heap.size w' w'') : JS n wB w'' :=
  ⟨h.b.trans (hb.mono (by have := h.z; omega)), there_below hb (by have := h.z; omega) h.t, Nat.le_trans h.z hb.size⟩
theorem JS.store {n : Nat} {wB w' : World} (h : JS n wB w') (cs : List Value) : JS n wB (w'.setCells (n + 2) 0 cs) :=
  ⟨below_setCells (Nat.le_refl _) _ _ _ h.b, World.there_setCells h.t _ _ _, by rw [size_setCells]; exact h.z⟩

set_option maxRecDepth 10000 in
set_option maxHeartbeats 2000000 in
theorem join_any (l r : ByteArray) (K : Nat → Int) (w : World) (hl : l.size = 32) (hr : r.size = 32) (T : Tab K w) :
    Calls Tryd.prog 59 #[.agg (hV l).toArray, .agg (hV r).toArray] w fun e w' => e = .returned (.agg (hV (sumOf K (m1 ++ l ++ r))).toArray) ∧ Below w.heap.size w w' := by
  obtain ⟨wB, hwB⟩ : ∃ wB, wB = ((w.alloc (.cells (hV l).toArray 54)).alloc (.cells (hV r).toArray 54)).alloc (.cells z32.toArray 54) := ⟨_, rfl⟩
  have hbB : Below w.heap.size w wB := by rw [hwB]; exact (((Below.refl _ _).alloc (Nat.le_refl _) _).alloc (by simp) _).alloc (by simp; omega) _
  have hzB : wB.heap.size = w.heap.size + 3 := by rw [hwB]; simp
  have hrl : wB.rangeAt w.heap.size 0 (hV l) := by
    rw [hwB]; exact World.rangeAt_alloc (World.rangeAt_alloc (range_new w (hV l) 54) _) _
  have hrr : wB.rangeAt (w.heap.size + 1) 0 (hV r) := by
    rw [hwB]
    have := range_new (w.alloc (.cells (hV l).toArray 54)) (hV r) 54
    rw [show (w.alloc (.cells (hV l).toArray 54)).heap.size = w.heap.size + 1 by simp] at this
    exact World.rangeAt_alloc this _
  have htB : wB.there (w.heap.size + 2) 0 32 := by
    rw [hwB]
    have := there_z32 ((w.alloc (.cells (hV l).toArray 54)).alloc (.cells (hV r).toArray 54))
    simpa using this
  have J0 : JS w.heap.size wB wB.drew := ⟨(Below.refl _ _).drew, htB, by show _ ≤ wB.heap.size; omega⟩
  have htx : ∀ (s : ByteArray) (e : s.size = 32) (w1 : World), Calls Tryd.prog 27 #[.agg (hV s).toArray] w1 fun e w' => e = .returned (.string s) ∧ Below w1.heap.size w1 w' := fun s e w1 => by
    have := htext_any (numsOf s) w1 (by rw [numsOf_length, e])
    rw [str_nums] at this
    exact this
  have htx_l := htx l hl
  have htx_r := htx r hr
  have hof : ∀ w2, JS w.heap.size wB w2 → Calls Tryd.prog 26 #[.slice (some ⟨w2.heap.size, 0, none⟩) 3 3] (w2.alloc (.cells #[.string ⟨#[1]⟩, .string l, .string r] 9)) fun e w' => e = .returned (.agg (hV (sumOf K (m1 ++ l ++ r))).toArray) ∧ Below (w2.alloc (.cells #[.string ⟨#[1]⟩, .string l, .string r] 9)).heap.size (w2.alloc (.cells #[.string ⟨#[1]⟩, .string l, .string r] 9)) w' := fun w2 J => by
    have hT2 : Tab K w2 := ⟨by have := T.lt; have := J.z; omega, fun j hj => (J.b.cell (p := ⟨1, j, none⟩) (by have := T.lt; show 1 < _; omega)).trans ((hbB.cell (p := ⟨1, j, none⟩) T.lt).trans (T.cells j hj))⟩
    have T3 := hT2.below ((Below.refl _ w2).alloc (Nat.le_refl _) (.cells #[.string ⟨#[1]⟩, .string l, .string r] 9))
    have := of_any [m1, l, r] w2.heap.size 3 K (w2.alloc (.cells #[.string ⟨#[1]⟩, .string l, .string r] 9)) (by simp) (by simp) (by simp [joinN, numsOf_length, hl, hr, m1, numsOf])
      (fun j hj => by
        rw [World.cell?_alloc_at _ _ _ _ rfl]
        have hj2 : j < 3 := hj
        obtain rfl | rfl | rfl : j = 0 ∨ j = 1 ∨ j = 2 := by omega
        all_goals rfl) T3.lt T3.cells
    rw [hV_sum K (joinN [m1, l, r]) (m1 ++ l ++ r) (by rw [nums_app, nums_app]; simp [joinN])] at this
    exact this
  have h32 := sumOf_size K (m1 ++ l ++ r)
  generalize sumOf K (m1 ++ l ++ r) = h at *
  have hinf := hV_info h32
  have hl32 := hV_len h32
  have hil := hV_info hl
  have hir := hV_info hr
  clear T htx
  go_enter Tryd.func59, Tryd.ntmps59
  go_wp2_with (first | (refine wpList_alloc_of rfl 54 rfl z32.toArray alloc_32 ?_))
  rw [← hwB]
  clear hwB
  refine wp_region_noPanic ?_
  refine wp_region_held_drew (S := JS w.heap.size wB) (by kernel_rfl) J0 (fun _ => ?_)
  refine wpAnyH_take (i := 0) (v := .agg (hV l).toArray) rfl (by kernel_rfl) (by kernel_rfl) (by kernel_rfl) (fun _ _ _ h => h) (yieldsIf_load_mid (by rfl) 54 (.tmp 2) rfl w.heap.size 0 rfl (hV l) _ (fun w' hw' j u hu => (hw'.b.cell (p := ⟨w.heap.size, 0 + j, none⟩) (by show w.heap.size < _; omega)).trans (hrl j u hu)) Tryd.underlying54 rfl hil) J0 ?_
  simp only [List.getElem_toArray, List.getElem_cons_zero, List.getElem_cons_succ, Act.put, List.setIfInBounds_toArray, List.set_cons_zero, List.set_cons_succ]
  refine wpAnyH_take (i := 2) (v := .agg (hV r).toArray) rfl (by kernel_rfl) (by kernel_rfl) (by kernel_rfl) (fun _ _ _ h => h) (yieldsIf_load_mid (by rfl) 54 (.tmp 3) rfl (w.heap.size + 1) 0 rfl (hV r) _ (fun w' hw' j u hu => (hw'.b.cell (p := ⟨w.heap.size + 1, 0 + j, none⟩) (by show w.heap.size + 1 < _; omega)).trans (hrr j u hu)) Tryd.underlying54 rfl hir) J0 ?_
  simp only [List.getElem_toArray, List.getElem_cons_zero, List.getElem_cons_succ, Act.put, List.setIfInBounds_toArray, List.set_cons_zero, List.set_cons_succ]
  refine wpAnyH_ready (rs := [1]) (by kernel_rfl) (by simp) ?_
  refine AllReadyH.cons rfl (fun K hK => ?_) AllReadyH.nil
  rw [if_pos (by rfl)]
  go_simp
  refine (htx_l _).mono ?_
  rintro e w1 ⟨rfl, hb⟩
  have J1 : JS w.heap.size wB w1 := J0.step hb
  refine hK.out _ _ J1 (fun _ => ?_)
  clear hK K hb
  try simp only [List.getElem_toArray, List.getElem_cons_zero, List.getElem_cons_succ, Act.put, List.setIfInBounds_toArray, List.set_cons_zero, List.set_cons_succ]
  refine wpAnyH_ready (rs := [3]) (by kernel_rfl) (by simp) ?_
  refine AllReadyH.cons rfl (fun K hK => ?_) AllReadyH.nil
  rw [if_pos (by rfl)]
  go_simp
  refine (htx_r _).mono ?_
  rintro e w2 ⟨rfl, hb⟩
  have J2 : JS w.heap.size wB w2 := J1.step hb
  refine hK.out _ _ J2 (fun _ => ?_)
  clear hK K hb
  try simp only [List.getElem_toArray, List.getElem_cons_zero, List.getElem_cons_succ, Act.put, List.setIfInBounds_toArray, List.set_cons_zero, List.set_cons_succ]
  refine wpAnyH_ready (rs := [4]) (by kernel_rfl) (by simp) ?_
  refine AllReadyH.cons rfl (fun K hK => ?_) AllReadyH.nil
  rw [if_pos (by rfl)]
  go_simp
  have J3 : JS w.heap.size wB (w2.alloc (.cells #[.string ⟨#[1]⟩, .string l, .string r] 9)) := J2.step ((Below.refl _ _).alloc (Nat.le_refl _) _)
  refine hK.out _ _ J3 (fun _ => ?_)
  clear hK K
  try simp only [List.getElem_toArray, List.getElem_cons_zero, List.getElem_cons_succ, Act.put, List.setIfInBounds_toArray, List.set_cons_zero, List.set_cons_succ]
  refine wpAnyH_ready (rs := [5]) (by kernel_rfl) (by simp) ?_
  refine AllReadyH.cons rfl (fun K hK => ?_) AllReadyH.nil
  rw [if_pos (by rfl)]
  go_simp
  refine (hof w2 J2).mono ?_
  rintro e w4 ⟨rfl, hb⟩
  have J4 : JS w.heap.size wB w4 := J3.step hb
  refine hK.out _ _ J4 (fun _ => ?_)
  clear hK K hb
  try simp only [List.getElem_toArray, List.getElem_cons_zero, List.getElem_cons_succ, Act.put, List.setIfInBounds_toArray, List.set_cons_zero, List.set_cons_succ]
  refine wpAnyH_ready (rs := [6]) (by kernel_rfl) (by simp) ?_
  refine AllReadyH.cons rfl (fun K hK => ?_) AllReadyH.nil
  rw [if_pos (by rfl)]
  refine wp_store_mid 54 (.tmp 4) (.tmp 10) rfl (w.heap.size + 2) 0 (hV h).toArray rfl rfl (by show w4.there (w.heap.size + 2) 0 (hV h).length; rw [hl32]; exact J4.t) (by show _ = some (hV h).length; exact hinf) (all_oneCell_toArray (hV_one h)) ?_
  have J5 : JS w.heap.size wB (w4.setCells (w.heap.size + 2) 0 (hV h).toArray.toList) := J4.store _
  refine hK.out _ _ J5 (fun _ => ?_)
  clear hK K
  refine ⟨by kernel_rfl, ?_⟩
  refine NoPanic.normal ?_
  try simp only [List.getElem_toArray, List.getElem_cons_zero, List.getElem_cons_succ, Act.put, List.setIfInBounds_toArray, List.set_cons_zero, List.set_cons_succ]
  go_wp2_with fail
  exact ret_cell rfl (w.heap.size + 2) 0 (hV h) _ rfl (by have := World.rangeAt_setCells_same w4 (w.heap.size + 2) 0 (hV h) (by rw [hl32]; exact J4.t); simpa using this) Tryd.underlying54 rfl hinf rfl ⟨rfl, hbB.trans (J5.b.mono (by omega))⟩
end Go.Proofs.YteebdadnfaekmaaDoor
