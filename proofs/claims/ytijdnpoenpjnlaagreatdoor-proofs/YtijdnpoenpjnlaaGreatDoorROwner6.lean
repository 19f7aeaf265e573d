import Derived.Test.YtijdnpoenpjnlaaGreatDoorRDisk
set_option linter.unusedVariables false
set_option linter.unusedSimpArgs false
namespace Go.Proofs.YtijdnpoenpjnlaaGreatDoor
open Go.RowKit

theorem buf_set {B : Nat} {w : World} {g n cap : Nat} {xs : List Int} (h : BufAt B w g n cap xs) (q : Nat) (hq : q < n) (v : Int) : BufAt B (w.setCell ⟨g, q, none⟩ (.int .u8 v)) g n cap (xs.set q v) := by
  refine ⟨by rw [List.length_set]; exact h.len, fun j u hu => ?_, World.there_setCells h.room g q [_], h.le, h.lo, by simpa using h.hi⟩
  rw [Nat.zero_add]
  have hc : ∃ u', w.cell? ⟨g, q, none⟩ = some u' := by
    have := (h.room q (Nat.lt_of_lt_of_le hq h.le)).1
    rw [Nat.zero_add] at this
    exact Option.isSome_iff_exists.1 this
  obtain ⟨u', hc⟩ := hc
  rw [bytesV, List.getElem?_map, List.getElem?_set] at hu
  by_cases hj : q = j
  · subst hj
    rw [World.cell?_setCell_same _ _ _ hc]
    rw [if_pos rfl, if_pos (by rw [h.len]; exact hq)] at hu
    simpa using hu
  · rw [World.cell?_setCell_other (w := w) (a := ⟨g, q, none⟩) (b := ⟨g, j, none⟩) _ (by intro e; exact hj (congrArg Addr.off e))]
    rw [if_neg hj] at hu
    have := h.cells j u (by rw [bytesV, List.getElem?_map]; exact hu)
    rwa [Nat.zero_add] at this

set_option maxRecDepth 10000 in
set_option maxHeartbeats 1000000 in
theorem owner_turn (p k : Nat) (S : WS) (x y z a b c : Int) (s : ByteArray) (w : World) (h : WAt p k w S) (hk : k ≤ 1000000) (B : OpOk x y z a b c) :
    Calls Tryz.prog 17 #[.pointer (some ⟨p, 0, none⟩), .agg (opCells 3 x y z a b c s).toArray] w fun e w' => e = .returned (.bool true) ∧ ∃ S', WAt p (k + 1) w' S' ∧ Far p S S' w w' := by
  obtain ⟨x0, x1, y0, y1, z0, z1, a0, a1, b0, b1, c0, c1⟩ := B
  have HA : WAt p k (w.alloc (.cells (opCells 3 x y z a b c s).toArray 28)) S := h.below ((Below.refl _ _).alloc (Nat.le_refl _) _)
  have HW : Hid (WAt p k w S) := h
  clear h
  go_enter Tryz.func17, Tryz.ntmps17
  unfold opCells at HA ⊢
  go_wp2_with fail
  refine (text_any p k S x _ HA hk x0 x1).mono ?_
  rintro e w1 ⟨t, rfl, ht, m, hw1⟩
  have hb1 : Below w.heap.size w w1 := by rw [hw1]; exact below_draws ((Below.refl _ _).alloc (Nat.le_refl _) _) m
  have W1 : WAt p k w1 S := HW.out.below hb1
  have hr1 : ∀ j u, (opCells 3 x y z a b c s)[j]? = some u → w1.cell? ⟨w.heap.size, j, none⟩ = some u := by
    intro j u hu
    rw [hw1]
    have := range_new w (opCells 3 x y z a b c s) 28 j u hu
    rw [Nat.zero_add] at this
    exact this
  have hz1 : w.heap.size < w1.heap.size := by rw [hw1]; show w.heap.size < (w.alloc _).heap.size; simp
  clear hw1 HA
  have i0 : w1.cell? ⟨w.heap.size, 0, none⟩ = some (.int .i64 3) := hr1 0 _ rfl
  have i4 : w1.cell? ⟨w.heap.size, 4, none⟩ = some (.int .i64 a) := hr1 4 _ rfl
  have i5 : w1.cell? ⟨w.heap.size, 5, none⟩ = some (.int .i64 b) := hr1 5 _ rfl
  clear hr1
  have HW1 : Hid (WAt p k w1 S) := W1
  by_cases hz : t.size = 0
  · have hz' : ¬ ((0 : Int) < (t.size : Int)) := by omega
    go_wp2_with (refine wpList_conv_buf rfl _ rfl t rfl ?_; intro w2 g cap hbuf hb2; have hcv := convert_range (cap := cap) 0 (by rw [numsOf_length, hz]) hbuf.cells)
    have W2 : WAt p k w2 S := W1.below hb2
    refine (add_any p k S _ w2 W2 hk).mono ?_
    rintro e w3 ⟨rfl, S', W3, F3⟩
    go_wp2_with fail
    go_ret
    exact ⟨rfl, S', W3, (Far.of_below S (hb1.trans (hb2.mono hb1.size))).trans F3⟩
  · have hz' : (0 : Int) < (t.size : Int) := by omega
    obtain ⟨r, r0, r1, hr⟩ := lpick_ex a t.size a0 a1 (by omega) (by omega)
    obtain ⟨q, rfl⟩ : ∃ q : Nat, r = q := ⟨r.toNat, by omega⟩
    go_wp2_with (refine wpList_conv_buf rfl _ rfl t rfl ?_; intro w2 g cap hbuf hb2)
    have hs2 := hb2.size
    have j4 : w2.cell? ⟨w.heap.size, 4, none⟩ = some (.int .i64 a) := (hb2.cell (p := ⟨w.heap.size, 4, none⟩) hz1).trans i4
    have j5 : w2.cell? ⟨w.heap.size, 5, none⟩ = some (.int .i64 b) := (hb2.cell (p := ⟨w.heap.size, 5, none⟩) hz1).trans i5
    have W2 : WAt p k w2 S := W1.below hb2
    have hg1 := hbuf.lo
    have hg2 := hbuf.hi
    have hqr := hbuf.room q (by have := hbuf.le; omega)
    rw [Nat.zero_add] at hqr
    obtain ⟨u', hu'⟩ := Option.isSome_iff_exists.1 hqr.1
    have hfz := hqr.2
    clear W1 i0 i4 i5 hqr
    have hS2 : w2.drew.cell? ⟨w.heap.size, 4, none⟩ = some (.int .i64 a) ∧ w2.drew.cell? ⟨w.heap.size, 5, none⟩ = some (.int .i64 b) := ⟨j4, j5⟩
    refine wp_region_noPanic ?_
    refine wp_region_held_drew (S := fun w' => w'.cell? ⟨w.heap.size, 4, none⟩ = some (.int .i64 a) ∧ w'.cell? ⟨w.heap.size, 5, none⟩ = some (.int .i64 b)) (by kernel_rfl) hS2 (fun _ => ?_)
    refine wpAnyH_take (i := 0) (v := ?_) rfl (by kernel_rfl) (by kernel_rfl) (by kernel_rfl) (fun _ _ _ h => h) (Or.inl ⟨by rfl, ?_⟩) hS2 ?_
    rotate_left 1
    · rintro w ⟨h4, h5⟩; go_simp; try with_reducible rfl
    simp only [List.getElem_toArray, List.getElem_cons_zero, List.getElem_cons_succ, Act.put, List.setIfInBounds_toArray, List.set_cons_zero, List.set_cons_succ]
    refine wpAnyH_take (i := 1) (v := ?_) rfl (by kernel_rfl) (by kernel_rfl) (by kernel_rfl) (fun _ _ _ h => h) (Or.inl ⟨by rfl, ?_⟩) hS2 ?_
    rotate_left 1
    · rintro w ⟨h4, h5⟩; go_simp; try with_reducible rfl
    simp only [List.getElem_toArray, List.getElem_cons_zero, List.getElem_cons_succ, Act.put, List.setIfInBounds_toArray, List.set_cons_zero, List.set_cons_succ]
    refine wpAnyH_take (i := 2) (v := ?_) rfl (by kernel_rfl) (by kernel_rfl) (by kernel_rfl) (fun _ _ _ h => h) (Or.inl ⟨by rfl, ?_⟩) hS2 ?_
    rotate_left 1
    · rintro w ⟨h4, h5⟩; go_simp; try with_reducible rfl
    simp only [List.getElem_toArray, List.getElem_cons_zero, List.getElem_cons_succ, Act.put, List.setIfInBounds_toArray, List.set_cons_zero, List.set_cons_succ]
    refine wpAnyH_take (i := 3) (v := ?_) rfl (by kernel_rfl) (by kernel_rfl) (by kernel_rfl) (fun _ _ _ h => h) (Or.inl ⟨by rfl, ?_⟩) hS2 ?_
    rotate_left 1
    · rintro w ⟨h4, h5⟩; go_simp; try with_reducible rfl
    simp only [List.getElem_toArray, List.getElem_cons_zero, List.getElem_cons_succ, Act.put, List.setIfInBounds_toArray, List.set_cons_zero, List.set_cons_succ]
    refine wpAnyH_take (i := 4) (v := ?_) rfl (by kernel_rfl) (by kernel_rfl) (by kernel_rfl) (fun _ _ _ h => h) (Or.inl ⟨by rfl, ?_⟩) hS2 ?_
    rotate_left 1
    · rintro w ⟨h4, h5⟩; go_simp; try with_reducible rfl
    simp only [List.getElem_toArray, List.getElem_cons_zero, List.getElem_cons_succ, Act.put, List.setIfInBounds_toArray, List.set_cons_zero, List.set_cons_succ]
    refine wpAnyH_take (i := 6) (v := ?_) rfl (by kernel_rfl) (by kernel_rfl) (by kernel_rfl) (fun _ _ _ h => h) (Or.inl ⟨by rfl, ?_⟩) hS2 ?_
    rotate_left 1
    · rintro w ⟨h4, h5⟩; go_simp; try with_reducible rfl
    simp only [List.getElem_toArray, List.getElem_cons_zero, List.getElem_cons_succ, Act.put, List.setIfInBounds_toArray, List.set_cons_zero, List.set_cons_succ]
    refine wpAnyH_take (i := 7) (v := ?_) rfl (by kernel_rfl) (by kernel_rfl) (by kernel_rfl) (fun _ _ _ h => h) (Or.inl ⟨by rfl, ?_⟩) hS2 ?_
    rotate_left 1
    · rintro w ⟨h4, h5⟩; go_simp; try with_reducible rfl
    simp only [List.getElem_toArray, List.getElem_cons_zero, List.getElem_cons_succ, Act.put, List.setIfInBounds_toArray, List.set_cons_zero, List.set_cons_succ]
    refine wpAnyH_take (i := 8) (v := ?_) rfl (by kernel_rfl) (by kernel_rfl) (by kernel_rfl) (fun _ _ _ h => h) (Or.inl ⟨by rfl, ?_⟩) hS2 ?_
    rotate_left 1
    · rintro w ⟨h4, h5⟩; go_simp; try with_reducible rfl
    simp only [List.getElem_toArray, List.getElem_cons_zero, List.getElem_cons_succ, Act.put, List.setIfInBounds_toArray, List.set_cons_zero, List.set_cons_succ]
    refine wpAnyH_ready (rs := [5]) (by kernel_rfl) (by simp) ?_
    refine AllReadyH.cons rfl (fun K hK => ?_) AllReadyH.nil
    rw [if_pos (by rfl)]
    go_simp
    refine (hr _).mono ?_
    rintro e w' ⟨rfl, hw'⟩
    obtain rfl : w2.drew = w' := hw'.symm
    clear hw'
    refine hK.out _ _ hS2 (fun _ => ?_)
    clear hK K
    try simp only [List.getElem_toArray, List.getElem_cons_zero, List.getElem_cons_succ, Act.put, List.setIfInBounds_toArray, List.set_cons_zero, List.set_cons_succ]
    refine wpAnyH_take (i := 9) (v := ?_) rfl (by kernel_rfl) (by kernel_rfl) (by kernel_rfl) (fun _ _ _ h => h) (Or.inl ⟨by rfl, ?_⟩) hS2 ?_
    rotate_left 1
    · rintro w ⟨h4, h5⟩; go_simp; try with_reducible rfl
    simp only [List.getElem_toArray, List.getElem_cons_zero, List.getElem_cons_succ, Act.put, List.setIfInBounds_toArray, List.set_cons_zero, List.set_cons_succ]
    refine wpAnyH_ready (rs := [10]) (by kernel_rfl) (by simp) ?_
    refine AllReadyH.cons rfl (fun K hK => ?_) AllReadyH.nil
    rw [if_pos (by rfl)]
    go_simp
    have hgB : g ≠ w.heap.size := by omega
    refine hK.out _ _ ⟨?_, ?_⟩ (fun _ => ?_)
    · exact (World.cell?_setCell_other (w := w2) (a := ⟨g, q, none⟩) (b := ⟨w.heap.size, 4, none⟩) _ (by intro e; exact hgB (congrArg Addr.block e))).trans j4
    · exact (World.cell?_setCell_other (w := w2) (a := ⟨g, q, none⟩) (b := ⟨w.heap.size, 5, none⟩) _ (by intro e; exact hgB (congrArg Addr.block e))).trans j5
    clear hK K
    refine ⟨by kernel_rfl, ?_⟩
    refine NoPanic.normal ?_
    try simp only [List.getElem_toArray, List.getElem_cons_zero, List.getElem_cons_succ, Act.put, List.setIfInBounds_toArray, List.set_cons_zero, List.set_cons_succ]
    have hbuf2 := buf_set hbuf q (by omega) (IntKind.u8.wrap b)
    have hbuf3 := hbuf2.below (Below.refl _ _).drew hbuf2.hi
    have hb3 : Below w1.heap.size w1 (w2.setCell ⟨g, q, none⟩ (.int .u8 (IntKind.u8.wrap b))).drew := (hb2.setCell (p := ⟨g, q, none⟩) hg1 _).drew
    clear hbuf2
    generalize (w2.setCell ⟨g, q, none⟩ (.int .u8 (IntKind.u8.wrap b))).drew = w3 at *
    have hcv := convert_range (cap := cap) t.size hbuf3.len hbuf3.cells
    have W3 : WAt p k w3 S := HW1.out.below hb3
    go_wp2_with fail
    refine (add_any p k S _ w3 W3 hk).mono ?_
    rintro e w4 ⟨rfl, S', W4, F4⟩
    go_wp2_with fail
    go_ret
    exact ⟨rfl, S', W4, (Far.of_below S (hb1.trans (hb3.mono hb1.size))).trans F4⟩

end Go.Proofs.YtijdnpoenpjnlaaGreatDoor
