import Derived.Test.YtijdnpoenpjnlaaGreatDoorROwner3
set_option linter.unusedVariables false
set_option linter.unusedSimpArgs false
namespace Go.Proofs.YtijdnpoenpjnlaaGreatDoor
open Go.RowKit

theorem strs_take {w : World} {g c' : Nat} {L : List ByteArray} (h : ∀ j u, (L.map Value.string)[j]? = some u → w.cell? ⟨g, j, none⟩ = some u) (q : Nat) (hq : q ≤ L.length) : StrsAt w (.slice (some ⟨g, 0, none⟩) q c') (L.take q) := by
  refine Or.inr ⟨g, 0, c', by simp [Nat.min_eq_left hq], fun j u hu => ?_⟩
  rw [Nat.zero_add]
  refine h j u ?_
  rw [List.map_take, List.getElem?_take] at hu
  split at hu
  · exact hu
  · cases hu
theorem own_len {w : World} {B : Nat} {e : TypeId} {k : Nat} {v : Value} {n n' : Nat} {xs xs' : List Value} (h : w.ownsRow B e k v n xs) (hn : n = n') (hx : xs = xs') : w.ownsRow B e k v n' xs' := by subst hn hx; exact h
theorem strs_none {w : World} {g off len c' : Nat} {L : List ByteArray} (hL : L = []) (hl : len = 0) : StrsAt w (.slice (some ⟨g, off, none⟩) len c') L := by
  subst hL hl
  exact Or.inr ⟨g, off, c', rfl, fun j u hu => by simp at hu⟩
theorem strs_drop {w : World} {g c' : Nat} {L : List ByteArray} (h : ∀ j u, (L.map Value.string)[j]? = some u → w.cell? ⟨g, j, none⟩ = some u) (q : Nat) : StrsAt w (.slice (some ⟨g, q, none⟩) (L.length - q) c') (L.drop q) := by
  refine Or.inr ⟨g, q, c', by simp, fun j u hu => ?_⟩
  refine h (q + j) u ?_
  rw [List.map_drop, List.getElem?_drop] at hu
  exact hu

set_option maxRecDepth 10000 in
set_option maxHeartbeats 1000000 in
theorem owner_drop (p k : Nat) (S : WS) (x y z a b c : Int) (s : ByteArray) (w : World) (h : WAt p k w S) (hk : k ≤ 1000000) (B : OpOk x y z a b c) :
    Calls Tryz.prog 17 #[.pointer (some ⟨p, 0, none⟩), .agg (opCells 7 x y z a b c s).toArray] w fun e w' => e = .returned (.bool true) ∧ ∃ S', WAt p (k + 1) w' S' ∧ Far p S S' w w' := by
  obtain ⟨x0, x1, y0, y1, z0, z1, a0, a1, b0, b1, c0, c1⟩ := B
  have HA : WAt p k (w.alloc (.cells (opCells 7 x y z a b c s).toArray 28)) S := h.below ((Below.refl _ _).alloc (Nat.le_refl _) _)
  have HW : Hid (WAt p k w S) := h
  clear h
  go_enter Tryz.func17, Tryz.ntmps17
  unfold opCells at HA ⊢
  go_wp2_with fail
  refine (text_any p k S x _ HA hk x0 x1).mono ?_
  rintro e w1 ⟨t, rfl, ht, m, hw1⟩
  have hb1 : Below w.heap.size w w1 := by rw [hw1]; exact below_draws ((Below.refl _ _).alloc (Nat.le_refl _) _) m
  have W1 : WAt p k w1 S := HW.out.below hb1
  have hr1 : ∀ j u, (opCells 7 x y z a b c s)[j]? = some u → w1.cell? ⟨w.heap.size, j, none⟩ = some u := by
    intro j u hu
    rw [hw1]
    have := range_new w (opCells 7 x y z a b c s) 28 j u hu
    rw [Nat.zero_add] at this
    exact this
  have hz1 : w.heap.size < w1.heap.size := by rw [hw1]; show w.heap.size < (w.alloc _).heap.size; simp
  clear hw1 HA
  have i0 : w1.cell? ⟨w.heap.size, 0, none⟩ = some (.int .i64 7) := hr1 0 _ rfl
  have i4 : w1.cell? ⟨w.heap.size, 4, none⟩ = some (.int .i64 a) := hr1 4 _ rfl
  clear hr1
  have hc1 : w1.cell? ⟨p, 1, none⟩ = some S.lv := W1.cell 1
  have hf1 : w1.frozen? ⟨p, 1, none⟩ = false := W1.frozen 1
  have hp1 := W1.lt
  have hnL := W1.nL
  have HW1 : Hid (WAt p k w1 S) := W1
  have hLo := W1.list
  clear W1
  rcases hLo.2 with ⟨hv, hn⟩ | ⟨g, cap, cur, hv, hbg, hgg, hnc, hcm, hcs, htk⟩
  · rw [hv] at hc1
    clear hLo
    go_wp2_with fail
    go_ret
    exact ⟨rfl, S, HW1.out.mono (by omega), Far.of_below S hb1⟩
  · by_cases hz0 : S.L.length = 0
    · rw [hv, hz0] at hc1
      clear hLo hgg hcs htk
      go_wp2_with fail
      go_ret
      exact ⟨rfl, S, HW1.out.mono (by omega), Far.of_below S hb1⟩
    · rw [hv] at hc1 hLo
      have hcells : ∀ j u, (S.L.map Value.string)[j]? = some u → w1.cell? ⟨g, j, none⟩ = some u := fun j u hu => by
        have hj : j < S.L.length := by have := (List.getElem?_eq_some_iff.1 hu).1; simpa using this
        rw [hLo.cellAt j (by omega), hu]
      obtain ⟨r, r0, r1, hr⟩ := lpick_ex a S.L.length a0 a1 (by omega) (by omega)
      obtain ⟨q, rfl⟩ : ∃ q : Nat, r = q := ⟨r.toNat, by omega⟩
      obtain ⟨n, hn⟩ : ∃ n, n = S.L.length := ⟨_, rfl⟩
      have HN : Hid (n = S.L.length) := hn
      rw [← hn] at hc1 hr r1 hnc hz0 hnL
      have q1 : (q : Int) < (n : Int) := by omega
      have q2 : (q : Int) ≤ (n : Int) := by omega
      have q3 : (q : Int) + 1 ≤ (n : Int) := by omega
      have q4 : (q : Int) ≤ (cap : Int) := by omega
      have q5 : (n : Int) ≤ (cap : Int) := by omega
      have q6 : (q : Int) + 1 ≤ (cap : Int) := by omega
      have n0 : (0 : Int) < (n : Int) := by omega
      clear hLo hgg hcs htk hn
      go_wp2_with fail
      go_quiet ((go_at_call 25; exact Calls.quiet_of_same (hr _)))
      have hb0 : ∀ m, Below w1.heap.size w1 (w1.drewN m) := fun m => below_draws (Below.refl _ _) m
      have hlt : (S.L.take q).length = q := by simp; have := HN.out; omega
      have hld : (S.L.drop (q + 1)).length = n - (q + 1) := by rw [HN.out]; simp
      have HT : Hid ((S.L.take q).length = q) := hlt
      have HD : Hid ((S.L.drop (q + 1)).length = n - (q + 1)) := hld
      have HS : Hid (∀ {w : World} {c' : Nat}, (∀ j u, (S.L.map Value.string)[j]? = some u → w.cell? ⟨g, j, none⟩ = some u) → StrsAt w (.slice (some ⟨g, q + 1, none⟩) (n - (q + 1)) c') (S.L.drop (q + 1))) := by
        intro w c' h; have := strs_drop (c' := c') h (q + 1); rw [← HN.out] at this; exact this
      clear hlt hld
      by_cases hcq : cap = q + 1
      · have HE : Hid (S.L.drop (q + 1) = []) := List.drop_eq_nil_of_le (by have := HN.out; omega)
        go_wp2_with (first
          | (refine wpList_append_strs rfl _ _ rfl w1.heap.size (.slice ao2 n2 cap2) _ _ rfl ho2 _ (S.L.drop (q + 1)) rfl (strs_none (HE.out) (by omega)) (by have := hn2.out; rw [HT.out] at this; rw [HD.out]; omega) hs2 ?_
             intro ao3 n3 cap3 w3 hn3 ho3 hgr3
             have hb3 : Below w1.heap.size w1 w3 := hb2.trans (below_grown hgr3 hs2 (fun k hk => (hv2 k hk).1))
             have hc3 : w3.cell? ⟨p, 1, none⟩ = some (.slice (some ⟨g, 0, none⟩) n cap) := (hgr3.cell_far ⟨p, 1, none⟩ (by show p < _; omega) hnp).trans hc2
             have hf3 : w3.frozen? ⟨p, 1, none⟩ = false := (hgr3.frozen_far ⟨p, 1, none⟩ (by show p < _; omega) hnp).trans hf2)
          | (refine wpList_append_strs rfl _ _ rfl w1.heap.size (.slice none 0 0) 0 [] rfl (World.ownsRow_nil _ _ _ _) _ (S.L.take q) rfl (strs_take (by intro j u hu; exact hcells j u hu) q (by have := HN.out; omega)) (by rw [HT.out]; omega) (Nat.le_refl _) ?_
             intro ao2 n2 cap2 w2 hn2 ho2 hgr2
             have hb2 : Below w1.heap.size w1 w2 := (hb0 _).trans (below_grown hgr2 (Nat.le_refl _) (fun k hk => by cases hk))
             have hc2 : w2.cell? ⟨p, 1, none⟩ = some (.slice (some ⟨g, 0, none⟩) n cap) := (hb2.cell hp1).trans hc1
             have hf2 : w2.frozen? ⟨p, 1, none⟩ = false := (hb2.frozen hp1).trans hf1
             have hs2 := hb2.size
             have hcells2 : ∀ j u, (S.L.map Value.string)[j]? = some u → w2.cell? ⟨g, j, none⟩ = some u := fun j u hu => (hb2.cell (World.block_lt_of_cell? w1 _ (hcells j u hu))).trans (hcells j u hu)
             clear hgr2 hc1 hf1
             have hv2 := ho2.lt
             have hnp : some p ≠ (Value.slice ao2 n2 cap2).ownBlock := fun e => by have := hv2 p e.symm; omega))
        go_ret
        obtain ⟨W2, F2⟩ := HW1.out.setL (L := S.L.take q ++ S.L.drop (q + 1)) hb3 (own_len ho3 (by rw [hn3.out, hn2.out]; simp) (by simp)) (by rw [List.length_append, HT.out, HD.out]; omega) (fun x hx => by
          rcases List.mem_append.1 hx with hx | hx
          · exact HW1.out.sL x (List.mem_of_mem_take hx)
          · exact HW1.out.sL x (List.mem_of_mem_drop hx))
        exact ⟨rfl, _, W2, (Far.of_below S hb1).trans F2⟩
      · skip
        go_wp2_with (first
          | (refine wpList_append_strs rfl _ _ rfl w1.heap.size (.slice ao2 n2 cap2) _ _ rfl ho2 _ (S.L.drop (q + 1)) rfl (HS.out hcells2) (by have := hn2.out; rw [HT.out] at this; rw [HD.out]; omega) hs2 ?_
             intro ao3 n3 cap3 w3 hn3 ho3 hgr3
             have hb3 : Below w1.heap.size w1 w3 := hb2.trans (below_grown hgr3 hs2 (fun k hk => (hv2 k hk).1))
             have hc3 : w3.cell? ⟨p, 1, none⟩ = some (.slice (some ⟨g, 0, none⟩) n cap) := (hgr3.cell_far ⟨p, 1, none⟩ (by show p < _; omega) hnp).trans hc2
             have hf3 : w3.frozen? ⟨p, 1, none⟩ = false := (hgr3.frozen_far ⟨p, 1, none⟩ (by show p < _; omega) hnp).trans hf2)
          | (refine wpList_append_strs rfl _ _ rfl w1.heap.size (.slice none 0 0) 0 [] rfl (World.ownsRow_nil _ _ _ _) _ (S.L.take q) rfl (strs_take (by intro j u hu; exact hcells j u hu) q (by have := HN.out; omega)) (by rw [HT.out]; omega) (Nat.le_refl _) ?_
             intro ao2 n2 cap2 w2 hn2 ho2 hgr2
             have hb2 : Below w1.heap.size w1 w2 := (hb0 _).trans (below_grown hgr2 (Nat.le_refl _) (fun k hk => by cases hk))
             have hc2 : w2.cell? ⟨p, 1, none⟩ = some (.slice (some ⟨g, 0, none⟩) n cap) := (hb2.cell hp1).trans hc1
             have hf2 : w2.frozen? ⟨p, 1, none⟩ = false := (hb2.frozen hp1).trans hf1
             have hs2 := hb2.size
             have hcells2 : ∀ j u, (S.L.map Value.string)[j]? = some u → w2.cell? ⟨g, j, none⟩ = some u := fun j u hu => (hb2.cell (World.block_lt_of_cell? w1 _ (hcells j u hu))).trans (hcells j u hu)
             clear hgr2 hc1 hf1
             have hv2 := ho2.lt
             have hnp : some p ≠ (Value.slice ao2 n2 cap2).ownBlock := fun e => by have := hv2 p e.symm; omega))
        go_ret
        obtain ⟨W2, F2⟩ := HW1.out.setL (L := S.L.take q ++ S.L.drop (q + 1)) hb3 (own_len ho3 (by rw [hn3.out, hn2.out]; simp) (by simp)) (by rw [List.length_append, HT.out, HD.out]; omega) (fun x hx => by
          rcases List.mem_append.1 hx with hx | hx
          · exact HW1.out.sL x (List.mem_of_mem_take hx)
          · exact HW1.out.sL x (List.mem_of_mem_drop hx))
        exact ⟨rfl, _, W2, (Far.of_below S hb1).trans F2⟩

end Go.Proofs.YtijdnpoenpjnlaaGreatDoor
