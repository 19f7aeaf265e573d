import Derived.Test.YtnlbmnbpckpafabGreatDoorNNode1M
import Derived.Test.YtnlbmnbpckpafabGreatDoorNOpen2
set_option linter.unusedVariables false
set_option linter.unusedSimpArgs false
namespace Go.Proofs.YtnlbmnbpckpafabGreatDoor
open Go.RowKit

set_option maxRecDepth 10000 in
set_option maxHeartbeats 4000000 in
theorem req_old (K : Nat → Int) (nd q bb N j u : Nat) (C : Nat → List Int) (l : ByteArray) (bk lm m cc : Nat) (lv : Value) (L : List En) (G F : Nat → Prop) (D : DataW Unit) (c n o p v : Int) (t : ByteArray) (no : Int) (i : Nat) (w : World) (h : Al K w nd q bb N j u C l bk lm m cc lv L G F D) (hw : rqWhole c n o p v t = true) (hl : lastIs L D c no i) (hL : L.length ≤ 400) (hno : n < no) :
    Calls Tryz.prog 22 #[.pointer (some ⟨nd, 0, none⟩), .agg (rqCells c n o p v t).toArray] w fun e w' => e = .returned (.tuple #[.slice none 0 0, .iface 41 (.int .i64 2)]) ∧ Below w.heap.size w w' := by
  obtain ⟨⟨c1, c9⟩, ⟨n1, n9⟩, _, _, _, ht8⟩ := rq_bounds hw
  obtain ⟨V, hV⟩ : ∃ V, V = w.alloc (.cells (rqCells c n o p v t).toArray 29) := ⟨_, rfl⟩
  have hVs : V.heap.size = w.heap.size + 1 := by rw [hV]; simp
  have bV : Below w.heap.size w V := by rw [hV]; exact (Below.refl _ _).alloc (Nat.le_refl _) _
  have rV : V.rangeAt w.heap.size 0 (rqCells c n o p v t) := by rw [hV]; exact range_new _ _ _
  have AV := h.fresh bV
  have HAV : Hid (Al K V nd q bb N j u C l bk lm m cc lv L G F D) := AV
  have HBV : Hid (Below w.heap.size w V) := bV
  have HRV : Hid (V.rangeAt w.heap.size 0 (rqCells c n o p v t)) := rV
  have HQ : Hid ((Tryz.prog.info? 29).map (·.size) = some (rqCells c n o p v t).length) := info_rq c n o p v t
  have cf : V.cell? ⟨nd, 5, none⟩ = some (.bool false) := AV.node 5 _ rfl
  have hp := nd_place AV.node
  have HNL : Hid (nd < w.heap.size) := h.nlt
  clear h AV bV rV
  go_enter Tryz.func22, Tryz.ntmps22
  unfold rqCells at hV
  unfold rqCells
  go_wp2_with (first
    | (rw [← hV]; clear hV)
    | (refine wpList_load_mid rfl 86 _ rfl nd 0 rfl plL _ hp Tryz.underlying86 rfl info_pl ?_))
  refine (first_any V).mono ?_
  rintro e W1 ⟨rfl, hb1⟩
  have s1 := hb1.size
  have A1 : Hid (Al K W1 nd q bb N j u C l bk lm m cc lv L G F D) := HAV.out.fresh hb1
  have r1 : W1.rangeAt w.heap.size 0 (rqCells c n o p v t) := range_kept HRV.out (Kept.fresh (S := fun _ => False) hb1) (by omega) id
  have B1 : Hid (Below w.heap.size w W1) := HBV.out.trans (hb1.mono (by omega))
  have hwh := ewhole_any c n o p v t W1 (by omega)
  rw [hw] at hwh
  clear hb1 hp cf
  go_wp2_with (first
    | (refine wpList_load_mid rfl 29 _ rfl w.heap.size 0 rfl (rqCells c n o p v t) _ r1 Tryz.underlying29 rfl HQ.out ?_))
  refine hwh.mono ?_
  rintro e W2 ⟨rfl, hb2⟩
  have s2 := hb2.size
  have A2 : Hid (Al K W2 nd q bb N j u C l bk lm m cc lv L G F D) := A1.out.fresh hb2
  have J0 : W2.drew.rangeAt w.heap.size 0 (rqCells c n o p v t) ∧ W2.drew.cell? ⟨nd, 2, none⟩ = some (.pointer (some ⟨bk, 0, none⟩)) := ⟨(range_kept r1 (Kept.fresh (S := fun _ => False) hb2) (by omega) id : W2.rangeAt _ _ _), A2.out.node 2 _ rfl⟩
  have B2 : Hid (Below w.heap.size w W2) := B1.out.trans (hb2.mono (by omega))
  clear hb2 hwh r1
  go_wp2_with fail
  refine wp_region_noPanic ?_
  refine wp_region_held_drew (S := fun W => W.rangeAt w.heap.size 0 (rqCells c n o p v t) ∧ W.cell? ⟨nd, 2, none⟩ = some (.pointer (some ⟨bk, 0, none⟩))) (by kernel_rfl) J0 (fun _ => ?_)
  refine wpAnyH_take (i := 0) (v := ?_) rfl (by kernel_rfl) (by kernel_rfl) (by kernel_rfl) (fun _ _ _ h => h) (Or.inl ⟨by rfl, ?_⟩) J0 ?_
  rotate_left 1
  · intro W hSW; clear hSW; go_simp; try with_reducible rfl
  simp only [List.getElem_toArray, List.getElem_cons_zero, List.getElem_cons_succ, Act.put, List.setIfInBounds_toArray, List.set_cons_zero, List.set_cons_succ]
  refine wpAnyH_take (i := 1) (v := ?_) rfl (by kernel_rfl) (by kernel_rfl) (by kernel_rfl) (fun _ _ _ h => h) (Or.inl ⟨by rfl, ?_⟩) J0 ?_
  rotate_left 1
  · intro W hSW; clear hSW; go_simp; try with_reducible rfl
  simp only [List.getElem_toArray, List.getElem_cons_zero, List.getElem_cons_succ, Act.put, List.setIfInBounds_toArray, List.set_cons_zero, List.set_cons_succ]
  refine wpAnyH_take (i := 2) (v := ?_) rfl (by kernel_rfl) (by kernel_rfl) (by kernel_rfl) (fun _ _ _ h => h) (Or.inl ⟨by rfl, ?_⟩) J0 ?_
  rotate_left 1
  · intro W hSW; clear hSW; go_simp; try with_reducible rfl
  simp only [List.getElem_toArray, List.getElem_cons_zero, List.getElem_cons_succ, Act.put, List.setIfInBounds_toArray, List.set_cons_zero, List.set_cons_succ]
  refine wpAnyH_take (i := 3) (v := ?_) rfl (by kernel_rfl) (by kernel_rfl) (by kernel_rfl) (fun _ _ _ h => h) (Or.inl ⟨by rfl, ?_⟩) J0 ?_
  rotate_left 1
  · intro W hSW; have qc := hSW.2; clear hSW; go_simp; try with_reducible rfl
  simp only [List.getElem_toArray, List.getElem_cons_zero, List.getElem_cons_succ, Act.put, List.setIfInBounds_toArray, List.set_cons_zero, List.set_cons_succ]
  refine wpAnyH_take (i := 4) (v := ?_) rfl (by kernel_rfl) (by kernel_rfl) (by kernel_rfl) (fun _ _ _ h => h) (Or.inl ⟨by rfl, ?_⟩) J0 ?_
  rotate_left 1
  · intro W hSW; clear hSW; go_simp; try with_reducible rfl
  simp only [List.getElem_toArray, List.getElem_cons_zero, List.getElem_cons_succ, Act.put, List.setIfInBounds_toArray, List.set_cons_zero, List.set_cons_succ]
  refine wpAnyH_take (i := 5) (v := ?_) rfl (by kernel_rfl) (by kernel_rfl) (by kernel_rfl) (fun _ _ _ h => h) (Or.inl ⟨by rfl, ?_⟩) J0 ?_
  rotate_left 1
  · intro W hSW; have qc : W.cell? ⟨w.heap.size, 0, none⟩ = some (.int .i64 c) := hSW.1 0 _ rfl; clear hSW; go_simp; try with_reducible rfl
  simp only [List.getElem_toArray, List.getElem_cons_zero, List.getElem_cons_succ, Act.put, List.setIfInBounds_toArray, List.set_cons_zero, List.set_cons_succ]
  refine wpAnyH_ready (rs := [6]) (by kernel_rfl) (by simp) ?_
  refine AllReadyH.cons rfl (fun K' hK' => ?_) AllReadyH.nil
  rw [if_pos (by rfl)]
  go_simp
  refine (lastno_any bk j lm m cc lv L G F D c no i W2.drew A2.out.book.drew (by omega) hl (by omega)).mono ?_
  rintro e W3 ⟨rfl, hb3⟩
  have b3 : Below W2.heap.size W2 W3 := ((Below.refl W2.heap.size W2).drew).trans hb3
  have s3 := b3.size
  have A3 : Hid (Al K W3 nd q bb N j u C l bk lm m cc lv L G F D) := A2.out.fresh b3
  have J3 : W3.rangeAt w.heap.size 0 (rqCells c n o p v t) ∧ W3.cell? ⟨nd, 2, none⟩ = some (.pointer (some ⟨bk, 0, none⟩)) := ⟨range_kept (W := W2) J0.1 (Kept.fresh (S := fun _ => False) b3) (by omega) id, A3.out.node 2 _ rfl⟩
  have B3 : Hid (Below w.heap.size w W3) := B2.out.trans (b3.mono (by omega))
  clear hb3 b3
  refine hK'.out _ _ J3 (fun _ => ?_)
  clear hK' K'
  try simp only [List.getElem_toArray, List.getElem_cons_zero, List.getElem_cons_succ, Act.put, List.setIfInBounds_toArray, List.set_cons_zero, List.set_cons_succ]
  refine wpAnyH_take (i := 7) (v := ?_) rfl (by kernel_rfl) (by kernel_rfl) (by kernel_rfl) (fun _ _ _ h => h) (Or.inl ⟨by rfl, ?_⟩) J3 ?_
  rotate_left 1
  · intro W hSW; clear hSW; go_simp; try with_reducible rfl
  simp only [List.getElem_toArray, List.getElem_cons_zero, List.getElem_cons_succ, Act.put, List.setIfInBounds_toArray, List.set_cons_zero, List.set_cons_succ]
  refine ⟨by kernel_rfl, ?_⟩
  refine NoPanic.normal ?_
  try simp only [List.getElem_toArray, List.getElem_cons_zero, List.getElem_cons_succ, Act.put, List.setIfInBounds_toArray, List.set_cons_zero, List.set_cons_succ]
  have c1n : W3.cell? ⟨w.heap.size, 1, none⟩ = some (.int .i64 n) := J3.1 1 _ rfl
  go_wp2_with fail
  go_ret2
  exact ⟨rfl, B3.out⟩

set_option maxRecDepth 10000 in
set_option maxHeartbeats 4000000 in
theorem req_new (K : Nat → Int) (nd q bb N j u : Nat) (C : Nat → List Int) (l : ByteArray) (bk lm m cc : Nat) (lv : Value) (L : List En) (G F : Nat → Prop) (D : DataW Unit) (c n o p v : Int) (t : ByteArray) (no : Int) (i : Nat) (w : World) (h : Al K w nd q bb N j u C l bk lm m cc lv L G F D) (hw : rqWhole c n o p v t = true) (hl : lastIs L D c no i) (hL : L.length ≤ 400) (hno : no < n) (hN : N ≤ 1000) (hu : u < N) (hcc : cc < 700) :
    Calls Tryz.prog 22 #[.pointer (some ⟨nd, 0, none⟩), .agg (rqCells c n o p v t).toArray] w (newPost K nd q bb N j u C l bk lm m cc lv L G F D c n o p v t w) := by
  obtain ⟨⟨c1, c9⟩, ⟨n1, n9⟩, _, _, _, ht8⟩ := rq_bounds hw
  obtain ⟨V, hV⟩ : ∃ V, V = w.alloc (.cells (rqCells c n o p v t).toArray 29) := ⟨_, rfl⟩
  have hVs : V.heap.size = w.heap.size + 1 := by rw [hV]; simp
  have bV : Below w.heap.size w V := by rw [hV]; exact (Below.refl _ _).alloc (Nat.le_refl _) _
  have rV : V.rangeAt w.heap.size 0 (rqCells c n o p v t) := by rw [hV]; exact range_new _ _ _
  have AV := h.fresh bV
  have HAV : Hid (Al K V nd q bb N j u C l bk lm m cc lv L G F D) := AV
  have HBV : Hid (Below w.heap.size w V) := bV
  have HRV : Hid (V.rangeAt w.heap.size 0 (rqCells c n o p v t)) := rV
  have HQ : Hid ((Tryz.prog.info? 29).map (·.size) = some (rqCells c n o p v t).length) := info_rq c n o p v t
  have cf : V.cell? ⟨nd, 5, none⟩ = some (.bool false) := AV.node 5 _ rfl
  have hp := nd_place AV.node
  have HNL : Hid (nd < w.heap.size) := h.nlt
  clear h AV bV rV
  go_enter Tryz.func22, Tryz.ntmps22
  unfold rqCells at hV
  unfold rqCells
  go_wp2_with (first
    | (rw [← hV]; clear hV)
    | (refine wpList_load_mid rfl 86 _ rfl nd 0 rfl plL _ hp Tryz.underlying86 rfl info_pl ?_))
  refine (first_any V).mono ?_
  rintro e W1 ⟨rfl, hb1⟩
  have s1 := hb1.size
  have A1 : Hid (Al K W1 nd q bb N j u C l bk lm m cc lv L G F D) := HAV.out.fresh hb1
  have r1 : W1.rangeAt w.heap.size 0 (rqCells c n o p v t) := range_kept HRV.out (Kept.fresh (S := fun _ => False) hb1) (by omega) id
  have B1 : Hid (Below w.heap.size w W1) := HBV.out.trans (hb1.mono (by omega))
  have hwh := ewhole_any c n o p v t W1 (by omega)
  rw [hw] at hwh
  clear hb1 hp cf
  go_wp2_with (first
    | (refine wpList_load_mid rfl 29 _ rfl w.heap.size 0 rfl (rqCells c n o p v t) _ r1 Tryz.underlying29 rfl HQ.out ?_))
  refine hwh.mono ?_
  rintro e W2 ⟨rfl, hb2⟩
  have s2 := hb2.size
  have A2 : Hid (Al K W2 nd q bb N j u C l bk lm m cc lv L G F D) := A1.out.fresh hb2
  have J0 : W2.drew.rangeAt w.heap.size 0 (rqCells c n o p v t) ∧ W2.drew.cell? ⟨nd, 2, none⟩ = some (.pointer (some ⟨bk, 0, none⟩)) := ⟨(range_kept r1 (Kept.fresh (S := fun _ => False) hb2) (by omega) id : W2.rangeAt _ _ _), A2.out.node 2 _ rfl⟩
  have B2 : Hid (Below w.heap.size w W2) := B1.out.trans (hb2.mono (by omega))
  clear hb2 hwh r1
  go_wp2_with fail
  refine wp_region_noPanic ?_
  refine wp_region_held_drew (S := fun W => W.rangeAt w.heap.size 0 (rqCells c n o p v t) ∧ W.cell? ⟨nd, 2, none⟩ = some (.pointer (some ⟨bk, 0, none⟩))) (by kernel_rfl) J0 (fun _ => ?_)
  refine wpAnyH_take (i := 0) (v := ?_) rfl (by kernel_rfl) (by kernel_rfl) (by kernel_rfl) (fun _ _ _ h => h) (Or.inl ⟨by rfl, ?_⟩) J0 ?_
  rotate_left 1
  · intro W hSW; clear hSW; go_simp; try with_reducible rfl
  simp only [List.getElem_toArray, List.getElem_cons_zero, List.getElem_cons_succ, Act.put, List.setIfInBounds_toArray, List.set_cons_zero, List.set_cons_succ]
  refine wpAnyH_take (i := 1) (v := ?_) rfl (by kernel_rfl) (by kernel_rfl) (by kernel_rfl) (fun _ _ _ h => h) (Or.inl ⟨by rfl, ?_⟩) J0 ?_
  rotate_left 1
  · intro W hSW; clear hSW; go_simp; try with_reducible rfl
  simp only [List.getElem_toArray, List.getElem_cons_zero, List.getElem_cons_succ, Act.put, List.setIfInBounds_toArray, List.set_cons_zero, List.set_cons_succ]
  refine wpAnyH_take (i := 2) (v := ?_) rfl (by kernel_rfl) (by kernel_rfl) (by kernel_rfl) (fun _ _ _ h => h) (Or.inl ⟨by rfl, ?_⟩) J0 ?_
  rotate_left 1
  · intro W hSW; clear hSW; go_simp; try with_reducible rfl
  simp only [List.getElem_toArray, List.getElem_cons_zero, List.getElem_cons_succ, Act.put, List.setIfInBounds_toArray, List.set_cons_zero, List.set_cons_succ]
  refine wpAnyH_take (i := 3) (v := ?_) rfl (by kernel_rfl) (by kernel_rfl) (by kernel_rfl) (fun _ _ _ h => h) (Or.inl ⟨by rfl, ?_⟩) J0 ?_
  rotate_left 1
  · intro W hSW; have qc := hSW.2; clear hSW; go_simp; try with_reducible rfl
  simp only [List.getElem_toArray, List.getElem_cons_zero, List.getElem_cons_succ, Act.put, List.setIfInBounds_toArray, List.set_cons_zero, List.set_cons_succ]
  refine wpAnyH_take (i := 4) (v := ?_) rfl (by kernel_rfl) (by kernel_rfl) (by kernel_rfl) (fun _ _ _ h => h) (Or.inl ⟨by rfl, ?_⟩) J0 ?_
  rotate_left 1
  · intro W hSW; clear hSW; go_simp; try with_reducible rfl
  simp only [List.getElem_toArray, List.getElem_cons_zero, List.getElem_cons_succ, Act.put, List.setIfInBounds_toArray, List.set_cons_zero, List.set_cons_succ]
  refine wpAnyH_take (i := 5) (v := ?_) rfl (by kernel_rfl) (by kernel_rfl) (by kernel_rfl) (fun _ _ _ h => h) (Or.inl ⟨by rfl, ?_⟩) J0 ?_
  rotate_left 1
  · intro W hSW; have qc : W.cell? ⟨w.heap.size, 0, none⟩ = some (.int .i64 c) := hSW.1 0 _ rfl; clear hSW; go_simp; try with_reducible rfl
  simp only [List.getElem_toArray, List.getElem_cons_zero, List.getElem_cons_succ, Act.put, List.setIfInBounds_toArray, List.set_cons_zero, List.set_cons_succ]
  refine wpAnyH_ready (rs := [6]) (by kernel_rfl) (by simp) ?_
  refine AllReadyH.cons rfl (fun K' hK' => ?_) AllReadyH.nil
  rw [if_pos (by rfl)]
  go_simp
  refine (lastno_any bk j lm m cc lv L G F D c no i W2.drew A2.out.book.drew (by omega) hl (by omega)).mono ?_
  rintro e W3 ⟨rfl, hb3⟩
  have b3 : Below W2.heap.size W2 W3 := ((Below.refl W2.heap.size W2).drew).trans hb3
  have s3 := b3.size
  have A3 : Hid (Al K W3 nd q bb N j u C l bk lm m cc lv L G F D) := A2.out.fresh b3
  have J3 : W3.rangeAt w.heap.size 0 (rqCells c n o p v t) ∧ W3.cell? ⟨nd, 2, none⟩ = some (.pointer (some ⟨bk, 0, none⟩)) := ⟨range_kept (W := W2) J0.1 (Kept.fresh (S := fun _ => False) b3) (by omega) id, A3.out.node 2 _ rfl⟩
  have B3 : Hid (Below w.heap.size w W3) := B2.out.trans (b3.mono (by omega))
  clear hb3 b3
  refine hK'.out _ _ J3 (fun _ => ?_)
  clear hK' K'
  try simp only [List.getElem_toArray, List.getElem_cons_zero, List.getElem_cons_succ, Act.put, List.setIfInBounds_toArray, List.set_cons_zero, List.set_cons_succ]
  refine wpAnyH_take (i := 7) (v := ?_) rfl (by kernel_rfl) (by kernel_rfl) (by kernel_rfl) (fun _ _ _ h => h) (Or.inl ⟨by rfl, ?_⟩) J3 ?_
  rotate_left 1
  · intro W hSW; clear hSW; go_simp; try with_reducible rfl
  simp only [List.getElem_toArray, List.getElem_cons_zero, List.getElem_cons_succ, Act.put, List.setIfInBounds_toArray, List.set_cons_zero, List.set_cons_succ]
  refine ⟨by kernel_rfl, ?_⟩
  refine NoPanic.normal ?_
  try simp only [List.getElem_toArray, List.getElem_cons_zero, List.getElem_cons_succ, Act.put, List.setIfInBounds_toArray, List.set_cons_zero, List.set_cons_succ]
  have c1n : W3.cell? ⟨w.heap.size, 1, none⟩ = some (.int .i64 n) := J3.1 1 _ rfl
  have h1 : ¬ n < no := by omega
  have h2 : ¬ n = no := by omega
  have htk := ntake_any K nd q bb N j u C l bk lm m cc lv L G F D c n o p v t W3 A3.out hN hu hw hL hcc
  go_wp2_with (first
    | (refine wpList_load_mid rfl 29 _ rfl w.heap.size 0 rfl (rqCells c n o p v t) _ J3.1 Tryz.underlying29 rfl HQ.out ?_))
  refine htk.mono ?_
  rintro e W4 ⟨C', l', lv', G', F', k, vv, tt, b, rfl, a4, p4, k4, o4⟩
  have HR : Hid (newPost K nd q bb N j u C l bk lm m cc lv L G F D c n o p v t w (.returned (.tuple #[.slice (some ⟨b, 0, none⟩) 1 1, .nilIface])) W4) := ⟨C', l', lv', G', F', k, vv, tt, b, rfl, a4, ⟨Nat.le_trans B3.out.size p4.1, p4.2⟩, (Kept.fresh (S := alOwn q bb j bk lm lv G) B3.out).trans k4 (fun _ _ h => h), fun g hg => (o4 g hg).imp id (fun h => Nat.le_trans B3.out.size h)⟩
  clear a4 p4 k4 o4 htk
  go_wp2_with fail
  go_ret2
  exact HR.out

set_option maxRecDepth 10000 in
set_option maxHeartbeats 4000000 in
theorem req_again (K : Nat → Int) (nd q bb N j u : Nat) (C : Nat → List Int) (l : ByteArray) (bk lm m cc : Nat) (lv : Value) (L : List En) (G F : Nat → Prop) (D : DataW Unit) (c n o p v : Int) (t : ByteArray) (i : Nat) (w : World) (h : Al K w nd q bb N j u C l bk lm m cc lv L G F D) (hw : rqWhole c n o p v t = true) (hl : lastIs L D c n i) (hL : L.length ≤ 400) (e : En) (hi : 1 ≤ i) (hie : L[i - 1]? = some e) :
    Calls Tryz.prog 22 #[.pointer (some ⟨nd, 0, none⟩), .agg (rqCells c n o p v t).toArray] w fun e' w' => ∃ b, e' = .returned (.tuple #[.slice (some ⟨b, 0, none⟩) 1 1, .nilIface]) ∧ onePk e w w' b ∧ Below w.heap.size w w' := by
  obtain ⟨⟨c1, c9⟩, ⟨n1, n9⟩, _, _, _, ht8⟩ := rq_bounds hw
  obtain ⟨V, hV⟩ : ∃ V, V = w.alloc (.cells (rqCells c n o p v t).toArray 29) := ⟨_, rfl⟩
  have hVs : V.heap.size = w.heap.size + 1 := by rw [hV]; simp
  have bV : Below w.heap.size w V := by rw [hV]; exact (Below.refl _ _).alloc (Nat.le_refl _) _
  have rV : V.rangeAt w.heap.size 0 (rqCells c n o p v t) := by rw [hV]; exact range_new _ _ _
  have AV := h.fresh bV
  have HAV : Hid (Al K V nd q bb N j u C l bk lm m cc lv L G F D) := AV
  have HBV : Hid (Below w.heap.size w V) := bV
  have HRV : Hid (V.rangeAt w.heap.size 0 (rqCells c n o p v t)) := rV
  have HQ : Hid ((Tryz.prog.info? 29).map (·.size) = some (rqCells c n o p v t).length) := info_rq c n o p v t
  have cf : V.cell? ⟨nd, 5, none⟩ = some (.bool false) := AV.node 5 _ rfl
  have hp := nd_place AV.node
  have HNL : Hid (nd < w.heap.size) := h.nlt
  clear h AV bV rV
  go_enter Tryz.func22, Tryz.ntmps22
  unfold rqCells at hV
  unfold rqCells
  go_wp2_with (first
    | (rw [← hV]; clear hV)
    | (refine wpList_load_mid rfl 86 _ rfl nd 0 rfl plL _ hp Tryz.underlying86 rfl info_pl ?_))
  refine (first_any V).mono ?_
  rintro e W1 ⟨rfl, hb1⟩
  have s1 := hb1.size
  have A1 : Hid (Al K W1 nd q bb N j u C l bk lm m cc lv L G F D) := HAV.out.fresh hb1
  have r1 : W1.rangeAt w.heap.size 0 (rqCells c n o p v t) := range_kept HRV.out (Kept.fresh (S := fun _ => False) hb1) (by omega) id
  have B1 : Hid (Below w.heap.size w W1) := HBV.out.trans (hb1.mono (by omega))
  have hwh := ewhole_any c n o p v t W1 (by omega)
  rw [hw] at hwh
  clear hb1 hp cf
  go_wp2_with (first
    | (refine wpList_load_mid rfl 29 _ rfl w.heap.size 0 rfl (rqCells c n o p v t) _ r1 Tryz.underlying29 rfl HQ.out ?_))
  refine hwh.mono ?_
  rintro e W2 ⟨rfl, hb2⟩
  have s2 := hb2.size
  have A2 : Hid (Al K W2 nd q bb N j u C l bk lm m cc lv L G F D) := A1.out.fresh hb2
  have J0 : W2.drew.rangeAt w.heap.size 0 (rqCells c n o p v t) ∧ W2.drew.cell? ⟨nd, 2, none⟩ = some (.pointer (some ⟨bk, 0, none⟩)) := ⟨(range_kept r1 (Kept.fresh (S := fun _ => False) hb2) (by omega) id : W2.rangeAt _ _ _), A2.out.node 2 _ rfl⟩
  have B2 : Hid (Below w.heap.size w W2) := B1.out.trans (hb2.mono (by omega))
  clear hb2 hwh r1
  go_wp2_with fail
  refine wp_region_noPanic ?_
  refine wp_region_held_drew (S := fun W => W.rangeAt w.heap.size 0 (rqCells c n o p v t) ∧ W.cell? ⟨nd, 2, none⟩ = some (.pointer (some ⟨bk, 0, none⟩))) (by kernel_rfl) J0 (fun _ => ?_)
  refine wpAnyH_take (i := 0) (v := ?_) rfl (by kernel_rfl) (by kernel_rfl) (by kernel_rfl) (fun _ _ _ h => h) (Or.inl ⟨by rfl, ?_⟩) J0 ?_
  rotate_left 1
  · intro W hSW; clear hSW; go_simp; try with_reducible rfl
  simp only [List.getElem_toArray, List.getElem_cons_zero, List.getElem_cons_succ, Act.put, List.setIfInBounds_toArray, List.set_cons_zero, List.set_cons_succ]
  refine wpAnyH_take (i := 1) (v := ?_) rfl (by kernel_rfl) (by kernel_rfl) (by kernel_rfl) (fun _ _ _ h => h) (Or.inl ⟨by rfl, ?_⟩) J0 ?_
  rotate_left 1
  · intro W hSW; clear hSW; go_simp; try with_reducible rfl
  simp only [List.getElem_toArray, List.getElem_cons_zero, List.getElem_cons_succ, Act.put, List.setIfInBounds_toArray, List.set_cons_zero, List.set_cons_succ]
  refine wpAnyH_take (i := 2) (v := ?_) rfl (by kernel_rfl) (by kernel_rfl) (by kernel_rfl) (fun _ _ _ h => h) (Or.inl ⟨by rfl, ?_⟩) J0 ?_
  rotate_left 1
  · intro W hSW; clear hSW; go_simp; try with_reducible rfl
  simp only [List.getElem_toArray, List.getElem_cons_zero, List.getElem_cons_succ, Act.put, List.setIfInBounds_toArray, List.set_cons_zero, List.set_cons_succ]
  refine wpAnyH_take (i := 3) (v := ?_) rfl (by kernel_rfl) (by kernel_rfl) (by kernel_rfl) (fun _ _ _ h => h) (Or.inl ⟨by rfl, ?_⟩) J0 ?_
  rotate_left 1
  · intro W hSW; have qc := hSW.2; clear hSW; go_simp; try with_reducible rfl
  simp only [List.getElem_toArray, List.getElem_cons_zero, List.getElem_cons_succ, Act.put, List.setIfInBounds_toArray, List.set_cons_zero, List.set_cons_succ]
  refine wpAnyH_take (i := 4) (v := ?_) rfl (by kernel_rfl) (by kernel_rfl) (by kernel_rfl) (fun _ _ _ h => h) (Or.inl ⟨by rfl, ?_⟩) J0 ?_
  rotate_left 1
  · intro W hSW; clear hSW; go_simp; try with_reducible rfl
  simp only [List.getElem_toArray, List.getElem_cons_zero, List.getElem_cons_succ, Act.put, List.setIfInBounds_toArray, List.set_cons_zero, List.set_cons_succ]
  refine wpAnyH_take (i := 5) (v := ?_) rfl (by kernel_rfl) (by kernel_rfl) (by kernel_rfl) (fun _ _ _ h => h) (Or.inl ⟨by rfl, ?_⟩) J0 ?_
  rotate_left 1
  · intro W hSW; have qc : W.cell? ⟨w.heap.size, 0, none⟩ = some (.int .i64 c) := hSW.1 0 _ rfl; clear hSW; go_simp; try with_reducible rfl
  simp only [List.getElem_toArray, List.getElem_cons_zero, List.getElem_cons_succ, Act.put, List.setIfInBounds_toArray, List.set_cons_zero, List.set_cons_succ]
  refine wpAnyH_ready (rs := [6]) (by kernel_rfl) (by simp) ?_
  refine AllReadyH.cons rfl (fun K' hK' => ?_) AllReadyH.nil
  rw [if_pos (by rfl)]
  go_simp
  refine (lastno_any bk j lm m cc lv L G F D c n i W2.drew A2.out.book.drew (by omega) hl (by omega)).mono ?_
  rintro e W3 ⟨rfl, hb3⟩
  have b3 : Below W2.heap.size W2 W3 := ((Below.refl W2.heap.size W2).drew).trans hb3
  have s3 := b3.size
  have A3 : Hid (Al K W3 nd q bb N j u C l bk lm m cc lv L G F D) := A2.out.fresh b3
  have J3 : W3.rangeAt w.heap.size 0 (rqCells c n o p v t) ∧ W3.cell? ⟨nd, 2, none⟩ = some (.pointer (some ⟨bk, 0, none⟩)) := ⟨range_kept (W := W2) J0.1 (Kept.fresh (S := fun _ => False) b3) (by omega) id, A3.out.node 2 _ rfl⟩
  have B3 : Hid (Below w.heap.size w W3) := B2.out.trans (b3.mono (by omega))
  clear hb3 b3
  refine hK'.out _ _ J3 (fun _ => ?_)
  clear hK' K'
  try simp only [List.getElem_toArray, List.getElem_cons_zero, List.getElem_cons_succ, Act.put, List.setIfInBounds_toArray, List.set_cons_zero, List.set_cons_succ]
  refine wpAnyH_take (i := 7) (v := ?_) rfl (by kernel_rfl) (by kernel_rfl) (by kernel_rfl) (fun _ _ _ h => h) (Or.inl ⟨by rfl, ?_⟩) J3 ?_
  rotate_left 1
  · intro W hSW; clear hSW; go_simp; try with_reducible rfl
  simp only [List.getElem_toArray, List.getElem_cons_zero, List.getElem_cons_succ, Act.put, List.setIfInBounds_toArray, List.set_cons_zero, List.set_cons_succ]
  refine ⟨by kernel_rfl, ?_⟩
  refine NoPanic.normal ?_
  try simp only [List.getElem_toArray, List.getElem_cons_zero, List.getElem_cons_succ, Act.put, List.setIfInBounds_toArray, List.set_cons_zero, List.set_cons_succ]
  have c1n : W3.cell? ⟨w.heap.size, 1, none⟩ = some (.int .i64 n) := J3.1 1 _ rfl
  have K0 : W3.drew.rangeAt w.heap.size 0 (rqCells c n o p v t) ∧ W3.drew.cell? ⟨nd, 2, none⟩ = some (.pointer (some ⟨bk, 0, none⟩)) := J3
  go_wp2_with fail
  refine wp_region_noPanic ?_
  refine wp_region_held_drew (S := fun W => W.rangeAt w.heap.size 0 (rqCells c n o p v t) ∧ W.cell? ⟨nd, 2, none⟩ = some (.pointer (some ⟨bk, 0, none⟩))) (by kernel_rfl) K0 (fun _ => ?_)
  refine wpAnyH_take (i := 0) (v := ?_) rfl (by kernel_rfl) (by kernel_rfl) (by kernel_rfl) (fun _ _ _ h => h) (Or.inl ⟨by rfl, ?_⟩) K0 ?_
  rotate_left 1
  · intro W hSW; clear hSW; go_simp; try with_reducible rfl
  simp only [List.getElem_toArray, List.getElem_cons_zero, List.getElem_cons_succ, Act.put, List.setIfInBounds_toArray, List.set_cons_zero, List.set_cons_succ]
  refine wpAnyH_take (i := 1) (v := ?_) rfl (by kernel_rfl) (by kernel_rfl) (by kernel_rfl) (fun _ _ _ h => h) (Or.inl ⟨by rfl, ?_⟩) K0 ?_
  rotate_left 1
  · intro W hSW; clear hSW; go_simp; try with_reducible rfl
  simp only [List.getElem_toArray, List.getElem_cons_zero, List.getElem_cons_succ, Act.put, List.setIfInBounds_toArray, List.set_cons_zero, List.set_cons_succ]
  refine wpAnyH_take (i := 2) (v := ?_) rfl (by kernel_rfl) (by kernel_rfl) (by kernel_rfl) (fun _ _ _ h => h) (Or.inl ⟨by rfl, ?_⟩) K0 ?_
  rotate_left 1
  · intro W hSW; clear hSW; go_simp; try with_reducible rfl
  simp only [List.getElem_toArray, List.getElem_cons_zero, List.getElem_cons_succ, Act.put, List.setIfInBounds_toArray, List.set_cons_zero, List.set_cons_succ]
  refine wpAnyH_take (i := 3) (v := ?_) rfl (by kernel_rfl) (by kernel_rfl) (by kernel_rfl) (fun _ _ _ h => h) (Or.inl ⟨by rfl, ?_⟩) K0 ?_
  rotate_left 1
  · intro W hSW; clear hSW; go_simp; try with_reducible rfl
  simp only [List.getElem_toArray, List.getElem_cons_zero, List.getElem_cons_succ, Act.put, List.setIfInBounds_toArray, List.set_cons_zero, List.set_cons_succ]
  refine wpAnyH_take (i := 4) (v := ?_) rfl (by kernel_rfl) (by kernel_rfl) (by kernel_rfl) (fun _ _ _ h => h) (Or.inl ⟨by rfl, ?_⟩) K0 ?_
  rotate_left 1
  · intro W hSW; have qc := hSW.2; clear hSW; go_simp; try with_reducible rfl
  simp only [List.getElem_toArray, List.getElem_cons_zero, List.getElem_cons_succ, Act.put, List.setIfInBounds_toArray, List.set_cons_zero, List.set_cons_succ]
  refine wpAnyH_take (i := 5) (v := ?_) rfl (by kernel_rfl) (by kernel_rfl) (by kernel_rfl) (fun _ _ _ h => h) (Or.inl ⟨by rfl, ?_⟩) K0 ?_
  rotate_left 1
  · intro W hSW; clear hSW; go_simp; try with_reducible rfl
  simp only [List.getElem_toArray, List.getElem_cons_zero, List.getElem_cons_succ, Act.put, List.setIfInBounds_toArray, List.set_cons_zero, List.set_cons_succ]
  refine wpAnyH_take (i := 6) (v := ?_) rfl (by kernel_rfl) (by kernel_rfl) (by kernel_rfl) (fun _ _ _ h => h) (Or.inl ⟨by rfl, ?_⟩) K0 ?_
  rotate_left 1
  · intro W hSW; have qc : W.cell? ⟨w.heap.size, 0, none⟩ = some (.int .i64 c) := hSW.1 0 _ rfl; clear hSW; go_simp; try with_reducible rfl
  simp only [List.getElem_toArray, List.getElem_cons_zero, List.getElem_cons_succ, Act.put, List.setIfInBounds_toArray, List.set_cons_zero, List.set_cons_succ]
  refine wpAnyH_ready (rs := [7]) (by kernel_rfl) (by simp) ?_
  refine AllReadyH.cons rfl (fun K' hK' => ?_) AllReadyH.nil
  rw [if_pos (by rfl)]
  go_simp
  refine (blast_any bk lm cc D c W3.drew (A3.out.book.drew.cells 2 _ rfl) A3.out.book.drew.lasts (by omega)).mono ?_
  rintro e' W4 ⟨x, rfl, hx, hw4⟩
  obtain rfl : W3.drew = W4 := hw4.symm
  obtain rfl : x = (i : Nat) := by rw [hl.1] at hx; simpa using hx.symm
  clear hw4 hx
  refine hK'.out _ _ K0 (fun _ => ?_)
  clear hK' K'
  try simp only [List.getElem_toArray, List.getElem_cons_zero, List.getElem_cons_succ, Act.put, List.setIfInBounds_toArray, List.set_cons_zero, List.set_cons_succ]
  refine wpAnyH_ready (rs := [8]) (by kernel_rfl) (by simp) ?_
  refine AllReadyH.cons rfl (fun K' hK' => ?_) AllReadyH.nil
  rw [if_pos (by rfl)]
  go_simp
  refine (again_any K nd q bb N j u C l bk lm m cc lv L G F D i e W3.drew (A3.out.fresh (Below.refl _ _).drew) hi hie (by omega)).mono ?_
  rintro e' W5 ⟨b, rfl, p5, b5⟩
  have b5' : Below W3.heap.size W3 W5 := ((Below.refl W3.heap.size W3).drew).trans b5
  have s5 := b5'.size
  have A5 : Hid (Al K W5 nd q bb N j u C l bk lm m cc lv L G F D) := A3.out.fresh b5'
  have K5 : W5.rangeAt w.heap.size 0 (rqCells c n o p v t) ∧ W5.cell? ⟨nd, 2, none⟩ = some (.pointer (some ⟨bk, 0, none⟩)) := ⟨range_kept (W := W3) K0.1 (Kept.fresh (S := fun _ => False) b5') (by omega) id, A5.out.node 2 _ rfl⟩
  have P5 : Hid (onePk e w W5 b) := ⟨by have : W3.heap.size ≤ b := p5.1; omega, p5.2⟩
  have B5 : Hid (Below w.heap.size w W5) := B3.out.trans (b5'.mono B3.out.size)
  clear b5 b5' p5
  refine hK'.out _ _ K5 (fun _ => ?_)
  clear hK' K'
  try simp only [List.getElem_toArray, List.getElem_cons_zero, List.getElem_cons_succ, Act.put, List.setIfInBounds_toArray, List.set_cons_zero, List.set_cons_succ]
  refine wpAnyH_take (i := 9) (v := ?_) rfl (by kernel_rfl) (by kernel_rfl) (by kernel_rfl) (fun _ _ _ h => h) (Or.inl ⟨by rfl, ?_⟩) K5 ?_
  rotate_left 1
  · intro W hSW; clear hSW; go_simp; try with_reducible rfl
  simp only [List.getElem_toArray, List.getElem_cons_zero, List.getElem_cons_succ, Act.put, List.setIfInBounds_toArray, List.set_cons_zero, List.set_cons_succ]
  refine wpAnyH_take (i := 10) (v := ?_) rfl (by kernel_rfl) (by kernel_rfl) (by kernel_rfl) (fun _ _ _ h => h) (Or.inl ⟨by rfl, ?_⟩) K5 ?_
  rotate_left 1
  · intro W hSW; clear hSW; go_simp; try with_reducible rfl
  simp only [List.getElem_toArray, List.getElem_cons_zero, List.getElem_cons_succ, Act.put, List.setIfInBounds_toArray, List.set_cons_zero, List.set_cons_succ]
  refine ⟨by kernel_rfl, ?_⟩
  refine NoPanic.normal ?_
  try simp only [List.getElem_toArray, List.getElem_cons_zero, List.getElem_cons_succ, Act.put, List.setIfInBounds_toArray, List.set_cons_zero, List.set_cons_succ]
  go_wp2_with fail
  go_ret2
  exact ⟨b, rfl, P5.out, B5.out⟩
end Go.Proofs.YtnlbmnbpckpafabGreatDoor
set_option linter.unusedVariables false
set_option linter.unusedSimpArgs false
namespace Go.Proofs.YtnlbmnbpckpafabGreatDoor
open Go.RowKit

/-- What is seen of a node that is alone. -/
def stL (n r : Int) : List Value := [.int .i64 n, .int .i64 n, .int .i64 r, .int .i64 0]
theorem st_built (n r : Int) : Tryz.prog.built 39 [(0, .int .i64 n), (1, .int .i64 n), (2, .int .i64 r)] = some (stL n r).toArray := by kernel_rfl
theorem st_info (n r : Int) : (Tryz.prog.info? 39).map (·.size) = some (stL n r).length := by show _ = some 4; kernel_rfl
theorem st_one (n r : Int) : ∀ u ∈ stL n r, u.oneCell' = true := by intro u hu; simp [stL] at hu; rcases hu with rfl | rfl | rfl | rfl <;> rfl
theorem alloc_st (w : World) : (Instr.alloc 39 true (.tuple #[])).run Tryz.prog w = .ok (.pointer (some ⟨w.heap.size, 0, none⟩)) (w.alloc (.cells (stL 0 0).toArray 39)) := by kernel_rfl
set_option maxRecDepth 10000 in
set_option maxHeartbeats 2000000 in
theorem nsee_any (K : Nat → Int) (nd q bb N j u : Nat) (C : Nat → List Int) (l : ByteArray) (bk lm m cc : Nat) (lv : Value) (L : List En) (G F : Nat → Prop) (D : DataW Unit) (es : Array MapEntry) (clock : Nat) (w : World) (h : Al K w nd q bb N j u C l bk lm m cc lv L G F D) (hm : w.heap[m]? = some (.map es clock)) (hes : es.size < 1000) (hL : L.length ≤ 400) :
    Calls Tryz.prog 23 #[.pointer (some ⟨nd, 0, none⟩)] w fun e w' => e = .returned (.agg (stL (L.length : Nat) (es.size : Nat)).toArray) ∧ Below w.heap.size w w' := by
  obtain ⟨V, hV⟩ : ∃ V, V = w.alloc (.cells (stL 0 0).toArray 39) := ⟨_, rfl⟩
  have hVs : V.heap.size = w.heap.size + 1 := by rw [hV]; simp
  have bV : Below w.heap.size w V := by rw [hV]; exact (Below.refl _ _).alloc (Nat.le_refl _) _
  have TV : Hid (V.there w.heap.size 0 4) := by show World.there _ _ _ _; rw [hV]; exact there_new w (stL 0 0).toArray _
  have AV : Hid (Al K V nd q bb N j u C l bk lm m cc lv L G F D) := h.fresh bV
  have BV : Hid (Below w.heap.size w V) := bV
  have HM : Hid (m < w.heap.size) := block_lt hm
  have HN : Hid (nd < w.heap.size) := h.nlt
  have HMV : Hid (V.heap[m]? = some (.map es clock)) := (bV.block m (block_lt hm)).trans hm
  have cf : V.cell? ⟨nd, 5, none⟩ = some (.bool false) := AV.out.node 5 _ rfl
  have J0 : V.drew.cell? ⟨nd, 2, none⟩ = some (.pointer (some ⟨bk, 0, none⟩)) := AV.out.node 2 _ rfl
  obtain ⟨sa, scap, hslv⟩ := h.book.slice
  clear h bV hm
  go_enter Tryz.func23, Tryz.ntmps23
  go_wp2_with (first
    | (refine wpList_alloc_of rfl 39 rfl (stL 0 0).toArray alloc_st ?_; rw [← hV]; clear hV))
  refine wp_region_noPanic ?_
  refine wp_region_held_drew (S := fun W => W.cell? ⟨nd, 2, none⟩ = some (.pointer (some ⟨bk, 0, none⟩))) (by kernel_rfl) J0 (fun _ => ?_)
  refine wpAnyH_take (i := 0) (v := ?_) rfl (by kernel_rfl) (by kernel_rfl) (by kernel_rfl) (fun _ _ _ h => h) (Or.inl ⟨by rfl, ?_⟩) J0 ?_
  rotate_left 1
  · intro W hSW; clear hSW; go_simp; try with_reducible rfl
  simp only [List.getElem_toArray, List.getElem_cons_zero, List.getElem_cons_succ, Act.put, List.setIfInBounds_toArray, List.set_cons_zero, List.set_cons_succ]
  refine wpAnyH_take (i := 1) (v := ?_) rfl (by kernel_rfl) (by kernel_rfl) (by kernel_rfl) (fun _ _ _ h => h) (Or.inl ⟨by rfl, ?_⟩) J0 ?_
  rotate_left 1
  · intro W hSW; clear hSW; go_simp; try with_reducible rfl
  simp only [List.getElem_toArray, List.getElem_cons_zero, List.getElem_cons_succ, Act.put, List.setIfInBounds_toArray, List.set_cons_zero, List.set_cons_succ]
  refine wpAnyH_take (i := 2) (v := ?_) rfl (by kernel_rfl) (by kernel_rfl) (by kernel_rfl) (fun _ _ _ h => h) (Or.inl ⟨by rfl, ?_⟩) J0 ?_
  rotate_left 1
  · intro W hSW; clear hSW; go_simp; try with_reducible rfl
  simp only [List.getElem_toArray, List.getElem_cons_zero, List.getElem_cons_succ, Act.put, List.setIfInBounds_toArray, List.set_cons_zero, List.set_cons_succ]
  refine wpAnyH_take (i := 3) (v := ?_) rfl (by kernel_rfl) (by kernel_rfl) (by kernel_rfl) (fun _ _ _ h => h) (Or.inl ⟨by rfl, ?_⟩) J0 ?_
  rotate_left 1
  · intro W hSW; have qc := hSW; clear hSW; go_simp; try with_reducible rfl
  simp only [List.getElem_toArray, List.getElem_cons_zero, List.getElem_cons_succ, Act.put, List.setIfInBounds_toArray, List.set_cons_zero, List.set_cons_succ]
  refine wpAnyH_take (i := 5) (v := ?_) rfl (by kernel_rfl) (by kernel_rfl) (by kernel_rfl) (fun _ _ _ h => h) (Or.inl ⟨by rfl, ?_⟩) J0 ?_
  rotate_left 1
  · intro W hSW; clear hSW; go_simp; try with_reducible rfl
  simp only [List.getElem_toArray, List.getElem_cons_zero, List.getElem_cons_succ, Act.put, List.setIfInBounds_toArray, List.set_cons_zero, List.set_cons_succ]
  refine wpAnyH_take (i := 7) (v := ?_) rfl (by kernel_rfl) (by kernel_rfl) (by kernel_rfl) (fun _ _ _ h => h) (Or.inl ⟨by rfl, ?_⟩) J0 ?_
  rotate_left 1
  · intro W hSW; clear hSW; go_simp; try with_reducible rfl
  simp only [List.getElem_toArray, List.getElem_cons_zero, List.getElem_cons_succ, Act.put, List.setIfInBounds_toArray, List.set_cons_zero, List.set_cons_succ]
  refine wpAnyH_take (i := 8) (v := ?_) rfl (by kernel_rfl) (by kernel_rfl) (by kernel_rfl) (fun _ _ _ h => h) (Or.inl ⟨by rfl, ?_⟩) J0 ?_
  rotate_left 1
  · intro W hSW; clear hSW; go_simp; try with_reducible rfl
  simp only [List.getElem_toArray, List.getElem_cons_zero, List.getElem_cons_succ, Act.put, List.setIfInBounds_toArray, List.set_cons_zero, List.set_cons_succ]
  refine wpAnyH_take (i := 9) (v := ?_) rfl (by kernel_rfl) (by kernel_rfl) (by kernel_rfl) (fun _ _ _ h => h) (Or.inl ⟨by rfl, ?_⟩) J0 ?_
  rotate_left 1
  · intro W hSW; clear hSW; go_simp; try with_reducible rfl
  simp only [List.getElem_toArray, List.getElem_cons_zero, List.getElem_cons_succ, Act.put, List.setIfInBounds_toArray, List.set_cons_zero, List.set_cons_succ]
  refine wpAnyH_take (i := 10) (v := ?_) rfl (by kernel_rfl) (by kernel_rfl) (by kernel_rfl) (fun _ _ _ h => h) (Or.inl ⟨by rfl, ?_⟩) J0 ?_
  rotate_left 1
  · intro W hSW; have qc := hSW; clear hSW; go_simp; try with_reducible rfl
  simp only [List.getElem_toArray, List.getElem_cons_zero, List.getElem_cons_succ, Act.put, List.setIfInBounds_toArray, List.set_cons_zero, List.set_cons_succ]
  refine wpAnyH_ready (rs := [4]) (by kernel_rfl) (by simp) ?_
  refine AllReadyH.cons rfl (fun K' hK' => ?_) AllReadyH.nil
  rw [if_pos (by rfl)]
  have hen := bentries_any bk sa L.length scap V.drew (by rw [← hslv]; exact AV.out.book.drew.cells 1 _ rfl)
  go_simp
  refine hen.mono ?_
  rintro e W1 ⟨rfl, hw1⟩
  obtain rfl : V.drew = W1 := hw1.symm
  clear hw1 hen
  refine hK'.out _ _ J0 (fun _ => ?_)
  clear hK' K'
  try simp only [List.getElem_toArray, List.getElem_cons_zero, List.getElem_cons_succ, Act.put, List.setIfInBounds_toArray, List.set_cons_zero, List.set_cons_succ]
  refine wpAnyH_ready (rs := [6]) (by kernel_rfl) (by simp) ?_
  refine AllReadyH.cons rfl (fun K' hK' => ?_) AllReadyH.nil
  rw [if_pos (by rfl)]
  go_simp
  refine (acked_any nd bk j lm m cc lv L G F D V.drew (AV.out.fresh (Below.refl _ _).drew).node AV.out.nlt AV.out.book.drew).mono ?_
  rintro e W2 ⟨rfl, hb2⟩
  have b2 : Below V.heap.size V W2 := ((Below.refl V.heap.size V).drew).trans hb2
  have s2 := b2.size
  have A2 : Hid (Al K W2 nd q bb N j u C l bk lm m cc lv L G F D) := AV.out.fresh b2
  have J2 : W2.cell? ⟨nd, 2, none⟩ = some (.pointer (some ⟨bk, 0, none⟩)) := A2.out.node 2 _ rfl
  have T2 : W2.there w.heap.size 0 (stL (L.length : Nat) (es.size : Nat)).length := there_below b2 (by omega) TV.out
  have B2 : Hid (Below w.heap.size w W2) := BV.out.trans (b2.mono (by omega))
  have hr2 : W2.heap[m]? = some (.map es clock) := (b2.block m (by have := HM.out; omega)).trans HMV.out
  clear hb2 b2
  refine hK'.out _ _ J2 (fun _ => ?_)
  clear hK' K'
  try simp only [List.getElem_toArray, List.getElem_cons_zero, List.getElem_cons_succ, Act.put, List.setIfInBounds_toArray, List.set_cons_zero, List.set_cons_succ]
  refine wpAnyH_ready (rs := [11]) (by kernel_rfl) (by simp) ?_
  refine AllReadyH.cons rfl (fun K' hK' => ?_) AllReadyH.nil
  rw [if_pos (by rfl)]
  have hrec := brecords_any bk m es clock W2 (A2.out.book.cells 3 _ rfl) hr2 (by omega)
  go_simp
  refine hrec.mono ?_
  rintro e W3 ⟨rfl, hw3⟩
  obtain rfl : W2 = W3 := hw3.symm
  clear hw3 hrec
  refine hK'.out _ _ J2 (fun _ => ?_)
  clear hK' K'
  try simp only [List.getElem_toArray, List.getElem_cons_zero, List.getElem_cons_succ, Act.put, List.setIfInBounds_toArray, List.set_cons_zero, List.set_cons_succ]
  refine wpAnyH_take (i := 12) (v := .agg (stL (L.length : Nat) (es.size : Nat)).toArray) rfl (by kernel_rfl) (by kernel_rfl) (by kernel_rfl) (fun _ _ _ h => h) (yieldsIf_build (by rfl) 39 _ rfl (stL (L.length : Nat) (es.size : Nat)).toArray (Eq.trans (congrArg (Tryz.prog.built _) (by simp [Act.eval])) (st_built _ _))) J2 ?_
  simp only [List.getElem_toArray, List.getElem_cons_zero, List.getElem_cons_succ, Act.put, List.setIfInBounds_toArray, List.set_cons_zero, List.set_cons_succ]
  refine wpAnyH_ready (rs := [13]) (by kernel_rfl) (by simp) ?_
  refine AllReadyH.cons rfl (fun K' hK' => ?_) AllReadyH.nil
  rw [if_pos (by rfl)]
  refine wp_store_abs 39 _ _ rfl w.heap.size 0 (stL (L.length : Nat) (es.size : Nat)) rfl rfl T2 (st_info _ _) (st_one _ _) ?_
  intro W6 hw6 hr6 _ht6 hb6
  have J6 : W6.cell? ⟨nd, 2, none⟩ = some (.pointer (some ⟨bk, 0, none⟩)) := by
    have k6 : Kept (· = w.heap.size) W2 W6 := by rw [hw6]; exact Kept.setCells _ _ _ _ (Or.inl rfl)
    exact (k6.cell (a := ⟨nd, 2, none⟩) A2.out.nlt (by show ¬ nd = w.heap.size; have := HN.out; omega)).trans J2
  have B6 : Below w.heap.size w W6 := B2.out.trans (hb6 w.heap.size (Nat.le_refl _))
  clear _ht6 hw6 hb6
  refine hK'.out _ _ J6 (fun _ => ?_)
  clear hK' K'
  try simp only [List.getElem_toArray, List.getElem_cons_zero, List.getElem_cons_succ, Act.put, List.setIfInBounds_toArray, List.set_cons_zero, List.set_cons_succ]
  refine ⟨by kernel_rfl, ?_⟩
  refine NoPanic.normal ?_
  try simp only [List.getElem_toArray, List.getElem_cons_zero, List.getElem_cons_succ, Act.put, List.setIfInBounds_toArray, List.set_cons_zero, List.set_cons_succ]
  go_wp2_with fail
  exact ret_cell rfl w.heap.size 0 (stL (L.length : Nat) (es.size : Nat)) _ rfl hr6 Tryz.underlying39 rfl (st_info _ _) rfl ⟨rfl, B6⟩

set_option maxRecDepth 10000 in
set_option maxHeartbeats 1000000 in
theorem dsee_any (K : Nat → Int) (nd q bb N j u : Nat) (C : Nat → List Int) (l : ByteArray) (bk lm m cc : Nat) (lv : Value) (L : List En) (G F : Nat → Prop) (D : DataW Unit) (es : Array MapEntry) (clock xn : Nat) (w : World) (h : Al K w nd q bb N j u C l bk lm m cc lv L G F D) (hx : w.cell? ⟨xn, 0, none⟩ = some (.pointer (some ⟨nd, 0, none⟩))) (hxl : xn < w.heap.size) (hm : w.heap[m]? = some (.map es clock)) (hes : es.size < 1000) (hL : L.length ≤ 400) :
    Calls Tryz.prog 11 #[.pointer (some ⟨xn, 0, none⟩)] w fun e w' => e = .returned (.agg (stL (L.length : Nat) (es.size : Nat)).toArray) ∧ Below w.heap.size w w' := by
  obtain ⟨V, hV⟩ : ∃ V, V = w.alloc (.cells (stL 0 0).toArray 39) := ⟨_, rfl⟩
  have hVs : V.heap.size = w.heap.size + 1 := by rw [hV]; simp
  have bV : Below w.heap.size w V := by rw [hV]; exact (Below.refl _ _).alloc (Nat.le_refl _) _
  have TV : Hid (V.there w.heap.size 0 4) := by show World.there _ _ _ _; rw [hV]; exact there_new w (stL 0 0).toArray _
  have BV : Hid (Below w.heap.size w V) := bV
  have cx : V.cell? ⟨xn, 0, none⟩ = some (.pointer (some ⟨nd, 0, none⟩)) := (bV.cell (p := ⟨xn, 0, none⟩) hxl).trans hx
  have hs := nsee_any K nd q bb N j u C l bk lm m cc lv L G F D es clock V (h.fresh bV) ((bV.block m (block_lt hm)).trans hm) hes hL
  have HI := st_info (L.length : Nat) (es.size : Nat)
  have HO := st_one (L.length : Nat) (es.size : Nat)
  clear h bV hm hx
  go_enter Tryz.func11, Tryz.ntmps11
  go_wp2_with (first
    | (refine wpList_alloc_of rfl 39 rfl (stL 0 0).toArray alloc_st ?_; rw [← hV]; clear hV))
  refine hs.mono ?_
  rintro e W1 ⟨rfl, hb1⟩
  have T1 : W1.there w.heap.size 0 (stL (L.length : Nat) (es.size : Nat)).length := there_below hb1 (by omega) TV.out
  have B1 : Hid (Below w.heap.size w W1) := BV.out.trans (hb1.mono (by omega))
  clear hs hb1
  go_wp2_with (first
    | (refine wpList_store_abs rfl 39 _ _ rfl w.heap.size 0 (stL (L.length : Nat) (es.size : Nat)) rfl rfl T1 HI HO ?_
       intro w5 _hw5 hr5 _ht5 hb5
       clear _hw5 _ht5))
  exact ret_cell rfl w.heap.size 0 (stL (L.length : Nat) (es.size : Nat)) _ rfl hr5 Tryz.underlying39 rfl HI rfl ⟨rfl, B1.out.trans (hb5 w.heap.size (Nat.le_refl _))⟩

set_option maxRecDepth 10000 in
set_option maxHeartbeats 1000000 in
/-- The door Request: what the node inside answers. -/
theorem dreq_any (xn nd : Nat) (c n o p v : Int) (t : ByteArray) (R : World → Value → Value → World → Prop) (Sx : Nat → Prop) (w : World) (hx : w.cell? ⟨xn, 0, none⟩ = some (.pointer (some ⟨nd, 0, none⟩))) (hxl : xn < w.heap.size) (hnx : ¬ Sx xn) (hlt : ∀ g, Sx g → g < w.heap.size)
    (hin : ∀ W, Below w.heap.size w W → Calls Tryz.prog 22 #[.pointer (some ⟨nd, 0, none⟩), .agg (rqCells c n o p v t).toArray] W fun e w' => ∃ s r, e = .returned (.tuple #[s, r]) ∧ R W s r w' ∧ Kept Sx W w') :
    Calls Tryz.prog 10 #[.pointer (some ⟨xn, 0, none⟩), .agg (rqCells c n o p v t).toArray] w fun e w' => ∃ W s r, Below w.heap.size w W ∧ e = .returned (.tuple #[s, r]) ∧ R W s r w' := by
  obtain ⟨V, hV⟩ : ∃ V, V = w.alloc (.cells (rqCells c n o p v t).toArray 29) := ⟨_, rfl⟩
  have hVs : V.heap.size = w.heap.size + 1 := by rw [hV]; simp
  have bV : Below w.heap.size w V := by rw [hV]; exact (Below.refl _ _).alloc (Nat.le_refl _) _
  have rV : V.rangeAt w.heap.size 0 (rqCells c n o p v t) := by rw [hV]; exact range_new _ _ _
  have BV : Hid (Below w.heap.size w V) := bV
  have HQ : Hid ((Tryz.prog.info? 29).map (·.size) = some (rqCells c n o p v t).length) := info_rq c n o p v t
  have HLT : Hid (∀ g, Sx g → g < w.heap.size) := hlt
  have J0 : V.drew.rangeAt w.heap.size 0 (rqCells c n o p v t) ∧ V.drew.cell? ⟨xn, 0, none⟩ = some (.pointer (some ⟨nd, 0, none⟩)) := ⟨rV, (bV.cell (p := ⟨xn, 0, none⟩) hxl).trans hx⟩
  have hVV : w.alloc (.cells (rqCells c n o p v t).toArray 29) = V := hV.symm
  clear bV rV hV hx hlt
  go_enter Tryz.func10, Tryz.ntmps10
  go_wp2_with fail
  try rw [hVV]
  clear hVV
  refine wp_region_noPanic ?_
  refine wp_region_held_drew (S := fun W => W.rangeAt w.heap.size 0 (rqCells c n o p v t) ∧ W.cell? ⟨xn, 0, none⟩ = some (.pointer (some ⟨nd, 0, none⟩))) (by kernel_rfl) J0 (fun _ => ?_)
  refine wpAnyH_take (i := 0) (v := ?_) rfl (by kernel_rfl) (by kernel_rfl) (by kernel_rfl) (fun _ _ _ h => h) (Or.inl ⟨by rfl, ?_⟩) J0 ?_
  rotate_left 1
  · intro W hSW; clear hSW; go_simp; try with_reducible rfl
  simp only [List.getElem_toArray, List.getElem_cons_zero, List.getElem_cons_succ, Act.put, List.setIfInBounds_toArray, List.set_cons_zero, List.set_cons_succ]
  refine wpAnyH_take (i := 1) (v := ?_) rfl (by kernel_rfl) (by kernel_rfl) (by kernel_rfl) (fun _ _ _ h => h) (Or.inl ⟨by rfl, ?_⟩) J0 ?_
  rotate_left 1
  · intro W hSW; clear hSW; go_simp; try with_reducible rfl
  simp only [List.getElem_toArray, List.getElem_cons_zero, List.getElem_cons_succ, Act.put, List.setIfInBounds_toArray, List.set_cons_zero, List.set_cons_succ]
  refine wpAnyH_take (i := 2) (v := ?_) rfl (by kernel_rfl) (by kernel_rfl) (by kernel_rfl) (fun _ _ _ h => h) (Or.inl ⟨by rfl, ?_⟩) J0 ?_
  rotate_left 1
  · intro W hSW; clear hSW; go_simp; try with_reducible rfl
  simp only [List.getElem_toArray, List.getElem_cons_zero, List.getElem_cons_succ, Act.put, List.setIfInBounds_toArray, List.set_cons_zero, List.set_cons_succ]
  refine wpAnyH_take (i := 3) (v := ?_) rfl (by kernel_rfl) (by kernel_rfl) (by kernel_rfl) (fun _ _ _ h => h) (Or.inl ⟨by rfl, ?_⟩) J0 ?_
  rotate_left 1
  · intro W hSW; have qc := hSW.2; clear hSW; go_simp; try with_reducible rfl
  simp only [List.getElem_toArray, List.getElem_cons_zero, List.getElem_cons_succ, Act.put, List.setIfInBounds_toArray, List.set_cons_zero, List.set_cons_succ]
  refine wpAnyH_take (i := 4) (v := .agg ((rqCells c n o p v t)).toArray) rfl (by kernel_rfl) (by kernel_rfl) (by kernel_rfl) (fun _ _ _ h => h) (yieldsIf_load_mid (by rfl) 29 _ rfl w.heap.size 0 rfl ((rqCells c n o p v t)) _ (fun W hW => hW.1) Tryz.underlying29 rfl HQ.out) J0 ?_
  simp only [List.getElem_toArray, List.getElem_cons_zero, List.getElem_cons_succ, Act.put, List.setIfInBounds_toArray, List.set_cons_zero, List.set_cons_succ]
  refine wpAnyH_ready (rs := [5]) (by kernel_rfl) (by simp) ?_
  refine AllReadyH.cons rfl (fun K' hK' => ?_) AllReadyH.nil
  rw [if_pos (by rfl)]
  go_simp
  refine (hin V.drew (BV.out.drew)).mono ?_
  rintro e W1 ⟨s, r, rfl, hR, k1⟩
  have s1 := k1.size
  have J1 : W1.rangeAt w.heap.size 0 (rqCells c n o p v t) ∧ W1.cell? ⟨xn, 0, none⟩ = some (.pointer (some ⟨nd, 0, none⟩)) := ⟨range_kept J0.1 k1 (by show _ < V.heap.size; omega) (fun e => by have := HLT.out _ e; omega), (k1.cell (a := ⟨xn, 0, none⟩) (by show xn < V.heap.size; omega) hnx).trans J0.2⟩
  have HR : Hid (R V.drew s r W1) := hR
  clear hR k1
  refine hK'.out _ _ J1 (fun _ => ?_)
  clear hK' K'
  try simp only [List.getElem_toArray, List.getElem_cons_zero, List.getElem_cons_succ, Act.put, List.setIfInBounds_toArray, List.set_cons_zero, List.set_cons_succ]
  refine wpAnyH_take (i := 6) (v := ?_) rfl (by kernel_rfl) (by kernel_rfl) (by kernel_rfl) (fun _ _ _ h => h) (Or.inl ⟨by rfl, ?_⟩) J1 ?_
  rotate_left 1
  · intro W hSW; clear hSW; go_simp; try with_reducible rfl
  simp only [List.getElem_toArray, List.getElem_cons_zero, List.getElem_cons_succ, Act.put, List.setIfInBounds_toArray, List.set_cons_zero, List.set_cons_succ]
  refine wpAnyH_take (i := 7) (v := ?_) rfl (by kernel_rfl) (by kernel_rfl) (by kernel_rfl) (fun _ _ _ h => h) (Or.inl ⟨by rfl, ?_⟩) J1 ?_
  rotate_left 1
  · intro W hSW; clear hSW; go_simp; try with_reducible rfl
  simp only [List.getElem_toArray, List.getElem_cons_zero, List.getElem_cons_succ, Act.put, List.setIfInBounds_toArray, List.set_cons_zero, List.set_cons_succ]
  refine wpAnyH_take (i := 8) (v := ?_) rfl (by kernel_rfl) (by kernel_rfl) (by kernel_rfl) (fun _ _ _ h => h) (Or.inl ⟨by rfl, ?_⟩) J1 ?_
  rotate_left 1
  · intro W hSW; clear hSW; go_simp; try with_reducible rfl
  simp only [List.getElem_toArray, List.getElem_cons_zero, List.getElem_cons_succ, Act.put, List.setIfInBounds_toArray, List.set_cons_zero, List.set_cons_succ]
  refine wpAnyH_take (i := 9) (v := ?_) rfl (by kernel_rfl) (by kernel_rfl) (by kernel_rfl) (fun _ _ _ h => h) (Or.inl ⟨by rfl, ?_⟩) J1 ?_
  rotate_left 1
  · intro W hSW; clear hSW; go_simp; try with_reducible rfl
  simp only [List.getElem_toArray, List.getElem_cons_zero, List.getElem_cons_succ, Act.put, List.setIfInBounds_toArray, List.set_cons_zero, List.set_cons_succ]
  refine ⟨by kernel_rfl, ?_⟩
  refine NoPanic.normal ?_
  try simp only [List.getElem_toArray, List.getElem_cons_zero, List.getElem_cons_succ, Act.put, List.setIfInBounds_toArray, List.set_cons_zero, List.set_cons_succ]
  go_wp2_with fail
  go_ret2
  exact ⟨V.drew, s, r, BV.out.drew, rfl, HR.out⟩
end Go.Proofs.YtnlbmnbpckpafabGreatDoor
set_option linter.unusedVariables false
set_option linter.unusedSimpArgs false
namespace Go.Proofs.YtnlbmnbpckpafabGreatDoor
open Go.RowKit

theorem bk_built (j lm m : Nat) : Tryz.prog.built 135 [(0, .pointer (some ⟨j, 0, none⟩)), (2, .map (some lm)), (3, .map (some m))] = some (bkL j lm m (.slice none 0 0)).toArray := by kernel_rfl
/-- A fresh book in three new blocks. -/
theorem book_made {w W W1 W2 W3 : World} {q bb N j u : Nat} {C : Nat → List Int} {l : ByteArray} (hw : w.heap.size ≤ W.heap.size) (hJ : JAt W q bb N j u C l) (h1 : W1 = W.alloc (.map #[] 0)) (h2 : W2 = W1.alloc (.map #[] 0)) (h3 : W3 = W2.alloc (.cells (bkL j W.heap.size (W.heap.size + 1) (.slice none 0 0)).toArray 135)) :
    BookAt W3 (W.heap.size + 2) j W.heap.size (W.heap.size + 1) 0 (.slice none 0 0) [] (fun g => g = W.heap.size + 1) (fun _ => False) (.map []) ∧ JAt W3 q bb N j u C l ∧ Below W.heap.size W W3 := by
  have s1 : W1.heap.size = W.heap.size + 1 := by rw [h1]; simp
  have s2 : W2.heap.size = W.heap.size + 2 := by rw [h2]; simp; omega
  have s3 : W3.heap.size = W.heap.size + 3 := by rw [h3]; simp; omega
  have b1 : Below W.heap.size W W1 := by rw [h1]; exact (Below.refl _ _).alloc (Nat.le_refl _) _
  have b2 : Below W1.heap.size W1 W2 := by rw [h2]; exact (Below.refl _ _).alloc (Nat.le_refl _) _
  have b3 : Below W2.heap.size W2 W3 := by rw [h3]; exact (Below.refl _ _).alloc (Nat.le_refl _) _
  have B : Below W.heap.size W W3 := (b1.trans (b2.mono (by omega))).trans (b3.mono (by omega))
  have hm1 : W1.heap[W.heap.size]? = some (.map #[] 0) := by rw [h1]; exact heap_alloc_new W _
  have hm2 : W2.heap[W.heap.size + 1]? = some (.map #[] 0) := by rw [h2, ← s1]; exact heap_alloc_new W1 _
  have hL : W3.heap[W.heap.size]? = some (.map #[] 0) := (b3.block _ (by omega)).trans ((b2.block _ (by omega)).trans hm1)
  have hM : W3.heap[W.heap.size + 1]? = some (.map #[] 0) := (b3.block _ (by omega)).trans hm2
  have hr : W3.rangeAt (W.heap.size + 2) 0 (bkL j W.heap.size (W.heap.size + 1) (.slice none 0 0)) := by
    have := range_new W2 (bkL j W.heap.size (W.heap.size + 1) (.slice none 0 0)) 135
    rw [← h3, s2] at this; exact this
  have ht : W3.there (W.heap.size + 2) 0 4 := by
    have := there_new W2 (bkL j W.heap.size (W.heap.size + 1) (.slice none 0 0)).toArray 135
    rw [← h3, s2] at this; exact this
  have made : ∀ (R : Value → Option (DataW Unit × List MemPlace)) (b : Nat), W3.heap[b]? = some (.map #[] 0) → W3.ownsMap Tryz.prog 3 R b 0 (.map []) := fun R b hb => ⟨#[], 0, hb, ⟨by simp, MapKept.stamped_empty 0, by simp⟩, Nat.le_refl _, rfl⟩
  refine ⟨⟨by omega, hr, ht, ⟨rfl, Or.inl ⟨rfl, rfl⟩⟩, made _ _ hL, ⟨⟨_, made _ _ hM⟩, (fun r hr => hr.elim), rfl, (fun g hg => by omega)⟩, (fun e he => by cases he), ⟨by omega, by omega, by omega⟩, (fun g hg => by cases hg)⟩, hJ.kept (Kept.fresh (S := fun _ => False) B) (fun _ _ => id), B⟩
/-- What Open of a fresh journal leaves. -/
def bopPost (q bb N : Nat) (C : Nat → List Int) (w : World) (e : Ending) (w' : World) : Prop :=
  ∃ bk j lm m l, e = .returned (.tuple #[.pointer (some ⟨bk, 0, none⟩), .nilIface]) ∧ JAt w' q bb N j 1 C l ∧ BookAt w' bk j lm m 0 (.slice none 0 0) [] (fun g => g = m) (fun _ => False) (.map []) ∧ (w.heap.size ≤ j ∧ w.heap.size ≤ bk ∧ w.heap.size ≤ lm ∧ w.heap.size ≤ m) ∧ (j ≠ bk ∧ j ≠ lm ∧ j ≠ m) ∧ Kept (fun g => g = q ∨ g = bb) w w'

set_option maxRecDepth 10000 in
set_option maxHeartbeats 2000000 in
theorem bopen_any (K : Nat → Int) (q bb N : Nat) (C : Nat → List Int) (r : ByteArray) (w : World) (hn : N ≤ 1000) (hn8 : 8 ≤ N) (hr : r.size ≤ 18) (hD : DiskAt w q bb N C (.slice none 0 0) []) (T : Tab K w) (hpT : ¬ 1 = q)
    (hC0 : C 0 = packN K (sumOf K origT) r) (hC1 : C 1 = z128) (hno : z128.take 32 ≠ (packN K (sumOf K (sumOf K origT ++ r)) ⟨#[]⟩).take 32) :
    Calls Tryz.prog 68 #[.agg (volL q N).toArray] w (bopPost q bb N C w) := by
  obtain ⟨V, hV⟩ : ∃ V, V = w.alloc (.cells (volL q N).toArray 152) := ⟨_, rfl⟩
  have hVs : V.heap.size = w.heap.size + 1 := by rw [hV]; simp
  have bV : Below w.heap.size w V := by rw [hV]; exact (Below.refl _ _).alloc (Nat.le_refl _) _
  have rV : V.rangeAt w.heap.size 0 (volL q N) := by rw [hV]; exact range_new _ _ _
  have hop := jopen_any K q bb N C r V hn hn8 hr (hD.fresh bV) (T.below bV) hpT hC0 hC1 hno
  have HBV : Hid (Below w.heap.size w V) := bV
  have HIV : Hid ((Tryz.prog.info? 152).map (·.size) = some (volL q N).length) := info_vol q N
  have HQL : Hid (q < w.heap.size ∧ bb < w.heap.size) := hD.lt
  have hmm := @run_makeMap Tryz.prog
  clear hD T hC0 hC1 hno bV
  generalize hcs : (volL q N).toArray = cs at *
  go_enter Tryz.func68, Tryz.ntmps68
  go_wp2_with (first
    | (rw [← hV]; clear hV)
    | (refine wpList_load_mid rfl 152 _ rfl w.heap.size 0 rfl (volL q N) _ rV Tryz.underlying152 rfl HIV.out ?_; rw [hcs]))
  refine hop.mono ?_
  rintro e W ⟨j, a, c, rfl, hj0, hj1, hjr, hjt, hd, hk⟩
  have s0 := hk.size
  have hJ : Hid (JAt W q bb N j 1 C _) := ⟨hd, hjr, hjt, sumOf_size _ _, ⟨by have := HQL.out.1; omega, by have := HQL.out.2; omega⟩, hj1⟩
  have HK : Hid (Kept (fun g => g = q ∨ g = bb) w W) := (Kept.fresh HBV.out).trans hk (fun _ _ h => h)
  obtain ⟨W1, h1⟩ : ∃ X, X = W.alloc (.map #[] 0) := ⟨_, rfl⟩
  obtain ⟨W2, h2⟩ : ∃ X, X = W1.alloc (.map #[] 0) := ⟨_, rfl⟩
  obtain ⟨W3, h3⟩ : ∃ X, X = W2.alloc (.cells (bkL j W.heap.size (W.heap.size + 1) (.slice none 0 0)).toArray 135) := ⟨_, rfl⟩
  have HM : Hid (_ ∧ _ ∧ _) := book_made (w := w) (by omega) hJ.out h1 h2 h3
  have s1 : W1.heap.size = W.heap.size + 1 := by rw [h1]; simp
  have s2 : W2.heap.size = W.heap.size + 2 := by rw [h2]; simp; omega
  have hbb := bk_built j W.heap.size (W.heap.size + 1)
  clear hop hd hjr hjt hk rV
  go_wp2_with (first
    | (rw [← h1]; clear h1)
    | (rw [← h2]; clear h2)
    | (refine wpList_build_tm rfl 135 _ rfl _ (Eq.trans (congrArg (Tryz.prog.built _) (by simp [Act.eval])) hbb) ?_)
    | (rw [← h3]; clear h3))
  go_loopw [28] (fun i wr => i = .int .i64 0 ∧ wr = W3) (fun _ _ => 0)
  case atStart => exact ⟨rfl, rfl⟩
  case round =>
    obtain ⟨rfl, rfl⟩ := hrel
    go_wp2_with fail
    go_ret2
    refine ⟨W.heap.size + 2, j, W.heap.size, W.heap.size + 1, _, rfl, HM.out.2.1, HM.out.1, ⟨by omega, by omega, by omega, by omega⟩, ⟨by omega, by omega, by omega⟩, HK.out.trans (Kept.fresh HM.out.2.2) (fun _ _ h => h)⟩
end Go.Proofs.YtnlbmnbpckpafabGreatDoor
set_option linter.unusedVariables false
set_option linter.unusedSimpArgs false
namespace Go.Proofs.YtnlbmnbpckpafabGreatDoor
open Go.RowKit

set_option maxHeartbeats 400000 in
theorem fits_any (w : World) : Calls Tryz.prog 66 #[.agg plL.toArray] w fun e w' => e = .returned (.bool true) ∧ Below w.heap.size w w' := by
  unfold plL
  go_enter Tryz.func66, Tryz.ntmps66
  go_wp2_with fail
  go_ret
  exact ⟨rfl, (Below.refl _ _).alloc (Nat.le_refl _) _⟩
set_option maxHeartbeats 400000 in
theorem sfits_any (s : ByteArray) (w : World) (hs : s.size = 32) : Calls Tryz.prog 67 #[.string s, .int .i64 0] w fun e w' => e = .returned (.bool true) ∧ w' = w := by
  have hs' : (s.size : Int) = 32 := by omega
  go_enter Tryz.func67, Tryz.ntmps67
  go_wp2_with fail
  go_ret
  exact ⟨rfl, rfl⟩
theorem pl_built : Tryz.prog.built 86 [(0, .int .i64 0), (1, .int .i64 0)] = some plL.toArray := by kernel_rfl
theorem alloc_pl (w : World) : (Instr.alloc 86 true (.tuple #[])).run Tryz.prog w = .ok (.pointer (some ⟨w.heap.size, 0, none⟩)) (w.alloc (.cells plL.toArray 86)) := by kernel_rfl
theorem pl_one : ∀ u ∈ plL, u.oneCell' = true := by intro u hu; simp [plL] at hu; rcases hu with rfl | rfl <;> rfl
theorem nd_built (bk : Nat) : Tryz.prog.built 89 [(0, .agg plL.toArray), (1, .pointer (some ⟨bk, 0, none⟩))] = some (ndL bk).toArray := by kernel_rfl
theorem alloc_vl (w : World) : (Instr.alloc 152 true (.tuple #[])).run Tryz.prog w = .ok (.pointer (some ⟨w.heap.size, 0, none⟩)) (w.alloc (.cells #[.nilIface, .int .i64 0] 152)) := by kernel_rfl
/-- What Open of a fresh disk leaves: a node that is alone. -/
def nopPost (K : Nat → Int) (q bb N : Nat) (C : Nat → List Int) (w : World) (e : Ending) (w' : World) : Prop :=
  ∃ nd bk j lm m l, e = .returned (.tuple #[.pointer (some ⟨nd, 0, none⟩), .nilIface]) ∧ Al K w' nd q bb N j 1 C l bk lm m 0 (.slice none 0 0) [] (fun g => g = m) (fun _ => False) (.map []) ∧ (w.heap.size ≤ j ∧ w.heap.size ≤ bk ∧ w.heap.size ≤ lm ∧ w.heap.size ≤ m ∧ w.heap.size ≤ nd) ∧ Kept (fun g => g = q ∨ g = bb) w w'

set_option maxRecDepth 10000 in
set_option maxHeartbeats 4000000 in
theorem nopen_any (K : Nat → Int) (q bb N : Nat) (C : Nat → List Int) (r s : ByteArray) (w : World) (h4 : N ≤ 400) (hn8 : 8 ≤ N) (hr : r.size ≤ 18) (hs : s.size = 32) (hD : DiskAt w q bb N C (.slice none 0 0) []) (T : Tab K w) (hpT : ¬ 1 = q) (hbT : ¬ 1 = bb)
    (hC0 : C 0 = packN K (sumOf K origT) r) (hC1 : C 1 = z128) (hno : z128.take 32 ≠ (packN K (sumOf K (sumOf K origT ++ r)) ⟨#[]⟩).take 32) :
    Calls Tryz.prog 45 #[devV q, .int .i64 0, .int .i64 0, .string s, .int .i64 0] w (nopPost K q bb N C w) := by
  have hof := volOf_any q bb N C _ _ w hD hn8 h4
  have HD : Hid (DiskAt w q bb N C (.slice none 0 0) []) := hD
  have HT : Hid (Tab K w) := T
  have HNO : Hid (C 0 = packN K (sumOf K origT) r ∧ C 1 = z128 ∧ z128.take 32 ≠ (packN K (sumOf K (sumOf K origT ++ r)) ⟨#[]⟩).take 32) := ⟨hC0, hC1, hno⟩
  have HIV : Hid ((Tryz.prog.info? 152).map (·.size) = some (volL q N).length) := info_vol q N
  have HTL : Hid (1 < w.heap.size) := T.lt
  clear hD T hC0 hC1 hno
  go_enter Tryz.func45, Tryz.ntmps45
  unfold devV at hof ⊢
  go_wp2_with fail
  refine hof.mono ?_
  rintro e W1 ⟨rfl, hb1⟩
  have s1 := hb1.size
  obtain ⟨W2, h2⟩ : ∃ X, X = W1.alloc (.cells #[.nilIface, .int .i64 0] 152) := ⟨_, rfl⟩
  have hs2 : W2.heap.size = W1.heap.size + 1 := by rw [h2]; simp
  have b2 : Below W1.heap.size W1 W2 := by rw [h2]; exact (Below.refl _ _).alloc (Nat.le_refl _) _
  have t2 : W2.there W1.heap.size 0 (volL q N).length := by rw [h2]; exact there_new W1 #[.nilIface, .int .i64 0] _
  have HVI := info_vol q N
  have HVO := volL_one q N
  have HB2 : Hid (Below w.heap.size w W2) := hb1.trans (b2.mono s1)
  clear hof hb1 b2
  generalize hcs : (volL q N).toArray = cs at *
  go_wp2_with (first
    | (refine wpList_alloc_of rfl 152 rfl #[.nilIface, .int .i64 0] alloc_vl ?_; rw [← h2]; clear h2)
    | (refine wpList_store_abs rfl 152 _ _ rfl W1.heap.size 0 (volL q N) rfl (by rw [hcs]; rfl) t2 HVI HVO ?_
       intro W3 hw3 hr3 _ht3 hb3
       have s3 : W3.heap.size = W1.heap.size + 1 := (by rw [hw3, size_setCells]; exact hs2)
       have HB3 : Hid (Below w.heap.size w W3) := HB2.out.trans (hb3 w.heap.size s1)
       have HR3 : Hid (W3.rangeAt W1.heap.size 0 (volL q N)) := hr3
       obtain ⟨W4, h4'⟩ : ∃ X, X = W3.alloc (.cells plL.toArray 86) := ⟨_, rfl⟩
       have s4 : W4.heap.size = W1.heap.size + 2 := (by rw [h4']; simp; omega)
       have b4 : Below W3.heap.size W3 W4 := (by rw [h4']; exact (Below.refl _ _).alloc (Nat.le_refl _) _)
       have t4 : W4.there (W1.heap.size + 1) 0 plL.length := (by have := there_new W3 plL.toArray 86; rw [← h4', s3] at this; exact this)
       have HB4 : Hid (Below w.heap.size w W4) := HB3.out.trans (b4.mono (by omega))
       have HR4 : Hid (W4.rangeAt W1.heap.size 0 (volL q N)) := range_kept HR3.out (Kept.fresh (S := fun _ => False) b4) (by omega) id
       have hpb := pl_built
       clear _ht3 hw3 hb3 hr3 t2 b4)
    | (refine wpList_build_tm rfl 86 _ rfl _ (Eq.trans (congrArg (Tryz.prog.built _) (by simp [Act.eval])) hpb) ?_)
    | (refine wpList_alloc_of rfl 86 rfl plL.toArray alloc_pl ?_; rw [← h4']; clear h4'; rw [s3])
    | (refine wpList_store_abs rfl 86 _ _ rfl (W1.heap.size + 1) 0 plL rfl rfl t4 info_pl pl_one ?_
       intro W5 hw5 hr5 _ht5 hb5
       have s5 : W5.heap.size = W1.heap.size + 2 := (by rw [hw5, size_setCells]; exact s4)
       have HB5 : Hid (Below w.heap.size w W5) := HB4.out.trans (hb5 w.heap.size (by omega))
       have k5 : Kept (· = W1.heap.size + 1) W4 W5 := (by rw [hw5]; exact Kept.setCells _ _ _ _ (Or.inl rfl))
       have HR5 : Hid (W5.rangeAt W1.heap.size 0 (volL q N)) := range_kept HR4.out k5 (by omega) (by show ¬ W1.heap.size = W1.heap.size + 1; omega)
       clear _ht5 hw5 hb5 t4 k5)
    | (refine wpList_load_mid rfl 86 _ rfl (W1.heap.size + 1) 0 rfl plL _ hr5 Tryz.underlying86 rfl info_pl ?_))
  refine (fits_any W5).mono ?_
  rintro e W6 ⟨rfl, hb6⟩
  have s6 := hb6.size
  have HB6 : Hid (Below w.heap.size w W6) := HB5.out.trans (hb6.mono (by omega))
  have r6 : W6.rangeAt W1.heap.size 0 (volL q N) := range_kept HR5.out (Kept.fresh (S := fun _ => False) hb6) (by omega) id
  have p6 : W6.rangeAt (W1.heap.size + 1) 0 plL := range_kept hr5 (Kept.fresh (S := fun _ => False) hb6) (by omega) id
  clear hb6 hr5
  have hfit := sfits_any s W6 hs
  go_wp2_with fail
  refine hfit.mono ?_
  rintro e W7 ⟨rfl, hw7⟩
  obtain rfl : W6 = W7 := hw7.symm
  clear hw7 hfit
  have hbo := bopen_any K q bb N C r W6 (by omega) hn8 hr (HD.out.fresh HB6.out) (HT.out.below HB6.out) hpT HNO.out.1 HNO.out.2.1 HNO.out.2.2
  rw [hcs] at hbo
  go_wp2_with (first
    | (refine wpList_load_mid rfl 152 _ rfl W1.heap.size 0 rfl (volL q N) _ r6 Tryz.underlying152 rfl HIV.out ?_; rw [hcs]))
  refine hbo.mono ?_
  rintro e W8 ⟨bk, j, lm, m, l, rfl, j8, b8, ⟨g1, g2, g3, g4⟩, ⟨n1, n2, n3⟩, k8⟩
  have s8 := k8.size
  have hql := HD.out.lt
  have p8 : W8.rangeAt (W1.heap.size + 1) 0 plL := range_kept p6 k8 (by omega) (by show ¬ (W1.heap.size + 1 = q ∨ W1.heap.size + 1 = bb); omega)
  obtain ⟨W9, h9⟩ : ∃ X, X = W8.alloc (.cells (ndL bk).toArray 89) := ⟨_, rfl⟩
  have b9 : Below W8.heap.size W8 W9 := by rw [h9]; exact (Below.refl _ _).alloc (Nat.le_refl _) _
  have s9 : W9.heap.size = W8.heap.size + 1 := by rw [h9]; simp
  have r9 : W9.rangeAt W8.heap.size 0 (ndL bk) := by rw [h9]; exact range_new _ _ _
  have T9 : Tab K W9 := ((HT.out.below HB6.out).kept k8 (by show ¬ (_ = q ∨ _ = bb); omega)).below b9
  have hbl := b8.lt
  have hml := b8.recs.lts m rfl
  have hll := b8.lasts.lt
  have hjl := j8.lt
  have hTL := HTL.out
  have hB6 := HB6.out.size
  have own9 : ∀ g, bkOwn bk lm (.slice none 0 0) (fun g => g = m) g → g = bk ∨ g = lm ∨ g = m := fun g hg => by
    rcases hg with h | h | h | h
    · exact Or.inl h
    · exact Or.inr (Or.inl h)
    · exact Or.inr (Or.inr h)
    · cases h
  have HA : Hid (Al K W9 W8.heap.size q bb N j 1 C l bk lm m 0 (.slice none 0 0) [] (fun g => g = m) (fun _ => False) (.map [])) := ⟨r9, by omega, j8.kept (Kept.fresh (S := fun _ => False) b9) (fun _ _ => id), b8.fresh b9,
    (fun g hg hj => by
      unfold jOwn at hj
      rcases own9 g hg with h | h | h <;> omega),
    ⟨(fun h => by rcases own9 _ h with h | h | h <;> omega), (fun h => by unfold jOwn at h; omega)⟩, T9,
    ⟨(fun h => by rcases own9 _ h with h | h | h <;> omega), (fun h => by unfold jOwn at h; omega)⟩⟩
  have HK : Hid (Kept (fun g => g = q ∨ g = bb) w W9) := ((Kept.fresh HB6.out).trans k8 (fun _ _ h => h)).trans (Kept.fresh (S := fun g => g = q ∨ g = bb) b9) (fun _ _ h => h)
  have HG : Hid (w.heap.size ≤ j ∧ w.heap.size ≤ bk ∧ w.heap.size ≤ lm ∧ w.heap.size ≤ m ∧ w.heap.size ≤ W8.heap.size) := by refine ⟨?_, ?_, ?_, ?_, ?_⟩ <;> omega
  have hnb := nd_built bk
  clear hbo j8 b8 k8 b9 r9 T9 own9 r6 p6
  go_wp2_with (first
    | (refine wpList_load_mid rfl 86 _ rfl (W1.heap.size + 1) 0 rfl plL _ p8 Tryz.underlying86 rfl info_pl ?_)
    | (refine wpList_build_tm rfl 89 _ rfl _ (Eq.trans (congrArg (Tryz.prog.built _) (by simp [Act.eval])) hnb) ?_)
    | (rw [← h9]; clear h9))
  go_ret2
  try rw [← h9]
  exact ⟨W8.heap.size, bk, j, lm, m, l, rfl, HA.out, HG.out, HK.out⟩
end Go.Proofs.YtnlbmnbpckpafabGreatDoor
