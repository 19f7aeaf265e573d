import Derived.Test.YteglimjonofdeaaGreatDoorNNode1M
set_option linter.unusedVariables false
set_option linter.unusedSimpArgs false
namespace Go.Proofs.YteglimjonofdeaaGreatDoor
open Go.RowKit

set_option maxRecDepth 10000 in
set_option maxHeartbeats 4000000 in
theorem req_old (K : Nat → Int) (z : Nv) (nd q bb N j u : Nat) (C : Nat → List Int) (l : ByteArray) (bk lm m cc ky : Nat) (lv : Value) (L : List En) (G F : Nat → Prop) (D : DataW Unit) (c n o p v : Int) (t : ByteArray) (no : Int) (i : Nat) (w : World) (h : Al K w z nd q bb N j u C l bk lm m cc ky lv L G F D) (hz : z.r = 0) (hw : rqWhole c n o p v t = true) (hl : lastIs L D c no i) (hL : L.length ≤ 400) (hno : n < no) :
    Calls Tryz.prog 33 #[.pointer (some ⟨nd, 0, none⟩), .agg (rqCells c n o p v t).toArray] w fun e w' => e = .returned (.tuple #[.slice none 0 0, .iface 41 (.int .i64 2)]) ∧ Below w.heap.size w w' := by
  obtain ⟨⟨c1, c9⟩, ⟨n1, n9⟩, _, _, _, ht8⟩ := rq_bounds hw
  obtain ⟨V, hV⟩ : ∃ V, V = w.alloc (.cells (rqCells c n o p v t).toArray 29) := ⟨_, rfl⟩
  have hVs : V.heap.size = w.heap.size + 1 := by rw [hV]; simp
  have bV : Below w.heap.size w V := by rw [hV]; exact (Below.refl _ _).alloc (Nat.le_refl _) _
  have rV : V.rangeAt w.heap.size 0 (rqCells c n o p v t) := by rw [hV]; exact range_new _ _ _
  have AV := h.fresh bV
  have HAV : Hid (Al K V z nd q bb N j u C l bk lm m cc ky lv L G F D) := AV
  have HBV : Hid (Below w.heap.size w V) := bV
  have HRV : Hid (V.rangeAt w.heap.size 0 (rqCells c n o p v t)) := rV
  have HQ : Hid ((Tryz.prog.info? 29).map (·.size) = some (rqCells c n o p v t).length) := info_rq c n o p v t
  have cf : V.cell? ⟨nd, 7, none⟩ = some (.bool false) := AV.node 7 _ rfl
  have hp := nd_place AV.node
  have hpl := info_pl z
  have hfi := first_any z V
  rw [decide_eq_true hz] at hfi
  have HNL : Hid (nd < w.heap.size) := h.nlt
  clear h AV bV rV hz
  go_enter Tryz.func33, Tryz.ntmps33
  unfold rqCells at hV
  unfold rqCells
  go_wp2_with (first
    | (rw [← hV]; clear hV)
    | (refine wpList_load_mid rfl 108 _ rfl nd 0 rfl (plL z) _ hp Tryz.underlying108 rfl hpl ?_))
  refine hfi.mono ?_
  rintro e W1 ⟨rfl, hb1⟩
  have s1 := hb1.size
  have A1 : Hid (Al K W1 z nd q bb N j u C l bk lm m cc ky lv L G F D) := HAV.out.fresh hb1
  have r1 : W1.rangeAt w.heap.size 0 (rqCells c n o p v t) := range_kept HRV.out (Kept.fresh (S := fun _ => False) hb1) (by omega) id
  have B1 : Hid (Below w.heap.size w W1) := HBV.out.trans (hb1.mono (by omega))
  have hwh := ewhole_any c n o p v t W1 (by omega)
  rw [hw] at hwh
  clear hb1 hp cf hfi
  go_wp2_with (first
    | (refine wpList_load_mid rfl 29 _ rfl w.heap.size 0 rfl (rqCells c n o p v t) _ r1 Tryz.underlying29 rfl HQ.out ?_))
  refine hwh.mono ?_
  rintro e W2 ⟨rfl, hb2⟩
  have s2 := hb2.size
  have A2 : Hid (Al K W2 z nd q bb N j u C l bk lm m cc ky lv L G F D) := A1.out.fresh hb2
  have J0 : W2.drew.rangeAt w.heap.size 0 (rqCells c n o p v t) ∧ W2.drew.cell? ⟨nd, 2, none⟩ = some (.pointer (some ⟨bk, 0, none⟩)) := ⟨(range_kept r1 (Kept.fresh (S := fun _ => False) hb2) (by omega) id : W2.rangeAt _ _ _), A2.out.node 2 _ rfl⟩
  have B2 : Hid (Below w.heap.size w W2) := B1.out.trans (hb2.mono (by omega))
  clear hb2 hwh r1
  go_wp2_with fail
  refine wp_region_noPanic ?_
  refine wp_region_held_drew (S := fun W => W.rangeAt w.heap.size 0 (rqCells c n o p v t) ∧ W.cell? ⟨nd, 2, none⟩ = some (.pointer (some ⟨bk, 0, none⟩))) (by kernel_rfl) J0 (fun _ => ?_)
  refine wpAnyH_take (i := 0) (v := ?_) rfl (by kernel_rfl) (by kernel_rfl) (by kernel_rfl) (fun _ _ _ h => h) (Or.inl ⟨by rfl, ?_⟩) J0 ?_
  rotate_left 1
  · intro W hSW; clear hSW; go_simp; try with_reducible rfl
  simp only [qA, qB, qC, Act.put, qD, qE, qF]
  refine wpAnyH_take (i := 1) (v := ?_) rfl (by kernel_rfl) (by kernel_rfl) (by kernel_rfl) (fun _ _ _ h => h) (Or.inl ⟨by rfl, ?_⟩) J0 ?_
  rotate_left 1
  · intro W hSW; clear hSW; go_simp; try with_reducible rfl
  simp only [qA, qB, qC, Act.put, qD, qE, qF]
  refine wpAnyH_take (i := 2) (v := ?_) rfl (by kernel_rfl) (by kernel_rfl) (by kernel_rfl) (fun _ _ _ h => h) (Or.inl ⟨by rfl, ?_⟩) J0 ?_
  rotate_left 1
  · intro W hSW; clear hSW; go_simp; try with_reducible rfl
  simp only [qA, qB, qC, Act.put, qD, qE, qF]
  refine wpAnyH_take (i := 3) (v := ?_) rfl (by kernel_rfl) (by kernel_rfl) (by kernel_rfl) (fun _ _ _ h => h) (Or.inl ⟨by rfl, ?_⟩) J0 ?_
  rotate_left 1
  · intro W hSW; have qc := hSW.2; clear hSW; go_simp; try with_reducible rfl
  simp only [qA, qB, qC, Act.put, qD, qE, qF]
  refine wpAnyH_take (i := 4) (v := ?_) rfl (by kernel_rfl) (by kernel_rfl) (by kernel_rfl) (fun _ _ _ h => h) (Or.inl ⟨by rfl, ?_⟩) J0 ?_
  rotate_left 1
  · intro W hSW; clear hSW; go_simp; try with_reducible rfl
  simp only [qA, qB, qC, Act.put, qD, qE, qF]
  refine wpAnyH_take (i := 5) (v := ?_) rfl (by kernel_rfl) (by kernel_rfl) (by kernel_rfl) (fun _ _ _ h => h) (Or.inl ⟨by rfl, ?_⟩) J0 ?_
  rotate_left 1
  · intro W hSW; have qc : W.cell? ⟨w.heap.size, 0, none⟩ = some (.int .i64 c) := hSW.1 0 _ rfl; clear hSW; go_simp; try with_reducible rfl
  simp only [qA, qB, qC, Act.put, qD, qE, qF]
  refine wpAnyH_ready (rs := [6]) (by kernel_rfl) (by simp) ?_
  refine AllReadyH.cons rfl (fun K' hK' => ?_) AllReadyH.nil
  rw [if_pos (by rfl)]
  go_simp
  refine (lastno_any bk j lm m cc ky lv L G F D c no i W2.drew A2.out.book.drew (by omega) hl (by omega)).mono ?_
  rintro e W3 ⟨rfl, hb3⟩
  have b3 : Below W2.heap.size W2 W3 := ((Below.refl W2.heap.size W2).drew).trans hb3
  have s3 := b3.size
  have A3 : Hid (Al K W3 z nd q bb N j u C l bk lm m cc ky lv L G F D) := A2.out.fresh b3
  have J3 : W3.rangeAt w.heap.size 0 (rqCells c n o p v t) ∧ W3.cell? ⟨nd, 2, none⟩ = some (.pointer (some ⟨bk, 0, none⟩)) := ⟨range_kept (W := W2) J0.1 (Kept.fresh (S := fun _ => False) b3) (by omega) id, A3.out.node 2 _ rfl⟩
  have B3 : Hid (Below w.heap.size w W3) := B2.out.trans (b3.mono (by omega))
  clear hb3 b3
  refine hK'.out _ _ J3 (fun _ => ?_)
  clear hK' K'
  try simp only [qA, qB, qC, Act.put, qD, qE, qF]
  refine wpAnyH_take (i := 7) (v := ?_) rfl (by kernel_rfl) (by kernel_rfl) (by kernel_rfl) (fun _ _ _ h => h) (Or.inl ⟨by rfl, ?_⟩) J3 ?_
  rotate_left 1
  · intro W hSW; clear hSW; go_simp; try with_reducible rfl
  simp only [qA, qB, qC, Act.put, qD, qE, qF]
  refine ⟨by kernel_rfl, ?_⟩
  refine NoPanic.normal ?_
  try simp only [qA, qB, qC, Act.put, qD, qE, qF]
  have c1n : W3.cell? ⟨w.heap.size, 1, none⟩ = some (.int .i64 n) := J3.1 1 _ rfl
  go_wp2_with fail
  go_ret2
  exact ⟨rfl, B3.out⟩

set_option maxRecDepth 10000 in
set_option maxHeartbeats 4000000 in
theorem req_new (K : Nat → Int) (z : Nv) (nd q bb N j u : Nat) (C : Nat → List Int) (l : ByteArray) (bk lm m cc ky : Nat) (lv : Value) (L : List En) (G F : Nat → Prop) (D : DataW Unit) (c n o p v : Int) (t : ByteArray) (no : Int) (i : Nat) (w : World) (h : Al K w z nd q bb N j u C l bk lm m cc ky lv L G F D) (hz : z.r = 0) (hw : rqWhole c n o p v t = true) (hl : lastIs L D c no i) (hL : L.length ≤ 400) (hno : no < n) (R : World → Value → Value → World → Prop) (hin : ∀ W, Below w.heap.size w W → Calls Tryz.prog 61 #[.pointer (some ⟨nd, 0, none⟩), .agg (rqCells c n o p v t).toArray] W fun e w' => ∃ s r, e = .returned (.tuple #[s, r]) ∧ R W s r w') :
    Calls Tryz.prog 33 #[.pointer (some ⟨nd, 0, none⟩), .agg (rqCells c n o p v t).toArray] w fun e w' => ∃ W s r, Below w.heap.size w W ∧ e = .returned (.tuple #[s, r]) ∧ R W s r w' := by
  obtain ⟨⟨c1, c9⟩, ⟨n1, n9⟩, _, _, _, ht8⟩ := rq_bounds hw
  obtain ⟨V, hV⟩ : ∃ V, V = w.alloc (.cells (rqCells c n o p v t).toArray 29) := ⟨_, rfl⟩
  have hVs : V.heap.size = w.heap.size + 1 := by rw [hV]; simp
  have bV : Below w.heap.size w V := by rw [hV]; exact (Below.refl _ _).alloc (Nat.le_refl _) _
  have rV : V.rangeAt w.heap.size 0 (rqCells c n o p v t) := by rw [hV]; exact range_new _ _ _
  have AV := h.fresh bV
  have HAV : Hid (Al K V z nd q bb N j u C l bk lm m cc ky lv L G F D) := AV
  have HBV : Hid (Below w.heap.size w V) := bV
  have HRV : Hid (V.rangeAt w.heap.size 0 (rqCells c n o p v t)) := rV
  have HQ : Hid ((Tryz.prog.info? 29).map (·.size) = some (rqCells c n o p v t).length) := info_rq c n o p v t
  have cf : V.cell? ⟨nd, 7, none⟩ = some (.bool false) := AV.node 7 _ rfl
  have hp := nd_place AV.node
  have hpl := info_pl z
  have hfi := first_any z V
  rw [decide_eq_true hz] at hfi
  have HNL : Hid (nd < w.heap.size) := h.nlt
  clear h AV bV rV hz
  go_enter Tryz.func33, Tryz.ntmps33
  unfold rqCells at hV
  unfold rqCells
  go_wp2_with (first
    | (rw [← hV]; clear hV)
    | (refine wpList_load_mid rfl 108 _ rfl nd 0 rfl (plL z) _ hp Tryz.underlying108 rfl hpl ?_))
  refine hfi.mono ?_
  rintro e W1 ⟨rfl, hb1⟩
  have s1 := hb1.size
  have A1 : Hid (Al K W1 z nd q bb N j u C l bk lm m cc ky lv L G F D) := HAV.out.fresh hb1
  have r1 : W1.rangeAt w.heap.size 0 (rqCells c n o p v t) := range_kept HRV.out (Kept.fresh (S := fun _ => False) hb1) (by omega) id
  have B1 : Hid (Below w.heap.size w W1) := HBV.out.trans (hb1.mono (by omega))
  have hwh := ewhole_any c n o p v t W1 (by omega)
  rw [hw] at hwh
  clear hb1 hp cf hfi
  go_wp2_with (first
    | (refine wpList_load_mid rfl 29 _ rfl w.heap.size 0 rfl (rqCells c n o p v t) _ r1 Tryz.underlying29 rfl HQ.out ?_))
  refine hwh.mono ?_
  rintro e W2 ⟨rfl, hb2⟩
  have s2 := hb2.size
  have A2 : Hid (Al K W2 z nd q bb N j u C l bk lm m cc ky lv L G F D) := A1.out.fresh hb2
  have J0 : W2.drew.rangeAt w.heap.size 0 (rqCells c n o p v t) ∧ W2.drew.cell? ⟨nd, 2, none⟩ = some (.pointer (some ⟨bk, 0, none⟩)) := ⟨(range_kept r1 (Kept.fresh (S := fun _ => False) hb2) (by omega) id : W2.rangeAt _ _ _), A2.out.node 2 _ rfl⟩
  have B2 : Hid (Below w.heap.size w W2) := B1.out.trans (hb2.mono (by omega))
  clear hb2 hwh r1
  go_wp2_with fail
  refine wp_region_noPanic ?_
  refine wp_region_held_drew (S := fun W => W.rangeAt w.heap.size 0 (rqCells c n o p v t) ∧ W.cell? ⟨nd, 2, none⟩ = some (.pointer (some ⟨bk, 0, none⟩))) (by kernel_rfl) J0 (fun _ => ?_)
  refine wpAnyH_take (i := 0) (v := ?_) rfl (by kernel_rfl) (by kernel_rfl) (by kernel_rfl) (fun _ _ _ h => h) (Or.inl ⟨by rfl, ?_⟩) J0 ?_
  rotate_left 1
  · intro W hSW; clear hSW; go_simp; try with_reducible rfl
  simp only [qA, qB, qC, Act.put, qD, qE, qF]
  refine wpAnyH_take (i := 1) (v := ?_) rfl (by kernel_rfl) (by kernel_rfl) (by kernel_rfl) (fun _ _ _ h => h) (Or.inl ⟨by rfl, ?_⟩) J0 ?_
  rotate_left 1
  · intro W hSW; clear hSW; go_simp; try with_reducible rfl
  simp only [qA, qB, qC, Act.put, qD, qE, qF]
  refine wpAnyH_take (i := 2) (v := ?_) rfl (by kernel_rfl) (by kernel_rfl) (by kernel_rfl) (fun _ _ _ h => h) (Or.inl ⟨by rfl, ?_⟩) J0 ?_
  rotate_left 1
  · intro W hSW; clear hSW; go_simp; try with_reducible rfl
  simp only [qA, qB, qC, Act.put, qD, qE, qF]
  refine wpAnyH_take (i := 3) (v := ?_) rfl (by kernel_rfl) (by kernel_rfl) (by kernel_rfl) (fun _ _ _ h => h) (Or.inl ⟨by rfl, ?_⟩) J0 ?_
  rotate_left 1
  · intro W hSW; have qc := hSW.2; clear hSW; go_simp; try with_reducible rfl
  simp only [qA, qB, qC, Act.put, qD, qE, qF]
  refine wpAnyH_take (i := 4) (v := ?_) rfl (by kernel_rfl) (by kernel_rfl) (by kernel_rfl) (fun _ _ _ h => h) (Or.inl ⟨by rfl, ?_⟩) J0 ?_
  rotate_left 1
  · intro W hSW; clear hSW; go_simp; try with_reducible rfl
  simp only [qA, qB, qC, Act.put, qD, qE, qF]
  refine wpAnyH_take (i := 5) (v := ?_) rfl (by kernel_rfl) (by kernel_rfl) (by kernel_rfl) (fun _ _ _ h => h) (Or.inl ⟨by rfl, ?_⟩) J0 ?_
  rotate_left 1
  · intro W hSW; have qc : W.cell? ⟨w.heap.size, 0, none⟩ = some (.int .i64 c) := hSW.1 0 _ rfl; clear hSW; go_simp; try with_reducible rfl
  simp only [qA, qB, qC, Act.put, qD, qE, qF]
  refine wpAnyH_ready (rs := [6]) (by kernel_rfl) (by simp) ?_
  refine AllReadyH.cons rfl (fun K' hK' => ?_) AllReadyH.nil
  rw [if_pos (by rfl)]
  go_simp
  refine (lastno_any bk j lm m cc ky lv L G F D c no i W2.drew A2.out.book.drew (by omega) hl (by omega)).mono ?_
  rintro e W3 ⟨rfl, hb3⟩
  have b3 : Below W2.heap.size W2 W3 := ((Below.refl W2.heap.size W2).drew).trans hb3
  have s3 := b3.size
  have A3 : Hid (Al K W3 z nd q bb N j u C l bk lm m cc ky lv L G F D) := A2.out.fresh b3
  have J3 : W3.rangeAt w.heap.size 0 (rqCells c n o p v t) ∧ W3.cell? ⟨nd, 2, none⟩ = some (.pointer (some ⟨bk, 0, none⟩)) := ⟨range_kept (W := W2) J0.1 (Kept.fresh (S := fun _ => False) b3) (by omega) id, A3.out.node 2 _ rfl⟩
  have B3 : Hid (Below w.heap.size w W3) := B2.out.trans (b3.mono (by omega))
  clear hb3 b3
  refine hK'.out _ _ J3 (fun _ => ?_)
  clear hK' K'
  try simp only [qA, qB, qC, Act.put, qD, qE, qF]
  refine wpAnyH_take (i := 7) (v := ?_) rfl (by kernel_rfl) (by kernel_rfl) (by kernel_rfl) (fun _ _ _ h => h) (Or.inl ⟨by rfl, ?_⟩) J3 ?_
  rotate_left 1
  · intro W hSW; clear hSW; go_simp; try with_reducible rfl
  simp only [qA, qB, qC, Act.put, qD, qE, qF]
  refine ⟨by kernel_rfl, ?_⟩
  refine NoPanic.normal ?_
  try simp only [qA, qB, qC, Act.put, qD, qE, qF]
  have c1n : W3.cell? ⟨w.heap.size, 1, none⟩ = some (.int .i64 n) := J3.1 1 _ rfl
  have h1 : ¬ n < no := by omega
  have h2 : ¬ n = no := by omega
  have htk := hin W3 B3.out
  clear hin
  go_wp2_with (first
    | (refine wpList_load_mid rfl 29 _ rfl w.heap.size 0 rfl (rqCells c n o p v t) _ J3.1 Tryz.underlying29 rfl HQ.out ?_))
  refine htk.mono ?_
  rintro e W4 ⟨s, r, rfl, hR⟩
  have HR : Hid (R W3 s r W4) := hR
  clear hR htk
  go_wp2_with fail
  go_ret2
  exact ⟨W3, s, r, B3.out, rfl, HR.out⟩

set_option maxRecDepth 10000 in
set_option maxHeartbeats 4000000 in
theorem req_again (K : Nat → Int) (z : Nv) (nd q bb N j u : Nat) (C : Nat → List Int) (l : ByteArray) (bk lm m cc ky : Nat) (lv : Value) (L : List En) (G F : Nat → Prop) (D : DataW Unit) (c n o p v : Int) (t : ByteArray) (i : Nat) (w : World) (h : Al K w z nd q bb N j u C l bk lm m cc ky lv L G F D) (hz : z.r = 0) (hw : rqWhole c n o p v t = true) (hl : lastIs L D c n i) (hL : L.length ≤ 400) (hi : 1 ≤ i) (R : World → Value → World → Prop) (hin : ∀ W, Below w.heap.size w W → Calls Tryz.prog 59 #[.pointer (some ⟨nd, 0, none⟩), .int .i64 (i : Nat)] W fun e w' => ∃ s, e = .returned s ∧ R W s w' ∧ Below W.heap.size W w') :
    Calls Tryz.prog 33 #[.pointer (some ⟨nd, 0, none⟩), .agg (rqCells c n o p v t).toArray] w fun e w' => ∃ W s, Below w.heap.size w W ∧ e = .returned (.tuple #[s, .nilIface]) ∧ R W s w' ∧ Below w.heap.size w w' := by
  obtain ⟨⟨c1, c9⟩, ⟨n1, n9⟩, _, _, _, ht8⟩ := rq_bounds hw
  obtain ⟨V, hV⟩ : ∃ V, V = w.alloc (.cells (rqCells c n o p v t).toArray 29) := ⟨_, rfl⟩
  have hVs : V.heap.size = w.heap.size + 1 := by rw [hV]; simp
  have bV : Below w.heap.size w V := by rw [hV]; exact (Below.refl _ _).alloc (Nat.le_refl _) _
  have rV : V.rangeAt w.heap.size 0 (rqCells c n o p v t) := by rw [hV]; exact range_new _ _ _
  have AV := h.fresh bV
  have HAV : Hid (Al K V z nd q bb N j u C l bk lm m cc ky lv L G F D) := AV
  have HBV : Hid (Below w.heap.size w V) := bV
  have HRV : Hid (V.rangeAt w.heap.size 0 (rqCells c n o p v t)) := rV
  have HQ : Hid ((Tryz.prog.info? 29).map (·.size) = some (rqCells c n o p v t).length) := info_rq c n o p v t
  have cf : V.cell? ⟨nd, 7, none⟩ = some (.bool false) := AV.node 7 _ rfl
  have hp := nd_place AV.node
  have hpl := info_pl z
  have hfi := first_any z V
  rw [decide_eq_true hz] at hfi
  have HNL : Hid (nd < w.heap.size) := h.nlt
  clear h AV bV rV hz
  go_enter Tryz.func33, Tryz.ntmps33
  unfold rqCells at hV
  unfold rqCells
  go_wp2_with (first
    | (rw [← hV]; clear hV)
    | (refine wpList_load_mid rfl 108 _ rfl nd 0 rfl (plL z) _ hp Tryz.underlying108 rfl hpl ?_))
  refine hfi.mono ?_
  rintro e W1 ⟨rfl, hb1⟩
  have s1 := hb1.size
  have A1 : Hid (Al K W1 z nd q bb N j u C l bk lm m cc ky lv L G F D) := HAV.out.fresh hb1
  have r1 : W1.rangeAt w.heap.size 0 (rqCells c n o p v t) := range_kept HRV.out (Kept.fresh (S := fun _ => False) hb1) (by omega) id
  have B1 : Hid (Below w.heap.size w W1) := HBV.out.trans (hb1.mono (by omega))
  have hwh := ewhole_any c n o p v t W1 (by omega)
  rw [hw] at hwh
  clear hb1 hp cf hfi
  go_wp2_with (first
    | (refine wpList_load_mid rfl 29 _ rfl w.heap.size 0 rfl (rqCells c n o p v t) _ r1 Tryz.underlying29 rfl HQ.out ?_))
  refine hwh.mono ?_
  rintro e W2 ⟨rfl, hb2⟩
  have s2 := hb2.size
  have A2 : Hid (Al K W2 z nd q bb N j u C l bk lm m cc ky lv L G F D) := A1.out.fresh hb2
  have J0 : W2.drew.rangeAt w.heap.size 0 (rqCells c n o p v t) ∧ W2.drew.cell? ⟨nd, 2, none⟩ = some (.pointer (some ⟨bk, 0, none⟩)) := ⟨(range_kept r1 (Kept.fresh (S := fun _ => False) hb2) (by omega) id : W2.rangeAt _ _ _), A2.out.node 2 _ rfl⟩
  have B2 : Hid (Below w.heap.size w W2) := B1.out.trans (hb2.mono (by omega))
  clear hb2 hwh r1
  go_wp2_with fail
  refine wp_region_noPanic ?_
  refine wp_region_held_drew (S := fun W => W.rangeAt w.heap.size 0 (rqCells c n o p v t) ∧ W.cell? ⟨nd, 2, none⟩ = some (.pointer (some ⟨bk, 0, none⟩))) (by kernel_rfl) J0 (fun _ => ?_)
  refine wpAnyH_take (i := 0) (v := ?_) rfl (by kernel_rfl) (by kernel_rfl) (by kernel_rfl) (fun _ _ _ h => h) (Or.inl ⟨by rfl, ?_⟩) J0 ?_
  rotate_left 1
  · intro W hSW; clear hSW; go_simp; try with_reducible rfl
  simp only [qA, qB, qC, Act.put, qD, qE, qF]
  refine wpAnyH_take (i := 1) (v := ?_) rfl (by kernel_rfl) (by kernel_rfl) (by kernel_rfl) (fun _ _ _ h => h) (Or.inl ⟨by rfl, ?_⟩) J0 ?_
  rotate_left 1
  · intro W hSW; clear hSW; go_simp; try with_reducible rfl
  simp only [qA, qB, qC, Act.put, qD, qE, qF]
  refine wpAnyH_take (i := 2) (v := ?_) rfl (by kernel_rfl) (by kernel_rfl) (by kernel_rfl) (fun _ _ _ h => h) (Or.inl ⟨by rfl, ?_⟩) J0 ?_
  rotate_left 1
  · intro W hSW; clear hSW; go_simp; try with_reducible rfl
  simp only [qA, qB, qC, Act.put, qD, qE, qF]
  refine wpAnyH_take (i := 3) (v := ?_) rfl (by kernel_rfl) (by kernel_rfl) (by kernel_rfl) (fun _ _ _ h => h) (Or.inl ⟨by rfl, ?_⟩) J0 ?_
  rotate_left 1
  · intro W hSW; have qc := hSW.2; clear hSW; go_simp; try with_reducible rfl
  simp only [qA, qB, qC, Act.put, qD, qE, qF]
  refine wpAnyH_take (i := 4) (v := ?_) rfl (by kernel_rfl) (by kernel_rfl) (by kernel_rfl) (fun _ _ _ h => h) (Or.inl ⟨by rfl, ?_⟩) J0 ?_
  rotate_left 1
  · intro W hSW; clear hSW; go_simp; try with_reducible rfl
  simp only [qA, qB, qC, Act.put, qD, qE, qF]
  refine wpAnyH_take (i := 5) (v := ?_) rfl (by kernel_rfl) (by kernel_rfl) (by kernel_rfl) (fun _ _ _ h => h) (Or.inl ⟨by rfl, ?_⟩) J0 ?_
  rotate_left 1
  · intro W hSW; have qc : W.cell? ⟨w.heap.size, 0, none⟩ = some (.int .i64 c) := hSW.1 0 _ rfl; clear hSW; go_simp; try with_reducible rfl
  simp only [qA, qB, qC, Act.put, qD, qE, qF]
  refine wpAnyH_ready (rs := [6]) (by kernel_rfl) (by simp) ?_
  refine AllReadyH.cons rfl (fun K' hK' => ?_) AllReadyH.nil
  rw [if_pos (by rfl)]
  go_simp
  refine (lastno_any bk j lm m cc ky lv L G F D c n i W2.drew A2.out.book.drew (by omega) hl (by omega)).mono ?_
  rintro e W3 ⟨rfl, hb3⟩
  have b3 : Below W2.heap.size W2 W3 := ((Below.refl W2.heap.size W2).drew).trans hb3
  have s3 := b3.size
  have A3 : Hid (Al K W3 z nd q bb N j u C l bk lm m cc ky lv L G F D) := A2.out.fresh b3
  have J3 : W3.rangeAt w.heap.size 0 (rqCells c n o p v t) ∧ W3.cell? ⟨nd, 2, none⟩ = some (.pointer (some ⟨bk, 0, none⟩)) := ⟨range_kept (W := W2) J0.1 (Kept.fresh (S := fun _ => False) b3) (by omega) id, A3.out.node 2 _ rfl⟩
  have B3 : Hid (Below w.heap.size w W3) := B2.out.trans (b3.mono (by omega))
  clear hb3 b3
  refine hK'.out _ _ J3 (fun _ => ?_)
  clear hK' K'
  try simp only [qA, qB, qC, Act.put, qD, qE, qF]
  refine wpAnyH_take (i := 7) (v := ?_) rfl (by kernel_rfl) (by kernel_rfl) (by kernel_rfl) (fun _ _ _ h => h) (Or.inl ⟨by rfl, ?_⟩) J3 ?_
  rotate_left 1
  · intro W hSW; clear hSW; go_simp; try with_reducible rfl
  simp only [qA, qB, qC, Act.put, qD, qE, qF]
  refine ⟨by kernel_rfl, ?_⟩
  refine NoPanic.normal ?_
  try simp only [qA, qB, qC, Act.put, qD, qE, qF]
  have c1n : W3.cell? ⟨w.heap.size, 1, none⟩ = some (.int .i64 n) := J3.1 1 _ rfl
  have K0 : W3.drew.rangeAt w.heap.size 0 (rqCells c n o p v t) ∧ W3.drew.cell? ⟨nd, 2, none⟩ = some (.pointer (some ⟨bk, 0, none⟩)) := J3
  go_wp2_with fail
  refine wp_region_noPanic ?_
  refine wp_region_held_drew (S := fun W => W.rangeAt w.heap.size 0 (rqCells c n o p v t) ∧ W.cell? ⟨nd, 2, none⟩ = some (.pointer (some ⟨bk, 0, none⟩))) (by kernel_rfl) K0 (fun _ => ?_)
  refine wpAnyH_take (i := 0) (v := ?_) rfl (by kernel_rfl) (by kernel_rfl) (by kernel_rfl) (fun _ _ _ h => h) (Or.inl ⟨by rfl, ?_⟩) K0 ?_
  rotate_left 1
  · intro W hSW; clear hSW; go_simp; try with_reducible rfl
  simp only [qA, qB, qC, Act.put, qD, qE, qF]
  refine wpAnyH_take (i := 1) (v := ?_) rfl (by kernel_rfl) (by kernel_rfl) (by kernel_rfl) (fun _ _ _ h => h) (Or.inl ⟨by rfl, ?_⟩) K0 ?_
  rotate_left 1
  · intro W hSW; clear hSW; go_simp; try with_reducible rfl
  simp only [qA, qB, qC, Act.put, qD, qE, qF]
  refine wpAnyH_take (i := 2) (v := ?_) rfl (by kernel_rfl) (by kernel_rfl) (by kernel_rfl) (fun _ _ _ h => h) (Or.inl ⟨by rfl, ?_⟩) K0 ?_
  rotate_left 1
  · intro W hSW; clear hSW; go_simp; try with_reducible rfl
  simp only [qA, qB, qC, Act.put, qD, qE, qF]
  refine wpAnyH_take (i := 3) (v := ?_) rfl (by kernel_rfl) (by kernel_rfl) (by kernel_rfl) (fun _ _ _ h => h) (Or.inl ⟨by rfl, ?_⟩) K0 ?_
  rotate_left 1
  · intro W hSW; clear hSW; go_simp; try with_reducible rfl
  simp only [qA, qB, qC, Act.put, qD, qE, qF]
  refine wpAnyH_take (i := 4) (v := ?_) rfl (by kernel_rfl) (by kernel_rfl) (by kernel_rfl) (fun _ _ _ h => h) (Or.inl ⟨by rfl, ?_⟩) K0 ?_
  rotate_left 1
  · intro W hSW; have qc := hSW.2; clear hSW; go_simp; try with_reducible rfl
  simp only [qA, qB, qC, Act.put, qD, qE, qF]
  refine wpAnyH_take (i := 5) (v := ?_) rfl (by kernel_rfl) (by kernel_rfl) (by kernel_rfl) (fun _ _ _ h => h) (Or.inl ⟨by rfl, ?_⟩) K0 ?_
  rotate_left 1
  · intro W hSW; clear hSW; go_simp; try with_reducible rfl
  simp only [qA, qB, qC, Act.put, qD, qE, qF]
  refine wpAnyH_take (i := 6) (v := ?_) rfl (by kernel_rfl) (by kernel_rfl) (by kernel_rfl) (fun _ _ _ h => h) (Or.inl ⟨by rfl, ?_⟩) K0 ?_
  rotate_left 1
  · intro W hSW; have qc : W.cell? ⟨w.heap.size, 0, none⟩ = some (.int .i64 c) := hSW.1 0 _ rfl; clear hSW; go_simp; try with_reducible rfl
  simp only [qA, qB, qC, Act.put, qD, qE, qF]
  refine wpAnyH_ready (rs := [7]) (by kernel_rfl) (by simp) ?_
  refine AllReadyH.cons rfl (fun K' hK' => ?_) AllReadyH.nil
  rw [if_pos (by rfl)]
  go_simp
  refine (blast_any bk lm cc D c W3.drew (A3.out.book.drew.cells 2 _ rfl) A3.out.book.drew.lasts (by omega)).mono ?_
  rintro e' W4 ⟨x, rfl, hx, hw4⟩
  obtain rfl : W3.drew = W4 := hw4.symm
  obtain rfl : x = (i : Nat) := by rw [hl.1] at hx; simpa using hx.symm
  clear hw4 hx
  refine hK'.out _ _ K0 (fun _ => ?_)
  clear hK' K'
  try simp only [qA, qB, qC, Act.put, qD, qE, qF]
  refine wpAnyH_ready (rs := [8]) (by kernel_rfl) (by simp) ?_
  refine AllReadyH.cons rfl (fun K' hK' => ?_) AllReadyH.nil
  rw [if_pos (by rfl)]
  go_simp
  refine (hin W3.drew (B3.out.drew)).mono ?_
  rintro e' W5 ⟨s, rfl, hR, b5⟩
  have b5' : Below W3.heap.size W3 W5 := ((Below.refl W3.heap.size W3).drew).trans b5
  have s5 := b5'.size
  have A5 : Hid (Al K W5 z nd q bb N j u C l bk lm m cc ky lv L G F D) := A3.out.fresh b5'
  have K5 : W5.rangeAt w.heap.size 0 (rqCells c n o p v t) ∧ W5.cell? ⟨nd, 2, none⟩ = some (.pointer (some ⟨bk, 0, none⟩)) := ⟨range_kept (W := W3) K0.1 (Kept.fresh (S := fun _ => False) b5') (by omega) id, A5.out.node 2 _ rfl⟩
  have P5 : Hid (R W3.drew s W5) := hR
  have B5 : Hid (Below w.heap.size w W5) := B3.out.trans (b5'.mono B3.out.size)
  clear b5 b5' hR
  refine hK'.out _ _ K5 (fun _ => ?_)
  clear hK' K'
  try simp only [qA, qB, qC, Act.put, qD, qE, qF]
  refine wpAnyH_take (i := 9) (v := ?_) rfl (by kernel_rfl) (by kernel_rfl) (by kernel_rfl) (fun _ _ _ h => h) (Or.inl ⟨by rfl, ?_⟩) K5 ?_
  rotate_left 1
  · intro W hSW; clear hSW; go_simp; try with_reducible rfl
  simp only [qA, qB, qC, Act.put, qD, qE, qF]
  refine wpAnyH_take (i := 10) (v := ?_) rfl (by kernel_rfl) (by kernel_rfl) (by kernel_rfl) (fun _ _ _ h => h) (Or.inl ⟨by rfl, ?_⟩) K5 ?_
  rotate_left 1
  · intro W hSW; clear hSW; go_simp; try with_reducible rfl
  simp only [qA, qB, qC, Act.put, qD, qE, qF]
  refine ⟨by kernel_rfl, ?_⟩
  refine NoPanic.normal ?_
  try simp only [qA, qB, qC, Act.put, qD, qE, qF]
  go_wp2_with fail
  go_ret2
  exact ⟨W3.drew, s, B3.out.drew, rfl, P5.out, B5.out⟩
end Go.Proofs.YteglimjonofdeaaGreatDoor
set_option linter.unusedVariables false
set_option linter.unusedSimpArgs false
namespace Go.Proofs.YteglimjonofdeaaGreatDoor
open Go.RowKit

/-- What is seen of a node. -/
def stG (n a r ky : Int) : List Value := [.int .i64 n, .int .i64 a, .int .i64 r, .int .i64 ky]
theorem st_built (n a r ky : Int) : Tryz.prog.built 39 [(0, .int .i64 n), (1, .int .i64 a), (2, .int .i64 r), (3, .int .i64 ky)] = some (stG n a r ky).toArray := by kernel_rfl
theorem st_info (n a r ky : Int) : (Tryz.prog.info? 39).map (·.size) = some (stG n a r ky).length := by show _ = some 4; kernel_rfl
theorem st_one (n a r ky : Int) : ∀ u ∈ stG n a r ky, u.oneCell' = true := by intro u hu; simp [stG] at hu; rcases hu with rfl | rfl | rfl | rfl <;> rfl
set_option maxHeartbeats 400000 in
theorem bkeys_any (b : Nat) (k : Int) (w : World) (h : w.cell? ⟨b, 4, none⟩ = some (.int .i64 k)) :
    Calls Tryz.prog 65 #[.pointer (some ⟨b, 0, none⟩)] w fun e w' => e = .returned (.int .i64 k) ∧ w' = w := by
  go_enter Tryz.func65, Tryz.ntmps65
  go_wp2_with fail
  go_ret
  exact ⟨rfl, rfl⟩
theorem alloc_st (w : World) : (Instr.alloc 39 true (.tuple #[])).run Tryz.prog w = .ok (.pointer (some ⟨w.heap.size, 0, none⟩)) (w.alloc (.cells (stG 0 0 0 0).toArray 39)) := by kernel_rfl
set_option maxRecDepth 10000 in
set_option maxHeartbeats 2000000 in
theorem nsee_any (K : Nat → Int) (z : Nv) (nd q bb N j u : Nat) (C : Nat → List Int) (l : ByteArray) (bk lm m cc ky : Nat) (lv : Value) (L : List En) (G F : Nat → Prop) (D : DataW Unit) (es : Array MapEntry) (clock : Nat) (w : World) (h : Al K w z nd q bb N j u C l bk lm m cc ky lv L G F D) (hm : w.heap[m]? = some (.map es clock)) (hes : es.size < 1000) (hL : L.length ≤ 400) :
    Calls Tryz.prog 34 #[.pointer (some ⟨nd, 0, none⟩)] w fun e w' => e = .returned (.agg (stG (L.length : Nat) (ackOf z L.length) (es.size : Nat) (ky : Nat)).toArray) ∧ Below w.heap.size w w' := by
  obtain ⟨V, hV⟩ : ∃ V, V = w.alloc (.cells (stG 0 0 0 0).toArray 39) := ⟨_, rfl⟩
  have hVs : V.heap.size = w.heap.size + 1 := by rw [hV]; simp
  have bV : Below w.heap.size w V := by rw [hV]; exact (Below.refl _ _).alloc (Nat.le_refl _) _
  have TV : Hid (V.there w.heap.size 0 4) := by show World.there _ _ _ _; rw [hV]; exact there_new w (stG 0 0 0 0).toArray _
  have AV : Hid (Al K V z nd q bb N j u C l bk lm m cc ky lv L G F D) := h.fresh bV
  have BV : Hid (Below w.heap.size w V) := bV
  have HM : Hid (m < w.heap.size) := block_lt hm
  have HN : Hid (nd < w.heap.size) := h.nlt
  have HMV : Hid (V.heap[m]? = some (.map es clock)) := (bV.block m (block_lt hm)).trans hm
  have cf : V.cell? ⟨nd, 7, none⟩ = some (.bool false) := AV.out.node 7 _ rfl
  have J0 : V.drew.cell? ⟨nd, 2, none⟩ = some (.pointer (some ⟨bk, 0, none⟩)) := AV.out.node 2 _ rfl
  obtain ⟨sa, scap, hslv⟩ := h.book.slice
  clear h bV hm
  go_enter Tryz.func34, Tryz.ntmps34
  go_wp2_with (first
    | (refine wpList_alloc_of rfl 39 rfl (stG 0 0 0 0).toArray alloc_st ?_; rw [← hV]; clear hV))
  refine wp_region_noPanic ?_
  refine wp_region_held_drew (S := fun W => W.cell? ⟨nd, 2, none⟩ = some (.pointer (some ⟨bk, 0, none⟩))) (by kernel_rfl) J0 (fun _ => ?_)
  refine wpAnyH_take (i := 0) (v := ?_) rfl (by kernel_rfl) (by kernel_rfl) (by kernel_rfl) (fun _ _ _ h => h) (Or.inl ⟨by rfl, ?_⟩) J0 ?_
  rotate_left 1
  · intro W hSW; clear hSW; go_simp; try with_reducible rfl
  simp only [qA, qB, qC, Act.put, qD, qE, qF]
  refine wpAnyH_take (i := 1) (v := ?_) rfl (by kernel_rfl) (by kernel_rfl) (by kernel_rfl) (fun _ _ _ h => h) (Or.inl ⟨by rfl, ?_⟩) J0 ?_
  rotate_left 1
  · intro W hSW; clear hSW; go_simp; try with_reducible rfl
  simp only [qA, qB, qC, Act.put, qD, qE, qF]
  refine wpAnyH_take (i := 2) (v := ?_) rfl (by kernel_rfl) (by kernel_rfl) (by kernel_rfl) (fun _ _ _ h => h) (Or.inl ⟨by rfl, ?_⟩) J0 ?_
  rotate_left 1
  · intro W hSW; clear hSW; go_simp; try with_reducible rfl
  simp only [qA, qB, qC, Act.put, qD, qE, qF]
  refine wpAnyH_take (i := 3) (v := ?_) rfl (by kernel_rfl) (by kernel_rfl) (by kernel_rfl) (fun _ _ _ h => h) (Or.inl ⟨by rfl, ?_⟩) J0 ?_
  rotate_left 1
  · intro W hSW; have qc := hSW; clear hSW; go_simp; try with_reducible rfl
  simp only [qA, qB, qC, Act.put, qD, qE, qF]
  refine wpAnyH_take (i := 5) (v := ?_) rfl (by kernel_rfl) (by kernel_rfl) (by kernel_rfl) (fun _ _ _ h => h) (Or.inl ⟨by rfl, ?_⟩) J0 ?_
  rotate_left 1
  · intro W hSW; clear hSW; go_simp; try with_reducible rfl
  simp only [qA, qB, qC, Act.put, qD, qE, qF]
  refine wpAnyH_take (i := 7) (v := ?_) rfl (by kernel_rfl) (by kernel_rfl) (by kernel_rfl) (fun _ _ _ h => h) (Or.inl ⟨by rfl, ?_⟩) J0 ?_
  rotate_left 1
  · intro W hSW; clear hSW; go_simp; try with_reducible rfl
  simp only [qA, qB, qC, Act.put, qD, qE, qF]
  refine wpAnyH_take (i := 8) (v := ?_) rfl (by kernel_rfl) (by kernel_rfl) (by kernel_rfl) (fun _ _ _ h => h) (Or.inl ⟨by rfl, ?_⟩) J0 ?_
  rotate_left 1
  · intro W hSW; clear hSW; go_simp; try with_reducible rfl
  simp only [qA, qB, qC, Act.put, qD, qE, qF]
  refine wpAnyH_take (i := 9) (v := ?_) rfl (by kernel_rfl) (by kernel_rfl) (by kernel_rfl) (fun _ _ _ h => h) (Or.inl ⟨by rfl, ?_⟩) J0 ?_
  rotate_left 1
  · intro W hSW; clear hSW; go_simp; try with_reducible rfl
  simp only [qA, qB, qC, Act.put, qD, qE, qF]
  refine wpAnyH_take (i := 10) (v := ?_) rfl (by kernel_rfl) (by kernel_rfl) (by kernel_rfl) (fun _ _ _ h => h) (Or.inl ⟨by rfl, ?_⟩) J0 ?_
  rotate_left 1
  · intro W hSW; have qc := hSW; clear hSW; go_simp; try with_reducible rfl
  simp only [qA, qB, qC, Act.put, qD, qE, qF]
  refine wpAnyH_take (i := 12) (v := ?_) rfl (by kernel_rfl) (by kernel_rfl) (by kernel_rfl) (fun _ _ _ h => h) (Or.inl ⟨by rfl, ?_⟩) J0 ?_
  rotate_left 1
  · intro W hSW; clear hSW; go_simp; try with_reducible rfl
  simp only [qA, qB, qC, Act.put, qD, qE, qF]
  refine wpAnyH_take (i := 13) (v := ?_) rfl (by kernel_rfl) (by kernel_rfl) (by kernel_rfl) (fun _ _ _ h => h) (Or.inl ⟨by rfl, ?_⟩) J0 ?_
  rotate_left 1
  · intro W hSW; clear hSW; go_simp; try with_reducible rfl
  simp only [qA, qB, qC, Act.put, qD, qE, qF]
  refine wpAnyH_take (i := 14) (v := ?_) rfl (by kernel_rfl) (by kernel_rfl) (by kernel_rfl) (fun _ _ _ h => h) (Or.inl ⟨by rfl, ?_⟩) J0 ?_
  rotate_left 1
  · intro W hSW; clear hSW; go_simp; try with_reducible rfl
  simp only [qA, qB, qC, Act.put, qD, qE, qF]
  refine wpAnyH_take (i := 15) (v := ?_) rfl (by kernel_rfl) (by kernel_rfl) (by kernel_rfl) (fun _ _ _ h => h) (Or.inl ⟨by rfl, ?_⟩) J0 ?_
  rotate_left 1
  · intro W hSW; have qc := hSW; clear hSW; go_simp; try with_reducible rfl
  simp only [qA, qB, qC, Act.put, qD, qE, qF]
  refine wpAnyH_ready (rs := [4]) (by kernel_rfl) (by simp) ?_
  refine AllReadyH.cons rfl (fun K' hK' => ?_) AllReadyH.nil
  rw [if_pos (by rfl)]
  have hen := bentries_any bk sa L.length scap V.drew (by rw [← hslv]; exact AV.out.book.drew.cells 1 _ rfl)
  go_simp
  refine hen.mono ?_
  rintro e W1 ⟨rfl, hw1⟩
  obtain rfl : V.drew = W1 := hw1.symm
  clear hw1 hen
  refine hK'.out _ _ J0 (fun _ => ?_)
  clear hK' K'
  try simp only [qA, qB, qC, Act.put, qD, qE, qF]
  refine wpAnyH_ready (rs := [6]) (by kernel_rfl) (by simp) ?_
  refine AllReadyH.cons rfl (fun K' hK' => ?_) AllReadyH.nil
  rw [if_pos (by rfl)]
  go_simp
  refine (acked_any z nd bk j lm m cc ky lv L G F D V.drew (AV.out.fresh (Below.refl _ _).drew).node AV.out.nlt AV.out.book.drew).mono ?_
  rintro e W2 ⟨rfl, hb2⟩
  have b2 : Below V.heap.size V W2 := ((Below.refl V.heap.size V).drew).trans hb2
  have s2 := b2.size
  have A2 : Hid (Al K W2 z nd q bb N j u C l bk lm m cc ky lv L G F D) := AV.out.fresh b2
  have J2 : W2.cell? ⟨nd, 2, none⟩ = some (.pointer (some ⟨bk, 0, none⟩)) := A2.out.node 2 _ rfl
  have T2 : W2.there w.heap.size 0 (stG (L.length : Nat) (ackOf z L.length) (es.size : Nat) (ky : Nat)).length := there_below b2 (by omega) TV.out
  have B2 : Hid (Below w.heap.size w W2) := BV.out.trans (b2.mono (by omega))
  have hr2 : W2.heap[m]? = some (.map es clock) := (b2.block m (by have := HM.out; omega)).trans HMV.out
  clear hb2 b2
  refine hK'.out _ _ J2 (fun _ => ?_)
  clear hK' K'
  try simp only [qA, qB, qC, Act.put, qD, qE, qF]
  refine wpAnyH_ready (rs := [11]) (by kernel_rfl) (by simp) ?_
  refine AllReadyH.cons rfl (fun K' hK' => ?_) AllReadyH.nil
  rw [if_pos (by rfl)]
  have hrec := brecords_any bk m es clock W2 (A2.out.book.cells 3 _ rfl) hr2 (by omega)
  go_simp
  refine hrec.mono ?_
  rintro e W3 ⟨rfl, hw3⟩
  obtain rfl : W2 = W3 := hw3.symm
  clear hw3 hrec
  refine hK'.out _ _ J2 (fun _ => ?_)
  clear hK' K'
  try simp only [qA, qB, qC, Act.put, qD, qE, qF]
  refine wpAnyH_ready (rs := [16]) (by kernel_rfl) (by simp) ?_
  refine AllReadyH.cons rfl (fun K' hK' => ?_) AllReadyH.nil
  rw [if_pos (by rfl)]
  have hky := bkeys_any bk (ky : Nat) W2 (A2.out.book.cells 4 _ rfl)
  go_simp
  refine hky.mono ?_
  rintro e W4 ⟨rfl, hw4⟩
  obtain rfl : W2 = W4 := hw4.symm
  clear hw4 hky
  refine hK'.out _ _ J2 (fun _ => ?_)
  clear hK' K'
  try simp only [qA, qB, qC, Act.put, qD, qE, qF]
  refine wpAnyH_take (i := 17) (v := .agg (stG (L.length : Nat) (ackOf z L.length) (es.size : Nat) (ky : Nat)).toArray) rfl (by kernel_rfl) (by kernel_rfl) (by kernel_rfl) (fun _ _ _ h => h) (yieldsIf_build (by rfl) 39 _ rfl (stG (L.length : Nat) (ackOf z L.length) (es.size : Nat) (ky : Nat)).toArray (Eq.trans (congrArg (Tryz.prog.built _) (by simp [Act.eval])) (st_built _ _ _ _))) J2 ?_
  simp only [qA, qB, qC, Act.put, qD, qE, qF]
  refine wpAnyH_ready (rs := [18]) (by kernel_rfl) (by simp) ?_
  refine AllReadyH.cons rfl (fun K' hK' => ?_) AllReadyH.nil
  rw [if_pos (by rfl)]
  refine wp_store_abs 39 _ _ rfl w.heap.size 0 (stG (L.length : Nat) (ackOf z L.length) (es.size : Nat) (ky : Nat)) rfl rfl T2 (st_info _ _ _ _) (st_one _ _ _ _) ?_
  intro W6 hw6 hr6 _ht6 hb6
  have J6 : W6.cell? ⟨nd, 2, none⟩ = some (.pointer (some ⟨bk, 0, none⟩)) := by
    have k6 : Kept (· = w.heap.size) W2 W6 := by rw [hw6]; exact Kept.setCells _ _ _ _ (Or.inl rfl)
    exact (k6.cell (a := ⟨nd, 2, none⟩) A2.out.nlt (by show ¬ nd = w.heap.size; have := HN.out; omega)).trans J2
  have B6 : Below w.heap.size w W6 := B2.out.trans (hb6 w.heap.size (Nat.le_refl _))
  clear _ht6 hw6 hb6
  refine hK'.out _ _ J6 (fun _ => ?_)
  clear hK' K'
  try simp only [qA, qB, qC, Act.put, qD, qE, qF]
  refine ⟨by kernel_rfl, ?_⟩
  refine NoPanic.normal ?_
  try simp only [qA, qB, qC, Act.put, qD, qE, qF]
  go_wp2_with fail
  exact ret_cell rfl w.heap.size 0 (stG (L.length : Nat) (ackOf z L.length) (es.size : Nat) (ky : Nat)) _ rfl hr6 Tryz.underlying39 rfl (st_info _ _ _ _) rfl ⟨rfl, B6⟩

set_option maxRecDepth 10000 in
set_option maxHeartbeats 1000000 in
theorem dsee_any (K : Nat → Int) (z : Nv) (nd q bb N j u : Nat) (C : Nat → List Int) (l : ByteArray) (bk lm m cc ky : Nat) (lv : Value) (L : List En) (G F : Nat → Prop) (D : DataW Unit) (es : Array MapEntry) (clock xn : Nat) (w : World) (h : Al K w z nd q bb N j u C l bk lm m cc ky lv L G F D) (hx : w.cell? ⟨xn, 0, none⟩ = some (.pointer (some ⟨nd, 0, none⟩))) (hxl : xn < w.heap.size) (hm : w.heap[m]? = some (.map es clock)) (hes : es.size < 1000) (hL : L.length ≤ 400) :
    Calls Tryz.prog 10 #[.pointer (some ⟨xn, 0, none⟩)] w fun e w' => e = .returned (.agg (stG (L.length : Nat) (ackOf z L.length) (es.size : Nat) (ky : Nat)).toArray) ∧ Below w.heap.size w w' := by
  obtain ⟨V, hV⟩ : ∃ V, V = w.alloc (.cells (stG 0 0 0 0).toArray 39) := ⟨_, rfl⟩
  have hVs : V.heap.size = w.heap.size + 1 := by rw [hV]; simp
  have bV : Below w.heap.size w V := by rw [hV]; exact (Below.refl _ _).alloc (Nat.le_refl _) _
  have TV : Hid (V.there w.heap.size 0 4) := by show World.there _ _ _ _; rw [hV]; exact there_new w (stG 0 0 0 0).toArray _
  have BV : Hid (Below w.heap.size w V) := bV
  have cx : V.cell? ⟨xn, 0, none⟩ = some (.pointer (some ⟨nd, 0, none⟩)) := (bV.cell (p := ⟨xn, 0, none⟩) hxl).trans hx
  have hs := nsee_any K z nd q bb N j u C l bk lm m cc ky lv L G F D es clock V (h.fresh bV) ((bV.block m (block_lt hm)).trans hm) hes hL
  have HI := st_info (L.length : Nat) (ackOf z L.length) (es.size : Nat) (ky : Nat)
  have HO := st_one (L.length : Nat) (ackOf z L.length) (es.size : Nat) (ky : Nat)
  clear h bV hm hx
  go_enter Tryz.func10, Tryz.ntmps10
  go_wp2_with (first
    | (refine wpList_alloc_of rfl 39 rfl (stG 0 0 0 0).toArray alloc_st ?_; rw [← hV]; clear hV))
  refine hs.mono ?_
  rintro e W1 ⟨rfl, hb1⟩
  have T1 : W1.there w.heap.size 0 (stG (L.length : Nat) (ackOf z L.length) (es.size : Nat) (ky : Nat)).length := there_below hb1 (by omega) TV.out
  have B1 : Hid (Below w.heap.size w W1) := BV.out.trans (hb1.mono (by omega))
  clear hs hb1
  go_wp2_with (first
    | (refine wpList_store_abs rfl 39 _ _ rfl w.heap.size 0 (stG (L.length : Nat) (ackOf z L.length) (es.size : Nat) (ky : Nat)) rfl rfl T1 HI HO ?_
       intro w5 _hw5 hr5 _ht5 hb5
       clear _hw5 _ht5))
  exact ret_cell rfl w.heap.size 0 (stG (L.length : Nat) (ackOf z L.length) (es.size : Nat) (ky : Nat)) _ rfl hr5 Tryz.underlying39 rfl HI rfl ⟨rfl, B1.out.trans (hb5 w.heap.size (Nat.le_refl _))⟩

set_option maxRecDepth 10000 in
set_option maxHeartbeats 1000000 in
/-- The door Request: what the node inside answers. -/
theorem dreq_any (xn nd : Nat) (c n o p v : Int) (t : ByteArray) (R : World → Value → Value → World → Prop) (Sx : Nat → Prop) (w : World) (hx : w.cell? ⟨xn, 0, none⟩ = some (.pointer (some ⟨nd, 0, none⟩))) (hxl : xn < w.heap.size) (hnx : ¬ Sx xn) (hlt : ∀ g, Sx g → g < w.heap.size)
    (hin : ∀ W, Below w.heap.size w W → Calls Tryz.prog 33 #[.pointer (some ⟨nd, 0, none⟩), .agg (rqCells c n o p v t).toArray] W fun e w' => ∃ s r, e = .returned (.tuple #[s, r]) ∧ R W s r w' ∧ Kept Sx W w') :
    Calls Tryz.prog 9 #[.pointer (some ⟨xn, 0, none⟩), .agg (rqCells c n o p v t).toArray] w fun e w' => ∃ W s r, Below w.heap.size w W ∧ e = .returned (.tuple #[s, r]) ∧ R W s r w' := by
  obtain ⟨V, hV⟩ : ∃ V, V = w.alloc (.cells (rqCells c n o p v t).toArray 29) := ⟨_, rfl⟩
  have hVs : V.heap.size = w.heap.size + 1 := by rw [hV]; simp
  have bV : Below w.heap.size w V := by rw [hV]; exact (Below.refl _ _).alloc (Nat.le_refl _) _
  have rV : V.rangeAt w.heap.size 0 (rqCells c n o p v t) := by rw [hV]; exact range_new _ _ _
  have BV : Hid (Below w.heap.size w V) := bV
  have HQ : Hid ((Tryz.prog.info? 29).map (·.size) = some (rqCells c n o p v t).length) := info_rq c n o p v t
  have HLT : Hid (∀ g, Sx g → g < w.heap.size) := hlt
  have J0 : V.drew.rangeAt w.heap.size 0 (rqCells c n o p v t) ∧ V.drew.cell? ⟨xn, 0, none⟩ = some (.pointer (some ⟨nd, 0, none⟩)) := ⟨rV, (bV.cell (p := ⟨xn, 0, none⟩) hxl).trans hx⟩
  have hVV : w.alloc (.cells (rqCells c n o p v t).toArray 29) = V := hV.symm
  clear bV rV hV hx hlt
  go_enter Tryz.func9, Tryz.ntmps9
  go_wp2_with fail
  try rw [hVV]
  clear hVV
  refine wp_region_noPanic ?_
  refine wp_region_held_drew (S := fun W => W.rangeAt w.heap.size 0 (rqCells c n o p v t) ∧ W.cell? ⟨xn, 0, none⟩ = some (.pointer (some ⟨nd, 0, none⟩))) (by kernel_rfl) J0 (fun _ => ?_)
  refine wpAnyH_take (i := 0) (v := ?_) rfl (by kernel_rfl) (by kernel_rfl) (by kernel_rfl) (fun _ _ _ h => h) (Or.inl ⟨by rfl, ?_⟩) J0 ?_
  rotate_left 1
  · intro W hSW; clear hSW; go_simp; try with_reducible rfl
  simp only [qA, qB, qC, Act.put, qD, qE, qF]
  refine wpAnyH_take (i := 1) (v := ?_) rfl (by kernel_rfl) (by kernel_rfl) (by kernel_rfl) (fun _ _ _ h => h) (Or.inl ⟨by rfl, ?_⟩) J0 ?_
  rotate_left 1
  · intro W hSW; clear hSW; go_simp; try with_reducible rfl
  simp only [qA, qB, qC, Act.put, qD, qE, qF]
  refine wpAnyH_take (i := 2) (v := ?_) rfl (by kernel_rfl) (by kernel_rfl) (by kernel_rfl) (fun _ _ _ h => h) (Or.inl ⟨by rfl, ?_⟩) J0 ?_
  rotate_left 1
  · intro W hSW; clear hSW; go_simp; try with_reducible rfl
  simp only [qA, qB, qC, Act.put, qD, qE, qF]
  refine wpAnyH_take (i := 3) (v := ?_) rfl (by kernel_rfl) (by kernel_rfl) (by kernel_rfl) (fun _ _ _ h => h) (Or.inl ⟨by rfl, ?_⟩) J0 ?_
  rotate_left 1
  · intro W hSW; have qc := hSW.2; clear hSW; go_simp; try with_reducible rfl
  simp only [qA, qB, qC, Act.put, qD, qE, qF]
  refine wpAnyH_take (i := 4) (v := .agg ((rqCells c n o p v t)).toArray) rfl (by kernel_rfl) (by kernel_rfl) (by kernel_rfl) (fun _ _ _ h => h) (yieldsIf_load_mid (by rfl) 29 _ rfl w.heap.size 0 rfl ((rqCells c n o p v t)) _ (fun W hW => hW.1) Tryz.underlying29 rfl HQ.out) J0 ?_
  simp only [qA, qB, qC, Act.put, qD, qE, qF]
  refine wpAnyH_ready (rs := [5]) (by kernel_rfl) (by simp) ?_
  refine AllReadyH.cons rfl (fun K' hK' => ?_) AllReadyH.nil
  rw [if_pos (by rfl)]
  go_simp
  refine (hin V.drew (BV.out.drew)).mono ?_
  rintro e W1 ⟨s, r, rfl, hR, k1⟩
  have s1 := k1.size
  have J1 : W1.rangeAt w.heap.size 0 (rqCells c n o p v t) ∧ W1.cell? ⟨xn, 0, none⟩ = some (.pointer (some ⟨nd, 0, none⟩)) := ⟨range_kept J0.1 k1 (by show _ < V.heap.size; omega) (fun e => by have := HLT.out _ e; omega), (k1.cell (a := ⟨xn, 0, none⟩) (by show xn < V.heap.size; omega) hnx).trans J0.2⟩
  have HR : Hid (R V.drew s r W1) := hR
  clear hR k1
  refine hK'.out _ _ J1 (fun _ => ?_)
  clear hK' K'
  try simp only [qA, qB, qC, Act.put, qD, qE, qF]
  refine wpAnyH_take (i := 6) (v := ?_) rfl (by kernel_rfl) (by kernel_rfl) (by kernel_rfl) (fun _ _ _ h => h) (Or.inl ⟨by rfl, ?_⟩) J1 ?_
  rotate_left 1
  · intro W hSW; clear hSW; go_simp; try with_reducible rfl
  simp only [qA, qB, qC, Act.put, qD, qE, qF]
  refine wpAnyH_take (i := 7) (v := ?_) rfl (by kernel_rfl) (by kernel_rfl) (by kernel_rfl) (fun _ _ _ h => h) (Or.inl ⟨by rfl, ?_⟩) J1 ?_
  rotate_left 1
  · intro W hSW; clear hSW; go_simp; try with_reducible rfl
  simp only [qA, qB, qC, Act.put, qD, qE, qF]
  refine wpAnyH_take (i := 8) (v := ?_) rfl (by kernel_rfl) (by kernel_rfl) (by kernel_rfl) (fun _ _ _ h => h) (Or.inl ⟨by rfl, ?_⟩) J1 ?_
  rotate_left 1
  · intro W hSW; clear hSW; go_simp; try with_reducible rfl
  simp only [qA, qB, qC, Act.put, qD, qE, qF]
  refine wpAnyH_take (i := 9) (v := ?_) rfl (by kernel_rfl) (by kernel_rfl) (by kernel_rfl) (fun _ _ _ h => h) (Or.inl ⟨by rfl, ?_⟩) J1 ?_
  rotate_left 1
  · intro W hSW; clear hSW; go_simp; try with_reducible rfl
  simp only [qA, qB, qC, Act.put, qD, qE, qF]
  refine ⟨by kernel_rfl, ?_⟩
  refine NoPanic.normal ?_
  try simp only [qA, qB, qC, Act.put, qD, qE, qF]
  go_wp2_with fail
  go_ret2
  exact ⟨V.drew, s, r, BV.out.drew, rfl, HR.out⟩
end Go.Proofs.YteglimjonofdeaaGreatDoor
