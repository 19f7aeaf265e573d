import Derived.Test.YteglimjonofdeaaGreatDoorNTakeM
set_option linter.unusedVariables false
set_option linter.unusedSimpArgs false
namespace Go.Proofs.YteglimjonofdeaaGreatDoor
open Go.RowKit

set_option maxRecDepth 10000 in
set_option maxHeartbeats 4000000 in
theorem req_new (K : Nat → Int) (z : Nv) (nd q bb N j u : Nat) (C : Nat → List Int) (l : ByteArray) (bk lm m cc ky : Nat) (lv : Value) (L : List En) (G F : Nat → Prop) (D : DataW Unit) (c n o p v : Int) (t : ByteArray) (no : Int) (i : Nat) (w : World) (h : Al K w z nd q bb N j u C l bk lm m cc ky lv L G F D) (hz : z.r = 0) (hw : rqWhole c n o p v t = true) (hl : lastIs L D c no i) (hL : L.length ≤ 400) (hno : no < n) (R : World → Value → Value → World → Prop) (hin : ∀ W, Below w.heap.size w W → Calls Tryz.prog 61 #[.pointer (some ⟨nd, 0, none⟩), .agg (rqCells c n o p v t).toArray] W fun e w' => ∃ s r, e = .returned (.tuple #[s, r]) ∧ R W s r w') :
    Calls Tryz.prog 33 #[.pointer (some ⟨nd, 0, none⟩), .agg (rqCells c n o p v t).toArray] w fun e w' => ∃ W s r, Below w.heap.size w W ∧ e = .returned (.tuple #[s, r]) ∧ R W s r w' := by
  obtain ⟨⟨c1, c9⟩, ⟨n1, n9⟩, _, _, _, ht8⟩ := rq_bounds hw
  obtain ⟨V, hV⟩ : ∃ V, V = w.alloc (.cells (rqCells c n o p v t).toArray 29) := ⟨_, rfl⟩
  have hVs : V.heap.size = w.heap.size + 1 := by rw [hV]; simp
  have bV : Below w.heap.size w V := by rw [hV]; exact (Below.refl _ _).alloc (Nat.le_refl _) _
  have rV : V.rangeAt w.heap.size 0 (rqCells c n o p v t) := by rw [hV]; exact range_new _ _ _
  have AV := h.fresh bV
  have HAV : Hid (Al K V z nd q bb N j u C l bk lm m cc ky lv L G F D) := AV
  have HBV : Hid (Below w.heap.size w V) := bV
  have HRV : Hid (V.rangeAt w.heap.size 0 (rqCells c n o p v t)) := rV
  have HQ : Hid ((Tryz.prog.info? 29).map (·.size) = some (rqCells c n o p v t).length) := info_rq c n o p v t
  have cf : V.cell? ⟨nd, 7, none⟩ = some (.bool false) := AV.node 7 _ rfl
  have hp := nd_place AV.node
  have hpl := info_pl z
  have hfi := first_any z V
  rw [decide_eq_true hz] at hfi
  have HNL : Hid (nd < w.heap.size) := h.nlt
  clear h AV bV rV hz
  go_enter Tryz.func33, Tryz.ntmps33
  unfold rqCells at hV
  unfold rqCells
  go_wp2_with (first
    | (rw [← hV]; clear hV)
    | (refine wpList_load_mid rfl 108 _ rfl nd 0 rfl (plL z) _ hp Tryz.underlying108 rfl hpl ?_))
  refine hfi.mono ?_
  rintro e W1 ⟨rfl, hb1⟩
  have s1 := hb1.size
  have A1 : Hid (Al K W1 z nd q bb N j u C l bk lm m cc ky lv L G F D) := HAV.out.fresh hb1
  have r1 : W1.rangeAt w.heap.size 0 (rqCells c n o p v t) := range_kept HRV.out (Kept.fresh (S := fun _ => False) hb1) (by omega) id
  have B1 : Hid (Below w.heap.size w W1) := HBV.out.trans (hb1.mono (by omega))
  have hwh := ewhole_any c n o p v t W1 (by omega)
  rw [hw] at hwh
  clear hb1 hp cf hfi
  go_wp2_with (first
    | (refine wpList_load_mid rfl 29 _ rfl w.heap.size 0 rfl (rqCells c n o p v t) _ r1 Tryz.underlying29 rfl HQ.out ?_))
  refine hwh.mono ?_
  rintro e W2 ⟨rfl, hb2⟩
  have s2 := hb2.size
  have A2 : Hid (Al K W2 z nd q bb N j u C l bk lm m cc ky lv L G F D) := A1.out.fresh hb2
  have J0 : W2.drew.rangeAt w.heap.size 0 (rqCells c n o p v t) ∧ W2.drew.cell? ⟨nd, 2, none⟩ = some (.pointer (some ⟨bk, 0, none⟩)) := ⟨(range_kept r1 (Kept.fresh (S := fun _ => False) hb2) (by omega) id : W2.rangeAt _ _ _), A2.out.node 2 _ rfl⟩
  have B2 : Hid (Below w.heap.size w W2) := B1.out.trans (hb2.mono (by omega))
  clear hb2 hwh r1
  go_wp2_with fail
  refine wp_region_noPanic ?_
  refine wp_region_held_drew (S := fun W => W.rangeAt w.heap.size 0 (rqCells c n o p v t) ∧ W.cell? ⟨nd, 2, none⟩ = some (.pointer (some ⟨bk, 0, none⟩))) (by kernel_rfl) J0 (fun _ => ?_)
  refine tk 0 J0 ?_
  refine tk 1 J0 ?_
  refine tk 2 J0 ?_
  refine tq (i := 3) (v := ?_) rfl J0 ?_ ?_
  rotate_left 1
  · intro W hSW; have qc := hSW.2; clear hSW; go_simp; try with_reducible rfl
  simp only [qA, qB, qC, Act.put, qD, qE, qF]
  refine tk 4 J0 ?_
  refine tq (i := 5) (v := ?_) rfl J0 ?_ ?_
  rotate_left 1
  · intro W hSW; have qc : W.cell? ⟨w.heap.size, 0, none⟩ = some (.int .i64 c) := hSW.1 0 _ rfl; clear hSW; go_simp; try with_reducible rfl
  simp only [qA, qB, qC, Act.put, qD, qE, qF]
  refine rk 6 (fun K' hK' => ?_)
  go_simp
  refine (lastno_any bk j lm m cc ky lv L G F D c no i W2.drew A2.out.book.drew (by omega) hl (by omega)).mono ?_
  rintro e W3 ⟨rfl, hb3⟩
  have b3 : Below W2.heap.size W2 W3 := ((Below.refl W2.heap.size W2).drew).trans hb3
  have s3 := b3.size
  have A3 : Hid (Al K W3 z nd q bb N j u C l bk lm m cc ky lv L G F D) := A2.out.fresh b3
  have J3 : W3.rangeAt w.heap.size 0 (rqCells c n o p v t) ∧ W3.cell? ⟨nd, 2, none⟩ = some (.pointer (some ⟨bk, 0, none⟩)) := ⟨range_kept (W := W2) J0.1 (Kept.fresh (S := fun _ => False) b3) (by omega) id, A3.out.node 2 _ rfl⟩
  have B3 : Hid (Below w.heap.size w W3) := B2.out.trans (b3.mono (by omega))
  clear hb3 b3
  refine hK'.out _ _ J3 (fun _ => ?_)
  clear hK' K'
  try simp only [qA, qB, qC, Act.put, qD, qE, qF]
  refine tk 7 J3 ?_
  refine ⟨by kernel_rfl, ?_⟩
  refine NoPanic.normal ?_
  try simp only [qA, qB, qC, Act.put, qD, qE, qF]
  have c1n : W3.cell? ⟨w.heap.size, 1, none⟩ = some (.int .i64 n) := J3.1 1 _ rfl
  have h1 : ¬ n < no := by omega
  have h2 : ¬ n = no := by omega
  have htk := hin W3 B3.out
  clear hin
  go_wp2_with (first
    | (refine wpList_load_mid rfl 29 _ rfl w.heap.size 0 rfl (rqCells c n o p v t) _ J3.1 Tryz.underlying29 rfl HQ.out ?_))
  refine htk.mono ?_
  rintro e W4 ⟨s, r, rfl, hR⟩
  have HR : Hid (R W3 s r W4) := hR
  clear hR htk
  go_wp2_with fail
  go_ret2
  exact ⟨W3, s, r, B3.out, rfl, HR.out⟩

end Go.Proofs.YteglimjonofdeaaGreatDoor
