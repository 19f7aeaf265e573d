import Derived.Test.YteglimjonofdeaaGreatDoorNRec6M
set_option linter.unusedVariables false
set_option linter.unusedSimpArgs false
namespace Go.Proofs.YteglimjonofdeaaGreatDoor
open Go.RowKit

theorem en_built (c n o p v : Int) (t : ByteArray) (k vv : Int) (tt : ByteArray) : Tryz.prog.built 168 [(0, .agg (rqCells c n o p v t).toArray), (1, .agg (anCells k vv tt).toArray)] = some (enCells c n o p v t k vv tt).toArray := by kernel_rfl
theorem rq_built (c n o p v : Int) (t : ByteArray) : Tryz.prog.built 29 [(0, .int .i64 c), (1, .int .i64 n), (2, .int .i64 o), (3, .int .i64 p), (4, .int .i64 v), (5, .string t)] = some (rqCells c n o p v t).toArray := by kernel_rfl
theorem rq_one (c n o p v : Int) (t : ByteArray) : ∀ u ∈ rqCells c n o p v t, u.oneCell' = true := by intro u hu; simp [rqCells] at hu; rcases hu with rfl | rfl | rfl | rfl | rfl | rfl <;> rfl
theorem yieldsIf_build {ops : Array Oper} {S : World → Prop} {op : Oper} {a : Act} (hw : Region.wanted op (yielded ops a.tmps) = true) (t : TypeId) (parts : Array (Nat × Operand)) (ho : op.op = .build t parts) (cells : Array Value)
    (hf : Tryz.prog.built t (parts.map fun (i, x) => (i, a.eval x)).toList = some cells) : YieldsIf Tryz.prog ops S op (.agg cells) a :=
  .inl ⟨hw, fun w _ => by
    unfold execOp
    simp only [ho, Sem.run_bind, run_build w t _ cells hf, Result.andThen_ok]; rfl⟩
theorem info_enT : ∃ i, Tryz.prog.info? 168 = some i ∧ i.zero = some (.agg (enCells 0 0 0 0 0 ⟨#[]⟩ 0 0 ⟨#[]⟩).toArray) ∧ i.size = 9 ∧ i.bytes = 88 := by
  obtain ⟨i, hi⟩ : ∃ i, Tryz.prog.info? 168 = some i := Option.isSome_iff_exists.1 (by kernel_rfl)
  refine ⟨i, hi, ?_, ?_, ?_⟩
  · have : (Tryz.prog.info? 168).bind (·.zero) = some (.agg (enCells 0 0 0 0 0 ⟨#[]⟩ 0 0 ⟨#[]⟩).toArray) := by kernel_rfl
    rw [hi] at this; exact this
  · have : (Tryz.prog.info? 168).map (·.size) = some 9 := by kernel_rfl
    rw [hi] at this; exact Option.some.inj this
  · have : (Tryz.prog.info? 168).map (·.bytes) = some 88 := by kernel_rfl
    rw [hi] at this; exact Option.some.inj this
theorem World.rangeAt_lt {W : World} {b : Nat} {x : Value} {xs : List Value} (h : W.rangeAt b 0 (x :: xs)) : b < W.heap.size := by
  have := h 0 x rfl
  rcases Nat.lt_or_ge b W.heap.size with h1 | h1
  · exact h1
  · simp [World.cell?, Array.getElem?_eq_none h1] at this
/-- What add leaves. -/
def addPost (bk j lm m cc ky : Nat) (lv : Value) (L : List En) (G F : Nat → Prop) (D : DataW Unit) (c n o p v : Int) (t : ByteArray) (w : World) (e : Ending) (w' : World) : Prop :=
  ∃ (lv' : Value) (G' F' : Nat → Prop) (k vv : Int) (tt : ByteArray), e = .returned (.tuple #[]) ∧ BookAt w' bk j lm m (cc + 3) ky lv' (L ++ [⟨c, n, o, p, v, t, k, vv, tt⟩]) G' F' (D.put (.int .i64 c) (.lit (.int .i64 ((L.length + 1 : Nat) : Int)))) ∧ Kept (bkOwn bk lm lv G) w w' ∧ ∀ g, bkOwn bk lm lv' G' g → bkOwn bk lm lv G g ∨ w.heap.size ≤ g

set_option maxRecDepth 10000 in
set_option maxHeartbeats 4000000 in
theorem badd_any (bk j lm m cc ky : Nat) (lv : Value) (L : List En) (G F : Nat → Prop) (D : DataW Unit) (c n o p v : Int) (t : ByteArray) (w : World) (h : BookAt w bk j lm m cc ky lv L G F D) (hw : rqWhole c n o p v t = true) (hL : L.length ≤ 400) (hcc : cc < 800) :
    Calls Tryz.prog 144 #[.pointer (some ⟨bk, 0, none⟩), .agg (rqCells c n o p v t).toArray] w (addPost bk j lm m cc ky lv L G F D c n o p v t w) := by
  obtain ⟨⟨c1, c2⟩, ⟨n1, n2⟩, ho, ⟨p1, p2⟩, hv, ht⟩ := rq_bounds hw
  have hp : 0 ≤ p ∧ p < 1000 := by omega
  have hc' : 0 ≤ c ∧ c ≤ 9 := by omega
  have hn' : 0 ≤ n ∧ n ≤ 2147483647 := by omega
  obtain ⟨i0, hi9, hz9, hs9, hb9⟩ := info_enT
  obtain ⟨V, hV⟩ : ∃ V, V = w.alloc (.cells (rqCells c n o p v t).toArray 29) := ⟨_, rfl⟩
  have hVs : V.heap.size = w.heap.size + 1 := by rw [hV]; simp
  have kV : Kept (fun _ => False) w V := by rw [hV]; exact Kept.alloc _ _ _
  have rV : V.rangeAt w.heap.size 0 (rqCells c n o p v t) := by rw [hV]; exact range_new _ _ _
  have kD : Kept (fun _ => False) w V.drew := kV.trans (Kept.drew _ V) (fun _ _ h => h)
  have BD : Hid (BookAt V.drew bk j lm m cc ky lv L G F D) := h.kept kD (fun _ _ => id)
  have HKD : Hid (Kept (fun _ => False) w V.drew) := kD
  have HG : Hid (∀ g, G g → g < w.heap.size) := h.recs.lts
  have HLV : Hid (∀ g, lv.ownBlock = some g → g < w.heap.size) := fun g hg => (h.log.lt g hg).2
  have HBK : Hid (bk < w.heap.size) := h.lt
  have HLM : Hid (lm < w.heap.size) := h.lasts.lt
  have HNB : Hid (¬ lv.ownBlock = some bk) := fun e => (h.logs bk e).1 rfl
  have HQ : Hid ((Tryz.prog.info? 29).map (·.size) = some (rqCells c n o p v t).length) := info_rq c n o p v t
  have J0 : V.drew.rangeAt w.heap.size 0 (rqCells c n o p v t) ∧ V.drew.cell? ⟨bk, 3, none⟩ = some (.map (some m)) := ⟨rV, BD.out.cells 3 _ rfl⟩
  have hVV : w.alloc (.cells (rqCells c n o p v t).toArray 29) = V := hV.symm
  clear h kV kD rV hV
  go_enter Tryz.func144, Tryz.ntmps144
  go_wp2_with fail
  try rw [hVV]
  clear hVV
  refine wp_region_noPanic ?_
  refine wp_region_held_drew (S := fun W => W.rangeAt w.heap.size 0 (rqCells c n o p v t) ∧ W.cell? ⟨bk, 3, none⟩ = some (.map (some m))) (by kernel_rfl) J0 (fun _ => ?_)
  refine tk 0 J0 ?_
  refine tk 1 J0 ?_
  refine tk 2 J0 ?_
  refine tk 3 J0 ?_
  refine wpAnyH_take (i := 5) (v := .agg ((rqCells c n o p v t)).toArray) rfl (by kernel_rfl) (by kernel_rfl) (by kernel_rfl) (fun _ _ _ h => h) (yieldsIf_load_mid (by rfl) 29 _ rfl w.heap.size 0 rfl ((rqCells c n o p v t)) _ (fun W hW => hW.1) Tryz.underlying29 rfl HQ.out) J0 ?_
  simp only [qA, qB, qC, Act.put, qD, qE, qF]
  refine tk 6 J0 ?_
  refine tk 7 J0 ?_
  refine tk 8 J0 ?_
  refine tq (i := 9) (v := ?_) rfl J0 ?_ ?_
  rotate_left 1
  · intro W hSW; have qc : W.cell? ⟨bk, 3, none⟩ = some (.map (some m)) := hSW.2; clear hSW; go_simp; try with_reducible rfl
  simp only [qA, qB, qC, Act.put, qD, qE, qF]
  refine wpAnyH_take (i := 10) (v := .agg ((rqCells c n o p v t)).toArray) rfl (by kernel_rfl) (by kernel_rfl) (by kernel_rfl) (fun _ _ _ h => h) (yieldsIf_load_mid (by rfl) 29 _ rfl w.heap.size 0 rfl ((rqCells c n o p v t)) _ (fun W hW => hW.1) Tryz.underlying29 rfl HQ.out) J0 ?_
  simp only [qA, qB, qC, Act.put, qD, qE, qF]
  all_goals
    refine wpAnyH_ready (rs := [4, 11]) (by kernel_rfl) (by simp) ?_
    refine AllReadyH.cons rfl (fun K' hK' => ?_) (AllReadyH.cons rfl (fun K' hK' => ?_) AllReadyH.nil)
    rw [if_pos (by rfl)]
    have q4 : V.drew.cell? ⟨bk, 1, none⟩ = some lv := BD.out.cells 1 _ rfl
    go_simp
    clear q4
    refine hK'.out _ _ J0 (fun _ => ?_)
    clear hK' K'
    try simp only [qA, qB, qC, Act.put, qD, qE, qF]
    all_goals skip
    rotate_left 1
    rw [if_pos (by rfl)]
    go_simp
    refine (do_any m cc G F c n o p v t V.drew BD.out.recs ho hp hv ht (by omega)).mono ?_
    rintro e W1 ⟨k, vv, tt, G', F', rfl, a1, a2, a3, R1, K1, G1⟩
    have B1 : Hid (BookAt W1 bk j lm m (cc + 2) ky lv L G' F' D) := BD.out.did R1 K1 G1
    have J1 : W1.rangeAt w.heap.size 0 (rqCells c n o p v t) ∧ W1.cell? ⟨bk, 3, none⟩ = some (.map (some m)) := ⟨range_kept (W := V.drew) J0.1 K1 (by show _ < V.heap.size; omega) (fun hg => by have := HG.out _ hg; omega), B1.out.cells 3 _ rfl⟩
    have HK1 : Hid (Kept (bkOwn bk lm lv G) w W1) := (HKD.out.mono (fun _ _ h => h.elim)).trans K1 (fun g _ h => Or.inr (Or.inr (Or.inl h)))
    have HG1 : Hid (∀ g, G' g → G g ∨ w.heap.size ≤ g) := fun g hg => (G1 g hg).imp id (fun h => by have : V.heap.size ≤ g := h; omega)
    have hW1s : w.heap.size + 1 ≤ W1.heap.size := by have := K1.size; have : V.heap.size ≤ W1.heap.size := this; omega
    have hen := en_built c n o p v t k vv tt
    have HBS : Hid (∀ w, (Instr.buildSlice 172 1 #[(0, .agg (enCells c n o p v t k vv tt).toArray)]).run Tryz.prog w = .ok (.slice (some ⟨w.heap.size, 0, none⟩) 1 1) (w.alloc (.cells (enCells c n o p v t k vv tt).toArray 168))) := fun w => run_slice_one 172 168 (enCells c n o p v t k vv tt) i0 _ Tryz.underlying172 hi9 hz9 hs9 (by show 0 < 9; omega) (by show 9 ≤ 1000; omega) w
    clear R1 K1 G1
    refine hK'.out _ _ J1 (fun _ => ?_)
    clear hK' K'
    try simp only [qA, qB, qC, Act.put, qD, qE, qF]
    refine wpAnyH_take (i := 12) (v := .agg (enCells c n o p v t k vv tt).toArray) rfl (by kernel_rfl) (by kernel_rfl) (by kernel_rfl) (fun _ _ _ h => h) (yieldsIf_build (by rfl) 168 _ rfl (enCells c n o p v t k vv tt).toArray (Eq.trans (congrArg (Tryz.prog.built _) (by simp [Act.eval])) hen)) J1 ?_
    simp only [qA, qB, qC, Act.put, qD, qE, qF]
    all_goals skip
    rotate_left 1
  all_goals first
    | (refine rk 11 (fun K' hK' => ?_)
       go_simp
       refine (do_any m cc G F c n o p v t V.drew BD.out.recs ho hp hv ht (by omega)).mono ?_
       rintro e W1 ⟨k, vv, tt, G', F', rfl, a1, a2, a3, R1, K1, G1⟩
       have B1 : Hid (BookAt W1 bk j lm m (cc + 2) ky lv L G' F' D) := BD.out.did R1 K1 G1
       have J1 : W1.rangeAt w.heap.size 0 (rqCells c n o p v t) ∧ W1.cell? ⟨bk, 3, none⟩ = some (.map (some m)) := ⟨range_kept (W := V.drew) J0.1 K1 (by show _ < V.heap.size; omega) (fun hg => by have := HG.out _ hg; omega), B1.out.cells 3 _ rfl⟩
       have HK1 : Hid (Kept (bkOwn bk lm lv G) w W1) := (HKD.out.mono (fun _ _ h => h.elim)).trans K1 (fun g _ h => Or.inr (Or.inr (Or.inl h)))
       have HG1 : Hid (∀ g, G' g → G g ∨ w.heap.size ≤ g) := fun g hg => (G1 g hg).imp id (fun h => by have : V.heap.size ≤ g := h; omega)
       have hW1s : w.heap.size + 1 ≤ W1.heap.size := by have := K1.size; have : V.heap.size ≤ W1.heap.size := this; omega
       have hen := en_built c n o p v t k vv tt
       have HBS : Hid (∀ w, (Instr.buildSlice 172 1 #[(0, .agg (enCells c n o p v t k vv tt).toArray)]).run Tryz.prog w = .ok (.slice (some ⟨w.heap.size, 0, none⟩) 1 1) (w.alloc (.cells (enCells c n o p v t k vv tt).toArray 168))) := fun w => run_slice_one 172 168 (enCells c n o p v t k vv tt) i0 _ Tryz.underlying172 hi9 hz9 hs9 (by show 0 < 9; omega) (by show 9 ≤ 1000; omega) w
       clear R1 K1 G1
       refine hK'.out _ _ J1 (fun _ => ?_)
       clear hK' K'
       try simp only [qA, qB, qC, Act.put, qD, qE, qF]
       refine wpAnyH_take (i := 12) (v := .agg (enCells c n o p v t k vv tt).toArray) rfl (by kernel_rfl) (by kernel_rfl) (by kernel_rfl) (fun _ _ _ h => h) (yieldsIf_build (by rfl) 168 _ rfl (enCells c n o p v t k vv tt).toArray (Eq.trans (congrArg (Tryz.prog.built _) (by simp [Act.eval])) hen)) J1 ?_
       simp only [qA, qB, qC, Act.put, qD, qE, qF])
    | (refine wpAnyH_ready (rs := [4, 13]) (by kernel_rfl) (by simp) ?_
       refine AllReadyH.cons rfl (fun K' hK' => ?_) (AllReadyH.cons rfl (fun K' hK' => ?_) AllReadyH.nil)
       rw [if_pos (by rfl)]
       have q4 : W1.cell? ⟨bk, 1, none⟩ = some lv := B1.out.cells 1 _ rfl
       go_simp
       clear q4
       refine hK'.out _ _ J1 (fun _ => ?_)
       clear hK' K'
       try simp only [qA, qB, qC, Act.put, qD, qE, qF]
       all_goals skip
       rotate_left 1
       rw [if_pos (by rfl)]
       refine wp_slice_one 172 168 _ rfl (enCells c n o p v t k vv tt) rfl HBS.out ?_
       obtain ⟨W2, hW2⟩ : ∃ W2, W2 = W1.alloc (.cells (enCells c n o p v t k vv tt).toArray 168) := ⟨_, rfl⟩
       rw [← hW2]
       have k2 : Kept (fun _ => False) W1 W2 := by rw [hW2]; exact Kept.alloc _ _ _
       have hn2 : ∀ x u, (enCells c n o p v t k vv tt)[x]? = some u → W2.cell? ((⟨W1.heap.size, 0, none⟩ : Addr).add x) = some u := by rw [hW2]; exact World.news_of_block (heap_alloc_new W1 (.cells (enCells c n o p v t k vv tt).toArray 168))
       have HN2 : Hid (∀ x u, (enCells c n o p v t k vv tt)[x]? = some u → W2.cell? ((⟨W1.heap.size, 0, none⟩ : Addr).add x) = some u) := hn2
       have B2 : Hid (BookAt W2 bk j lm m (cc + 2) ky lv L G' F' D) := B1.out.kept k2 (fun _ _ => id)
       have J2 : W2.rangeAt w.heap.size 0 (rqCells c n o p v t) ∧ W2.cell? ⟨bk, 3, none⟩ = some (.map (some m)) := ⟨range_kept J1.1 k2 (by omega) id, B2.out.cells 3 _ rfl⟩
       have hW2s : W2.heap.size = W1.heap.size + 1 := by rw [hW2]; simp
       have HW2 : Hid (W2 = W1.alloc (.cells (enCells c n o p v t k vv tt).toArray 168)) := hW2
       have HW2s : Hid (W2.heap.size = W1.heap.size + 1) := hW2s
       clear hW2 hn2 k2 hW2s
       refine hK'.out _ _ J2 (fun _ => ?_)
       clear hK' K'
       try simp only [qA, qB, qC, Act.put, qD, qE, qF]
       all_goals skip
       rotate_left 1)
  all_goals first
    | (refine rk 13 (fun K' hK' => ?_)
       refine wp_slice_one 172 168 _ rfl (enCells c n o p v t k vv tt) rfl HBS.out ?_
       obtain ⟨W2, hW2⟩ : ∃ W2, W2 = W1.alloc (.cells (enCells c n o p v t k vv tt).toArray 168) := ⟨_, rfl⟩
       rw [← hW2]
       have k2 : Kept (fun _ => False) W1 W2 := by rw [hW2]; exact Kept.alloc _ _ _
       have hn2 : ∀ x u, (enCells c n o p v t k vv tt)[x]? = some u → W2.cell? ((⟨W1.heap.size, 0, none⟩ : Addr).add x) = some u := by rw [hW2]; exact World.news_of_block (heap_alloc_new W1 (.cells (enCells c n o p v t k vv tt).toArray 168))
       have HN2 : Hid (∀ x u, (enCells c n o p v t k vv tt)[x]? = some u → W2.cell? ((⟨W1.heap.size, 0, none⟩ : Addr).add x) = some u) := hn2
       have B2 : Hid (BookAt W2 bk j lm m (cc + 2) ky lv L G' F' D) := B1.out.kept k2 (fun _ _ => id)
       have J2 : W2.rangeAt w.heap.size 0 (rqCells c n o p v t) ∧ W2.cell? ⟨bk, 3, none⟩ = some (.map (some m)) := ⟨range_kept J1.1 k2 (by omega) id, B2.out.cells 3 _ rfl⟩
       have hW2s : W2.heap.size = W1.heap.size + 1 := by rw [hW2]; simp
       have HW2 : Hid (W2 = W1.alloc (.cells (enCells c n o p v t k vv tt).toArray 168)) := hW2
       have HW2s : Hid (W2.heap.size = W1.heap.size + 1) := hW2s
       clear hW2 hn2 k2 hW2s
       refine hK'.out _ _ J2 (fun _ => ?_)
       clear hK' K'
       try simp only [qA, qB, qC, Act.put, qD, qE, qF])
    | (refine rk 4 (fun K' hK' => ?_)
       have q4 : W2.cell? ⟨bk, 1, none⟩ = some lv := B2.out.cells 1 _ rfl
       go_simp
       clear q4
       refine hK'.out _ _ J2 (fun _ => ?_)
       clear hK' K'
       try simp only [qA, qB, qC, Act.put, qD, qE, qF])
  all_goals
    refine rk 14 (fun K' hK' => ?_)
    refine wp_append_lies _ _ _ 172 rfl 0 168 i0 _ 9 88 Tryz.underlying172 hi9 hz9 hs9 hb9 rfl (by decide) lv L.length (logC L) rfl B2.out.log ⟨W1.heap.size, 0, none⟩ 1 1 (enCells c n o p v t k vv tt) rfl rfl HN2.out (En.one ⟨c, n, o, p, v, t, k, vv, tt⟩) (by decide) (by unfold maxLen; omega) (by omega) (Nat.zero_le _) _ rfl ?_
    intro g5 cap5 W3 ho5 hgr5 hat5 hlt5
    have hnw : ¬ lv.ownBlock = some w.heap.size := fun e => by have := HLV.out _ e; omega
    have k3 : Kept (fun g => lv.ownBlock = some g) W2 W3 := Kept.grown hgr5 (fun k e => Or.inl e)
    have hW2s := HW2s.out
    have hbk : bk < w.heap.size := HBK.out
    have q3 : W3.cell? ⟨bk, 1, none⟩ = some lv := (k3.cell (a := ⟨bk, 1, none⟩) (by show bk < _; omega) HNB.out).trans (B2.out.cells 1 _ rfl)
    have f3 : W3.frozen? ⟨bk, 1, none⟩ = false := (k3.frozen (a := ⟨bk, 1, none⟩) (by show bk < _; omega) HNB.out).trans (B2.out.room 1 (by omega)).2
    have J3 : W3.rangeAt w.heap.size 0 (rqCells c n o p v t) ∧ W3.cell? ⟨bk, 3, none⟩ = some (.map (some m)) := ⟨range_kept J2.1 k3 (by omega) hnw, (k3.cell (a := ⟨bk, 3, none⟩) (by show bk < _; omega) HNB.out).trans (B2.out.cells 3 _ rfl)⟩
    have HLG : Hid (_ ∧ _ ∧ _) := B1.out.logged (e := ⟨c, n, o, p, v, t, k, vv, tt⟩) ⟨hc', hn', ⟨a1.1, by show k < 256; omega⟩, ⟨a2.1, by show vv < 256; omega⟩, a3, a1.2, a2.2, hw⟩ HW2.out hgr5 ho5 hat5 hlt5
    clear k3 ho5 hgr5 hat5 hlt5 hnw hW2s
    refine hK'.out _ _ J3 (fun _ => ?_)
    clear hK' K'
    try simp only [qA, qB, qC, Act.put, qD, qE, qF]
    refine tk 15 J3 ?_
    refine tk 16 J3 ?_
  all_goals
    refine rk 17 (fun K' hK' => ?_)
    go_simp
    obtain ⟨sv, hsv⟩ : ∃ sv, sv = Value.slice (some ⟨g5, 0, none⟩) (L.length + 1) cap5 := ⟨_, rfl⟩
    have hown5 : sv.ownBlock = some g5 := by rw [hsv]; rfl
    have HSV : Hid (sv = Value.slice (some ⟨g5, 0, none⟩) (L.length + 1) cap5) := hsv
    rw [← hsv] at HLG ⊢
    obtain ⟨W4, hW4⟩ : ∃ W4, W4 = W3.setCell ⟨bk, 1, none⟩ sv := ⟨_, rfl⟩
    rw [← hW4] at HLG ⊢
    have J4 : W4.rangeAt w.heap.size 0 (rqCells c n o p v t) ∧ W4.cell? ⟨bk, 3, none⟩ = some (.map (some m)) := by
      have k4 : Kept (· = bk) W3 W4 := by rw [hW4]; exact Kept.setCell _ _ _ (Or.inl rfl)
      exact ⟨range_kept J3.1 k4 (World.rangeAt_lt J3.1) (by show ¬ w.heap.size = bk; omega), HLG.out.1.cells 3 _ rfl⟩
    clear hsv q3 f3 hW4
    refine hK'.out _ _ J4 (fun _ => ?_)
    clear hK' K'
    try simp only [qA, qB, qC, Act.put, qD, qE, qF]
  all_goals
    refine ⟨by kernel_rfl, ?_⟩
    refine NoPanic.normal ?_
    try simp only [qA, qB, qC, Act.put, qD, qE, qF]
    rw [HSV.out] at HLG hown5
    have B4 := HLG.out.1
    have hW4l : w.heap.size < W4.heap.size := World.rangeAt_lt J4.1
    have K0 : W4.drew.cell? ⟨bk, 2, none⟩ = some (.map (some lm)) ∧ W4.drew.cell? ⟨bk, 1, none⟩ = some (.slice (some ⟨g5, 0, none⟩) (L.length + 1) cap5) ∧ W4.drew.cell? ⟨w.heap.size, 0, none⟩ = some (.int .i64 c) := ⟨B4.cells 2 _ rfl, B4.cells 1 _ rfl, J4.1 0 _ rfl⟩
    obtain ⟨X, hrun, mX, gX⟩ := World.ownsMap.update (w := W4.drew) B4.lasts (t := 173) (e := 3) key_int Tryz.underlying173 (by unfold maxLen; omega) (key := .int .i64 c) (val := .int .i64 ((L.length + 1 : Nat) : Int)) (Maps.keyOf_int_mk Tryz.underlying3 (a := c) (WalkArith.wf_i64 (by omega))) (plainElem_int Tryz.underlying3 (WalkArith.wf_i64 (by omega)))
    have B4d : BookAt W4.drew bk j lm m (cc + 2) ky _ _ G' F' D := B4.kept (Kept.drew (fun _ => False) W4) (fun _ _ => id)
    have HX := B4d.lasted mX gX
    have kX : Kept (· = lm) W4.drew X := Kept.grown gX (fun k e => Or.inl (by simpa using e.symm))
    have hlm := BD.out.lasts.lt
    have K3 : X.cell? ⟨bk, 2, none⟩ = some (.map (some lm)) ∧ X.cell? ⟨bk, 1, none⟩ = some (.slice (some ⟨g5, 0, none⟩) (L.length + 1) cap5) ∧ X.cell? ⟨w.heap.size, 0, none⟩ = some (.int .i64 c) := ⟨HX.1.cells 2 _ rfl, HX.1.cells 1 _ rfl, (kX.cell (a := ⟨w.heap.size, 0, none⟩) hW4l (by show ¬ w.heap.size = lm; have := HLM.out; omega)).trans K0.2.2⟩
    have HXX : Hid (_ ∧ _) := HX
    have HKX : Hid (Kept (bkOwn bk lm lv G) w X) := by
      refine (HK1.out.trans (HLG.out.2.1) (fun g hg e => ?_)).trans ((Kept.drew (· = lm) W4).trans kX (fun _ _ h => h)) (fun g _ e => Or.inr (Or.inl e))
      rcases e with e | e | e | e
      · exact Or.inl e
      · exact Or.inr (Or.inl e)
      · rcases HG1.out g e with e | e
        · exact Or.inr (Or.inr (Or.inl e))
        · omega
      · exact Or.inr (Or.inr (Or.inr e))
    have HOW : Hid (∀ g, bkOwn bk lm (.slice (some ⟨g5, 0, none⟩) (L.length + 1) cap5) G' g → bkOwn bk lm lv G g ∨ w.heap.size ≤ g) := fun g hg => by
      rcases hg with e | e | e | e
      · exact Or.inl (Or.inl e)
      · exact Or.inl (Or.inr (Or.inl e))
      · exact (HG1.out g e).imp (fun h => Or.inr (Or.inr (Or.inl h))) id
      · obtain rfl : g5 = g := by simpa [Value.ownBlock] using e
        exact HLG.out.2.2.imp (fun h => Or.inr (Or.inr (Or.inr h))) (fun h => by omega)
    rw [show (((L.length + 1 : Nat)) : Int) = (L.length : Int) + 1 by omega] at hrun
    clear B4 B4d HX mX gX kX
    go_wp2_with fail
    refine wp_region_noPanic ?_
    refine wp_region_held_drew (S := fun W => W.cell? ⟨bk, 2, none⟩ = some (.map (some lm)) ∧ W.cell? ⟨bk, 1, none⟩ = some (.slice (some ⟨g5, 0, none⟩) (L.length + 1) cap5) ∧ W.cell? ⟨w.heap.size, 0, none⟩ = some (.int .i64 c)) (by kernel_rfl) K0 (fun _ => ?_)
    refine tk 0 K0 ?_
    refine tk 1 K0 ?_
    refine tk 2 K0 ?_
    refine tq (i := 3) (v := ?_) rfl K0 ?_ ?_
    rotate_left 1
    · intro W hSW; have qc := hSW.1; clear hSW; go_simp; try with_reducible rfl
    simp only [qA, qB, qC, Act.put, qD, qE, qF]
    refine tk 4 K0 ?_
    refine tq (i := 5) (v := ?_) rfl K0 ?_ ?_
    rotate_left 1
    · intro W hSW; have qc := hSW.2.2; clear hSW; go_simp; try with_reducible rfl
    simp only [qA, qB, qC, Act.put, qD, qE, qF]
    refine tk 6 K0 ?_
    refine tk 7 K0 ?_
    refine tk 8 K0 ?_
    refine tq (i := 9) (v := ?_) rfl K0 ?_ ?_
    rotate_left 1
    · intro W hSW; have qc := hSW.2.1; clear hSW; go_simp; try with_reducible rfl
    simp only [qA, qB, qC, Act.put, qD, qE, qF]
    refine tk 10 K0 ?_
    refine rk 11 (fun K' hK' => ?_)
    go_simp
    refine hK'.out _ _ K3 (fun _ => ?_)
    clear hK' K'
    try simp only [qA, qB, qC, Act.put, qD, qE, qF]
    refine ⟨by kernel_rfl, ?_⟩
    refine NoPanic.normal ?_
    try simp only [qA, qB, qC, Act.put, qD, qE, qF]
    go_wp2_with fail
    go_end0
    exact ⟨_, G', F', k, vv, tt, rfl, HXX.out.1, HKX.out, HOW.out⟩
end Go.Proofs.YteglimjonofdeaaGreatDoor
