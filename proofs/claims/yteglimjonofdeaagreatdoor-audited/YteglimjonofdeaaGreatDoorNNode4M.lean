import Derived.Test.YteglimjonofdeaaGreatDoorNNode3
import Derived.Test.YteglimjonofdeaaGreatDoorNFmt2M
set_option linter.unusedVariables false
set_option linter.unusedSimpArgs false
namespace Go.Proofs.YteglimjonofdeaaGreatDoor
open Go.RowKit

/-- What is seen of a node. -/
def stG (n a r ky : Int) : List Value := [.int .i64 n, .int .i64 a, .int .i64 r, .int .i64 ky]
theorem st_built (n a r ky : Int) : Tryz.prog.built 39 [(0, .int .i64 n), (1, .int .i64 a), (2, .int .i64 r), (3, .int .i64 ky)] = some (stG n a r ky).toArray := by kernel_rfl
theorem st_info (n a r ky : Int) : (Tryz.prog.info? 39).map (·.size) = some (stG n a r ky).length := by show _ = some 4; kernel_rfl
theorem st_one (n a r ky : Int) : ∀ u ∈ stG n a r ky, u.oneCell' = true := by intro u hu; simp [stG] at hu; rcases hu with rfl | rfl | rfl | rfl <;> rfl
set_option maxHeartbeats 400000 in
theorem bkeys_any (b : Nat) (k : Int) (w : World) (h : w.cell? ⟨b, 4, none⟩ = some (.int .i64 k)) :
    Calls Tryz.prog 65 #[.pointer (some ⟨b, 0, none⟩)] w fun e w' => e = .returned (.int .i64 k) ∧ w' = w := by
  go_enter Tryz.func65, Tryz.ntmps65
  go_wp2_with fail
  go_ret
  exact ⟨rfl, rfl⟩
theorem alloc_st (w : World) : (Instr.alloc 39 true (.tuple #[])).run Tryz.prog w = .ok (.pointer (some ⟨w.heap.size, 0, none⟩)) (w.alloc (.cells (stG 0 0 0 0).toArray 39)) := by kernel_rfl
set_option maxRecDepth 10000 in
set_option maxHeartbeats 2000000 in
theorem nsee_any (K : Nat → Int) (z : Nv) (nd q bb N j u : Nat) (C : Nat → List Int) (l : ByteArray) (bk lm m cc ky : Nat) (lv : Value) (L : List En) (G F : Nat → Prop) (D : DataW Unit) (es : Array MapEntry) (clock : Nat) (w : World) (h : Al K w z nd q bb N j u C l bk lm m cc ky lv L G F D) (hm : w.heap[m]? = some (.map es clock)) (hes : es.size < 1000) (hL : L.length ≤ 400) :
    Calls Tryz.prog 34 #[.pointer (some ⟨nd, 0, none⟩)] w fun e w' => e = .returned (.agg (stG (L.length : Nat) (ackOf z L.length) (es.size : Nat) (ky : Nat)).toArray) ∧ Below w.heap.size w w' := by
  obtain ⟨V, hV⟩ : ∃ V, V = w.alloc (.cells (stG 0 0 0 0).toArray 39) := ⟨_, rfl⟩
  have hVs : V.heap.size = w.heap.size + 1 := by rw [hV]; simp
  have bV : Below w.heap.size w V := by rw [hV]; exact (Below.refl _ _).alloc (Nat.le_refl _) _
  have TV : Hid (V.there w.heap.size 0 4) := by show World.there _ _ _ _; rw [hV]; exact there_new w (stG 0 0 0 0).toArray _
  have AV : Hid (Al K V z nd q bb N j u C l bk lm m cc ky lv L G F D) := h.fresh bV
  have BV : Hid (Below w.heap.size w V) := bV
  have HM : Hid (m < w.heap.size) := block_lt hm
  have HN : Hid (nd < w.heap.size) := h.nlt
  have HMV : Hid (V.heap[m]? = some (.map es clock)) := (bV.block m (block_lt hm)).trans hm
  have cf : V.cell? ⟨nd, 7, none⟩ = some (.bool false) := AV.out.node 7 _ rfl
  have J0 : V.drew.cell? ⟨nd, 2, none⟩ = some (.pointer (some ⟨bk, 0, none⟩)) := AV.out.node 2 _ rfl
  obtain ⟨sa, scap, hslv⟩ := h.book.slice
  clear h bV hm
  go_enter Tryz.func34, Tryz.ntmps34
  go_wp2_with (first
    | (refine wpList_alloc_of rfl 39 rfl (stG 0 0 0 0).toArray alloc_st ?_; rw [← hV]; clear hV))
  refine wp_region_noPanic ?_
  refine wp_region_held_drew (S := fun W => W.cell? ⟨nd, 2, none⟩ = some (.pointer (some ⟨bk, 0, none⟩))) (by kernel_rfl) J0 (fun _ => ?_)
  refine tk 0 J0 ?_
  refine tk 1 J0 ?_
  refine tk 2 J0 ?_
  refine tq (i := 3) (v := ?_) rfl J0 ?_ ?_
  rotate_left 1
  · intro W hSW; have qc := hSW; clear hSW; go_simp; try with_reducible rfl
  simp only [qA, qB, qC, Act.put, qD, qE, qF]
  refine tk 5 J0 ?_
  refine tk 7 J0 ?_
  refine tk 8 J0 ?_
  refine tk 9 J0 ?_
  refine tq (i := 10) (v := ?_) rfl J0 ?_ ?_
  rotate_left 1
  · intro W hSW; have qc := hSW; clear hSW; go_simp; try with_reducible rfl
  simp only [qA, qB, qC, Act.put, qD, qE, qF]
  refine tk 12 J0 ?_
  refine tk 13 J0 ?_
  refine tk 14 J0 ?_
  refine tq (i := 15) (v := ?_) rfl J0 ?_ ?_
  rotate_left 1
  · intro W hSW; have qc := hSW; clear hSW; go_simp; try with_reducible rfl
  simp only [qA, qB, qC, Act.put, qD, qE, qF]
  refine rk 4 (fun K' hK' => ?_)
  have hen := bentries_any bk sa L.length scap V.drew (by rw [← hslv]; exact AV.out.book.drew.cells 1 _ rfl)
  go_simp
  refine hen.mono ?_
  rintro e W1 ⟨rfl, hw1⟩
  obtain rfl : V.drew = W1 := hw1.symm
  clear hw1 hen
  refine hK'.out _ _ J0 (fun _ => ?_)
  clear hK' K'
  try simp only [qA, qB, qC, Act.put, qD, qE, qF]
  refine rk 6 (fun K' hK' => ?_)
  go_simp
  refine (acked_any z nd bk j lm m cc ky lv L G F D V.drew (AV.out.fresh (Below.refl _ _).drew).node AV.out.nlt AV.out.book.drew).mono ?_
  rintro e W2 ⟨rfl, hb2⟩
  have b2 : Below V.heap.size V W2 := ((Below.refl V.heap.size V).drew).trans hb2
  have s2 := b2.size
  have A2 : Hid (Al K W2 z nd q bb N j u C l bk lm m cc ky lv L G F D) := AV.out.fresh b2
  have J2 : W2.cell? ⟨nd, 2, none⟩ = some (.pointer (some ⟨bk, 0, none⟩)) := A2.out.node 2 _ rfl
  have T2 : W2.there w.heap.size 0 (stG (L.length : Nat) (ackOf z L.length) (es.size : Nat) (ky : Nat)).length := there_below b2 (by omega) TV.out
  have B2 : Hid (Below w.heap.size w W2) := BV.out.trans (b2.mono (by omega))
  have hr2 : W2.heap[m]? = some (.map es clock) := (b2.block m (by have := HM.out; omega)).trans HMV.out
  clear hb2 b2
  refine hK'.out _ _ J2 (fun _ => ?_)
  clear hK' K'
  try simp only [qA, qB, qC, Act.put, qD, qE, qF]
  refine rk 11 (fun K' hK' => ?_)
  have hrec := brecords_any bk m es clock W2 (A2.out.book.cells 3 _ rfl) hr2 (by omega)
  go_simp
  refine hrec.mono ?_
  rintro e W3 ⟨rfl, hw3⟩
  obtain rfl : W2 = W3 := hw3.symm
  clear hw3 hrec
  refine hK'.out _ _ J2 (fun _ => ?_)
  clear hK' K'
  try simp only [qA, qB, qC, Act.put, qD, qE, qF]
  refine rk 16 (fun K' hK' => ?_)
  have hky := bkeys_any bk (ky : Nat) W2 (A2.out.book.cells 4 _ rfl)
  go_simp
  refine hky.mono ?_
  rintro e W4 ⟨rfl, hw4⟩
  obtain rfl : W2 = W4 := hw4.symm
  clear hw4 hky
  refine hK'.out _ _ J2 (fun _ => ?_)
  clear hK' K'
  try simp only [qA, qB, qC, Act.put, qD, qE, qF]
  refine wpAnyH_take (i := 17) (v := .agg (stG (L.length : Nat) (ackOf z L.length) (es.size : Nat) (ky : Nat)).toArray) rfl (by kernel_rfl) (by kernel_rfl) (by kernel_rfl) (fun _ _ _ h => h) (yieldsIf_build (by rfl) 39 _ rfl (stG (L.length : Nat) (ackOf z L.length) (es.size : Nat) (ky : Nat)).toArray (Eq.trans (congrArg (Tryz.prog.built _) (by simp [Act.eval])) (st_built _ _ _ _))) J2 ?_
  simp only [qA, qB, qC, Act.put, qD, qE, qF]
  refine rk 18 (fun K' hK' => ?_)
  refine wp_store_abs 39 _ _ rfl w.heap.size 0 (stG (L.length : Nat) (ackOf z L.length) (es.size : Nat) (ky : Nat)) rfl rfl T2 (st_info _ _ _ _) (st_one _ _ _ _) ?_
  intro W6 hw6 hr6 _ht6 hb6
  have J6 : W6.cell? ⟨nd, 2, none⟩ = some (.pointer (some ⟨bk, 0, none⟩)) := by
    have k6 : Kept (· = w.heap.size) W2 W6 := by rw [hw6]; exact Kept.setCells _ _ _ _ (Or.inl rfl)
    exact (k6.cell (a := ⟨nd, 2, none⟩) A2.out.nlt (by show ¬ nd = w.heap.size; have := HN.out; omega)).trans J2
  have B6 : Below w.heap.size w W6 := B2.out.trans (hb6 w.heap.size (Nat.le_refl _))
  clear _ht6 hw6 hb6
  refine hK'.out _ _ J6 (fun _ => ?_)
  clear hK' K'
  try simp only [qA, qB, qC, Act.put, qD, qE, qF]
  refine ⟨by kernel_rfl, ?_⟩
  refine NoPanic.normal ?_
  try simp only [qA, qB, qC, Act.put, qD, qE, qF]
  go_wp2_with fail
  exact ret_cell rfl w.heap.size 0 (stG (L.length : Nat) (ackOf z L.length) (es.size : Nat) (ky : Nat)) _ rfl hr6 Tryz.underlying39 rfl (st_info _ _ _ _) rfl ⟨rfl, B6⟩

set_option maxRecDepth 10000 in
set_option maxHeartbeats 1000000 in
theorem dsee_any (K : Nat → Int) (z : Nv) (nd q bb N j u : Nat) (C : Nat → List Int) (l : ByteArray) (bk lm m cc ky : Nat) (lv : Value) (L : List En) (G F : Nat → Prop) (D : DataW Unit) (es : Array MapEntry) (clock xn : Nat) (w : World) (h : Al K w z nd q bb N j u C l bk lm m cc ky lv L G F D) (hx : w.cell? ⟨xn, 0, none⟩ = some (.pointer (some ⟨nd, 0, none⟩))) (hxl : xn < w.heap.size) (hm : w.heap[m]? = some (.map es clock)) (hes : es.size < 1000) (hL : L.length ≤ 400) :
    Calls Tryz.prog 10 #[.pointer (some ⟨xn, 0, none⟩)] w fun e w' => e = .returned (.agg (stG (L.length : Nat) (ackOf z L.length) (es.size : Nat) (ky : Nat)).toArray) ∧ Below w.heap.size w w' := by
  obtain ⟨V, hV⟩ : ∃ V, V = w.alloc (.cells (stG 0 0 0 0).toArray 39) := ⟨_, rfl⟩
  have hVs : V.heap.size = w.heap.size + 1 := by rw [hV]; simp
  have bV : Below w.heap.size w V := by rw [hV]; exact (Below.refl _ _).alloc (Nat.le_refl _) _
  have TV : Hid (V.there w.heap.size 0 4) := by show World.there _ _ _ _; rw [hV]; exact there_new w (stG 0 0 0 0).toArray _
  have BV : Hid (Below w.heap.size w V) := bV
  have cx : V.cell? ⟨xn, 0, none⟩ = some (.pointer (some ⟨nd, 0, none⟩)) := (bV.cell (p := ⟨xn, 0, none⟩) hxl).trans hx
  have hs := nsee_any K z nd q bb N j u C l bk lm m cc ky lv L G F D es clock V (h.fresh bV) ((bV.block m (block_lt hm)).trans hm) hes hL
  have HI := st_info (L.length : Nat) (ackOf z L.length) (es.size : Nat) (ky : Nat)
  have HO := st_one (L.length : Nat) (ackOf z L.length) (es.size : Nat) (ky : Nat)
  clear h bV hm hx
  go_enter Tryz.func10, Tryz.ntmps10
  go_wp2_with (first
    | (refine wpList_alloc_of rfl 39 rfl (stG 0 0 0 0).toArray alloc_st ?_; rw [← hV]; clear hV))
  refine hs.mono ?_
  rintro e W1 ⟨rfl, hb1⟩
  have T1 : W1.there w.heap.size 0 (stG (L.length : Nat) (ackOf z L.length) (es.size : Nat) (ky : Nat)).length := there_below hb1 (by omega) TV.out
  have B1 : Hid (Below w.heap.size w W1) := BV.out.trans (hb1.mono (by omega))
  clear hs hb1
  go_wp2_with (first
    | (refine wpList_store_abs rfl 39 _ _ rfl w.heap.size 0 (stG (L.length : Nat) (ackOf z L.length) (es.size : Nat) (ky : Nat)) rfl rfl T1 HI HO ?_
       intro w5 _hw5 hr5 _ht5 hb5
       clear _hw5 _ht5))
  exact ret_cell rfl w.heap.size 0 (stG (L.length : Nat) (ackOf z L.length) (es.size : Nat) (ky : Nat)) _ rfl hr5 Tryz.underlying39 rfl HI rfl ⟨rfl, B1.out.trans (hb5 w.heap.size (Nat.le_refl _))⟩

set_option maxRecDepth 10000 in
set_option maxHeartbeats 1000000 in
/-- The door Request: what the node inside answers. -/
theorem dreq_any (xn nd : Nat) (c n o p v : Int) (t : ByteArray) (R : World → Value → Value → World → Prop) (Sx : Nat → Prop) (w : World) (hx : w.cell? ⟨xn, 0, none⟩ = some (.pointer (some ⟨nd, 0, none⟩))) (hxl : xn < w.heap.size) (hnx : ¬ Sx xn) (hlt : ∀ g, Sx g → g < w.heap.size)
    (hin : ∀ W, Below w.heap.size w W → Calls Tryz.prog 33 #[.pointer (some ⟨nd, 0, none⟩), .agg (rqCells c n o p v t).toArray] W fun e w' => ∃ s r, e = .returned (.tuple #[s, r]) ∧ R W s r w' ∧ Kept Sx W w') :
    Calls Tryz.prog 9 #[.pointer (some ⟨xn, 0, none⟩), .agg (rqCells c n o p v t).toArray] w fun e w' => ∃ W s r, Below w.heap.size w W ∧ e = .returned (.tuple #[s, r]) ∧ R W s r w' := by
  obtain ⟨V, hV⟩ : ∃ V, V = w.alloc (.cells (rqCells c n o p v t).toArray 29) := ⟨_, rfl⟩
  have hVs : V.heap.size = w.heap.size + 1 := by rw [hV]; simp
  have bV : Below w.heap.size w V := by rw [hV]; exact (Below.refl _ _).alloc (Nat.le_refl _) _
  have rV : V.rangeAt w.heap.size 0 (rqCells c n o p v t) := by rw [hV]; exact range_new _ _ _
  have BV : Hid (Below w.heap.size w V) := bV
  have HQ : Hid ((Tryz.prog.info? 29).map (·.size) = some (rqCells c n o p v t).length) := info_rq c n o p v t
  have HLT : Hid (∀ g, Sx g → g < w.heap.size) := hlt
  have J0 : V.drew.rangeAt w.heap.size 0 (rqCells c n o p v t) ∧ V.drew.cell? ⟨xn, 0, none⟩ = some (.pointer (some ⟨nd, 0, none⟩)) := ⟨rV, (bV.cell (p := ⟨xn, 0, none⟩) hxl).trans hx⟩
  have hVV : w.alloc (.cells (rqCells c n o p v t).toArray 29) = V := hV.symm
  clear bV rV hV hx hlt
  go_enter Tryz.func9, Tryz.ntmps9
  go_wp2_with fail
  try rw [hVV]
  clear hVV
  refine wp_region_noPanic ?_
  refine wp_region_held_drew (S := fun W => W.rangeAt w.heap.size 0 (rqCells c n o p v t) ∧ W.cell? ⟨xn, 0, none⟩ = some (.pointer (some ⟨nd, 0, none⟩))) (by kernel_rfl) J0 (fun _ => ?_)
  refine tk 0 J0 ?_
  refine tk 1 J0 ?_
  refine tk 2 J0 ?_
  refine tq (i := 3) (v := ?_) rfl J0 ?_ ?_
  rotate_left 1
  · intro W hSW; have qc := hSW.2; clear hSW; go_simp; try with_reducible rfl
  simp only [qA, qB, qC, Act.put, qD, qE, qF]
  refine wpAnyH_take (i := 4) (v := .agg ((rqCells c n o p v t)).toArray) rfl (by kernel_rfl) (by kernel_rfl) (by kernel_rfl) (fun _ _ _ h => h) (yieldsIf_load_mid (by rfl) 29 _ rfl w.heap.size 0 rfl ((rqCells c n o p v t)) _ (fun W hW => hW.1) Tryz.underlying29 rfl HQ.out) J0 ?_
  simp only [qA, qB, qC, Act.put, qD, qE, qF]
  refine rk 5 (fun K' hK' => ?_)
  go_simp
  refine (hin V.drew (BV.out.drew)).mono ?_
  rintro e W1 ⟨s, r, rfl, hR, k1⟩
  have s1 := k1.size
  have J1 : W1.rangeAt w.heap.size 0 (rqCells c n o p v t) ∧ W1.cell? ⟨xn, 0, none⟩ = some (.pointer (some ⟨nd, 0, none⟩)) := ⟨range_kept J0.1 k1 (by show _ < V.heap.size; omega) (fun e => by have := HLT.out _ e; omega), (k1.cell (a := ⟨xn, 0, none⟩) (by show xn < V.heap.size; omega) hnx).trans J0.2⟩
  have HR : Hid (R V.drew s r W1) := hR
  clear hR k1
  refine hK'.out _ _ J1 (fun _ => ?_)
  clear hK' K'
  try simp only [qA, qB, qC, Act.put, qD, qE, qF]
  refine tk 6 J1 ?_
  refine tk 7 J1 ?_
  refine tk 8 J1 ?_
  refine tk 9 J1 ?_
  refine ⟨by kernel_rfl, ?_⟩
  refine NoPanic.normal ?_
  try simp only [qA, qB, qC, Act.put, qD, qE, qF]
  go_wp2_with fail
  go_ret2
  exact ⟨V.drew, s, r, BV.out.drew, rfl, HR.out⟩
theorem bk_built (j lm m : Nat) : Tryz.prog.built 177 [(0, .pointer (some ⟨j, 0, none⟩)), (2, .map (some lm)), (3, .map (some m))] = some (bkL j lm m 0 (.slice none 0 0)).toArray := by kernel_rfl
/-- A fresh book in three new blocks. -/
theorem book_made {w W W1 W2 W3 : World} {q bb N j u : Nat} {C : Nat → List Int} {l : ByteArray} (hw : w.heap.size ≤ W.heap.size) (hJ : JAt W q bb N j u C l) (h1 : W1 = W.alloc (.map #[] 0)) (h2 : W2 = W1.alloc (.map #[] 0)) (h3 : W3 = W2.alloc (.cells (bkL j W.heap.size (W.heap.size + 1) 0 (.slice none 0 0)).toArray 177)) :
    BookAt W3 (W.heap.size + 2) j W.heap.size (W.heap.size + 1) 0 0 (.slice none 0 0) [] (fun g => g = W.heap.size + 1) (fun _ => False) (.map []) ∧ JAt W3 q bb N j u C l ∧ Below W.heap.size W W3 := by
  have s1 : W1.heap.size = W.heap.size + 1 := by rw [h1]; simp
  have s2 : W2.heap.size = W.heap.size + 2 := by rw [h2]; simp; omega
  have s3 : W3.heap.size = W.heap.size + 3 := by rw [h3]; simp; omega
  have b1 : Below W.heap.size W W1 := by rw [h1]; exact (Below.refl _ _).alloc (Nat.le_refl _) _
  have b2 : Below W1.heap.size W1 W2 := by rw [h2]; exact (Below.refl _ _).alloc (Nat.le_refl _) _
  have b3 : Below W2.heap.size W2 W3 := by rw [h3]; exact (Below.refl _ _).alloc (Nat.le_refl _) _
  have B : Below W.heap.size W W3 := (b1.trans (b2.mono (by omega))).trans (b3.mono (by omega))
  have hm1 : W1.heap[W.heap.size]? = some (.map #[] 0) := by rw [h1]; exact heap_alloc_new W _
  have hm2 : W2.heap[W.heap.size + 1]? = some (.map #[] 0) := by rw [h2, ← s1]; exact heap_alloc_new W1 _
  have hL : W3.heap[W.heap.size]? = some (.map #[] 0) := (b3.block _ (by omega)).trans ((b2.block _ (by omega)).trans hm1)
  have hM : W3.heap[W.heap.size + 1]? = some (.map #[] 0) := (b3.block _ (by omega)).trans hm2
  have hr : W3.rangeAt (W.heap.size + 2) 0 (bkL j W.heap.size (W.heap.size + 1) 0 (.slice none 0 0)) := by
    have := range_new W2 (bkL j W.heap.size (W.heap.size + 1) 0 (.slice none 0 0)) 177
    rw [← h3, s2] at this; exact this
  have ht : W3.there (W.heap.size + 2) 0 5 := by
    have := there_new W2 (bkL j W.heap.size (W.heap.size + 1) 0 (.slice none 0 0)).toArray 177
    rw [← h3, s2] at this; exact this
  have made : ∀ (R : Value → Option (DataW Unit × List MemPlace)) (b : Nat), W3.heap[b]? = some (.map #[] 0) → W3.ownsMap Tryz.prog 3 R b 0 (.map []) := fun R b hb => ⟨#[], 0, hb, ⟨by simp, MapKept.stamped_empty 0, by simp⟩, Nat.le_refl _, rfl⟩
  refine ⟨⟨by omega, hr, ht, ⟨rfl, Or.inl ⟨rfl, rfl⟩⟩, made _ _ hL, ⟨⟨_, made _ _ hM⟩, (fun r hr => hr.elim), rfl, (fun g hg => by omega)⟩, (fun e he => by cases he), ⟨by omega, by omega, by omega⟩, (fun g hg => by cases hg)⟩, hJ.kept (Kept.fresh (S := fun _ => False) B) (fun _ _ => id), B⟩
/-- What Open of a fresh journal leaves. -/
def bopPost (q bb N : Nat) (C : Nat → List Int) (w : World) (e : Ending) (w' : World) : Prop :=
  ∃ bk j lm m l, e = .returned (.tuple #[.pointer (some ⟨bk, 0, none⟩), .nilIface]) ∧ JAt w' q bb N j 1 C l ∧ BookAt w' bk j lm m 0 0 (.slice none 0 0) [] (fun g => g = m) (fun _ => False) (.map []) ∧ (w.heap.size ≤ j ∧ w.heap.size ≤ bk ∧ w.heap.size ≤ lm ∧ w.heap.size ≤ m) ∧ (j ≠ bk ∧ j ≠ lm ∧ j ≠ m) ∧ Kept (fun g => g = q ∨ g = bb) w w'

set_option maxRecDepth 10000 in
set_option maxHeartbeats 2000000 in
theorem bopen_any (K : Nat → Int) (q bb N : Nat) (C : Nat → List Int) (r : ByteArray) (w : World) (hn : N ≤ 1000) (hn8 : 8 ≤ N) (hr : r.size ≤ 18) (hD : DiskAt w q bb N C (.slice none 0 0) []) (T : Tab K w) (hpT : ¬ 1 = q)
    (hC0 : C 0 = packN K (sumOf K origT) r) (hC1 : C 1 = z128) (hno : z128.take 32 ≠ (packN K (sumOf K (sumOf K origT ++ r)) ⟨#[]⟩).take 32) :
    Calls Tryz.prog 134 #[.agg (volL q N).toArray] w (bopPost q bb N C w) := by
  obtain ⟨V, hV⟩ : ∃ V, V = w.alloc (.cells (volL q N).toArray 222) := ⟨_, rfl⟩
  have hVs : V.heap.size = w.heap.size + 1 := by rw [hV]; simp
  have bV : Below w.heap.size w V := by rw [hV]; exact (Below.refl _ _).alloc (Nat.le_refl _) _
  have rV : V.rangeAt w.heap.size 0 (volL q N) := by rw [hV]; exact range_new _ _ _
  have hop := jopen_any K q bb N C r V hn hn8 hr (hD.fresh bV) (T.below bV) hpT hC0 hC1 hno
  have HBV : Hid (Below w.heap.size w V) := bV
  have HIV : Hid ((Tryz.prog.info? 222).map (·.size) = some (volL q N).length) := info_vol q N
  have HQL : Hid (q < w.heap.size ∧ bb < w.heap.size) := hD.lt
  have hmm := @run_makeMap Tryz.prog
  clear hD T hC0 hC1 hno bV
  generalize hcs : (volL q N).toArray = cs at *
  go_enter Tryz.func134, Tryz.ntmps134
  go_wp2_with (first
    | (rw [← hV]; clear hV)
    | (refine wpList_load_mid rfl 222 _ rfl w.heap.size 0 rfl (volL q N) _ rV Tryz.underlying222 rfl HIV.out ?_; rw [hcs]))
  refine hop.mono ?_
  rintro e W ⟨j, a, c, rfl, hj0, hj1, hjr, hjt, hd, hk⟩
  have s0 := hk.size
  have hJ : Hid (JAt W q bb N j 1 C _) := ⟨hd, hjr, hjt, sumOf_size _ _, ⟨by have := HQL.out.1; omega, by have := HQL.out.2; omega⟩, hj1⟩
  have HK : Hid (Kept (fun g => g = q ∨ g = bb) w W) := (Kept.fresh HBV.out).trans hk (fun _ _ h => h)
  obtain ⟨W1, h1⟩ : ∃ X, X = W.alloc (.map #[] 0) := ⟨_, rfl⟩
  obtain ⟨W2, h2⟩ : ∃ X, X = W1.alloc (.map #[] 0) := ⟨_, rfl⟩
  obtain ⟨W3, h3⟩ : ∃ X, X = W2.alloc (.cells (bkL j W.heap.size (W.heap.size + 1) 0 (.slice none 0 0)).toArray 177) := ⟨_, rfl⟩
  have HM : Hid (_ ∧ _ ∧ _) := book_made (w := w) (by omega) hJ.out h1 h2 h3
  have s1 : W1.heap.size = W.heap.size + 1 := by rw [h1]; simp
  have s2 : W2.heap.size = W.heap.size + 2 := by rw [h2]; simp; omega
  have hbb := bk_built j W.heap.size (W.heap.size + 1)
  clear hop hd hjr hjt hk rV
  go_wp2_with (first
    | (rw [← h1]; clear h1)
    | (rw [← h2]; clear h2)
    | (refine wpList_build_tm rfl 177 _ rfl _ (Eq.trans (congrArg (Tryz.prog.built _) (by simp [Act.eval])) hbb) ?_)
    | (rw [← h3]; clear h3))
  go_loopw [26] (fun i wr => i = .int .i64 0 ∧ wr = W3) (fun _ _ => 0)
  case atStart => exact ⟨rfl, rfl⟩
  case round =>
    obtain ⟨rfl, rfl⟩ := hrel
    go_wp2_with fail
    go_ret2
    refine ⟨W.heap.size + 2, j, W.heap.size, W.heap.size + 1, _, rfl, HM.out.2.1, HM.out.1, ⟨by omega, by omega, by omega, by omega⟩, ⟨by omega, by omega, by omega⟩, HK.out.trans (Kept.fresh HM.out.2.2) (fun _ _ h => h)⟩
end Go.Proofs.YteglimjonofdeaaGreatDoor
