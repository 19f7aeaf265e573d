import Derived.Test.YteglimjonofdeaaGreatDoorCFwdM
set_option linter.unusedVariables false
set_option linter.unusedSimpArgs false
namespace Go.Proofs.YteglimjonofdeaaGreatDoor
open Go.RowKit

/-- A node that has heard a Forward. -/
def hearZ (z : Nv) : Nv := { z with hd := true }
/-- A node that knows n entries to be in all logs. -/
def knowZ (z : Nv) (n : Int) : Nv := { z with kn := n }
/-- One of a node's cells is written. -/
theorem Al.setNd {K : Nat → Int} {z z' : Nv} {nd q bb N j u : Nat} {C : Nat → List Int} {l : ByteArray} {bk lm m cc ky : Nat} {lv : Value} {L : List En} {G F : Nat → Prop} {D : DataW Unit} {W : World} {i : Nat} {v : Value} (h : Al K W z nd q bb N j u C l bk lm m cc ky lv L G F D) (hL : ndL z' bk = (ndL z bk).set i v) (hT : nd ≠ 1) :
    Al K (W.setCell ⟨nd, i, none⟩ v) z' nd q bb N j u C l bk lm m cc ky lv L G F D := by
  have k : Kept (· = nd) W (W.setCell ⟨nd, i, none⟩ v) := Kept.setCell _ _ _ (Or.inl rfl)
  have hj : ∀ g, jOwn q bb j g → ¬ g = nd := fun g hg e => h.nap.2 (e ▸ hg)
  have hb : ∀ g, bkOwn bk lm lv G g → ¬ g = nd := fun g hg e => h.nap.1 (e ▸ hg)
  refine ⟨fun x u hu => ?_, World.there_setCells h.room nd i [v], Nat.lt_of_lt_of_le h.nlt k.size, h.jat.kept k hj, h.book.kept k hb, h.ap, h.nap, h.tab.kept k (fun e => hT e.symm), h.tap⟩
  rw [hL] at hu
  rw [Nat.zero_add]
  by_cases e : x = i
  · subst e
    have hlt : x < ((ndL z bk).set x v).length := (List.getElem?_eq_some_iff.1 hu).1
    rw [List.length_set] at hlt
    rw [List.getElem?_set_self hlt] at hu
    have := h.node x _ (List.getElem?_eq_getElem hlt)
    rw [Nat.zero_add] at this
    exact (World.cell?_setCell_same _ ⟨nd, x, none⟩ _ this).trans hu
  · rw [List.getElem?_set_ne (fun e2 => e e2.symm)] at hu
    rw [World.cell?_setCell_other _ _ _ _ (by intro e2; have := congrArg Addr.off e2; simp at this; omega)]
    have := h.node x u hu
    rw [Nat.zero_add] at this
    exact this
theorem Al.ndT {K : Nat → Int} {z : Nv} {nd q bb N j u : Nat} {C : Nat → List Int} {l : ByteArray} {bk lm m cc ky : Nat} {lv : Value} {L : List En} {G F : Nat → Prop} {D : DataW Unit} {W : World} (h : Al K W z nd q bb N j u C l bk lm m cc ky lv L G F D) : nd ≠ 1 := fun e => by
  have h0 := h.node 0 _ rfl
  have hc := h.tab.cells 0 (by decide)
  rw [← e] at hc
  rw [Nat.add_zero] at h0
  rw [h0] at hc
  cases hc
theorem ackOf_hear (z : Nv) (n : Nat) : ackOf (hearZ z) n = ackOf z n := rfl
theorem fw_info (i : Nat) (c n o p v : Int) (t : ByteArray) : (Tryz.prog.info? 200).map (·.size) = some (fwCells (i : Nat) c n o p v t).length := by show _ = some 7; kernel_rfl

set_option maxRecDepth 10000 in
set_option maxHeartbeats 4000000 in
theorem tf_old (K : Nat → Int) (z : Nv) (nd q bb N j u : Nat) (C : Nat → List Int) (l : ByteArray) (bk lm m cc ky : Nat) (lv : Value) (L : List En) (G F : Nat → Prop) (D : DataW Unit) (i : Nat) (c n o p v : Int) (t : ByteArray) (w : World) (h : Al K w z nd q bb N j u C l bk lm m cc ky lv L G F D) (h1 : 1 ≤ z.r) (h2 : z.r ≤ 2) (a : Int) (ha : ackOf z L.length = a) (ha0 : 0 ≤ a ∧ a ≤ 1000) (hi : i ≤ L.length) (hL : L.length < 1000) :
    Calls Tryz.prog 108 #[.pointer (some ⟨nd, 0, none⟩), .agg (fwCells (i : Nat) c n o p v t).toArray] w fun e w' => ∃ v, e = .returned (.tuple #[v, .nilIface]) ∧ OutAt w' v [(z.r - 1, mkT 75 a ⟨#[]⟩)] ∧ Al K w' (hearZ z) nd q bb N j u C l bk lm m cc ky lv L G F D ∧ Kept (· = nd) w w' := by
  obtain ⟨V, hV⟩ : ∃ V, V = w.alloc (.cells (fwCells (i : Nat) c n o p v t).toArray 200) := ⟨_, rfl⟩
  have hVs : V.heap.size = w.heap.size + 1 := by rw [hV]; simp
  have bV : Below w.heap.size w V := by rw [hV]; exact (Below.refl _ _).alloc (Nat.le_refl _) _
  have AV := h.fresh bV
  have hp := nd_place AV.node
  have hpl := info_pl z
  have HAV : Hid (Al K V z nd q bb N j u C l bk lm m cc ky lv L G F D) := AV
  have HBV : Hid (Below w.heap.size w V) := bV
  have HNL : Hid (nd < w.heap.size) := h.nlt
  have HNT : Hid (nd ≠ 1) := h.ndT
  have rV : V.rangeAt w.heap.size 0 (fwCells (i : Nat) c n o p v t) := by rw [hV]; exact range_new _ _ _
  have HRV : Hid (V.rangeAt w.heap.size 0 (fwCells (i : Nat) c n o p v t)) := rV
  have hfi := first_any z V
  rw [decide_eq_false (show ¬ z.r = 0 by omega)] at hfi
  clear h AV bV rV
  go_enter Tryz.func108, Tryz.ntmps108
  go_wp2_with (first
    | (rw [← hV]; clear hV)
    | (refine wpList_load_mid rfl 108 _ rfl nd 0 rfl (plL z) _ hp Tryz.underlying108 rfl hpl ?_))
  refine hfi.mono ?_
  rintro e W1 ⟨rfl, hb1⟩
  have s1 := hb1.size
  have A1 : Al K W1 z nd q bb N j u C l bk lm m cc ky lv L G F D := HAV.out.fresh hb1
  have c6 : W1.cell? ⟨nd, 6, none⟩ = some (.bool z.hd) := A1.node 6 _ rfl
  have f6 : W1.frozen? ⟨nd, 6, none⟩ = false := (A1.room 6 (by omega)).2
  obtain ⟨W2, h2'⟩ : ∃ X, X = W1.setCell ⟨nd, 6, none⟩ (.bool true) := ⟨_, rfl⟩
  have s2 : W2.heap.size = W1.heap.size := by rw [h2']; simp
  have A2 : Hid (Al K W2 (hearZ z) nd q bb N j u C l bk lm m cc ky lv L G F D) := by show Al _ _ _ _ _ _ _ _ _ _ _ _ _ _ _ _ _ _ _ _ _; rw [h2']; exact A1.setNd rfl HNT.out
  have k2 : Kept (· = nd) W1 W2 := by rw [h2']; exact Kept.setCell _ _ _ (Or.inl rfl)
  have K2 : Hid (Kept (· = nd) w W2) := ((Kept.fresh HBV.out).trans (Kept.fresh (S := (· = nd)) hb1) (fun _ _ h => h)).trans k2 (fun _ _ h => h)
  have r2 : W2.rangeAt w.heap.size 0 (fwCells (i : Nat) c n o p v t) := range_kept (range_kept HRV.out (Kept.fresh (S := fun _ => False) hb1) (by omega) id) k2 (by omega) (by show ¬ w.heap.size = nd; have := HNL.out; omega)
  obtain ⟨sa, scap, hslv⟩ := A2.out.book.slice
  have c2 : W2.cell? ⟨nd, 2, none⟩ = some (.pointer (some ⟨bk, 0, none⟩)) := A2.out.node 2 _ rfl
  have hen := bentries_any bk sa L.length scap W2 (by rw [← hslv]; exact A2.out.book.cells 1 _ rfl)
  have R2 : Hid (W2.rangeAt w.heap.size 0 (fwCells (i : Nat) c n o p v t)) := r2
  have n2 : W2.cell? ⟨w.heap.size, 0, none⟩ = some (.int .i64 (i : Nat)) := r2 0 _ rfl
  have t1 : (i : Int) ≤ (L.length : Int) := by omega
  have hack := ack_any K (hearZ z) nd q bb N j u C l bk lm m cc ky lv L G F D a W2 A2.out h1 h2 ha ha0
  have hsl := slice_pkC (z.r - 1) (mkT 75 a ⟨#[]⟩)
  clear A1 hb1 k2 r2 hfi hp
  go_wp2_with (first | (rw [← h2']; clear h2'))
  refine hen.mono ?_
  rintro e W3 ⟨rfl, hw3⟩
  obtain rfl : W2 = W3 := hw3.symm
  clear hw3 hen
  go_wp2_with fail
  refine hack.mono ?_
  rintro e W3 ⟨rfl, hb3⟩
  have A3 : Hid (Al K W3 (hearZ z) nd q bb N j u C l bk lm m cc ky lv L G F D) := A2.out.fresh hb3
  have K3 : Hid (Kept (· = nd) w W3) := K2.out.trans (Kept.fresh (S := (· = nd)) hb3) (fun _ _ h => h)
  clear hack hb3
  unfold hearZ at *
  go_wp2_with (first | (refine wpList_slice_one rfl 33 44 _ rfl (pkC (z.r - 1) (mkT 75 a ⟨#[]⟩)) rfl hsl ?_))
  go_ret2
  have b4 : Below W3.heap.size W3 (W3.alloc (.cells (pkC (z.r - 1) (mkT 75 a ⟨#[]⟩)).toArray 44)) := (Below.refl _ _).alloc (Nat.le_refl _) _
  exact ⟨_, rfl, OutAt.one (by simp) (range_new _ _ _), A3.out.fresh b4, K3.out.trans (Kept.fresh (S := (· = nd)) b4) (fun _ _ h => h)⟩

set_option maxRecDepth 10000 in
set_option maxHeartbeats 4000000 in
theorem tf_new (K : Nat → Int) (z : Nv) (nd q bb N j u : Nat) (C : Nat → List Int) (l : ByteArray) (bk lm m cc ky : Nat) (lv : Value) (L : List En) (G F : Nat → Prop) (D : DataW Unit) (i : Nat) (c n o p v : Int) (t : ByteArray) (w : World) (h : Al K w z nd q bb N j u C l bk lm m cc ky lv L G F D) (h1 : 1 ≤ z.r) (h2 : z.r ≤ 2) (no : Int) (x : Nat) (hw : rqWhole c n o p v t = true) (hl : lastIs L D c no x) (hno : no < n) (hi : i = L.length + 1) (hL : L.length < 1000) (R : World → Value → Value → World → Prop) (hin : ∀ W, Kept (· = nd) w W → Al K W (hearZ z) nd q bb N j u C l bk lm m cc ky lv L G F D → Calls Tryz.prog 61 #[.pointer (some ⟨nd, 0, none⟩), .agg (rqCells c n o p v t).toArray] W fun e w' => ∃ s r, e = .returned (.tuple #[s, r]) ∧ R W s r w') :
    Calls Tryz.prog 108 #[.pointer (some ⟨nd, 0, none⟩), .agg (fwCells (i : Nat) c n o p v t).toArray] w fun e w' => ∃ W s r, Kept (· = nd) w W ∧ Al K W (hearZ z) nd q bb N j u C l bk lm m cc ky lv L G F D ∧ e = .returned (.tuple #[s, r]) ∧ R W s r w' := by
  obtain ⟨V, hV⟩ : ∃ V, V = w.alloc (.cells (fwCells (i : Nat) c n o p v t).toArray 200) := ⟨_, rfl⟩
  have hVs : V.heap.size = w.heap.size + 1 := by rw [hV]; simp
  have bV : Below w.heap.size w V := by rw [hV]; exact (Below.refl _ _).alloc (Nat.le_refl _) _
  have AV := h.fresh bV
  have hp := nd_place AV.node
  have hpl := info_pl z
  have HAV : Hid (Al K V z nd q bb N j u C l bk lm m cc ky lv L G F D) := AV
  have HBV : Hid (Below w.heap.size w V) := bV
  have HNL : Hid (nd < w.heap.size) := h.nlt
  have HNT : Hid (nd ≠ 1) := h.ndT
  have rV : V.rangeAt w.heap.size 0 (fwCells (i : Nat) c n o p v t) := by rw [hV]; exact range_new _ _ _
  have HRV : Hid (V.rangeAt w.heap.size 0 (fwCells (i : Nat) c n o p v t)) := rV
  have hfi := first_any z V
  rw [decide_eq_false (show ¬ z.r = 0 by omega)] at hfi
  clear h AV bV rV
  have HI : Hid (i = L.length + 1) := hi
  clear hi
  go_enter Tryz.func108, Tryz.ntmps108
  go_wp2_with (first
    | (rw [← hV]; clear hV)
    | (refine wpList_load_mid rfl 108 _ rfl nd 0 rfl (plL z) _ hp Tryz.underlying108 rfl hpl ?_))
  refine hfi.mono ?_
  rintro e W1 ⟨rfl, hb1⟩
  have s1 := hb1.size
  have A1 : Al K W1 z nd q bb N j u C l bk lm m cc ky lv L G F D := HAV.out.fresh hb1
  have c6 : W1.cell? ⟨nd, 6, none⟩ = some (.bool z.hd) := A1.node 6 _ rfl
  have f6 : W1.frozen? ⟨nd, 6, none⟩ = false := (A1.room 6 (by omega)).2
  obtain ⟨W2, h2'⟩ : ∃ X, X = W1.setCell ⟨nd, 6, none⟩ (.bool true) := ⟨_, rfl⟩
  have s2 : W2.heap.size = W1.heap.size := by rw [h2']; simp
  have A2 : Hid (Al K W2 (hearZ z) nd q bb N j u C l bk lm m cc ky lv L G F D) := by show Al _ _ _ _ _ _ _ _ _ _ _ _ _ _ _ _ _ _ _ _ _; rw [h2']; exact A1.setNd rfl HNT.out
  have k2 : Kept (· = nd) W1 W2 := by rw [h2']; exact Kept.setCell _ _ _ (Or.inl rfl)
  have K2 : Hid (Kept (· = nd) w W2) := ((Kept.fresh HBV.out).trans (Kept.fresh (S := (· = nd)) hb1) (fun _ _ h => h)).trans k2 (fun _ _ h => h)
  have r2 : W2.rangeAt w.heap.size 0 (fwCells (i : Nat) c n o p v t) := range_kept (range_kept HRV.out (Kept.fresh (S := fun _ => False) hb1) (by omega) id) k2 (by omega) (by show ¬ w.heap.size = nd; have := HNL.out; omega)
  obtain ⟨sa, scap, hslv⟩ := A2.out.book.slice
  have c2 : W2.cell? ⟨nd, 2, none⟩ = some (.pointer (some ⟨bk, 0, none⟩)) := A2.out.node 2 _ rfl
  have hen := bentries_any bk sa L.length scap W2 (by rw [← hslv]; exact A2.out.book.cells 1 _ rfl)
  have R2 : Hid (W2.rangeAt w.heap.size 0 (fwCells (i : Nat) c n o p v t)) := r2
  have n2 : W2.cell? ⟨w.heap.size, 0, none⟩ = some (.int .i64 (i : Nat)) := r2 0 _ rfl
  obtain ⟨⟨c1, c9⟩, ⟨n1, n9⟩, _, _, _, ht8⟩ := rq_bounds hw
  have t1 : ¬ (i : Int) ≤ (L.length : Int) := by have := HI.out; omega
  have t2 : ¬ (L.length : Int) < (i : Int) - 1 := by have := HI.out; omega
  have t3 : ¬ n ≤ no := by omega
  have i9 : (i : Int) ≤ 1000 := by have := HI.out; omega
  have i0 : (0 : Int) ≤ (i : Int) := by omega
  have J0 : W2.drew.rangeAt w.heap.size 0 (fwCells (i : Nat) c n o p v t) ∧ W2.drew.cell? ⟨nd, 2, none⟩ = some (.pointer (some ⟨bk, 0, none⟩)) := ⟨R2.out, c2⟩
  clear A1 hb1 k2 r2 hfi hp
  go_wp2_with (first | (rw [← h2']; clear h2'))
  refine hen.mono ?_
  rintro e W3 ⟨rfl, hw3⟩
  obtain rfl : W2 = W3 := hw3.symm
  clear hw3 hen
  go_wp2_with fail
  refine wp_region_noPanic ?_
  refine wp_region_held_drew (S := fun W => W.rangeAt w.heap.size 0 (fwCells (i : Nat) c n o p v t) ∧ W.cell? ⟨nd, 2, none⟩ = some (.pointer (some ⟨bk, 0, none⟩))) (by kernel_rfl) J0 (fun _ => ?_)
  refine wpAnyH_take (i := 0) (v := ?_) rfl (by kernel_rfl) (by kernel_rfl) (by kernel_rfl) (fun _ _ _ h => h) (Or.inl ⟨by rfl, ?_⟩) J0 ?_
  rotate_left 1
  · intro W hSW; clear hSW; go_simp; try with_reducible rfl
  simp only [qA, qB, qC, Act.put, qD, qE, qF]
  refine wpAnyH_take (i := 1) (v := ?_) rfl (by kernel_rfl) (by kernel_rfl) (by kernel_rfl) (fun _ _ _ h => h) (Or.inl ⟨by rfl, ?_⟩) J0 ?_
  rotate_left 1
  · intro W hSW; clear hSW; go_simp; try with_reducible rfl
  simp only [qA, qB, qC, Act.put, qD, qE, qF]
  refine wpAnyH_take (i := 2) (v := ?_) rfl (by kernel_rfl) (by kernel_rfl) (by kernel_rfl) (fun _ _ _ h => h) (Or.inl ⟨by rfl, ?_⟩) J0 ?_
  rotate_left 1
  · intro W hSW; have qn : W.cell? ⟨w.heap.size, 2, none⟩ = some (.int .i64 n) := hSW.1 2 _ rfl; clear hSW; go_simp; try with_reducible rfl
  simp only [qA, qB, qC, Act.put, qD, qE, qF]
  refine wpAnyH_take (i := 3) (v := ?_) rfl (by kernel_rfl) (by kernel_rfl) (by kernel_rfl) (fun _ _ _ h => h) (Or.inl ⟨by rfl, ?_⟩) J0 ?_
  rotate_left 1
  · intro W hSW; clear hSW; go_simp; try with_reducible rfl
  simp only [qA, qB, qC, Act.put, qD, qE, qF]
  refine wpAnyH_take (i := 4) (v := ?_) rfl (by kernel_rfl) (by kernel_rfl) (by kernel_rfl) (fun _ _ _ h => h) (Or.inl ⟨by rfl, ?_⟩) J0 ?_
  rotate_left 1
  · intro W hSW; clear hSW; go_simp; try with_reducible rfl
  simp only [qA, qB, qC, Act.put, qD, qE, qF]
  refine wpAnyH_take (i := 5) (v := ?_) rfl (by kernel_rfl) (by kernel_rfl) (by kernel_rfl) (fun _ _ _ h => h) (Or.inl ⟨by rfl, ?_⟩) J0 ?_
  rotate_left 1
  · intro W hSW; clear hSW; go_simp; try with_reducible rfl
  simp only [qA, qB, qC, Act.put, qD, qE, qF]
  refine wpAnyH_take (i := 6) (v := ?_) rfl (by kernel_rfl) (by kernel_rfl) (by kernel_rfl) (fun _ _ _ h => h) (Or.inl ⟨by rfl, ?_⟩) J0 ?_
  rotate_left 1
  · intro W hSW; have qc := hSW.2; clear hSW; go_simp; try with_reducible rfl
  simp only [qA, qB, qC, Act.put, qD, qE, qF]
  refine wpAnyH_take (i := 7) (v := ?_) rfl (by kernel_rfl) (by kernel_rfl) (by kernel_rfl) (fun _ _ _ h => h) (Or.inl ⟨by rfl, ?_⟩) J0 ?_
  rotate_left 1
  · intro W hSW; clear hSW; go_simp; try with_reducible rfl
  simp only [qA, qB, qC, Act.put, qD, qE, qF]
  refine wpAnyH_take (i := 8) (v := ?_) rfl (by kernel_rfl) (by kernel_rfl) (by kernel_rfl) (fun _ _ _ h => h) (Or.inl ⟨by rfl, ?_⟩) J0 ?_
  rotate_left 1
  · intro W hSW; clear hSW; go_simp; try with_reducible rfl
  simp only [qA, qB, qC, Act.put, qD, qE, qF]
  refine wpAnyH_take (i := 9) (v := ?_) rfl (by kernel_rfl) (by kernel_rfl) (by kernel_rfl) (fun _ _ _ h => h) (Or.inl ⟨by rfl, ?_⟩) J0 ?_
  rotate_left 1
  · intro W hSW; have qn : W.cell? ⟨w.heap.size, 1, none⟩ = some (.int .i64 c) := hSW.1 1 _ rfl; clear hSW; go_simp; try with_reducible rfl
  simp only [qA, qB, qC, Act.put, qD, qE, qF]
  refine wpAnyH_ready (rs := [10]) (by kernel_rfl) (by simp) ?_
  refine AllReadyH.cons rfl (fun K' hK' => ?_) AllReadyH.nil
  rw [if_pos (by rfl)]
  go_simp
  refine (lastno_any bk j lm m cc ky lv L G F D c no x W2.drew A2.out.book.drew (by omega) hl (by omega)).mono ?_
  rintro e W3 ⟨rfl, hb3⟩
  have b3 : Below W2.heap.size W2 W3 := ((Below.refl W2.heap.size W2).drew).trans hb3
  have s3 := b3.size
  have A3 : Hid (Al K W3 (hearZ z) nd q bb N j u C l bk lm m cc ky lv L G F D) := A2.out.fresh b3
  have J3 : W3.rangeAt w.heap.size 0 (fwCells (i : Nat) c n o p v t) ∧ W3.cell? ⟨nd, 2, none⟩ = some (.pointer (some ⟨bk, 0, none⟩)) := ⟨range_kept (W := W2) J0.1 (Kept.fresh (S := fun _ => False) b3) (by omega) id, A3.out.node 2 _ rfl⟩
  have K3 : Hid (Kept (· = nd) w W3) := K2.out.trans (Kept.fresh (S := (· = nd)) b3) (fun _ _ h => h)
  clear hb3 b3
  refine hK'.out _ _ J3 (fun _ => ?_)
  clear hK' K'
  try simp only [qA, qB, qC, Act.put, qD, qE, qF]
  refine wpAnyH_take (i := 11) (v := ?_) rfl (by kernel_rfl) (by kernel_rfl) (by kernel_rfl) (fun _ _ _ h => h) (Or.inl ⟨by rfl, ?_⟩) J3 ?_
  rotate_left 1
  · intro W hSW; clear hSW; go_simp; try with_reducible rfl
  simp only [qA, qB, qC, Act.put, qD, qE, qF]
  refine wpAnyH_take (i := 12) (v := ?_) rfl (by kernel_rfl) (by kernel_rfl) (by kernel_rfl) (fun _ _ _ h => h) (Or.inl ⟨by rfl, ?_⟩) J3 ?_
  rotate_left 1
  · intro W hSW; clear hSW; go_simp; try with_reducible rfl
  simp only [qA, qB, qC, Act.put, qD, qE, qF]
  refine ⟨by kernel_rfl, ?_⟩
  refine NoPanic.normal ?_
  try simp only [qA, qB, qC, Act.put, qD, qE, qF]
  have htk := hin W3 K3.out A3.out
  have rq3 := fw_rq J3.1
  have HQ : Hid ((Tryz.prog.info? 29).map (·.size) = some (rqCells c n o p v t).length) := info_rq c n o p v t
  clear hin
  go_wp2_with (first
    | (refine wpList_load_mid rfl 29 _ rfl w.heap.size 1 rfl (rqCells c n o p v t) _ rq3 Tryz.underlying29 rfl HQ.out ?_))
  refine htk.mono ?_
  rintro e W4 ⟨s, r, rfl, hR⟩
  have HR : Hid (R W3 s r W4) := hR
  clear hR htk
  go_wp2_with fail
  go_ret2
  exact ⟨W3, s, r, K3.out, A3.out, rfl, HR.out⟩

set_option maxRecDepth 10000 in
set_option maxHeartbeats 4000000 in
theorem ta_old (K : Nat → Int) (z : Nv) (nd q bb N j u : Nat) (C : Nat → List Int) (l : ByteArray) (bk lm m cc ky : Nat) (lv : Value) (L : List En) (G F : Nat → Prop) (D : DataW Unit) (i : Nat) (kn : Int) (w : World) (h : Al K w z nd q bb N j u C l bk lm m cc ky lv L G F D) (h0 : 0 ≤ z.r) (h2 : z.r ≤ 2) (hz : z.r ≠ z.last) (hkn : z.kn = kn) (hi : (i : Int) ≤ kn) :
    Calls Tryz.prog 109 #[.pointer (some ⟨nd, 0, none⟩), .agg #[.int .i64 (i : Nat)]] w fun e w' => e = .returned (.tuple #[.slice none 0 0, .nilIface]) ∧ Below w.heap.size w w' := by
  obtain ⟨V, hV⟩ : ∃ V, V = w.alloc (.cells #[.int .i64 (i : Nat)] 202) := ⟨_, rfl⟩
  have hVs : V.heap.size = w.heap.size + 1 := by rw [hV]; simp
  have bV : Below w.heap.size w V := by rw [hV]; exact (Below.refl _ _).alloc (Nat.le_refl _) _
  have AV := h.fresh bV
  have hp := nd_place AV.node
  have hpl := info_pl z
  have HAV : Hid (Al K V z nd q bb N j u C l bk lm m cc ky lv L G F D) := AV
  have HBV : Hid (Below w.heap.size w V) := bV
  have HNL : Hid (nd < w.heap.size) := h.nlt
  have HNT : Hid (nd ≠ 1) := h.ndT
  have rV : V.cell? ⟨w.heap.size, 0, none⟩ = some (.int .i64 (i : Nat)) := by rw [hV, World.cell?_alloc_at _ _ _ _ rfl]; rfl
  have HRV : Hid (V.cell? ⟨w.heap.size, 0, none⟩ = some (.int .i64 (i : Nat))) := rV
  have hla := last_any z V
  rw [decide_eq_false hz] at hla
  clear h AV bV rV hz
  go_enter Tryz.func109, Tryz.ntmps109
  go_wp2_with (first
    | (rw [← hV]; clear hV)
    | (refine wpList_load_mid rfl 108 _ rfl nd 0 rfl (plL z) _ hp Tryz.underlying108 rfl hpl ?_))
  refine hla.mono ?_
  rintro e W1 ⟨rfl, hb1⟩
  have s1 := hb1.size
  have A1 : Hid (Al K W1 z nd q bb N j u C l bk lm m cc ky lv L G F D) := HAV.out.fresh hb1
  have K1 : Hid (Below w.heap.size w W1) := HBV.out.trans (hb1.mono (by omega))
  have n1 : W1.cell? ⟨w.heap.size, 0, none⟩ = some (.int .i64 (i : Nat)) := (hb1.cell (p := ⟨w.heap.size, 0, none⟩) (by show w.heap.size < _; omega)).trans HRV.out
  have J0 : W1.drew.cell? ⟨w.heap.size, 0, none⟩ = some (.int .i64 (i : Nat)) ∧ W1.drew.cell? ⟨nd, 2, none⟩ = some (.pointer (some ⟨bk, 0, none⟩)) ∧ W1.drew.cell? ⟨nd, 5, none⟩ = some (.int .i64 kn) := ⟨n1, A1.out.node 2 _ rfl, by rw [← hkn]; exact A1.out.node 5 _ rfl⟩
  obtain ⟨sa, scap, hslv⟩ := A1.out.book.slice
  have t1 : (i : Int) ≤ kn := hi
  clear hb1 hla hp
  go_wp2_with fail
  refine wp_region_noPanic ?_
  refine wp_region_held_drew (S := fun W => W.cell? ⟨w.heap.size, 0, none⟩ = some (.int .i64 (i : Nat)) ∧ W.cell? ⟨nd, 2, none⟩ = some (.pointer (some ⟨bk, 0, none⟩)) ∧ W.cell? ⟨nd, 5, none⟩ = some (.int .i64 kn)) (by kernel_rfl) J0 (fun _ => ?_)
  refine wpAnyH_take (i := 0) (v := ?_) rfl (by kernel_rfl) (by kernel_rfl) (by kernel_rfl) (fun _ _ _ h => h) (Or.inl ⟨by rfl, ?_⟩) J0 ?_
  rotate_left 1
  · intro W hSW; clear hSW; go_simp; try with_reducible rfl
  simp only [qA, qB, qC, Act.put, qD, qE, qF]
  refine wpAnyH_take (i := 1) (v := ?_) rfl (by kernel_rfl) (by kernel_rfl) (by kernel_rfl) (fun _ _ _ h => h) (Or.inl ⟨by rfl, ?_⟩) J0 ?_
  rotate_left 1
  · intro W hSW; have qn := hSW.1; clear hSW; go_simp; try with_reducible rfl
  simp only [qA, qB, qC, Act.put, qD, qE, qF]
  refine wpAnyH_take (i := 2) (v := ?_) rfl (by kernel_rfl) (by kernel_rfl) (by kernel_rfl) (fun _ _ _ h => h) (Or.inl ⟨by rfl, ?_⟩) J0 ?_
  rotate_left 1
  · intro W hSW; clear hSW; go_simp; try with_reducible rfl
  simp only [qA, qB, qC, Act.put, qD, qE, qF]
  refine wpAnyH_take (i := 3) (v := ?_) rfl (by kernel_rfl) (by kernel_rfl) (by kernel_rfl) (fun _ _ _ h => h) (Or.inl ⟨by rfl, ?_⟩) J0 ?_
  rotate_left 1
  · intro W hSW; clear hSW; go_simp; try with_reducible rfl
  simp only [qA, qB, qC, Act.put, qD, qE, qF]
  refine wpAnyH_take (i := 4) (v := ?_) rfl (by kernel_rfl) (by kernel_rfl) (by kernel_rfl) (fun _ _ _ h => h) (Or.inl ⟨by rfl, ?_⟩) J0 ?_
  rotate_left 1
  · intro W hSW; clear hSW; go_simp; try with_reducible rfl
  simp only [qA, qB, qC, Act.put, qD, qE, qF]
  refine wpAnyH_take (i := 5) (v := ?_) rfl (by kernel_rfl) (by kernel_rfl) (by kernel_rfl) (fun _ _ _ h => h) (Or.inl ⟨by rfl, ?_⟩) J0 ?_
  rotate_left 1
  · intro W hSW; have qk := hSW.2.2; clear hSW; go_simp; try with_reducible rfl
  simp only [qA, qB, qC, Act.put, qD, qE, qF]
  refine wpAnyH_take (i := 6) (v := .bool true) rfl (by kernel_rfl) (by kernel_rfl) (by kernel_rfl) (fun _ _ _ h => h) (Or.inl ⟨by rfl, ?_⟩) J0 ?_
  · intro W hSW; clear hSW; go_simp; try simp [t1]
  simp only [qA, qB, qC, Act.put, qD, qE, qF]
  refine wpAnyH_take (i := 7) (v := .bool true) rfl (by kernel_rfl) (by kernel_rfl) (by kernel_rfl) (fun _ _ _ h => h) (Or.inl ⟨by rfl, ?_⟩) J0 ?_
  · intro W hSW; clear hSW; go_simp; try simp [t1]
  simp only [qA, qB, qC, Act.put, qD, qE, qF]
  refine wpAnyH_take (i := 8) (v := undef) rfl (by kernel_rfl) (by kernel_rfl) (by kernel_rfl) (fun _ _ _ h => h) (Or.inr ⟨by rfl, rfl⟩) J0 ?_
  simp only [qA, qB, qC, Act.put, qD, qE, qF]
  refine wpAnyH_take (i := 9) (v := undef) rfl (by kernel_rfl) (by kernel_rfl) (by kernel_rfl) (fun _ _ _ h => h) (Or.inr ⟨by rfl, rfl⟩) J0 ?_
  simp only [qA, qB, qC, Act.put, qD, qE, qF]
  refine wpAnyH_take (i := 10) (v := undef) rfl (by kernel_rfl) (by kernel_rfl) (by kernel_rfl) (fun _ _ _ h => h) (Or.inr ⟨by rfl, rfl⟩) J0 ?_
  simp only [qA, qB, qC, Act.put, qD, qE, qF]
  refine wpAnyH_take (i := 11) (v := undef) rfl (by kernel_rfl) (by kernel_rfl) (by kernel_rfl) (fun _ _ _ h => h) (Or.inr ⟨by rfl, rfl⟩) J0 ?_
  simp only [qA, qB, qC, Act.put, qD, qE, qF]
  refine wpAnyH_take (i := 12) (v := undef) rfl (by kernel_rfl) (by kernel_rfl) (by kernel_rfl) (fun _ _ _ h => h) (Or.inr ⟨by rfl, rfl⟩) J0 ?_
  simp only [qA, qB, qC, Act.put, qD, qE, qF]
  refine wpAnyH_take (i := 13) (v := undef) rfl (by kernel_rfl) (by kernel_rfl) (by kernel_rfl) (fun _ _ _ h => h) (Or.inr ⟨by rfl, rfl⟩) J0 ?_
  simp only [qA, qB, qC, Act.put, qD, qE, qF]
  refine wpAnyH_take (i := 14) (v := undef) rfl (by kernel_rfl) (by kernel_rfl) (by kernel_rfl) (fun _ _ _ h => h) (Or.inr ⟨by rfl, rfl⟩) J0 ?_
  simp only [qA, qB, qC, Act.put, qD, qE, qF]
  refine wpAnyH_take (i := 15) (v := undef) rfl (by kernel_rfl) (by kernel_rfl) (by kernel_rfl) (fun _ _ _ h => h) (Or.inr ⟨by rfl, rfl⟩) J0 ?_
  simp only [qA, qB, qC, Act.put, qD, qE, qF]
  refine wpAnyH_take (i := 16) (v := .bool true) rfl (by kernel_rfl) (by kernel_rfl) (by kernel_rfl) (fun _ _ _ h => h) (Or.inl ⟨by rfl, ?_⟩) J0 ?_
  · intro W hSW; clear hSW; go_simp; try simp [t1]
  simp only [qA, qB, qC, Act.put, qD, qE, qF]
  refine ⟨by kernel_rfl, ?_⟩
  refine NoPanic.normal ?_
  try simp only [qA, qB, qC, Act.put, qD, qE, qF]
  go_wp2_with fail
  go_ret2
  exact ⟨rfl, (K1.out).drew⟩

set_option maxRecDepth 10000 in
set_option maxHeartbeats 4000000 in
theorem ta_first (K : Nat → Int) (z : Nv) (nd q bb N j u : Nat) (C : Nat → List Int) (l : ByteArray) (bk lm m cc ky : Nat) (lv : Value) (L : List En) (G F : Nat → Prop) (D : DataW Unit) (i : Nat) (kn : Int) (w : World) (h : Al K w z nd q bb N j u C l bk lm m cc ky lv L G F D) (h0 : 0 ≤ z.r) (h2 : z.r ≤ 2) (hz : z.r ≠ z.last) (hkn : z.kn = kn) (hz0 : z.r = 0) (hi : kn < (i : Int)) (hiL : i ≤ L.length) :
    Calls Tryz.prog 109 #[.pointer (some ⟨nd, 0, none⟩), .agg #[.int .i64 (i : Nat)]] w fun e w' => e = .returned (.tuple #[.slice none 0 0, .nilIface]) ∧ Al K w' (knowZ z (i : Nat)) nd q bb N j u C l bk lm m cc ky lv L G F D ∧ Kept (· = nd) w w' := by
  obtain ⟨V, hV⟩ : ∃ V, V = w.alloc (.cells #[.int .i64 (i : Nat)] 202) := ⟨_, rfl⟩
  have hVs : V.heap.size = w.heap.size + 1 := by rw [hV]; simp
  have bV : Below w.heap.size w V := by rw [hV]; exact (Below.refl _ _).alloc (Nat.le_refl _) _
  have AV := h.fresh bV
  have hp := nd_place AV.node
  have hpl := info_pl z
  have HAV : Hid (Al K V z nd q bb N j u C l bk lm m cc ky lv L G F D) := AV
  have HBV : Hid (Below w.heap.size w V) := bV
  have HNL : Hid (nd < w.heap.size) := h.nlt
  have HNT : Hid (nd ≠ 1) := h.ndT
  have rV : V.cell? ⟨w.heap.size, 0, none⟩ = some (.int .i64 (i : Nat)) := by rw [hV, World.cell?_alloc_at _ _ _ _ rfl]; rfl
  have HRV : Hid (V.cell? ⟨w.heap.size, 0, none⟩ = some (.int .i64 (i : Nat))) := rV
  have hla := last_any z V
  rw [decide_eq_false hz] at hla
  clear h AV bV rV hz
  go_enter Tryz.func109, Tryz.ntmps109
  go_wp2_with (first
    | (rw [← hV]; clear hV)
    | (refine wpList_load_mid rfl 108 _ rfl nd 0 rfl (plL z) _ hp Tryz.underlying108 rfl hpl ?_))
  refine hla.mono ?_
  rintro e W1 ⟨rfl, hb1⟩
  have s1 := hb1.size
  have A1 : Hid (Al K W1 z nd q bb N j u C l bk lm m cc ky lv L G F D) := HAV.out.fresh hb1
  have K1 : Hid (Below w.heap.size w W1) := HBV.out.trans (hb1.mono (by omega))
  have n1 : W1.cell? ⟨w.heap.size, 0, none⟩ = some (.int .i64 (i : Nat)) := (hb1.cell (p := ⟨w.heap.size, 0, none⟩) (by show w.heap.size < _; omega)).trans HRV.out
  have J0 : W1.drew.cell? ⟨w.heap.size, 0, none⟩ = some (.int .i64 (i : Nat)) ∧ W1.drew.cell? ⟨nd, 2, none⟩ = some (.pointer (some ⟨bk, 0, none⟩)) ∧ W1.drew.cell? ⟨nd, 5, none⟩ = some (.int .i64 kn) := ⟨n1, A1.out.node 2 _ rfl, by rw [← hkn]; exact A1.out.node 5 _ rfl⟩
  obtain ⟨sa, scap, hslv⟩ := A1.out.book.slice
  have t1 : ¬ (i : Int) ≤ kn := by omega
  have t2 : ¬ (L.length : Int) < (i : Int) := by omega
  have hfi := first_any z
  simp only [decide_eq_true hz0] at hfi
  clear hb1 hla hp
  go_wp2_with fail
  refine wp_region_noPanic ?_
  refine wp_region_held_drew (S := fun W => W.cell? ⟨w.heap.size, 0, none⟩ = some (.int .i64 (i : Nat)) ∧ W.cell? ⟨nd, 2, none⟩ = some (.pointer (some ⟨bk, 0, none⟩)) ∧ W.cell? ⟨nd, 5, none⟩ = some (.int .i64 kn)) (by kernel_rfl) J0 (fun _ => ?_)
  refine wpAnyH_take (i := 0) (v := ?_) rfl (by kernel_rfl) (by kernel_rfl) (by kernel_rfl) (fun _ _ _ h => h) (Or.inl ⟨by rfl, ?_⟩) J0 ?_
  rotate_left 1
  · intro W hSW; clear hSW; go_simp; try with_reducible rfl
  simp only [qA, qB, qC, Act.put, qD, qE, qF]
  refine wpAnyH_take (i := 1) (v := ?_) rfl (by kernel_rfl) (by kernel_rfl) (by kernel_rfl) (fun _ _ _ h => h) (Or.inl ⟨by rfl, ?_⟩) J0 ?_
  rotate_left 1
  · intro W hSW; have qn := hSW.1; clear hSW; go_simp; try with_reducible rfl
  simp only [qA, qB, qC, Act.put, qD, qE, qF]
  refine wpAnyH_take (i := 2) (v := ?_) rfl (by kernel_rfl) (by kernel_rfl) (by kernel_rfl) (fun _ _ _ h => h) (Or.inl ⟨by rfl, ?_⟩) J0 ?_
  rotate_left 1
  · intro W hSW; clear hSW; go_simp; try with_reducible rfl
  simp only [qA, qB, qC, Act.put, qD, qE, qF]
  refine wpAnyH_take (i := 3) (v := ?_) rfl (by kernel_rfl) (by kernel_rfl) (by kernel_rfl) (fun _ _ _ h => h) (Or.inl ⟨by rfl, ?_⟩) J0 ?_
  rotate_left 1
  · intro W hSW; clear hSW; go_simp; try with_reducible rfl
  simp only [qA, qB, qC, Act.put, qD, qE, qF]
  refine wpAnyH_take (i := 4) (v := ?_) rfl (by kernel_rfl) (by kernel_rfl) (by kernel_rfl) (fun _ _ _ h => h) (Or.inl ⟨by rfl, ?_⟩) J0 ?_
  rotate_left 1
  · intro W hSW; clear hSW; go_simp; try with_reducible rfl
  simp only [qA, qB, qC, Act.put, qD, qE, qF]
  refine wpAnyH_take (i := 5) (v := ?_) rfl (by kernel_rfl) (by kernel_rfl) (by kernel_rfl) (fun _ _ _ h => h) (Or.inl ⟨by rfl, ?_⟩) J0 ?_
  rotate_left 1
  · intro W hSW; have qk := hSW.2.2; clear hSW; go_simp; try with_reducible rfl
  simp only [qA, qB, qC, Act.put, qD, qE, qF]
  refine wpAnyH_take (i := 6) (v := .bool false) rfl (by kernel_rfl) (by kernel_rfl) (by kernel_rfl) (fun _ _ _ h => h) (Or.inl ⟨by rfl, ?_⟩) J0 ?_
  · intro W hSW; clear hSW; go_simp; try simp [t1]
  simp only [qA, qB, qC, Act.put, qD, qE, qF]
  refine wpAnyH_take (i := 7) (v := .bool false) rfl (by kernel_rfl) (by kernel_rfl) (by kernel_rfl) (fun _ _ _ h => h) (Or.inl ⟨by rfl, ?_⟩) J0 ?_
  · intro W hSW; clear hSW; go_simp; try simp [t1]
  simp only [qA, qB, qC, Act.put, qD, qE, qF]
  refine wpAnyH_take (i := 8) (v := ?_) rfl (by kernel_rfl) (by kernel_rfl) (by kernel_rfl) (fun _ _ _ h => h) (Or.inl ⟨by rfl, ?_⟩) J0 ?_
  rotate_left 1
  · intro W hSW; clear hSW; go_simp; try with_reducible rfl
  simp only [qA, qB, qC, Act.put, qD, qE, qF]
  refine wpAnyH_take (i := 9) (v := ?_) rfl (by kernel_rfl) (by kernel_rfl) (by kernel_rfl) (fun _ _ _ h => h) (Or.inl ⟨by rfl, ?_⟩) J0 ?_
  rotate_left 1
  · intro W hSW; have qn := hSW.1; clear hSW; go_simp; try with_reducible rfl
  simp only [qA, qB, qC, Act.put, qD, qE, qF]
  refine wpAnyH_take (i := 10) (v := ?_) rfl (by kernel_rfl) (by kernel_rfl) (by kernel_rfl) (fun _ _ _ h => h) (Or.inl ⟨by rfl, ?_⟩) J0 ?_
  rotate_left 1
  · intro W hSW; clear hSW; go_simp; try with_reducible rfl
  simp only [qA, qB, qC, Act.put, qD, qE, qF]
  refine wpAnyH_take (i := 11) (v := ?_) rfl (by kernel_rfl) (by kernel_rfl) (by kernel_rfl) (fun _ _ _ h => h) (Or.inl ⟨by rfl, ?_⟩) J0 ?_
  rotate_left 1
  · intro W hSW; clear hSW; go_simp; try with_reducible rfl
  simp only [qA, qB, qC, Act.put, qD, qE, qF]
  refine wpAnyH_take (i := 12) (v := ?_) rfl (by kernel_rfl) (by kernel_rfl) (by kernel_rfl) (fun _ _ _ h => h) (Or.inl ⟨by rfl, ?_⟩) J0 ?_
  rotate_left 1
  · intro W hSW; clear hSW; go_simp; try with_reducible rfl
  simp only [qA, qB, qC, Act.put, qD, qE, qF]
  refine wpAnyH_take (i := 13) (v := ?_) rfl (by kernel_rfl) (by kernel_rfl) (by kernel_rfl) (fun _ _ _ h => h) (Or.inl ⟨by rfl, ?_⟩) J0 ?_
  rotate_left 1
  · intro W hSW; have qc := hSW.2.1; clear hSW; go_simp; try with_reducible rfl
  simp only [qA, qB, qC, Act.put, qD, qE, qF]
  refine wpAnyH_ready (rs := [14]) (by kernel_rfl) (by simp) ?_
  refine AllReadyH.cons rfl (fun K' hK' => ?_) AllReadyH.nil
  rw [if_pos (by rfl)]
  have hen := bentries_any bk sa L.length scap W1.drew (by rw [← hslv]; exact A1.out.book.drew.cells 1 _ rfl)
  go_simp
  refine hen.mono ?_
  rintro e W2 ⟨rfl, hw2⟩
  obtain rfl : W1.drew = W2 := hw2.symm
  clear hw2 hen
  refine hK'.out _ _ J0 (fun _ => ?_)
  clear hK' K'
  try simp only [qA, qB, qC, Act.put, qD, qE, qF]
  refine wpAnyH_take (i := 15) (v := .bool false) rfl (by kernel_rfl) (by kernel_rfl) (by kernel_rfl) (fun _ _ _ h => h) (Or.inl ⟨by rfl, ?_⟩) J0 ?_
  · intro W hSW; clear hSW; go_simp; try simp [t2]
  simp only [qA, qB, qC, Act.put, qD, qE, qF]
  refine wpAnyH_take (i := 16) (v := .bool false) rfl (by kernel_rfl) (by kernel_rfl) (by kernel_rfl) (fun _ _ _ h => h) (Or.inl ⟨by rfl, ?_⟩) J0 ?_
  · intro W hSW; clear hSW; go_simp; try simp [t2]
  simp only [qA, qB, qC, Act.put, qD, qE, qF]
  refine ⟨by kernel_rfl, ?_⟩
  refine NoPanic.normal ?_
  try simp only [qA, qB, qC, Act.put, qD, qE, qF]
  have BD : Hid (Below w.heap.size w W1.drew) := K1.out.drew
  have A2 : Al K W1.drew z nd q bb N j u C l bk lm m cc ky lv L G F D := A1.out.fresh (Below.refl _ _).drew
  have c5 : W1.drew.cell? ⟨nd, 5, none⟩ = some (.int .i64 kn) := J0.2.2
  have cn : W1.drew.cell? ⟨w.heap.size, 0, none⟩ = some (.int .i64 (i : Nat)) := J0.1
  have f5 : W1.drew.frozen? ⟨nd, 5, none⟩ = false := (A2.room 5 (by omega)).2
  generalize W1.drew = Wd at *
  obtain ⟨W3, h3⟩ : ∃ X, X = Wd.setCell ⟨nd, 5, none⟩ (.int .i64 (i : Nat)) := ⟨_, rfl⟩
  have A3 : Hid (Al K W3 (knowZ z (i : Nat)) nd q bb N j u C l bk lm m cc ky lv L G F D) := by show Al _ _ _ _ _ _ _ _ _ _ _ _ _ _ _ _ _ _ _ _ _; rw [h3]; exact A2.setNd rfl HNT.out
  have k3 : Kept (· = nd) Wd W3 := by rw [h3]; exact Kept.setCell _ _ _ (Or.inl rfl)
  have K3 : Hid (Kept (· = nd) w W3) := (Kept.fresh (S := (· = nd)) BD.out).trans k3 (fun _ _ h => h)
  have hp3 : W3.rangeAt nd 0 (plL z) := (nd_place A3.out.node : W3.rangeAt nd 0 (plL (knowZ z (i : Nat))))
  clear A2 k3 J0
  go_wp2_with (first
    | (rw [← h3]; clear h3)
    | (refine wpList_load_mid rfl 108 _ rfl nd 0 rfl (plL z) _ hp3 Tryz.underlying108 rfl hpl ?_))
  refine (hfi W3).mono ?_
  rintro e W4 ⟨rfl, hb4⟩
  have A4 : Hid (Al K W4 (knowZ z (i : Nat)) nd q bb N j u C l bk lm m cc ky lv L G F D) := A3.out.fresh hb4
  have K4 : Hid (Kept (· = nd) w W4) := K3.out.trans (Kept.fresh (S := (· = nd)) hb4) (fun _ _ h => h)
  clear hb4 hp3
  go_wp2_with fail
  go_ret2
  exact ⟨rfl, A4.out, K4.out⟩

set_option maxRecDepth 10000 in
set_option maxHeartbeats 4000000 in
theorem ta_mid (K : Nat → Int) (z : Nv) (nd q bb N j u : Nat) (C : Nat → List Int) (l : ByteArray) (bk lm m cc ky : Nat) (lv : Value) (L : List En) (G F : Nat → Prop) (D : DataW Unit) (i : Nat) (kn : Int) (w : World) (h : Al K w z nd q bb N j u C l bk lm m cc ky lv L G F D) (h0 : 0 ≤ z.r) (h2 : z.r ≤ 2) (hz : z.r ≠ z.last) (hkn : z.kn = kn) (h1 : 1 ≤ z.r) (hi : kn < (i : Int)) (hiL : i ≤ L.length) (hL : L.length < 1000) :
    Calls Tryz.prog 109 #[.pointer (some ⟨nd, 0, none⟩), .agg #[.int .i64 (i : Nat)]] w fun e w' => ∃ v, e = .returned (.tuple #[v, .nilIface]) ∧ OutAt w' v [(z.r - 1, mkT 75 (i : Nat) ⟨#[]⟩)] ∧ Al K w' (knowZ z (i : Nat)) nd q bb N j u C l bk lm m cc ky lv L G F D ∧ Kept (· = nd) w w' := by
  obtain ⟨V, hV⟩ : ∃ V, V = w.alloc (.cells #[.int .i64 (i : Nat)] 202) := ⟨_, rfl⟩
  have hVs : V.heap.size = w.heap.size + 1 := by rw [hV]; simp
  have bV : Below w.heap.size w V := by rw [hV]; exact (Below.refl _ _).alloc (Nat.le_refl _) _
  have AV := h.fresh bV
  have hp := nd_place AV.node
  have hpl := info_pl z
  have HAV : Hid (Al K V z nd q bb N j u C l bk lm m cc ky lv L G F D) := AV
  have HBV : Hid (Below w.heap.size w V) := bV
  have HNL : Hid (nd < w.heap.size) := h.nlt
  have HNT : Hid (nd ≠ 1) := h.ndT
  have rV : V.cell? ⟨w.heap.size, 0, none⟩ = some (.int .i64 (i : Nat)) := by rw [hV, World.cell?_alloc_at _ _ _ _ rfl]; rfl
  have HRV : Hid (V.cell? ⟨w.heap.size, 0, none⟩ = some (.int .i64 (i : Nat))) := rV
  have hla := last_any z V
  rw [decide_eq_false hz] at hla
  have hak : ackOf (knowZ z (i : Nat)) L.length = ((i : Nat) : Int) := if_neg hz
  clear h AV bV rV
  go_enter Tryz.func109, Tryz.ntmps109
  go_wp2_with (first
    | (rw [← hV]; clear hV)
    | (refine wpList_load_mid rfl 108 _ rfl nd 0 rfl (plL z) _ hp Tryz.underlying108 rfl hpl ?_))
  refine hla.mono ?_
  rintro e W1 ⟨rfl, hb1⟩
  have s1 := hb1.size
  have A1 : Hid (Al K W1 z nd q bb N j u C l bk lm m cc ky lv L G F D) := HAV.out.fresh hb1
  have K1 : Hid (Below w.heap.size w W1) := HBV.out.trans (hb1.mono (by omega))
  have n1 : W1.cell? ⟨w.heap.size, 0, none⟩ = some (.int .i64 (i : Nat)) := (hb1.cell (p := ⟨w.heap.size, 0, none⟩) (by show w.heap.size < _; omega)).trans HRV.out
  have J0 : W1.drew.cell? ⟨w.heap.size, 0, none⟩ = some (.int .i64 (i : Nat)) ∧ W1.drew.cell? ⟨nd, 2, none⟩ = some (.pointer (some ⟨bk, 0, none⟩)) ∧ W1.drew.cell? ⟨nd, 5, none⟩ = some (.int .i64 kn) := ⟨n1, A1.out.node 2 _ rfl, by rw [← hkn]; exact A1.out.node 5 _ rfl⟩
  obtain ⟨sa, scap, hslv⟩ := A1.out.book.slice
  have t1 : ¬ (i : Int) ≤ kn := by omega
  have t2 : ¬ (L.length : Int) < (i : Int) := by omega
  have hfi := first_any z
  simp only [decide_eq_false (show ¬ z.r = 0 by omega)] at hfi
  clear hb1 hla hp
  go_wp2_with fail
  refine wp_region_noPanic ?_
  refine wp_region_held_drew (S := fun W => W.cell? ⟨w.heap.size, 0, none⟩ = some (.int .i64 (i : Nat)) ∧ W.cell? ⟨nd, 2, none⟩ = some (.pointer (some ⟨bk, 0, none⟩)) ∧ W.cell? ⟨nd, 5, none⟩ = some (.int .i64 kn)) (by kernel_rfl) J0 (fun _ => ?_)
  refine wpAnyH_take (i := 0) (v := ?_) rfl (by kernel_rfl) (by kernel_rfl) (by kernel_rfl) (fun _ _ _ h => h) (Or.inl ⟨by rfl, ?_⟩) J0 ?_
  rotate_left 1
  · intro W hSW; clear hSW; go_simp; try with_reducible rfl
  simp only [qA, qB, qC, Act.put, qD, qE, qF]
  refine wpAnyH_take (i := 1) (v := ?_) rfl (by kernel_rfl) (by kernel_rfl) (by kernel_rfl) (fun _ _ _ h => h) (Or.inl ⟨by rfl, ?_⟩) J0 ?_
  rotate_left 1
  · intro W hSW; have qn := hSW.1; clear hSW; go_simp; try with_reducible rfl
  simp only [qA, qB, qC, Act.put, qD, qE, qF]
  refine wpAnyH_take (i := 2) (v := ?_) rfl (by kernel_rfl) (by kernel_rfl) (by kernel_rfl) (fun _ _ _ h => h) (Or.inl ⟨by rfl, ?_⟩) J0 ?_
  rotate_left 1
  · intro W hSW; clear hSW; go_simp; try with_reducible rfl
  simp only [qA, qB, qC, Act.put, qD, qE, qF]
  refine wpAnyH_take (i := 3) (v := ?_) rfl (by kernel_rfl) (by kernel_rfl) (by kernel_rfl) (fun _ _ _ h => h) (Or.inl ⟨by rfl, ?_⟩) J0 ?_
  rotate_left 1
  · intro W hSW; clear hSW; go_simp; try with_reducible rfl
  simp only [qA, qB, qC, Act.put, qD, qE, qF]
  refine wpAnyH_take (i := 4) (v := ?_) rfl (by kernel_rfl) (by kernel_rfl) (by kernel_rfl) (fun _ _ _ h => h) (Or.inl ⟨by rfl, ?_⟩) J0 ?_
  rotate_left 1
  · intro W hSW; clear hSW; go_simp; try with_reducible rfl
  simp only [qA, qB, qC, Act.put, qD, qE, qF]
  refine wpAnyH_take (i := 5) (v := ?_) rfl (by kernel_rfl) (by kernel_rfl) (by kernel_rfl) (fun _ _ _ h => h) (Or.inl ⟨by rfl, ?_⟩) J0 ?_
  rotate_left 1
  · intro W hSW; have qk := hSW.2.2; clear hSW; go_simp; try with_reducible rfl
  simp only [qA, qB, qC, Act.put, qD, qE, qF]
  refine wpAnyH_take (i := 6) (v := .bool false) rfl (by kernel_rfl) (by kernel_rfl) (by kernel_rfl) (fun _ _ _ h => h) (Or.inl ⟨by rfl, ?_⟩) J0 ?_
  · intro W hSW; clear hSW; go_simp; try simp [t1]
  simp only [qA, qB, qC, Act.put, qD, qE, qF]
  refine wpAnyH_take (i := 7) (v := .bool false) rfl (by kernel_rfl) (by kernel_rfl) (by kernel_rfl) (fun _ _ _ h => h) (Or.inl ⟨by rfl, ?_⟩) J0 ?_
  · intro W hSW; clear hSW; go_simp; try simp [t1]
  simp only [qA, qB, qC, Act.put, qD, qE, qF]
  refine wpAnyH_take (i := 8) (v := ?_) rfl (by kernel_rfl) (by kernel_rfl) (by kernel_rfl) (fun _ _ _ h => h) (Or.inl ⟨by rfl, ?_⟩) J0 ?_
  rotate_left 1
  · intro W hSW; clear hSW; go_simp; try with_reducible rfl
  simp only [qA, qB, qC, Act.put, qD, qE, qF]
  refine wpAnyH_take (i := 9) (v := ?_) rfl (by kernel_rfl) (by kernel_rfl) (by kernel_rfl) (fun _ _ _ h => h) (Or.inl ⟨by rfl, ?_⟩) J0 ?_
  rotate_left 1
  · intro W hSW; have qn := hSW.1; clear hSW; go_simp; try with_reducible rfl
  simp only [qA, qB, qC, Act.put, qD, qE, qF]
  refine wpAnyH_take (i := 10) (v := ?_) rfl (by kernel_rfl) (by kernel_rfl) (by kernel_rfl) (fun _ _ _ h => h) (Or.inl ⟨by rfl, ?_⟩) J0 ?_
  rotate_left 1
  · intro W hSW; clear hSW; go_simp; try with_reducible rfl
  simp only [qA, qB, qC, Act.put, qD, qE, qF]
  refine wpAnyH_take (i := 11) (v := ?_) rfl (by kernel_rfl) (by kernel_rfl) (by kernel_rfl) (fun _ _ _ h => h) (Or.inl ⟨by rfl, ?_⟩) J0 ?_
  rotate_left 1
  · intro W hSW; clear hSW; go_simp; try with_reducible rfl
  simp only [qA, qB, qC, Act.put, qD, qE, qF]
  refine wpAnyH_take (i := 12) (v := ?_) rfl (by kernel_rfl) (by kernel_rfl) (by kernel_rfl) (fun _ _ _ h => h) (Or.inl ⟨by rfl, ?_⟩) J0 ?_
  rotate_left 1
  · intro W hSW; clear hSW; go_simp; try with_reducible rfl
  simp only [qA, qB, qC, Act.put, qD, qE, qF]
  refine wpAnyH_take (i := 13) (v := ?_) rfl (by kernel_rfl) (by kernel_rfl) (by kernel_rfl) (fun _ _ _ h => h) (Or.inl ⟨by rfl, ?_⟩) J0 ?_
  rotate_left 1
  · intro W hSW; have qc := hSW.2.1; clear hSW; go_simp; try with_reducible rfl
  simp only [qA, qB, qC, Act.put, qD, qE, qF]
  refine wpAnyH_ready (rs := [14]) (by kernel_rfl) (by simp) ?_
  refine AllReadyH.cons rfl (fun K' hK' => ?_) AllReadyH.nil
  rw [if_pos (by rfl)]
  have hen := bentries_any bk sa L.length scap W1.drew (by rw [← hslv]; exact A1.out.book.drew.cells 1 _ rfl)
  go_simp
  refine hen.mono ?_
  rintro e W2 ⟨rfl, hw2⟩
  obtain rfl : W1.drew = W2 := hw2.symm
  clear hw2 hen
  refine hK'.out _ _ J0 (fun _ => ?_)
  clear hK' K'
  try simp only [qA, qB, qC, Act.put, qD, qE, qF]
  refine wpAnyH_take (i := 15) (v := .bool false) rfl (by kernel_rfl) (by kernel_rfl) (by kernel_rfl) (fun _ _ _ h => h) (Or.inl ⟨by rfl, ?_⟩) J0 ?_
  · intro W hSW; clear hSW; go_simp; try simp [t2]
  simp only [qA, qB, qC, Act.put, qD, qE, qF]
  refine wpAnyH_take (i := 16) (v := .bool false) rfl (by kernel_rfl) (by kernel_rfl) (by kernel_rfl) (fun _ _ _ h => h) (Or.inl ⟨by rfl, ?_⟩) J0 ?_
  · intro W hSW; clear hSW; go_simp; try simp [t2]
  simp only [qA, qB, qC, Act.put, qD, qE, qF]
  refine ⟨by kernel_rfl, ?_⟩
  refine NoPanic.normal ?_
  try simp only [qA, qB, qC, Act.put, qD, qE, qF]
  have BD : Hid (Below w.heap.size w W1.drew) := K1.out.drew
  have A2 : Al K W1.drew z nd q bb N j u C l bk lm m cc ky lv L G F D := A1.out.fresh (Below.refl _ _).drew
  have c5 : W1.drew.cell? ⟨nd, 5, none⟩ = some (.int .i64 kn) := J0.2.2
  have cn : W1.drew.cell? ⟨w.heap.size, 0, none⟩ = some (.int .i64 (i : Nat)) := J0.1
  have f5 : W1.drew.frozen? ⟨nd, 5, none⟩ = false := (A2.room 5 (by omega)).2
  generalize W1.drew = Wd at *
  obtain ⟨W3, h3⟩ : ∃ X, X = Wd.setCell ⟨nd, 5, none⟩ (.int .i64 (i : Nat)) := ⟨_, rfl⟩
  have A3 : Hid (Al K W3 (knowZ z (i : Nat)) nd q bb N j u C l bk lm m cc ky lv L G F D) := by show Al _ _ _ _ _ _ _ _ _ _ _ _ _ _ _ _ _ _ _ _ _; rw [h3]; exact A2.setNd rfl HNT.out
  have k3 : Kept (· = nd) Wd W3 := by rw [h3]; exact Kept.setCell _ _ _ (Or.inl rfl)
  have K3 : Hid (Kept (· = nd) w W3) := (Kept.fresh (S := (· = nd)) BD.out).trans k3 (fun _ _ h => h)
  have hp3 : W3.rangeAt nd 0 (plL z) := (nd_place A3.out.node : W3.rangeAt nd 0 (plL (knowZ z (i : Nat))))
  clear A2 k3 J0
  go_wp2_with (first
    | (rw [← h3]; clear h3)
    | (refine wpList_load_mid rfl 108 _ rfl nd 0 rfl (plL z) _ hp3 Tryz.underlying108 rfl hpl ?_))
  refine (hfi W3).mono ?_
  rintro e W4 ⟨rfl, hb4⟩
  have A4 : Hid (Al K W4 (knowZ z (i : Nat)) nd q bb N j u C l bk lm m cc ky lv L G F D) := A3.out.fresh hb4
  have K4 : Hid (Kept (· = nd) w W4) := K3.out.trans (Kept.fresh (S := (· = nd)) hb4) (fun _ _ h => h)
  clear hb4 hp3
  have hack := ack_any K (knowZ z (i : Nat)) nd q bb N j u C l bk lm m cc ky lv L G F D ((i : Nat) : Int) W4 A4.out h1 h2 hak (by omega)
  have hsl := slice_pkC (z.r - 1) (mkT 75 (i : Nat) ⟨#[]⟩)
  go_wp2_with fail
  refine hack.mono ?_
  rintro e W5 ⟨rfl, hb5⟩
  have A5 : Hid (Al K W5 (knowZ z (i : Nat)) nd q bb N j u C l bk lm m cc ky lv L G F D) := A4.out.fresh hb5
  have K5 : Hid (Kept (· = nd) w W5) := K4.out.trans (Kept.fresh (S := (· = nd)) hb5) (fun _ _ h => h)
  clear hack hb5
  unfold knowZ at *
  go_wp2_with (first | (refine wpList_slice_one rfl 33 44 _ rfl (pkC (z.r - 1) (mkT 75 (i : Nat) ⟨#[]⟩)) rfl hsl ?_))
  go_ret2
  have b6 : Below W5.heap.size W5 (W5.alloc (.cells (pkC (z.r - 1) (mkT 75 (i : Nat) ⟨#[]⟩)).toArray 44)) := (Below.refl _ _).alloc (Nat.le_refl _) _
  exact ⟨_, rfl, OutAt.one (by simp) (range_new _ _ _), A5.out.fresh b6, K5.out.trans (Kept.fresh (S := (· = nd)) b6) (fun _ _ h => h)⟩

set_option maxRecDepth 10000 in
set_option maxHeartbeats 4000000 in
theorem tq_any (K : Nat → Int) (z : Nv) (nd q bb N j u : Nat) (C : Nat → List Int) (l : ByteArray) (bk lm m cc ky : Nat) (lv : Value) (L : List En) (G F : Nat → Prop) (D : DataW Unit) (i : Nat) (w : World) (h : Al K w z nd q bb N j u C l bk lm m cc ky lv L G F D) (h0 : 0 ≤ z.r) (h2 : z.r ≤ 2) (hz : z.r ≠ z.last) (hi : i ≤ L.length) (hwh : ∀ e ∈ L, rqWhole e.c e.n e.o e.p e.v e.t = true) (hL : L.length < 1000) :
    Calls Tryz.prog 110 #[.pointer (some ⟨nd, 0, none⟩), .agg #[.int .i64 (i : Nat)]] w fun e w' => ∃ v, e = .returned (.tuple #[v, .nilIface]) ∧ OutAt w' v (fwOut (z.r + 1) L i (min 4 (L.length - i))) ∧ Below w.heap.size w w' := by
  obtain ⟨V, hV⟩ : ∃ V, V = w.alloc (.cells #[.int .i64 (i : Nat)] 195) := ⟨_, rfl⟩
  have hVs : V.heap.size = w.heap.size + 1 := by rw [hV]; simp
  have bV : Below w.heap.size w V := by rw [hV]; exact (Below.refl _ _).alloc (Nat.le_refl _) _
  have AV := h.fresh bV
  have hp := nd_place AV.node
  have hpl := info_pl z
  have HAV : Hid (Al K V z nd q bb N j u C l bk lm m cc ky lv L G F D) := AV
  have HBV : Hid (Below w.heap.size w V) := bV
  have HNL : Hid (nd < w.heap.size) := h.nlt
  have HNT : Hid (nd ≠ 1) := h.ndT
  have rV : V.cell? ⟨w.heap.size, 0, none⟩ = some (.int .i64 (i : Nat)) := by rw [hV, World.cell?_alloc_at _ _ _ _ rfl]; rfl
  have HRV : Hid (V.cell? ⟨w.heap.size, 0, none⟩ = some (.int .i64 (i : Nat))) := rV
  have HW : Hid (∀ e ∈ L, rqWhole e.c e.n e.o e.p e.v e.t = true) := hwh
  have hla := last_any z V
  rw [decide_eq_false hz] at hla
  clear h AV bV rV hz hwh
  go_enter Tryz.func110, Tryz.ntmps110
  go_wp2_with (first
    | (rw [← hV]; clear hV)
    | (refine wpList_load_mid rfl 108 _ rfl nd 0 rfl (plL z) _ hp Tryz.underlying108 rfl hpl ?_))
  refine hla.mono ?_
  rintro e W1 ⟨rfl, hb1⟩
  have s1 := hb1.size
  have A1 : Hid (Al K W1 z nd q bb N j u C l bk lm m cc ky lv L G F D) := HAV.out.fresh hb1
  have K1 : Hid (Below w.heap.size w W1) := HBV.out.trans (hb1.mono (by omega))
  have n1 : W1.cell? ⟨w.heap.size, 0, none⟩ = some (.int .i64 (i : Nat)) := (hb1.cell (p := ⟨w.heap.size, 0, none⟩) (by show w.heap.size < _; omega)).trans HRV.out
  have hbe := behind_any K z nd q bb N j u C l bk lm m cc ky lv L G F D i W1 A1.out h0 h2 hi HW.out hL
  clear hb1 hla hp
  go_wp2_with fail
  refine hbe.mono ?_
  rintro e W2 ⟨v, rfl, o2, b2⟩
  have HO : Hid (OutAt W2 v (fwOut (z.r + 1) L i (min 4 (L.length - i)))) := o2
  have HB : Hid (Below w.heap.size w W2) := K1.out.trans (b2.mono K1.out.size)
  clear hbe o2 b2
  go_wp2_with fail
  go_ret2
  exact ⟨v, rfl, HO.out, HB.out⟩
end Go.Proofs.YteglimjonofdeaaGreatDoor
set_option linter.unusedVariables false
set_option linter.unusedSimpArgs false
namespace Go.Proofs.YteglimjonofdeaaGreatDoor
open Go.RowKit

theorem alloc_fwd (w : World) : (Instr.alloc 200 true (.tuple #[])).run Tryz.prog w = .ok (.pointer (some ⟨w.heap.size, 0, none⟩)) (w.alloc (.cells (fwCells 0 0 0 0 0 0 ⟨#[]⟩).toArray 200)) := by kernel_rfl
theorem alloc_ackT (w : World) : (Instr.alloc 202 true (.tuple #[])).run Tryz.prog w = .ok (.pointer (some ⟨w.heap.size, 0, none⟩)) (w.alloc (.cells [Value.int .i64 0].toArray 202)) := by kernel_rfl
theorem alloc_askT (w : World) : (Instr.alloc 195 true (.tuple #[])).run Tryz.prog w = .ok (.pointer (some ⟨w.heap.size, 0, none⟩)) (w.alloc (.cells [Value.int .i64 0].toArray 195)) := by kernel_rfl
theorem as_ff (v : Value) (w : World) : (Instr.typeAssert (.iface 200 v) 197 200 true).run Tryz.prog w = .ok (.tuple #[v, .bool true]) w := by kernel_rfl
theorem as_fk (v : Value) (w : World) : (Instr.typeAssert (.iface 202 v) 197 200 true).run Tryz.prog w = .ok (.tuple #[.agg (fwCells 0 0 0 0 0 0 ⟨#[]⟩).toArray, .bool false]) w := by kernel_rfl
theorem as_fq (v : Value) (w : World) : (Instr.typeAssert (.iface 195 v) 197 200 true).run Tryz.prog w = .ok (.tuple #[.agg (fwCells 0 0 0 0 0 0 ⟨#[]⟩).toArray, .bool false]) w := by kernel_rfl
theorem as_kk (v : Value) (w : World) : (Instr.typeAssert (.iface 202 v) 197 202 true).run Tryz.prog w = .ok (.tuple #[v, .bool true]) w := by kernel_rfl
theorem as_kq (v : Value) (w : World) : (Instr.typeAssert (.iface 195 v) 197 202 true).run Tryz.prog w = .ok (.tuple #[.agg [Value.int .i64 0].toArray, .bool false]) w := by kernel_rfl
theorem as_qq (v : Value) (w : World) : (Instr.typeAssert (.iface 195 v) 197 195 true).run Tryz.prog w = .ok (.tuple #[v, .bool true]) w := by kernel_rfl
theorem fwd_info (m c n o p v : Int) (t : ByteArray) : (Tryz.prog.info? 200).map (·.size) = some (fwCells m c n o p v t).length := by show _ = some 7; kernel_rfl
theorem fwd_one (m c n o p v : Int) (t : ByteArray) : ∀ u ∈ fwCells m c n o p v t, u.oneCell' = true := by intro u hu; simp [fwCells, rqCells] at hu; rcases hu with rfl | rfl | rfl | rfl | rfl | rfl | rfl <;> rfl
theorem ackT_info (m : Int) : (Tryz.prog.info? 202).map (·.size) = some [Value.int .i64 m].length := by show _ = some 1; kernel_rfl
theorem askT_info (m : Int) : (Tryz.prog.info? 195).map (·.size) = some [Value.int .i64 m].length := by show _ = some 1; kernel_rfl
theorem int_one (m : Int) : ∀ u ∈ [Value.int .i64 m], u.oneCell' = true := by intro u hu; simp at hu; rw [hu]; rfl

set_option maxRecDepth 10000 in
set_option maxHeartbeats 4000000 in
theorem recv_fw (z : Nv) (nd bk : Nat) (i c n o p v : Int) (t : ByteArray) (hi : 1 ≤ i ∧ i ≤ 2147483647) (hw : rqWhole c n o p v t = true) (w : World) (hn : w.rangeAt nd 0 (ndL z bk)) (R : World → Value → Value → World → Prop)
    (hin : ∀ W, Below w.heap.size w W → Calls Tryz.prog 108 #[.pointer (some ⟨nd, 0, none⟩), .agg (fwCells i c n o p v t).toArray] W fun e w' => ∃ s r, e = .returned (.tuple #[s, r]) ∧ R W s r w') :
    Calls Tryz.prog 73 #[.pointer (some ⟨nd, 0, none⟩), .string (mkT 70 i (strOfNums (rqBytes c n o p v t)))] w fun e w' => ∃ W s r, Below w.heap.size w W ∧ e = .returned (.tuple #[s, r]) ∧ R W s r w' := by
  have c7 : w.cell? ⟨nd, 7, none⟩ = some (.bool false) := hn 7 _ rfl
  have hdec := pdec_fw i c n o p v t w (by omega) hi.1 hw
  have HI := fwd_info i c n o p v t
  have HO := fwd_one i c n o p v t
  have q1 := as_ff
  have q2 := as_fk
  have q3 := as_fq
  have q4 := as_kk
  have q5 := as_kq
  have q6 := as_qq
  clear hn
  generalize mkT 70 i (strOfNums (rqBytes c n o p v t)) = bs at hdec ⊢
  go_enter Tryz.func73, Tryz.ntmps73
  go_wp2_with fail
  refine hdec.mono ?_
  rintro e W1 ⟨rfl, hb1⟩
  have s1 := hb1.size
  obtain ⟨W2, h2⟩ : ∃ X, X = W1.alloc (.cells (fwCells 0 0 0 0 0 0 ⟨#[]⟩).toArray 200) := ⟨_, rfl⟩
  have s2 : W2.heap.size = W1.heap.size + 1 := by rw [h2]; simp
  have b2 : Below W1.heap.size W1 W2 := by rw [h2]; exact (Below.refl _ _).alloc (Nat.le_refl _) _
  have t2 : W2.there W1.heap.size 0 (fwCells i c n o p v t).length := by rw [h2]; exact there_new W1 (fwCells 0 0 0 0 0 0 ⟨#[]⟩).toArray _
  have HB2 : Hid (Below w.heap.size w W2) := hb1.trans (b2.mono s1)
  clear hdec hb1 b2 c7
  generalize hcs : (fwCells i c n o p v t).toArray = cs at *
  go_wp2_with (first
    | (refine wpList_alloc_of rfl 200 rfl (fwCells 0 0 0 0 0 0 ⟨#[]⟩).toArray alloc_fwd ?_; rw [← h2]; clear h2)
    | (refine wpList_store_abs rfl 200 _ _ rfl W1.heap.size 0 (fwCells i c n o p v t) rfl (by rw [hcs]; rfl) t2 HI HO ?_
       intro W3 hw3 hr3 _ht3 hb3
       have HB3 : Hid (Below w.heap.size w W3) := HB2.out.trans (hb3 w.heap.size s1)
       clear _ht3 hw3 hb3)
    | (refine wpList_load_mid rfl 200 _ rfl W1.heap.size 0 rfl (fwCells i c n o p v t) _ hr3 Tryz.underlying200 rfl HI ?_; rw [hcs]))
  refine (hin W3 HB3.out).mono ?_
  rintro e W4 ⟨s, r, rfl, hR⟩
  have HR : Hid (R W3 s r W4) := hR
  clear hin hR
  go_wp2_with fail
  go_ret2
  exact ⟨W3, s, r, HB3.out, rfl, HR.out⟩

set_option maxRecDepth 10000 in
set_option maxHeartbeats 4000000 in
theorem recv_ack (z : Nv) (nd bk : Nat) (i : Int) (hi : 0 ≤ i ∧ i ≤ 2147483647) (w : World) (hn : w.rangeAt nd 0 (ndL z bk)) (R : World → Value → Value → World → Prop)
    (hin : ∀ W, Below w.heap.size w W → Calls Tryz.prog 109 #[.pointer (some ⟨nd, 0, none⟩), .agg ([Value.int .i64 i]).toArray] W fun e w' => ∃ s r, e = .returned (.tuple #[s, r]) ∧ R W s r w') :
    Calls Tryz.prog 73 #[.pointer (some ⟨nd, 0, none⟩), .string (mkT 75 i ⟨#[]⟩)] w fun e w' => ∃ W s r, Below w.heap.size w W ∧ e = .returned (.tuple #[s, r]) ∧ R W s r w' := by
  have c7 : w.cell? ⟨nd, 7, none⟩ = some (.bool false) := hn 7 _ rfl
  have hdec := pdec_ack i w hi
  have HI := ackT_info i
  have HO := int_one i
  have q1 := as_ff
  have q2 := as_fk
  have q3 := as_fq
  have q4 := as_kk
  have q5 := as_kq
  have q6 := as_qq
  clear hn
  generalize mkT 75 i ⟨#[]⟩ = bs at hdec ⊢
  go_enter Tryz.func73, Tryz.ntmps73
  go_wp2_with fail
  refine hdec.mono ?_
  rintro e W1 ⟨rfl, hb1⟩
  have s1 := hb1.size
  obtain ⟨W2, h2⟩ : ∃ X, X = W1.alloc (.cells ([Value.int .i64 0]).toArray 202) := ⟨_, rfl⟩
  have s2 : W2.heap.size = W1.heap.size + 1 := by rw [h2]; simp
  have b2 : Below W1.heap.size W1 W2 := by rw [h2]; exact (Below.refl _ _).alloc (Nat.le_refl _) _
  have t2 : W2.there W1.heap.size 0 ([Value.int .i64 i]).length := by rw [h2]; exact there_new W1 ([Value.int .i64 0]).toArray _
  have HB2 : Hid (Below w.heap.size w W2) := hb1.trans (b2.mono s1)
  clear hdec hb1 b2 c7
  generalize hcs : ([Value.int .i64 i]).toArray = cs at *
  go_wp2_with (first
    | (refine wpList_alloc_of rfl 202 rfl ([Value.int .i64 0]).toArray alloc_ackT ?_; rw [← h2]; clear h2)
    | (refine wpList_store_abs rfl 202 _ _ rfl W1.heap.size 0 ([Value.int .i64 i]) rfl (by rw [hcs]; rfl) t2 HI HO ?_
       intro W3 hw3 hr3 _ht3 hb3
       have HB3 : Hid (Below w.heap.size w W3) := HB2.out.trans (hb3 w.heap.size s1)
       clear _ht3 hw3 hb3)
    | (refine wpList_load_mid rfl 202 _ rfl W1.heap.size 0 rfl ([Value.int .i64 i]) _ hr3 Tryz.underlying202 rfl HI ?_; rw [hcs]))
  refine (hin W3 HB3.out).mono ?_
  rintro e W4 ⟨s, r, rfl, hR⟩
  have HR : Hid (R W3 s r W4) := hR
  clear hin hR
  go_wp2_with fail
  go_ret2
  exact ⟨W3, s, r, HB3.out, rfl, HR.out⟩

set_option maxRecDepth 10000 in
set_option maxHeartbeats 4000000 in
theorem recv_ask (z : Nv) (nd bk : Nat) (i : Int) (hi : 0 ≤ i ∧ i ≤ 2147483647) (w : World) (hn : w.rangeAt nd 0 (ndL z bk)) (R : World → Value → Value → World → Prop)
    (hin : ∀ W, Below w.heap.size w W → Calls Tryz.prog 110 #[.pointer (some ⟨nd, 0, none⟩), .agg ([Value.int .i64 i]).toArray] W fun e w' => ∃ s r, e = .returned (.tuple #[s, r]) ∧ R W s r w') :
    Calls Tryz.prog 73 #[.pointer (some ⟨nd, 0, none⟩), .string (mkT 81 i ⟨#[]⟩)] w fun e w' => ∃ W s r, Below w.heap.size w W ∧ e = .returned (.tuple #[s, r]) ∧ R W s r w' := by
  have c7 : w.cell? ⟨nd, 7, none⟩ = some (.bool false) := hn 7 _ rfl
  have hdec := pdec_ask i w hi
  have HI := askT_info i
  have HO := int_one i
  have q1 := as_ff
  have q2 := as_fk
  have q3 := as_fq
  have q4 := as_kk
  have q5 := as_kq
  have q6 := as_qq
  clear hn
  generalize mkT 81 i ⟨#[]⟩ = bs at hdec ⊢
  go_enter Tryz.func73, Tryz.ntmps73
  go_wp2_with fail
  refine hdec.mono ?_
  rintro e W1 ⟨rfl, hb1⟩
  have s1 := hb1.size
  obtain ⟨W2, h2⟩ : ∃ X, X = W1.alloc (.cells ([Value.int .i64 0]).toArray 195) := ⟨_, rfl⟩
  have s2 : W2.heap.size = W1.heap.size + 1 := by rw [h2]; simp
  have b2 : Below W1.heap.size W1 W2 := by rw [h2]; exact (Below.refl _ _).alloc (Nat.le_refl _) _
  have t2 : W2.there W1.heap.size 0 ([Value.int .i64 i]).length := by rw [h2]; exact there_new W1 ([Value.int .i64 0]).toArray _
  have HB2 : Hid (Below w.heap.size w W2) := hb1.trans (b2.mono s1)
  clear hdec hb1 b2 c7
  generalize hcs : ([Value.int .i64 i]).toArray = cs at *
  go_wp2_with (first
    | (refine wpList_alloc_of rfl 195 rfl ([Value.int .i64 0]).toArray alloc_askT ?_; rw [← h2]; clear h2)
    | (refine wpList_store_abs rfl 195 _ _ rfl W1.heap.size 0 ([Value.int .i64 i]) rfl (by rw [hcs]; rfl) t2 HI HO ?_
       intro W3 hw3 hr3 _ht3 hb3
       have HB3 : Hid (Below w.heap.size w W3) := HB2.out.trans (hb3 w.heap.size s1)
       clear _ht3 hw3 hb3)
    | (refine wpList_load_mid rfl 195 _ rfl W1.heap.size 0 rfl ([Value.int .i64 i]) _ hr3 Tryz.underlying195 rfl HI ?_; rw [hcs]))
  refine (hin W3 HB3.out).mono ?_
  rintro e W4 ⟨s, r, rfl, hR⟩
  have HR : Hid (R W3 s r W4) := hR
  clear hin hR
  go_wp2_with fail
  go_ret2
  exact ⟨W3, s, r, HB3.out, rfl, HR.out⟩

set_option maxRecDepth 10000 in
set_option maxHeartbeats 1000000 in
/-- The door Receive: what the node inside answers. -/
theorem drecv_any (xn nd : Nat) (b : ByteArray) (R : Value → Value → World → Prop) (w : World) (hx : w.cell? ⟨xn, 0, none⟩ = some (.pointer (some ⟨nd, 0, none⟩)))
    (hin : Calls Tryz.prog 73 #[.pointer (some ⟨nd, 0, none⟩), .string b] w fun e w' => ∃ s r, e = .returned (.tuple #[s, r]) ∧ R s r w') :
    Calls Tryz.prog 37 #[.pointer (some ⟨xn, 0, none⟩), .string b] w fun e w' => ∃ s r, e = .returned (.tuple #[s, r]) ∧ R s r w' := by
  go_enter Tryz.func37, Tryz.ntmps37
  go_wp2_with fail
  refine hin.mono ?_
  rintro e W1 ⟨s, r, rfl, hR⟩
  have HR : Hid (R s r W1) := hR
  clear hin hR
  go_wp2_with fail
  go_ret2
  exact ⟨s, r, rfl, HR.out⟩

set_option maxRecDepth 10000 in
set_option maxHeartbeats 1000000 in
/-- The door Tick: what the node inside answers. -/
theorem dtick_any (xn nd : Nat) (R : Value → Value → World → Prop) (w : World) (hx : w.cell? ⟨xn, 0, none⟩ = some (.pointer (some ⟨nd, 0, none⟩)))
    (hin : Calls Tryz.prog 36 #[.pointer (some ⟨nd, 0, none⟩)] w fun e w' => ∃ s r, e = .returned (.tuple #[s, r]) ∧ R s r w') :
    Calls Tryz.prog 13 #[.pointer (some ⟨xn, 0, none⟩)] w fun e w' => ∃ s r, e = .returned (.tuple #[s, r]) ∧ R s r w' := by
  go_enter Tryz.func13, Tryz.ntmps13
  go_wp2_with fail
  refine hin.mono ?_
  rintro e W1 ⟨s, r, rfl, hR⟩
  have HR : Hid (R s r W1) := hR
  clear hin hR
  go_wp2_with fail
  go_ret2
  exact ⟨s, r, rfl, HR.out⟩

set_option maxRecDepth 10000 in
set_option maxHeartbeats 4000000 in
theorem tick_first (K : Nat → Int) (z : Nv) (nd q bb N j u : Nat) (C : Nat → List Int) (l : ByteArray) (bk lm m cc ky : Nat) (lv : Value) (L : List En) (G F : Nat → Prop) (D : DataW Unit) (kn : Nat) (w : World) (h : Al K w z nd q bb N j u C l bk lm m cc ky lv L G F D) (h0 : 0 ≤ z.r) (h2 : z.r ≤ 2) (hz0 : z.r = 0) (hz : z.r ≠ z.last) (hak : ackOf z L.length = (kn : Int)) (hL : L.length < 1000) (hkn : kn ≤ L.length) (hwh : ∀ e ∈ L, rqWhole e.c e.n e.o e.p e.v e.t = true) :
    Calls Tryz.prog 36 #[.pointer (some ⟨nd, 0, none⟩)] w fun e' w' => ∃ v, e' = .returned (.tuple #[v, .nilIface]) ∧ OutAt w' v (([] : List (Int × ByteArray)) ++ fwOut (z.r + 1) L kn (min 4 (L.length - kn))) ∧ Below w.heap.size w w' := by
  have HA : Hid (Al K w z nd q bb N j u C l bk lm m cc ky lv L G F D) := h
  have HW : Hid (∀ e ∈ L, rqWhole e.c e.n e.o e.p e.v e.t = true) := hwh
  have c7 : w.cell? ⟨nd, 7, none⟩ = some (.bool false) := h.node 7 _ rfl
  have hp := nd_place h.node
  have hpl := info_pl z
  have HNL : Hid (nd < w.heap.size) := h.nlt
  have hfi := first_any z
  simp only [decide_eq_true hz0] at hfi
  have hla := last_any z
  simp only [decide_eq_false hz] at hla
  clear hz
  clear h hwh
  go_enter Tryz.func36, Tryz.ntmps36
  go_wp2_with (first | (refine wpList_load_mid rfl 108 _ rfl nd 0 rfl (plL z) _ hp Tryz.underlying108 rfl hpl ?_))
  refine (hfi w).mono ?_
  rintro e' W1 ⟨rfl, hb1⟩
  have s1 := hb1.size
  have A1 : Hid (Al K W1 z nd q bb N j u C l bk lm m cc ky lv L G F D) := HA.out.fresh hb1
  have c6 : W1.cell? ⟨nd, 6, none⟩ = some (.bool z.hd) := A1.out.node 6 _ rfl
  try rw [hhd] at c6
  have HB1 : Hid (Below w.heap.size w W1) := hb1
  have hp := nd_place A1.out.node
  clear c7 hb1
  obtain ⟨W4, h4⟩ : ∃ X, X = W1 := ⟨_, rfl⟩
  have B4 : Hid (Below W1.heap.size W1 W4) := by rw [h4]; exact Below.refl _ _
  have A4 : Hid (Al K W4 z nd q bb N j u C l bk lm m cc ky lv L G F D) := by rw [h4]; exact A1
  have O4 : Hid (W4.ownsRow W1.heap.size 44 2 (.slice none 0 0) ([] : List (Int × ByteArray)).length (wayC [])) := ⟨rfl, Or.inl ⟨rfl, rfl⟩⟩
  go_wp2_with (first | (refine wpList_load_mid rfl 108 _ rfl nd 0 rfl (plL z) _ hp Tryz.underlying108 rfl hpl ?_))
  rw [← h4]
  clear h4
  refine (hla W4).mono ?_
  rintro e' W5 ⟨rfl, hb5⟩
  have s4 := B4.out.size
  have s5 := hb5.size
  have A5 : Hid (Al K W5 z nd q bb N j u C l bk lm m cc ky lv L G F D) := A4.out.fresh hb5
  have O5 : Hid (W5.ownsRow W1.heap.size 44 2 (.slice none 0 0) (([] : List (Int × ByteArray))).length (wayC ([] : List (Int × ByteArray)))) := own_below' O4.out hb5
  have HB5 : Hid (Below W1.heap.size W1 W5) := B4.out.trans (hb5.mono s4)
  clear hb5
  have hack := acked_any z nd bk j lm m cc ky lv L G F D W5 A5.out.node A5.out.nlt A5.out.book
  rw [hak] at hack
  go_wp2_with fail
  refine hack.mono ?_
  rintro e' W6 ⟨rfl, hb6⟩
  have s6 := hb6.size
  have hbe := behind_any K z nd q bb N j u C l bk lm m cc ky lv L G F D kn W6 (A5.out.fresh hb6) h0 h2 hkn HW.out hL
  have HB6 : Hid (Below W1.heap.size W1 W6) := HB5.out.trans (hb6.mono HB5.out.size)
  have O6 : Hid (W6.ownsRow W1.heap.size 44 2 (.slice none 0 0) (([] : List (Int × ByteArray))).length (wayC ([] : List (Int × ByteArray)))) := own_below' O5.out hb6
  clear hack hb6
  go_wp2_with fail
  refine hbe.mono ?_
  rintro e' W7 ⟨v7, rfl, y7, b7⟩
  have o7 : W7.ownsRow W1.heap.size 44 2 (.slice none 0 0) (([] : List (Int × ByteArray))).length (wayC ([] : List (Int × ByteArray))) := own_below' O6.out b7
  have HB7 : Hid (Below W1.heap.size W1 W7) := HB6.out.trans (b7.mono HB6.out.size)
  have sz7 := HB7.out.size
  clear hbe b7
  go_wp2_with (first
    | (refine wpList_append_pks rfl _ _ rfl W1.heap.size _ ([] : List (Int × ByteArray)) rfl o7 _ _ rfl y7 (by rw [fwOut_len]; simp; omega) (by omega) ?_
       intro ao8 m8 cap8 W8 hm8 o8 g8
       have HB8 : Hid (Below W1.heap.size W1 W8) := HB7.out.trans ((Below.refl _ _).grown g8 sz7 (fun g e => (o7.lt g e).1))
       have HO8 : Hid (OutAt W8 (.slice ao8 m8 cap8) (([] : List (Int × ByteArray)) ++ fwOut (z.r + 1) L kn (min 4 (L.length - kn)))) := OutAt.of_own o8
       clear o8 g8 hm8))
  go_ret2
  exact ⟨_, rfl, HO8.out, HB1.out.trans (HB8.out.mono s1)⟩

set_option maxRecDepth 10000 in
set_option maxHeartbeats 4000000 in
theorem tick_mid_ask (K : Nat → Int) (z : Nv) (nd q bb N j u : Nat) (C : Nat → List Int) (l : ByteArray) (bk lm m cc ky : Nat) (lv : Value) (L : List En) (G F : Nat → Prop) (D : DataW Unit) (kn : Nat) (w : World) (h : Al K w z nd q bb N j u C l bk lm m cc ky lv L G F D) (h0 : 0 ≤ z.r) (h2 : z.r ≤ 2) (h1 : 1 ≤ z.r) (hhd : z.hd = false) (hz : z.r ≠ z.last) (hak : ackOf z L.length = (kn : Int)) (hL : L.length < 1000) (hkn : kn ≤ L.length) (hwh : ∀ e ∈ L, rqWhole e.c e.n e.o e.p e.v e.t = true) :
    Calls Tryz.prog 36 #[.pointer (some ⟨nd, 0, none⟩)] w fun e' w' => ∃ v, e' = .returned (.tuple #[v, .nilIface]) ∧ OutAt w' v (([(z.r - 1, mkT 81 (L.length : Nat) ⟨#[]⟩)] : List (Int × ByteArray)) ++ fwOut (z.r + 1) L kn (min 4 (L.length - kn))) ∧ Below w.heap.size w w' := by
  have HA : Hid (Al K w z nd q bb N j u C l bk lm m cc ky lv L G F D) := h
  have HW : Hid (∀ e ∈ L, rqWhole e.c e.n e.o e.p e.v e.t = true) := hwh
  have c7 : w.cell? ⟨nd, 7, none⟩ = some (.bool false) := h.node 7 _ rfl
  have hp := nd_place h.node
  have hpl := info_pl z
  have HNL : Hid (nd < w.heap.size) := h.nlt
  have hfi := first_any z
  simp only [decide_eq_false (show ¬ z.r = 0 by omega)] at hfi
  have hla := last_any z
  simp only [decide_eq_false hz] at hla
  clear hz
  clear h hwh
  go_enter Tryz.func36, Tryz.ntmps36
  go_wp2_with (first | (refine wpList_load_mid rfl 108 _ rfl nd 0 rfl (plL z) _ hp Tryz.underlying108 rfl hpl ?_))
  refine (hfi w).mono ?_
  rintro e' W1 ⟨rfl, hb1⟩
  have s1 := hb1.size
  have A1 : Hid (Al K W1 z nd q bb N j u C l bk lm m cc ky lv L G F D) := HA.out.fresh hb1
  have c6 : W1.cell? ⟨nd, 6, none⟩ = some (.bool z.hd) := A1.out.node 6 _ rfl
  try rw [hhd] at c6
  have HB1 : Hid (Below w.heap.size w W1) := hb1
  have hp := nd_place A1.out.node
  clear c7 hb1
  have hask := ask_any K z nd q bb N j u C l bk lm m cc ky lv L G F D W1 A1.out h1 h2 hL
  have hsl := slice_pkC (z.r - 1) (mkT 81 (L.length : Nat) ⟨#[]⟩)
  clear hp
  go_wp2_with fail
  refine hask.mono ?_
  rintro e' W2 ⟨rfl, hb2⟩
  have s2 := hb2.size
  obtain ⟨W3, h3⟩ : ∃ X, X = W2.alloc (.cells (pkC (z.r - 1) (mkT 81 (L.length : Nat) ⟨#[]⟩)).toArray 44) := ⟨_, rfl⟩
  have s3 : W3.heap.size = W2.heap.size + 1 := by rw [h3]; simp
  have b3 : Below W2.heap.size W2 W3 := by rw [h3]; exact (Below.refl _ _).alloc (Nat.le_refl _) _
  have y3 : OutAt W3 (.slice (some ⟨W2.heap.size, 0, none⟩) 1 1) [(z.r - 1, mkT 81 (L.length : Nat) ⟨#[]⟩)] := OutAt.one (by omega) (by rw [h3]; exact range_new _ _ _)
  have B3 : Hid (Below W1.heap.size W1 W3) := hb2.trans (b3.mono s2)
  have o3 : W3.ownsRow W1.heap.size 44 2 (.slice none 0 0) ([] : List (Int × ByteArray)).length (wayC []) := ⟨rfl, Or.inl ⟨rfl, rfl⟩⟩
  clear hask hb2 b3
  go_wp2_with (first
    | (refine wpList_slice_one rfl 33 44 _ rfl (pkC (z.r - 1) (mkT 81 (L.length : Nat) ⟨#[]⟩)) rfl hsl ?_; rw [← h3]; clear h3)
    | (refine wpList_append_pks rfl _ _ rfl W1.heap.size _ [] rfl o3 _ _ rfl y3 (by simp) (by omega) ?_
       intro ao m' cap W4 hm4 o4 g4
       have hm4' : m' = 1 := hm4
       subst hm4'
       have B4 : Hid (Below W1.heap.size W1 W4) := B3.out.trans ((Below.refl _ _).grown g4 (by omega) (fun g e => by cases e))
       have A4 : Hid (Al K W4 z nd q bb N j u C l bk lm m cc ky lv L G F D) := A1.out.fresh B4.out
       have O4 : Hid (W4.ownsRow W1.heap.size 44 2 (.slice ao 1 cap) [(z.r - 1, mkT 81 (L.length : Nat) ⟨#[]⟩)].length (wayC [(z.r - 1, mkT 81 (L.length : Nat) ⟨#[]⟩)])) := o4
       have hp := nd_place A4.out.node
       clear o4 g4 hm4)
    | (refine wpList_load_mid rfl 108 _ rfl nd 0 rfl (plL z) _ hp Tryz.underlying108 rfl hpl ?_))
  refine (hla W4).mono ?_
  rintro e' W5 ⟨rfl, hb5⟩
  have s4 := B4.out.size
  have s5 := hb5.size
  have A5 : Hid (Al K W5 z nd q bb N j u C l bk lm m cc ky lv L G F D) := A4.out.fresh hb5
  have O5 : Hid (W5.ownsRow W1.heap.size 44 2 (.slice ao 1 cap) ([(z.r - 1, mkT 81 (L.length : Nat) ⟨#[]⟩)]).length (wayC [(z.r - 1, mkT 81 (L.length : Nat) ⟨#[]⟩)])) := own_below' O4.out hb5
  have HB5 : Hid (Below W1.heap.size W1 W5) := B4.out.trans (hb5.mono s4)
  clear hb5
  have hack := acked_any z nd bk j lm m cc ky lv L G F D W5 A5.out.node A5.out.nlt A5.out.book
  rw [hak] at hack
  go_wp2_with fail
  refine hack.mono ?_
  rintro e' W6 ⟨rfl, hb6⟩
  have s6 := hb6.size
  have hbe := behind_any K z nd q bb N j u C l bk lm m cc ky lv L G F D kn W6 (A5.out.fresh hb6) h0 h2 hkn HW.out hL
  have HB6 : Hid (Below W1.heap.size W1 W6) := HB5.out.trans (hb6.mono HB5.out.size)
  have O6 : Hid (W6.ownsRow W1.heap.size 44 2 (.slice ao 1 cap) ([(z.r - 1, mkT 81 (L.length : Nat) ⟨#[]⟩)]).length (wayC [(z.r - 1, mkT 81 (L.length : Nat) ⟨#[]⟩)])) := own_below' O5.out hb6
  clear hack hb6
  go_wp2_with fail
  refine hbe.mono ?_
  rintro e' W7 ⟨v7, rfl, y7, b7⟩
  have o7 : W7.ownsRow W1.heap.size 44 2 (.slice ao 1 cap) ([(z.r - 1, mkT 81 (L.length : Nat) ⟨#[]⟩)]).length (wayC [(z.r - 1, mkT 81 (L.length : Nat) ⟨#[]⟩)]) := own_below' O6.out b7
  have HB7 : Hid (Below W1.heap.size W1 W7) := HB6.out.trans (b7.mono HB6.out.size)
  have sz7 := HB7.out.size
  clear hbe b7
  go_wp2_with (first
    | (refine wpList_append_pks rfl _ _ rfl W1.heap.size _ [(z.r - 1, mkT 81 (L.length : Nat) ⟨#[]⟩)] rfl o7 _ _ rfl y7 (by rw [fwOut_len]; simp; omega) (by omega) ?_
       intro ao8 m8 cap8 W8 hm8 o8 g8
       have HB8 : Hid (Below W1.heap.size W1 W8) := HB7.out.trans ((Below.refl _ _).grown g8 sz7 (fun g e => (o7.lt g e).1))
       have HO8 : Hid (OutAt W8 (.slice ao8 m8 cap8) ([(z.r - 1, mkT 81 (L.length : Nat) ⟨#[]⟩)] ++ fwOut (z.r + 1) L kn (min 4 (L.length - kn)))) := OutAt.of_own o8
       clear o8 g8 hm8))
  go_ret2
  exact ⟨_, rfl, HO8.out, HB1.out.trans (HB8.out.mono s1)⟩

set_option maxRecDepth 10000 in
set_option maxHeartbeats 4000000 in
theorem tick_mid (K : Nat → Int) (z : Nv) (nd q bb N j u : Nat) (C : Nat → List Int) (l : ByteArray) (bk lm m cc ky : Nat) (lv : Value) (L : List En) (G F : Nat → Prop) (D : DataW Unit) (kn : Nat) (w : World) (h : Al K w z nd q bb N j u C l bk lm m cc ky lv L G F D) (h0 : 0 ≤ z.r) (h2 : z.r ≤ 2) (h1 : 1 ≤ z.r) (hhd : z.hd = true) (hz : z.r ≠ z.last) (hak : ackOf z L.length = (kn : Int)) (hL : L.length < 1000) (hkn : kn ≤ L.length) (hwh : ∀ e ∈ L, rqWhole e.c e.n e.o e.p e.v e.t = true) :
    Calls Tryz.prog 36 #[.pointer (some ⟨nd, 0, none⟩)] w fun e' w' => ∃ v, e' = .returned (.tuple #[v, .nilIface]) ∧ OutAt w' v (([] : List (Int × ByteArray)) ++ fwOut (z.r + 1) L kn (min 4 (L.length - kn))) ∧ Below w.heap.size w w' := by
  have HA : Hid (Al K w z nd q bb N j u C l bk lm m cc ky lv L G F D) := h
  have HW : Hid (∀ e ∈ L, rqWhole e.c e.n e.o e.p e.v e.t = true) := hwh
  have c7 : w.cell? ⟨nd, 7, none⟩ = some (.bool false) := h.node 7 _ rfl
  have hp := nd_place h.node
  have hpl := info_pl z
  have HNL : Hid (nd < w.heap.size) := h.nlt
  have hfi := first_any z
  simp only [decide_eq_false (show ¬ z.r = 0 by omega)] at hfi
  have hla := last_any z
  simp only [decide_eq_false hz] at hla
  clear hz
  clear h hwh
  go_enter Tryz.func36, Tryz.ntmps36
  go_wp2_with (first | (refine wpList_load_mid rfl 108 _ rfl nd 0 rfl (plL z) _ hp Tryz.underlying108 rfl hpl ?_))
  refine (hfi w).mono ?_
  rintro e' W1 ⟨rfl, hb1⟩
  have s1 := hb1.size
  have A1 : Hid (Al K W1 z nd q bb N j u C l bk lm m cc ky lv L G F D) := HA.out.fresh hb1
  have c6 : W1.cell? ⟨nd, 6, none⟩ = some (.bool z.hd) := A1.out.node 6 _ rfl
  try rw [hhd] at c6
  have HB1 : Hid (Below w.heap.size w W1) := hb1
  have hp := nd_place A1.out.node
  clear c7 hb1
  obtain ⟨W4, h4⟩ : ∃ X, X = W1 := ⟨_, rfl⟩
  have B4 : Hid (Below W1.heap.size W1 W4) := by rw [h4]; exact Below.refl _ _
  have A4 : Hid (Al K W4 z nd q bb N j u C l bk lm m cc ky lv L G F D) := by rw [h4]; exact A1
  have O4 : Hid (W4.ownsRow W1.heap.size 44 2 (.slice none 0 0) ([] : List (Int × ByteArray)).length (wayC [])) := ⟨rfl, Or.inl ⟨rfl, rfl⟩⟩
  go_wp2_with (first | (refine wpList_load_mid rfl 108 _ rfl nd 0 rfl (plL z) _ hp Tryz.underlying108 rfl hpl ?_))
  rw [← h4]
  clear h4
  refine (hla W4).mono ?_
  rintro e' W5 ⟨rfl, hb5⟩
  have s4 := B4.out.size
  have s5 := hb5.size
  have A5 : Hid (Al K W5 z nd q bb N j u C l bk lm m cc ky lv L G F D) := A4.out.fresh hb5
  have O5 : Hid (W5.ownsRow W1.heap.size 44 2 (.slice none 0 0) (([] : List (Int × ByteArray))).length (wayC ([] : List (Int × ByteArray)))) := own_below' O4.out hb5
  have HB5 : Hid (Below W1.heap.size W1 W5) := B4.out.trans (hb5.mono s4)
  clear hb5
  have hack := acked_any z nd bk j lm m cc ky lv L G F D W5 A5.out.node A5.out.nlt A5.out.book
  rw [hak] at hack
  go_wp2_with fail
  refine hack.mono ?_
  rintro e' W6 ⟨rfl, hb6⟩
  have s6 := hb6.size
  have hbe := behind_any K z nd q bb N j u C l bk lm m cc ky lv L G F D kn W6 (A5.out.fresh hb6) h0 h2 hkn HW.out hL
  have HB6 : Hid (Below W1.heap.size W1 W6) := HB5.out.trans (hb6.mono HB5.out.size)
  have O6 : Hid (W6.ownsRow W1.heap.size 44 2 (.slice none 0 0) (([] : List (Int × ByteArray))).length (wayC ([] : List (Int × ByteArray)))) := own_below' O5.out hb6
  clear hack hb6
  go_wp2_with fail
  refine hbe.mono ?_
  rintro e' W7 ⟨v7, rfl, y7, b7⟩
  have o7 : W7.ownsRow W1.heap.size 44 2 (.slice none 0 0) (([] : List (Int × ByteArray))).length (wayC ([] : List (Int × ByteArray))) := own_below' O6.out b7
  have HB7 : Hid (Below W1.heap.size W1 W7) := HB6.out.trans (b7.mono HB6.out.size)
  have sz7 := HB7.out.size
  clear hbe b7
  go_wp2_with (first
    | (refine wpList_append_pks rfl _ _ rfl W1.heap.size _ ([] : List (Int × ByteArray)) rfl o7 _ _ rfl y7 (by rw [fwOut_len]; simp; omega) (by omega) ?_
       intro ao8 m8 cap8 W8 hm8 o8 g8
       have HB8 : Hid (Below W1.heap.size W1 W8) := HB7.out.trans ((Below.refl _ _).grown g8 sz7 (fun g e => (o7.lt g e).1))
       have HO8 : Hid (OutAt W8 (.slice ao8 m8 cap8) (([] : List (Int × ByteArray)) ++ fwOut (z.r + 1) L kn (min 4 (L.length - kn)))) := OutAt.of_own o8
       clear o8 g8 hm8))
  go_ret2
  exact ⟨_, rfl, HO8.out, HB1.out.trans (HB8.out.mono s1)⟩

set_option maxRecDepth 10000 in
set_option maxHeartbeats 4000000 in
theorem tick_last_ask (K : Nat → Int) (z : Nv) (nd q bb N j u : Nat) (C : Nat → List Int) (l : ByteArray) (bk lm m cc ky : Nat) (lv : Value) (L : List En) (G F : Nat → Prop) (D : DataW Unit) (kn : Nat) (w : World) (h : Al K w z nd q bb N j u C l bk lm m cc ky lv L G F D) (h0 : 0 ≤ z.r) (h2 : z.r ≤ 2) (h1 : 1 ≤ z.r) (hhd : z.hd = false) (hz : z.r = z.last) (hL : L.length < 1000) (hkn : kn ≤ L.length) (hwh : ∀ e ∈ L, rqWhole e.c e.n e.o e.p e.v e.t = true) :
    Calls Tryz.prog 36 #[.pointer (some ⟨nd, 0, none⟩)] w fun e' w' => ∃ v, e' = .returned (.tuple #[v, .nilIface]) ∧ OutAt w' v (([(z.r - 1, mkT 81 (L.length : Nat) ⟨#[]⟩)] : List (Int × ByteArray)) ++ []) ∧ Below w.heap.size w w' := by
  have HA : Hid (Al K w z nd q bb N j u C l bk lm m cc ky lv L G F D) := h
  have HW : Hid (∀ e ∈ L, rqWhole e.c e.n e.o e.p e.v e.t = true) := hwh
  have c7 : w.cell? ⟨nd, 7, none⟩ = some (.bool false) := h.node 7 _ rfl
  have hp := nd_place h.node
  have hpl := info_pl z
  have HNL : Hid (nd < w.heap.size) := h.nlt
  have hfi := first_any z
  simp only [decide_eq_false (show ¬ z.r = 0 by omega)] at hfi
  have hla := last_any z
  simp only [decide_eq_true hz] at hla
  clear hz
  clear h hwh
  go_enter Tryz.func36, Tryz.ntmps36
  go_wp2_with (first | (refine wpList_load_mid rfl 108 _ rfl nd 0 rfl (plL z) _ hp Tryz.underlying108 rfl hpl ?_))
  refine (hfi w).mono ?_
  rintro e' W1 ⟨rfl, hb1⟩
  have s1 := hb1.size
  have A1 : Hid (Al K W1 z nd q bb N j u C l bk lm m cc ky lv L G F D) := HA.out.fresh hb1
  have c6 : W1.cell? ⟨nd, 6, none⟩ = some (.bool z.hd) := A1.out.node 6 _ rfl
  try rw [hhd] at c6
  have HB1 : Hid (Below w.heap.size w W1) := hb1
  have hp := nd_place A1.out.node
  clear c7 hb1
  have hask := ask_any K z nd q bb N j u C l bk lm m cc ky lv L G F D W1 A1.out h1 h2 hL
  have hsl := slice_pkC (z.r - 1) (mkT 81 (L.length : Nat) ⟨#[]⟩)
  clear hp
  go_wp2_with fail
  refine hask.mono ?_
  rintro e' W2 ⟨rfl, hb2⟩
  have s2 := hb2.size
  obtain ⟨W3, h3⟩ : ∃ X, X = W2.alloc (.cells (pkC (z.r - 1) (mkT 81 (L.length : Nat) ⟨#[]⟩)).toArray 44) := ⟨_, rfl⟩
  have s3 : W3.heap.size = W2.heap.size + 1 := by rw [h3]; simp
  have b3 : Below W2.heap.size W2 W3 := by rw [h3]; exact (Below.refl _ _).alloc (Nat.le_refl _) _
  have y3 : OutAt W3 (.slice (some ⟨W2.heap.size, 0, none⟩) 1 1) [(z.r - 1, mkT 81 (L.length : Nat) ⟨#[]⟩)] := OutAt.one (by omega) (by rw [h3]; exact range_new _ _ _)
  have B3 : Hid (Below W1.heap.size W1 W3) := hb2.trans (b3.mono s2)
  have o3 : W3.ownsRow W1.heap.size 44 2 (.slice none 0 0) ([] : List (Int × ByteArray)).length (wayC []) := ⟨rfl, Or.inl ⟨rfl, rfl⟩⟩
  clear hask hb2 b3
  go_wp2_with (first
    | (refine wpList_slice_one rfl 33 44 _ rfl (pkC (z.r - 1) (mkT 81 (L.length : Nat) ⟨#[]⟩)) rfl hsl ?_; rw [← h3]; clear h3)
    | (refine wpList_append_pks rfl _ _ rfl W1.heap.size _ [] rfl o3 _ _ rfl y3 (by simp) (by omega) ?_
       intro ao m' cap W4 hm4 o4 g4
       have hm4' : m' = 1 := hm4
       subst hm4'
       have B4 : Hid (Below W1.heap.size W1 W4) := B3.out.trans ((Below.refl _ _).grown g4 (by omega) (fun g e => by cases e))
       have A4 : Hid (Al K W4 z nd q bb N j u C l bk lm m cc ky lv L G F D) := A1.out.fresh B4.out
       have O4 : Hid (W4.ownsRow W1.heap.size 44 2 (.slice ao 1 cap) [(z.r - 1, mkT 81 (L.length : Nat) ⟨#[]⟩)].length (wayC [(z.r - 1, mkT 81 (L.length : Nat) ⟨#[]⟩)])) := o4
       have hp := nd_place A4.out.node
       clear o4 g4 hm4)
    | (refine wpList_load_mid rfl 108 _ rfl nd 0 rfl (plL z) _ hp Tryz.underlying108 rfl hpl ?_))
  refine (hla W4).mono ?_
  rintro e' W5 ⟨rfl, hb5⟩
  have s4 := B4.out.size
  have s5 := hb5.size
  have A5 : Hid (Al K W5 z nd q bb N j u C l bk lm m cc ky lv L G F D) := A4.out.fresh hb5
  have O5 : Hid (W5.ownsRow W1.heap.size 44 2 (.slice ao 1 cap) ([(z.r - 1, mkT 81 (L.length : Nat) ⟨#[]⟩)]).length (wayC [(z.r - 1, mkT 81 (L.length : Nat) ⟨#[]⟩)])) := own_below' O4.out hb5
  have HB5 : Hid (Below W1.heap.size W1 W5) := B4.out.trans (hb5.mono s4)
  clear hb5
  go_wp2_with fail
  go_ret2
  exact ⟨_, rfl, by first | exact OutAt.of_own O5.out | (rw [List.append_nil]; exact OutAt.of_own O5.out), HB1.out.trans (HB5.out.mono s1)⟩

set_option maxRecDepth 10000 in
set_option maxHeartbeats 4000000 in
theorem tick_last (K : Nat → Int) (z : Nv) (nd q bb N j u : Nat) (C : Nat → List Int) (l : ByteArray) (bk lm m cc ky : Nat) (lv : Value) (L : List En) (G F : Nat → Prop) (D : DataW Unit) (kn : Nat) (w : World) (h : Al K w z nd q bb N j u C l bk lm m cc ky lv L G F D) (h0 : 0 ≤ z.r) (h2 : z.r ≤ 2) (h1 : 1 ≤ z.r) (hhd : z.hd = true) (hz : z.r = z.last) (hL : L.length < 1000) (hkn : kn ≤ L.length) (hwh : ∀ e ∈ L, rqWhole e.c e.n e.o e.p e.v e.t = true) :
    Calls Tryz.prog 36 #[.pointer (some ⟨nd, 0, none⟩)] w fun e' w' => ∃ v, e' = .returned (.tuple #[v, .nilIface]) ∧ OutAt w' v (([] : List (Int × ByteArray)) ++ []) ∧ Below w.heap.size w w' := by
  have HA : Hid (Al K w z nd q bb N j u C l bk lm m cc ky lv L G F D) := h
  have HW : Hid (∀ e ∈ L, rqWhole e.c e.n e.o e.p e.v e.t = true) := hwh
  have c7 : w.cell? ⟨nd, 7, none⟩ = some (.bool false) := h.node 7 _ rfl
  have hp := nd_place h.node
  have hpl := info_pl z
  have HNL : Hid (nd < w.heap.size) := h.nlt
  have hfi := first_any z
  simp only [decide_eq_false (show ¬ z.r = 0 by omega)] at hfi
  have hla := last_any z
  simp only [decide_eq_true hz] at hla
  clear hz
  clear h hwh
  go_enter Tryz.func36, Tryz.ntmps36
  go_wp2_with (first | (refine wpList_load_mid rfl 108 _ rfl nd 0 rfl (plL z) _ hp Tryz.underlying108 rfl hpl ?_))
  refine (hfi w).mono ?_
  rintro e' W1 ⟨rfl, hb1⟩
  have s1 := hb1.size
  have A1 : Hid (Al K W1 z nd q bb N j u C l bk lm m cc ky lv L G F D) := HA.out.fresh hb1
  have c6 : W1.cell? ⟨nd, 6, none⟩ = some (.bool z.hd) := A1.out.node 6 _ rfl
  try rw [hhd] at c6
  have HB1 : Hid (Below w.heap.size w W1) := hb1
  have hp := nd_place A1.out.node
  clear c7 hb1
  obtain ⟨W4, h4⟩ : ∃ X, X = W1 := ⟨_, rfl⟩
  have B4 : Hid (Below W1.heap.size W1 W4) := by rw [h4]; exact Below.refl _ _
  have A4 : Hid (Al K W4 z nd q bb N j u C l bk lm m cc ky lv L G F D) := by rw [h4]; exact A1
  have O4 : Hid (W4.ownsRow W1.heap.size 44 2 (.slice none 0 0) ([] : List (Int × ByteArray)).length (wayC [])) := ⟨rfl, Or.inl ⟨rfl, rfl⟩⟩
  go_wp2_with (first | (refine wpList_load_mid rfl 108 _ rfl nd 0 rfl (plL z) _ hp Tryz.underlying108 rfl hpl ?_))
  rw [← h4]
  clear h4
  refine (hla W4).mono ?_
  rintro e' W5 ⟨rfl, hb5⟩
  have s4 := B4.out.size
  have s5 := hb5.size
  have A5 : Hid (Al K W5 z nd q bb N j u C l bk lm m cc ky lv L G F D) := A4.out.fresh hb5
  have O5 : Hid (W5.ownsRow W1.heap.size 44 2 (.slice none 0 0) (([] : List (Int × ByteArray))).length (wayC ([] : List (Int × ByteArray)))) := own_below' O4.out hb5
  have HB5 : Hid (Below W1.heap.size W1 W5) := B4.out.trans (hb5.mono s4)
  clear hb5
  go_wp2_with fail
  go_ret2
  exact ⟨_, rfl, by first | exact OutAt.of_own O5.out | (rw [List.append_nil]; exact OutAt.of_own O5.out), HB1.out.trans (HB5.out.mono s1)⟩
end Go.Proofs.YteglimjonofdeaaGreatDoor
