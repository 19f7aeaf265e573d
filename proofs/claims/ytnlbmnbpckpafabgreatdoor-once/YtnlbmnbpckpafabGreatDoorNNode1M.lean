import Derived.Test.YtnlbmnbpckpafabGreatDoorNTake
set_option linter.unusedVariables false
set_option linter.unusedSimpArgs false
namespace Go.Proofs.YtnlbmnbpckpafabGreatDoor
open Go.RowKit

/-- The cells of a node that is alone. -/
def ndL (bk : Nat) : List Value := [.int .i64 0, .int .i64 0, .pointer (some ⟨bk, 0, none⟩), .int .i64 0, .bool false, .bool false]
def plL : List Value := [.int .i64 0, .int .i64 0]
theorem info_pl : (Tryz.prog.info? 86).map (·.size) = some plL.length := by show _ = some 2; kernel_rfl
set_option maxHeartbeats 400000 in
theorem first_any (w : World) : Calls Tryz.prog 32 #[.agg plL.toArray] w fun e w' => e = .returned (.bool true) ∧ Below w.heap.size w w' := by
  unfold plL
  go_enter Tryz.func32, Tryz.ntmps32
  go_wp2_with fail
  go_ret
  exact ⟨rfl, (Below.refl _ _).alloc (Nat.le_refl _) _⟩
set_option maxHeartbeats 400000 in
theorem last_any (w : World) : Calls Tryz.prog 47 #[.agg plL.toArray] w fun e w' => e = .returned (.bool true) ∧ Below w.heap.size w w' := by
  unfold plL
  go_enter Tryz.func47, Tryz.ntmps47
  go_wp2_with fail
  go_ret
  exact ⟨rfl, (Below.refl _ _).alloc (Nat.le_refl _) _⟩
theorem nd_place {w : World} {nd bk : Nat} (h : w.rangeAt nd 0 (ndL bk)) : w.rangeAt nd 0 plL := fun i u hu => by
  match i, hu with
  | 0, hu => exact h 0 _ hu
  | 1, hu => exact h 1 _ hu
  | i + 2, hu => cases hu
theorem BookAt.slice {w : World} {bk j lm m cc : Nat} {lv : Value} {L : List En} {G F : Nat → Prop} {D : DataW Unit} (h : BookAt w bk j lm m cc lv L G F D) : ∃ a cap, lv = .slice a L.length cap := by
  rcases h.log.2 with ⟨e, e2⟩ | ⟨g, cap, cur, e, _⟩
  · exact ⟨none, 0, by rw [e, e2]⟩
  · exact ⟨_, _, e⟩
theorem BookAt.entry {w : World} {bk j lm m cc : Nat} {lv : Value} {L : List En} {G F : Nat → Prop} {D : DataW Unit} (h : BookAt w bk j lm m cc lv L G F D) (i : Nat) (e : En) (hi : L[i]? = some e) : ∃ g cap, lv = .slice (some ⟨g, 0, none⟩) L.length cap ∧ g < w.heap.size ∧ w.rangeAt g (i * 9) e.cells := by
  have hlt : i < L.length := (List.getElem?_eq_some_iff.1 hi).1
  rcases h.log.2 with ⟨_, e2⟩ | ⟨g, cap, cur, e1, _, hb, hc, hc2, hs, hx⟩
  · omega
  · refine ⟨g, cap, e1, block_lt hb, fun x u hu => ?_⟩
    have hx9 : x < 9 := by have := (List.getElem?_eq_some_iff.1 hu).1; rwa [e.len] at this
    have := logC_get L i x e hi hx9
    rw [← hx, List.getElem?_take_of_lt (by omega), hu] at this
    rw [cell_of_row w g (i * 9 + x) _ _ _ hb]
    simpa using this
set_option maxHeartbeats 400000 in
theorem acked_any (nd bk j lm m cc : Nat) (lv : Value) (L : List En) (G F : Nat → Prop) (D : DataW Unit) (w : World) (hn : w.rangeAt nd 0 (ndL bk)) (hnl : nd < w.heap.size) (h : BookAt w bk j lm m cc lv L G F D) :
    Calls Tryz.prog 39 #[.pointer (some ⟨nd, 0, none⟩)] w fun e w' => e = .returned (.int .i64 (L.length : Nat)) ∧ Below w.heap.size w w' := by
  obtain ⟨a, cap, hlv⟩ := h.slice
  have HB : Hid (BookAt w bk j lm m cc lv L G F D) := h
  have hp := nd_place hn
  have HN : Hid (w.rangeAt nd 0 (ndL bk)) := hn
  clear h hn
  go_enter Tryz.func39, Tryz.ntmps39
  go_wp2_with (first
    | (refine wpList_load_mid rfl 86 _ rfl nd 0 rfl plL _ hp Tryz.underlying86 rfl info_pl ?_))
  refine (last_any w).mono ?_
  rintro e w1 ⟨rfl, hb1⟩
  have c2 : w1.cell? ⟨nd, 2, none⟩ = some (.pointer (some ⟨bk, 0, none⟩)) := (hb1.cell (p := ⟨nd, 2, none⟩) hnl).trans (HN.out 2 _ rfl)
  have hen := bentries_any bk a L.length cap w1 (by rw [← hlv]; exact (HB.out.fresh hb1).cells 1 _ rfl)
  clear hp
  go_wp2_with fail
  refine hen.mono ?_
  rintro e w2 ⟨rfl, hw⟩
  obtain rfl : w1 = w2 := hw.symm
  clear hw hen
  go_wp2_with fail
  go_ret
  exact ⟨rfl, hb1⟩
theorem en_field (e : En) (w : World) : (Instr.field 126 (.agg e.cells.toArray) 0).run Tryz.prog w = .ok (.agg (rqCells e.c e.n e.o e.p e.v e.t).toArray) w := by
  obtain ⟨c, n, o, p, v, t, k, vv, tt⟩ := e
  kernel_rfl
theorem rq_field1 (c n o p v : Int) (t : ByteArray) (w : World) : (Instr.field 29 (.agg (rqCells c n o p v t).toArray) 1).run Tryz.prog w = .ok (.int .i64 n) w := by kernel_rfl
/-- What a client's last entry is, by the map of numbers. -/
def lastIs (L : List En) (D : DataW Unit) (c no : Int) (i : Nat) : Prop := D.atKey (.int .i64 c) (.lit (.int .i64 0)) = .lit (.int .i64 (i : Nat)) ∧ ((i = 0 ∧ no = 0) ∨ ∃ e, 1 ≤ i ∧ L[i - 1]? = some e ∧ e.n = no)
set_option maxHeartbeats 1000000 in
theorem lastno_any (bk j lm m cc : Nat) (lv : Value) (L : List En) (G F : Nat → Prop) (D : DataW Unit) (c no : Int) (i : Nat) (w : World) (h : BookAt w bk j lm m cc lv L G F D) (hc : 0 ≤ c ∧ c < 1000) (hl : lastIs L D c no i) (hL : L.length < 1000) :
    Calls Tryz.prog 34 #[.pointer (some ⟨bk, 0, none⟩), .int .i64 c] w fun e w' => e = .returned (.int .i64 no) ∧ Below w.heap.size w w' := by
  have hla := blast_any bk lm cc D c w (h.cells 2 _ rfl) h.lasts hc
  obtain ⟨hD, hcase⟩ := hl
  have HB : Hid (BookAt w bk j lm m cc lv L G F D) := h
  rcases hcase with ⟨rfl, rfl⟩ | ⟨e, hi1, hie, rfl⟩
  · clear h
    go_enter Tryz.func34, Tryz.ntmps34
    go_wp2_with fail
    refine hla.mono ?_
    rintro e w1 ⟨x, rfl, hx, hw⟩
    obtain rfl : w = w1 := hw.symm
    obtain rfl : x = 0 := by rw [hD] at hx; simpa using hx.symm
    clear hw hla hx
    go_wp2_with fail
    go_ret
    exact ⟨rfl, Below.refl _ _⟩
  · have hlt : i - 1 < L.length := (List.getElem?_eq_some_iff.1 hie).1
    obtain ⟨g, cap, hlv, hg, hr⟩ := h.entry (i - 1) e hie
    have hent := bentry_any bk g L.length cap i e.cells w h.lt hg (by rw [← hlv]; exact h.cells 1 _ rfl) ⟨hi1, by omega⟩ hL e.len hr e.one
    have hf1 := en_field e
    have hf2 := rq_field1 e.c e.n e.o e.p e.v e.t
    have hne : ¬ (i : Int) = 0 := by omega
    clear h
    generalize e.cells = cs at *
    go_enter Tryz.func34, Tryz.ntmps34
    go_wp2_with fail
    refine hla.mono ?_
    rintro e' w1 ⟨x, rfl, hx, hw⟩
    obtain rfl : w = w1 := hw.symm
    obtain rfl : x = (i : Nat) := by rw [hD] at hx; simpa using hx.symm
    clear hw hla hx
    go_wp2_with fail
    refine hent.mono ?_
    rintro e' w2 ⟨rfl, hb2⟩
    clear hent
    go_wp2_with fail
    go_ret
    exact ⟨rfl, hb2⟩

theorem pa_built (n k vv : Int) (tt : ByteArray) : Tryz.prog.built 179 [(0, .int .i64 n), (1, .agg (anCells k vv tt).toArray)] = some (paCells n k vv tt).toArray := by kernel_rfl
theorem en_answer {W : World} {b : Nat} {e : En} (h : W.rangeAt b 0 e.cells) : W.rangeAt b 6 (anCells e.k e.vv e.tt) := fun i u hu => by
  match i, hu with
  | 0, hu => exact h 6 _ hu
  | 1, hu => exact h 7 _ hu
  | 2, hu => exact h 8 _ hu
  | i + 3, hu => cases hu
theorem pk_info (a : Int) (s : ByteArray) : (Tryz.prog.info? 44).map (·.size) = some [Value.int .i64 a, .string s].length := by show _ = some 2; kernel_rfl
theorem pk_one (a : Int) (s : ByteArray) : ∀ u ∈ [Value.int .i64 a, .string s], u.oneCell' = true := by intro u hu; simp at hu; rcases hu with rfl | rfl <;> rfl
/-- The packet that tells what entry e did. -/
def pkOf (e : En) : List Value := [.int .i64 (10 + e.c), .string (strOfNums (anBytes e.n e.k e.vv e.tt))]
theorem info_en9 (e : En) : (Tryz.prog.info? 126).map (·.size) = some e.cells.length := by rw [e.len]; exact info_en

set_option maxRecDepth 10000 in
set_option maxHeartbeats 2000000 in
theorem answer_any (nd bk j lm m cc i : Nat) (lv : Value) (L : List En) (G F : Nat → Prop) (D : DataW Unit) (e : En) (w : World) (hn : w.rangeAt nd 0 (ndL bk)) (hnl : nd < w.heap.size) (h : BookAt w bk j lm m cc lv L G F D) (hi : 1 ≤ i) (hie : L[i - 1]? = some e) (hL : L.length < 1000) :
    Calls Tryz.prog 57 #[.pointer (some ⟨nd, 0, none⟩), .int .i64 (i : Nat)] w fun e' w' => e' = .returned (.agg (pkOf e).toArray) ∧ Below w.heap.size w w' := by
  have he := h.ens e (List.mem_of_getElem? hie)
  have hlt : i - 1 < L.length := (List.getElem?_eq_some_iff.1 hie).1
  obtain ⟨V, hV⟩ : ∃ V, V = w.alloc (.cells #[.int .i64 0, .string ⟨#[]⟩] 44) := ⟨_, rfl⟩
  have hVs : V.heap.size = w.heap.size + 1 := by rw [hV]; simp
  have bV : Below w.heap.size w V := by rw [hV]; exact (Below.refl _ _).alloc (Nat.le_refl _) _
  have tV : V.there w.heap.size 0 2 := by rw [hV]; exact there_new w #[.int .i64 0, .string ⟨#[]⟩] _
  have hVB := h.fresh bV
  obtain ⟨g, cap, hlv, hg, hr⟩ := hVB.entry (i - 1) e hie
  have hent := bentry_any bk g L.length cap i e.cells V hVB.lt hg (by rw [← hlv]; exact hVB.cells 1 _ rfl) ⟨hi, by omega⟩ hL e.len hr e.one
  have c2 : V.cell? ⟨nd, 2, none⟩ = some (.pointer (some ⟨bk, 0, none⟩)) := (bV.cell (p := ⟨nd, 2, none⟩) hnl).trans (hn 2 _ rfl)
  have BVh : Hid (Below w.heap.size w V) := bV
  have TVh : Hid (V.there w.heap.size 0 2) := tV
  clear h hn bV tV hVB hr
  go_enter Tryz.func57, Tryz.ntmps57
  go_wp2_with (rw [← hV]; clear hV)
  refine hent.mono ?_
  rintro e' W1 ⟨rfl, hb1⟩
  have s1 := hb1.size
  have T1 : Hid (W1.there w.heap.size 0 2) := there_below hb1 (by omega) TVh.out
  have B1 : Hid (Below w.heap.size w W1) := BVh.out.trans (hb1.mono (by omega))
  obtain ⟨W2, hW2⟩ : ∃ W2, W2 = W1.alloc (.cells (enCells 0 0 0 0 0 ⟨#[]⟩ 0 0 ⟨#[]⟩).toArray 126) := ⟨_, rfl⟩
  have hW2s : W2.heap.size = W1.heap.size + 1 := by rw [hW2]; simp
  have b2 : Below W1.heap.size W1 W2 := by rw [hW2]; exact (Below.refl _ _).alloc (Nat.le_refl _) _
  have t2 : W2.there W1.heap.size 0 e.cells.length := by rw [hW2, e.len]; exact there_new W1 (enCells 0 0 0 0 0 ⟨#[]⟩ 0 0 ⟨#[]⟩).toArray _
  have T2 : Hid (W2.there w.heap.size 0 2) := there_below b2 (by omega) T1.out
  have B2 : Hid (Below w.heap.size w W2) := B1.out.trans (b2.mono (by omega))
  have HI := info_en9 e
  have HO := e.one
  clear hb1 hent b2 c2
  go_wp2_with (first
    | (refine wpList_alloc_of rfl 126 rfl (enCells 0 0 0 0 0 ⟨#[]⟩ 0 0 ⟨#[]⟩).toArray alloc_en ?_; rw [← hW2]; clear hW2)
    | (refine wpList_store_abs rfl 126 _ _ rfl W1.heap.size 0 e.cells rfl rfl t2 HI HO ?_
       intro W3 hw3 hr3 _ht3 hb3
       have T3 : Hid (W3.there w.heap.size 0 2) := there_kept T2.out (by rw [hw3]; exact Kept.setCells (S := (· = W1.heap.size)) _ _ _ _ (Or.inl rfl)) (by omega) (by show ¬ w.heap.size = W1.heap.size; omega)
       have B3 : Hid (Below w.heap.size w W3) := B2.out.trans (hb3 w.heap.size (by omega))
       have s3 : W3.heap.size = W1.heap.size + 1 := (by rw [hw3, size_setCells]; exact hW2s)
       have J0 : W3.drew.rangeAt W1.heap.size 0 e.cells := hr3
       clear _ht3 hw3 hb3 hr3))
  refine wp_region_noPanic ?_
  refine wp_region_held_drew (S := fun W => W.rangeAt W1.heap.size 0 e.cells) (by kernel_rfl) J0 (fun _ => ?_)
  refine wpAnyH_take (i := 0) (v := ?_) rfl (by kernel_rfl) (by kernel_rfl) (by kernel_rfl) (fun _ _ _ h => h) (Or.inl ⟨by rfl, ?_⟩) J0 ?_
  rotate_left 1
  · intro W hSW; clear hSW; go_simp; try with_reducible rfl
  simp only [List.getElem_toArray, List.getElem_cons_zero, List.getElem_cons_succ, Act.put, List.setIfInBounds_toArray, List.set_cons_zero, List.set_cons_succ]
  refine wpAnyH_take (i := 1) (v := ?_) rfl (by kernel_rfl) (by kernel_rfl) (by kernel_rfl) (fun _ _ _ h => h) (Or.inl ⟨by rfl, ?_⟩) J0 ?_
  rotate_left 1
  · intro W hSW; clear hSW; go_simp; try with_reducible rfl
  simp only [List.getElem_toArray, List.getElem_cons_zero, List.getElem_cons_succ, Act.put, List.setIfInBounds_toArray, List.set_cons_zero, List.set_cons_succ]
  refine wpAnyH_take (i := 2) (v := ?_) rfl (by kernel_rfl) (by kernel_rfl) (by kernel_rfl) (fun _ _ _ h => h) (Or.inl ⟨by rfl, ?_⟩) J0 ?_
  rotate_left 1
  · intro W hSW; have qc : W.cell? ⟨W1.heap.size, 0, none⟩ = some (.int .i64 e.c) := hSW 0 _ rfl; clear hSW; go_simp; try with_reducible rfl
  simp only [List.getElem_toArray, List.getElem_cons_zero, List.getElem_cons_succ, Act.put, List.setIfInBounds_toArray, List.set_cons_zero, List.set_cons_succ]
  refine wpAnyH_take (i := 4) (v := ?_) rfl (by kernel_rfl) (by kernel_rfl) (by kernel_rfl) (fun _ _ _ h => h) (Or.inl ⟨by rfl, ?_⟩) J0 ?_
  rotate_left 1
  · intro W hSW; clear hSW; go_simp; try with_reducible rfl
  simp only [List.getElem_toArray, List.getElem_cons_zero, List.getElem_cons_succ, Act.put, List.setIfInBounds_toArray, List.set_cons_zero, List.set_cons_succ]
  refine wpAnyH_take (i := 5) (v := ?_) rfl (by kernel_rfl) (by kernel_rfl) (by kernel_rfl) (fun _ _ _ h => h) (Or.inl ⟨by rfl, ?_⟩) J0 ?_
  rotate_left 1
  · intro W hSW; clear hSW; go_simp; try with_reducible rfl
  simp only [List.getElem_toArray, List.getElem_cons_zero, List.getElem_cons_succ, Act.put, List.setIfInBounds_toArray, List.set_cons_zero, List.set_cons_succ]
  refine wpAnyH_take (i := 6) (v := ?_) rfl (by kernel_rfl) (by kernel_rfl) (by kernel_rfl) (fun _ _ _ h => h) (Or.inl ⟨by rfl, ?_⟩) J0 ?_
  rotate_left 1
  · intro W hSW; have qc : W.cell? ⟨W1.heap.size, 1, none⟩ = some (.int .i64 e.n) := hSW 1 _ rfl; clear hSW; go_simp; try with_reducible rfl
  simp only [List.getElem_toArray, List.getElem_cons_zero, List.getElem_cons_succ, Act.put, List.setIfInBounds_toArray, List.set_cons_zero, List.set_cons_succ]
  refine wpAnyH_take (i := 7) (v := ?_) rfl (by kernel_rfl) (by kernel_rfl) (by kernel_rfl) (fun _ _ _ h => h) (Or.inl ⟨by rfl, ?_⟩) J0 ?_
  rotate_left 1
  · intro W hSW; clear hSW; go_simp; try with_reducible rfl
  simp only [List.getElem_toArray, List.getElem_cons_zero, List.getElem_cons_succ, Act.put, List.setIfInBounds_toArray, List.set_cons_zero, List.set_cons_succ]
  refine wpAnyH_take (i := 8) (v := .agg (anCells e.k e.vv e.tt).toArray) rfl (by kernel_rfl) (by kernel_rfl) (by kernel_rfl) (fun _ _ _ h => h) (yieldsIf_load_mid (by rfl) 124 _ rfl W1.heap.size 6 rfl (anCells e.k e.vv e.tt) _ (fun W hW => en_answer hW) Tryz.underlying124 rfl (info_an e.k e.vv e.tt)) J0 ?_
  simp only [List.getElem_toArray, List.getElem_cons_zero, List.getElem_cons_succ, Act.put, List.setIfInBounds_toArray, List.set_cons_zero, List.set_cons_succ]
  refine wpAnyH_take (i := 9) (v := .agg (paCells e.n e.k e.vv e.tt).toArray) rfl (by kernel_rfl) (by kernel_rfl) (by kernel_rfl) (fun _ _ _ h => h) (yieldsIf_build (by rfl) 179 _ rfl (paCells e.n e.k e.vv e.tt).toArray (Eq.trans (congrArg (Tryz.prog.built _) (by simp [Act.eval])) (pa_built e.n e.k e.vv e.tt))) J0 ?_
  simp only [List.getElem_toArray, List.getElem_cons_zero, List.getElem_cons_succ, Act.put, List.setIfInBounds_toArray, List.set_cons_zero, List.set_cons_succ]
  refine wpAnyH_take (i := 10) (v := ?_) rfl (by kernel_rfl) (by kernel_rfl) (by kernel_rfl) (fun _ _ _ h => h) (Or.inl ⟨by rfl, ?_⟩) J0 ?_
  rotate_left 1
  · intro W hSW; clear hSW; go_simp; try with_reducible rfl
  simp only [List.getElem_toArray, List.getElem_cons_zero, List.getElem_cons_succ, Act.put, List.setIfInBounds_toArray, List.set_cons_zero, List.set_cons_succ]
  refine wpAnyH_ready (rs := [3]) (by kernel_rfl) (by simp) ?_
  refine AllReadyH.cons rfl (fun K' hK' => ?_) AllReadyH.nil
  rw [if_pos (by rfl)]
  go_simp
  refine (pclient_any e.c W3.drew he.1).mono ?_
  rintro e' W4 ⟨rfl, hw4⟩
  obtain rfl : W3.drew = W4 := hw4.symm
  clear hw4
  refine hK'.out _ _ J0 (fun _ => ?_)
  clear hK' K'
  try simp only [List.getElem_toArray, List.getElem_cons_zero, List.getElem_cons_succ, Act.put, List.setIfInBounds_toArray, List.set_cons_zero, List.set_cons_succ]
  refine wpAnyH_ready (rs := [11]) (by kernel_rfl) (by simp) ?_
  refine AllReadyH.cons rfl (fun K' hK' => ?_) AllReadyH.nil
  rw [if_pos (by rfl)]
  go_simp
  refine (pto_any (10 + e.c) e.n e.k e.vv e.tt W3.drew he.2.1 he.2.2.1 he.2.2.2.1 he.2.2.2.2).mono ?_
  rintro e' W5 ⟨rfl, hb5⟩
  have k5 : Kept (fun _ => False) W3 W5 := (Kept.drew _ W3).trans (Kept.fresh hb5) (fun _ _ h => h)
  have s5 := k5.size
  have J5 : W5.rangeAt W1.heap.size 0 e.cells := range_kept (W := W3) J0 k5 (by omega) id
  have T5 : W5.there w.heap.size 0 [Value.int .i64 (10 + e.c), .string (strOfNums (anBytes e.n e.k e.vv e.tt))].length := there_kept T3.out k5 (by omega) id
  have B5 : Hid (Below w.heap.size w W5) := (B3.out.drew).trans (hb5.mono (by show _ ≤ W3.heap.size; omega))
  clear hb5 k5
  refine hK'.out _ _ J5 (fun _ => ?_)
  clear hK' K'
  try simp only [List.getElem_toArray, List.getElem_cons_zero, List.getElem_cons_succ, Act.put, List.setIfInBounds_toArray, List.set_cons_zero, List.set_cons_succ]
  refine wpAnyH_ready (rs := [12]) (by kernel_rfl) (by simp) ?_
  refine AllReadyH.cons rfl (fun K' hK' => ?_) AllReadyH.nil
  rw [if_pos (by rfl)]
  refine wp_store_abs 44 _ _ rfl w.heap.size 0 [Value.int .i64 (10 + e.c), .string (strOfNums (anBytes e.n e.k e.vv e.tt))] rfl rfl T5 (pk_info _ _) (pk_one _ _) ?_
  intro W6 hw6 hr6 _ht6 hb6
  have J6 : W6.rangeAt W1.heap.size 0 e.cells := by rw [hw6]; exact World.rangeAt_setCells_apart J5 _ _ _ (Or.inl (by omega))
  have B6 : Below w.heap.size w W6 := B5.out.trans (hb6 w.heap.size (Nat.le_refl _))
  clear _ht6 hw6 hb6
  refine hK'.out _ _ J6 (fun _ => ?_)
  clear hK' K'
  try simp only [List.getElem_toArray, List.getElem_cons_zero, List.getElem_cons_succ, Act.put, List.setIfInBounds_toArray, List.set_cons_zero, List.set_cons_succ]
  refine ⟨by kernel_rfl, ?_⟩
  refine NoPanic.normal ?_
  try simp only [List.getElem_toArray, List.getElem_cons_zero, List.getElem_cons_succ, Act.put, List.setIfInBounds_toArray, List.set_cons_zero, List.set_cons_succ]
  go_wp2_with fail
  exact ret_cell rfl w.heap.size 0 [Value.int .i64 (10 + e.c), .string (strOfNums (anBytes e.n e.k e.vv e.tt))] _ rfl hr6 Tryz.underlying44 rfl (pk_info _ _) rfl ⟨rfl, B6⟩
end Go.Proofs.YtnlbmnbpckpafabGreatDoor
set_option linter.unusedVariables false
set_option linter.unusedSimpArgs false
namespace Go.Proofs.YtnlbmnbpckpafabGreatDoor
open Go.RowKit

/-- A node that is alone, with its book and its journal. -/
structure Al (K : Nat → Int) (w : World) (nd q bb N j u : Nat) (C : Nat → List Int) (l : ByteArray) (bk lm m cc : Nat) (lv : Value) (L : List En) (G F : Nat → Prop) (D : DataW Unit) : Prop where
  node : w.rangeAt nd 0 (ndL bk)
  nlt : nd < w.heap.size
  jat : JAt w q bb N j u C l
  book : BookAt w bk j lm m cc lv L G F D
  ap : ∀ g, bkOwn bk lm lv G g → ¬ jOwn q bb j g
  nap : ¬ bkOwn bk lm lv G nd ∧ ¬ jOwn q bb j nd
  tab : Tab K w
  tap : ¬ bkOwn bk lm lv G 1 ∧ ¬ jOwn q bb j 1
def alOwn (q bb j bk lm : Nat) (lv : Value) (G : Nat → Prop) (g : Nat) : Prop := jOwn q bb j g ∨ bkOwn bk lm lv G g
theorem Al.fresh {w w' : World} {K : Nat → Int} {nd q bb N j u : Nat} {C : Nat → List Int} {l : ByteArray} {bk lm m cc : Nat} {lv : Value} {L : List En} {G F : Nat → Prop} {D : DataW Unit} (h : Al K w nd q bb N j u C l bk lm m cc lv L G F D) (hb : Below w.heap.size w w') : Al K w' nd q bb N j u C l bk lm m cc lv L G F D :=
  have k : Kept (fun _ => False) w w' := Kept.fresh hb
  ⟨range_kept h.node k h.nlt id, Nat.lt_of_lt_of_le h.nlt k.size, h.jat.kept k (fun _ _ => id), h.book.kept k (fun _ _ => id), h.ap, h.nap, h.tab.kept k id, h.tap⟩
theorem wpList_slice_one {ops : Array Oper} {rest : List Oper} {o : Oper} {a : Act} {w : World} {Q : Exit → Act → World → Prop} (hgd : o.guard = none) (t e : TypeId) (x : Operand) (ho : o.op = .buildSlice t 1 #[(0, x)]) (cs : List Value) (hx : a.eval x = .agg cs.toArray)
    (hbs : ∀ w, (Instr.buildSlice t 1 #[(0, .agg cs.toArray)]).run Tryz.prog w = .ok (.slice (some ⟨w.heap.size, 0, none⟩) 1 1) (w.alloc (.cells cs.toArray e)))
    (h : wpList Tryz.prog ops Q rest (a.put o.dst (.slice (some ⟨w.heap.size, 0, none⟩) 1 1)) (w.alloc (.cells cs.toArray e))) : wpList Tryz.prog ops Q (o :: rest) a w :=
  wpList_plain hgd fun _ hK => wp_slice_one t e x ho cs hx hbs (hK _ _ h)
theorem info_pkT : ∃ i, Tryz.prog.info? 44 = some i ∧ i.zero = some (.agg #[.int .i64 0, .string ⟨#[]⟩]) ∧ i.size = 2 := by
  obtain ⟨i, hi⟩ : ∃ i, Tryz.prog.info? 44 = some i := Option.isSome_iff_exists.1 (by kernel_rfl)
  refine ⟨i, hi, ?_, ?_⟩
  · have : (Tryz.prog.info? 44).bind (·.zero) = some (.agg #[.int .i64 0, .string ⟨#[]⟩]) := by kernel_rfl
    rw [hi] at this; exact this
  · have : (Tryz.prog.info? 44).map (·.size) = some 2 := by kernel_rfl
    rw [hi] at this; exact Option.some.inj this
theorem slice_pk (e : En) (w : World) : (Instr.buildSlice 33 1 #[(0, .agg (pkOf e).toArray)]).run Tryz.prog w = .ok (.slice (some ⟨w.heap.size, 0, none⟩) 1 1) (w.alloc (.cells (pkOf e).toArray 44)) := by
  obtain ⟨i0, h1, h2, h3⟩ := info_pkT
  exact run_slice_one 33 44 (pkOf e) i0 _ Tryz.underlying33 h1 h2 h3 (by show 0 < 2; omega) (by show 2 ≤ 1000; omega) w
/-- One packet comes out. -/
def onePk (e : En) (w w' : World) (b : Nat) : Prop := w.heap.size ≤ b ∧ b < w'.heap.size ∧ w'.rangeAt b 0 (pkOf e)

set_option maxRecDepth 10000 in
set_option maxHeartbeats 1000000 in
theorem again_any (K : Nat → Int) (nd q bb N j u : Nat) (C : Nat → List Int) (l : ByteArray) (bk lm m cc : Nat) (lv : Value) (L : List En) (G F : Nat → Prop) (D : DataW Unit) (i : Nat) (e : En) (w : World) (h : Al K w nd q bb N j u C l bk lm m cc lv L G F D) (hi : 1 ≤ i) (hie : L[i - 1]? = some e) (hL : L.length < 1000) :
    Calls Tryz.prog 35 #[.pointer (some ⟨nd, 0, none⟩), .int .i64 (i : Nat)] w fun e' w' => ∃ b, e' = .returned (.slice (some ⟨b, 0, none⟩) 1 1) ∧ onePk e w w' b ∧ Below w.heap.size w w' := by
  have hlt : i - 1 < L.length := (List.getElem?_eq_some_iff.1 hie).1
  have hack := acked_any nd bk j lm m cc lv L G F D w h.node h.nlt h.book
  have HA : Hid (Al K w nd q bb N j u C l bk lm m cc lv L G F D) := h
  have hle : (i : Int) ≤ (L.length : Int) := by omega
  clear h
  go_enter Tryz.func35, Tryz.ntmps35
  go_wp2_with fail
  refine hack.mono ?_
  rintro e' W1 ⟨rfl, hb1⟩
  have A1 := HA.out.fresh hb1
  have hans := answer_any nd bk j lm m cc i lv L G F D e W1 A1.node A1.nlt A1.book hi hie hL
  have HB1 : Hid (Below w.heap.size w W1) := hb1
  have hsl := slice_pk e
  clear A1 hack hb1
  go_wp2_with fail
  refine hans.mono ?_
  rintro e' W2 ⟨rfl, hb2⟩
  have HB2 : Hid (Below w.heap.size w W2) := HB1.out.trans (hb2.mono HB1.out.size)
  clear hans hb2
  go_wp2_with (first | (refine wpList_slice_one rfl 33 44 _ rfl (pkOf e) rfl hsl ?_))
  go_ret
  refine ⟨_, rfl, ⟨HB2.out.size, by simp, ?_⟩, HB2.out.alloc HB2.out.size _⟩
  exact range_new _ _ _

/-- What a new request of a node that is alone leaves. -/
def newPost (K : Nat → Int) (nd q bb N j u : Nat) (C : Nat → List Int) (l : ByteArray) (bk lm m cc : Nat) (lv : Value) (L : List En) (G F : Nat → Prop) (D : DataW Unit) (c n o p v : Int) (t : ByteArray) (w : World) (e : Ending) (w' : World) : Prop :=
  ∃ (C' : Nat → List Int) (l' : ByteArray) (lv' : Value) (G' F' : Nat → Prop) (k vv : Int) (tt : ByteArray) (b : Nat), e = .returned (.tuple #[.slice (some ⟨b, 0, none⟩) 1 1, .nilIface]) ∧ Al K w' nd q bb N j (u + 1) C' l' bk lm m (cc + 3) lv' (L ++ [⟨c, n, o, p, v, t, k, vv, tt⟩]) G' F' (D.put (.int .i64 c) (.lit (.int .i64 ((L.length + 1 : Nat) : Int)))) ∧
    onePk ⟨c, n, o, p, v, t, k, vv, tt⟩ w w' b ∧ Kept (alOwn q bb j bk lm lv G) w w' ∧ ∀ g, bkOwn bk lm lv' G' g → bkOwn bk lm lv G g ∨ w.heap.size ≤ g

theorem JAt.drew {w : World} {q bb N j u : Nat} {C : Nat → List Int} {l : ByteArray} (h : JAt w q bb N j u C l) : JAt w.drew q bb N j u C l := h.kept (Kept.drew (fun _ => False) w) (fun _ _ => id)
theorem BookAt.drew {w : World} {bk j lm m cc : Nat} {lv : Value} {L : List En} {G F : Nat → Prop} {D : DataW Unit} (h : BookAt w bk j lm m cc lv L G F D) : BookAt w.drew bk j lm m cc lv L G F D := h.kept (Kept.drew (fun _ => False) w) (fun _ _ => id)
theorem Tab.drew {K : Nat → Int} {w : World} (h : Tab K w) : Tab K w.drew := h.kept (Kept.drew (fun _ => False) w) id
set_option maxRecDepth 10000 in
set_option maxHeartbeats 4000000 in
theorem ntake_any (K : Nat → Int) (nd q bb N j u : Nat) (C : Nat → List Int) (l : ByteArray) (bk lm m cc : Nat) (lv : Value) (L : List En) (G F : Nat → Prop) (D : DataW Unit) (c n o p v : Int) (t : ByteArray) (w : World) (h : Al K w nd q bb N j u C l bk lm m cc lv L G F D) (hN : N ≤ 1000) (hu : u < N) (hw : rqWhole c n o p v t = true) (hL : L.length ≤ 400) (hcc : cc < 700) :
    Calls Tryz.prog 37 #[.pointer (some ⟨nd, 0, none⟩), .agg (rqCells c n o p v t).toArray] w (newPost K nd q bb N j u C l bk lm m cc lv L G F D c n o p v t w) := by
  obtain ⟨V, hV⟩ : ∃ V, V = w.alloc (.cells (rqCells c n o p v t).toArray 29) := ⟨_, rfl⟩
  have hVs : V.heap.size = w.heap.size + 1 := by rw [hV]; simp
  have bV : Below w.heap.size w V := by rw [hV]; exact (Below.refl _ _).alloc (Nat.le_refl _) _
  have rV : V.rangeAt w.heap.size 0 (rqCells c n o p v t) := by rw [hV]; exact range_new _ _ _
  have AV := h.fresh bV
  have HJL : Hid (∀ g, jOwn q bb j g → g < w.heap.size) := h.jat.ownLt
  have HBL : Hid (∀ g, bkOwn bk lm lv G g → g < w.heap.size) := h.book.ownLt
  have HNL : Hid (nd < w.heap.size) := h.nlt
  have HAV : Hid (Al K V nd q bb N j u C l bk lm m cc lv L G F D) := AV
  have HBV : Hid (Below w.heap.size w V) := bV
  have HRV : Hid (V.rangeAt w.heap.size 0 (rqCells c n o p v t)) := rV
  have HQ : Hid ((Tryz.prog.info? 29).map (·.size) = some (rqCells c n o p v t).length) := info_rq c n o p v t
  have c2 : V.cell? ⟨nd, 2, none⟩ = some (.pointer (some ⟨bk, 0, none⟩)) := AV.node 2 _ rfl
  have hfull := bfull_any bk j q N u l V (AV.book.cells 0 _ rfl) AV.jat.l32 AV.jat.lt AV.jat.jour
  rw [decide_eq_false (show ¬ u = N by omega)] at hfull
  clear h AV bV rV
  go_enter Tryz.func37, Tryz.ntmps37
  unfold rqCells at hV
  unfold rqCells
  go_wp2_with (rw [← hV]; clear hV)
  refine hfull.mono ?_
  rintro e W1 ⟨rfl, hb1⟩
  have s1 := hb1.size
  have A1 : Hid (Al K W1 nd q bb N j u C l bk lm m cc lv L G F D) := HAV.out.fresh hb1
  have K1 : Hid (Kept (fun _ => False) w W1) := (Kept.fresh HBV.out).trans (Kept.fresh (S := fun _ => False) hb1) (fun _ _ h => h)
  have J0 : W1.drew.rangeAt w.heap.size 0 (rqCells c n o p v t) ∧ W1.drew.cell? ⟨nd, 2, none⟩ = some (.pointer (some ⟨bk, 0, none⟩)) := ⟨(range_kept HRV.out (Kept.fresh (S := fun _ => False) hb1) (by omega) id : W1.rangeAt _ _ _), A1.out.node 2 _ rfl⟩
  clear hb1 hfull c2
  go_wp2_with fail
  refine wp_region_noPanic ?_
  refine wp_region_held_drew (S := fun W => W.rangeAt w.heap.size 0 (rqCells c n o p v t) ∧ W.cell? ⟨nd, 2, none⟩ = some (.pointer (some ⟨bk, 0, none⟩))) (by kernel_rfl) J0 (fun _ => ?_)
  refine wpAnyH_take (i := 0) (v := ?_) rfl (by kernel_rfl) (by kernel_rfl) (by kernel_rfl) (fun _ _ _ h => h) (Or.inl ⟨by rfl, ?_⟩) J0 ?_
  rotate_left 1
  · intro W hSW; clear hSW; go_simp; try with_reducible rfl
  simp only [List.getElem_toArray, List.getElem_cons_zero, List.getElem_cons_succ, Act.put, List.setIfInBounds_toArray, List.set_cons_zero, List.set_cons_succ]
  refine wpAnyH_take (i := 1) (v := ?_) rfl (by kernel_rfl) (by kernel_rfl) (by kernel_rfl) (fun _ _ _ h => h) (Or.inl ⟨by rfl, ?_⟩) J0 ?_
  rotate_left 1
  · intro W hSW; clear hSW; go_simp; try with_reducible rfl
  simp only [List.getElem_toArray, List.getElem_cons_zero, List.getElem_cons_succ, Act.put, List.setIfInBounds_toArray, List.set_cons_zero, List.set_cons_succ]
  refine wpAnyH_take (i := 2) (v := ?_) rfl (by kernel_rfl) (by kernel_rfl) (by kernel_rfl) (fun _ _ _ h => h) (Or.inl ⟨by rfl, ?_⟩) J0 ?_
  rotate_left 1
  · intro W hSW; clear hSW; go_simp; try with_reducible rfl
  simp only [List.getElem_toArray, List.getElem_cons_zero, List.getElem_cons_succ, Act.put, List.setIfInBounds_toArray, List.set_cons_zero, List.set_cons_succ]
  refine wpAnyH_take (i := 3) (v := ?_) rfl (by kernel_rfl) (by kernel_rfl) (by kernel_rfl) (fun _ _ _ h => h) (Or.inl ⟨by rfl, ?_⟩) J0 ?_
  rotate_left 1
  · intro W hSW; have qc := hSW.2; clear hSW; go_simp; try with_reducible rfl
  simp only [List.getElem_toArray, List.getElem_cons_zero, List.getElem_cons_succ, Act.put, List.setIfInBounds_toArray, List.set_cons_zero, List.set_cons_succ]
  refine wpAnyH_take (i := 4) (v := .agg ((rqCells c n o p v t)).toArray) rfl (by kernel_rfl) (by kernel_rfl) (by kernel_rfl) (fun _ _ _ h => h) (yieldsIf_load_mid (by rfl) 29 _ rfl w.heap.size 0 rfl ((rqCells c n o p v t)) _ (fun W hW => hW.1) Tryz.underlying29 rfl HQ.out) J0 ?_
  simp only [List.getElem_toArray, List.getElem_cons_zero, List.getElem_cons_succ, Act.put, List.setIfInBounds_toArray, List.set_cons_zero, List.set_cons_succ]
  refine wpAnyH_ready (rs := [5]) (by kernel_rfl) (by simp) ?_
  refine AllReadyH.cons rfl (fun K' hK' => ?_) AllReadyH.nil
  rw [if_pos (by rfl)]
  go_simp
  refine (btake_any K q bb N j u C l bk lm m cc lv L G F D c n o p v t W1.drew A1.out.jat.drew A1.out.book.drew A1.out.ap A1.out.tab.drew hN hu hw hL (by omega)).mono ?_
  rintro e W2 ⟨C', l', lv', G', F', k, vv, tt, rfl, j2, b2, k2, o2⟩
  have k2' : Kept (alOwn q bb j bk lm lv G) W1 W2 := (Kept.drew _ W1).trans k2 (fun _ _ h => h)
  have s2 := k2'.size
  have hnn : ¬ alOwn q bb j bk lm lv G w.heap.size := fun e => by rcases e with e | e; have := HJL.out _ e; omega; have := HBL.out _ e; omega
  have hnd : ¬ alOwn q bb j bk lm lv G nd := fun e => by rcases e with e | e; exact A1.out.nap.2 e; exact A1.out.nap.1 e
  have J2 : W2.rangeAt w.heap.size 0 (rqCells c n o p v t) ∧ W2.cell? ⟨nd, 2, none⟩ = some (.pointer (some ⟨bk, 0, none⟩)) := ⟨range_kept (W := W1) J0.1 k2' (by omega) hnn, (k2'.cell (a := ⟨nd, 2, none⟩) A1.out.nlt hnd).trans J0.2⟩
  have A2 : Hid (Al K W2 nd q bb N j (u + 1) C' l' bk lm m (cc + 3) lv' (L ++ [⟨c, n, o, p, v, t, k, vv, tt⟩]) G' F' (D.put (.int .i64 c) (.lit (.int .i64 ((L.length + 1 : Nat) : Int))))) := by
    have own : ∀ g, bkOwn bk lm lv' G' g → bkOwn bk lm lv G g ∨ W1.heap.size ≤ g := o2
    exact ⟨range_kept A1.out.node k2' A1.out.nlt hnd, by have := A1.out.nlt; omega, j2, b2, fun g hg hj => by
        rcases own g hg with e | e
        · exact A1.out.ap g e hj
        · have := A1.out.jat.ownLt g hj; omega,
      ⟨fun e => by rcases own nd e with e | e; exact A1.out.nap.1 e; have := A1.out.nlt; omega, A1.out.nap.2⟩,
      A1.out.tab.kept k2' (fun e => by rcases e with e | e; exact A1.out.tap.2 e; exact A1.out.tap.1 e),
      ⟨fun e => by rcases own _ e with e | e; exact A1.out.tap.1 e; have := A1.out.tab.lt; omega, A1.out.tap.2⟩⟩
  have K2 : Hid (Kept (alOwn q bb j bk lm lv G) w W2) := (K1.out.mono (fun _ _ h => h.elim)).trans k2' (fun _ _ h => h)
  have O2 : Hid (∀ g, bkOwn bk lm lv' G' g → bkOwn bk lm lv G g ∨ w.heap.size ≤ g) := fun g hg => (o2 g hg).imp id (fun h => by have : W1.heap.size ≤ g := h; omega)
  clear j2 b2 k2 k2' o2
  refine hK'.out _ _ J2 (fun _ => ?_)
  clear hK' K'
  try simp only [List.getElem_toArray, List.getElem_cons_zero, List.getElem_cons_succ, Act.put, List.setIfInBounds_toArray, List.set_cons_zero, List.set_cons_succ]
  refine wpAnyH_take (i := 6) (v := ?_) rfl (by kernel_rfl) (by kernel_rfl) (by kernel_rfl) (fun _ _ _ h => h) (Or.inl ⟨by rfl, ?_⟩) J2 ?_
  rotate_left 1
  · intro W hSW; clear hSW; go_simp; try with_reducible rfl
  simp only [List.getElem_toArray, List.getElem_cons_zero, List.getElem_cons_succ, Act.put, List.setIfInBounds_toArray, List.set_cons_zero, List.set_cons_succ]
  refine ⟨by kernel_rfl, ?_⟩
  refine NoPanic.normal ?_
  try simp only [List.getElem_toArray, List.getElem_cons_zero, List.getElem_cons_succ, Act.put, List.setIfInBounds_toArray, List.set_cons_zero, List.set_cons_succ]
  have c2 : W2.cell? ⟨nd, 2, none⟩ = some (.pointer (some ⟨bk, 0, none⟩)) := J2.2
  obtain ⟨sa, scap, hslv⟩ := A2.out.book.slice
  rw [List.length_append, List.length_singleton] at hslv
  have hen := bentries_any bk sa (L.length + 1) scap W2 (by rw [← hslv]; exact A2.out.book.cells 1 _ rfl)
  have hp := nd_place A2.out.node
  have hpl := info_pl
  go_wp2_with fail
  refine hen.mono ?_
  rintro e W3 ⟨rfl, hw3⟩
  obtain rfl : W2 = W3 := hw3.symm
  clear hw3 hen
  go_wp2_with (first
    | (refine wpList_load_mid rfl 86 _ rfl nd 0 rfl plL _ hp Tryz.underlying86 rfl info_pl ?_))
  refine (last_any W2).mono ?_
  rintro e W4 ⟨rfl, hb4⟩
  have A4 : Hid (Al K W4 nd q bb N j (u + 1) C' l' bk lm m (cc + 3) lv' (L ++ [⟨c, n, o, p, v, t, k, vv, tt⟩]) G' F' (D.put (.int .i64 c) (.lit (.int .i64 ((L.length + 1 : Nat) : Int))))) := A2.out.fresh hb4
  have hp4 := nd_place A4.out.node
  have s4 := hb4.size
  have HB4 : Hid (Below W2.heap.size W2 W4) := hb4
  clear hp hb4 c2
  go_wp2_with (first
    | (refine wpList_load_mid rfl 86 _ rfl nd 0 rfl plL _ hp4 Tryz.underlying86 rfl info_pl ?_))
  refine (first_any W4).mono ?_
  rintro e W5 ⟨rfl, hb5⟩
  have A5 : Hid (Al K W5 nd q bb N j (u + 1) C' l' bk lm m (cc + 3) lv' (L ++ [⟨c, n, o, p, v, t, k, vv, tt⟩]) G' F' (D.put (.int .i64 c) (.lit (.int .i64 ((L.length + 1 : Nat) : Int))))) := A4.out.fresh hb5
  have HB5 : Hid (Below W2.heap.size W2 W5) := HB4.out.trans (hb5.mono s4)
  have hans := answer_any nd bk j lm m (cc + 3) (L.length + 1) lv' _ G' F' _ ⟨c, n, o, p, v, t, k, vv, tt⟩ W5 A5.out.node A5.out.nlt A5.out.book (by omega) (by rw [Nat.add_sub_cancel, List.getElem?_append_right (Nat.le_refl _), Nat.sub_self]; rfl) (by rw [List.length_append, List.length_singleton]; omega)
  have hsl := slice_pk ⟨c, n, o, p, v, t, k, vv, tt⟩
  clear hp4 hb5 A4
  rw [show (((L.length + 1 : Nat)) : Int) = (L.length : Int) + 1 by omega] at hans
  go_wp2_with fail
  refine hans.mono ?_
  rintro e W6 ⟨rfl, hb6⟩
  have A6 := A5.out.fresh hb6
  have HB6 : Hid (Below W2.heap.size W2 W6) := HB5.out.trans (hb6.mono HB5.out.size)
  have HA6 : Hid _ := A6
  clear hans hb6 A6
  go_wp2_with (first | (refine wpList_slice_one rfl 33 44 _ rfl (pkOf ⟨c, n, o, p, v, t, k, vv, tt⟩) rfl hsl ?_))
  go_ret2
  have b7 : Below W6.heap.size W6 (W6.alloc (.cells (pkOf ⟨c, n, o, p, v, t, k, vv, tt⟩).toArray 44)) := (Below.refl _ _).alloc (Nat.le_refl _) _
  refine ⟨C', l', lv', G', F', k, vv, tt, W6.heap.size, rfl, HA6.out.fresh b7, ⟨by have := HB6.out.size; omega, by simp, ?_⟩, K2.out.trans (Kept.fresh (S := alOwn q bb j bk lm lv G) (HB6.out.trans (b7.mono HB6.out.size))) (fun _ _ h => h), O2.out⟩
  exact range_new _ _ _
end Go.Proofs.YtnlbmnbpckpafabGreatDoor
