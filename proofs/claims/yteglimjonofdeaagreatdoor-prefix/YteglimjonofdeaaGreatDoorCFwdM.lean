import Derived.Test.YteglimjonofdeaaGreatDoorNNode3M
import Derived.Test.YteglimjonofdeaaGreatDoorPWay
set_option linter.unusedVariables false
set_option linter.unusedSimpArgs false
namespace Go.Proofs.YteglimjonofdeaaGreatDoor
open Go.RowKit

set_option maxHeartbeats 400000 in
theorem next_any (z : Nv) (w : World) (h0 : 0 ≤ z.r) (h2 : z.r ≤ 2) : Calls Tryz.prog 145 #[.agg (plL z).toArray] w fun e w' => e = .returned (.int .i64 (z.r + 1)) ∧ Below w.heap.size w w' := by
  unfold plL
  go_enter Tryz.func145, Tryz.ntmps145
  go_wp2_with fail
  go_ret
  exact ⟨rfl, (Below.refl _ _).alloc (Nat.le_refl _) _⟩
set_option maxHeartbeats 400000 in
theorem ahead_any (z : Nv) (w : World) (h0 : 1 ≤ z.r) (h2 : z.r ≤ 2) : Calls Tryz.prog 106 #[.agg (plL z).toArray] w fun e w' => e = .returned (.int .i64 (z.r - 1)) ∧ Below w.heap.size w w' := by
  unfold plL
  go_enter Tryz.func106, Tryz.ntmps106
  go_wp2_with fail
  go_ret
  exact ⟨rfl, (Below.refl _ _).alloc (Nat.le_refl _) _⟩
/-- A packet's cells. -/
def pkC (a : Int) (s : ByteArray) : List Value := [.int .i64 a, .string s]
theorem pkC_info (a : Int) (s : ByteArray) : (Tryz.prog.info? 44).map (·.size) = some (pkC a s).length := pk_info a s
theorem pkC_one (a : Int) (s : ByteArray) : ∀ u ∈ pkC a s, u.oneCell' = true := pk_one a s
/-- An entry's request. -/
def En.rq (e : En) : Rq := ⟨e.c, e.n, e.o, e.p, e.v, e.t⟩

set_option maxRecDepth 10000 in
set_option maxHeartbeats 4000000 in
/-- Forward i, to the next node. -/
theorem forward_any (K : Nat → Int) (z : Nv) (nd q bb N j u : Nat) (C : Nat → List Int) (l : ByteArray) (bk lm m cc ky : Nat) (lv : Value) (L : List En) (G F : Nat → Prop) (D : DataW Unit) (i : Nat) (e : En) (w : World) (h : Al K w z nd q bb N j u C l bk lm m cc ky lv L G F D) (h0 : 0 ≤ z.r) (h2 : z.r ≤ 2) (hi : 1 ≤ i) (hie : L[i - 1]? = some e) (hwe : rqWhole e.c e.n e.o e.p e.v e.t = true) (hL : L.length < 1000) :
    Calls Tryz.prog 100 #[.pointer (some ⟨nd, 0, none⟩), .int .i64 (i : Nat)] w fun e' w' => e' = .returned (.agg (pkC (z.r + 1) (e.rq.fw (i : Nat))).toArray) ∧ Below w.heap.size w w' := by
  have hlt : i - 1 < L.length := (List.getElem?_eq_some_iff.1 hie).1
  obtain ⟨V, hV⟩ : ∃ V, V = w.alloc (.cells #[.int .i64 0, .string ⟨#[]⟩] 44) := ⟨_, rfl⟩
  have hVs : V.heap.size = w.heap.size + 1 := by rw [hV]; simp
  have bV : Below w.heap.size w V := by rw [hV]; exact (Below.refl _ _).alloc (Nat.le_refl _) _
  have TV : Hid (V.there w.heap.size 0 2) := by show World.there _ _ _ _; rw [hV]; exact there_new w #[.int .i64 0, .string ⟨#[]⟩] _
  have AV : Hid (Al K V z nd q bb N j u C l bk lm m cc ky lv L G F D) := h.fresh bV
  have BV : Hid (Below w.heap.size w V) := bV
  have HN : Hid (nd < w.heap.size) := h.nlt
  have hpl := info_pl z
  have J0 : V.drew.rangeAt nd 0 (plL z) ∧ V.drew.cell? ⟨nd, 2, none⟩ = some (.pointer (some ⟨bk, 0, none⟩)) := ⟨nd_place AV.out.node, AV.out.node 2 _ rfl⟩
  clear bV
  clear h
  go_enter Tryz.func100, Tryz.ntmps100
  go_wp2_with (rw [← hV]; clear hV)
  refine wp_region_noPanic ?_
  refine wp_region_held_drew (S := fun W => W.rangeAt nd 0 (plL z) ∧ W.cell? ⟨nd, 2, none⟩ = some (.pointer (some ⟨bk, 0, none⟩))) (by kernel_rfl) J0 (fun _ => ?_)
  refine wpAnyH_take (i := 0) (v := ?_) rfl (by kernel_rfl) (by kernel_rfl) (by kernel_rfl) (fun _ _ _ h => h) (Or.inl ⟨by rfl, ?_⟩) J0 ?_
  rotate_left 1
  · intro W hSW; clear hSW; go_simp; try with_reducible rfl
  simp only [qA, qB, qC, Act.put, qD, qE, qF]
  refine wpAnyH_take (i := 1) (v := ?_) rfl (by kernel_rfl) (by kernel_rfl) (by kernel_rfl) (fun _ _ _ h => h) (Or.inl ⟨by rfl, ?_⟩) J0 ?_
  rotate_left 1
  · intro W hSW; clear hSW; go_simp; try with_reducible rfl
  simp only [qA, qB, qC, Act.put, qD, qE, qF]
  refine wpAnyH_take (i := 2) (v := ?_) rfl (by kernel_rfl) (by kernel_rfl) (by kernel_rfl) (fun _ _ _ h => h) (Or.inl ⟨by rfl, ?_⟩) J0 ?_
  rotate_left 1
  · intro W hSW; clear hSW; go_simp; try with_reducible rfl
  simp only [qA, qB, qC, Act.put, qD, qE, qF]
  refine wpAnyH_take (i := 3) (v := .agg (plL z).toArray) rfl (by kernel_rfl) (by kernel_rfl) (by kernel_rfl) (fun _ _ _ h => h) (yieldsIf_load_mid (by rfl) 108 _ rfl nd 0 rfl (plL z) _ (fun W hW => hW.1) Tryz.underlying108 rfl hpl) J0 ?_
  simp only [qA, qB, qC, Act.put, qD, qE, qF]
  refine wpAnyH_take (i := 5) (v := ?_) rfl (by kernel_rfl) (by kernel_rfl) (by kernel_rfl) (fun _ _ _ h => h) (Or.inl ⟨by rfl, ?_⟩) J0 ?_
  rotate_left 1
  · intro W hSW; clear hSW; go_simp; try with_reducible rfl
  simp only [qA, qB, qC, Act.put, qD, qE, qF]
  refine wpAnyH_take (i := 6) (v := ?_) rfl (by kernel_rfl) (by kernel_rfl) (by kernel_rfl) (fun _ _ _ h => h) (Or.inl ⟨by rfl, ?_⟩) J0 ?_
  rotate_left 1
  · intro W hSW; clear hSW; go_simp; try with_reducible rfl
  simp only [qA, qB, qC, Act.put, qD, qE, qF]
  refine wpAnyH_take (i := 7) (v := ?_) rfl (by kernel_rfl) (by kernel_rfl) (by kernel_rfl) (fun _ _ _ h => h) (Or.inl ⟨by rfl, ?_⟩) J0 ?_
  rotate_left 1
  · intro W hSW; clear hSW; go_simp; try with_reducible rfl
  simp only [qA, qB, qC, Act.put, qD, qE, qF]
  refine wpAnyH_take (i := 8) (v := ?_) rfl (by kernel_rfl) (by kernel_rfl) (by kernel_rfl) (fun _ _ _ h => h) (Or.inl ⟨by rfl, ?_⟩) J0 ?_
  rotate_left 1
  · intro W hSW; clear hSW; go_simp; try with_reducible rfl
  simp only [qA, qB, qC, Act.put, qD, qE, qF]
  refine wpAnyH_take (i := 9) (v := ?_) rfl (by kernel_rfl) (by kernel_rfl) (by kernel_rfl) (fun _ _ _ h => h) (Or.inl ⟨by rfl, ?_⟩) J0 ?_
  rotate_left 1
  · intro W hSW; have qc := hSW.2; clear hSW; go_simp; try with_reducible rfl
  simp only [qA, qB, qC, Act.put, qD, qE, qF]
  refine wpAnyH_take (i := 10) (v := ?_) rfl (by kernel_rfl) (by kernel_rfl) (by kernel_rfl) (fun _ _ _ h => h) (Or.inl ⟨by rfl, ?_⟩) J0 ?_
  rotate_left 1
  · intro W hSW; clear hSW; go_simp; try with_reducible rfl
  simp only [qA, qB, qC, Act.put, qD, qE, qF]
  refine wpAnyH_ready (rs := [4]) (by kernel_rfl) (by simp) ?_
  refine AllReadyH.cons rfl (fun K' hK' => ?_) AllReadyH.nil
  rw [if_pos (by rfl)]
  go_simp
  refine (next_any z V.drew h0 h2).mono ?_
  rintro e' W1 ⟨rfl, hb1⟩
  have b1 : Below V.heap.size V W1 := ((Below.refl V.heap.size V).drew).trans (hb1.mono (by show V.heap.size ≤ _; first | exact ((Below.refl V.heap.size V).drew).size | exact Nat.le_refl _))
  have s1 := b1.size
  have A1 : Hid (Al K W1 z nd q bb N j u C l bk lm m cc ky lv L G F D) := AV.out.fresh b1
  have J1 : W1.rangeAt nd 0 (plL z) ∧ W1.cell? ⟨nd, 2, none⟩ = some (.pointer (some ⟨bk, 0, none⟩)) := ⟨nd_place A1.out.node, A1.out.node 2 _ rfl⟩
  clear hb1
  refine hK'.out _ _ J1 (fun _ => ?_)
  clear hK' K'
  try simp only [qA, qB, qC, Act.put, qD, qE, qF]
  refine wpAnyH_ready (rs := [11]) (by kernel_rfl) (by simp) ?_
  refine AllReadyH.cons rfl (fun K' hK' => ?_) AllReadyH.nil
  rw [if_pos (by rfl)]
  obtain ⟨g, cap, hlv, hg, hr⟩ := A1.out.book.entry (i - 1) e hie
  have hent := bentry_any bk g L.length cap i e.cells W1 A1.out.book.lt hg (by rw [← hlv]; exact A1.out.book.cells 1 _ rfl) ⟨hi, by omega⟩ hL e.len hr e.one
  go_simp
  refine hent.mono ?_
  rintro e' W2 ⟨rfl, hb2⟩
  have b2 : Below V.heap.size V W2 := b1.trans (hb2.mono s1)
  have s2 := b2.size
  have A2 : Hid (Al K W2 z nd q bb N j u C l bk lm m cc ky lv L G F D) := AV.out.fresh b2
  have J2 : W2.rangeAt nd 0 (plL z) ∧ W2.cell? ⟨nd, 2, none⟩ = some (.pointer (some ⟨bk, 0, none⟩)) := ⟨nd_place A2.out.node, A2.out.node 2 _ rfl⟩
  clear hb2 hr hent
  refine hK'.out _ _ J2 (fun _ => ?_)
  clear hK' K'
  try simp only [qA, qB, qC, Act.put, qD, qE, qF]
  refine wpAnyH_take (i := 12) (v := .agg (rqCells e.c e.n e.o e.p e.v e.t).toArray) rfl (by kernel_rfl) (by kernel_rfl) (by kernel_rfl) (fun _ _ _ h => h) (Or.inl ⟨by rfl, ?_⟩) J2 ?_
  · intro W hSW; clear hSW; have hf := en_field e W; go_simp; try exact hf
  simp only [qA, qB, qC, Act.put, qD, qE, qF]
  refine wpAnyH_take (i := 13) (v := .agg (fwCells (i : Nat) e.c e.n e.o e.p e.v e.t).toArray) rfl (by kernel_rfl) (by kernel_rfl) (by kernel_rfl) (fun _ _ _ h => h) (yieldsIf_build (by rfl) 200 _ rfl (fwCells (i : Nat) e.c e.n e.o e.p e.v e.t).toArray (Eq.trans (congrArg (Tryz.prog.built _) (by simp [Act.eval])) (fw_built (i : Nat) e.c e.n e.o e.p e.v e.t))) J2 ?_
  simp only [qA, qB, qC, Act.put, qD, qE, qF]
  refine wpAnyH_take (i := 14) (v := ?_) rfl (by kernel_rfl) (by kernel_rfl) (by kernel_rfl) (fun _ _ _ h => h) (Or.inl ⟨by rfl, ?_⟩) J2 ?_
  rotate_left 1
  · intro W hSW; clear hSW; go_simp; try with_reducible rfl
  simp only [qA, qB, qC, Act.put, qD, qE, qF]
  refine wpAnyH_ready (rs := [15]) (by kernel_rfl) (by simp) ?_
  refine AllReadyH.cons rfl (fun K' hK' => ?_) AllReadyH.nil
  rw [if_pos (by rfl)]
  go_simp
  refine (pto_fw (z.r + 1) (i : Nat) e.c e.n e.o e.p e.v e.t W2 (by omega) hwe).mono ?_
  rintro e' W3 ⟨rfl, hb3⟩
  have b3 : Below V.heap.size V W3 := b2.trans (hb3.mono s2)
  have s3 := b3.size
  have A3 : Hid (Al K W3 z nd q bb N j u C l bk lm m cc ky lv L G F D) := AV.out.fresh b3
  have J3 : W3.rangeAt nd 0 (plL z) ∧ W3.cell? ⟨nd, 2, none⟩ = some (.pointer (some ⟨bk, 0, none⟩)) := ⟨nd_place A3.out.node, A3.out.node 2 _ rfl⟩
  clear hb3
  refine hK'.out _ _ J3 (fun _ => ?_)
  clear hK' K'
  try simp only [qA, qB, qC, Act.put, qD, qE, qF]
  refine wpAnyH_ready (rs := [16]) (by kernel_rfl) (by simp) ?_
  refine AllReadyH.cons rfl (fun K' hK' => ?_) AllReadyH.nil
  rw [if_pos (by rfl)]
  have T3 : W3.there w.heap.size 0 (pkC (z.r + 1) (e.rq.fw (i : Nat))).length := there_below b3 (by omega) TV.out
  refine wp_store_abs 44 _ _ rfl w.heap.size 0 (pkC (z.r + 1) (e.rq.fw (i : Nat))) rfl rfl T3 (pkC_info _ _) (pkC_one _ _) ?_
  intro W9 hw9 hr9 _ht9 hb9
  have k9 : Kept (· = w.heap.size) W3 W9 := by rw [hw9]; exact Kept.setCells _ _ _ _ (Or.inl rfl)
  have J9 : W9.rangeAt nd 0 (plL z) ∧ W9.cell? ⟨nd, 2, none⟩ = some (.pointer (some ⟨bk, 0, none⟩)) := ⟨range_kept J3.1 k9 A3.out.nlt (by show ¬ nd = w.heap.size; have := HN.out; omega), (k9.cell (a := ⟨nd, 2, none⟩) A3.out.nlt (by show ¬ nd = w.heap.size; have := HN.out; omega)).trans J3.2⟩
  have B9 : Below w.heap.size w W9 := (BV.out.trans (b3.mono (by omega))).trans (hb9 w.heap.size (Nat.le_refl _))
  clear _ht9 hw9 hb9 k9
  refine hK'.out _ _ J9 (fun _ => ?_)
  clear hK' K'
  try simp only [qA, qB, qC, Act.put, qD, qE, qF]
  refine ⟨by kernel_rfl, ?_⟩
  refine NoPanic.normal ?_
  try simp only [qA, qB, qC, Act.put, qD, qE, qF]
  go_wp2_with fail
  exact ret_cell rfl w.heap.size 0 (pkC (z.r + 1) (e.rq.fw (i : Nat))) _ rfl hr9 Tryz.underlying44 rfl (pkC_info _ _) rfl ⟨rfl, B9⟩

set_option maxRecDepth 10000 in
set_option maxHeartbeats 4000000 in
/-- Ask, to the node ahead. -/
theorem ask_any (K : Nat → Int) (z : Nv) (nd q bb N j u : Nat) (C : Nat → List Int) (l : ByteArray) (bk lm m cc ky : Nat) (lv : Value) (L : List En) (G F : Nat → Prop) (D : DataW Unit) (w : World) (h : Al K w z nd q bb N j u C l bk lm m cc ky lv L G F D) (h0 : 1 ≤ z.r) (h2 : z.r ≤ 2) (hL : L.length < 1000) :
    Calls Tryz.prog 70 #[.pointer (some ⟨nd, 0, none⟩)] w fun e' w' => e' = .returned (.agg (pkC (z.r - 1) (mkT 81 (L.length : Nat) ⟨#[]⟩)).toArray) ∧ Below w.heap.size w w' := by
  obtain ⟨sa, scap, hslv⟩ := h.book.slice
  obtain ⟨V, hV⟩ : ∃ V, V = w.alloc (.cells #[.int .i64 0, .string ⟨#[]⟩] 44) := ⟨_, rfl⟩
  have hVs : V.heap.size = w.heap.size + 1 := by rw [hV]; simp
  have bV : Below w.heap.size w V := by rw [hV]; exact (Below.refl _ _).alloc (Nat.le_refl _) _
  have TV : Hid (V.there w.heap.size 0 2) := by show World.there _ _ _ _; rw [hV]; exact there_new w #[.int .i64 0, .string ⟨#[]⟩] _
  have AV : Hid (Al K V z nd q bb N j u C l bk lm m cc ky lv L G F D) := h.fresh bV
  have BV : Hid (Below w.heap.size w V) := bV
  have HN : Hid (nd < w.heap.size) := h.nlt
  have hpl := info_pl z
  have J0 : V.drew.rangeAt nd 0 (plL z) ∧ V.drew.cell? ⟨nd, 2, none⟩ = some (.pointer (some ⟨bk, 0, none⟩)) := ⟨nd_place AV.out.node, AV.out.node 2 _ rfl⟩
  clear bV
  clear h
  go_enter Tryz.func70, Tryz.ntmps70
  go_wp2_with (rw [← hV]; clear hV)
  refine wp_region_noPanic ?_
  refine wp_region_held_drew (S := fun W => W.rangeAt nd 0 (plL z) ∧ W.cell? ⟨nd, 2, none⟩ = some (.pointer (some ⟨bk, 0, none⟩))) (by kernel_rfl) J0 (fun _ => ?_)
  refine wpAnyH_take (i := 0) (v := ?_) rfl (by kernel_rfl) (by kernel_rfl) (by kernel_rfl) (fun _ _ _ h => h) (Or.inl ⟨by rfl, ?_⟩) J0 ?_
  rotate_left 1
  · intro W hSW; clear hSW; go_simp; try with_reducible rfl
  simp only [qA, qB, qC, Act.put, qD, qE, qF]
  refine wpAnyH_take (i := 1) (v := ?_) rfl (by kernel_rfl) (by kernel_rfl) (by kernel_rfl) (fun _ _ _ h => h) (Or.inl ⟨by rfl, ?_⟩) J0 ?_
  rotate_left 1
  · intro W hSW; clear hSW; go_simp; try with_reducible rfl
  simp only [qA, qB, qC, Act.put, qD, qE, qF]
  refine wpAnyH_take (i := 2) (v := ?_) rfl (by kernel_rfl) (by kernel_rfl) (by kernel_rfl) (fun _ _ _ h => h) (Or.inl ⟨by rfl, ?_⟩) J0 ?_
  rotate_left 1
  · intro W hSW; clear hSW; go_simp; try with_reducible rfl
  simp only [qA, qB, qC, Act.put, qD, qE, qF]
  refine wpAnyH_take (i := 3) (v := .agg (plL z).toArray) rfl (by kernel_rfl) (by kernel_rfl) (by kernel_rfl) (fun _ _ _ h => h) (yieldsIf_load_mid (by rfl) 108 _ rfl nd 0 rfl (plL z) _ (fun W hW => hW.1) Tryz.underlying108 rfl hpl) J0 ?_
  simp only [qA, qB, qC, Act.put, qD, qE, qF]
  refine wpAnyH_take (i := 5) (v := ?_) rfl (by kernel_rfl) (by kernel_rfl) (by kernel_rfl) (fun _ _ _ h => h) (Or.inl ⟨by rfl, ?_⟩) J0 ?_
  rotate_left 1
  · intro W hSW; clear hSW; go_simp; try with_reducible rfl
  simp only [qA, qB, qC, Act.put, qD, qE, qF]
  refine wpAnyH_take (i := 6) (v := ?_) rfl (by kernel_rfl) (by kernel_rfl) (by kernel_rfl) (fun _ _ _ h => h) (Or.inl ⟨by rfl, ?_⟩) J0 ?_
  rotate_left 1
  · intro W hSW; clear hSW; go_simp; try with_reducible rfl
  simp only [qA, qB, qC, Act.put, qD, qE, qF]
  refine wpAnyH_take (i := 7) (v := ?_) rfl (by kernel_rfl) (by kernel_rfl) (by kernel_rfl) (fun _ _ _ h => h) (Or.inl ⟨by rfl, ?_⟩) J0 ?_
  rotate_left 1
  · intro W hSW; clear hSW; go_simp; try with_reducible rfl
  simp only [qA, qB, qC, Act.put, qD, qE, qF]
  refine wpAnyH_take (i := 8) (v := ?_) rfl (by kernel_rfl) (by kernel_rfl) (by kernel_rfl) (fun _ _ _ h => h) (Or.inl ⟨by rfl, ?_⟩) J0 ?_
  rotate_left 1
  · intro W hSW; have qc := hSW.2; clear hSW; go_simp; try with_reducible rfl
  simp only [qA, qB, qC, Act.put, qD, qE, qF]
  refine wpAnyH_ready (rs := [4]) (by kernel_rfl) (by simp) ?_
  refine AllReadyH.cons rfl (fun K' hK' => ?_) AllReadyH.nil
  rw [if_pos (by rfl)]
  go_simp
  refine (ahead_any z V.drew h0 h2).mono ?_
  rintro e' W1 ⟨rfl, hb1⟩
  have b1 : Below V.heap.size V W1 := ((Below.refl V.heap.size V).drew).trans (hb1.mono (by show V.heap.size ≤ _; first | exact ((Below.refl V.heap.size V).drew).size | exact Nat.le_refl _))
  have s1 := b1.size
  have A1 : Hid (Al K W1 z nd q bb N j u C l bk lm m cc ky lv L G F D) := AV.out.fresh b1
  have J1 : W1.rangeAt nd 0 (plL z) ∧ W1.cell? ⟨nd, 2, none⟩ = some (.pointer (some ⟨bk, 0, none⟩)) := ⟨nd_place A1.out.node, A1.out.node 2 _ rfl⟩
  clear hb1
  refine hK'.out _ _ J1 (fun _ => ?_)
  clear hK' K'
  try simp only [qA, qB, qC, Act.put, qD, qE, qF]
  refine wpAnyH_ready (rs := [9]) (by kernel_rfl) (by simp) ?_
  refine AllReadyH.cons rfl (fun K' hK' => ?_) AllReadyH.nil
  rw [if_pos (by rfl)]
  have hen := bentries_any bk sa L.length scap W1 (by rw [← hslv]; exact A1.out.book.cells 1 _ rfl)
  go_simp
  refine hen.mono ?_
  rintro e' W2 ⟨rfl, hw2⟩
  obtain rfl : W1 = W2 := hw2.symm
  clear hw2 hen
  refine hK'.out _ _ J1 (fun _ => ?_)
  clear hK' K'
  try simp only [qA, qB, qC, Act.put, qD, qE, qF]
  refine wpAnyH_take (i := 10) (v := .agg #[.int .i64 (L.length : Nat)]) rfl (by kernel_rfl) (by kernel_rfl) (by kernel_rfl) (fun _ _ _ h => h) (yieldsIf_build (by rfl) 195 _ rfl #[.int .i64 (L.length : Nat)] (Eq.trans (congrArg (Tryz.prog.built _) (by simp [Act.eval])) (qk_built (L.length : Nat)))) J1 ?_
  simp only [qA, qB, qC, Act.put, qD, qE, qF]
  refine wpAnyH_take (i := 11) (v := ?_) rfl (by kernel_rfl) (by kernel_rfl) (by kernel_rfl) (fun _ _ _ h => h) (Or.inl ⟨by rfl, ?_⟩) J1 ?_
  rotate_left 1
  · intro W hSW; clear hSW; go_simp; try with_reducible rfl
  simp only [qA, qB, qC, Act.put, qD, qE, qF]
  refine wpAnyH_ready (rs := [12]) (by kernel_rfl) (by simp) ?_
  refine AllReadyH.cons rfl (fun K' hK' => ?_) AllReadyH.nil
  rw [if_pos (by rfl)]
  go_simp
  refine (pto_ask (z.r - 1) (L.length : Nat) W1 (by omega)).mono ?_
  rintro e' W3 ⟨rfl, hb3⟩
  have b3 : Below V.heap.size V W3 := b1.trans (hb3.mono (by show V.heap.size ≤ _; first | exact b1.size | exact Nat.le_refl _))
  have s3 := b3.size
  have A3 : Hid (Al K W3 z nd q bb N j u C l bk lm m cc ky lv L G F D) := AV.out.fresh b3
  have J3 : W3.rangeAt nd 0 (plL z) ∧ W3.cell? ⟨nd, 2, none⟩ = some (.pointer (some ⟨bk, 0, none⟩)) := ⟨nd_place A3.out.node, A3.out.node 2 _ rfl⟩
  clear hb3
  refine hK'.out _ _ J3 (fun _ => ?_)
  clear hK' K'
  try simp only [qA, qB, qC, Act.put, qD, qE, qF]
  refine wpAnyH_ready (rs := [13]) (by kernel_rfl) (by simp) ?_
  refine AllReadyH.cons rfl (fun K' hK' => ?_) AllReadyH.nil
  rw [if_pos (by rfl)]
  have T3 : W3.there w.heap.size 0 (pkC (z.r - 1) (mkT 81 (L.length : Nat) ⟨#[]⟩)).length := there_below b3 (by omega) TV.out
  refine wp_store_abs 44 _ _ rfl w.heap.size 0 (pkC (z.r - 1) (mkT 81 (L.length : Nat) ⟨#[]⟩)) rfl rfl T3 (pkC_info _ _) (pkC_one _ _) ?_
  intro W9 hw9 hr9 _ht9 hb9
  have k9 : Kept (· = w.heap.size) W3 W9 := by rw [hw9]; exact Kept.setCells _ _ _ _ (Or.inl rfl)
  have J9 : W9.rangeAt nd 0 (plL z) ∧ W9.cell? ⟨nd, 2, none⟩ = some (.pointer (some ⟨bk, 0, none⟩)) := ⟨range_kept J3.1 k9 A3.out.nlt (by show ¬ nd = w.heap.size; have := HN.out; omega), (k9.cell (a := ⟨nd, 2, none⟩) A3.out.nlt (by show ¬ nd = w.heap.size; have := HN.out; omega)).trans J3.2⟩
  have B9 : Below w.heap.size w W9 := (BV.out.trans (b3.mono (by omega))).trans (hb9 w.heap.size (Nat.le_refl _))
  clear _ht9 hw9 hb9 k9
  refine hK'.out _ _ J9 (fun _ => ?_)
  clear hK' K'
  try simp only [qA, qB, qC, Act.put, qD, qE, qF]
  refine ⟨by kernel_rfl, ?_⟩
  refine NoPanic.normal ?_
  try simp only [qA, qB, qC, Act.put, qD, qE, qF]
  go_wp2_with fail
  exact ret_cell rfl w.heap.size 0 (pkC (z.r - 1) (mkT 81 (L.length : Nat) ⟨#[]⟩)) _ rfl hr9 Tryz.underlying44 rfl (pkC_info _ _) rfl ⟨rfl, B9⟩

set_option maxRecDepth 10000 in
set_option maxHeartbeats 4000000 in
/-- Ack, to the node ahead. -/
theorem ack_any (K : Nat → Int) (z : Nv) (nd q bb N j u : Nat) (C : Nat → List Int) (l : ByteArray) (bk lm m cc ky : Nat) (lv : Value) (L : List En) (G F : Nat → Prop) (D : DataW Unit) (a : Int) (w : World) (h : Al K w z nd q bb N j u C l bk lm m cc ky lv L G F D) (h0 : 1 ≤ z.r) (h2 : z.r ≤ 2) (ha : ackOf z L.length = a) (ha0 : 0 ≤ a ∧ a ≤ 1000) :
    Calls Tryz.prog 101 #[.pointer (some ⟨nd, 0, none⟩)] w fun e' w' => e' = .returned (.agg (pkC (z.r - 1) (mkT 75 a ⟨#[]⟩)).toArray) ∧ Below w.heap.size w w' := by
  obtain ⟨V, hV⟩ : ∃ V, V = w.alloc (.cells #[.int .i64 0, .string ⟨#[]⟩] 44) := ⟨_, rfl⟩
  have hVs : V.heap.size = w.heap.size + 1 := by rw [hV]; simp
  have bV : Below w.heap.size w V := by rw [hV]; exact (Below.refl _ _).alloc (Nat.le_refl _) _
  have TV : Hid (V.there w.heap.size 0 2) := by show World.there _ _ _ _; rw [hV]; exact there_new w #[.int .i64 0, .string ⟨#[]⟩] _
  have AV : Hid (Al K V z nd q bb N j u C l bk lm m cc ky lv L G F D) := h.fresh bV
  have BV : Hid (Below w.heap.size w V) := bV
  have HN : Hid (nd < w.heap.size) := h.nlt
  have hpl := info_pl z
  have J0 : V.drew.rangeAt nd 0 (plL z) ∧ V.drew.cell? ⟨nd, 2, none⟩ = some (.pointer (some ⟨bk, 0, none⟩)) := ⟨nd_place AV.out.node, AV.out.node 2 _ rfl⟩
  clear bV
  have hp : V.rangeAt nd 0 (plL z) := J0.1
  have hah := ahead_any z V h0 h2
  clear h J0
  go_enter Tryz.func101, Tryz.ntmps101
  go_wp2_with (first
    | (rw [← hV]; clear hV)
    | (refine wpList_load_mid rfl 108 _ rfl nd 0 rfl (plL z) _ hp Tryz.underlying108 rfl hpl ?_))
  refine hah.mono ?_
  rintro e' W1 ⟨rfl, hb1⟩
  have s1 := hb1.size
  have A1 : Hid (Al K W1 z nd q bb N j u C l bk lm m cc ky lv L G F D) := AV.out.fresh hb1
  have hack := acked_any z nd bk j lm m cc ky lv L G F D W1 A1.out.node A1.out.nlt A1.out.book
  rw [ha] at hack
  clear hah hp
  go_wp2_with fail
  refine hack.mono ?_
  rintro e' W2 ⟨rfl, hb2⟩
  have b2 : Below V.heap.size V W2 := hb1.trans (hb2.mono s1)
  have hto := pto_ack (z.r - 1) a W2 (by omega)
  have hbu := ak_built a
  have HB2 : Hid (Below V.heap.size V W2) := b2
  clear hack hb1 hb2 b2
  go_wp2_with (first
    | (refine wpList_build_tm rfl 202 _ rfl _ (Eq.trans (congrArg (Tryz.prog.built _) (by simp [Act.eval])) hbu) ?_))
  refine hto.mono ?_
  rintro e' W3 ⟨rfl, hb3⟩
  have b3 : Below V.heap.size V W3 := HB2.out.trans (hb3.mono HB2.out.size)
  have T3 : W3.there w.heap.size 0 (pkC (z.r - 1) (mkT 75 a ⟨#[]⟩)).length := there_below b3 (by omega) TV.out
  have HB3 : Hid (Below V.heap.size V W3) := b3
  have HI := pkC_info (z.r - 1) (mkT 75 a ⟨#[]⟩)
  have HO := pkC_one (z.r - 1) (mkT 75 a ⟨#[]⟩)
  clear hto hb3 b3 hbu
  go_wp2_with (first
    | (refine wpList_store_abs rfl 44 _ _ rfl w.heap.size 0 (pkC (z.r - 1) (mkT 75 a ⟨#[]⟩)) rfl rfl T3 HI HO ?_
       intro w5 _hw5 hr5 _ht5 hb5
       clear _hw5 _ht5))
  exact ret_cell rfl w.heap.size 0 (pkC (z.r - 1) (mkT 75 a ⟨#[]⟩)) _ rfl hr5 Tryz.underlying44 rfl HI rfl ⟨rfl, (BV.out.trans (HB3.out.mono (by omega))).trans (hb5 w.heap.size (Nat.le_refl _))⟩
end Go.Proofs.YteglimjonofdeaaGreatDoor
set_option linter.unusedVariables false
set_option linter.unusedSimpArgs false
namespace Go.Proofs.YteglimjonofdeaaGreatDoor
open Go.RowKit

/-- Forward n + 1 + d, of the log L. -/
def fwAt (r : Int) (L : List En) (n : Nat) : Int × ByteArray := match L[n]? with
  | some e => (r, e.rq.fw ((n + 1 : Nat) : Int))
  | none => (r, ⟨#[]⟩)
/-- The Forwards of the k entries behind the first n. -/
def fwOut (r : Int) (L : List En) (n k : Nat) : List (Int × ByteArray) := (List.range k).map fun d => fwAt r L (n + d)
theorem fwOut_len (r : Int) (L : List En) (n k : Nat) : (fwOut r L n k).length = k := by simp [fwOut]
theorem fwOut_succ (r : Int) (L : List En) (n k : Nat) : fwOut r L n (k + 1) = fwOut r L n k ++ [fwAt r L (n + k)] := by simp [fwOut, List.range_succ]
theorem fwAt_get {r : Int} {L : List En} {n : Nat} {e : En} (h : L[n]? = some e) : fwAt r L n = (r, e.rq.fw ((n + 1 : Nat) : Int)) := by unfold fwAt; rw [h]
theorem slice_pkC (a : Int) (s : ByteArray) (w : World) : (Instr.buildSlice 33 1 #[(0, .agg (pkC a s).toArray)]).run Tryz.prog w = .ok (.slice (some ⟨w.heap.size, 0, none⟩) 1 1) (w.alloc (.cells (pkC a s).toArray 44)) := by
  obtain ⟨i0, h1, h2, h3⟩ := info_pkT
  exact run_slice_one 33 44 (pkC a s) i0 _ Tryz.underlying33 h1 h2 h3 (by show 0 < 2; omega) (by show 2 ≤ 1000; omega) w

set_option maxRecDepth 10000 in
set_option maxHeartbeats 4000000 in
/-- The Forwards of what is behind the first n entries, at most four. -/
theorem behind_any (K : Nat → Int) (z : Nv) (nd q bb N j u : Nat) (C : Nat → List Int) (l : ByteArray) (bk lm m cc ky : Nat) (lv : Value) (L : List En) (G F : Nat → Prop) (D : DataW Unit) (n0 : Nat) (w : World) (h : Al K w z nd q bb N j u C l bk lm m cc ky lv L G F D) (h0 : 0 ≤ z.r) (h2 : z.r ≤ 2) (hn : n0 ≤ L.length) (hwh : ∀ e ∈ L, rqWhole e.c e.n e.o e.p e.v e.t = true) (hL : L.length < 1000) :
    Calls Tryz.prog 72 #[.pointer (some ⟨nd, 0, none⟩), .int .i64 (n0 : Nat)] w fun e' w' => ∃ v, e' = .returned v ∧ OutAt w' v (fwOut (z.r + 1) L n0 (min 4 (L.length - n0))) ∧ Below w.heap.size w w' := by
  obtain ⟨sa, scap, hslv⟩ := h.book.slice
  have HA : Hid (Al K w z nd q bb N j u C l bk lm m cc ky lv L G F D) := h
  have HW : Hid (∀ e ∈ L, rqWhole e.c e.n e.o e.p e.v e.t = true) := hwh
  clear h hwh
  go_enter Tryz.func72, Tryz.ntmps72
  go_wp2_with fail
  go_loopw [1, 5] (fun n s wr => ∃ (k : Nat) (ao : Option Addr) (cap : Nat), n = .int .i64 ((n0 + k : Nat) : Int) ∧ s = .slice ao k cap ∧ k ≤ 4 ∧ n0 + k ≤ L.length ∧ Hid (Below w.heap.size w wr ∧ wr.ownsRow w.heap.size 44 2 (.slice ao k cap) (fwOut (z.r + 1) L n0 k).length (wayC (fwOut (z.r + 1) L n0 k)))) (fun n _ _ => L.length - (intOf n).toNat)
  case atStart => exact ⟨0, none, 0, rfl, rfl, by omega, by omega, Below.refl _ _, ⟨rfl, Or.inl ⟨rfl, rfl⟩⟩⟩
  case round =>
    obtain ⟨k, ao, cap, rfl, rfl, hk, hnk, hR⟩ := hrel
    have A0 : Hid (Al K wr z nd q bb N j u C l bk lm m cc ky lv L G F D) := HA.out.fresh hR.out.1
    have c2 : wr.cell? ⟨nd, 2, none⟩ = some (.pointer (some ⟨bk, 0, none⟩)) := A0.out.node 2 _ rfl
    have hen := bentries_any bk sa L.length scap wr (by rw [← hslv]; exact A0.out.book.cells 1 _ rfl)
    by_cases hlt : n0 + k < L.length ∧ k < 4
    · obtain ⟨hl1, hl2⟩ := hlt
      have q1 : ((n0 + k : Nat) : Int) < (L.length : Int) := by omega
      have q2 : (k : Int) < 4 := by omega
      have q3 : ((n0 + k : Nat) : Int) + 1 = ((n0 + k + 1 : Nat) : Int) := by omega
      have q4 : (0 : Int) ≤ ((n0 + k : Nat) : Int) := by omega
      obtain ⟨e, hee⟩ : ∃ e, L[n0 + k]? = some e := ⟨_, List.getElem?_eq_getElem hl1⟩
      have hfw := forward_any K z nd q bb N j u C l bk lm m cc ky lv L G F D (n0 + k + 1) e wr A0.out h0 h2 (by omega) (by rw [Nat.add_sub_cancel]; exact hee) (HW.out e (List.mem_of_getElem? hee)) hL
      have hsl := slice_pkC (z.r + 1) (e.rq.fw ((n0 + k + 1 : Nat) : Int))
      have q5 : ((n0 + k : Nat) : Int) < 1000 := by omega
      generalize hnk2 : ((n0 + k : Nat) : Int) = nk at *
      rw [← q3] at hfw hsl
      have HQ3 : Hid (nk + 1 = ((n0 + k + 1 : Nat) : Int)) := q3
      clear q3 hnk2
      go_wp2_with fail
      refine hen.mono ?_
      rintro e' W1 ⟨rfl, hw1⟩
      obtain rfl : wr = W1 := hw1.symm
      clear hw1 hen
      go_wp2_with fail
      refine hfw.mono ?_
      rintro e' W1 ⟨rfl, hb1⟩
      have s1 := hb1.size
      have HB1 : Hid (Below wr.heap.size wr W1) := hb1
      obtain ⟨W2, h2'⟩ : ∃ X, X = W1.alloc (.cells (pkC (z.r + 1) (e.rq.fw (nk + 1))).toArray 44) := ⟨_, rfl⟩
      have b2 : Below W1.heap.size W1 W2 := by rw [h2']; exact (Below.refl _ _).alloc (Nat.le_refl _) _
      have s2 : W2.heap.size = W1.heap.size + 1 := by rw [h2']; simp
      have r2 : W2.rangeAt W1.heap.size 0 (pkC (z.r + 1) (e.rq.fw (nk + 1))) := by rw [h2']; exact range_new _ _ _
      have B2 : Below wr.heap.size wr W2 := hb1.trans (b2.mono s1)
      have o2 : W2.ownsRow w.heap.size 44 2 (.slice ao k cap) (fwOut (z.r + 1) L n0 k).length (wayC (fwOut (z.r + 1) L n0 k)) := own_below' hR.out.2 B2
      have y2 : OutAt W2 (.slice (some ⟨W1.heap.size, 0, none⟩) 1 1) [(z.r + 1, e.rq.fw (nk + 1))] := OutAt.one (by omega) r2
      have HB2 : Hid (Below w.heap.size w W2) := hR.out.1.trans (B2.mono hR.out.1.size)
      have s0 := hR.out.1.size
      have hlen := fwOut_len (z.r + 1) L n0 k
      clear hfw hb1 b2 r2 B2
      go_wp2_with (first
        | (refine wpList_slice_one rfl 33 44 _ rfl (pkC (z.r + 1) (e.rq.fw (nk + 1))) rfl hsl ?_; rw [← h2']; clear h2')
        | (refine wpList_append_pks rfl _ _ rfl w.heap.size _ (fwOut (z.r + 1) L n0 k) rfl o2 _ _ rfl y2 (by rw [hlen]; simp; omega) (by omega) ?_
           intro ao' m' cap' W3 hm' o3 g3
           rw [hlen] at hm'
           have hm2 : m' = k + 1 := hm'
           have B3 : Hid (Below w.heap.size w W3) := HB2.out.trans ((Below.refl _ _).grown g3 (by omega) (fun g e => (o2.lt g e).1))
           have O3 : Hid (W3.ownsRow w.heap.size 44 2 (.slice ao' (k + 1) cap') (fwOut (z.r + 1) L n0 (k + 1)).length (wayC (fwOut (z.r + 1) L n0 (k + 1)))) := (by show World.ownsRow _ _ _ _ _ _ _; rw [fwOut_succ, fwAt_get hee, ← hm2, ← HQ3.out]; exact o3)
           rw [hm2]
           clear hm' hm2 o3 g3))
      refine ⟨⟨k + 1, ao', cap', by rw [HQ3.out]; rfl, rfl, by omega, by omega, B3.out, O3.out⟩, ?_⟩
      have := HQ3.out
      simp [intOf]; omega
    · have hmin : k = min 4 (L.length - n0) := by omega
      have HE : Hid (Below w.heap.size w wr ∧ OutAt wr (.slice ao k cap) (fwOut (z.r + 1) L n0 (min 4 (L.length - n0)))) := ⟨hR.out.1, by rw [← hmin]; exact OutAt.of_own hR.out.2⟩
      by_cases hl1 : n0 + k < L.length
      · have q1 : ((n0 + k : Nat) : Int) < (L.length : Int) := by omega
        have q2 : ¬ (k : Int) < 4 := by omega
        clear hR hmin hlt
        go_wp2_with fail
        refine hen.mono ?_
        rintro e' W1 ⟨rfl, hw1⟩
        obtain rfl : wr = W1 := hw1.symm
        clear hw1 hen
        go_wp2_with fail
        go_ret
        exact ⟨_, rfl, HE.out.2, HE.out.1⟩
      · have q1 : ¬ ((n0 + k : Nat) : Int) < (L.length : Int) := by omega
        clear hR hmin hlt
        go_wp2_with fail
        refine hen.mono ?_
        rintro e' W1 ⟨rfl, hw1⟩
        obtain rfl : wr = W1 := hw1.symm
        clear hw1 hen
        go_wp2_with fail
        go_ret
        exact ⟨_, rfl, HE.out.2, HE.out.1⟩
end Go.Proofs.YteglimjonofdeaaGreatDoor
set_option linter.unusedVariables false
set_option linter.unusedSimpArgs false
namespace Go.Proofs.YteglimjonofdeaaGreatDoor
open Go.RowKit

/-- What take leaves at a node of a chain: the packets out. -/
def chPost (out : En → List (Int × ByteArray)) (K : Nat → Int) (z : Nv) (nd q bb N j u : Nat) (C : Nat → List Int) (l : ByteArray) (bk lm m cc ky : Nat) (lv : Value) (L : List En) (G F : Nat → Prop) (D : DataW Unit) (c n o p v : Int) (t : ByteArray) (w : World) (e : Ending) (w' : World) : Prop :=
  ∃ (C' : Nat → List Int) (l' : ByteArray) (lv' : Value) (G' F' : Nat → Prop) (k vv : Int) (tt : ByteArray) (vs : Value), e = .returned (.tuple #[vs, .nilIface]) ∧ Al K w' z nd q bb N j (u + 1) C' l' bk lm m (cc + 3) ky lv' (L ++ [⟨c, n, o, p, v, t, k, vv, tt⟩]) G' F' (D.put (.int .i64 c) (.lit (.int .i64 ((L.length + 1 : Nat) : Int)))) ∧
    OutAt w' vs (out ⟨c, n, o, p, v, t, k, vv, tt⟩) ∧ Kept (alOwn q bb j bk lm lv G) w w' ∧ ∀ g, bkOwn bk lm lv' G' g → bkOwn bk lm lv G g ∨ w.heap.size ≤ g

set_option maxRecDepth 10000 in
set_option maxHeartbeats 4000000 in
theorem ntake_fwd (K : Nat → Int) (z : Nv) (nd q bb N j u : Nat) (C : Nat → List Int) (l : ByteArray) (bk lm m cc ky : Nat) (lv : Value) (L : List En) (G F : Nat → Prop) (D : DataW Unit) (c n o p v : Int) (t : ByteArray) (w : World) (h : Al K w z nd q bb N j u C l bk lm m cc ky lv L G F D) (h0 : 0 ≤ z.r) (h2 : z.r ≤ 2) (hz : z.r ≠ z.last) (hN : N ≤ 1000) (hu : u < N) (hw : rqWhole c n o p v t = true) (hL : L.length ≤ 400) (hcc : cc < 700) :
    Calls Tryz.prog 61 #[.pointer (some ⟨nd, 0, none⟩), .agg (rqCells c n o p v t).toArray] w (chPost (fun _ => [(z.r + 1, (⟨c, n, o, p, v, t⟩ : Rq).fw ((L.length + 1 : Nat) : Int))]) K z nd q bb N j u C l bk lm m cc ky lv L G F D c n o p v t w) := by
  obtain ⟨V0, hV0⟩ : ∃ V, V = w.alloc (.cells #[.pointer (some ⟨nd, 0, none⟩)] 87) := ⟨_, rfl⟩
  obtain ⟨V, hV⟩ : ∃ V, V = V0.alloc (.cells (rqCells c n o p v t).toArray 29) := ⟨_, rfl⟩
  have hVs0 : V0.heap.size = w.heap.size + 1 := by rw [hV0]; simp
  have hVs : V.heap.size = w.heap.size + 2 := by rw [hV]; simp; omega
  have b0 : Below w.heap.size w V0 := by rw [hV0]; exact (Below.refl _ _).alloc (Nat.le_refl _) _
  have b1 : Below V0.heap.size V0 V := by rw [hV]; exact (Below.refl _ _).alloc (Nat.le_refl _) _
  have bV : Below w.heap.size w V := b0.trans (b1.mono (by omega))
  have rV : V.rangeAt (w.heap.size + 1) 0 (rqCells c n o p v t) := by have := range_new V0 (rqCells c n o p v t) 29; rw [← hV, hVs0] at this; exact this
  have x0 : V0.cell? ⟨w.heap.size, 0, none⟩ = some (.pointer (some ⟨nd, 0, none⟩)) := by rw [hV0, World.cell?_alloc_at _ _ _ _ rfl]; rfl
  have xV : V.cell? ⟨w.heap.size, 0, none⟩ = some (.pointer (some ⟨nd, 0, none⟩)) := (b1.cell (p := ⟨w.heap.size, 0, none⟩) (by show w.heap.size < _; omega)).trans x0
  have AV := h.fresh bV
  have own : ∀ g, alOwn q bb j bk lm lv G g → g < w.heap.size := fun g hg => by rcases hg with hg | hg; exact h.jat.ownLt g hg; exact h.book.ownLt g hg
  have hput := nput_any K z nd q bb N j u C l bk lm m cc ky lv L G F D c n o p v t w.heap.size (w.heap.size + 1) V AV hN hu hw hL hcc xV (by omega) (fun e => by have := own _ e; omega) rV (by omega) (fun e => by have := own _ e; omega)
  have HBV : Hid (Below w.heap.size w V) := bV
  have HXO : Hid (¬ alOwn q bb j bk lm lv G w.heap.size) := fun e => by have := own _ e; omega
  have HXV : Hid (V.cell? ⟨w.heap.size, 0, none⟩ = some (.pointer (some ⟨nd, 0, none⟩))) := xV
  have hmf : ∀ (fn : Fn) (first cap : Array Value) (w : World), (Instr.makeFunc fn first cap).run Tryz.prog w = .ok (.func fn first cap) w := fun _ _ _ _ => rfl
  have hpl := info_pl z
  have hla := last_any z
  simp only [decide_eq_false hz] at hla
  clear hz
  clear h AV bV rV b0 b1 x0 own
  go_enter Tryz.func61, Tryz.ntmps61
  unfold rqCells at hV
  unfold rqCells
  go_wp2_with (first
    | (rw [← hV0]; clear hV0)
    | (rw [← hV]; clear hV))
  refine hput.mono ?_
  rintro e W2 ⟨rfl, C', l', lv', G', F', k, vv, tt, a2, k2, o2⟩
  have s2 := k2.size
  have xW : W2.cell? ⟨w.heap.size, 0, none⟩ = some (.pointer (some ⟨nd, 0, none⟩)) := (k2.cell (a := ⟨w.heap.size, 0, none⟩) (by show w.heap.size < _; omega) HXO.out).trans HXV.out
  obtain ⟨en, hen0⟩ : ∃ en : En, en = ⟨c, n, o, p, v, t, k, vv, tt⟩ := ⟨_, rfl⟩
  obtain ⟨L2, hL2⟩ : ∃ L2, L2 = L ++ [en] := ⟨_, rfl⟩
  obtain ⟨D2, hD2⟩ : ∃ D2, D2 = D.put (.int .i64 c) (.lit (.int .i64 ((L.length + 1 : Nat) : Int))) := ⟨_, rfl⟩
  have hlen : L2.length = L.length + 1 := by rw [hL2, List.length_append, List.length_singleton]
  have hget : L2[L.length]? = some en := by rw [hL2, List.getElem?_append_right (Nat.le_refl _), Nat.sub_self]; rfl
  rw [← hen0, ← hL2, ← hD2] at a2
  have A2 : Hid (Al K W2 z nd q bb N j (u + 1) C' l' bk lm m (cc + 3) ky lv' L2 G' F' D2) := a2
  have K2 : Hid (Kept (alOwn q bb j bk lm lv G) w W2) := (Kept.fresh HBV.out).trans k2 (fun _ _ h => h)
  have O2 : Hid (∀ g, bkOwn bk lm lv' G' g → bkOwn bk lm lv G g ∨ w.heap.size ≤ g) := fun g hg => (o2 g hg).imp id (fun h => by have := HBV.out.size; omega)
  have HEN : Hid (en = ⟨c, n, o, p, v, t, k, vv, tt⟩ ∧ L2 = L ++ [en] ∧ D2 = D.put (.int .i64 c) (.lit (.int .i64 ((L.length + 1 : Nat) : Int)))) := ⟨hen0, hL2, hD2⟩
  have c2 : W2.cell? ⟨nd, 2, none⟩ = some (.pointer (some ⟨bk, 0, none⟩)) := A2.out.node 2 _ rfl
  obtain ⟨sa, scap, hslv⟩ := A2.out.book.slice
  rw [hlen] at hslv
  have hen := bentries_any bk sa (L.length + 1) scap W2 (by rw [← hslv]; exact A2.out.book.cells 1 _ rfl)
  clear hput a2 k2 o2 hen0 hL2 hD2 HXV
  go_wp2_with fail
  refine hen.mono ?_
  rintro e W3 ⟨rfl, hw3⟩
  obtain rfl : W2 = W3 := hw3.symm
  clear hw3 hen
  have hp := nd_place A2.out.node
  go_wp2_with (first
    | (refine wpList_load_mid rfl 108 _ rfl nd 0 rfl (plL z) _ hp Tryz.underlying108 rfl hpl ?_))
  refine (hla W2).mono ?_
  rintro e W4 ⟨rfl, hb4⟩
  have A4 : Hid (Al K W4 z nd q bb N j (u + 1) C' l' bk lm m (cc + 3) ky lv' L2 G' F' D2) := A2.out.fresh hb4
  have hp4 := nd_place A4.out.node
  have s4 := hb4.size
  have HB4 : Hid (Below W2.heap.size W2 W4) := hb4
  have xW4 : W4.cell? ⟨w.heap.size, 0, none⟩ = some (.pointer (some ⟨nd, 0, none⟩)) := (hb4.cell (p := ⟨w.heap.size, 0, none⟩) (by show w.heap.size < _; omega)).trans xW
  have hlc : ((L.length + 1 : Nat) : Int) = (L.length : Int) + 1 := by omega
  clear hp hb4 c2 xW
  have hew : rqWhole en.c en.n en.o en.p en.v en.t = true := by rw [HEN.out.1]; exact hw
  have hfw := forward_any K z nd q bb N j (u + 1) C' l' bk lm m (cc + 3) ky lv' L2 G' F' D2 (L.length + 1) en W4 A4.out h0 h2 (by omega) (by rw [Nat.add_sub_cancel]; exact hget) hew (by omega)
  have hsl := slice_pkC (z.r + 1) (en.rq.fw ((L.length + 1 : Nat) : Int))
  clear hp4
  rw [hlc] at hfw hsl
  go_wp2_with fail
  refine hfw.mono ?_
  rintro e W6 ⟨rfl, hb6⟩
  have HA6 : Hid (Al K W6 z nd q bb N j (u + 1) C' l' bk lm m (cc + 3) ky lv' L2 G' F' D2) := A4.out.fresh hb6
  have HB6 : Hid (Below W2.heap.size W2 W6) := HB4.out.trans (hb6.mono s4)
  clear hfw hb6
  go_wp2_with (first | (refine wpList_slice_one rfl 33 44 _ rfl (pkC (z.r + 1) (en.rq.fw ((L.length : Int) + 1))) rfl hsl ?_))
  go_ret2
  have b7 : Below W6.heap.size W6 (W6.alloc (.cells (pkC (z.r + 1) (en.rq.fw ((L.length : Int) + 1))).toArray 44)) := (Below.refl _ _).alloc (Nat.le_refl _) _
  have a7 := HA6.out.fresh b7
  obtain ⟨e1, e2, e3⟩ := HEN.out
  have k6 := K2.out.size
  have k7 := HB6.out.size
  rw [e2, e3, e1] at a7
  refine ⟨C', l', lv', G', F', k, vv, tt, _, rfl, by rw [e1]; exact a7, ?_, K2.out.trans (Kept.fresh (S := alOwn q bb j bk lm lv G) (HB6.out.trans (b7.mono HB6.out.size))) (fun _ _ h => h), O2.out⟩
  have er : en.rq = ⟨c, n, o, p, v, t⟩ := by rw [e1]; rfl
  rw [er, ← hlc]
  exact OutAt.one (by simp) (range_new _ _ _)

theorem slice_two (a b : Int) (s y : ByteArray) (w : World) : (Instr.buildSlice 33 2 #[(0, .agg (pkC a s).toArray), (1, .agg (pkC b y).toArray)]).run Tryz.prog w = .ok (.slice (some ⟨w.heap.size, 0, none⟩) 2 2) (w.alloc (.cells (wayC [(a, s), (b, y)]).toArray 44)) := by kernel_rfl
theorem wp_slice_two {o : Oper} {a : Act} {w : World} {K : Act → World → Prop} {Q : Exit → Act → World → Prop} (x1 x2 : Operand) (ho : o.op = .buildSlice 33 2 #[(0, x1), (1, x2)]) (a1 a2 : Int) (s1 s2 : ByteArray) (hx : a.eval x1 = .agg (pkC a1 s1).toArray) (hy : a.eval x2 = .agg (pkC a2 s2).toArray)
    (h : K (a.put o.dst (.slice (some ⟨w.heap.size, 0, none⟩) 2 2)) (w.alloc (.cells (wayC [(a1, s1), (a2, s2)]).toArray 44))) : o.wp Tryz.prog a w K Q := by
  unfold Oper.wp execOp
  simp only [ho, hx, hy, Sem.run_bind, List.map_toArray, List.map_cons, List.map_nil, slice_two, Result.andThen_ok]
  exact h

set_option maxRecDepth 10000 in
set_option maxHeartbeats 4000000 in
theorem ntake_last (K : Nat → Int) (z : Nv) (nd q bb N j u : Nat) (C : Nat → List Int) (l : ByteArray) (bk lm m cc ky : Nat) (lv : Value) (L : List En) (G F : Nat → Prop) (D : DataW Unit) (c n o p v : Int) (t : ByteArray) (w : World) (h : Al K w z nd q bb N j u C l bk lm m cc ky lv L G F D) (h1 : 1 ≤ z.r) (h2 : z.r ≤ 2) (hz : z.r = z.last) (hN : N ≤ 1000) (hu : u < N) (hw : rqWhole c n o p v t = true) (hL : L.length ≤ 400) (hcc : cc < 700) :
    Calls Tryz.prog 61 #[.pointer (some ⟨nd, 0, none⟩), .agg (rqCells c n o p v t).toArray] w (chPost (fun e => [(z.r - 1, mkT 75 ((L.length + 1 : Nat) : Int) ⟨#[]⟩), (10 + e.c, strOfNums (anBytes e.n e.k e.vv e.tt))]) K z nd q bb N j u C l bk lm m cc ky lv L G F D c n o p v t w) := by
  obtain ⟨V0, hV0⟩ : ∃ V, V = w.alloc (.cells #[.pointer (some ⟨nd, 0, none⟩)] 87) := ⟨_, rfl⟩
  obtain ⟨V, hV⟩ : ∃ V, V = V0.alloc (.cells (rqCells c n o p v t).toArray 29) := ⟨_, rfl⟩
  have hVs0 : V0.heap.size = w.heap.size + 1 := by rw [hV0]; simp
  have hVs : V.heap.size = w.heap.size + 2 := by rw [hV]; simp; omega
  have b0 : Below w.heap.size w V0 := by rw [hV0]; exact (Below.refl _ _).alloc (Nat.le_refl _) _
  have b1 : Below V0.heap.size V0 V := by rw [hV]; exact (Below.refl _ _).alloc (Nat.le_refl _) _
  have bV : Below w.heap.size w V := b0.trans (b1.mono (by omega))
  have rV : V.rangeAt (w.heap.size + 1) 0 (rqCells c n o p v t) := by have := range_new V0 (rqCells c n o p v t) 29; rw [← hV, hVs0] at this; exact this
  have x0 : V0.cell? ⟨w.heap.size, 0, none⟩ = some (.pointer (some ⟨nd, 0, none⟩)) := by rw [hV0, World.cell?_alloc_at _ _ _ _ rfl]; rfl
  have xV : V.cell? ⟨w.heap.size, 0, none⟩ = some (.pointer (some ⟨nd, 0, none⟩)) := (b1.cell (p := ⟨w.heap.size, 0, none⟩) (by show w.heap.size < _; omega)).trans x0
  have AV := h.fresh bV
  have own : ∀ g, alOwn q bb j bk lm lv G g → g < w.heap.size := fun g hg => by rcases hg with hg | hg; exact h.jat.ownLt g hg; exact h.book.ownLt g hg
  have hput := nput_any K z nd q bb N j u C l bk lm m cc ky lv L G F D c n o p v t w.heap.size (w.heap.size + 1) V AV hN hu hw hL hcc xV (by omega) (fun e => by have := own _ e; omega) rV (by omega) (fun e => by have := own _ e; omega)
  have HBV : Hid (Below w.heap.size w V) := bV
  have HXO : Hid (¬ alOwn q bb j bk lm lv G w.heap.size) := fun e => by have := own _ e; omega
  have HXV : Hid (V.cell? ⟨w.heap.size, 0, none⟩ = some (.pointer (some ⟨nd, 0, none⟩))) := xV
  have hmf : ∀ (fn : Fn) (first cap : Array Value) (w : World), (Instr.makeFunc fn first cap).run Tryz.prog w = .ok (.func fn first cap) w := fun _ _ _ _ => rfl
  have hpl := info_pl z
  have hla := last_any z
  simp only [decide_eq_true hz] at hla
  have hfi := first_any z
  simp only [decide_eq_false (show ¬ z.r = 0 by omega)] at hfi
  have hak0 : ∀ n : Nat, ackOf z n = (n : Int) := fun n => if_pos hz
  clear hz
  clear h AV bV rV b0 b1 x0 own
  go_enter Tryz.func61, Tryz.ntmps61
  unfold rqCells at hV
  unfold rqCells
  go_wp2_with (first
    | (rw [← hV0]; clear hV0)
    | (rw [← hV]; clear hV))
  refine hput.mono ?_
  rintro e W2 ⟨rfl, C', l', lv', G', F', k, vv, tt, a2, k2, o2⟩
  have s2 := k2.size
  have xW : W2.cell? ⟨w.heap.size, 0, none⟩ = some (.pointer (some ⟨nd, 0, none⟩)) := (k2.cell (a := ⟨w.heap.size, 0, none⟩) (by show w.heap.size < _; omega) HXO.out).trans HXV.out
  obtain ⟨en, hen0⟩ : ∃ en : En, en = ⟨c, n, o, p, v, t, k, vv, tt⟩ := ⟨_, rfl⟩
  obtain ⟨L2, hL2⟩ : ∃ L2, L2 = L ++ [en] := ⟨_, rfl⟩
  obtain ⟨D2, hD2⟩ : ∃ D2, D2 = D.put (.int .i64 c) (.lit (.int .i64 ((L.length + 1 : Nat) : Int))) := ⟨_, rfl⟩
  have hlen : L2.length = L.length + 1 := by rw [hL2, List.length_append, List.length_singleton]
  have hget : L2[L.length]? = some en := by rw [hL2, List.getElem?_append_right (Nat.le_refl _), Nat.sub_self]; rfl
  rw [← hen0, ← hL2, ← hD2] at a2
  have A2 : Hid (Al K W2 z nd q bb N j (u + 1) C' l' bk lm m (cc + 3) ky lv' L2 G' F' D2) := a2
  have K2 : Hid (Kept (alOwn q bb j bk lm lv G) w W2) := (Kept.fresh HBV.out).trans k2 (fun _ _ h => h)
  have O2 : Hid (∀ g, bkOwn bk lm lv' G' g → bkOwn bk lm lv G g ∨ w.heap.size ≤ g) := fun g hg => (o2 g hg).imp id (fun h => by have := HBV.out.size; omega)
  have HEN : Hid (en = ⟨c, n, o, p, v, t, k, vv, tt⟩ ∧ L2 = L ++ [en] ∧ D2 = D.put (.int .i64 c) (.lit (.int .i64 ((L.length + 1 : Nat) : Int)))) := ⟨hen0, hL2, hD2⟩
  have c2 : W2.cell? ⟨nd, 2, none⟩ = some (.pointer (some ⟨bk, 0, none⟩)) := A2.out.node 2 _ rfl
  obtain ⟨sa, scap, hslv⟩ := A2.out.book.slice
  rw [hlen] at hslv
  have hen := bentries_any bk sa (L.length + 1) scap W2 (by rw [← hslv]; exact A2.out.book.cells 1 _ rfl)
  clear hput a2 k2 o2 hen0 hL2 hD2 HXV
  go_wp2_with fail
  refine hen.mono ?_
  rintro e W3 ⟨rfl, hw3⟩
  obtain rfl : W2 = W3 := hw3.symm
  clear hw3 hen
  have hp := nd_place A2.out.node
  go_wp2_with (first
    | (refine wpList_load_mid rfl 108 _ rfl nd 0 rfl (plL z) _ hp Tryz.underlying108 rfl hpl ?_))
  refine (hla W2).mono ?_
  rintro e W4 ⟨rfl, hb4⟩
  have A4 : Hid (Al K W4 z nd q bb N j (u + 1) C' l' bk lm m (cc + 3) ky lv' L2 G' F' D2) := A2.out.fresh hb4
  have hp4 := nd_place A4.out.node
  have s4 := hb4.size
  have HB4 : Hid (Below W2.heap.size W2 W4) := hb4
  have xW4 : W4.cell? ⟨w.heap.size, 0, none⟩ = some (.pointer (some ⟨nd, 0, none⟩)) := (hb4.cell (p := ⟨w.heap.size, 0, none⟩) (by show w.heap.size < _; omega)).trans xW
  have hlc : ((L.length + 1 : Nat) : Int) = (L.length : Int) + 1 := by omega
  clear hp hb4 c2 xW
  have hak : ackOf z L2.length = ((L.length + 1 : Nat) : Int) := by rw [hak0, hlen]
  clear hak0
  go_wp2_with (first
    | (refine wpList_load_mid rfl 108 _ rfl nd 0 rfl (plL z) _ hp4 Tryz.underlying108 rfl hpl ?_))
  refine (hfi W4).mono ?_
  rintro e W5 ⟨rfl, hb5⟩
  have s5 := hb5.size
  have A5 : Hid (Al K W5 z nd q bb N j (u + 1) C' l' bk lm m (cc + 3) ky lv' L2 G' F' D2) := A4.out.fresh hb5
  have HB5 : Hid (Below W2.heap.size W2 W5) := HB4.out.trans (hb5.mono s4)
  have xW5 : W5.cell? ⟨w.heap.size, 0, none⟩ = some (.pointer (some ⟨nd, 0, none⟩)) := (hb5.cell (p := ⟨w.heap.size, 0, none⟩) (by show w.heap.size < _; omega)).trans xW4
  have J5 : W5.drew.cell? ⟨w.heap.size, 0, none⟩ = some (.pointer (some ⟨nd, 0, none⟩)) := xW5
  clear hp4 hb5 A4 xW4
  go_wp2_with fail
  refine wp_region_noPanic ?_
  refine wp_region_held_drew (S := fun W => W.cell? ⟨w.heap.size, 0, none⟩ = some (.pointer (some ⟨nd, 0, none⟩))) (by kernel_rfl) J5 (fun _ => ?_)
  refine wpAnyH_take (i := 0) (v := ?_) rfl (by kernel_rfl) (by kernel_rfl) (by kernel_rfl) (fun _ _ _ h => h) (Or.inl ⟨by rfl, ?_⟩) J5 ?_
  rotate_left 1
  · intro W hSW; have qx := hSW; clear hSW; go_simp; try with_reducible rfl
  simp only [qA, qB, qC, Act.put, qD, qE, qF]
  refine wpAnyH_take (i := 2) (v := ?_) rfl (by kernel_rfl) (by kernel_rfl) (by kernel_rfl) (fun _ _ _ h => h) (Or.inl ⟨by rfl, ?_⟩) J5 ?_
  rotate_left 1
  · intro W hSW; have qx := hSW; clear hSW; go_simp; try with_reducible rfl
  simp only [qA, qB, qC, Act.put, qD, qE, qF]
  refine wpAnyH_take (i := 3) (v := ?_) rfl (by kernel_rfl) (by kernel_rfl) (by kernel_rfl) (fun _ _ _ h => h) (Or.inl ⟨by rfl, ?_⟩) J5 ?_
  rotate_left 1
  · intro W hSW; clear hSW; go_simp; try with_reducible rfl
  simp only [qA, qB, qC, Act.put, qD, qE, qF]
  refine wpAnyH_ready (rs := [1]) (by kernel_rfl) (by simp) ?_
  refine AllReadyH.cons rfl (fun K' hK' => ?_) AllReadyH.nil
  rw [if_pos (by rfl)]
  go_simp
  refine (ack_any K z nd q bb N j (u + 1) C' l' bk lm m (cc + 3) ky lv' L2 G' F' D2 ((L.length + 1 : Nat) : Int) W5.drew (A5.out.fresh (Below.refl _ _).drew) h1 h2 hak (by omega)).mono ?_
  rintro e' W6 ⟨rfl, hb6⟩
  have b6 : Below W5.heap.size W5 W6 := ((Below.refl W5.heap.size W5).drew).trans hb6
  have s6 := b6.size
  have A6 : Hid (Al K W6 z nd q bb N j (u + 1) C' l' bk lm m (cc + 3) ky lv' L2 G' F' D2) := A5.out.fresh b6
  have J6 : W6.cell? ⟨w.heap.size, 0, none⟩ = some (.pointer (some ⟨nd, 0, none⟩)) := (b6.cell (p := ⟨w.heap.size, 0, none⟩) (by show w.heap.size < _; omega)).trans xW5
  have HB6 : Hid (Below W2.heap.size W2 W6) := HB5.out.trans (b6.mono HB5.out.size)
  clear hb6 b6
  refine hK'.out _ _ J6 (fun _ => ?_)
  clear hK' K'
  try simp only [qA, qB, qC, Act.put, qD, qE, qF]
  refine wpAnyH_ready (rs := [4]) (by kernel_rfl) (by simp) ?_
  refine AllReadyH.cons rfl (fun K' hK' => ?_) AllReadyH.nil
  rw [if_pos (by rfl)]
  have hans := answer_any z nd bk j lm m (cc + 3) ky (L.length + 1) lv' _ G' F' _ en W6 A6.out.node A6.out.nlt A6.out.book (by omega) (by rw [Nat.add_sub_cancel]; exact hget) (by omega)
  rw [hlc] at hans
  go_simp
  refine hans.mono ?_
  rintro e' W7 ⟨rfl, hb7⟩
  have s7 := hb7.size
  have A7 : Hid (Al K W7 z nd q bb N j (u + 1) C' l' bk lm m (cc + 3) ky lv' L2 G' F' D2) := A6.out.fresh hb7
  have J7 : W7.cell? ⟨w.heap.size, 0, none⟩ = some (.pointer (some ⟨nd, 0, none⟩)) := (hb7.cell (p := ⟨w.heap.size, 0, none⟩) (by show w.heap.size < _; omega)).trans J6
  have HB7 : Hid (Below W2.heap.size W2 W7) := HB6.out.trans (hb7.mono HB6.out.size)
  clear hb7 hans
  refine hK'.out _ _ J7 (fun _ => ?_)
  clear hK' K'
  try simp only [qA, qB, qC, Act.put, qD, qE, qF]
  refine wpAnyH_ready (rs := [5]) (by kernel_rfl) (by simp) ?_
  refine AllReadyH.cons rfl (fun K' hK' => ?_) AllReadyH.nil
  rw [if_pos (by rfl)]
  refine wp_slice_two _ _ rfl (z.r - 1) (10 + en.c) (mkT 75 ((L.length + 1 : Nat) : Int) ⟨#[]⟩) (strOfNums (anBytes en.n en.k en.vv en.tt)) rfl rfl ?_
  obtain ⟨W8, h8⟩ : ∃ X, X = W7.alloc (.cells (wayC [(z.r - 1, mkT 75 ((L.length + 1 : Nat) : Int) ⟨#[]⟩), (10 + en.c, strOfNums (anBytes en.n en.k en.vv en.tt))]).toArray 44) := ⟨_, rfl⟩
  rw [← h8]
  have b8 : Below W7.heap.size W7 W8 := by rw [h8]; exact (Below.refl _ _).alloc (Nat.le_refl _) _
  have J8 : W8.cell? ⟨w.heap.size, 0, none⟩ = some (.pointer (some ⟨nd, 0, none⟩)) := (b8.cell (p := ⟨w.heap.size, 0, none⟩) (by show w.heap.size < _; omega)).trans J7
  have HO8 : Hid (OutAt W8 (.slice (some ⟨W7.heap.size, 0, none⟩) 2 2) [(z.r - 1, mkT 75 ((L.length + 1 : Nat) : Int) ⟨#[]⟩), (10 + en.c, strOfNums (anBytes en.n en.k en.vv en.tt))]) := Or.inr ⟨W7.heap.size, 2, rfl, by rw [h8]; simp, by rw [h8]; exact range_new _ _ _⟩
  have HA8 : Hid (Al K W8 z nd q bb N j (u + 1) C' l' bk lm m (cc + 3) ky lv' L2 G' F' D2) := A7.out.fresh b8
  have HB8 : Hid (Below W2.heap.size W2 W8) := HB7.out.trans (b8.mono HB7.out.size)
  clear h8 b8
  refine hK'.out _ _ J8 (fun _ => ?_)
  clear hK' K'
  try simp only [qA, qB, qC, Act.put, qD, qE, qF]
  refine wpAnyH_take (i := 6) (v := ?_) rfl (by kernel_rfl) (by kernel_rfl) (by kernel_rfl) (fun _ _ _ h => h) (Or.inl ⟨by rfl, ?_⟩) J8 ?_
  rotate_left 1
  · intro W hSW; clear hSW; go_simp; try with_reducible rfl
  simp only [qA, qB, qC, Act.put, qD, qE, qF]
  refine wpAnyH_take (i := 7) (v := ?_) rfl (by kernel_rfl) (by kernel_rfl) (by kernel_rfl) (fun _ _ _ h => h) (Or.inl ⟨by rfl, ?_⟩) J8 ?_
  rotate_left 1
  · intro W hSW; clear hSW; go_simp; try with_reducible rfl
  simp only [qA, qB, qC, Act.put, qD, qE, qF]
  refine ⟨by kernel_rfl, ?_⟩
  refine NoPanic.normal ?_
  try simp only [qA, qB, qC, Act.put, qD, qE, qF]
  go_wp2_with fail
  go_ret2
  obtain ⟨e1, e2, e3⟩ := HEN.out
  have a8 := HA8.out
  have o8 := HO8.out
  rw [e2, e3, e1] at a8
  rw [e1] at o8
  exact ⟨C', l', lv', G', F', k, vv, tt, _, rfl, a8, o8, K2.out.trans (Kept.fresh (S := alOwn q bb j bk lm lv G) HB8.out) (fun _ _ h => h), O2.out⟩

set_option maxRecDepth 10000 in
set_option maxHeartbeats 1000000 in
/-- Asked for again, and not known to be in all logs: the Forwards. -/
theorem again_fwd (K : Nat → Int) (z : Nv) (nd q bb N j u : Nat) (C : Nat → List Int) (l : ByteArray) (bk lm m cc ky : Nat) (lv : Value) (L : List En) (G F : Nat → Prop) (D : DataW Unit) (i kn : Nat) (w : World) (h : Al K w z nd q bb N j u C l bk lm m cc ky lv L G F D) (h0 : 0 ≤ z.r) (h2 : z.r ≤ 2) (hak : ackOf z L.length = (kn : Int)) (hi : kn < i) (hkn : kn ≤ L.length) (hwh : ∀ e ∈ L, rqWhole e.c e.n e.o e.p e.v e.t = true) (hL : L.length < 1000) :
    Calls Tryz.prog 59 #[.pointer (some ⟨nd, 0, none⟩), .int .i64 (i : Nat)] w fun e' w' => ∃ v, e' = .returned v ∧ OutAt w' v (fwOut (z.r + 1) L kn (min 4 (L.length - kn))) ∧ Below w.heap.size w w' := by
  have hack := acked_any z nd bk j lm m cc ky lv L G F D w h.node h.nlt h.book
  rw [hak] at hack
  have HA : Hid (Al K w z nd q bb N j u C l bk lm m cc ky lv L G F D) := h
  have HW : Hid (∀ e ∈ L, rqWhole e.c e.n e.o e.p e.v e.t = true) := hwh
  have hle : ¬ (i : Int) ≤ (kn : Int) := by omega
  clear h hwh
  go_enter Tryz.func59, Tryz.ntmps59
  go_wp2_with fail
  refine hack.mono ?_
  rintro e' W1 ⟨rfl, hb1⟩
  have A1 : Hid (Al K W1 z nd q bb N j u C l bk lm m cc ky lv L G F D) := HA.out.fresh hb1
  have hack2 := acked_any z nd bk j lm m cc ky lv L G F D W1 A1.out.node A1.out.nlt A1.out.book
  rw [hak] at hack2
  have HB1 : Hid (Below w.heap.size w W1) := hb1
  clear hack hb1
  go_wp2_with fail
  refine hack2.mono ?_
  rintro e' W2 ⟨rfl, hb2⟩
  have hbe := behind_any K z nd q bb N j u C l bk lm m cc ky lv L G F D kn W2 (A1.out.fresh hb2) h0 h2 hkn HW.out hL
  have HB2 : Hid (Below w.heap.size w W2) := HB1.out.trans (hb2.mono HB1.out.size)
  clear hack2 hb2
  go_wp2_with fail
  refine hbe.mono ?_
  rintro e' W3 ⟨v, rfl, o3, b3⟩
  have HO3 : Hid (OutAt W3 v (fwOut (z.r + 1) L kn (min 4 (L.length - kn)))) := o3
  have HB3 : Hid (Below w.heap.size w W3) := HB2.out.trans (b3.mono HB2.out.size)
  clear hbe o3 b3
  go_wp2_with fail
  go_ret
  exact ⟨v, rfl, HO3.out, HB3.out⟩
end Go.Proofs.YteglimjonofdeaaGreatDoor
