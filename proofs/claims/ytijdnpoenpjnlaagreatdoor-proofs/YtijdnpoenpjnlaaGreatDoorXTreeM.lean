import Derived.Test.YtijdnpoenpjnlaaGreatDoorXRootedM
import Derived.Test.YtijdnpoenpjnlaaGreatDoorRUpTo
import Derived.Test.YtijdnpoenpjnlaaGreatDoorZMathM
import Derived.Test.YtijdnpoenpjnlaaGreatDoorRPlay2
set_option linter.unusedVariables false
set_option linter.unusedSimpArgs false
namespace Go.Proofs.YtijdnpoenpjnlaaGreatDoor
open Go.RowKit

theorem WAt.leaf {p k : Nat} {w : World} {S : WS} (h : WAt p k w S) : LeafAt w S.lv S.L := leaf_own h.list

set_option maxRecDepth 10000 in
set_option maxHeartbeats 1000000 in
theorem tree_root (p k : Nat) (S : WS) (x y z a b c : Int) (s : ByteArray) (w : World) (h : WAt p k w S) (G : Glob p w) (hk : k ≤ 1000000) (B : OpOk x y z a b c) (hs : s.size ≤ 1000000) :
    Calls Tryz.prog 18 #[.pointer (some ⟨p, 0, none⟩), .agg (opCells 23 x y z a b c s).toArray] w fun e w' => e = .returned (.bool true) ∧ ∃ S', WAt p (k + 1) w' S' ∧ Far p S S' w w' := by
  obtain ⟨x0, x1, y0, y1, z0, z1, a0, a1, b0, b1, c0, c1⟩ := B
  have HA : WAt p k (w.alloc (.cells (opCells 23 x y z a b c s).toArray 28)) S := h.below ((Below.refl _ _).alloc (Nat.le_refl _) _)
  have HW : Hid (WAt p k w S) := h
  have HG : Hid (Glob p w) := G
  have hpw := h.lt
  clear h G
  go_enter Tryz.func18, Tryz.ntmps18
  unfold opCells at HA ⊢
  go_wp2_with fail
  refine (text_any p k S x _ HA hk x0 x1).mono ?_
  rintro e w0 ⟨t, rfl, ht, m, hw0⟩
  have hb0 : Below w.heap.size w w0 := by rw [hw0]; exact below_draws ((Below.refl _ _).alloc (Nat.le_refl _) _) m
  have hr0 : ∀ j u, (opCells 23 x y z a b c s)[j]? = some u → w0.cell? ⟨w.heap.size, j, none⟩ = some u := by
    intro j u hu
    rw [hw0]
    have := range_new w (opCells 23 x y z a b c s) 28 j u hu
    rw [Nat.zero_add] at this
    exact this
  have hz0 : w.heap.size < w0.heap.size := by rw [hw0]; show w.heap.size < (w.alloc _).heap.size; simp
  clear hw0 HA
  have i2 : w0.cell? ⟨w.heap.size, 2, none⟩ = some (.int .i64 y) := hr0 2 _ rfl
  go_wp2_with fail
  refine (text_any p k S y w0 (HW.out.below hb0) hk y0 y1).mono ?_
  rintro e w1 ⟨t', rfl, ht', m', hw1⟩
  have hb01 : Below w0.heap.size w0 w1 := by rw [hw1]; exact below_draws (Below.refl _ _) m'
  have hb1 : Below w.heap.size w w1 := hb0.trans (hb01.mono hb0.size)
  have hz1 : w.heap.size < w1.heap.size := Nat.lt_of_lt_of_le hz0 hb01.size
  have hr1 : ∀ j u, (opCells 23 x y z a b c s)[j]? = some u → w1.cell? ⟨w.heap.size, j, none⟩ = some u := fun j u hu => (hb01.cell (p := ⟨w.heap.size, j, none⟩) hz0).trans (hr0 j u hu)
  have W1 : WAt p k w1 S := HW.out.below hb1
  have G1 : Glob p w1 := HG.out.below (hb1.mono (Nat.le_of_lt hpw))
  clear hw1 hb01 hb0 hr0 hz0 i2
  have i0 : w1.cell? ⟨w.heap.size, 0, none⟩ = some (.int .i64 23) := hr1 0 _ rfl
  clear hr1
  have hp1 := W1.lt
  have c1 : w1.cell? ⟨p, 1, none⟩ = some S.lv := W1.cell 1
  have hrt := rooted_any p S.lv S.L w1 G1 hp1 W1.leaf (Nat.le_trans W1.nL hk) W1.sL
  obtain ⟨lo, lc, el⟩ := row_form W1.list
  rw [el] at c1 hrt
  clear el
  generalize S.L.length = NL at *
  generalize rootF HR S.L = R at *
  go_wp2_with fail
  refine hrt.mono ?_
  rintro e w2 ⟨rfl, hb2⟩
  clear hrt
  have hb2' : Below w.heap.size w w2 := hb1.trans (hb2.mono hb1.size)
  have W2 : WAt p k w2 S := HW.out.below hb2'
  go_wp2_with fail
  refine (add_any p k S R w2 W2 hk).mono ?_
  rintro e w3 ⟨rfl, S', W3, F3⟩
  go_wp2_with fail
  go_ret
  exact ⟨rfl, S', W3, (Far.of_below S hb2').trans F3⟩

/-- What a step of Trees leaves. -/
def stepPost (p k : Nat) (Ts : List (List ByteArray)) (w : World) (e : Ending) (w' : World) : Prop :=
  e = .returned (.bool true) ∧ ∃ (S' : WS) (A' B' : List Value) (Ts' : List (List ByteArray)), WAt p (k + 1) w' S' ∧ HAt p w' S' A' B' Ts' ∧ Ts'.length ≤ Ts.length + 2 ∧ Below p w w'

set_option maxRecDepth 10000 in
set_option maxHeartbeats 1000000 in
theorem tree_prove (p k : Nat) (S : WS) (A B : List Value) (Ts : List (List ByteArray)) (x y z a b c : Int) (s : ByteArray) (w : World) (h : WAt p k w S) (G : Glob p w) (hk2 : k ≤ 800000) (HA0 : HAt p w S A B Ts) (hn : Ts.length ≤ 800000) (OB : OpOk x y z a b c) (hs : s.size ≤ 1000000) :
    Calls Tryz.prog 18 #[.pointer (some ⟨p, 0, none⟩), .agg (opCells 24 x y z a b c s).toArray] w (stepPost p k Ts w) := by
  obtain ⟨x0, x1, y0, y1, z0, z1, a0, a1, b0, b1, c0, c1⟩ := OB
  have hk : k ≤ 1000000 := by omega
  have HH : Hid (HAt p w S A B Ts) := HA0
  clear HA0
  have HA : WAt p k (w.alloc (.cells (opCells 24 x y z a b c s).toArray 28)) S := h.below ((Below.refl _ _).alloc (Nat.le_refl _) _)
  have HW : Hid (WAt p k w S) := h
  have HG : Hid (Glob p w) := G
  have hpw := h.lt
  clear h G
  go_enter Tryz.func18, Tryz.ntmps18
  unfold opCells at HA ⊢
  go_wp2_with fail
  refine (text_any p k S x _ HA hk x0 x1).mono ?_
  rintro e w0 ⟨t, rfl, ht, m, hw0⟩
  have hb0 : Below w.heap.size w w0 := by rw [hw0]; exact below_draws ((Below.refl _ _).alloc (Nat.le_refl _) _) m
  have hr0 : ∀ j u, (opCells 24 x y z a b c s)[j]? = some u → w0.cell? ⟨w.heap.size, j, none⟩ = some u := by
    intro j u hu
    rw [hw0]
    have := range_new w (opCells 24 x y z a b c s) 28 j u hu
    rw [Nat.zero_add] at this
    exact this
  have hz0 : w.heap.size < w0.heap.size := by rw [hw0]; show w.heap.size < (w.alloc _).heap.size; simp
  clear hw0 HA
  have i2 : w0.cell? ⟨w.heap.size, 2, none⟩ = some (.int .i64 y) := hr0 2 _ rfl
  go_wp2_with fail
  refine (text_any p k S y w0 (HW.out.below hb0) hk y0 y1).mono ?_
  rintro e w1 ⟨t', rfl, ht', m', hw1⟩
  have hb01 : Below w0.heap.size w0 w1 := by rw [hw1]; exact below_draws (Below.refl _ _) m'
  have hb1 : Below w.heap.size w w1 := hb0.trans (hb01.mono hb0.size)
  have hz1 : w.heap.size < w1.heap.size := Nat.lt_of_lt_of_le hz0 hb01.size
  have hr1 : ∀ j u, (opCells 24 x y z a b c s)[j]? = some u → w1.cell? ⟨w.heap.size, j, none⟩ = some u := fun j u hu => (hb01.cell (p := ⟨w.heap.size, j, none⟩) hz0).trans (hr0 j u hu)
  have W1 : WAt p k w1 S := HW.out.below hb1
  have G1 : Glob p w1 := HG.out.below (hb1.mono (Nat.le_of_lt hpw))
  clear hw1 hb01 hb0 hr0 hz0 i2
  have i0 : w1.cell? ⟨w.heap.size, 0, none⟩ = some (.int .i64 24) := hr1 0 _ rfl
  have i4 : w1.cell? ⟨w.heap.size, 4, none⟩ = some (.int .i64 a) := hr1 4 _ rfl
  have i5 : w1.cell? ⟨w.heap.size, 5, none⟩ = some (.int .i64 b) := hr1 5 _ rfl
  clear hr1
  have hp1 := W1.lt
  have c1 : w1.cell? ⟨p, 1, none⟩ = some S.lv := W1.cell 1
  have hpv := fun W (hb : Below w1.heap.size w1 W) all => proved_any p S.lv S.L a all W (G1.below (hb.mono (Nat.le_of_lt hp1))) (Nat.lt_of_lt_of_le hp1 hb.size) (W1.below hb).leaf (Nat.le_trans W1.nL hk) W1.sL
  have HNL : Hid (S.L.length ≤ k) := W1.nL
  have HW1 : Hid (WAt p k w1 S) := W1
  obtain ⟨lo, lc, el⟩ := row_form W1.list
  rw [el] at c1 hpv
  clear el W1 G1
  have HPV : Hid (∀ W, Below w1.heap.size w1 W → ∀ all, Calls Tryz.prog 34 #[.slice lo S.L.length lc, .int .i64 a, .bool all] W (provPost W S.L)) := hpv
  clear hpv
  obtain ⟨NL, hNL⟩ : ∃ NL, NL = S.L.length := ⟨_, rfl⟩
  rw [← hNL] at c1 HPV
  clear hNL
  have fin : ∀ W, Below w1.heap.size w1 W → ∀ w2 (F : List ByteArray) (ao : Option Addr) (cap M : Nat), M = F.length → w2.ownsRow W.heap.size 9 1 (.slice ao M cap) M (F.map .string) → F.length ≤ S.L.length → (∀ b ∈ F, b.size ≤ 20000) → Below W.heap.size W w2 → Calls Tryz.prog 35 #[.pointer (some ⟨p, 0, none⟩), .slice ao M cap] w2 (ownPost p k Ts w2) := fun W hW w2 F ao cap M h1 h2 h3 h4 h5 =>
    own_any p k S A B Ts ao M cap F W w2 (HW1.out.below hW) ((HH.out.below hb1).below hW) h5 h2 h1 (by have := HNL.out; omega) (by omega) h4 (by omega)
  have FIN : Hid (∀ W, Below w1.heap.size w1 W → ∀ w2 (F : List ByteArray) (ao : Option Addr) (cap M : Nat), M = F.length → w2.ownsRow W.heap.size 9 1 (.slice ao M cap) M (F.map .string) → F.length ≤ S.L.length → (∀ b ∈ F, b.size ≤ 20000) → Below W.heap.size W w2 → Calls Tryz.prog 35 #[.pointer (some ⟨p, 0, none⟩), .slice ao M cap] w2 (ownPost p k Ts w2)) := fin
  have HJ : Hid (∀ W, Below w1.heap.size w1 W → W.cell? ⟨p, 1, none⟩ = some (.slice lo NL lc) ∧ W.cell? ⟨w.heap.size, 4, none⟩ = some (.int .i64 a) ∧ W.cell? ⟨w.heap.size, 5, none⟩ = some (.int .i64 b) ∧ Below w1.heap.size w1 W) := fun W hb =>
    ⟨(hb.cell (p := ⟨p, 1, none⟩) hp1).trans c1, (hb.cell (p := ⟨w.heap.size, 4, none⟩) hz1).trans i4, (hb.cell (p := ⟨w.heap.size, 5, none⟩) hz1).trans i5, hb⟩
  clear fin
  by_cases hbz : b = 0
  · subst hbz
    go_wp2_with fail
    have J0 := HJ.out w1.drew (Below.refl _ _).drew
    refine wp_region_noPanic ?_
    refine wp_region_held_drew (S := fun W => W.cell? ⟨p, 1, none⟩ = some (.slice lo NL lc) ∧ W.cell? ⟨w.heap.size, 4, none⟩ = some (.int .i64 a) ∧ W.cell? ⟨w.heap.size, 5, none⟩ = some (.int .i64 0) ∧ Below w1.heap.size w1 W) (by kernel_rfl) J0 (fun _ => ?_)
    refine wpAnyH_take (i := 0) (v := ?_) rfl (by kernel_rfl) (by kernel_rfl) (by kernel_rfl) (fun _ _ _ h => h) (Or.inl ⟨by rfl, ?_⟩) J0 ?_
    rotate_left 1
    · intro W hSW; obtain ⟨e1, e2, e3, _⟩ := hSW; go_simp; try with_reducible rfl
    simp only [List.getElem_toArray, List.getElem_cons_zero, List.getElem_cons_succ, Act.put, List.setIfInBounds_toArray, List.set_cons_zero, List.set_cons_succ]
    refine wpAnyH_take (i := 1) (v := ?_) rfl (by kernel_rfl) (by kernel_rfl) (by kernel_rfl) (fun _ _ _ h => h) (Or.inl ⟨by rfl, ?_⟩) J0 ?_
    rotate_left 1
    · intro W hSW; obtain ⟨e1, e2, e3, _⟩ := hSW; go_simp; try with_reducible rfl
    simp only [List.getElem_toArray, List.getElem_cons_zero, List.getElem_cons_succ, Act.put, List.setIfInBounds_toArray, List.set_cons_zero, List.set_cons_succ]
    refine wpAnyH_take (i := 2) (v := ?_) rfl (by kernel_rfl) (by kernel_rfl) (by kernel_rfl) (fun _ _ _ h => h) (Or.inl ⟨by rfl, ?_⟩) J0 ?_
    rotate_left 1
    · intro W hSW; obtain ⟨e1, e2, e3, _⟩ := hSW; go_simp; try with_reducible rfl
    simp only [List.getElem_toArray, List.getElem_cons_zero, List.getElem_cons_succ, Act.put, List.setIfInBounds_toArray, List.set_cons_zero, List.set_cons_succ]
    refine wpAnyH_take (i := 3) (v := ?_) rfl (by kernel_rfl) (by kernel_rfl) (by kernel_rfl) (fun _ _ _ h => h) (Or.inl ⟨by rfl, ?_⟩) J0 ?_
    rotate_left 1
    · intro W hSW; obtain ⟨e1, e2, e3, _⟩ := hSW; go_simp; try with_reducible rfl
    simp only [List.getElem_toArray, List.getElem_cons_zero, List.getElem_cons_succ, Act.put, List.setIfInBounds_toArray, List.set_cons_zero, List.set_cons_succ]
    refine wpAnyH_take (i := 4) (v := ?_) rfl (by kernel_rfl) (by kernel_rfl) (by kernel_rfl) (fun _ _ _ h => h) (Or.inl ⟨by rfl, ?_⟩) J0 ?_
    rotate_left 1
    · intro W hSW; obtain ⟨e1, e2, e3, _⟩ := hSW; go_simp; try with_reducible rfl
    simp only [List.getElem_toArray, List.getElem_cons_zero, List.getElem_cons_succ, Act.put, List.setIfInBounds_toArray, List.set_cons_zero, List.set_cons_succ]
    refine wpAnyH_take (i := 5) (v := ?_) rfl (by kernel_rfl) (by kernel_rfl) (by kernel_rfl) (fun _ _ _ h => h) (Or.inl ⟨by rfl, ?_⟩) J0 ?_
    rotate_left 1
    · intro W hSW; obtain ⟨e1, e2, e3, _⟩ := hSW; go_simp; try with_reducible rfl
    simp only [List.getElem_toArray, List.getElem_cons_zero, List.getElem_cons_succ, Act.put, List.setIfInBounds_toArray, List.set_cons_zero, List.set_cons_succ]
    refine wpAnyH_take (i := 6) (v := ?_) rfl (by kernel_rfl) (by kernel_rfl) (by kernel_rfl) (fun _ _ _ h => h) (Or.inl ⟨by rfl, ?_⟩) J0 ?_
    rotate_left 1
    · intro W hSW; obtain ⟨e1, e2, e3, _⟩ := hSW; go_simp; try with_reducible rfl
    simp only [List.getElem_toArray, List.getElem_cons_zero, List.getElem_cons_succ, Act.put, List.setIfInBounds_toArray, List.set_cons_zero, List.set_cons_succ]
    refine wpAnyH_take (i := 7) (v := ?_) rfl (by kernel_rfl) (by kernel_rfl) (by kernel_rfl) (fun _ _ _ h => h) (Or.inl ⟨by rfl, ?_⟩) J0 ?_
    rotate_left 1
    · intro W hSW; obtain ⟨e1, e2, e3, _⟩ := hSW; go_simp; try with_reducible rfl
    simp only [List.getElem_toArray, List.getElem_cons_zero, List.getElem_cons_succ, Act.put, List.setIfInBounds_toArray, List.set_cons_zero, List.set_cons_succ]
    refine wpAnyH_take (i := 8) (v := ?_) rfl (by kernel_rfl) (by kernel_rfl) (by kernel_rfl) (fun _ _ _ h => h) (Or.inl ⟨by rfl, ?_⟩) J0 ?_
    rotate_left 1
    · intro W hSW; obtain ⟨e1, e2, e3, _⟩ := hSW; go_simp; try with_reducible rfl
    simp only [List.getElem_toArray, List.getElem_cons_zero, List.getElem_cons_succ, Act.put, List.setIfInBounds_toArray, List.set_cons_zero, List.set_cons_succ]
    refine wpAnyH_ready (rs := [9]) (by kernel_rfl) (by simp) ?_
    refine AllReadyH.cons rfl (fun K hK => ?_) AllReadyH.nil
    rw [if_pos (by rfl)]
    go_simp
    refine (HPV.out _ J0.2.2.2 false).mono ?_
    rintro e w2 ⟨F, ao, cap, M, rfl, h1, h2, h3, h4, h5⟩
    have B2 : Below w1.heap.size w1 w2 := J0.2.2.2.trans (h5.mono J0.2.2.2.size)
    have J1 := HJ.out w2 B2
    have how := FIN.out _ J0.2.2.2 w2 F ao cap M h1 h2 h3 h4 h5
    have HOW : Hid (Calls Tryz.prog 35 #[.pointer (some ⟨p, 0, none⟩), .slice ao M cap] w2 (ownPost p k Ts w2)) := how
    have HB2 : Hid (Below p w w2) := (hb1.trans (B2.mono hb1.size)).mono (Nat.le_of_lt hpw)
    clear how h1 h2 h3 h4 h5 B2
    refine hK.out _ _ J1 (fun _ => ?_)
    clear hK K
    try simp only [List.getElem_toArray, List.getElem_cons_zero, List.getElem_cons_succ, Act.put, List.setIfInBounds_toArray, List.set_cons_zero, List.set_cons_succ]
    refine wpAnyH_take (i := 10) (v := ?_) rfl (by kernel_rfl) (by kernel_rfl) (by kernel_rfl) (fun _ _ _ h => h) (Or.inl ⟨by rfl, ?_⟩) J1 ?_
    rotate_left 1
    · intro W hSW; obtain ⟨e1, e2, e3, _⟩ := hSW; go_simp; try with_reducible rfl
    simp only [List.getElem_toArray, List.getElem_cons_zero, List.getElem_cons_succ, Act.put, List.setIfInBounds_toArray, List.set_cons_zero, List.set_cons_succ]
    refine wpAnyH_take (i := 11) (v := ?_) rfl (by kernel_rfl) (by kernel_rfl) (by kernel_rfl) (fun _ _ _ h => h) (Or.inl ⟨by rfl, ?_⟩) J1 ?_
    rotate_left 1
    · intro W hSW; obtain ⟨e1, e2, e3, _⟩ := hSW; go_simp; try with_reducible rfl
    simp only [List.getElem_toArray, List.getElem_cons_zero, List.getElem_cons_succ, Act.put, List.setIfInBounds_toArray, List.set_cons_zero, List.set_cons_succ]
    refine wpAnyH_take (i := 12) (v := ?_) rfl (by kernel_rfl) (by kernel_rfl) (by kernel_rfl) (fun _ _ _ h => h) (Or.inl ⟨by rfl, ?_⟩) J1 ?_
    rotate_left 1
    · intro W hSW; obtain ⟨e1, e2, e3, _⟩ := hSW; go_simp; try with_reducible rfl
    simp only [List.getElem_toArray, List.getElem_cons_zero, List.getElem_cons_succ, Act.put, List.setIfInBounds_toArray, List.set_cons_zero, List.set_cons_succ]
    refine wpAnyH_ready (rs := [13]) (by kernel_rfl) (by simp) ?_
    refine AllReadyH.cons rfl (fun K hK => ?_) AllReadyH.nil
    rw [if_pos (by rfl)]
    go_simp
    refine hK.out _ _ J1 (fun _ => ?_)
    clear hK K
    try simp only [List.getElem_toArray, List.getElem_cons_zero, List.getElem_cons_succ, Act.put, List.setIfInBounds_toArray, List.set_cons_zero, List.set_cons_succ]
    refine wpAnyH_ready (rs := [14]) (by kernel_rfl) (by simp) ?_
    refine AllReadyH.cons rfl (fun K hK => ?_) AllReadyH.nil
    rw [if_pos (by rfl)]
    go_simp
    refine hK.out _ _ J1 (fun _ => ?_)
    clear hK K
    refine ⟨by kernel_rfl, ?_⟩
    refine NoPanic.normal ?_
    try simp only [List.getElem_toArray, List.getElem_cons_zero, List.getElem_cons_succ, Act.put, List.setIfInBounds_toArray, List.set_cons_zero, List.set_cons_succ]
    go_wp2_with fail
    refine HOW.out.mono ?_
    rintro e w3 ⟨rfl, S', A', B', Ts', W3, H3, hT, hb3⟩
    have HE : Hid (stepPost p k Ts w (.returned (.bool true)) w3) := ⟨rfl, S', A', B', Ts', W3, H3, by omega, HB2.out.trans hb3⟩
    clear W3 H3 hb3 hT
    go_wp2_with fail
    go_ret
    exact HE.out
  · have bb : (b != 0) = true := by simp [hbz]
    have bb2 : (b == 0) = false := by simp [hbz]
    go_wp2_with fail
    have J0 := HJ.out w1.drew (Below.refl _ _).drew
    refine wp_region_noPanic ?_
    refine wp_region_held_drew (S := fun W => W.cell? ⟨p, 1, none⟩ = some (.slice lo NL lc) ∧ W.cell? ⟨w.heap.size, 4, none⟩ = some (.int .i64 a) ∧ W.cell? ⟨w.heap.size, 5, none⟩ = some (.int .i64 b) ∧ Below w1.heap.size w1 W) (by kernel_rfl) J0 (fun _ => ?_)
    refine wpAnyH_take (i := 0) (v := ?_) rfl (by kernel_rfl) (by kernel_rfl) (by kernel_rfl) (fun _ _ _ h => h) (Or.inl ⟨by rfl, ?_⟩) J0 ?_
    rotate_left 1
    · intro W hSW; obtain ⟨e1, e2, e3, _⟩ := hSW; go_simp; try with_reducible rfl
    simp only [List.getElem_toArray, List.getElem_cons_zero, List.getElem_cons_succ, Act.put, List.setIfInBounds_toArray, List.set_cons_zero, List.set_cons_succ]
    refine wpAnyH_take (i := 1) (v := ?_) rfl (by kernel_rfl) (by kernel_rfl) (by kernel_rfl) (fun _ _ _ h => h) (Or.inl ⟨by rfl, ?_⟩) J0 ?_
    rotate_left 1
    · intro W hSW; obtain ⟨e1, e2, e3, _⟩ := hSW; go_simp; try with_reducible rfl
    simp only [List.getElem_toArray, List.getElem_cons_zero, List.getElem_cons_succ, Act.put, List.setIfInBounds_toArray, List.set_cons_zero, List.set_cons_succ]
    refine wpAnyH_take (i := 2) (v := ?_) rfl (by kernel_rfl) (by kernel_rfl) (by kernel_rfl) (fun _ _ _ h => h) (Or.inl ⟨by rfl, ?_⟩) J0 ?_
    rotate_left 1
    · intro W hSW; obtain ⟨e1, e2, e3, _⟩ := hSW; go_simp; try with_reducible rfl
    simp only [List.getElem_toArray, List.getElem_cons_zero, List.getElem_cons_succ, Act.put, List.setIfInBounds_toArray, List.set_cons_zero, List.set_cons_succ]
    refine wpAnyH_take (i := 3) (v := ?_) rfl (by kernel_rfl) (by kernel_rfl) (by kernel_rfl) (fun _ _ _ h => h) (Or.inl ⟨by rfl, ?_⟩) J0 ?_
    rotate_left 1
    · intro W hSW; obtain ⟨e1, e2, e3, _⟩ := hSW; go_simp; try with_reducible rfl
    simp only [List.getElem_toArray, List.getElem_cons_zero, List.getElem_cons_succ, Act.put, List.setIfInBounds_toArray, List.set_cons_zero, List.set_cons_succ]
    refine wpAnyH_take (i := 4) (v := ?_) rfl (by kernel_rfl) (by kernel_rfl) (by kernel_rfl) (fun _ _ _ h => h) (Or.inl ⟨by rfl, ?_⟩) J0 ?_
    rotate_left 1
    · intro W hSW; obtain ⟨e1, e2, e3, _⟩ := hSW; go_simp; try with_reducible rfl
    simp only [List.getElem_toArray, List.getElem_cons_zero, List.getElem_cons_succ, Act.put, List.setIfInBounds_toArray, List.set_cons_zero, List.set_cons_succ]
    refine wpAnyH_take (i := 5) (v := ?_) rfl (by kernel_rfl) (by kernel_rfl) (by kernel_rfl) (fun _ _ _ h => h) (Or.inl ⟨by rfl, ?_⟩) J0 ?_
    rotate_left 1
    · intro W hSW; obtain ⟨e1, e2, e3, _⟩ := hSW; go_simp; try with_reducible rfl
    simp only [List.getElem_toArray, List.getElem_cons_zero, List.getElem_cons_succ, Act.put, List.setIfInBounds_toArray, List.set_cons_zero, List.set_cons_succ]
    refine wpAnyH_take (i := 6) (v := ?_) rfl (by kernel_rfl) (by kernel_rfl) (by kernel_rfl) (fun _ _ _ h => h) (Or.inl ⟨by rfl, ?_⟩) J0 ?_
    rotate_left 1
    · intro W hSW; obtain ⟨e1, e2, e3, _⟩ := hSW; go_simp; try with_reducible rfl
    simp only [List.getElem_toArray, List.getElem_cons_zero, List.getElem_cons_succ, Act.put, List.setIfInBounds_toArray, List.set_cons_zero, List.set_cons_succ]
    refine wpAnyH_take (i := 7) (v := ?_) rfl (by kernel_rfl) (by kernel_rfl) (by kernel_rfl) (fun _ _ _ h => h) (Or.inl ⟨by rfl, ?_⟩) J0 ?_
    rotate_left 1
    · intro W hSW; obtain ⟨e1, e2, e3, _⟩ := hSW; go_simp; try with_reducible rfl
    simp only [List.getElem_toArray, List.getElem_cons_zero, List.getElem_cons_succ, Act.put, List.setIfInBounds_toArray, List.set_cons_zero, List.set_cons_succ]
    refine wpAnyH_take (i := 8) (v := ?_) rfl (by kernel_rfl) (by kernel_rfl) (by kernel_rfl) (fun _ _ _ h => h) (Or.inl ⟨by rfl, ?_⟩) J0 ?_
    rotate_left 1
    · intro W hSW; obtain ⟨e1, e2, e3, _⟩ := hSW; go_simp; try with_reducible rfl
    simp only [List.getElem_toArray, List.getElem_cons_zero, List.getElem_cons_succ, Act.put, List.setIfInBounds_toArray, List.set_cons_zero, List.set_cons_succ]
    refine wpAnyH_ready (rs := [9]) (by kernel_rfl) (by simp) ?_
    refine AllReadyH.cons rfl (fun K hK => ?_) AllReadyH.nil
    rw [if_pos (by rfl)]
    go_simp
    refine (HPV.out _ J0.2.2.2 true).mono ?_
    rintro e w2 ⟨F, ao, cap, M, rfl, h1, h2, h3, h4, h5⟩
    have B2 : Below w1.heap.size w1 w2 := J0.2.2.2.trans (h5.mono J0.2.2.2.size)
    have J1 := HJ.out w2 B2
    have how := FIN.out _ J0.2.2.2 w2 F ao cap M h1 h2 h3 h4 h5
    have HOW : Hid (Calls Tryz.prog 35 #[.pointer (some ⟨p, 0, none⟩), .slice ao M cap] w2 (ownPost p k Ts w2)) := how
    have HB2 : Hid (Below p w w2) := (hb1.trans (B2.mono hb1.size)).mono (Nat.le_of_lt hpw)
    clear how h1 h2 h3 h4 h5 B2
    refine hK.out _ _ J1 (fun _ => ?_)
    clear hK K
    try simp only [List.getElem_toArray, List.getElem_cons_zero, List.getElem_cons_succ, Act.put, List.setIfInBounds_toArray, List.set_cons_zero, List.set_cons_succ]
    refine wpAnyH_take (i := 10) (v := ?_) rfl (by kernel_rfl) (by kernel_rfl) (by kernel_rfl) (fun _ _ _ h => h) (Or.inl ⟨by rfl, ?_⟩) J1 ?_
    rotate_left 1
    · intro W hSW; obtain ⟨e1, e2, e3, _⟩ := hSW; go_simp; try with_reducible rfl
    simp only [List.getElem_toArray, List.getElem_cons_zero, List.getElem_cons_succ, Act.put, List.setIfInBounds_toArray, List.set_cons_zero, List.set_cons_succ]
    refine wpAnyH_take (i := 11) (v := ?_) rfl (by kernel_rfl) (by kernel_rfl) (by kernel_rfl) (fun _ _ _ h => h) (Or.inl ⟨by rfl, ?_⟩) J1 ?_
    rotate_left 1
    · intro W hSW; obtain ⟨e1, e2, e3, _⟩ := hSW; go_simp; try with_reducible rfl
    simp only [List.getElem_toArray, List.getElem_cons_zero, List.getElem_cons_succ, Act.put, List.setIfInBounds_toArray, List.set_cons_zero, List.set_cons_succ]
    refine wpAnyH_take (i := 12) (v := ?_) rfl (by kernel_rfl) (by kernel_rfl) (by kernel_rfl) (fun _ _ _ h => h) (Or.inl ⟨by rfl, ?_⟩) J1 ?_
    rotate_left 1
    · intro W hSW; obtain ⟨e1, e2, e3, _⟩ := hSW; go_simp; try with_reducible rfl
    simp only [List.getElem_toArray, List.getElem_cons_zero, List.getElem_cons_succ, Act.put, List.setIfInBounds_toArray, List.set_cons_zero, List.set_cons_succ]
    refine wpAnyH_ready (rs := [13]) (by kernel_rfl) (by simp) ?_
    refine AllReadyH.cons rfl (fun K hK => ?_) AllReadyH.nil
    rw [if_pos (by rfl)]
    go_simp
    refine hK.out _ _ J1 (fun _ => ?_)
    clear hK K
    try simp only [List.getElem_toArray, List.getElem_cons_zero, List.getElem_cons_succ, Act.put, List.setIfInBounds_toArray, List.set_cons_zero, List.set_cons_succ]
    refine wpAnyH_ready (rs := [14]) (by kernel_rfl) (by simp) ?_
    refine AllReadyH.cons rfl (fun K hK => ?_) AllReadyH.nil
    rw [if_pos (by rfl)]
    go_simp
    refine hK.out _ _ J1 (fun _ => ?_)
    clear hK K
    refine ⟨by kernel_rfl, ?_⟩
    refine NoPanic.normal ?_
    try simp only [List.getElem_toArray, List.getElem_cons_zero, List.getElem_cons_succ, Act.put, List.setIfInBounds_toArray, List.set_cons_zero, List.set_cons_succ]
    go_wp2_with fail
    refine HOW.out.mono ?_
    rintro e w3 ⟨rfl, S', A', B', Ts', W3, H3, hT, hb3⟩
    have HE : Hid (stepPost p k Ts w (.returned (.bool true)) w3) := ⟨rfl, S', A', B', Ts', W3, H3, by omega, HB2.out.trans hb3⟩
    clear W3 H3 hb3 hT
    go_wp2_with fail
    go_ret
    exact HE.out


/-- Which kinds does Trees play? -/
def treesKind (kd : Int) : Prop := kd < 11 ∨ kd = 14 ∨ kd = 20 ∨ kd = 21 ∨ kd = 23 ∨ kd = 24
theorem tree_trees (p k : Nat) (S : WS) (A B : List Value) (Ts : List (List ByteArray)) (kd x y z a b c : Int) (s : ByteArray) (w : World) (h : WAt p k w S) (H : HAt p w S A B Ts) (G : Glob p w) (hk : k ≤ 800000) (hn : Ts.length ≤ 800000) (OB : OpOk x y z a b c) (hs : s.size ≤ 1000000) (hkd : kd < 1 ∨ kd = 20 ∨ kd = 21 ∨ kd = 23 ∨ kd = 24) :
    Calls Tryz.prog 18 #[.pointer (some ⟨p, 0, none⟩), .agg (opCells kd x y z a b c s).toArray] w (stepPost p k Ts w) := by
  have far : ∀ {kd : Int}, (Calls Tryz.prog 18 #[.pointer (some ⟨p, 0, none⟩), .agg (opCells kd x y z a b c s).toArray] w fun e w' => e = .returned (.bool true) ∧ ∃ S', WAt p (k + 1) w' S' ∧ Far p S S' w w') → Calls Tryz.prog 18 #[.pointer (some ⟨p, 0, none⟩), .agg (opCells kd x y z a b c s).toArray] w (stepPost p k Ts w) := fun hc =>
    hc.mono fun e w' ⟨h1, S', W', F'⟩ => ⟨h1, S', A, B, Ts, W', H.far (k := 0) F', by omega, F'.below h⟩
  rcases hkd with hkd | rfl | rfl | rfl | rfl
  · exact far (tree_none p k S kd x y z a b c s w h G (by omega) OB hs (by omega))
  · exact far (tree_sum p k S x y z a b c s w h G (by omega) OB hs)
  · exact far (tree_encode p k S x y z a b c s w h G (by omega) OB hs)
  · exact far (tree_root p k S x y z a b c s w h G (by omega) OB hs)
  · exact tree_prove p k S A B Ts x y z a b c s w h G hk H hn OB hs

set_option maxRecDepth 10000 in
set_option maxHeartbeats 1000000 in
theorem step_trees (p k : Nat) (S : WS) (A B : List Value) (Ts : List (List ByteArray)) (kd x y z a b c : Int) (s : ByteArray) (w : World) (h : WAt p k w S) (H : HAt p w S A B Ts) (G : Glob p w) (hk : k ≤ 500000) (hn : Ts.length ≤ 500000) (OB : OpOk x y z a b c) (hs : s.size ≤ 1000000) (hkd : treesKind kd) :
    Calls Tryz.prog 16 #[.pointer (some ⟨p, 0, none⟩), .agg (opCells kd x y z a b c s).toArray] w (stepPost p k Ts w) := by
  have hpw := h.lt
  have hr0 := range_new w (opCells kd x y z a b c s) 28
  have hb0 : Below w.heap.size w (w.alloc (.cells (opCells kd x y z a b c s).toArray 28)) := (Below.refl _ _).alloc (Nat.le_refl _) _
  have W0 : WAt p k (w.alloc (.cells (opCells kd x y z a b c s).toArray 28)) S := h.below hb0
  have HK : Hid (treesKind kd) := hkd
  have HG : Hid (Glob p w) := G
  have HH : Hid (HAt p w S A B Ts) := H
  have HW : Hid (WAt p k w S) := h
  have i0 : (w.alloc (.cells (opCells kd x y z a b c s).toArray 28)).cell? ⟨w.heap.size, 0, none⟩ = some (.int .i64 kd) := by
    have := hr0 0 _ rfl; rwa [Nat.zero_add] at this
  clear hkd G H h
  go_enter Tryz.func16, Tryz.ntmps16
  go_wp2_with (refine wpList_load_mid rfl 28 _ rfl w.heap.size 0 rfl (opCells kd x y z a b c s) _ hr0 Tryz.underlying28 rfl (info_op _ _ _ _ _ _ _ _) ?_)
  refine (owner_any p k S kd x y z a b c s _ W0 (by omega) OB (by have := HK.out; unfold treesKind at this; omega)).mono ?_
  rintro e w1 ⟨r, rfl, hr⟩
  rcases hr with ⟨rfl, S', W1, F1⟩ | ⟨rfl, hk1, hb1⟩
  · go_wp2_with fail
    go_ret
    exact ⟨rfl, S', A, B, Ts, W1, (HH.out.below hb0).far (k := 0) F1, by omega, (hb0.mono (Nat.le_of_lt hpw)).trans (F1.below W0)⟩
  · have hkd := HK.out
    unfold treesKind at hkd
    have h30 : kd < 30 := by omega
    have hk2 : Hid (kd < 1 ∨ kd = 20 ∨ kd = 21 ∨ kd = 23 ∨ kd = 24) := by show kd < 1 ∨ kd = 20 ∨ kd = 21 ∨ kd = 23 ∨ kd = 24; omega
    clear hkd hk1
    have hsz : (w.alloc (.cells (opCells kd x y z a b c s).toArray 28)).heap.size = w.heap.size + 1 := by simp
    have hr1 : w1.rangeAt w.heap.size 0 (opCells kd x y z a b c s) := fun j u hu => (hb1.cell (p := ⟨w.heap.size, 0 + j, none⟩) (by rw [hsz]; exact Nat.lt_succ_self _)).trans (hr0 j u hu)
    have i1 : w1.cell? ⟨w.heap.size, 0, none⟩ = some (.int .i64 kd) := by
      have := hr1 0 _ rfl; rwa [Nat.zero_add] at this
    have W1 : WAt p k w1 S := W0.below hb1
    have hB1 : Below w.heap.size w w1 := hb0.trans (hb1.mono (by rw [hsz]; omega))
    have G1 : Glob p w1 := HG.out.below (hB1.mono (Nat.le_of_lt hpw))
    clear hb1 hsz i0 W0
    go_wp2_with (refine wpList_load_mid rfl 28 _ rfl w.heap.size 0 rfl (opCells kd x y z a b c s) _ hr1 Tryz.underlying28 rfl (info_op _ _ _ _ _ _ _ _) ?_)
    refine (tree_trees p k S A B Ts kd x y z a b c s w1 W1 (HH.out.below hB1) G1 (by omega) (by omega) OB hs hk2.out).mono ?_
    rintro e w2 ⟨rfl, S', A', B', Ts', W2, H2, hT2, hb2⟩
    have hB2 : Below p w w2 := (hB1.mono (Nat.le_of_lt hpw)).trans hb2
    go_wp2_with fail
    refine (looks_held p (k + 1) S' A' B' Ts' w2 W2 H2 (by omega)).mono ?_
    rintro e w3 ⟨rfl, hb3⟩
    have HE : Hid (stepPost p k Ts w (.returned (.bool true)) w3) := ⟨rfl, S', A', B', Ts', W2.below hb3, H2.below hb3, hT2, hB2.trans (hb3.mono (Nat.le_of_lt W2.lt))⟩
    clear W2 H2 hb2 hb3 hB2
    go_wp2_with fail
    go_ret
    exact HE.out
theorem h_start (p : Nat) (w : World) : HAt p w ⟨.slice none 0 0, .slice none 0 0, .slice none 0 0, .slice none 0 0, [], [], [], [], .slice none 0 0, .slice none 0 0, 0⟩ [] [] [] :=
  ⟨World.ownsRow_nil _ _ _ _, World.ownsRow_nil _ _ _ _, rfl, rfl, (fun i v t h => by simp at h), (fun i v t h => by simp at h), (fun t h => by cases h), (fun g h => by cases h), (fun g h => by cases h), (fun g h => by cases h), by decide, by decide⟩

set_option maxRecDepth 10000 in
set_option maxHeartbeats 1000000 in
theorem upto_trees (v : Value) (l : List Op8) (w : World) (h : OpsAt w v l) (hn : l.length ≤ 16384) (hok : ∀ o ∈ l, o.Ok ∧ treesKind o.k) (G : Glob w.heap.size w) :
    Calls Tryz.prog 15 #[v] w fun e w' => e = .returned (.int .i64 (-1)) ∧ Below w.heap.size w w' := by
  have HO : Hid (∀ o ∈ l, o.Ok ∧ treesKind o.k) := hok
  have HG : Hid (Glob w.heap.size w) := G
  have HL : Hid (OpsAt w v l) := h
  clear hok G
  obtain ⟨ao, n, cap, rfl, hnl⟩ : ∃ ao n cap, v = .slice ao n cap ∧ n = l.length := by
    rcases h.form with ⟨⟨ao, cap, rfl⟩, rfl⟩ | ⟨g, off, cap, rfl, _⟩
    · exact ⟨ao, 0, cap, rfl, rfl⟩
    · exact ⟨_, _, _, rfl, rfl⟩
  have HN : Hid (n = l.length) := hnl
  have hn' : n ≤ 16384 := by omega
  clear h hnl hn
  have hst := w_start w
  have hb0 : Below w.heap.size w (w.alloc (.cells zW.toArray 37)) := (Below.refl _ _).alloc (Nat.le_refl _) _
  have HST : Hid (WAt w.heap.size 0 (w.alloc (.cells zW.toArray 37)) ⟨.slice none 0 0, .slice none 0 0, .slice none 0 0, .slice none 0 0, [], [], [], [], .slice none 0 0, .slice none 0 0, 0⟩) := hst
  clear hst
  go_enter Tryz.func15, Tryz.ntmps15
  go_wp2_with fail
  go_loopw [4] (fun i wr => ∃ q : Nat, q ≤ n ∧ i = .int .i64 q ∧ Below w.heap.size w wr ∧ ∃ (S : WS) (A B : List Value) (Ts : List (List ByteArray)), WAt w.heap.size q wr S ∧ HAt w.heap.size wr S A B Ts ∧ Ts.length ≤ 2 * q) (fun i _ => n - (intOf i).toNat)
  case atStart => exact ⟨0, by omega, rfl, hb0, _, [], [], [], HST.out, h_start _ _, Nat.le_refl _⟩
  case round =>
    obtain ⟨q, hq, rfl, hB, S, A, B, Ts, W, H, hT⟩ := hrel
    by_cases hlt : q < n
    · have q1 : (q : Int) < (n : Int) := by omega
      have q0 : (0 : Int) ≤ (q : Int) := by omega
      have hql : q < l.length := by have := HN.out; omega
      obtain ⟨g, off, hao, hc⟩ : ∃ g off, ao = some ⟨g, off, none⟩ ∧ ∀ i o, l[i]? = some o → ∀ j u, o.cells[j]? = some u → w.cell? ⟨g, off + i * 8 + j, none⟩ = some u := by
        rcases HL.out.form with ⟨e, rfl⟩ | ⟨g, off, cap', e, h⟩
        · simp at hql
        · exact ⟨g, off, by injection e, h⟩
      subst hao
      obtain ⟨o, ho⟩ : ∃ o, o = l[q] := ⟨_, rfl⟩
      obtain ⟨ook, okd⟩ := HO.out o (by rw [ho]; exact List.getElem_mem hql)
      have hr : wr.rangeAt g (off + q * 8) (opCells o.k o.x o.y o.z o.a o.b o.c o.s) := fun j u hu => by
        have := hc q o (by rw [List.getElem?_eq_getElem hql, ho]) j u hu
        rw [hB.cell (World.block_lt_of_cell? w _ this)]; exact this
      clear hc ho
      go_wp2_with (first | (refine wpList_load_mid rfl 28 _ rfl g (off + q * 8) rfl (opCells o.k o.x o.y o.z o.a o.b o.c o.s) _ hr Tryz.underlying28 rfl (info_op _ _ _ _ _ _ _ _) ?_))
      refine (step_trees w.heap.size q S A B Ts o.k o.x o.y o.z o.a o.b o.c o.s wr W H (HG.out.below hB) (by omega) (by omega) ook.nums (by have := ook.size; omega) okd).mono ?_
      rintro e w2 ⟨rfl, S', A', B', Ts', W2, H2, hT2, hB2⟩
      go_wp2_with fail
      refine ⟨⟨q + 1, by omega, by go_num, hB.trans hB2, S', A', B', Ts', W2, H2, by omega⟩, ?_⟩
      simp [intOf]; omega
    · have q1 : ¬ (q : Int) < (n : Int) := by omega
      go_wp2_with fail
      go_ret
      exact ⟨rfl, hB⟩
end Go.Proofs.YtijdnpoenpjnlaaGreatDoor
set_option linter.unusedVariables false
set_option linter.unusedSimpArgs false
namespace Go.Proofs.YtijdnpoenpjnlaaGreatDoor
open Go.RowKit
set_option maxRecDepth 10000 in
set_option maxHeartbeats 1000000 in
theorem tree_checkin (p k : Nat) (S : WS) (x y z a b c : Int) (s : ByteArray) (w : World) (h : WAt p k w S) (G : Glob p w) (hk : k ≤ 1000000) (B : OpOk x y z a b c) (hs : s.size ≤ 1000000) :
    Calls Tryz.prog 18 #[.pointer (some ⟨p, 0, none⟩), .agg (opCells 25 x y z a b c s).toArray] w fun e w' => e = .returned (.bool true) ∧ ∃ S', WAt p (k + 1) w' S' ∧ Far p S S' w w' := by
  obtain ⟨x0, x1, y0, y1, z0, z1, a0, a1, b0, b1, c0, c1⟩ := B
  have HA : WAt p k (w.alloc (.cells (opCells 25 x y z a b c s).toArray 28)) S := h.below ((Below.refl _ _).alloc (Nat.le_refl _) _)
  have HW : Hid (WAt p k w S) := h
  have HG : Hid (Glob p w) := G
  have hpw := h.lt
  clear h G
  go_enter Tryz.func18, Tryz.ntmps18
  unfold opCells at HA ⊢
  go_wp2_with fail
  refine (text_any p k S x _ HA hk x0 x1).mono ?_
  rintro e w0 ⟨t, rfl, ht, m, hw0⟩
  have hb0 : Below w.heap.size w w0 := by rw [hw0]; exact below_draws ((Below.refl _ _).alloc (Nat.le_refl _) _) m
  have hr0 : ∀ j u, (opCells 25 x y z a b c s)[j]? = some u → w0.cell? ⟨w.heap.size, j, none⟩ = some u := by
    intro j u hu
    rw [hw0]
    have := range_new w (opCells 25 x y z a b c s) 28 j u hu
    rw [Nat.zero_add] at this
    exact this
  have hz0 : w.heap.size < w0.heap.size := by rw [hw0]; show w.heap.size < (w.alloc _).heap.size; simp
  clear hw0 HA
  have i2 : w0.cell? ⟨w.heap.size, 2, none⟩ = some (.int .i64 y) := hr0 2 _ rfl
  go_wp2_with fail
  refine (text_any p k S y w0 (HW.out.below hb0) hk y0 y1).mono ?_
  rintro e w1 ⟨t', rfl, ht', m', hw1⟩
  have hb01 : Below w0.heap.size w0 w1 := by rw [hw1]; exact below_draws (Below.refl _ _) m'
  have hb1 : Below w.heap.size w w1 := hb0.trans (hb01.mono hb0.size)
  have hz1 : w.heap.size < w1.heap.size := Nat.lt_of_lt_of_le hz0 hb01.size
  have hr1 : ∀ j u, (opCells 25 x y z a b c s)[j]? = some u → w1.cell? ⟨w.heap.size, j, none⟩ = some u := fun j u hu => (hb01.cell (p := ⟨w.heap.size, j, none⟩) hz0).trans (hr0 j u hu)
  have W1 : WAt p k w1 S := HW.out.below hb1
  have G1 : Glob p w1 := HG.out.below (hb1.mono (Nat.le_of_lt hpw))
  clear hw1 hb01 hb0 hr0 hz0 i2
  have i0 : w1.cell? ⟨w.heap.size, 0, none⟩ = some (.int .i64 25) := hr1 0 _ rfl
  have i4 : w1.cell? ⟨w.heap.size, 4, none⟩ = some (.int .i64 a) := hr1 4 _ rfl
  have i5 : w1.cell? ⟨w.heap.size, 5, none⟩ = some (.int .i64 b) := hr1 5 _ rfl
  clear hr1
  have hp1 := W1.lt
  have c1 : w1.cell? ⟨p, 1, none⟩ = some S.lv := W1.cell 1
  have hck := fun W (hb : Below w1.heap.size w1 W) => checkedIn_any p t t' a b S.lv S.L W (G1.below (hb.mono (Nat.le_of_lt hp1))) (Nat.lt_of_lt_of_le hp1 hb.size) (W1.below hb).leaf (Nat.le_trans W1.nL hk) W1.sL ht ht'
  obtain ⟨lo, lc, el⟩ := row_form W1.list
  rw [el] at c1 hck
  clear el W1 G1
  obtain ⟨NL, hNL⟩ : ∃ NL, NL = S.L.length := ⟨_, rfl⟩
  rw [← hNL] at c1 hck
  clear hNL
  have HCK : Hid (∀ W, Below w1.heap.size w1 W → Calls Tryz.prog 36 #[.string t, .int .i64 a, .int .i64 b, .string t', .slice lo NL lc] W fun e w' => e = .returned (.bool true) ∧ Below W.heap.size W w') := hck
  clear hck
  have HJ : Hid (∀ W, Below w1.heap.size w1 W → W.cell? ⟨p, 1, none⟩ = some (.slice lo NL lc) ∧ W.cell? ⟨w.heap.size, 4, none⟩ = some (.int .i64 a) ∧ W.cell? ⟨w.heap.size, 5, none⟩ = some (.int .i64 b) ∧ Below w1.heap.size w1 W) := fun W hb =>
    ⟨(hb.cell (p := ⟨p, 1, none⟩) hp1).trans c1, (hb.cell (p := ⟨w.heap.size, 4, none⟩) hz1).trans i4, (hb.cell (p := ⟨w.heap.size, 5, none⟩) hz1).trans i5, hb⟩
  go_wp2_with fail
  have J0 := HJ.out w1.drew (Below.refl _ _).drew
  refine wp_region_noPanic ?_
  refine wp_region_held_drew (S := fun W => W.cell? ⟨p, 1, none⟩ = some (.slice lo NL lc) ∧ W.cell? ⟨w.heap.size, 4, none⟩ = some (.int .i64 a) ∧ W.cell? ⟨w.heap.size, 5, none⟩ = some (.int .i64 b) ∧ Below w1.heap.size w1 W) (by kernel_rfl) J0 (fun _ => ?_)
  refine wpAnyH_take (i := 0) (v := ?_) rfl (by kernel_rfl) (by kernel_rfl) (by kernel_rfl) (fun _ _ _ h => h) (Or.inl ⟨by rfl, ?_⟩) J0 ?_
  rotate_left 1
  · intro W hSW; obtain ⟨e1, e2, e3, _⟩ := hSW; go_simp; try with_reducible rfl
  simp only [List.getElem_toArray, List.getElem_cons_zero, List.getElem_cons_succ, Act.put, List.setIfInBounds_toArray, List.set_cons_zero, List.set_cons_succ]
  refine wpAnyH_take (i := 1) (v := ?_) rfl (by kernel_rfl) (by kernel_rfl) (by kernel_rfl) (fun _ _ _ h => h) (Or.inl ⟨by rfl, ?_⟩) J0 ?_
  rotate_left 1
  · intro W hSW; obtain ⟨e1, e2, e3, _⟩ := hSW; go_simp; try with_reducible rfl
  simp only [List.getElem_toArray, List.getElem_cons_zero, List.getElem_cons_succ, Act.put, List.setIfInBounds_toArray, List.set_cons_zero, List.set_cons_succ]
  refine wpAnyH_take (i := 2) (v := ?_) rfl (by kernel_rfl) (by kernel_rfl) (by kernel_rfl) (fun _ _ _ h => h) (Or.inl ⟨by rfl, ?_⟩) J0 ?_
  rotate_left 1
  · intro W hSW; obtain ⟨e1, e2, e3, _⟩ := hSW; go_simp; try with_reducible rfl
  simp only [List.getElem_toArray, List.getElem_cons_zero, List.getElem_cons_succ, Act.put, List.setIfInBounds_toArray, List.set_cons_zero, List.set_cons_succ]
  refine wpAnyH_take (i := 3) (v := ?_) rfl (by kernel_rfl) (by kernel_rfl) (by kernel_rfl) (fun _ _ _ h => h) (Or.inl ⟨by rfl, ?_⟩) J0 ?_
  rotate_left 1
  · intro W hSW; obtain ⟨e1, e2, e3, _⟩ := hSW; go_simp; try with_reducible rfl
  simp only [List.getElem_toArray, List.getElem_cons_zero, List.getElem_cons_succ, Act.put, List.setIfInBounds_toArray, List.set_cons_zero, List.set_cons_succ]
  refine wpAnyH_take (i := 4) (v := ?_) rfl (by kernel_rfl) (by kernel_rfl) (by kernel_rfl) (fun _ _ _ h => h) (Or.inl ⟨by rfl, ?_⟩) J0 ?_
  rotate_left 1
  · intro W hSW; obtain ⟨e1, e2, e3, _⟩ := hSW; go_simp; try with_reducible rfl
  simp only [List.getElem_toArray, List.getElem_cons_zero, List.getElem_cons_succ, Act.put, List.setIfInBounds_toArray, List.set_cons_zero, List.set_cons_succ]
  refine wpAnyH_take (i := 5) (v := ?_) rfl (by kernel_rfl) (by kernel_rfl) (by kernel_rfl) (fun _ _ _ h => h) (Or.inl ⟨by rfl, ?_⟩) J0 ?_
  rotate_left 1
  · intro W hSW; obtain ⟨e1, e2, e3, _⟩ := hSW; go_simp; try with_reducible rfl
  simp only [List.getElem_toArray, List.getElem_cons_zero, List.getElem_cons_succ, Act.put, List.setIfInBounds_toArray, List.set_cons_zero, List.set_cons_succ]
  refine wpAnyH_take (i := 6) (v := ?_) rfl (by kernel_rfl) (by kernel_rfl) (by kernel_rfl) (fun _ _ _ h => h) (Or.inl ⟨by rfl, ?_⟩) J0 ?_
  rotate_left 1
  · intro W hSW; obtain ⟨e1, e2, e3, _⟩ := hSW; go_simp; try with_reducible rfl
  simp only [List.getElem_toArray, List.getElem_cons_zero, List.getElem_cons_succ, Act.put, List.setIfInBounds_toArray, List.set_cons_zero, List.set_cons_succ]
  refine wpAnyH_take (i := 7) (v := ?_) rfl (by kernel_rfl) (by kernel_rfl) (by kernel_rfl) (fun _ _ _ h => h) (Or.inl ⟨by rfl, ?_⟩) J0 ?_
  rotate_left 1
  · intro W hSW; obtain ⟨e1, e2, e3, _⟩ := hSW; go_simp; try with_reducible rfl
  simp only [List.getElem_toArray, List.getElem_cons_zero, List.getElem_cons_succ, Act.put, List.setIfInBounds_toArray, List.set_cons_zero, List.set_cons_succ]
  refine wpAnyH_take (i := 8) (v := ?_) rfl (by kernel_rfl) (by kernel_rfl) (by kernel_rfl) (fun _ _ _ h => h) (Or.inl ⟨by rfl, ?_⟩) J0 ?_
  rotate_left 1
  · intro W hSW; obtain ⟨e1, e2, e3, _⟩ := hSW; go_simp; try with_reducible rfl
  simp only [List.getElem_toArray, List.getElem_cons_zero, List.getElem_cons_succ, Act.put, List.setIfInBounds_toArray, List.set_cons_zero, List.set_cons_succ]
  refine wpAnyH_take (i := 9) (v := ?_) rfl (by kernel_rfl) (by kernel_rfl) (by kernel_rfl) (fun _ _ _ h => h) (Or.inl ⟨by rfl, ?_⟩) J0 ?_
  rotate_left 1
  · intro W hSW; obtain ⟨e1, e2, e3, _⟩ := hSW; go_simp; try with_reducible rfl
  simp only [List.getElem_toArray, List.getElem_cons_zero, List.getElem_cons_succ, Act.put, List.setIfInBounds_toArray, List.set_cons_zero, List.set_cons_succ]
  refine wpAnyH_ready (rs := [10]) (by kernel_rfl) (by simp) ?_
  refine AllReadyH.cons rfl (fun K hK => ?_) AllReadyH.nil
  rw [if_pos (by rfl)]
  go_simp
  refine (HCK.out _ J0.2.2.2).mono ?_
  rintro e w2 ⟨rfl, hb2⟩
  have B2 : Below w1.heap.size w1 w2 := J0.2.2.2.trans (hb2.mono J0.2.2.2.size)
  have J1 := HJ.out w2 B2
  refine hK.out _ _ J1 (fun _ => ?_)
  clear hK K
  try simp only [List.getElem_toArray, List.getElem_cons_zero, List.getElem_cons_succ, Act.put, List.setIfInBounds_toArray, List.set_cons_zero, List.set_cons_succ]
  refine wpAnyH_ready (rs := [11]) (by kernel_rfl) (by simp) ?_
  refine AllReadyH.cons rfl (fun K hK => ?_) AllReadyH.nil
  rw [if_pos (by rfl)]
  go_simp
  refine hK.out _ _ J1 (fun _ => ?_)
  clear hK K
  refine ⟨by kernel_rfl, ?_⟩
  refine NoPanic.normal ?_
  try simp only [List.getElem_toArray, List.getElem_cons_zero, List.getElem_cons_succ, Act.put, List.setIfInBounds_toArray, List.set_cons_zero, List.set_cons_succ]
  go_wp2_with fail
  go_ret
  have hB2 : Below w.heap.size w w2 := hb1.trans (B2.mono hb1.size)
  exact ⟨rfl, S, (HW.out.below hB2).mono (by omega), Far.of_below S hB2⟩

set_option maxRecDepth 10000 in
set_option maxHeartbeats 1000000 in
theorem tree_checkall (p k : Nat) (S : WS) (x y z a b c : Int) (s : ByteArray) (w : World) (h : WAt p k w S) (G : Glob p w) (hk : k ≤ 1000000) (B : OpOk x y z a b c) (hs : s.size ≤ 1000000) :
    Calls Tryz.prog 18 #[.pointer (some ⟨p, 0, none⟩), .agg (opCells 26 x y z a b c s).toArray] w fun e w' => e = .returned (.bool true) ∧ ∃ S', WAt p (k + 1) w' S' ∧ Far p S S' w w' := by
  obtain ⟨x0, x1, y0, y1, z0, z1, a0, a1, b0, b1, c0, c1⟩ := B
  have HA : WAt p k (w.alloc (.cells (opCells 26 x y z a b c s).toArray 28)) S := h.below ((Below.refl _ _).alloc (Nat.le_refl _) _)
  have HW : Hid (WAt p k w S) := h
  have HG : Hid (Glob p w) := G
  have hpw := h.lt
  clear h G
  go_enter Tryz.func18, Tryz.ntmps18
  unfold opCells at HA ⊢
  go_wp2_with fail
  refine (text_any p k S x _ HA hk x0 x1).mono ?_
  rintro e w0 ⟨t, rfl, ht, m, hw0⟩
  have hb0 : Below w.heap.size w w0 := by rw [hw0]; exact below_draws ((Below.refl _ _).alloc (Nat.le_refl _) _) m
  have hr0 : ∀ j u, (opCells 26 x y z a b c s)[j]? = some u → w0.cell? ⟨w.heap.size, j, none⟩ = some u := by
    intro j u hu
    rw [hw0]
    have := range_new w (opCells 26 x y z a b c s) 28 j u hu
    rw [Nat.zero_add] at this
    exact this
  have hz0 : w.heap.size < w0.heap.size := by rw [hw0]; show w.heap.size < (w.alloc _).heap.size; simp
  clear hw0 HA
  have i2 : w0.cell? ⟨w.heap.size, 2, none⟩ = some (.int .i64 y) := hr0 2 _ rfl
  go_wp2_with fail
  refine (text_any p k S y w0 (HW.out.below hb0) hk y0 y1).mono ?_
  rintro e w1 ⟨t', rfl, ht', m', hw1⟩
  have hb01 : Below w0.heap.size w0 w1 := by rw [hw1]; exact below_draws (Below.refl _ _) m'
  have hb1 : Below w.heap.size w w1 := hb0.trans (hb01.mono hb0.size)
  have hz1 : w.heap.size < w1.heap.size := Nat.lt_of_lt_of_le hz0 hb01.size
  have hr1 : ∀ j u, (opCells 26 x y z a b c s)[j]? = some u → w1.cell? ⟨w.heap.size, j, none⟩ = some u := fun j u hu => (hb01.cell (p := ⟨w.heap.size, j, none⟩) hz0).trans (hr0 j u hu)
  have W1 : WAt p k w1 S := HW.out.below hb1
  have G1 : Glob p w1 := HG.out.below (hb1.mono (Nat.le_of_lt hpw))
  clear hw1 hb01 hb0 hr0 hz0 i2
  have i0 : w1.cell? ⟨w.heap.size, 0, none⟩ = some (.int .i64 26) := hr1 0 _ rfl
  have i4 : w1.cell? ⟨w.heap.size, 4, none⟩ = some (.int .i64 a) := hr1 4 _ rfl
  have i5 : w1.cell? ⟨w.heap.size, 5, none⟩ = some (.int .i64 b) := hr1 5 _ rfl
  clear hr1
  have hp1 := W1.lt
  have c1 : w1.cell? ⟨p, 1, none⟩ = some S.lv := W1.cell 1
  have hck := fun W (hb : Below w1.heap.size w1 W) => checkedAll_any p t t' a b S.lv S.L W (G1.below (hb.mono (Nat.le_of_lt hp1))) (Nat.lt_of_lt_of_le hp1 hb.size) (W1.below hb).leaf (Nat.le_trans W1.nL hk) W1.sL ht ht'
  obtain ⟨lo, lc, el⟩ := row_form W1.list
  rw [el] at c1 hck
  clear el W1 G1
  obtain ⟨NL, hNL⟩ : ∃ NL, NL = S.L.length := ⟨_, rfl⟩
  rw [← hNL] at c1 hck
  clear hNL
  have HCK : Hid (∀ W, Below w1.heap.size w1 W → Calls Tryz.prog 37 #[.int .i64 a, .int .i64 b, .string t, .string t', .slice lo NL lc] W fun e w' => e = .returned (.bool true) ∧ Below W.heap.size W w') := hck
  clear hck
  have HJ : Hid (∀ W, Below w1.heap.size w1 W → W.cell? ⟨p, 1, none⟩ = some (.slice lo NL lc) ∧ W.cell? ⟨w.heap.size, 4, none⟩ = some (.int .i64 a) ∧ W.cell? ⟨w.heap.size, 5, none⟩ = some (.int .i64 b) ∧ Below w1.heap.size w1 W) := fun W hb =>
    ⟨(hb.cell (p := ⟨p, 1, none⟩) hp1).trans c1, (hb.cell (p := ⟨w.heap.size, 4, none⟩) hz1).trans i4, (hb.cell (p := ⟨w.heap.size, 5, none⟩) hz1).trans i5, hb⟩
  go_wp2_with fail
  have J0 := HJ.out w1.drew (Below.refl _ _).drew
  refine wp_region_noPanic ?_
  refine wp_region_held_drew (S := fun W => W.cell? ⟨p, 1, none⟩ = some (.slice lo NL lc) ∧ W.cell? ⟨w.heap.size, 4, none⟩ = some (.int .i64 a) ∧ W.cell? ⟨w.heap.size, 5, none⟩ = some (.int .i64 b) ∧ Below w1.heap.size w1 W) (by kernel_rfl) J0 (fun _ => ?_)
  refine wpAnyH_take (i := 0) (v := ?_) rfl (by kernel_rfl) (by kernel_rfl) (by kernel_rfl) (fun _ _ _ h => h) (Or.inl ⟨by rfl, ?_⟩) J0 ?_
  rotate_left 1
  · intro W hSW; obtain ⟨e1, e2, e3, _⟩ := hSW; go_simp; try with_reducible rfl
  simp only [List.getElem_toArray, List.getElem_cons_zero, List.getElem_cons_succ, Act.put, List.setIfInBounds_toArray, List.set_cons_zero, List.set_cons_succ]
  refine wpAnyH_take (i := 1) (v := ?_) rfl (by kernel_rfl) (by kernel_rfl) (by kernel_rfl) (fun _ _ _ h => h) (Or.inl ⟨by rfl, ?_⟩) J0 ?_
  rotate_left 1
  · intro W hSW; obtain ⟨e1, e2, e3, _⟩ := hSW; go_simp; try with_reducible rfl
  simp only [List.getElem_toArray, List.getElem_cons_zero, List.getElem_cons_succ, Act.put, List.setIfInBounds_toArray, List.set_cons_zero, List.set_cons_succ]
  refine wpAnyH_take (i := 2) (v := ?_) rfl (by kernel_rfl) (by kernel_rfl) (by kernel_rfl) (fun _ _ _ h => h) (Or.inl ⟨by rfl, ?_⟩) J0 ?_
  rotate_left 1
  · intro W hSW; obtain ⟨e1, e2, e3, _⟩ := hSW; go_simp; try with_reducible rfl
  simp only [List.getElem_toArray, List.getElem_cons_zero, List.getElem_cons_succ, Act.put, List.setIfInBounds_toArray, List.set_cons_zero, List.set_cons_succ]
  refine wpAnyH_take (i := 3) (v := ?_) rfl (by kernel_rfl) (by kernel_rfl) (by kernel_rfl) (fun _ _ _ h => h) (Or.inl ⟨by rfl, ?_⟩) J0 ?_
  rotate_left 1
  · intro W hSW; obtain ⟨e1, e2, e3, _⟩ := hSW; go_simp; try with_reducible rfl
  simp only [List.getElem_toArray, List.getElem_cons_zero, List.getElem_cons_succ, Act.put, List.setIfInBounds_toArray, List.set_cons_zero, List.set_cons_succ]
  refine wpAnyH_take (i := 4) (v := ?_) rfl (by kernel_rfl) (by kernel_rfl) (by kernel_rfl) (fun _ _ _ h => h) (Or.inl ⟨by rfl, ?_⟩) J0 ?_
  rotate_left 1
  · intro W hSW; obtain ⟨e1, e2, e3, _⟩ := hSW; go_simp; try with_reducible rfl
  simp only [List.getElem_toArray, List.getElem_cons_zero, List.getElem_cons_succ, Act.put, List.setIfInBounds_toArray, List.set_cons_zero, List.set_cons_succ]
  refine wpAnyH_take (i := 5) (v := ?_) rfl (by kernel_rfl) (by kernel_rfl) (by kernel_rfl) (fun _ _ _ h => h) (Or.inl ⟨by rfl, ?_⟩) J0 ?_
  rotate_left 1
  · intro W hSW; obtain ⟨e1, e2, e3, _⟩ := hSW; go_simp; try with_reducible rfl
  simp only [List.getElem_toArray, List.getElem_cons_zero, List.getElem_cons_succ, Act.put, List.setIfInBounds_toArray, List.set_cons_zero, List.set_cons_succ]
  refine wpAnyH_take (i := 6) (v := ?_) rfl (by kernel_rfl) (by kernel_rfl) (by kernel_rfl) (fun _ _ _ h => h) (Or.inl ⟨by rfl, ?_⟩) J0 ?_
  rotate_left 1
  · intro W hSW; obtain ⟨e1, e2, e3, _⟩ := hSW; go_simp; try with_reducible rfl
  simp only [List.getElem_toArray, List.getElem_cons_zero, List.getElem_cons_succ, Act.put, List.setIfInBounds_toArray, List.set_cons_zero, List.set_cons_succ]
  refine wpAnyH_take (i := 7) (v := ?_) rfl (by kernel_rfl) (by kernel_rfl) (by kernel_rfl) (fun _ _ _ h => h) (Or.inl ⟨by rfl, ?_⟩) J0 ?_
  rotate_left 1
  · intro W hSW; obtain ⟨e1, e2, e3, _⟩ := hSW; go_simp; try with_reducible rfl
  simp only [List.getElem_toArray, List.getElem_cons_zero, List.getElem_cons_succ, Act.put, List.setIfInBounds_toArray, List.set_cons_zero, List.set_cons_succ]
  refine wpAnyH_take (i := 8) (v := ?_) rfl (by kernel_rfl) (by kernel_rfl) (by kernel_rfl) (fun _ _ _ h => h) (Or.inl ⟨by rfl, ?_⟩) J0 ?_
  rotate_left 1
  · intro W hSW; obtain ⟨e1, e2, e3, _⟩ := hSW; go_simp; try with_reducible rfl
  simp only [List.getElem_toArray, List.getElem_cons_zero, List.getElem_cons_succ, Act.put, List.setIfInBounds_toArray, List.set_cons_zero, List.set_cons_succ]
  refine wpAnyH_take (i := 9) (v := ?_) rfl (by kernel_rfl) (by kernel_rfl) (by kernel_rfl) (fun _ _ _ h => h) (Or.inl ⟨by rfl, ?_⟩) J0 ?_
  rotate_left 1
  · intro W hSW; obtain ⟨e1, e2, e3, _⟩ := hSW; go_simp; try with_reducible rfl
  simp only [List.getElem_toArray, List.getElem_cons_zero, List.getElem_cons_succ, Act.put, List.setIfInBounds_toArray, List.set_cons_zero, List.set_cons_succ]
  refine wpAnyH_ready (rs := [10]) (by kernel_rfl) (by simp) ?_
  refine AllReadyH.cons rfl (fun K hK => ?_) AllReadyH.nil
  rw [if_pos (by rfl)]
  go_simp
  refine (HCK.out _ J0.2.2.2).mono ?_
  rintro e w2 ⟨rfl, hb2⟩
  have B2 : Below w1.heap.size w1 w2 := J0.2.2.2.trans (hb2.mono J0.2.2.2.size)
  have J1 := HJ.out w2 B2
  refine hK.out _ _ J1 (fun _ => ?_)
  clear hK K
  try simp only [List.getElem_toArray, List.getElem_cons_zero, List.getElem_cons_succ, Act.put, List.setIfInBounds_toArray, List.set_cons_zero, List.set_cons_succ]
  refine wpAnyH_ready (rs := [11]) (by kernel_rfl) (by simp) ?_
  refine AllReadyH.cons rfl (fun K hK => ?_) AllReadyH.nil
  rw [if_pos (by rfl)]
  go_simp
  refine hK.out _ _ J1 (fun _ => ?_)
  clear hK K
  refine ⟨by kernel_rfl, ?_⟩
  refine NoPanic.normal ?_
  try simp only [List.getElem_toArray, List.getElem_cons_zero, List.getElem_cons_succ, Act.put, List.setIfInBounds_toArray, List.set_cons_zero, List.set_cons_succ]
  go_wp2_with fail
  go_ret
  have hB2 : Below w.heap.size w w2 := hb1.trans (B2.mono hb1.size)
  exact ⟨rfl, S, (HW.out.below hB2).mono (by omega), Far.of_below S hB2⟩

/-- Which kinds does Proofs play? -/
def proofsKind (kd : Int) : Prop := kd < 11 ∨ kd = 14 ∨ kd = 20 ∨ kd = 21 ∨ kd = 23 ∨ kd = 24 ∨ kd = 25 ∨ kd = 26
theorem tree_proofs (p k : Nat) (S : WS) (A B : List Value) (Ts : List (List ByteArray)) (kd x y z a b c : Int) (s : ByteArray) (w : World) (h : WAt p k w S) (H : HAt p w S A B Ts) (G : Glob p w) (hk : k ≤ 800000) (hn : Ts.length ≤ 800000) (OB : OpOk x y z a b c) (hs : s.size ≤ 1000000) (hkd : kd < 1 ∨ kd = 20 ∨ kd = 21 ∨ kd = 23 ∨ kd = 24 ∨ kd = 25 ∨ kd = 26) :
    Calls Tryz.prog 18 #[.pointer (some ⟨p, 0, none⟩), .agg (opCells kd x y z a b c s).toArray] w (stepPost p k Ts w) := by
  have far : ∀ {kd : Int}, (Calls Tryz.prog 18 #[.pointer (some ⟨p, 0, none⟩), .agg (opCells kd x y z a b c s).toArray] w fun e w' => e = .returned (.bool true) ∧ ∃ S', WAt p (k + 1) w' S' ∧ Far p S S' w w') → Calls Tryz.prog 18 #[.pointer (some ⟨p, 0, none⟩), .agg (opCells kd x y z a b c s).toArray] w (stepPost p k Ts w) := fun hc =>
    hc.mono fun e w' ⟨h1, S', W', F'⟩ => ⟨h1, S', A, B, Ts, W', H.far (k := 0) F', by omega, F'.below h⟩
  by_cases h0 : kd < 1 ∨ kd = 20 ∨ kd = 21 ∨ kd = 23 ∨ kd = 24
  · exact tree_trees p k S A B Ts kd x y z a b c s w h H G hk hn OB hs h0
  · obtain rfl | rfl : kd = 25 ∨ kd = 26 := by omega
    · exact far (tree_checkin p k S x y z a b c s w h G (by omega) OB hs)
    · exact far (tree_checkall p k S x y z a b c s w h G (by omega) OB hs)

set_option maxRecDepth 10000 in
set_option maxHeartbeats 1000000 in
theorem step_proofs (p k : Nat) (S : WS) (A B : List Value) (Ts : List (List ByteArray)) (kd x y z a b c : Int) (s : ByteArray) (w : World) (h : WAt p k w S) (H : HAt p w S A B Ts) (G : Glob p w) (hk : k ≤ 500000) (hn : Ts.length ≤ 500000) (OB : OpOk x y z a b c) (hs : s.size ≤ 1000000) (hkd : proofsKind kd) :
    Calls Tryz.prog 16 #[.pointer (some ⟨p, 0, none⟩), .agg (opCells kd x y z a b c s).toArray] w (stepPost p k Ts w) := by
  have hpw := h.lt
  have hr0 := range_new w (opCells kd x y z a b c s) 28
  have hb0 : Below w.heap.size w (w.alloc (.cells (opCells kd x y z a b c s).toArray 28)) := (Below.refl _ _).alloc (Nat.le_refl _) _
  have W0 : WAt p k (w.alloc (.cells (opCells kd x y z a b c s).toArray 28)) S := h.below hb0
  have HK : Hid (proofsKind kd) := hkd
  have HG : Hid (Glob p w) := G
  have HH : Hid (HAt p w S A B Ts) := H
  have HW : Hid (WAt p k w S) := h
  have i0 : (w.alloc (.cells (opCells kd x y z a b c s).toArray 28)).cell? ⟨w.heap.size, 0, none⟩ = some (.int .i64 kd) := by
    have := hr0 0 _ rfl; rwa [Nat.zero_add] at this
  clear hkd G H h
  go_enter Tryz.func16, Tryz.ntmps16
  go_wp2_with (refine wpList_load_mid rfl 28 _ rfl w.heap.size 0 rfl (opCells kd x y z a b c s) _ hr0 Tryz.underlying28 rfl (info_op _ _ _ _ _ _ _ _) ?_)
  refine (owner_any p k S kd x y z a b c s _ W0 (by omega) OB (by have := HK.out; unfold proofsKind at this; omega)).mono ?_
  rintro e w1 ⟨r, rfl, hr⟩
  rcases hr with ⟨rfl, S', W1, F1⟩ | ⟨rfl, hk1, hb1⟩
  · go_wp2_with fail
    go_ret
    exact ⟨rfl, S', A, B, Ts, W1, (HH.out.below hb0).far (k := 0) F1, by omega, (hb0.mono (Nat.le_of_lt hpw)).trans (F1.below W0)⟩
  · have hkd := HK.out
    unfold proofsKind at hkd
    have h30 : kd < 30 := by omega
    have hk2 : Hid (kd < 1 ∨ kd = 20 ∨ kd = 21 ∨ kd = 23 ∨ kd = 24 ∨ kd = 25 ∨ kd = 26) := by show kd < 1 ∨ kd = 20 ∨ kd = 21 ∨ kd = 23 ∨ kd = 24 ∨ kd = 25 ∨ kd = 26; omega
    clear hkd hk1
    have hsz : (w.alloc (.cells (opCells kd x y z a b c s).toArray 28)).heap.size = w.heap.size + 1 := by simp
    have hr1 : w1.rangeAt w.heap.size 0 (opCells kd x y z a b c s) := fun j u hu => (hb1.cell (p := ⟨w.heap.size, 0 + j, none⟩) (by rw [hsz]; exact Nat.lt_succ_self _)).trans (hr0 j u hu)
    have i1 : w1.cell? ⟨w.heap.size, 0, none⟩ = some (.int .i64 kd) := by
      have := hr1 0 _ rfl; rwa [Nat.zero_add] at this
    have W1 : WAt p k w1 S := W0.below hb1
    have hB1 : Below w.heap.size w w1 := hb0.trans (hb1.mono (by rw [hsz]; omega))
    have G1 : Glob p w1 := HG.out.below (hB1.mono (Nat.le_of_lt hpw))
    clear hb1 hsz i0 W0
    go_wp2_with (refine wpList_load_mid rfl 28 _ rfl w.heap.size 0 rfl (opCells kd x y z a b c s) _ hr1 Tryz.underlying28 rfl (info_op _ _ _ _ _ _ _ _) ?_)
    refine (tree_proofs p k S A B Ts kd x y z a b c s w1 W1 (HH.out.below hB1) G1 (by omega) (by omega) OB hs hk2.out).mono ?_
    rintro e w2 ⟨rfl, S', A', B', Ts', W2, H2, hT2, hb2⟩
    have hB2 : Below p w w2 := (hB1.mono (Nat.le_of_lt hpw)).trans hb2
    go_wp2_with fail
    refine (looks_held p (k + 1) S' A' B' Ts' w2 W2 H2 (by omega)).mono ?_
    rintro e w3 ⟨rfl, hb3⟩
    have HE : Hid (stepPost p k Ts w (.returned (.bool true)) w3) := ⟨rfl, S', A', B', Ts', W2.below hb3, H2.below hb3, hT2, hB2.trans (hb3.mono (Nat.le_of_lt W2.lt))⟩
    clear W2 H2 hb2 hb3 hB2
    go_wp2_with fail
    go_ret
    exact HE.out
set_option maxRecDepth 10000 in
set_option maxHeartbeats 1000000 in
theorem upto_proofs (v : Value) (l : List Op8) (w : World) (h : OpsAt w v l) (hn : l.length ≤ 16384) (hok : ∀ o ∈ l, o.Ok ∧ proofsKind o.k) (G : Glob w.heap.size w) :
    Calls Tryz.prog 15 #[v] w fun e w' => e = .returned (.int .i64 (-1)) ∧ Below w.heap.size w w' := by
  have HO : Hid (∀ o ∈ l, o.Ok ∧ proofsKind o.k) := hok
  have HG : Hid (Glob w.heap.size w) := G
  have HL : Hid (OpsAt w v l) := h
  clear hok G
  obtain ⟨ao, n, cap, rfl, hnl⟩ : ∃ ao n cap, v = .slice ao n cap ∧ n = l.length := by
    rcases h.form with ⟨⟨ao, cap, rfl⟩, rfl⟩ | ⟨g, off, cap, rfl, _⟩
    · exact ⟨ao, 0, cap, rfl, rfl⟩
    · exact ⟨_, _, _, rfl, rfl⟩
  have HN : Hid (n = l.length) := hnl
  have hn' : n ≤ 16384 := by omega
  clear h hnl hn
  have hst := w_start w
  have hb0 : Below w.heap.size w (w.alloc (.cells zW.toArray 37)) := (Below.refl _ _).alloc (Nat.le_refl _) _
  have HST : Hid (WAt w.heap.size 0 (w.alloc (.cells zW.toArray 37)) ⟨.slice none 0 0, .slice none 0 0, .slice none 0 0, .slice none 0 0, [], [], [], [], .slice none 0 0, .slice none 0 0, 0⟩) := hst
  clear hst
  go_enter Tryz.func15, Tryz.ntmps15
  go_wp2_with fail
  go_loopw [4] (fun i wr => ∃ q : Nat, q ≤ n ∧ i = .int .i64 q ∧ Below w.heap.size w wr ∧ ∃ (S : WS) (A B : List Value) (Ts : List (List ByteArray)), WAt w.heap.size q wr S ∧ HAt w.heap.size wr S A B Ts ∧ Ts.length ≤ 2 * q) (fun i _ => n - (intOf i).toNat)
  case atStart => exact ⟨0, by omega, rfl, hb0, _, [], [], [], HST.out, h_start _ _, Nat.le_refl _⟩
  case round =>
    obtain ⟨q, hq, rfl, hB, S, A, B, Ts, W, H, hT⟩ := hrel
    by_cases hlt : q < n
    · have q1 : (q : Int) < (n : Int) := by omega
      have q0 : (0 : Int) ≤ (q : Int) := by omega
      have hql : q < l.length := by have := HN.out; omega
      obtain ⟨g, off, hao, hc⟩ : ∃ g off, ao = some ⟨g, off, none⟩ ∧ ∀ i o, l[i]? = some o → ∀ j u, o.cells[j]? = some u → w.cell? ⟨g, off + i * 8 + j, none⟩ = some u := by
        rcases HL.out.form with ⟨e, rfl⟩ | ⟨g, off, cap', e, h⟩
        · simp at hql
        · exact ⟨g, off, by injection e, h⟩
      subst hao
      obtain ⟨o, ho⟩ : ∃ o, o = l[q] := ⟨_, rfl⟩
      obtain ⟨ook, okd⟩ := HO.out o (by rw [ho]; exact List.getElem_mem hql)
      have hr : wr.rangeAt g (off + q * 8) (opCells o.k o.x o.y o.z o.a o.b o.c o.s) := fun j u hu => by
        have := hc q o (by rw [List.getElem?_eq_getElem hql, ho]) j u hu
        rw [hB.cell (World.block_lt_of_cell? w _ this)]; exact this
      clear hc ho
      go_wp2_with (first | (refine wpList_load_mid rfl 28 _ rfl g (off + q * 8) rfl (opCells o.k o.x o.y o.z o.a o.b o.c o.s) _ hr Tryz.underlying28 rfl (info_op _ _ _ _ _ _ _ _) ?_))
      refine (step_proofs w.heap.size q S A B Ts o.k o.x o.y o.z o.a o.b o.c o.s wr W H (HG.out.below hB) (by omega) (by omega) ook.nums (by have := ook.size; omega) okd).mono ?_
      rintro e w2 ⟨rfl, S', A', B', Ts', W2, H2, hT2, hB2⟩
      go_wp2_with fail
      refine ⟨⟨q + 1, by omega, by go_num, hB.trans hB2, S', A', B', Ts', W2, H2, by omega⟩, ?_⟩
      simp [intOf]; omega
    · have q1 : ¬ (q : Int) < (n : Int) := by omega
      go_wp2_with fail
      go_ret
      exact ⟨rfl, hB⟩
end Go.Proofs.YtijdnpoenpjnlaaGreatDoor
set_option linter.unusedVariables false
set_option linter.unusedSimpArgs false
namespace Go.Proofs.YtijdnpoenpjnlaaGreatDoor
open Go.RowKit

set_option maxRecDepth 10000 in
set_option maxHeartbeats 400000 in
theorem proofs_any (v : Value) (l : List Op8) (w : World) (h : OpsAt w v l) (hn : l.length ≤ 140737488355328) (hs : ∀ o ∈ l, o.s.size ≤ 140737488355328)
    (hok : ∀ o ∈ l, OpOk o.x o.y o.z o.a o.b o.c ∧ -9223372036854775808 ≤ o.k ∧ o.k ≤ 9223372036854775807) (G : Glob w.heap.size w) :
    Calls Tryz.prog 5 #[v] w fun e w' => e = .returned (.bool true) ∧ Below w.heap.size w w' := by
  have hb0 : Below w.heap.size w (w.alloc (.cells #[.int .i64 20, .int .i64 21, .int .i64 23, .int .i64 24, .int .i64 25, .int .i64 26] 3)) := (Below.refl _ _).alloc (Nat.le_refl _) _
  have hkc : ∀ j (hj : j < [(20 : Int), 21, 23, 24, 25, 26].length), (w.alloc (.cells #[.int .i64 20, .int .i64 21, .int .i64 23, .int .i64 24, .int .i64 25, .int .i64 26] 3)).cell? ⟨w.heap.size, j, none⟩ = some (.int .i64 ([(20 : Int), 21, 23, 24, 25, 26][j]'hj)) := by
    intro j hj
    have hj3 : j < 6 := hj
    have := range_new w [.int .i64 20, .int .i64 21, .int .i64 23, .int .i64 24, .int .i64 25, .int .i64 26] 3 j (.int .i64 ([(20 : Int), 21, 23, 24, 25, 26][j]'hj)) (by
      obtain rfl | rfl | rfl | rfl | rfl | rfl : j = 0 ∨ j = 1 ∨ j = 2 ∨ j = 3 ∨ j = 4 ∨ j = 5 := by omega
      all_goals rfl)
    rw [Nat.zero_add] at this
    exact this
  have hpl := plays_any v l _ [20, 21, 23, 24, 25, 26] w.heap.size 6 proofsKind (h.below hb0) hn hs hok (by simp) hkc (fun kd hk => by simp at hk; unfold proofsKind; omega) (fun v' L w' hO hL hok' hB => upto_proofs v' L w' hO hL hok' (by
    have hs' := hB.size
    simp at hs'
    have G0 : Glob w.heap.size w' := (G.below hb0).below (hB.mono (by simp))
    exact ⟨by have := G0.le; omega, G0.rounds, G0.err⟩))
  rw [show [(20 : Int), 21, 23, 24, 25, 26].length = 6 from rfl] at hpl
  obtain ⟨ao, n, cap, rfl, hx, hy⟩ := ops_form h
  clear hx hy
  clear hkc
  go_enter Tryz.func5, Tryz.ntmps5
  go_wp2_with fail
  refine hpl.mono ?_
  rintro e w1 ⟨rfl, hb1⟩
  go_wp2_with fail
  go_ret
  exact ⟨rfl, hb0.trans (hb1.mono (by simp))⟩
end Go.Proofs.YtijdnpoenpjnlaaGreatDoor
