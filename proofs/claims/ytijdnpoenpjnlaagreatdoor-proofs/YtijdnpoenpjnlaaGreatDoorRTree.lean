import Derived.Test.YtijdnpoenpjnlaaGreatDoorROwner6
import Derived.Test.YtijdnpoenpjnlaaGreatDoorRDecoded
import Derived.Test.YtijdnpoenpjnlaaGreatDoorRSum
set_option linter.unusedVariables false
set_option linter.unusedSimpArgs false
namespace Go.Proofs.YtijdnpoenpjnlaaGreatDoor
open Go.RowKit

/-- The package variables that the program reads, below block p. -/
structure Glob (p : Nat) (w : World) : Prop where
  le : 2 ≤ p
  rounds : ∀ j, j < 64 → w.cell? ⟨0, j, none⟩ = some (.int .u32 (roundsK.getD j 0))
  err : w.cell? ⟨1, 0, none⟩ = some errTypeV
theorem Glob.below {p : Nat} {w w' : World} (h : Glob p w) (hb : Below p w w') : Glob p w' :=
  ⟨h.le, fun j hj => (hb.cell (p := ⟨0, j, none⟩) (by have := h.le; show 0 < p; omega)).trans (h.rounds j hj), (hb.cell (p := ⟨1, 0, none⟩) (by have := h.le; show 1 < p; omega)).trans h.err⟩

set_option maxRecDepth 10000 in
set_option maxHeartbeats 1000000 in
theorem tree_sum (p k : Nat) (S : WS) (x y z a b c : Int) (s : ByteArray) (w : World) (h : WAt p k w S) (G : Glob p w) (hk : k ≤ 1000000) (B : OpOk x y z a b c) (hs : s.size ≤ 1000000) :
    Calls Tryz.prog 18 #[.pointer (some ⟨p, 0, none⟩), .agg (opCells 20 x y z a b c s).toArray] w fun e w' => e = .returned (.bool true) ∧ ∃ S', WAt p (k + 1) w' S' ∧ Far p S S' w w' := by
  obtain ⟨x0, x1, y0, y1, z0, z1, a0, a1, b0, b1, c0, c1⟩ := B
  have HA : WAt p k (w.alloc (.cells (opCells 20 x y z a b c s).toArray 28)) S := h.below ((Below.refl _ _).alloc (Nat.le_refl _) _)
  have HW : Hid (WAt p k w S) := h
  have HG : Hid (Glob p w) := G
  have hpw := h.lt
  clear h G
  go_enter Tryz.func18, Tryz.ntmps18
  unfold opCells at HA ⊢
  go_wp2_with fail
  refine (text_any p k S x _ HA hk x0 x1).mono ?_
  rintro e w0 ⟨t, rfl, ht, m, hw0⟩
  have hb0 : Below w.heap.size w w0 := by rw [hw0]; exact below_draws ((Below.refl _ _).alloc (Nat.le_refl _) _) m
  have hr0 : ∀ j u, (opCells 20 x y z a b c s)[j]? = some u → w0.cell? ⟨w.heap.size, j, none⟩ = some u := by
    intro j u hu
    rw [hw0]
    have := range_new w (opCells 20 x y z a b c s) 28 j u hu
    rw [Nat.zero_add] at this
    exact this
  have hz0 : w.heap.size < w0.heap.size := by rw [hw0]; show w.heap.size < (w.alloc _).heap.size; simp
  clear hw0 HA
  have i2 : w0.cell? ⟨w.heap.size, 2, none⟩ = some (.int .i64 y) := hr0 2 _ rfl
  go_wp2_with fail
  refine (text_any p k S y w0 (HW.out.below hb0) hk y0 y1).mono ?_
  rintro e w1 ⟨t', rfl, ht', m', hw1⟩
  have hb01 : Below w0.heap.size w0 w1 := by rw [hw1]; exact below_draws (Below.refl _ _) m'
  have hb1 : Below w.heap.size w w1 := hb0.trans (hb01.mono hb0.size)
  have hz1 : w.heap.size < w1.heap.size := Nat.lt_of_lt_of_le hz0 hb01.size
  have hr1 : ∀ j u, (opCells 20 x y z a b c s)[j]? = some u → w1.cell? ⟨w.heap.size, j, none⟩ = some u := fun j u hu => (hb01.cell (p := ⟨w.heap.size, j, none⟩) hz0).trans (hr0 j u hu)
  have W1 : WAt p k w1 S := HW.out.below hb1
  have G1 : Glob p w1 := HG.out.below (hb1.mono (Nat.le_of_lt hpw))
  clear hw1 hb01 hb0 hr0 hz0 i2
  have i0 : w1.cell? ⟨w.heap.size, 0, none⟩ = some (.int .i64 20) := hr1 0 _ rfl
  clear hr1
  go_wp2_with fail
  have hp1 := W1.lt
  obtain ⟨u, hu⟩ : ∃ u, u = sumOf (fun j => roundsK.getD j 0) t := ⟨_, rfl⟩
  have hsum := sum_any t (fun j => roundsK.getD j 0) w1 (by omega) (by have := G1.le; omega) G1.rounds
  have href := fun w2 => refsum_any t w2 (by omega)
  rw [← hu] at hsum
  simp only [← hu] at href
  clear hu
  refine hsum.mono ?_
  rintro e w2 ⟨rfl, hb2⟩
  clear hsum
  go_wp2_with fail
  refine (href w2).mono ?_
  rintro e w3 ⟨rfl, hb3⟩
  have hb3' : Below w.heap.size w w3 := hb1.trans ((hb2.mono hb1.size).trans (hb3.mono (by have := hb1.size; have := hb2.size; omega)))
  have W3 : WAt p k w3 S := HW.out.below hb3'
  go_wp2_with fail
  refine (add_any p k S u w3 W3 hk).mono ?_
  rintro e w4 ⟨rfl, S', W4, F4⟩
  go_wp2_with fail
  go_ret
  exact ⟨by simp, S', W4, (Far.of_below S hb3').trans F4⟩

set_option maxRecDepth 10000 in
set_option maxHeartbeats 1000000 in
theorem tree_encode (p k : Nat) (S : WS) (x y z a b c : Int) (s : ByteArray) (w : World) (h : WAt p k w S) (G : Glob p w) (hk : k ≤ 1000000) (B : OpOk x y z a b c) (hs : s.size ≤ 1000000) :
    Calls Tryz.prog 18 #[.pointer (some ⟨p, 0, none⟩), .agg (opCells 21 x y z a b c s).toArray] w fun e w' => e = .returned (.bool true) ∧ ∃ S', WAt p (k + 1) w' S' ∧ Far p S S' w w' := by
  obtain ⟨x0, x1, y0, y1, z0, z1, a0, a1, b0, b1, c0, c1⟩ := B
  have HA : WAt p k (w.alloc (.cells (opCells 21 x y z a b c s).toArray 28)) S := h.below ((Below.refl _ _).alloc (Nat.le_refl _) _)
  have HW : Hid (WAt p k w S) := h
  have HG : Hid (Glob p w) := G
  have hpw := h.lt
  clear h G
  go_enter Tryz.func18, Tryz.ntmps18
  unfold opCells at HA ⊢
  go_wp2_with fail
  refine (text_any p k S x _ HA hk x0 x1).mono ?_
  rintro e w0 ⟨t, rfl, ht, m, hw0⟩
  have hb0 : Below w.heap.size w w0 := by rw [hw0]; exact below_draws ((Below.refl _ _).alloc (Nat.le_refl _) _) m
  have hr0 : ∀ j u, (opCells 21 x y z a b c s)[j]? = some u → w0.cell? ⟨w.heap.size, j, none⟩ = some u := by
    intro j u hu
    rw [hw0]
    have := range_new w (opCells 21 x y z a b c s) 28 j u hu
    rw [Nat.zero_add] at this
    exact this
  have hz0 : w.heap.size < w0.heap.size := by rw [hw0]; show w.heap.size < (w.alloc _).heap.size; simp
  clear hw0 HA
  have i2 : w0.cell? ⟨w.heap.size, 2, none⟩ = some (.int .i64 y) := hr0 2 _ rfl
  go_wp2_with fail
  refine (text_any p k S y w0 (HW.out.below hb0) hk y0 y1).mono ?_
  rintro e w1 ⟨t', rfl, ht', m', hw1⟩
  have hb01 : Below w0.heap.size w0 w1 := by rw [hw1]; exact below_draws (Below.refl _ _) m'
  have hb1 : Below w.heap.size w w1 := hb0.trans (hb01.mono hb0.size)
  have hz1 : w.heap.size < w1.heap.size := Nat.lt_of_lt_of_le hz0 hb01.size
  have hr1 : ∀ j u, (opCells 21 x y z a b c s)[j]? = some u → w1.cell? ⟨w.heap.size, j, none⟩ = some u := fun j u hu => (hb01.cell (p := ⟨w.heap.size, j, none⟩) hz0).trans (hr0 j u hu)
  have W1 : WAt p k w1 S := HW.out.below hb1
  have G1 : Glob p w1 := HG.out.below (hb1.mono (Nat.le_of_lt hpw))
  clear hw1 hb01 hb0 hr0 hz0 i2
  have i0 : w1.cell? ⟨w.heap.size, 0, none⟩ = some (.int .i64 21) := hr1 0 _ rfl
  have i1 : w1.cell? ⟨w.heap.size, 1, none⟩ = some (.int .i64 x) := hr1 1 _ rfl
  have i2 : w1.cell? ⟨w.heap.size, 2, none⟩ = some (.int .i64 y) := hr1 2 _ rfl
  have i3 : w1.cell? ⟨w.heap.size, 3, none⟩ = some (.int .i64 z) := hr1 3 _ rfl
  have i4 : w1.cell? ⟨w.heap.size, 4, none⟩ = some (.int .i64 a) := hr1 4 _ rfl
  have i5 : w1.cell? ⟨w.heap.size, 5, none⟩ = some (.int .i64 b) := hr1 5 _ rfl
  have i6 : w1.cell? ⟨w.heap.size, 6, none⟩ = some (.int .i64 c) := hr1 6 _ rfl
  have i7 : w1.cell? ⟨w.heap.size, 7, none⟩ = some (.string s) := hr1 7 _ rfl
  go_wp2_with fail
  refine (refsum_any s w1 (by omega)).mono ?_
  rintro e w2 ⟨rfl, hb2⟩
  have hsz := sumOf_size (fun j => roundsK.getD j 0) s
  generalize sumOf (fun j => roundsK.getD j 0) s = u at *
  have hc2 : ∀ j v, w1.cell? ⟨w.heap.size, j, none⟩ = some v → w2.cell? ⟨w.heap.size, j, none⟩ = some v := fun j v hv => (hb2.cell (p := ⟨w.heap.size, j, none⟩) hz1).trans hv
  replace i1 := hc2 _ _ i1
  replace i2 := hc2 _ _ i2
  replace i3 := hc2 _ _ i3
  replace i4 := hc2 _ _ i4
  replace i5 := hc2 _ _ i5
  replace i6 := hc2 _ _ i6
  have hb2' : Below w.heap.size w w2 := hb1.trans (hb2.mono hb1.size)
  have G2 : Glob p w2 := HG.out.below (hb2'.mono (Nat.le_of_lt hpw))
  have hp2 : p < w2.heap.size := Nat.lt_of_lt_of_le hpw hb2'.size
  clear hc2 hr1 i7 i0
  go_wp2_with fail
  have henc : ∀ o v q : Int, Calls Tryz.prog 31 #[.agg (refEv a b o c v q u).toArray] w2 fun e w' => (∃ r, e = .returned (.tuple #[.string r, .bool true])) ∧ Below w2.heap.size w2 w' := fun o v q => by
    cases hw : wholeB a b o c v q
    · exact (encoded_no a b o c v q u w2 hsz hw G2.err (by have := G2.le; show 1 < _; omega)).mono fun e w' ⟨h1, h2⟩ => ⟨⟨_, h1⟩, h2⟩
    · exact (encoded_yes a b o c v q u w2 hsz hw).mono fun e w' ⟨h1, h2⟩ => ⟨⟨_, h1⟩, h2⟩
  refine (henc _ _ _).mono ?_
  rintro e w3 ⟨⟨r, rfl⟩, hb3⟩
  have hb3' : Below w.heap.size w w3 := hb2'.trans (hb3.mono hb2'.size)
  have W3 : WAt p k w3 S := HW.out.below hb3'
  go_wp2_with fail
  refine (add_any p k S r w3 W3 hk).mono ?_
  rintro e w4 ⟨rfl, S', W4, F4⟩
  go_wp2_with fail
  go_ret
  exact ⟨rfl, S', W4, (Far.of_below S hb3').trans F4⟩

set_option maxRecDepth 10000 in
set_option maxHeartbeats 1000000 in
theorem tree_decode (p k : Nat) (S : WS) (x y z a b c : Int) (s : ByteArray) (w : World) (h : WAt p k w S) (G : Glob p w) (hk : k ≤ 1000000) (B : OpOk x y z a b c) (hs : s.size ≤ 1000000) :
    Calls Tryz.prog 18 #[.pointer (some ⟨p, 0, none⟩), .agg (opCells 22 x y z a b c s).toArray] w fun e w' => e = .returned (.bool true) ∧ ∃ S', WAt p (k + 1) w' S' ∧ Far p S S' w w' := by
  obtain ⟨x0, x1, y0, y1, z0, z1, a0, a1, b0, b1, c0, c1⟩ := B
  have HA : WAt p k (w.alloc (.cells (opCells 22 x y z a b c s).toArray 28)) S := h.below ((Below.refl _ _).alloc (Nat.le_refl _) _)
  have HW : Hid (WAt p k w S) := h
  have HG : Hid (Glob p w) := G
  have hpw := h.lt
  clear h G
  go_enter Tryz.func18, Tryz.ntmps18
  unfold opCells at HA ⊢
  go_wp2_with fail
  refine (text_any p k S x _ HA hk x0 x1).mono ?_
  rintro e w0 ⟨t, rfl, ht, m, hw0⟩
  have hb0 : Below w.heap.size w w0 := by rw [hw0]; exact below_draws ((Below.refl _ _).alloc (Nat.le_refl _) _) m
  have hr0 : ∀ j u, (opCells 22 x y z a b c s)[j]? = some u → w0.cell? ⟨w.heap.size, j, none⟩ = some u := by
    intro j u hu
    rw [hw0]
    have := range_new w (opCells 22 x y z a b c s) 28 j u hu
    rw [Nat.zero_add] at this
    exact this
  have hz0 : w.heap.size < w0.heap.size := by rw [hw0]; show w.heap.size < (w.alloc _).heap.size; simp
  clear hw0 HA
  have i2 : w0.cell? ⟨w.heap.size, 2, none⟩ = some (.int .i64 y) := hr0 2 _ rfl
  go_wp2_with fail
  refine (text_any p k S y w0 (HW.out.below hb0) hk y0 y1).mono ?_
  rintro e w1 ⟨t', rfl, ht', m', hw1⟩
  have hb01 : Below w0.heap.size w0 w1 := by rw [hw1]; exact below_draws (Below.refl _ _) m'
  have hb1 : Below w.heap.size w w1 := hb0.trans (hb01.mono hb0.size)
  have hz1 : w.heap.size < w1.heap.size := Nat.lt_of_lt_of_le hz0 hb01.size
  have hr1 : ∀ j u, (opCells 22 x y z a b c s)[j]? = some u → w1.cell? ⟨w.heap.size, j, none⟩ = some u := fun j u hu => (hb01.cell (p := ⟨w.heap.size, j, none⟩) hz0).trans (hr0 j u hu)
  have W1 : WAt p k w1 S := HW.out.below hb1
  have G1 : Glob p w1 := HG.out.below (hb1.mono (Nat.le_of_lt hpw))
  clear hw1 hb01 hb0 hr0 hz0 i2
  have i0 : w1.cell? ⟨w.heap.size, 0, none⟩ = some (.int .i64 22) := hr1 0 _ rfl
  clear hr1
  go_wp2_with fail
  have hp1 := W1.lt
  refine (decoded_any t w1 G1.err (by have := G1.le; show 1 < _; omega)).mono ?_
  rintro e w2 ⟨rfl, hb2⟩
  have hb2' : Below w.heap.size w w2 := hb1.trans (hb2.mono hb1.size)
  go_wp2_with fail
  go_ret
  exact ⟨rfl, S, (HW.out.below hb2').mono (by omega), Far.of_below S hb2'⟩

set_option maxRecDepth 10000 in
set_option maxHeartbeats 1000000 in
theorem tree_none (p k : Nat) (S : WS) (kd : Int) (x y z a b c : Int) (s : ByteArray) (w : World) (h : WAt p k w S) (G : Glob p w) (hk : k ≤ 1000000) (B : OpOk x y z a b c) (hs : s.size ≤ 1000000) (hkd : kd < 20 ∨ 26 < kd) :
    Calls Tryz.prog 18 #[.pointer (some ⟨p, 0, none⟩), .agg (opCells kd x y z a b c s).toArray] w fun e w' => e = .returned (.bool true) ∧ ∃ S', WAt p (k + 1) w' S' ∧ Far p S S' w w' := by
  obtain ⟨x0, x1, y0, y1, z0, z1, a0, a1, b0, b1, c0, c1⟩ := B
  have HA : WAt p k (w.alloc (.cells (opCells kd x y z a b c s).toArray 28)) S := h.below ((Below.refl _ _).alloc (Nat.le_refl _) _)
  have HW : Hid (WAt p k w S) := h
  have HG : Hid (Glob p w) := G
  have hpw := h.lt
  clear h G
  go_enter Tryz.func18, Tryz.ntmps18
  unfold opCells at HA ⊢
  go_wp2_with fail
  refine (text_any p k S x _ HA hk x0 x1).mono ?_
  rintro e w0 ⟨t, rfl, ht, m, hw0⟩
  have hb0 : Below w.heap.size w w0 := by rw [hw0]; exact below_draws ((Below.refl _ _).alloc (Nat.le_refl _) _) m
  have hr0 : ∀ j u, (opCells kd x y z a b c s)[j]? = some u → w0.cell? ⟨w.heap.size, j, none⟩ = some u := by
    intro j u hu
    rw [hw0]
    have := range_new w (opCells kd x y z a b c s) 28 j u hu
    rw [Nat.zero_add] at this
    exact this
  have hz0 : w.heap.size < w0.heap.size := by rw [hw0]; show w.heap.size < (w.alloc _).heap.size; simp
  clear hw0 HA
  have i2 : w0.cell? ⟨w.heap.size, 2, none⟩ = some (.int .i64 y) := hr0 2 _ rfl
  go_wp2_with fail
  refine (text_any p k S y w0 (HW.out.below hb0) hk y0 y1).mono ?_
  rintro e w1 ⟨t', rfl, ht', m', hw1⟩
  have hb01 : Below w0.heap.size w0 w1 := by rw [hw1]; exact below_draws (Below.refl _ _) m'
  have hb1 : Below w.heap.size w w1 := hb0.trans (hb01.mono hb0.size)
  have hz1 : w.heap.size < w1.heap.size := Nat.lt_of_lt_of_le hz0 hb01.size
  have hr1 : ∀ j u, (opCells kd x y z a b c s)[j]? = some u → w1.cell? ⟨w.heap.size, j, none⟩ = some u := fun j u hu => (hb01.cell (p := ⟨w.heap.size, j, none⟩) hz0).trans (hr0 j u hu)
  have W1 : WAt p k w1 S := HW.out.below hb1
  have G1 : Glob p w1 := HG.out.below (hb1.mono (Nat.le_of_lt hpw))
  clear hw1 hb01 hb0 hr0 hz0 i2
  have i0 : w1.cell? ⟨w.heap.size, 0, none⟩ = some (.int .i64 kd) := hr1 0 _ rfl
  have n0 : (kd == 20) = false := by rw [beq_eq_false_iff_ne]; omega
  have n1 : (kd == 21) = false := by rw [beq_eq_false_iff_ne]; omega
  have n2 : (kd == 22) = false := by rw [beq_eq_false_iff_ne]; omega
  have n3 : (kd == 23) = false := by rw [beq_eq_false_iff_ne]; omega
  have n4 : (kd == 24) = false := by rw [beq_eq_false_iff_ne]; omega
  have n5 : (kd == 25) = false := by rw [beq_eq_false_iff_ne]; omega
  have n6 : (kd == 26) = false := by rw [beq_eq_false_iff_ne]; omega
  clear hr1
  go_wp2_with fail
  go_ret
  exact ⟨rfl, S, W1.mono (by omega), Far.of_below S hb1⟩

end Go.Proofs.YtijdnpoenpjnlaaGreatDoor
