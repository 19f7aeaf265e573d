import Derived.Test.YtijdnpoenpjnlaaGreatDoorRLooks
set_option linter.unusedVariables false
set_option linter.unusedSimpArgs false
namespace Go.Proofs.YtijdnpoenpjnlaaGreatDoor
open Go.RowKit

/-- A step's numbers are numbers. -/
structure OpOk (x y z a b c : Int) : Prop where
  x0 : -9223372036854775808 ≤ x
  x1 : x ≤ 9223372036854775807
  y0 : -9223372036854775808 ≤ y
  y1 : y ≤ 9223372036854775807
  z0 : -9223372036854775808 ≤ z
  z1 : z ≤ 9223372036854775807
  a0 : -9223372036854775808 ≤ a
  a1 : a ≤ 9223372036854775807
  b0 : -9223372036854775808 ≤ b
  b1 : b ≤ 9223372036854775807
  c0 : -9223372036854775808 ≤ c
  c1 : c ≤ 9223372036854775807

set_option maxRecDepth 10000 in
set_option maxHeartbeats 1000000 in
theorem owner_text (p k : Nat) (S : WS) (x y z a b c : Int) (s : ByteArray) (w : World) (h : WAt p k w S) (hk : k ≤ 1000000) (B : OpOk x y z a b c) :
    Calls Tryz.prog 17 #[.pointer (some ⟨p, 0, none⟩), .agg (opCells 1 x y z a b c s).toArray] w fun e w' => e = .returned (.bool true) ∧ ∃ S', WAt p (k + 1) w' S' ∧ Far p S S' w w' := by
  obtain ⟨x0, x1, y0, y1, z0, z1, a0, a1, b0, b1, c0, c1⟩ := B
  have HA : WAt p k (w.alloc (.cells (opCells 1 x y z a b c s).toArray 28)) S := h.below ((Below.refl _ _).alloc (Nat.le_refl _) _)
  have HW : Hid (WAt p k w S) := h
  clear h
  go_enter Tryz.func17, Tryz.ntmps17
  unfold opCells at HA ⊢
  go_wp2_with fail
  refine (text_any p k S x _ HA hk x0 x1).mono ?_
  rintro e w1 ⟨t, rfl, ht, m, hw1⟩
  have hb1 : Below w.heap.size w w1 := by rw [hw1]; exact below_draws ((Below.refl _ _).alloc (Nat.le_refl _) _) m
  have W1 : WAt p k w1 S := HW.out.below hb1
  have hr1 : ∀ j u, (opCells 1 x y z a b c s)[j]? = some u → w1.cell? ⟨w.heap.size, j, none⟩ = some u := by
    intro j u hu
    rw [hw1]
    have := range_new w (opCells 1 x y z a b c s) 28 j u hu
    rw [Nat.zero_add] at this
    exact this
  have hz1 : w.heap.size < w1.heap.size := by rw [hw1]; show w.heap.size < (w.alloc _).heap.size; simp
  clear hw1 HA
  have i0 : w1.cell? ⟨w.heap.size, 0, none⟩ = some (.int .i64 1) := hr1 0 _ rfl
  have i7 : w1.cell? ⟨w.heap.size, 7, none⟩ = some (.string s) := hr1 7 _ rfl
  clear hr1
  go_wp2_with fail
  refine (add_any p k S s w1 W1 hk).mono ?_
  rintro e w2 ⟨rfl, S', W2, F2⟩
  go_wp2_with fail
  go_ret
  exact ⟨rfl, S', W2, (Far.of_below S hb1).trans F2⟩

set_option maxRecDepth 10000 in
set_option maxHeartbeats 1000000 in
theorem owner_join (p k : Nat) (S : WS) (x y z a b c : Int) (s : ByteArray) (w : World) (h : WAt p k w S) (hk : k ≤ 1000000) (B : OpOk x y z a b c) :
    Calls Tryz.prog 17 #[.pointer (some ⟨p, 0, none⟩), .agg (opCells 2 x y z a b c s).toArray] w fun e w' => e = .returned (.bool true) ∧ ∃ S', WAt p (k + 1) w' S' ∧ Far p S S' w w' := by
  obtain ⟨x0, x1, y0, y1, z0, z1, a0, a1, b0, b1, c0, c1⟩ := B
  have HA : WAt p k (w.alloc (.cells (opCells 2 x y z a b c s).toArray 28)) S := h.below ((Below.refl _ _).alloc (Nat.le_refl _) _)
  have HW : Hid (WAt p k w S) := h
  clear h
  go_enter Tryz.func17, Tryz.ntmps17
  unfold opCells at HA ⊢
  go_wp2_with fail
  refine (text_any p k S x _ HA hk x0 x1).mono ?_
  rintro e w1 ⟨t, rfl, ht, m, hw1⟩
  have hb1 : Below w.heap.size w w1 := by rw [hw1]; exact below_draws ((Below.refl _ _).alloc (Nat.le_refl _) _) m
  have W1 : WAt p k w1 S := HW.out.below hb1
  have hr1 : ∀ j u, (opCells 2 x y z a b c s)[j]? = some u → w1.cell? ⟨w.heap.size, j, none⟩ = some u := by
    intro j u hu
    rw [hw1]
    have := range_new w (opCells 2 x y z a b c s) 28 j u hu
    rw [Nat.zero_add] at this
    exact this
  have hz1 : w.heap.size < w1.heap.size := by rw [hw1]; show w.heap.size < (w.alloc _).heap.size; simp
  clear hw1 HA
  have i0 : w1.cell? ⟨w.heap.size, 0, none⟩ = some (.int .i64 2) := hr1 0 _ rfl
  have i2 : w1.cell? ⟨w.heap.size, 2, none⟩ = some (.int .i64 y) := hr1 2 _ rfl
  clear hr1
  go_wp2_with fail
  refine (text_any p k S y w1 W1 hk y0 y1).mono ?_
  rintro e w1' ⟨t', rfl, ht', m', hw1'⟩
  have hb1' : Below w1.heap.size w1 w1' := by rw [hw1']; exact below_draws (Below.refl _ _) m'
  have W1' : WAt p k w1' S := W1.below hb1'
  replace hb1 : Below w.heap.size w w1' := hb1.trans (hb1'.mono hb1.size)
  clear hw1' hb1' W1 i0 i2
  go_wp2_with fail
  refine (add_any p k S (t ++ t') w1' W1' hk).mono ?_
  rintro e w2 ⟨rfl, S', W2, F2⟩
  go_wp2_with fail
  go_ret
  exact ⟨rfl, S', W2, (Far.of_below S hb1).trans F2⟩

set_option maxRecDepth 10000 in
set_option maxHeartbeats 1000000 in
theorem owner_part (p k : Nat) (S : WS) (x y z a b c : Int) (s : ByteArray) (w : World) (h : WAt p k w S) (hk : k ≤ 1000000) (B : OpOk x y z a b c) :
    Calls Tryz.prog 17 #[.pointer (some ⟨p, 0, none⟩), .agg (opCells 4 x y z a b c s).toArray] w fun e w' => e = .returned (.bool true) ∧ ∃ S', WAt p (k + 1) w' S' ∧ Far p S S' w w' := by
  obtain ⟨x0, x1, y0, y1, z0, z1, a0, a1, b0, b1, c0, c1⟩ := B
  have HA : WAt p k (w.alloc (.cells (opCells 4 x y z a b c s).toArray 28)) S := h.below ((Below.refl _ _).alloc (Nat.le_refl _) _)
  have HW : Hid (WAt p k w S) := h
  clear h
  go_enter Tryz.func17, Tryz.ntmps17
  unfold opCells at HA ⊢
  go_wp2_with fail
  refine (text_any p k S x _ HA hk x0 x1).mono ?_
  rintro e w1 ⟨t, rfl, ht, m, hw1⟩
  have hb1 : Below w.heap.size w w1 := by rw [hw1]; exact below_draws ((Below.refl _ _).alloc (Nat.le_refl _) _) m
  have W1 : WAt p k w1 S := HW.out.below hb1
  have hr1 : ∀ j u, (opCells 4 x y z a b c s)[j]? = some u → w1.cell? ⟨w.heap.size, j, none⟩ = some u := by
    intro j u hu
    rw [hw1]
    have := range_new w (opCells 4 x y z a b c s) 28 j u hu
    rw [Nat.zero_add] at this
    exact this
  have hz1 : w.heap.size < w1.heap.size := by rw [hw1]; show w.heap.size < (w.alloc _).heap.size; simp
  clear hw1 HA
  have i0 : w1.cell? ⟨w.heap.size, 0, none⟩ = some (.int .i64 4) := hr1 0 _ rfl
  have i4 : w1.cell? ⟨w.heap.size, 4, none⟩ = some (.int .i64 a) := hr1 4 _ rfl
  have i5 : w1.cell? ⟨w.heap.size, 5, none⟩ = some (.int .i64 b) := hr1 5 _ rfl
  clear hr1
  obtain ⟨r, r0, r1, hr⟩ := lpick_ex a (t.size + 1 : Nat) a0 a1 (by omega) (by omega)
  obtain ⟨q, rfl⟩ : ∃ q : Nat, r = q := ⟨r.toNat, by omega⟩
  obtain ⟨r', r0', r1', hr'⟩ := lpick_ex b (t.size - q + 1 : Nat) b0 b1 (by omega) (by omega)
  obtain ⟨q', rfl⟩ : ∃ q' : Nat, r' = q' := ⟨r'.toNat, by omega⟩
  have e1 : ((t.size + 1 : Nat) : Int) = (t.size : Int) + 1 := by omega
  have e2 : ((t.size - q + 1 : Nat) : Int) = (t.size : Int) - q + 1 := by omega
  rw [e1] at hr
  rw [e2] at hr'
  have q1 : (q : Int) ≤ (t.size : Int) := by omega
  have q2 : (q : Int) + (q' : Int) ≤ (t.size : Int) := by omega
  have q3 : (q : Int) ≤ (q : Int) + (q' : Int) := by omega
  clear e1 e2 r1 r1'
  have Hr' : Hid (∀ w, Calls Tryz.prog 25 #[.int .i64 b, .int .i64 ((t.size : Int) - q + 1)] w fun e w' => e = .returned (.int .i64 q') ∧ w' = w) := hr'
  clear hr'
  go_wp2_with fail
  refine (hr _).mono ?_
  rintro e w' ⟨rfl, hw'⟩
  obtain rfl : w1 = w' := hw'.symm
  clear hw' hr
  go_wp2_with fail
  refine (Hr'.out _).mono ?_
  rintro e w' ⟨rfl, hw'⟩
  obtain rfl : w1 = w' := hw'.symm
  clear hw' Hr'
  go_wp2_with fail
  refine (add_any p k S _ w1 W1 hk).mono ?_
  rintro e w2 ⟨rfl, S', W2, F2⟩
  go_wp2_with fail
  go_ret
  exact ⟨rfl, S', W2, (Far.of_below S hb1).trans F2⟩

set_option maxRecDepth 10000 in
set_option maxHeartbeats 1000000 in
theorem owner_noitem (p k : Nat) (S : WS) (x y z a b c : Int) (s : ByteArray) (w : World) (h : WAt p k w S) (hk : k ≤ 1000000) (B : OpOk x y z a b c) :
    Calls Tryz.prog 17 #[.pointer (some ⟨p, 0, none⟩), .agg (opCells 6 x y z a b c s).toArray] w fun e w' => e = .returned (.bool true) ∧ ∃ S', WAt p (k + 1) w' S' ∧ Far p S S' w w' := by
  obtain ⟨x0, x1, y0, y1, z0, z1, a0, a1, b0, b1, c0, c1⟩ := B
  have HA : WAt p k (w.alloc (.cells (opCells 6 x y z a b c s).toArray 28)) S := h.below ((Below.refl _ _).alloc (Nat.le_refl _) _)
  have HW : Hid (WAt p k w S) := h
  clear h
  go_enter Tryz.func17, Tryz.ntmps17
  unfold opCells at HA ⊢
  go_wp2_with fail
  refine (text_any p k S x _ HA hk x0 x1).mono ?_
  rintro e w1 ⟨t, rfl, ht, m, hw1⟩
  have hb1 : Below w.heap.size w w1 := by rw [hw1]; exact below_draws ((Below.refl _ _).alloc (Nat.le_refl _) _) m
  have W1 : WAt p k w1 S := HW.out.below hb1
  have hr1 : ∀ j u, (opCells 6 x y z a b c s)[j]? = some u → w1.cell? ⟨w.heap.size, j, none⟩ = some u := by
    intro j u hu
    rw [hw1]
    have := range_new w (opCells 6 x y z a b c s) 28 j u hu
    rw [Nat.zero_add] at this
    exact this
  have hz1 : w.heap.size < w1.heap.size := by rw [hw1]; show w.heap.size < (w.alloc _).heap.size; simp
  clear hw1 HA
  have i0 : w1.cell? ⟨w.heap.size, 0, none⟩ = some (.int .i64 6) := hr1 0 _ rfl
  clear hr1
  have hc1 : w1.cell? ⟨p, 1, none⟩ = some S.lv := W1.cell 1
  have hf1 : w1.frozen? ⟨p, 1, none⟩ = false := W1.frozen 1
  go_wp2_with fail
  go_ret
  obtain ⟨W2, F2⟩ := W1.setL (v := .slice none 0 0) (L := []) (Below.refl _ w1) (World.ownsRow_nil _ _ _ _) (by simp) (by simp)
  exact ⟨rfl, _, W2, (Far.of_below S hb1).trans F2⟩

set_option maxRecDepth 10000 in
set_option maxHeartbeats 1000000 in
theorem owner_nokeep (p k : Nat) (S : WS) (x y z a b c : Int) (s : ByteArray) (w : World) (h : WAt p k w S) (hk : k ≤ 1000000) (B : OpOk x y z a b c) :
    Calls Tryz.prog 17 #[.pointer (some ⟨p, 0, none⟩), .agg (opCells 9 x y z a b c s).toArray] w fun e w' => e = .returned (.bool true) ∧ ∃ S', WAt p (k + 1) w' S' ∧ Far p S S' w w' := by
  obtain ⟨x0, x1, y0, y1, z0, z1, a0, a1, b0, b1, c0, c1⟩ := B
  have HA : WAt p k (w.alloc (.cells (opCells 9 x y z a b c s).toArray 28)) S := h.below ((Below.refl _ _).alloc (Nat.le_refl _) _)
  have HW : Hid (WAt p k w S) := h
  clear h
  go_enter Tryz.func17, Tryz.ntmps17
  unfold opCells at HA ⊢
  go_wp2_with fail
  refine (text_any p k S x _ HA hk x0 x1).mono ?_
  rintro e w1 ⟨t, rfl, ht, m, hw1⟩
  have hb1 : Below w.heap.size w w1 := by rw [hw1]; exact below_draws ((Below.refl _ _).alloc (Nat.le_refl _) _) m
  have W1 : WAt p k w1 S := HW.out.below hb1
  have hr1 : ∀ j u, (opCells 9 x y z a b c s)[j]? = some u → w1.cell? ⟨w.heap.size, j, none⟩ = some u := by
    intro j u hu
    rw [hw1]
    have := range_new w (opCells 9 x y z a b c s) 28 j u hu
    rw [Nat.zero_add] at this
    exact this
  have hz1 : w.heap.size < w1.heap.size := by rw [hw1]; show w.heap.size < (w.alloc _).heap.size; simp
  clear hw1 HA
  have i0 : w1.cell? ⟨w.heap.size, 0, none⟩ = some (.int .i64 9) := hr1 0 _ rfl
  clear hr1
  have hc1 : w1.cell? ⟨p, 2, none⟩ = some S.kv := W1.cell 2
  have hf1 : w1.frozen? ⟨p, 2, none⟩ = false := W1.frozen 2
  go_wp2_with fail
  go_ret
  obtain ⟨W2, F2⟩ := W1.setK (v := .slice none 0 0) (K := []) (w1 := w1) ⟨rfl, rfl, rfl, Nat.le_refl _, fun _ _ _ => rfl⟩ (World.ownsRow_nil _ _ _ _) (fun g e => by cases e) (by simp)
  exact ⟨rfl, _, W2, (Far.of_below S hb1).trans F2⟩

set_option maxRecDepth 10000 in
set_option maxHeartbeats 1000000 in
theorem owner_lose (p k : Nat) (S : WS) (x y z a b c : Int) (s : ByteArray) (w : World) (h : WAt p k w S) (hk : k ≤ 1000000) (B : OpOk x y z a b c) :
    Calls Tryz.prog 17 #[.pointer (some ⟨p, 0, none⟩), .agg (opCells 14 x y z a b c s).toArray] w fun e w' => e = .returned (.bool true) ∧ ∃ S', WAt p (k + 1) w' S' ∧ Far p S S' w w' := by
  obtain ⟨x0, x1, y0, y1, z0, z1, a0, a1, b0, b1, c0, c1⟩ := B
  have HA : WAt p k (w.alloc (.cells (opCells 14 x y z a b c s).toArray 28)) S := h.below ((Below.refl _ _).alloc (Nat.le_refl _) _)
  have HW : Hid (WAt p k w S) := h
  clear h
  go_enter Tryz.func17, Tryz.ntmps17
  unfold opCells at HA ⊢
  go_wp2_with fail
  refine (text_any p k S x _ HA hk x0 x1).mono ?_
  rintro e w1 ⟨t, rfl, ht, m, hw1⟩
  have hb1 : Below w.heap.size w w1 := by rw [hw1]; exact below_draws ((Below.refl _ _).alloc (Nat.le_refl _) _) m
  have W1 : WAt p k w1 S := HW.out.below hb1
  have hr1 : ∀ j u, (opCells 14 x y z a b c s)[j]? = some u → w1.cell? ⟨w.heap.size, j, none⟩ = some u := by
    intro j u hu
    rw [hw1]
    have := range_new w (opCells 14 x y z a b c s) 28 j u hu
    rw [Nat.zero_add] at this
    exact this
  have hz1 : w.heap.size < w1.heap.size := by rw [hw1]; show w.heap.size < (w.alloc _).heap.size; simp
  clear hw1 HA
  have i0 : w1.cell? ⟨w.heap.size, 0, none⟩ = some (.int .i64 14) := hr1 0 _ rfl
  clear hr1
  have hc1 : w1.cell? ⟨p, 5, none⟩ = some (.slice none 0 0) := W1.cell 5
  go_wp2_with fail
  go_ret
  exact ⟨rfl, S, W1.mono (by omega), Far.of_below S hb1⟩

set_option maxRecDepth 10000 in
set_option maxHeartbeats 1000000 in
theorem owner_none (p k : Nat) (S : WS) (kd x y z a b c : Int) (s : ByteArray) (w : World) (h : WAt p k w S) (hk : k ≤ 1000000) (B : OpOk x y z a b c) (hkd : kd < 1 ∨ 14 < kd) :
    Calls Tryz.prog 17 #[.pointer (some ⟨p, 0, none⟩), .agg (opCells kd x y z a b c s).toArray] w fun e w' => e = .returned (.bool false) ∧ Below w.heap.size w w' := by
  obtain ⟨x0, x1, y0, y1, z0, z1, a0, a1, b0, b1, c0, c1⟩ := B
  have HA : WAt p k (w.alloc (.cells (opCells kd x y z a b c s).toArray 28)) S := h.below ((Below.refl _ _).alloc (Nat.le_refl _) _)
  have HW : Hid (WAt p k w S) := h
  clear h
  go_enter Tryz.func17, Tryz.ntmps17
  unfold opCells at HA ⊢
  go_wp2_with fail
  refine (text_any p k S x _ HA hk x0 x1).mono ?_
  rintro e w1 ⟨t, rfl, ht, m, hw1⟩
  have hb1 : Below w.heap.size w w1 := by rw [hw1]; exact below_draws ((Below.refl _ _).alloc (Nat.le_refl _) _) m
  have W1 : WAt p k w1 S := HW.out.below hb1
  have hr1 : ∀ j u, (opCells kd x y z a b c s)[j]? = some u → w1.cell? ⟨w.heap.size, j, none⟩ = some u := by
    intro j u hu
    rw [hw1]
    have := range_new w (opCells kd x y z a b c s) 28 j u hu
    rw [Nat.zero_add] at this
    exact this
  have hz1 : w.heap.size < w1.heap.size := by rw [hw1]; show w.heap.size < (w.alloc _).heap.size; simp
  clear hw1 HA
  have i0 : w1.cell? ⟨w.heap.size, 0, none⟩ = some (.int .i64 kd) := hr1 0 _ rfl
  have n1 : (kd == 1) = false := by rw [beq_eq_false_iff_ne]; omega
  have n2 : (kd == 2) = false := by rw [beq_eq_false_iff_ne]; omega
  have n3 : (kd == 3) = false := by rw [beq_eq_false_iff_ne]; omega
  have n4 : (kd == 4) = false := by rw [beq_eq_false_iff_ne]; omega
  have n5 : (kd == 5) = false := by rw [beq_eq_false_iff_ne]; omega
  have n6 : (kd == 6) = false := by rw [beq_eq_false_iff_ne]; omega
  have n7 : (kd == 7) = false := by rw [beq_eq_false_iff_ne]; omega
  have n8 : (kd == 8) = false := by rw [beq_eq_false_iff_ne]; omega
  have n9 : (kd == 9) = false := by rw [beq_eq_false_iff_ne]; omega
  have n10 : (kd == 10) = false := by rw [beq_eq_false_iff_ne]; omega
  have n14 : (kd == 14) = false := by rw [beq_eq_false_iff_ne]; omega
  have hr : w1.rangeAt w.heap.size 0 (opCells kd x y z a b c s) := fun j u hu => by rw [Nat.zero_add]; exact hr1 j u hu
  clear hr1
  go_wp2_with (refine wpList_load_mid rfl 28 _ rfl w.heap.size 0 rfl (opCells kd x y z a b c s) _ hr Tryz.underlying28 rfl (info_op _ _ _ _ _ _ _ _) ?_)
  refine (power_not p kd x y z a b c s w1 (by omega)).mono ?_
  rintro e w2 ⟨rfl, hb2⟩
  go_wp2_with fail
  go_ret
  exact ⟨rfl, hb1.trans (hb2.mono hb1.size)⟩
end Go.Proofs.YtijdnpoenpjnlaaGreatDoor
