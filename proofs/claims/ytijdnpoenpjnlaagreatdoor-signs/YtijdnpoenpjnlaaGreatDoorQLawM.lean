import Derived.Test.YtijdnpoenpjnlaaGreatDoorZMathM
import Derived.Test.YtijdnpoenpjnlaaGreatDoorXProvedM
import Derived.Test.YtijdnpoenpjnlaaGreatDoorRUpTo
import Derived.Test.YtijdnpoenpjnlaaGreatDoorRPlay2
set_option linter.unusedVariables false
set_option linter.unusedSimpArgs false
namespace Go.Proofs.YtijdnpoenpjnlaaGreatDoor
open Go.RowKit

theorem told_code (p : Nat) (c : Int) (w W : World) (G : Glob p w) (hp : p < w.heap.size) (hb : Below w.heap.size w W) (ev : Value) (hev : c = 0 ∧ ev = .nilIface ∨ c ≠ 0 ∧ ev = .iface 138 (.int .i64 c)) :
    Calls Tryz.prog 61 #[ev, .int .i64 c] W fun e w' => e = .returned (.bool true) ∧ Below W.heap.size W w' := by
  rcases hev with ⟨rfl, rfl⟩ | ⟨hc, rfl⟩
  · exact told_ok W
  · exact told_err p c w W hc G hp hb

set_option maxRecDepth 10000 in
set_option maxHeartbeats 400000 in
theorem keyed_any (p : Nat) (seed : ByteArray) (h : Int) (w : World) (G : Glob p w) (hp : p < w.heap.size) (hs : seed.size ≤ 20000) :
    Calls Tryz.prog 38 #[.string seed, .int .i64 h] w fun e w' => ∃ s : ByteArray, s.size ≤ 20000 ∧ e = .returned (.tuple #[.string s, .bool true]) ∧ Below w.heap.size w w' := by
  have h1 := apub_any kT seed h w (by omega) (G.tab hp)
  have h2 := fun W => rpub_any seed h W (by omega)
  obtain ⟨s, c, ev, hsz, e1, e2, hev⟩ : ∃ (s : ByteArray) (c : Int) (ev : Value), s.size ≤ 20000 ∧ pubV kT seed h = .tuple #[.string s, ev] ∧ rpubV seed h = .tuple #[.string s, .int .i64 c] ∧ (c = 0 ∧ ev = .nilIface ∨ c ≠ 0 ∧ ev = .iface 138 (.int .i64 c)) := by
    unfold pubV rpubV
    split
    · exact ⟨_, 0, _, Nat.le_trans (Nat.le_of_eq (show (pubF HR seed h.toNat).size = 32 from rootF_size HR HR_size _)) (by omega), rfl, rfl, Or.inl ⟨rfl, rfl⟩⟩
    · exact ⟨⟨#[]⟩, 11, _, Nat.zero_le _, rfl, rfl, Or.inr ⟨by decide, rfl⟩⟩
  rw [e1] at h1
  simp only [e2] at h2
  have h3 := fun W (hb : Below w.heap.size w W) => told_code p c w W G hp hb ev hev
  clear e1 e2 hev G
  have bz : (s.toList == s.toList) = true := by rw [← beq_toListBytes]; show (s.data == s.data) = true; simp
  go_enter Tryz.func38, Tryz.ntmps38
  go_wp2_with fail
  refine h1.mono ?_
  rintro e w1 ⟨rfl, hb1⟩
  clear h1
  go_wp2_with fail
  refine (h2 w1).mono ?_
  rintro e w2 ⟨rfl, hb2⟩
  clear h2
  have hB2 : Below w.heap.size w w2 := hb1.trans (hb2.mono hb1.size)
  go_wp2_with fail
  refine (h3 w2 hB2).mono ?_
  rintro e w3 ⟨rfl, hb3⟩
  clear h3
  go_wp2_with fail
  go_ret2
  exact ⟨s, hsz, rfl, hB2.trans (hb3.mono hB2.size)⟩

theorem sigF_size (seed : ByteArray) (h k : Nat) (msg : ByteArray) (hh : h ≤ 5) : (sigF HR seed h k msg).size ≤ 20000 := by
  rw [sigN_eq, ByteArray.size_append, ByteArray.size_append, strOfNums_size, strOfNums_size, join_all _ (inclF_sizesP _ HR_size _ _ k rfl), inclF_pow _ h _ k (leavesF_len _ _ _)]
  have : (valuesF HR seed k msg).size = 2144 := chainsT_size HR HR_size (beginF HR seed k) (fun c => dig (HR msg) c) (fun c => HR_size _) 67
  rw [this]; simp; omega
set_option maxRecDepth 10000 in
set_option maxHeartbeats 400000 in
theorem signed_any (p : Nat) (seed : ByteArray) (h k : Int) (msg : ByteArray) (w : World) (G : Glob p w) (hp : p < w.heap.size) (hs : seed.size ≤ 20000) (hm : msg.size ≤ 20000) :
    Calls Tryz.prog 39 #[.string seed, .int .i64 h, .int .i64 k, .string msg] w fun e w' => ∃ s : ByteArray, s.size ≤ 20000 ∧ e = .returned (.tuple #[.string s, .bool true]) ∧ Below w.heap.size w w' := by
  have h1 := asign_any kT seed h k msg w (by omega) (by omega) (G.tab hp)
  have h2 := fun W => rsign_all seed h k msg W (by omega) (by omega)
  obtain ⟨s, c, ev, hsz, e1, e2, hev⟩ : ∃ (s : ByteArray) (c : Int) (ev : Value), s.size ≤ 20000 ∧ signV kT seed h k msg = .tuple #[.string s, ev] ∧ rsignV seed h k msg = .tuple #[.string s, .int .i64 c] ∧ (c = 0 ∧ ev = .nilIface ∨ c ≠ 0 ∧ ev = .iface 138 (.int .i64 c)) := by
    unfold signV rsignV
    split
    · rename_i hc
      split
      · exact ⟨_, 0, _, sigF_size seed h.toNat k.toNat msg (by omega), rfl, rfl, Or.inl ⟨rfl, rfl⟩⟩
      · exact ⟨⟨#[]⟩, 10, _, Nat.zero_le _, rfl, rfl, Or.inr ⟨by decide, rfl⟩⟩
    · exact ⟨⟨#[]⟩, 11, _, Nat.zero_le _, rfl, rfl, Or.inr ⟨by decide, rfl⟩⟩
  rw [e1] at h1
  simp only [e2] at h2
  have h3 := fun W (hb : Below w.heap.size w W) => told_code p c w W G hp hb ev hev
  clear e1 e2 hev G
  have bz : (s.toList == s.toList) = true := by rw [← beq_toListBytes]; show (s.data == s.data) = true; simp
  go_enter Tryz.func39, Tryz.ntmps39
  go_wp2_with fail
  refine h1.mono ?_
  rintro e w1 ⟨rfl, hb1⟩
  clear h1
  go_wp2_with fail
  refine (h2 w1).mono ?_
  rintro e w2 ⟨rfl, hb2⟩
  clear h2
  have hB2 : Below w.heap.size w w2 := hb1.trans (hb2.mono hb1.size)
  go_wp2_with fail
  refine (h3 w2 hB2).mono ?_
  rintro e w3 ⟨rfl, hb3⟩
  clear h3
  go_wp2_with fail
  go_ret2
  exact ⟨s, hsz, rfl, hB2.trans (hb3.mono hB2.size)⟩
set_option maxRecDepth 10000 in
set_option maxHeartbeats 400000 in
theorem checked_any (p : Nat) (key : ByteArray) (h : Int) (msg sig : ByteArray) (w : World) (G : Glob p w) (hp : p < w.heap.size) (hs : key.size ≤ 20000) (hm : msg.size ≤ 20000) (hg : sig.size ≤ 20000) :
    Calls Tryz.prog 40 #[.string key, .int .i64 h, .string msg, .string sig] w fun e w' => e = .returned (.bool true) ∧ Below w.heap.size w w' := by
  have h1 := acheck_any kT key h msg sig w (by omega) (by omega) (G.tab hp)
  have h2 := fun W => rcheck_all key h msg sig W (by omega) (by omega) (by omega)
  obtain ⟨s, c, ev, e1, e2, hev⟩ : ∃ (s : Int) (c : Int) (ev : Value), checkV kT key h msg sig = .tuple #[.int .i64 s, ev] ∧ rcheckV key h msg sig = .tuple #[.int .i64 s, .int .i64 c] ∧ (c = 0 ∧ ev = .nilIface ∨ c ≠ 0 ∧ ev = .iface 138 (.int .i64 c)) := by
    unfold checkV rcheckV
    split
    · split
      · exact ⟨_, 0, _, rfl, rfl, Or.inl ⟨rfl, rfl⟩⟩
      · exact ⟨0, 13, _, rfl, rfl, Or.inr ⟨by decide, rfl⟩⟩
    · exact ⟨0, 11, _, rfl, rfl, Or.inr ⟨by decide, rfl⟩⟩
  rw [e1] at h1
  simp only [e2] at h2
  have h3 := fun W (hb : Below w.heap.size w W) => told_code p c w W G hp hb ev hev
  clear e1 e2 hev G
  go_enter Tryz.func40, Tryz.ntmps40
  go_wp2_with fail
  refine h1.mono ?_
  rintro e w1 ⟨rfl, hb1⟩
  clear h1
  go_wp2_with fail
  refine (h2 w1).mono ?_
  rintro e w2 ⟨rfl, hb2⟩
  clear h2
  have hB2 : Below w.heap.size w w2 := hb1.trans (hb2.mono hb1.size)
  go_wp2_with fail
  refine (h3 w2 hB2).mono ?_
  rintro e w3 ⟨rfl, hb3⟩
  clear h3
  go_wp2_with fail
  go_ret
  exact ⟨rfl, hB2.trans (hb3.mono hB2.size)⟩
end Go.Proofs.YtijdnpoenpjnlaaGreatDoor
set_option linter.unusedVariables false
set_option linter.unusedSimpArgs false
namespace Go.Proofs.YtijdnpoenpjnlaaGreatDoor
open Go.RowKit

set_option maxRecDepth 10000 in
set_option maxHeartbeats 1000000 in
theorem ring_key (p k : Nat) (S : WS) (x y z a b c : Int) (s : ByteArray) (w : World) (h : WAt p k w S) (G : Glob p w) (hk : k ≤ 1000000) (B : OpOk x y z a b c) (hs : s.size ≤ 1000000) :
    Calls Tryz.prog 19 #[.pointer (some ⟨p, 0, none⟩), .agg (opCells 30 x y z a b c s).toArray] w fun e w' => e = .returned (.bool true) ∧ ∃ S', WAt p (k + 1) w' S' ∧ Far p S S' w w' := by
  obtain ⟨x0, x1, y0, y1, z0, z1, a0, a1, b0, b1, c0, c1⟩ := B
  have HA : WAt p k (w.alloc (.cells (opCells 30 x y z a b c s).toArray 28)) S := h.below ((Below.refl _ _).alloc (Nat.le_refl _) _)
  have HW : Hid (WAt p k w S) := h
  have HG : Hid (Glob p w) := G
  have hpw := h.lt
  clear h G
  go_enter Tryz.func19, Tryz.ntmps19
  unfold opCells at HA ⊢
  go_wp2_with fail
  refine (text_any p k S x _ HA hk x0 x1).mono ?_
  rintro e w0 ⟨t, rfl, ht, m, hw0⟩
  have hb0 : Below w.heap.size w w0 := by rw [hw0]; exact below_draws ((Below.refl _ _).alloc (Nat.le_refl _) _) m
  have hr0 : ∀ j u, (opCells 30 x y z a b c s)[j]? = some u → w0.cell? ⟨w.heap.size, j, none⟩ = some u := by
    intro j u hu
    rw [hw0]
    have := range_new w (opCells 30 x y z a b c s) 28 j u hu
    rw [Nat.zero_add] at this
    exact this
  have hz0 : w.heap.size < w0.heap.size := by rw [hw0]; show w.heap.size < (w.alloc _).heap.size; simp
  clear hw0 HA
  have i2 : w0.cell? ⟨w.heap.size, 2, none⟩ = some (.int .i64 y) := hr0 2 _ rfl
  go_wp2_with fail
  refine (text_any p k S y w0 (HW.out.below hb0) hk y0 y1).mono ?_
  rintro e w1 ⟨t', rfl, ht', m', hw1⟩
  have hb01 : Below w0.heap.size w0 w1 := by rw [hw1]; exact below_draws (Below.refl _ _) m'
  have hb1 : Below w.heap.size w w1 := hb0.trans (hb01.mono hb0.size)
  have hz1 : w.heap.size < w1.heap.size := Nat.lt_of_lt_of_le hz0 hb01.size
  have hr1 : ∀ j u, (opCells 30 x y z a b c s)[j]? = some u → w1.cell? ⟨w.heap.size, j, none⟩ = some u := fun j u hu => (hb01.cell (p := ⟨w.heap.size, j, none⟩) hz0).trans (hr0 j u hu)
  have W1 : WAt p k w1 S := HW.out.below hb1
  have G1 : Glob p w1 := HG.out.below (hb1.mono (Nat.le_of_lt hpw))
  clear hw1 hb01 hb0 hr0 hz0 i2
  have i0 : w1.cell? ⟨w.heap.size, 0, none⟩ = some (.int .i64 30) := hr1 0 _ rfl
  have i4 : w1.cell? ⟨w.heap.size, 4, none⟩ = some (.int .i64 a) := hr1 4 _ rfl
  clear hr1
  have hp1 := W1.lt
  have hkk := keyed_any p t a w1 G1 hp1 ht
  go_wp2_with fail
  refine hkk.mono ?_
  rintro e w2 ⟨R, hR, rfl, hb2⟩
  clear hkk
  have hb2' : Below w.heap.size w w2 := hb1.trans (hb2.mono hb1.size)
  have W2 : WAt p k w2 S := HW.out.below hb2'
  go_wp2_with fail
  refine (add_any p k S R w2 W2 hk).mono ?_
  rintro e w3 ⟨rfl, S', W3, F3⟩
  go_wp2_with fail
  go_ret
  exact ⟨rfl, S', W3, (Far.of_below S hb2').trans F3⟩

set_option maxRecDepth 10000 in
set_option maxHeartbeats 1000000 in
theorem ring_sign (p k : Nat) (S : WS) (x y z a b c : Int) (s : ByteArray) (w : World) (h : WAt p k w S) (G : Glob p w) (hk : k ≤ 1000000) (B : OpOk x y z a b c) (hs : s.size ≤ 1000000) :
    Calls Tryz.prog 19 #[.pointer (some ⟨p, 0, none⟩), .agg (opCells 31 x y z a b c s).toArray] w fun e w' => e = .returned (.bool true) ∧ ∃ S', WAt p (k + 1) w' S' ∧ Far p S S' w w' := by
  obtain ⟨x0, x1, y0, y1, z0, z1, a0, a1, b0, b1, c0, c1⟩ := B
  have HA : WAt p k (w.alloc (.cells (opCells 31 x y z a b c s).toArray 28)) S := h.below ((Below.refl _ _).alloc (Nat.le_refl _) _)
  have HW : Hid (WAt p k w S) := h
  have HG : Hid (Glob p w) := G
  have hpw := h.lt
  clear h G
  go_enter Tryz.func19, Tryz.ntmps19
  unfold opCells at HA ⊢
  go_wp2_with fail
  refine (text_any p k S x _ HA hk x0 x1).mono ?_
  rintro e w0 ⟨t, rfl, ht, m, hw0⟩
  have hb0 : Below w.heap.size w w0 := by rw [hw0]; exact below_draws ((Below.refl _ _).alloc (Nat.le_refl _) _) m
  have hr0 : ∀ j u, (opCells 31 x y z a b c s)[j]? = some u → w0.cell? ⟨w.heap.size, j, none⟩ = some u := by
    intro j u hu
    rw [hw0]
    have := range_new w (opCells 31 x y z a b c s) 28 j u hu
    rw [Nat.zero_add] at this
    exact this
  have hz0 : w.heap.size < w0.heap.size := by rw [hw0]; show w.heap.size < (w.alloc _).heap.size; simp
  clear hw0 HA
  have i2 : w0.cell? ⟨w.heap.size, 2, none⟩ = some (.int .i64 y) := hr0 2 _ rfl
  go_wp2_with fail
  refine (text_any p k S y w0 (HW.out.below hb0) hk y0 y1).mono ?_
  rintro e w1 ⟨t', rfl, ht', m', hw1⟩
  have hb01 : Below w0.heap.size w0 w1 := by rw [hw1]; exact below_draws (Below.refl _ _) m'
  have hb1 : Below w.heap.size w w1 := hb0.trans (hb01.mono hb0.size)
  have hz1 : w.heap.size < w1.heap.size := Nat.lt_of_lt_of_le hz0 hb01.size
  have hr1 : ∀ j u, (opCells 31 x y z a b c s)[j]? = some u → w1.cell? ⟨w.heap.size, j, none⟩ = some u := fun j u hu => (hb01.cell (p := ⟨w.heap.size, j, none⟩) hz0).trans (hr0 j u hu)
  have W1 : WAt p k w1 S := HW.out.below hb1
  have G1 : Glob p w1 := HG.out.below (hb1.mono (Nat.le_of_lt hpw))
  clear hw1 hb01 hb0 hr0 hz0 i2
  have i0 : w1.cell? ⟨w.heap.size, 0, none⟩ = some (.int .i64 31) := hr1 0 _ rfl
  have i4 : w1.cell? ⟨w.heap.size, 4, none⟩ = some (.int .i64 a) := hr1 4 _ rfl
  have i5 : w1.cell? ⟨w.heap.size, 5, none⟩ = some (.int .i64 b) := hr1 5 _ rfl
  clear hr1
  have hp1 := W1.lt
  have hkk := signed_any p t a b t' w1 G1 hp1 ht ht'
  go_wp2_with fail
  refine hkk.mono ?_
  rintro e w2 ⟨R, hR, rfl, hb2⟩
  clear hkk
  have hb2' : Below w.heap.size w w2 := hb1.trans (hb2.mono hb1.size)
  have W2 : WAt p k w2 S := HW.out.below hb2'
  go_wp2_with fail
  refine (add_any p k S R w2 W2 hk).mono ?_
  rintro e w3 ⟨rfl, S', W3, F3⟩
  go_wp2_with fail
  go_ret
  exact ⟨rfl, S', W3, (Far.of_below S hb2').trans F3⟩

set_option maxRecDepth 10000 in
set_option maxHeartbeats 1000000 in
theorem ring_check (p k : Nat) (S : WS) (x y z a b c : Int) (s : ByteArray) (w : World) (h : WAt p k w S) (G : Glob p w) (hk : k ≤ 1000000) (B : OpOk x y z a b c) (hs : s.size ≤ 1000000) :
    Calls Tryz.prog 19 #[.pointer (some ⟨p, 0, none⟩), .agg (opCells 32 x y z a b c s).toArray] w fun e w' => e = .returned (.bool true) ∧ ∃ S', WAt p (k + 1) w' S' ∧ Far p S S' w w' := by
  obtain ⟨x0, x1, y0, y1, z0, z1, a0, a1, b0, b1, c0, c1⟩ := B
  have HA : WAt p k (w.alloc (.cells (opCells 32 x y z a b c s).toArray 28)) S := h.below ((Below.refl _ _).alloc (Nat.le_refl _) _)
  have HW : Hid (WAt p k w S) := h
  have HG : Hid (Glob p w) := G
  have hpw := h.lt
  clear h G
  go_enter Tryz.func19, Tryz.ntmps19
  unfold opCells at HA ⊢
  go_wp2_with fail
  refine (text_any p k S x _ HA hk x0 x1).mono ?_
  rintro e w0 ⟨t, rfl, ht, m, hw0⟩
  have hb0 : Below w.heap.size w w0 := by rw [hw0]; exact below_draws ((Below.refl _ _).alloc (Nat.le_refl _) _) m
  have hr0 : ∀ j u, (opCells 32 x y z a b c s)[j]? = some u → w0.cell? ⟨w.heap.size, j, none⟩ = some u := by
    intro j u hu
    rw [hw0]
    have := range_new w (opCells 32 x y z a b c s) 28 j u hu
    rw [Nat.zero_add] at this
    exact this
  have hz0 : w.heap.size < w0.heap.size := by rw [hw0]; show w.heap.size < (w.alloc _).heap.size; simp
  clear hw0 HA
  have i2 : w0.cell? ⟨w.heap.size, 2, none⟩ = some (.int .i64 y) := hr0 2 _ rfl
  go_wp2_with fail
  refine (text_any p k S y w0 (HW.out.below hb0) hk y0 y1).mono ?_
  rintro e w1 ⟨t', rfl, ht', m', hw1⟩
  have hb01 : Below w0.heap.size w0 w1 := by rw [hw1]; exact below_draws (Below.refl _ _) m'
  have hb1 : Below w.heap.size w w1 := hb0.trans (hb01.mono hb0.size)
  have hz1 : w.heap.size < w1.heap.size := Nat.lt_of_lt_of_le hz0 hb01.size
  have hr1 : ∀ j u, (opCells 32 x y z a b c s)[j]? = some u → w1.cell? ⟨w.heap.size, j, none⟩ = some u := fun j u hu => (hb01.cell (p := ⟨w.heap.size, j, none⟩) hz0).trans (hr0 j u hu)
  have W1 : WAt p k w1 S := HW.out.below hb1
  have G1 : Glob p w1 := HG.out.below (hb1.mono (Nat.le_of_lt hpw))
  clear hw1 hb01 hb0 hr0 hz0 i2
  have i0 : w1.cell? ⟨w.heap.size, 0, none⟩ = some (.int .i64 32) := hr1 0 _ rfl
  have i3 : w1.cell? ⟨w.heap.size, 3, none⟩ = some (.int .i64 z) := hr1 3 _ rfl
  have i4 : w1.cell? ⟨w.heap.size, 4, none⟩ = some (.int .i64 a) := hr1 4 _ rfl
  clear hr1
  have hp1 := W1.lt
  have htx := text_any p k S z w1 W1 hk z0 z1
  go_wp2_with fail
  refine htx.mono ?_
  rintro e w2 ⟨t2, rfl, ht2, m2, hw2⟩
  clear htx
  have hb12 : Below w1.heap.size w1 w2 := by rw [hw2]; exact below_draws (Below.refl _ _) m2
  have hb2' : Below w.heap.size w w2 := hb1.trans (hb12.mono hb1.size)
  have j4 : w2.cell? ⟨w.heap.size, 4, none⟩ = some (.int .i64 a) := (hb12.cell (p := ⟨w.heap.size, 4, none⟩) hz1).trans i4
  have hkk := checked_any p t a t' t2 w2 (HG.out.below (hb2'.mono (Nat.le_of_lt hpw))) (Nat.lt_of_lt_of_le hpw hb2'.size) ht ht' ht2
  clear hw2 hb12
  go_wp2_with fail
  refine hkk.mono ?_
  rintro e w3 ⟨rfl, hb3⟩
  clear hkk
  have hb3' : Below w.heap.size w w3 := hb2'.trans (hb3.mono hb2'.size)
  go_wp2_with fail
  go_ret
  exact ⟨rfl, S, (HW.out.below hb3').mono (by omega), Far.of_below S hb3'⟩

/-- The steps that Signs plays. -/
def signsKind (kd : Int) : Prop := kd < 11 ∨ kd = 14 ∨ kd = 20 ∨ kd = 30 ∨ kd = 31 ∨ kd = 32
theorem ring_signs (p k : Nat) (S : WS) (kd x y z a b c : Int) (s : ByteArray) (w : World) (h : WAt p k w S) (G : Glob p w) (hk : k ≤ 1000000) (B : OpOk x y z a b c) (hs : s.size ≤ 1000000) (hkd : kd = 30 ∨ kd = 31 ∨ kd = 32) :
    Calls Tryz.prog 19 #[.pointer (some ⟨p, 0, none⟩), .agg (opCells kd x y z a b c s).toArray] w fun e w' => e = .returned (.bool true) ∧ ∃ S', WAt p (k + 1) w' S' ∧ Far p S S' w w' := by
  rcases hkd with rfl | rfl | rfl
  · exact ring_key p k S x y z a b c s w h G hk B hs
  · exact ring_sign p k S x y z a b c s w h G hk B hs
  · exact ring_check p k S x y z a b c s w h G hk B hs
end Go.Proofs.YtijdnpoenpjnlaaGreatDoor
set_option linter.unusedVariables false
set_option linter.unusedSimpArgs false
namespace Go.Proofs.YtijdnpoenpjnlaaGreatDoor
open Go.RowKit

set_option maxRecDepth 10000 in
set_option maxHeartbeats 1000000 in
theorem step_signs (p k : Nat) (S : WS) (kd x y z a b c : Int) (s : ByteArray) (w : World) (h : WAt p k w S) (G : Glob p w) (hk : k ≤ 500000) (B : OpOk x y z a b c) (hs : s.size ≤ 1000000) (hkd : signsKind kd) (hgv : S.gv = .slice none 0 0) :
    Calls Tryz.prog 16 #[.pointer (some ⟨p, 0, none⟩), .agg (opCells kd x y z a b c s).toArray] w fun e w' => e = .returned (.bool true) ∧ ∃ S', WAt p (k + 1) w' S' ∧ S'.gv = .slice none 0 0 ∧ Below p w w' := by
  have hpw := h.lt
  have hr0 := range_new w (opCells kd x y z a b c s) 28
  have hb0 : Below w.heap.size w (w.alloc (.cells (opCells kd x y z a b c s).toArray 28)) := (Below.refl _ _).alloc (Nat.le_refl _) _
  have W0 : WAt p k (w.alloc (.cells (opCells kd x y z a b c s).toArray 28)) S := h.below hb0
  have HK : Hid (signsKind kd) := hkd
  have HG : Hid (Glob p w) := G
  have HV : Hid (S.gv = .slice none 0 0) := hgv
  have HW : Hid (WAt p k w S) := h
  have i0 : (w.alloc (.cells (opCells kd x y z a b c s).toArray 28)).cell? ⟨w.heap.size, 0, none⟩ = some (.int .i64 kd) := by
    have := hr0 0 _ rfl; rwa [Nat.zero_add] at this
  clear hkd G hgv h
  go_enter Tryz.func16, Tryz.ntmps16
  go_wp2_with (refine wpList_load_mid rfl 28 _ rfl w.heap.size 0 rfl (opCells kd x y z a b c s) _ hr0 Tryz.underlying28 rfl (info_op _ _ _ _ _ _ _ _) ?_)
  refine (owner_any p k S kd x y z a b c s _ W0 (by omega) B (by have := HK.out; unfold signsKind at this; omega)).mono ?_
  rintro e w1 ⟨r, rfl, hr⟩
  rcases hr with ⟨rfl, S', W1, F1⟩ | ⟨rfl, hk1, hb1⟩
  · go_wp2_with fail
    go_ret
    exact ⟨rfl, S', W1, F1.gv.trans HV.out, (hb0.mono (Nat.le_of_lt hpw)).trans (F1.below W0)⟩
  · have hkd := HK.out
    unfold signsKind at hkd
    have HK2 : Hid ((kd < 1 ∨ kd = 20 ∨ kd = 21 ∨ kd = 22) ∨ (kd = 30 ∨ kd = 31 ∨ kd = 32)) := by show (kd < 1 ∨ kd = 20 ∨ kd = 21 ∨ kd = 22) ∨ (kd = 30 ∨ kd = 31 ∨ kd = 32); omega
    clear hkd hk1
    have hsz : (w.alloc (.cells (opCells kd x y z a b c s).toArray 28)).heap.size = w.heap.size + 1 := by simp
    have hr1 : w1.rangeAt w.heap.size 0 (opCells kd x y z a b c s) := fun j u hu => (hb1.cell (p := ⟨w.heap.size, 0 + j, none⟩) (by rw [hsz]; exact Nat.lt_succ_self _)).trans (hr0 j u hu)
    have i1 : w1.cell? ⟨w.heap.size, 0, none⟩ = some (.int .i64 kd) := by
      have := hr1 0 _ rfl; rwa [Nat.zero_add] at this
    have W1 : WAt p k w1 S := W0.below hb1
    have hB1 : Below w.heap.size w w1 := hb0.trans (hb1.mono (by rw [hsz]; omega))
    have G1 : Glob p w1 := HG.out.below (hB1.mono (Nat.le_of_lt hpw))
    clear hb1 hsz i0 W0
    rcases HK2.out with hk2 | hk2
    · have h30 : kd < 30 := by omega
      go_wp2_with (refine wpList_load_mid rfl 28 _ rfl w.heap.size 0 rfl (opCells kd x y z a b c s) _ hr1 Tryz.underlying28 rfl (info_op _ _ _ _ _ _ _ _) ?_)
      refine (tree_sums p k S kd x y z a b c s w1 W1 G1 (by omega) B hs hk2).mono ?_
      rintro e w2 ⟨rfl, S', W2, F2⟩
      go_wp2_with fail
      refine (looks_nil p (k + 1) S' w2 W2 (F2.gv.trans HV.out)).mono ?_
      rintro e w3 ⟨rfl, hw3⟩
      obtain rfl : w2 = w3 := hw3.symm
      clear hw3
      go_wp2_with fail
      go_ret
      exact ⟨rfl, S', W2, F2.gv.trans HV.out, (hB1.mono (Nat.le_of_lt hpw)).trans (F2.below W1)⟩
    · have h30 : ¬ kd < 30 := by omega
      have h40 : kd < 40 := by omega
      go_wp2_with (refine wpList_load_mid rfl 28 _ rfl w.heap.size 0 rfl (opCells kd x y z a b c s) _ hr1 Tryz.underlying28 rfl (info_op _ _ _ _ _ _ _ _) ?_)
      refine (ring_signs p k S kd x y z a b c s w1 W1 G1 (by omega) B hs hk2).mono ?_
      rintro e w2 ⟨rfl, S', W2, F2⟩
      go_wp2_with fail
      refine (looks_nil p (k + 1) S' w2 W2 (F2.gv.trans HV.out)).mono ?_
      rintro e w3 ⟨rfl, hw3⟩
      obtain rfl : w2 = w3 := hw3.symm
      clear hw3
      go_wp2_with fail
      go_ret
      exact ⟨rfl, S', W2, F2.gv.trans HV.out, (hB1.mono (Nat.le_of_lt hpw)).trans (F2.below W1)⟩

set_option maxRecDepth 10000 in
set_option maxHeartbeats 1000000 in
theorem upto_signs (v : Value) (l : List Op8) (w : World) (h : OpsAt w v l) (hn : l.length ≤ 16384) (hok : ∀ o ∈ l, o.Ok ∧ signsKind o.k) (G : Glob w.heap.size w) :
    Calls Tryz.prog 15 #[v] w fun e w' => e = .returned (.int .i64 (-1)) ∧ Below w.heap.size w w' := by
  have HO : Hid (∀ o ∈ l, o.Ok ∧ signsKind o.k) := hok
  have HG : Hid (Glob w.heap.size w) := G
  have HL : Hid (OpsAt w v l) := h
  clear hok G
  obtain ⟨ao, n, cap, rfl, hnl⟩ : ∃ ao n cap, v = .slice ao n cap ∧ n = l.length := by
    rcases h.form with ⟨⟨ao, cap, rfl⟩, rfl⟩ | ⟨g, off, cap, rfl, _⟩
    · exact ⟨ao, 0, cap, rfl, rfl⟩
    · exact ⟨_, _, _, rfl, rfl⟩
  have HN : Hid (n = l.length) := hnl
  have hn' : n ≤ 16384 := by omega
  clear h hnl hn
  have hst := w_start w
  have hb0 : Below w.heap.size w (w.alloc (.cells zW.toArray 37)) := (Below.refl _ _).alloc (Nat.le_refl _) _
  have HST : Hid (WAt w.heap.size 0 (w.alloc (.cells zW.toArray 37)) ⟨.slice none 0 0, .slice none 0 0, .slice none 0 0, .slice none 0 0, [], [], [], [], .slice none 0 0, .slice none 0 0, 0⟩) := hst
  clear hst
  go_enter Tryz.func15, Tryz.ntmps15
  go_wp2_with fail
  go_loopw [4] (fun i wr => ∃ q : Nat, q ≤ n ∧ i = .int .i64 q ∧ Below w.heap.size w wr ∧ ∃ S, WAt w.heap.size q wr S ∧ S.gv = .slice none 0 0) (fun i _ => n - (intOf i).toNat)
  case atStart => exact ⟨0, by omega, rfl, hb0, _, HST.out, rfl⟩
  case round =>
    obtain ⟨q, hq, rfl, hB, S, W, hgv⟩ := hrel
    by_cases hlt : q < n
    · have q1 : (q : Int) < (n : Int) := by omega
      have q0 : (0 : Int) ≤ (q : Int) := by omega
      have hql : q < l.length := by have := HN.out; omega
      obtain ⟨g, off, hao, hc⟩ : ∃ g off, ao = some ⟨g, off, none⟩ ∧ ∀ i o, l[i]? = some o → ∀ j u, o.cells[j]? = some u → w.cell? ⟨g, off + i * 8 + j, none⟩ = some u := by
        rcases HL.out.form with ⟨e, rfl⟩ | ⟨g, off, cap', e, h⟩
        · simp at hql
        · exact ⟨g, off, by injection e, h⟩
      subst hao
      obtain ⟨o, ho⟩ : ∃ o, o = l[q] := ⟨_, rfl⟩
      obtain ⟨ook, okd⟩ := HO.out o (by rw [ho]; exact List.getElem_mem hql)
      have hr : wr.rangeAt g (off + q * 8) (opCells o.k o.x o.y o.z o.a o.b o.c o.s) := fun j u hu => by
        have := hc q o (by rw [List.getElem?_eq_getElem hql, ho]) j u hu
        rw [hB.cell (World.block_lt_of_cell? w _ this)]; exact this
      clear hc ho
      go_wp2_with (first | (refine wpList_load_mid rfl 28 _ rfl g (off + q * 8) rfl (opCells o.k o.x o.y o.z o.a o.b o.c o.s) _ hr Tryz.underlying28 rfl (info_op _ _ _ _ _ _ _ _) ?_))
      refine (step_signs w.heap.size q S o.k o.x o.y o.z o.a o.b o.c o.s wr W (HG.out.below hB) (by omega) ook.nums (by have := ook.size; omega) okd hgv).mono ?_
      rintro e w2 ⟨rfl, S', W2, hgv2, hB2⟩
      go_wp2_with fail
      refine ⟨⟨q + 1, by omega, by go_num, hB.trans hB2, S', W2, hgv2⟩, ?_⟩
      simp [intOf]; omega
    · have q1 : ¬ (q : Int) < (n : Int) := by omega
      go_wp2_with fail
      go_ret
      exact ⟨rfl, hB⟩
end Go.Proofs.YtijdnpoenpjnlaaGreatDoor
set_option linter.unusedVariables false
set_option linter.unusedSimpArgs false
namespace Go.Proofs.YtijdnpoenpjnlaaGreatDoor
open Go.RowKit

set_option maxRecDepth 10000 in
set_option maxHeartbeats 400000 in
theorem signs_any (v : Value) (l : List Op8) (w : World) (h : OpsAt w v l) (hn : l.length ≤ 140737488355328) (hs : ∀ o ∈ l, o.s.size ≤ 140737488355328)
    (hok : ∀ o ∈ l, OpOk o.x o.y o.z o.a o.b o.c ∧ -9223372036854775808 ≤ o.k ∧ o.k ≤ 9223372036854775807) (G : Glob w.heap.size w) :
    Calls Tryz.prog 6 #[v] w fun e w' => e = .returned (.bool true) ∧ Below w.heap.size w w' := by
  have hb0 : Below w.heap.size w (w.alloc (.cells #[.int .i64 20, .int .i64 30, .int .i64 31, .int .i64 32] 3)) := (Below.refl _ _).alloc (Nat.le_refl _) _
  have hkc : ∀ j (hj : j < [(20 : Int), 30, 31, 32].length), (w.alloc (.cells #[.int .i64 20, .int .i64 30, .int .i64 31, .int .i64 32] 3)).cell? ⟨w.heap.size, j, none⟩ = some (.int .i64 ([(20 : Int), 30, 31, 32][j]'hj)) := by
    intro j hj
    have hj3 : j < 4 := hj
    have := range_new w [.int .i64 20, .int .i64 30, .int .i64 31, .int .i64 32] 3 j (.int .i64 ([(20 : Int), 30, 31, 32][j]'hj)) (by
      obtain rfl | rfl | rfl | rfl : j = 0 ∨ j = 1 ∨ j = 2 ∨ j = 3 := by omega
      all_goals rfl)
    rw [Nat.zero_add] at this
    exact this
  have hpl := plays_any v l _ [20, 30, 31, 32] w.heap.size 4 signsKind (h.below hb0) hn hs hok (by simp) hkc (fun kd hk => by simp at hk; unfold signsKind; omega) (fun v' L w' hO hL hok' hB => upto_signs v' L w' hO hL hok' (by
    have hs' := hB.size
    simp at hs'
    have G0 : Glob w.heap.size w' := (G.below hb0).below (hB.mono (by simp))
    exact ⟨by have := G0.le; omega, G0.rounds, G0.err⟩))
  rw [show [(20 : Int), 30, 31, 32].length = 4 from rfl] at hpl
  obtain ⟨ao, n, cap, rfl, hx, hy⟩ := ops_form h
  clear hx hy
  clear hkc
  go_enter Tryz.func6, Tryz.ntmps6
  go_wp2_with fail
  refine hpl.mono ?_
  rintro e w1 ⟨rfl, hb1⟩
  go_wp2_with fail
  go_ret
  exact ⟨rfl, hb0.trans (hb1.mono (by simp))⟩
end Go.Proofs.YtijdnpoenpjnlaaGreatDoor
