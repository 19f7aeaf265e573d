import Derived.Test.YteglimjonofdeaaGreatDoorTPathM
import Derived.Test.YteglimjonofdeaaGreatDoorGRootM
import Derived.Test.YteglimjonofdeaaGreatDoorAEvM
set_option linter.unusedVariables false
set_option linter.unusedSimpArgs false
namespace Go.Proofs.YteglimjonofdeaaGreatDoor
open Go.RowKit

set_option maxRecDepth 10000 in
set_option maxHeartbeats 1000000 in
theorem climb_left (s : ByteArray) (i n k : Nat) (v v' : Value) (b x h : ByteArray) (f : Bool) (w : World) (hn : 2 ≤ n) (hn1 : n ≤ 2147483647) (hk1 : k < n) (hi1 : i < n) (hik : i < k) (hb32 : b.size = 32) (hx32 : x.size = 32) (h32 : h.size = 32)
    (hcut : ∀ W, Below w.heap.size w W → Calls Tryz.prog 157 #[v] W fun e w' => e = .returned (.tuple #[v', .agg (hV b).toArray, .bool true]) ∧ Below W.heap.size W w')
    (hsp : ∀ W, Calls Tryz.prog 112 #[.int .i64 n] W fun e w' => e = .returned (.int .i64 k) ∧ w' = W)
    (hrec : ∀ W, Below w.heap.size w W → Calls Tryz.prog 130 #[.string s, .int .i64 i, .int .i64 k, v'] W fun e w' => e = .returned (.tuple #[.agg (hV x).toArray, .bool f]) ∧ Below W.heap.size W w')
    (hjn : ∀ W, Below w.heap.size w W → Calls Tryz.prog 113 #[.agg (hV x).toArray, .agg (hV b).toArray] W fun e w' => e = .returned (.agg (hV h).toArray) ∧ Below W.heap.size W w') :
    Calls Tryz.prog 130 #[.string s, .int .i64 i, .int .i64 n, v] w fun e w' => e = .returned (.tuple #[.agg (hV h).toArray, .bool f]) ∧ Below w.heap.size w w' := by
  have R0 := rs_new w
  have hc1 := hcut _ R0.b
  have hn2 : ((n : Int) == 1) = false := by rw [beq_eq_false_iff_ne]; omega
  have ik : (i : Int) < (k : Int) := by omega
  have lb := hV_len hb32
  have lx := hV_len hx32
  have lh := hV_len h32
  have ib := hV_info hb32
  have ix := hV_info hx32
  have ih := hV_info h32
  have ob := hV_one b
  have ox := hV_one x
  have oh := hV_one h
  have HREC : Hid (∀ W, Below w.heap.size w W → Calls Tryz.prog 130 #[.string s, .int .i64 i, .int .i64 k, v'] W fun e w' => e = .returned (.tuple #[.agg (hV x).toArray, .bool f]) ∧ Below W.heap.size W w') := hrec
  have HJN : Hid (∀ W, Below w.heap.size w W → Calls Tryz.prog 113 #[.agg (hV x).toArray, .agg (hV b).toArray] W fun e w' => e = .returned (.agg (hV h).toArray) ∧ Below W.heap.size W w') := hjn
  clear hcut hrec hjn
  go_enter Tryz.func130, Tryz.ntmps130
  go_wp2_with (first | (refine wpList_alloc_of rfl 104 rfl z32.toArray alloc_32 ?_))
  refine hc1.mono ?_
  rintro e w1 ⟨rfl, hb1⟩
  have R1 := R0.step hb1
  have ht1 : (w1.alloc (.cells z32.toArray 104)).there w1.heap.size 0 (hV b).length := by rw [lb]; exact there_z32 w1
  clear hc1 hb1
  go_wp2_with (first | (refine wpList_alloc_of rfl 104 rfl z32.toArray alloc_32 ?_) | (refine wpList_store_abs rfl 104 _ _ rfl w1.heap.size 0 (hV b) rfl rfl ht1 ib ob ?_; intro w2 _hw2 hr2 _ht2 hb2; clear _hw2 _ht2) | (go_at_call 112; refine (hsp _).mono ?_; rintro e wx ⟨rfl, hwx⟩; obtain rfl : w2 = wx := hwx.symm; clear hwx))
  have R2 : RS w.heap.size w w2 := R1.step (((Below.refl _ _).alloc (Nat.le_refl _) _).trans (hb2 _ (Nat.le_refl _)))
  have hs2 : w1.heap.size < w2.heap.size := by have := (hb2 _ (Nat.le_refl _)).size; simp at this; omega
  clear ht1 hb2 hsp
  refine (HREC.out w2 R2.b).mono ?_
  rintro e w3 ⟨rfl, hb3⟩
  have R3 := R2.step hb3
  have hr3 : w3.rangeAt w1.heap.size 0 (hV b) := fun j u hu => (hb3.cell (p := ⟨w1.heap.size, 0 + j, none⟩) hs2).trans (hr2 j u hu)
  have hs3 : w1.heap.size < w3.heap.size := Nat.lt_of_lt_of_le hs2 hb3.size
  have ht3 : (w3.alloc (.cells z32.toArray 104)).there w3.heap.size 0 (hV x).length := by rw [lx]; exact there_z32 w3
  clear hb3 hr2
  go_wp2_with (first | (refine wpList_alloc_of rfl 104 rfl z32.toArray alloc_32 ?_) | (refine wpList_store_abs rfl 104 _ _ rfl w3.heap.size 0 (hV x) rfl rfl ht3 ix ox ?_; intro w4 _hw4 hr4 _ht4 hb4; clear _hw4 _ht4; have hr4b : w4.rangeAt w1.heap.size 0 (hV b) := fun j u hu => ((hb4 _ (Nat.le_refl _)).cell (p := ⟨w1.heap.size, 0 + j, none⟩) hs3).trans ((World.cell?_alloc_past _ _ _ hs3).trans (hr3 j u hu))) | (refine wpList_load_mid rfl 104 (.tmp 14) rfl w3.heap.size 0 rfl (hV x) _ hr4 Tryz.underlying104 rfl ix ?_) | (refine wpList_load_mid rfl 104 (.tmp 11) rfl w1.heap.size 0 rfl (hV b) _ hr4b Tryz.underlying104 rfl ib ?_))
  have R4 : RS w.heap.size w w4 := R3.step (((Below.refl _ _).alloc (Nat.le_refl _) _).trans (hb4 _ (Nat.le_refl _)))
  refine (HJN.out w4 R4.b).mono ?_
  rintro e w5 ⟨rfl, hb5⟩
  have R5 := R4.step hb5
  have ht5 : w5.there w.heap.size 0 (hV h).length := by rw [lh]; exact R5.t
  clear hr4 hr4b hb4 hr3 ht3
  go_wp2_with (refine wpList_store_abs rfl 104 _ _ rfl w.heap.size 0 (hV h) rfl rfl ht5 ih oh ?_; intro w6 _hw6 hr6 _ht6 hb6; clear _hw6 _ht6)
  exact ret_cell_tmp rfl w.heap.size 0 (hV h) _ _ rfl rfl hr6 Tryz.underlying104 rfl ih rfl ⟨rfl, R5.b.trans (hb6 _ (Nat.le_refl _))⟩

set_option maxRecDepth 10000 in
set_option maxHeartbeats 1000000 in
theorem climb_right (s : ByteArray) (i n k : Nat) (v v' : Value) (b x h : ByteArray) (f : Bool) (w : World) (hn : 2 ≤ n) (hn1 : n ≤ 2147483647) (hk1 : k < n) (hi1 : i < n) (hik : k ≤ i) (hb32 : b.size = 32) (hx32 : x.size = 32) (h32 : h.size = 32)
    (hcut : ∀ W, Below w.heap.size w W → Calls Tryz.prog 157 #[v] W fun e w' => e = .returned (.tuple #[v', .agg (hV b).toArray, .bool true]) ∧ Below W.heap.size W w')
    (hsp : ∀ W, Calls Tryz.prog 112 #[.int .i64 n] W fun e w' => e = .returned (.int .i64 k) ∧ w' = W)
    (hrec : ∀ W, Below w.heap.size w W → Calls Tryz.prog 130 #[.string s, .int .i64 ((i : Int) - (k : Int)), .int .i64 ((n : Int) - (k : Int)), v'] W fun e w' => e = .returned (.tuple #[.agg (hV x).toArray, .bool f]) ∧ Below W.heap.size W w')
    (hjn : ∀ W, Below w.heap.size w W → Calls Tryz.prog 113 #[.agg (hV b).toArray, .agg (hV x).toArray] W fun e w' => e = .returned (.agg (hV h).toArray) ∧ Below W.heap.size W w') :
    Calls Tryz.prog 130 #[.string s, .int .i64 i, .int .i64 n, v] w fun e w' => e = .returned (.tuple #[.agg (hV h).toArray, .bool f]) ∧ Below w.heap.size w w' := by
  have R0 := rs_new w
  have hc1 := hcut _ R0.b
  have hn2 : ((n : Int) == 1) = false := by rw [beq_eq_false_iff_ne]; omega
  have ik : ¬ (i : Int) < (k : Int) := by omega
  have ik2 : (k : Int) ≤ (i : Int) := by omega
  have ik3 : (i : Int) < (n : Int) := by omega
  have lb := hV_len hb32
  have lx := hV_len hx32
  have lh := hV_len h32
  have ib := hV_info hb32
  have ix := hV_info hx32
  have ih := hV_info h32
  have ob := hV_one b
  have ox := hV_one x
  have oh := hV_one h
  have HREC : Hid (∀ W, Below w.heap.size w W → Calls Tryz.prog 130 #[.string s, .int .i64 ((i : Int) - (k : Int)), .int .i64 ((n : Int) - (k : Int)), v'] W fun e w' => e = .returned (.tuple #[.agg (hV x).toArray, .bool f]) ∧ Below W.heap.size W w') := hrec
  have HJN : Hid (∀ W, Below w.heap.size w W → Calls Tryz.prog 113 #[.agg (hV b).toArray, .agg (hV x).toArray] W fun e w' => e = .returned (.agg (hV h).toArray) ∧ Below W.heap.size W w') := hjn
  clear hcut hrec hjn
  go_enter Tryz.func130, Tryz.ntmps130
  go_wp2_with (first | (refine wpList_alloc_of rfl 104 rfl z32.toArray alloc_32 ?_))
  refine hc1.mono ?_
  rintro e w1 ⟨rfl, hb1⟩
  have R1 := R0.step hb1
  have ht1 : (w1.alloc (.cells z32.toArray 104)).there w1.heap.size 0 (hV b).length := by rw [lb]; exact there_z32 w1
  clear hc1 hb1
  go_wp2_with (first | (refine wpList_alloc_of rfl 104 rfl z32.toArray alloc_32 ?_) | (refine wpList_store_abs rfl 104 _ _ rfl w1.heap.size 0 (hV b) rfl rfl ht1 ib ob ?_; intro w2 _hw2 hr2 _ht2 hb2; clear _hw2 _ht2) | (go_at_call 112; refine (hsp _).mono ?_; rintro e wx ⟨rfl, hwx⟩; obtain rfl : w2 = wx := hwx.symm; clear hwx))
  have R2 : RS w.heap.size w w2 := R1.step (((Below.refl _ _).alloc (Nat.le_refl _) _).trans (hb2 _ (Nat.le_refl _)))
  have hs2 : w1.heap.size < w2.heap.size := by have := (hb2 _ (Nat.le_refl _)).size; simp at this; omega
  clear ht1 hb2 hsp
  refine (HREC.out w2 R2.b).mono ?_
  rintro e w3 ⟨rfl, hb3⟩
  have R3 := R2.step hb3
  have hr3 : w3.rangeAt w1.heap.size 0 (hV b) := fun j u hu => (hb3.cell (p := ⟨w1.heap.size, 0 + j, none⟩) hs2).trans (hr2 j u hu)
  have hs3 : w1.heap.size < w3.heap.size := Nat.lt_of_lt_of_le hs2 hb3.size
  have ht3 : (w3.alloc (.cells z32.toArray 104)).there w3.heap.size 0 (hV x).length := by rw [lx]; exact there_z32 w3
  clear hb3 hr2
  go_wp2_with (first | (refine wpList_alloc_of rfl 104 rfl z32.toArray alloc_32 ?_) | (refine wpList_store_abs rfl 104 _ _ rfl w3.heap.size 0 (hV x) rfl rfl ht3 ix ox ?_; intro w4 _hw4 hr4 _ht4 hb4; clear _hw4 _ht4; have hr4b : w4.rangeAt w1.heap.size 0 (hV b) := fun j u hu => ((hb4 _ (Nat.le_refl _)).cell (p := ⟨w1.heap.size, 0 + j, none⟩) hs3).trans ((World.cell?_alloc_past _ _ _ hs3).trans (hr3 j u hu))) | (refine wpList_load_mid rfl 104 (.tmp 16) rfl w3.heap.size 0 rfl (hV x) _ hr4 Tryz.underlying104 rfl ix ?_) | (refine wpList_load_mid rfl 104 (.tmp 11) rfl w1.heap.size 0 rfl (hV b) _ hr4b Tryz.underlying104 rfl ib ?_))
  have R4 : RS w.heap.size w w4 := R3.step (((Below.refl _ _).alloc (Nat.le_refl _) _).trans (hb4 _ (Nat.le_refl _)))
  refine (HJN.out w4 R4.b).mono ?_
  rintro e w5 ⟨rfl, hb5⟩
  have R5 := R4.step hb5
  have ht5 : w5.there w.heap.size 0 (hV h).length := by rw [lh]; exact R5.t
  clear hr4 hr4b hb4 hr3 ht3
  go_wp2_with (refine wpList_store_abs rfl 104 _ _ rfl w.heap.size 0 (hV h) rfl rfl ht5 ih oh ?_; intro w6 _hw6 hr6 _ht6 hb6; clear _hw6 _ht6)
  exact ret_cell_tmp rfl w.heap.size 0 (hV h) _ _ rfl rfl hr6 Tryz.underlying104 rfl ih rfl ⟨rfl, R5.b.trans (hb6 _ (Nat.le_refl _))⟩

/-- The program's climb: what a proof makes of a leaf. -/
theorem climb_any (K : Nat → Int) (s : ByteArray) (hs : s.size ≤ 140737488355000) : ∀ (m : Nat) (pf : List ByteArray) (v : Value) (i n : Nat) (w : World), pf.length = m → m ≤ 1000000000 → i < n → n ≤ 2147483647 → LeafAt w v pf → Tab K w →
    Calls Tryz.prog 130 #[.string s, .int .i64 i, .int .i64 n, v] w fun e w' => e = .returned (.tuple #[.agg (hV (climbF (sumOf K) s i n pf).1).toArray, .bool (climbF (sumOf K) s i n pf).2]) ∧ Below w.heap.size w w' := by
  intro m
  induction m with
  | zero =>
    intro pf v i n w hm hm1 hin hn1 hl T
    obtain rfl : pf = [] := List.eq_nil_of_length_eq_zero hm
    obtain ⟨ao, cap, rfl⟩ := leaf_form hl
    by_cases h1 : n = 1
    · subst h1
      rw [climbF_one]
      exact climb_one s i ao 0 cap _ w (sumOf_size K _) (fun W hb => rone_any s K W hs (T.below hb))
    · rw [climbF_none _ _ _ _ h1, z32_hV]
      exact climb_bad s i n _ (.slice none 0 0) z32 w (by rw [beq_eq_false_iff_ne]; omega) rfl z32_onet (fun W hb => cut_nil ao cap W)
  | succ m ih =>
    intro pf v i n w hm hm1 hin hn1 hl T
    obtain ⟨rest, b, rfl⟩ : ∃ rest b, pf = rest ++ [b] := ⟨pf.dropLast, pf.getLast (by intro e; subst e; simp at hm), (List.dropLast_concat_getLast _).symm⟩
    have hrl : rest.length = m := by simp at hm; exact hm
    obtain ⟨g, off, cap, rfl, hcap, hc⟩ : ∃ g off cap, v = .slice (some ⟨g, off, none⟩) (rest ++ [b]).length cap ∧ (rest ++ [b]).length ≤ cap ∧ ∀ j (h : j < (rest ++ [b]).length), w.cell? ⟨g, off + j, none⟩ = some (.string ((rest ++ [b])[j]'h)) := by
      rcases hl with ⟨e, _⟩ | h
      · simp at e
      · exact h
    by_cases h1 : n = 1
    · subst h1
      rw [climbF_one]
      have := climb_one s i (some ⟨g, off, none⟩) (rest ++ [b]).length cap _ w (sumOf_size K (m0 ++ s)) (fun W hb => rone_any s K W hs (T.below hb))
      rw [show (((rest ++ [b]).length : Int) == 0) = (rest ++ [b]).isEmpty by rw [show (rest ++ [b]).isEmpty = false by simp]; rw [beq_eq_false_iff_ne]; simp; omega] at this
      exact this
    · have hlen : (rest ++ [b]).length = m + 1 := hm
      have hcm : w.cell? ⟨g, off + m, none⟩ = some (.string b) := by
        have := hc m (by omega)
        rw [this]; simp [← hrl]
      have hcut : ∀ W, Below w.heap.size w W → Calls Tryz.prog 157 #[.slice (some ⟨g, off, none⟩) (m + 1) cap] W fun e w' => e = .returned (.tuple #[.slice (some ⟨g, off, none⟩) m cap, .agg (cutV b).toArray, .bool (b.size == 32)]) ∧ Below W.heap.size W w' := fun W hb =>
        cut_any g off m cap b W ((hb.cell (World.block_lt_of_cell? w _ hcm)).trans hcm) (by omega) (by omega)
      rw [hlen]
      have lR : ∀ W, Below w.heap.size w W → LeafAt W (.slice (some ⟨g, off, none⟩) m cap) rest := fun W hb => by
        refine LeafAt.below (w := w) ?_ hb
        refine Or.inr ⟨g, off, cap, by rw [hrl], by omega, fun j hj => ?_⟩
        rw [hc j (by simp; omega), List.getElem_append_left hj]
      by_cases hb32 : b.size = 32
      · have hcV : cutV b = hV b := by unfold cutV; rw [if_pos hb32]
        have hok : (b.size == 32) = true := by rw [hb32]; rfl
        rw [hcV, hok] at hcut
        have h2 : 2 ≤ n := by omega
        have hk0 := halfN_pos n
        have hk1 := halfN_lt h2
        by_cases hik : i < halfN n
        · rw [climbF_left _ _ _ _ h1 _ _ hb32 hik]
          exact climb_left s i n (halfN n) _ _ b _ _ _ w h2 hn1 hk1 hin hik hb32 (climbF_size _ (sumOf_size K) _ _ _ _) (sumOf_size K _) hcut (fun W => split_any n W h2 hn1)
            (fun W hb => ih rest _ i (halfN n) W hrl (by omega) hik (by omega) (lR W hb) (T.below hb))
            (fun W hb => join_any _ _ K W (climbF_size _ (sumOf_size K) _ _ _ _) hb32 (T.below hb))
        · rw [climbF_right _ _ _ _ h1 _ _ hb32 hik]
          exact climb_right s i n (halfN n) _ _ b _ _ _ w h2 hn1 hk1 hin (by omega) hb32 (climbF_size _ (sumOf_size K) _ _ _ _) (sumOf_size K _) hcut (fun W => split_any n W h2 hn1)
            (fun W hb => by
              have := ih rest _ (i - halfN n) (n - halfN n) W hrl (by omega) (by omega) (by omega) (lR W hb) (T.below hb)
              rw [show ((i - halfN n : Nat) : Int) = (i : Int) - (halfN n : Int) by omega, show ((n - halfN n : Nat) : Int) = (n : Int) - (halfN n : Int) by omega] at this
              exact this)
            (fun W hb => join_any _ _ K W hb32 (climbF_size _ (sumOf_size K) _ _ _ _) (T.below hb))
      · rw [climbF_bad _ _ _ _ h1 _ _ hb32, z32_hV]
        have hok : (b.size == 32) = false := by simp [hb32]
        rw [hok] at hcut
        exact climb_bad s i n _ _ _ w (by rw [beq_eq_false_iff_ne]; omega) (cutV_len b) (cutV_one b) hcut
set_option maxRecDepth 10000 in
set_option maxHeartbeats 1000000 in
theorem chk_root (s r : ByteArray) (i n : Nat) (v : Value) (w : World) (hin : i < n) (hn1 : n ≤ 2147483647) (hr : r.size ≠ 32) :
    Calls Tryz.prog 87 #[.string s, .int .i64 i, .int .i64 n, .string r, v] w fun e w' => e = .returned (.iface 41 (.int .i64 14)) ∧ Below w.heap.size w w' := by
  have i0 : ¬ (i : Int) < 0 := by omega
  have i1 : ¬ (n : Int) ≤ (i : Int) := by omega
  have i2 : ¬ (2147483647 : Int) < (n : Int) := by omega
  have hrd := read_no r w hr
  have lz := z32_len
  have oz := z32_onet
  go_enter Tryz.func87, Tryz.ntmps87
  go_wp2_with fail
  refine hrd.mono ?_
  rintro e w1 ⟨rfl, hb1⟩
  have ht1 : (w1.alloc (.cells z32.toArray 104)).there w1.heap.size 0 z32.length := there_z32 w1
  go_wp2_with (first | (refine wpList_alloc_of rfl 104 rfl z32.toArray alloc_32 ?_) | (refine wpList_store_abs rfl 104 _ _ rfl w1.heap.size 0 z32 rfl rfl ht1 z32_info oz ?_; intro w2 _hw2 hr2 _ht2 hb2; clear _hw2 _ht2))
  go_ret
  exact ⟨rfl, hb1.trans (((Below.refl _ _).alloc hb1.size _).trans (hb2 _ hb1.size))⟩

set_option maxRecDepth 10000 in
set_option maxHeartbeats 1000000 in
theorem chk_any (s r x : ByteArray) (f : Bool) (i n : Nat) (v : Value) (w : World) (hin : i < n) (hn1 : n ≤ 2147483647) (hr : r.size = 32) (hx : x.size = 32)
    (hcl : ∀ W, Below w.heap.size w W → Calls Tryz.prog 130 #[.string s, .int .i64 i, .int .i64 n, v] W fun e w' => e = .returned (.tuple #[.agg (hV x).toArray, .bool f]) ∧ Below W.heap.size W w') :
    Calls Tryz.prog 87 #[.string s, .int .i64 i, .int .i64 n, .string r, v] w fun e w' => e = .returned (chkV (f && decide (x = r))) ∧ Below w.heap.size w w' := by
  have i0 : ¬ (i : Int) < 0 := by omega
  have i1 : ¬ (n : Int) ≤ (i : Int) := by omega
  have i2 : ¬ (2147483647 : Int) < (n : Int) := by omega
  have hrd := read_yes r w hr
  have lr := hV_len hr
  have lx := hV_len hx
  have ir := hV_info hr
  have ix := hV_info hx
  have oR := hV_one r
  have oX := hV_one x
  have heq : ∀ W, (Op.equalIn 10000 104 (.agg (hV x).toArray) (.agg (hV r).toArray)).run Tryz.prog W = .ok (decide (x = r)) W := hash_eq x r hx hr
  have heq' : ∀ W, (Op.equal 104 (.agg (hV x).toArray) (.agg (hV r).toArray)).run Tryz.prog W = .ok (decide (x = r)) W := heq
  generalize decide (x = r) = same at *
  have HEQ : Hid (∀ W, (Op.equalIn 10000 104 (.agg (hV x).toArray) (.agg (hV r).toArray)).run Tryz.prog W = .ok same W) := heq
  have HEQ' : Hid (∀ W, (Op.equal 104 (.agg (hV x).toArray) (.agg (hV r).toArray)).run Tryz.prog W = .ok same W) := heq'
  have HCL : Hid (∀ W, Below w.heap.size w W → Calls Tryz.prog 130 #[.string s, .int .i64 i, .int .i64 n, v] W fun e w' => e = .returned (.tuple #[.agg (hV x).toArray, .bool f]) ∧ Below W.heap.size W w') := hcl
  clear heq heq' hcl
  go_enter Tryz.func87, Tryz.ntmps87
  go_wp2_with fail
  refine hrd.mono ?_
  rintro e w1 ⟨rfl, hb1⟩
  have ht1 : (w1.alloc (.cells z32.toArray 104)).there w1.heap.size 0 (hV r).length := by rw [lr]; exact there_z32 w1
  go_wp2_with (first | (refine wpList_alloc_of rfl 104 rfl z32.toArray alloc_32 ?_) | (refine wpList_store_abs rfl 104 _ _ rfl w1.heap.size 0 (hV r) rfl rfl ht1 ir oR ?_; intro w2 _hw2 hr2 _ht2 hb2; clear _hw2 _ht2))
  have hB2 : Below w.heap.size w w2 := hb1.trans (((Below.refl _ _).alloc hb1.size _).trans (hb2 _ hb1.size))
  have hs2 : w1.heap.size < w2.heap.size := by have := (hb2 _ (Nat.le_refl _)).size; simp at this; omega
  clear ht1 hb2 hrd
  refine (HCL.out w2 hB2).mono ?_
  rintro e w3 ⟨rfl, hb3⟩
  have hB3 : Below w.heap.size w w3 := hB2.trans (hb3.mono hB2.size)
  have hr3 : w3.rangeAt w1.heap.size 0 (hV r) := fun j u hu => (hb3.cell (p := ⟨w1.heap.size, 0 + j, none⟩) hs2).trans (hr2 j u hu)
  have hs3 : w1.heap.size < w3.heap.size := Nat.lt_of_lt_of_le hs2 hb3.size
  have ht3 : (w3.alloc (.cells z32.toArray 104)).there w3.heap.size 0 (hV x).length := by rw [lx]; exact there_z32 w3
  have heq := HEQ.out
  have heq' := HEQ'.out
  clear hb3 hr2
  cases f
  · go_wp2_with (first | (refine wpList_alloc_of rfl 104 rfl z32.toArray alloc_32 ?_) | (refine wpList_store_abs rfl 104 _ _ rfl w3.heap.size 0 (hV x) rfl rfl ht3 ix oX ?_; intro w4 _hw4 hr4 _ht4 hb4; clear _hw4 _ht4))
    go_ret
    exact ⟨rfl, hB3.trans (((Below.refl _ _).alloc hB3.size _).trans (hb4 _ hB3.size))⟩
  · cases same
    · go_wp2_with (first | (refine wpList_alloc_of rfl 104 rfl z32.toArray alloc_32 ?_) | (refine wpList_store_abs rfl 104 _ _ rfl w3.heap.size 0 (hV x) rfl rfl ht3 ix oX ?_; intro w4 _hw4 hr4 _ht4 hb4; clear _hw4 _ht4; have hr4b : w4.rangeAt w1.heap.size 0 (hV r) := fun j u hu => ((hb4 _ (Nat.le_refl _)).cell (p := ⟨w1.heap.size, 0 + j, none⟩) hs3).trans ((World.cell?_alloc_past _ _ _ hs3).trans (hr3 j u hu))) | (refine wpList_load_wanted (by rfl) 104 (.tmp 13) rfl w3.heap.size 0 rfl (hV x) _ hr4 Tryz.underlying104 rfl ix ?_) | (refine wpList_load_wanted (by rfl) 104 (.tmp 11) rfl w1.heap.size 0 rfl (hV r) _ hr4b Tryz.underlying104 rfl ir ?_))
      go_ret
      exact ⟨rfl, hB3.trans (((Below.refl _ _).alloc hB3.size _).trans (hb4 _ hB3.size))⟩
    · go_wp2_with (first | (refine wpList_alloc_of rfl 104 rfl z32.toArray alloc_32 ?_) | (refine wpList_store_abs rfl 104 _ _ rfl w3.heap.size 0 (hV x) rfl rfl ht3 ix oX ?_; intro w4 _hw4 hr4 _ht4 hb4; clear _hw4 _ht4; have hr4b : w4.rangeAt w1.heap.size 0 (hV r) := fun j u hu => ((hb4 _ (Nat.le_refl _)).cell (p := ⟨w1.heap.size, 0 + j, none⟩) hs3).trans ((World.cell?_alloc_past _ _ _ hs3).trans (hr3 j u hu))) | (refine wpList_load_wanted (by rfl) 104 (.tmp 13) rfl w3.heap.size 0 rfl (hV x) _ hr4 Tryz.underlying104 rfl ix ?_) | (refine wpList_load_wanted (by rfl) 104 (.tmp 11) rfl w1.heap.size 0 rfl (hV r) _ hr4b Tryz.underlying104 rfl ir ?_))
      go_ret
      exact ⟨rfl, hB3.trans (((Below.refl _ _).alloc hB3.size _).trans (hb4 _ hB3.size))⟩

/-- Does a check take the proof? -/
def inclOk (K : Nat → Int) (s : ByteArray) (i n : Nat) (r : ByteArray) (pf : List ByteArray) : Bool := decide (r.size = 32) && ((climbF (sumOf K) s i n pf).2 && decide ((climbF (sumOf K) s i n pf).1 = r))

def errSd : Value := .iface 41 (.int .i64 11)
def errSg : Value := .iface 41 (.int .i64 13)
/-- The leaves of all keys. -/
def leavesF (H : ByteArray → ByteArray) (seed : ByteArray) (n : Nat) : List ByteArray := (List.range n).map (leafF H seed)
theorem leavesF_len (H : ByteArray → ByteArray) (seed : ByteArray) (n : Nat) : (leavesF H seed n).length = n := by unfold leavesF; simp
theorem leafF_size (K : Nat → Int) (seed : ByteArray) (k : Nat) : (leafF (sumOf K) seed k).size = 2144 :=
  chainsT_size (sumOf K) (sumOf_size K) (beginF (sumOf K) seed k) (fun _ => 15) (fun c => sumOf_size K _) 67
theorem leavesF_small (K : Nat → Int) (seed : ByteArray) (n : Nat) : ∀ s ∈ leavesF (sumOf K) seed n, s.size ≤ 140737488355000 := by
  intro s hs
  unfold leavesF at hs
  rw [List.mem_map] at hs
  obtain ⟨k, _, rfl⟩ := hs
  rw [leafF_size]; omega

set_option maxRecDepth 10000 in
set_option maxHeartbeats 400000 in
theorem tincl_any (K : Nat → Int) (ls : List ByteArray) (v : Value) (i : Nat) (w : World) (hin : i < ls.length) (hn1 : ls.length ≤ 2147483647) (hl : LeafAt w v ls) (hs : ∀ s ∈ ls, s.size ≤ 140737488355000) (T : Tab K w) :
    Calls Tryz.prog 85 #[v, .int .i64 i] w fun e w' => ∃ ao cap, e = .returned (.tuple #[.slice ao (inclF (sumOf K) ls i).length cap, .nilIface]) ∧ w'.ownsRow w.heap.size 9 1 (.slice ao (inclF (sumOf K) ls i).length cap) (inclF (sumOf K) ls i).length ((inclF (sumOf K) ls i).map .string) ∧ Below w.heap.size w w' := by
  have hp := path_any K _ ls v i w rfl hin hn1 hl hs T
  obtain ⟨g, off, cap, rfl, hcap, hc⟩ : ∃ g off cap, v = .slice (some ⟨g, off, none⟩) ls.length cap ∧ ls.length ≤ cap ∧ ∀ j (h : j < ls.length), w.cell? ⟨g, off + j, none⟩ = some (.string (ls[j]'h)) := by
    rcases hl with ⟨rfl, _⟩ | h
    · simp at hin
    · exact h
  generalize inclF (sumOf K) ls i = F at *
  have HP : Hid (Calls Tryz.prog 129 #[.slice (some ⟨g, off, none⟩) ls.length cap, .int .i64 i] w fun e w' => madeL w w' e F) := hp
  clear hp hc hl hs T
  generalize ls.length = N at *
  have i0 : ¬ (i : Int) < 0 := by omega
  have i1 : ¬ (N : Int) ≤ (i : Int) := by omega
  go_enter Tryz.func85, Tryz.ntmps85
  go_wp2_with fail
  refine HP.out.mono ?_
  rintro e w1 ⟨ao, cp, rfl, ho, hb⟩
  go_wp2_with fail
  go_ret2
  exact ⟨ao, cp, rfl, ho, hb⟩
theorem tchk_any (K : Nat → Int) (s r : ByteArray) (i n : Nat) (pf : List ByteArray) (v : Value) (w : World) (hs : s.size ≤ 140737488355000) (hin : i < n) (hn1 : n ≤ 2147483647) (hl : LeafAt w v pf) (hpf : pf.length ≤ 1000000000) (T : Tab K w) :
    Calls Tryz.prog 87 #[.string s, .int .i64 i, .int .i64 n, .string r, v] w fun e w' => e = .returned (chkV (inclOk K s i n r pf)) ∧ Below w.heap.size w w' := by
  by_cases hr : r.size = 32
  · have := chk_any s r _ _ i n v w hin hn1 hr (climbF_size _ (sumOf_size K) s i n pf) (fun W hb => climb_any K s hs _ pf v i n W rfl hpf hin hn1 (hl.below hb) (T.below hb))
    rw [show inclOk K s i n r pf = ((climbF (sumOf K) s i n pf).2 && decide ((climbF (sumOf K) s i n pf).1 = r)) by unfold inclOk; simp [hr]]
    exact this
  · have := chk_root s r i n v w hin hn1 hr
    rw [show inclOk K s i n r pf = false by unfold inclOk; simp [hr]]
    exact this
set_option maxRecDepth 10000 in
set_option maxHeartbeats 400000 in
theorem tchk_err (s r : ByteArray) (i n : Int) (v : Value) (w : World) (h0 : ¬ i < 0) (h1 : n ≤ i) : Calls Tryz.prog 87 #[.string s, .int .i64 i, .int .i64 n, .string r, v] w fun e w' => e = .returned errIx ∧ Below w.heap.size w w' := by
  go_enter Tryz.func87, Tryz.ntmps87
  go_wp2_with fail
  go_ret
  exact ⟨rfl, Below.refl _ _⟩

/-- The public key. -/
def pubF (H : ByteArray → ByteArray) (seed : ByteArray) (h : Nat) : ByteArray := rootF H (leavesF H seed (2 ^ h))
/-- What the program's PublicKey answers. -/
def pubV (K : Nat → Int) (seed : ByteArray) (h : Int) : Value := if seed.size = 32 ∧ 0 ≤ h ∧ h ≤ 5 then .tuple #[.string (pubF (sumOf K) seed h.toNat), .nilIface] else .tuple #[.string ⟨#[]⟩, errSd]

set_option maxRecDepth 10000 in
set_option maxHeartbeats 400000 in
theorem spub_any (K : Nat → Int) (seed : ByteArray) (h : Int) (w : World) (hs : seed.size ≤ 140737488355000) (T : Tab K w) :
    Calls Tryz.prog 38 #[.string seed, .int .i64 h] w fun e w' => e = .returned (pubV K seed h) ∧ Below w.heap.size w w' := by
  have hf := pfits_any seed h w hs
  by_cases hc : seed.size = 32 ∧ 0 ≤ h ∧ h ≤ 5
  · obtain ⟨n, rfl⟩ : ∃ n : Nat, h = n := ⟨h.toNat, by omega⟩
    have hn : n ≤ 5 := by omega
    rw [show pubV K seed (n : Int) = .tuple #[.string (pubF (sumOf K) seed n), .nilIface] by unfold pubV; rw [if_pos hc]; simp]
    have hd : decide (seed.size = 32 ∧ 0 ≤ (n : Int) ∧ (n : Int) ≤ 5) = true := decide_eq_true hc
    rw [hd] at hf
    have HL : Hid (∀ W, Below w.heap.size w W → Calls Tryz.prog 76 #[.string seed, .int .i64 n] W fun e w' => e = .returned (.slice (some ⟨W.heap.size, 0, none⟩) (2 ^ n) (2 ^ n)) ∧ PartAt W.heap.size (2 ^ n) (2 ^ n) (leafF (sumOf K) seed) W w') := fun W hb => rowLeaves_any K seed n W hn (by omega) (T.below hb)
    have HR : Hid (∀ (B : Nat) W0 W, Below w.heap.size w W → PartAt B (2 ^ n) (2 ^ n) (leafF (sumOf K) seed) W0 W → Calls Tryz.prog 75 #[.slice (some ⟨B, 0, none⟩) (2 ^ n) (2 ^ n)] W fun e w' => e = .returned (.agg (hV (pubF (sumOf K) seed n)).toArray) ∧ Below W.heap.size W w') := fun B W0 W hb HP =>
      root_any K _ (leavesF (sumOf K) seed (2 ^ n)) _ W (leavesF_len _ _ _) (Nat.two_pow_pos n) (Nat.le_trans (Nat.pow_le_pow_right (n := 2) (by omega) hn) (by omega)) HP.leaf (leavesF_small K seed _) (T.below hb)
    have htx := htx_any (pubF (sumOf K) seed n) (rootF_size (sumOf K) (sumOf_size K) _)
    clear T hs hc hd
    generalize pubF (sumOf K) seed n = R at *
    generalize leafF (sumOf K) seed = F at *
    generalize 2 ^ n = N at *
    go_enter Tryz.func38, Tryz.ntmps38
    go_wp2_with fail
    refine hf.mono ?_
    rintro e w1 ⟨rfl, hb1⟩
    clear hf
    go_wp2_with fail
    refine (HL.out w1 hb1).mono ?_
    rintro e w2 ⟨rfl, hp2⟩
    have hb2 : Below w.heap.size w w2 := hb1.trans (hp2.b.mono hb1.size)
    go_wp2_with fail
    refine (HR.out w1.heap.size w1 w2 hb2 hp2).mono ?_
    rintro e w3 ⟨rfl, hb3⟩
    clear hp2
    go_wp2_with fail
    refine (htx w3).mono ?_
    rintro e w4 ⟨rfl, hb4⟩
    clear htx
    go_wp2_with fail
    go_ret2
    exact ⟨rfl, (hb2.trans (hb3.mono hb2.size)).trans (hb4.mono (Nat.le_trans hb2.size hb3.size))⟩
  · rw [show pubV K seed h = .tuple #[.string ⟨#[]⟩, errSd] by unfold pubV; rw [if_neg hc]]
    rw [show decide (seed.size = 32 ∧ 0 ≤ h ∧ h ≤ 5) = false from decide_eq_false hc] at hf
    clear hc T hs
    go_enter Tryz.func38, Tryz.ntmps38
    go_wp2_with fail
    refine hf.mono ?_
    rintro e w1 ⟨rfl, hb1⟩
    clear hf
    go_wp2_with fail
    go_ret2
    exact ⟨rfl, hb1⟩
set_option maxRecDepth 10000 in
set_option maxHeartbeats 400000 in
theorem apub_any (K : Nat → Int) (seed : ByteArray) (h : Int) (w : World) (hs : seed.size ≤ 140737488355000) (T : Tab K w) :
    Calls Tryz.prog 15 #[.string seed, .int .i64 h] w fun e w' => e = .returned (pubV K seed h) ∧ Below w.heap.size w w' := by
  have hp := spub_any K seed h w hs T
  obtain ⟨s, ev, hv⟩ : ∃ s ev, pubV K seed h = .tuple #[.string s, ev] := by unfold pubV; split <;> exact ⟨_, _, rfl⟩
  rw [hv] at hp ⊢
  clear hv T hs
  go_enter Tryz.func15, Tryz.ntmps15
  go_wp2_with fail
  refine hp.mono ?_
  rintro e w1 ⟨rfl, hb1⟩
  clear hp
  go_wp2_with fail
  go_ret2
  exact ⟨rfl, hb1⟩
end Go.Proofs.YteglimjonofdeaaGreatDoor
namespace Go.Proofs.YteglimjonofdeaaGreatDoor

theorem halfN_between {n m : Nat} (hn : 2 ≤ n) (h1 : halfN n < m) (h2 : m ≤ n) : halfN m = halfN n := by
  have h3 := halfN_two hn
  exact (halfN_unique (n := m) (j := Nat.log2 (n - 1)) h1 (by have : n ≤ 2 * 2 ^ Nat.log2 (n - 1) := h3; omega)).symm
/-- The hashes by which a tree is proved to have grown. -/
def grownF (H : ByteArray → ByteArray) (l : List ByteArray) (m : Nat) (whole : Bool) : List ByteArray :=
  if m = l.length then (if whole then [] else [rootF H l]) else
  if h : l.length < 2 then [] else
    if m ≤ halfN l.length then grownF H (l.take (halfN l.length)) m whole ++ [rootF H (l.drop (halfN l.length))]
    else grownF H (l.drop (halfN l.length)) (m - halfN l.length) false ++ [rootF H (l.take (halfN l.length))]
  termination_by l.length
  decreasing_by
    · have := halfN_lt (n := l.length) (by omega); simp; omega
    · have := halfN_pos l.length; simp; omega
theorem grownF_all (H : ByteArray → ByteArray) {l : List ByteArray} {m : Nat} (w : Bool) (h : m = l.length) : grownF H l m w = if w then [] else [rootF H l] := by rw [grownF, if_pos h]
theorem grownF_left (H : ByteArray → ByteArray) {l : List ByteArray} {m : Nat} (w : Bool) (h0 : 0 < m) (h : m < l.length) (hm : m ≤ halfN l.length) : grownF H l m w = grownF H (l.take (halfN l.length)) m w ++ [rootF H (l.drop (halfN l.length))] := by
  rw [grownF, if_neg (by omega), dif_neg (by omega), if_pos hm]
theorem grownF_right (H : ByteArray → ByteArray) {l : List ByteArray} {m : Nat} (w : Bool) (h0 : 0 < m) (h : m < l.length) (hm : ¬ m ≤ halfN l.length) : grownF H l m w = grownF H (l.drop (halfN l.length)) (m - halfN l.length) false ++ [rootF H (l.take (halfN l.length))] := by
  rw [grownF, if_neg (by omega), dif_neg (by omega), if_neg hm]
theorem grownF_len (H : ByteArray → ByteArray) : ∀ (n : Nat) (l : List ByteArray) (m : Nat) (w : Bool), l.length = n → 0 < m → m ≤ n → (grownF H l m w).length ≤ n := by
  intro n
  induction n using Nat.strongRecOn with
  | _ n ih =>
  intro l m w hn h0 hm
  by_cases h1 : m = l.length
  · rw [grownF_all H w h1]; cases w <;> simp <;> omega
  · have h2 : 2 ≤ l.length := by omega
    have hk0 := halfN_pos l.length
    have hk1 := halfN_lt h2
    by_cases hi : m ≤ halfN l.length
    · rw [grownF_left H w h0 (by omega) hi]
      have := ih (halfN l.length) (by omega) (l.take (halfN l.length)) m w (by simp; omega) h0 hi
      simp; omega
    · rw [grownF_right H w h0 (by omega) hi]
      have := ih (l.length - halfN l.length) (by omega) (l.drop (halfN l.length)) (m - halfN l.length) false (by simp) (by omega) (by omega)
      simp; omega
def zT : ByteArray := strOfNums (List.replicate 32 0)
theorem zT_size : zT.size = 32 := rfl
/-- The two roots to which a proof leads, and if it has the hashes that it needs. -/
def regF (H : ByteArray → ByteArray) (known : ByteArray) (m n : Nat) (whole : Bool) (pf : List ByteArray) : ByteArray × ByteArray × Bool :=
  if m = n ∧ whole = true then (known, known, pf.isEmpty) else
  match h : pf.getLast? with
  | none => (zT, zT, false)
  | some b => if b.size = 32 then
      (if m = n then (b, b, pf.dropLast.isEmpty) else
       if m ≤ halfN n then ((regF H known m (halfN n) whole pf.dropLast).1, H (m1 ++ (regF H known m (halfN n) whole pf.dropLast).2.1 ++ b), (regF H known m (halfN n) whole pf.dropLast).2.2)
       else (H (m1 ++ b ++ (regF H known (m - halfN n) (n - halfN n) false pf.dropLast).1), H (m1 ++ b ++ (regF H known (m - halfN n) (n - halfN n) false pf.dropLast).2.1), (regF H known (m - halfN n) (n - halfN n) false pf.dropLast).2.2))
      else (zT, zT, false)
  termination_by pf.length
  decreasing_by all_goals (have : pf ≠ [] := by intro e; rw [e] at h; simp at h) <;> (have := List.length_pos_iff.2 this) <;> simp <;> omega
theorem regF_whole (H : ByteArray → ByteArray) (known : ByteArray) (n : Nat) (pf : List ByteArray) : regF H known n n true pf = (known, known, pf.isEmpty) := by rw [regF, if_pos ⟨rfl, rfl⟩]
theorem regF_none (H : ByteArray → ByteArray) (known : ByteArray) (m n : Nat) (whole : Bool) (hn : ¬ (m = n ∧ whole = true)) : regF H known m n whole [] = (zT, zT, false) := by rw [regF, if_neg hn]; rfl
theorem regF_bad (H : ByteArray → ByteArray) (known : ByteArray) (m n : Nat) (whole : Bool) (hn : ¬ (m = n ∧ whole = true)) (pf : List ByteArray) (b : ByteArray) (hb : b.size ≠ 32) : regF H known m n whole (pf ++ [b]) = (zT, zT, false) := by
  rw [regF, if_neg hn]
  split
  · rfl
  · rename_i b' h
    rw [List.getLast?_concat] at h
    obtain rfl := Option.some.inj h
    rw [if_neg hb]
theorem regF_all (H : ByteArray → ByteArray) (known : ByteArray) (n : Nat) (pf : List ByteArray) (b : ByteArray) (hb : b.size = 32) : regF H known n n false (pf ++ [b]) = (b, b, pf.isEmpty) := by
  rw [regF, if_neg (by simp)]
  split
  · rename_i h; rw [List.getLast?_concat] at h; cases h
  · rename_i b' h
    rw [List.getLast?_concat] at h
    obtain rfl := Option.some.inj h
    rw [if_pos hb, if_pos rfl, List.dropLast_concat]
theorem regF_left (H : ByteArray → ByteArray) (known : ByteArray) (m n : Nat) (whole : Bool) (hn : m ≠ n) (pf : List ByteArray) (b : ByteArray) (hb : b.size = 32) (hi : m ≤ halfN n) :
    regF H known m n whole (pf ++ [b]) = ((regF H known m (halfN n) whole pf).1, H (m1 ++ (regF H known m (halfN n) whole pf).2.1 ++ b), (regF H known m (halfN n) whole pf).2.2) := by
  rw [regF, if_neg (fun h => hn h.1)]
  split
  · rename_i h; rw [List.getLast?_concat] at h; cases h
  · rename_i b' h
    rw [List.getLast?_concat] at h
    obtain rfl := Option.some.inj h
    rw [if_pos hb, if_neg hn, if_pos hi, List.dropLast_concat]
theorem regF_right (H : ByteArray → ByteArray) (known : ByteArray) (m n : Nat) (whole : Bool) (hn : m ≠ n) (pf : List ByteArray) (b : ByteArray) (hb : b.size = 32) (hi : ¬ m ≤ halfN n) :
    regF H known m n whole (pf ++ [b]) = (H (m1 ++ b ++ (regF H known (m - halfN n) (n - halfN n) false pf).1), H (m1 ++ b ++ (regF H known (m - halfN n) (n - halfN n) false pf).2.1), (regF H known (m - halfN n) (n - halfN n) false pf).2.2) := by
  rw [regF, if_neg (fun h => hn h.1)]
  split
  · rename_i h; rw [List.getLast?_concat] at h; cases h
  · rename_i b' h
    rw [List.getLast?_concat] at h
    obtain rfl := Option.some.inj h
    rw [if_pos hb, if_neg hn, if_neg hi, List.dropLast_concat]
theorem snoc_of {α : Type} {pf : List α} (h : pf ≠ []) : ∃ rest b, pf = rest ++ [b] := ⟨pf.dropLast, pf.getLast h, (List.dropLast_concat_getLast _).symm⟩
theorem regF_sizes (H : ByteArray → ByteArray) (hH : ∀ s, (H s).size = 32) (known : ByteArray) (hk : known.size = 32) : ∀ (q : Nat) (pf : List ByteArray) (m n : Nat) (whole : Bool), pf.length = q → (regF H known m n whole pf).1.size = 32 ∧ (regF H known m n whole pf).2.1.size = 32 := by
  intro q
  induction q with
  | zero =>
    intro pf m n whole hq
    obtain rfl := List.eq_nil_of_length_eq_zero hq
    by_cases h1 : m = n ∧ whole = true
    · obtain ⟨rfl, rfl⟩ := h1; rw [regF_whole]; exact ⟨hk, hk⟩
    · rw [regF_none H _ _ _ _ h1]; exact ⟨zT_size, zT_size⟩
  | succ q ih =>
    intro pf m n whole hq
    obtain ⟨rest, b, rfl⟩ := snoc_of (pf := pf) (by intro e; subst e; simp at hq)
    have hr : rest.length = q := by simp at hq; exact hq
    by_cases h1 : m = n ∧ whole = true
    · obtain ⟨rfl, rfl⟩ := h1; rw [regF_whole]; exact ⟨hk, hk⟩
    · by_cases hb : b.size = 32
      · by_cases h2 : m = n
        · have hw : whole = false := by cases whole <;> simp_all
          subst h2 hw
          rw [regF_all H _ _ _ _ hb]; exact ⟨hb, hb⟩
        · by_cases hi : m ≤ halfN n
          · rw [regF_left H _ _ _ _ h2 _ _ hb hi]; exact ⟨(ih rest m (halfN n) whole hr).1, hH _⟩
          · rw [regF_right H _ _ _ _ h2 _ _ hb hi]; exact ⟨hH _, hH _⟩
      · rw [regF_bad H _ _ _ _ h1 _ _ hb]; exact ⟨zT_size, zT_size⟩

theorem take_root (H : ByteArray → ByteArray) {l : List ByteArray} {m : Nat} (h2 : 2 ≤ l.length) (hm : ¬ m ≤ halfN l.length) (hm2 : m ≤ l.length) :
    rootF H (l.take m) = H (m1 ++ rootF H (l.take (halfN l.length)) ++ rootF H ((l.drop (halfN l.length)).take (m - halfN l.length))) := by
  have hk0 := halfN_pos l.length
  have hl : (l.take m).length = m := by simp; omega
  have hh : halfN m = halfN l.length := halfN_between h2 (by omega) hm2
  rw [rootF_more H (l := l.take m) (by omega), hl, hh, List.take_take, Nat.min_eq_left (by omega), List.drop_take]
/-- A proof that was made leads to both roots. -/
theorem reg_good (H : ByteArray → ByteArray) (hH : ∀ s, (H s).size = 32) : ∀ (n : Nat) (l : List ByteArray) (m : Nat) (whole : Bool) (known : ByteArray), l.length = n → 0 < m → m ≤ n → (whole = true → known = rootF H (l.take m)) → regF H known m n whole (grownF H l m whole) = (rootF H (l.take m), rootF H l, true) := by
  intro n
  induction n using Nat.strongRecOn with
  | _ n ih =>
  intro l m whole known hl h0 hm hk
  by_cases h1 : m = n
  · subst h1
    rw [grownF_all H whole hl.symm]
    have e : l.take m = l := by rw [← hl]; exact List.take_length
    cases whole
    · rw [if_neg (by simp), show [rootF H l] = [] ++ [rootF H l] from rfl, regF_all H _ _ _ _ (rootF_size H hH _), e]; rfl
    · rw [if_pos rfl, regF_whole, hk rfl, e]; rfl
  · have h2 : 2 ≤ l.length := by omega
    have hk0 := halfN_pos l.length
    have hk1 := halfN_lt h2
    by_cases hi : m ≤ halfN l.length
    · rw [grownF_left H whole h0 (by omega) hi, ← hl, regF_left H _ _ _ _ (by omega) _ _ (rootF_size H hH _) hi]
      have et : (l.take (halfN l.length)).take m = l.take m := by rw [List.take_take, Nat.min_eq_left hi]
      rw [ih (halfN l.length) (by omega) (l.take (halfN l.length)) m whole known (by simp; omega) h0 hi (fun h => by rw [et]; exact hk h), et, rootF_more H h2]
    · rw [grownF_right H whole h0 (by omega) hi, ← hl, regF_right H _ _ _ _ (by omega) _ _ (rootF_size H hH _) hi]
      rw [ih (l.length - halfN l.length) (by omega) (l.drop (halfN l.length)) (m - halfN l.length) false known (by simp) (by omega) (by omega) (fun h => by cases h), rootF_more H h2, take_root H h2 hi (by omega)]

end Go.Proofs.YteglimjonofdeaaGreatDoor
