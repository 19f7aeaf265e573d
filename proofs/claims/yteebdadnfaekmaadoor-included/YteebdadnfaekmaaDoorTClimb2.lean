import Derived.Test.YteebdadnfaekmaaDoorTClimb
set_option linter.unusedVariables false
set_option linter.unusedSimpArgs false
namespace Go.Proofs.YteebdadnfaekmaaDoor
open Go.RowKit

set_option maxRecDepth 10000 in
set_option maxHeartbeats 1000000 in
theorem climb_left (s : ByteArray) (i n k : Nat) (v v' : Value) (b x h : ByteArray) (f : Bool) (w : World) (hn : 2 ≤ n) (hn1 : n ≤ 2147483647) (hk1 : k < n) (hi1 : i < n) (hik : i < k) (hb32 : b.size = 32) (hx32 : x.size = 32) (h32 : h.size = 32)
    (hcut : ∀ W, Below w.heap.size w W → Calls Tryd.prog 85 #[v] W fun e w' => e = .returned (.tuple #[v', .agg (hV b).toArray, .bool true]) ∧ Below W.heap.size W w')
    (hsp : ∀ W, Calls Tryd.prog 58 #[.int .i64 n] W fun e w' => e = .returned (.int .i64 k) ∧ w' = W)
    (hrec : ∀ W, Below w.heap.size w W → Calls Tryd.prog 62 #[.string s, .int .i64 i, .int .i64 k, v'] W fun e w' => e = .returned (.tuple #[.agg (hV x).toArray, .bool f]) ∧ Below W.heap.size W w')
    (hjn : ∀ W, Below w.heap.size w W → Calls Tryd.prog 59 #[.agg (hV x).toArray, .agg (hV b).toArray] W fun e w' => e = .returned (.agg (hV h).toArray) ∧ Below W.heap.size W w') :
    Calls Tryd.prog 62 #[.string s, .int .i64 i, .int .i64 n, v] w fun e w' => e = .returned (.tuple #[.agg (hV h).toArray, .bool f]) ∧ Below w.heap.size w w' := by
  have R0 := rs_new w
  have hc1 := hcut _ R0.b
  have hn2 : ((n : Int) == 1) = false := by rw [beq_eq_false_iff_ne]; omega
  have ik : (i : Int) < (k : Int) := by omega
  have lb := hV_len hb32
  have lx := hV_len hx32
  have lh := hV_len h32
  have ib := hV_info hb32
  have ix := hV_info hx32
  have ih := hV_info h32
  have ob := hV_one b
  have ox := hV_one x
  have oh := hV_one h
  have HREC : Hid (∀ W, Below w.heap.size w W → Calls Tryd.prog 62 #[.string s, .int .i64 i, .int .i64 k, v'] W fun e w' => e = .returned (.tuple #[.agg (hV x).toArray, .bool f]) ∧ Below W.heap.size W w') := hrec
  have HJN : Hid (∀ W, Below w.heap.size w W → Calls Tryd.prog 59 #[.agg (hV x).toArray, .agg (hV b).toArray] W fun e w' => e = .returned (.agg (hV h).toArray) ∧ Below W.heap.size W w') := hjn
  clear hcut hrec hjn
  go_enter Tryd.func62, Tryd.ntmps62
  go_wp2_with (first | (refine wpList_alloc_of rfl 54 rfl z32.toArray alloc_32 ?_))
  refine hc1.mono ?_
  rintro e w1 ⟨rfl, hb1⟩
  have R1 := R0.step hb1
  have ht1 : (w1.alloc (.cells z32.toArray 54)).there w1.heap.size 0 (hV b).length := by rw [lb]; exact there_z32 w1
  clear hc1 hb1
  go_wp2_with (first | (refine wpList_alloc_of rfl 54 rfl z32.toArray alloc_32 ?_) | (refine wpList_store_abs rfl 54 _ _ rfl w1.heap.size 0 (hV b) rfl rfl ht1 ib ob ?_; intro w2 _hw2 hr2 _ht2 hb2; clear _hw2 _ht2) | (go_at_call 58; refine (hsp _).mono ?_; rintro e wx ⟨rfl, hwx⟩; obtain rfl : w2 = wx := hwx.symm; clear hwx))
  have R2 : RS w.heap.size w w2 := R1.step (((Below.refl _ _).alloc (Nat.le_refl _) _).trans (hb2 _ (Nat.le_refl _)))
  have hs2 : w1.heap.size < w2.heap.size := by have := (hb2 _ (Nat.le_refl _)).size; simp at this; omega
  clear ht1 hb2 hsp
  refine (HREC.out w2 R2.b).mono ?_
  rintro e w3 ⟨rfl, hb3⟩
  have R3 := R2.step hb3
  have hr3 : w3.rangeAt w1.heap.size 0 (hV b) := fun j u hu => (hb3.cell (p := ⟨w1.heap.size, 0 + j, none⟩) hs2).trans (hr2 j u hu)
  have hs3 : w1.heap.size < w3.heap.size := Nat.lt_of_lt_of_le hs2 hb3.size
  have ht3 : (w3.alloc (.cells z32.toArray 54)).there w3.heap.size 0 (hV x).length := by rw [lx]; exact there_z32 w3
  clear hb3 hr2
  go_wp2_with (first | (refine wpList_alloc_of rfl 54 rfl z32.toArray alloc_32 ?_) | (refine wpList_store_abs rfl 54 _ _ rfl w3.heap.size 0 (hV x) rfl rfl ht3 ix ox ?_; intro w4 _hw4 hr4 _ht4 hb4; clear _hw4 _ht4; have hr4b : w4.rangeAt w1.heap.size 0 (hV b) := fun j u hu => ((hb4 _ (Nat.le_refl _)).cell (p := ⟨w1.heap.size, 0 + j, none⟩) hs3).trans ((World.cell?_alloc_past _ _ _ hs3).trans (hr3 j u hu))) | (refine wpList_load_mid rfl 54 (.tmp 14) rfl w3.heap.size 0 rfl (hV x) _ hr4 Tryd.underlying54 rfl ix ?_) | (refine wpList_load_mid rfl 54 (.tmp 11) rfl w1.heap.size 0 rfl (hV b) _ hr4b Tryd.underlying54 rfl ib ?_))
  have R4 : RS w.heap.size w w4 := R3.step (((Below.refl _ _).alloc (Nat.le_refl _) _).trans (hb4 _ (Nat.le_refl _)))
  refine (HJN.out w4 R4.b).mono ?_
  rintro e w5 ⟨rfl, hb5⟩
  have R5 := R4.step hb5
  have ht5 : w5.there w.heap.size 0 (hV h).length := by rw [lh]; exact R5.t
  clear hr4 hr4b hb4 hr3 ht3
  go_wp2_with (refine wpList_store_abs rfl 54 _ _ rfl w.heap.size 0 (hV h) rfl rfl ht5 ih oh ?_; intro w6 _hw6 hr6 _ht6 hb6; clear _hw6 _ht6)
  exact ret_cell_tmp rfl w.heap.size 0 (hV h) _ _ rfl rfl hr6 Tryd.underlying54 rfl ih rfl ⟨rfl, R5.b.trans (hb6 _ (Nat.le_refl _))⟩

set_option maxRecDepth 10000 in
set_option maxHeartbeats 1000000 in
theorem climb_right (s : ByteArray) (i n k : Nat) (v v' : Value) (b x h : ByteArray) (f : Bool) (w : World) (hn : 2 ≤ n) (hn1 : n ≤ 2147483647) (hk1 : k < n) (hi1 : i < n) (hik : k ≤ i) (hb32 : b.size = 32) (hx32 : x.size = 32) (h32 : h.size = 32)
    (hcut : ∀ W, Below w.heap.size w W → Calls Tryd.prog 85 #[v] W fun e w' => e = .returned (.tuple #[v', .agg (hV b).toArray, .bool true]) ∧ Below W.heap.size W w')
    (hsp : ∀ W, Calls Tryd.prog 58 #[.int .i64 n] W fun e w' => e = .returned (.int .i64 k) ∧ w' = W)
    (hrec : ∀ W, Below w.heap.size w W → Calls Tryd.prog 62 #[.string s, .int .i64 ((i : Int) - (k : Int)), .int .i64 ((n : Int) - (k : Int)), v'] W fun e w' => e = .returned (.tuple #[.agg (hV x).toArray, .bool f]) ∧ Below W.heap.size W w')
    (hjn : ∀ W, Below w.heap.size w W → Calls Tryd.prog 59 #[.agg (hV b).toArray, .agg (hV x).toArray] W fun e w' => e = .returned (.agg (hV h).toArray) ∧ Below W.heap.size W w') :
    Calls Tryd.prog 62 #[.string s, .int .i64 i, .int .i64 n, v] w fun e w' => e = .returned (.tuple #[.agg (hV h).toArray, .bool f]) ∧ Below w.heap.size w w' := by
  have R0 := rs_new w
  have hc1 := hcut _ R0.b
  have hn2 : ((n : Int) == 1) = false := by rw [beq_eq_false_iff_ne]; omega
  have ik : ¬ (i : Int) < (k : Int) := by omega
  have ik2 : (k : Int) ≤ (i : Int) := by omega
  have ik3 : (i : Int) < (n : Int) := by omega
  have lb := hV_len hb32
  have lx := hV_len hx32
  have lh := hV_len h32
  have ib := hV_info hb32
  have ix := hV_info hx32
  have ih := hV_info h32
  have ob := hV_one b
  have ox := hV_one x
  have oh := hV_one h
  have HREC : Hid (∀ W, Below w.heap.size w W → Calls Tryd.prog 62 #[.string s, .int .i64 ((i : Int) - (k : Int)), .int .i64 ((n : Int) - (k : Int)), v'] W fun e w' => e = .returned (.tuple #[.agg (hV x).toArray, .bool f]) ∧ Below W.heap.size W w') := hrec
  have HJN : Hid (∀ W, Below w.heap.size w W → Calls Tryd.prog 59 #[.agg (hV b).toArray, .agg (hV x).toArray] W fun e w' => e = .returned (.agg (hV h).toArray) ∧ Below W.heap.size W w') := hjn
  clear hcut hrec hjn
  go_enter Tryd.func62, Tryd.ntmps62
  go_wp2_with (first | (refine wpList_alloc_of rfl 54 rfl z32.toArray alloc_32 ?_))
  refine hc1.mono ?_
  rintro e w1 ⟨rfl, hb1⟩
  have R1 := R0.step hb1
  have ht1 : (w1.alloc (.cells z32.toArray 54)).there w1.heap.size 0 (hV b).length := by rw [lb]; exact there_z32 w1
  clear hc1 hb1
  go_wp2_with (first | (refine wpList_alloc_of rfl 54 rfl z32.toArray alloc_32 ?_) | (refine wpList_store_abs rfl 54 _ _ rfl w1.heap.size 0 (hV b) rfl rfl ht1 ib ob ?_; intro w2 _hw2 hr2 _ht2 hb2; clear _hw2 _ht2) | (go_at_call 58; refine (hsp _).mono ?_; rintro e wx ⟨rfl, hwx⟩; obtain rfl : w2 = wx := hwx.symm; clear hwx))
  have R2 : RS w.heap.size w w2 := R1.step (((Below.refl _ _).alloc (Nat.le_refl _) _).trans (hb2 _ (Nat.le_refl _)))
  have hs2 : w1.heap.size < w2.heap.size := by have := (hb2 _ (Nat.le_refl _)).size; simp at this; omega
  clear ht1 hb2 hsp
  refine (HREC.out w2 R2.b).mono ?_
  rintro e w3 ⟨rfl, hb3⟩
  have R3 := R2.step hb3
  have hr3 : w3.rangeAt w1.heap.size 0 (hV b) := fun j u hu => (hb3.cell (p := ⟨w1.heap.size, 0 + j, none⟩) hs2).trans (hr2 j u hu)
  have hs3 : w1.heap.size < w3.heap.size := Nat.lt_of_lt_of_le hs2 hb3.size
  have ht3 : (w3.alloc (.cells z32.toArray 54)).there w3.heap.size 0 (hV x).length := by rw [lx]; exact there_z32 w3
  clear hb3 hr2
  go_wp2_with (first | (refine wpList_alloc_of rfl 54 rfl z32.toArray alloc_32 ?_) | (refine wpList_store_abs rfl 54 _ _ rfl w3.heap.size 0 (hV x) rfl rfl ht3 ix ox ?_; intro w4 _hw4 hr4 _ht4 hb4; clear _hw4 _ht4; have hr4b : w4.rangeAt w1.heap.size 0 (hV b) := fun j u hu => ((hb4 _ (Nat.le_refl _)).cell (p := ⟨w1.heap.size, 0 + j, none⟩) hs3).trans ((World.cell?_alloc_past _ _ _ hs3).trans (hr3 j u hu))) | (refine wpList_load_mid rfl 54 (.tmp 16) rfl w3.heap.size 0 rfl (hV x) _ hr4 Tryd.underlying54 rfl ix ?_) | (refine wpList_load_mid rfl 54 (.tmp 11) rfl w1.heap.size 0 rfl (hV b) _ hr4b Tryd.underlying54 rfl ib ?_))
  have R4 : RS w.heap.size w w4 := R3.step (((Below.refl _ _).alloc (Nat.le_refl _) _).trans (hb4 _ (Nat.le_refl _)))
  refine (HJN.out w4 R4.b).mono ?_
  rintro e w5 ⟨rfl, hb5⟩
  have R5 := R4.step hb5
  have ht5 : w5.there w.heap.size 0 (hV h).length := by rw [lh]; exact R5.t
  clear hr4 hr4b hb4 hr3 ht3
  go_wp2_with (refine wpList_store_abs rfl 54 _ _ rfl w.heap.size 0 (hV h) rfl rfl ht5 ih oh ?_; intro w6 _hw6 hr6 _ht6 hb6; clear _hw6 _ht6)
  exact ret_cell_tmp rfl w.heap.size 0 (hV h) _ _ rfl rfl hr6 Tryd.underlying54 rfl ih rfl ⟨rfl, R5.b.trans (hb6 _ (Nat.le_refl _))⟩

/-- The program's climb: what a proof makes of a leaf. -/
theorem climb_any (K : Nat → Int) (s : ByteArray) (hs : s.size ≤ 140737488355000) : ∀ (m : Nat) (pf : List ByteArray) (v : Value) (i n : Nat) (w : World), pf.length = m → m ≤ 1000000000 → i < n → n ≤ 2147483647 → LeafAt w v pf → Tab K w →
    Calls Tryd.prog 62 #[.string s, .int .i64 i, .int .i64 n, v] w fun e w' => e = .returned (.tuple #[.agg (hV (climbF (sumOf K) s i n pf).1).toArray, .bool (climbF (sumOf K) s i n pf).2]) ∧ Below w.heap.size w w' := by
  intro m
  induction m with
  | zero =>
    intro pf v i n w hm hm1 hin hn1 hl T
    obtain rfl : pf = [] := List.eq_nil_of_length_eq_zero hm
    obtain ⟨ao, cap, rfl⟩ := leaf_form hl
    by_cases h1 : n = 1
    · subst h1
      rw [climbF_one]
      exact climb_one s i ao 0 cap _ w (sumOf_size K _) (fun W hb => rone_any s K W hs (T.below hb))
    · rw [climbF_none _ _ _ _ h1, z32_hV]
      exact climb_bad s i n _ (.slice none 0 0) z32 w (by rw [beq_eq_false_iff_ne]; omega) rfl z32_one (fun W hb => cut_nil ao cap W)
  | succ m ih =>
    intro pf v i n w hm hm1 hin hn1 hl T
    obtain ⟨rest, b, rfl⟩ : ∃ rest b, pf = rest ++ [b] := ⟨pf.dropLast, pf.getLast (by intro e; subst e; simp at hm), (List.dropLast_concat_getLast _).symm⟩
    have hrl : rest.length = m := by simp at hm; exact hm
    obtain ⟨g, off, cap, rfl, hcap, hc⟩ : ∃ g off cap, v = .slice (some ⟨g, off, none⟩) (rest ++ [b]).length cap ∧ (rest ++ [b]).length ≤ cap ∧ ∀ j (h : j < (rest ++ [b]).length), w.cell? ⟨g, off + j, none⟩ = some (.string ((rest ++ [b])[j]'h)) := by
      rcases hl with ⟨e, _⟩ | h
      · simp at e
      · exact h
    by_cases h1 : n = 1
    · subst h1
      rw [climbF_one]
      have := climb_one s i (some ⟨g, off, none⟩) (rest ++ [b]).length cap _ w (sumOf_size K (m0 ++ s)) (fun W hb => rone_any s K W hs (T.below hb))
      rw [show (((rest ++ [b]).length : Int) == 0) = (rest ++ [b]).isEmpty by rw [show (rest ++ [b]).isEmpty = false by simp]; rw [beq_eq_false_iff_ne]; simp; omega] at this
      exact this
    · have hlen : (rest ++ [b]).length = m + 1 := hm
      have hcm : w.cell? ⟨g, off + m, none⟩ = some (.string b) := by
        have := hc m (by omega)
        rw [this]; simp [← hrl]
      have hcut : ∀ W, Below w.heap.size w W → Calls Tryd.prog 85 #[.slice (some ⟨g, off, none⟩) (m + 1) cap] W fun e w' => e = .returned (.tuple #[.slice (some ⟨g, off, none⟩) m cap, .agg (cutV b).toArray, .bool (b.size == 32)]) ∧ Below W.heap.size W w' := fun W hb =>
        cut_any g off m cap b W ((hb.cell (World.block_lt_of_cell? w _ hcm)).trans hcm) (by omega) (by omega)
      rw [hlen]
      have lR : ∀ W, Below w.heap.size w W → LeafAt W (.slice (some ⟨g, off, none⟩) m cap) rest := fun W hb => by
        refine LeafAt.below (w := w) ?_ hb
        refine Or.inr ⟨g, off, cap, by rw [hrl], by omega, fun j hj => ?_⟩
        rw [hc j (by simp; omega), List.getElem_append_left hj]
      by_cases hb32 : b.size = 32
      · have hcV : cutV b = hV b := by unfold cutV; rw [if_pos hb32]
        have hok : (b.size == 32) = true := by rw [hb32]; rfl
        rw [hcV, hok] at hcut
        have h2 : 2 ≤ n := by omega
        have hk0 := halfN_pos n
        have hk1 := halfN_lt h2
        by_cases hik : i < halfN n
        · rw [climbF_left _ _ _ _ h1 _ _ hb32 hik]
          exact climb_left s i n (halfN n) _ _ b _ _ _ w h2 hn1 hk1 hin hik hb32 (climbF_size _ (sumOf_size K) _ _ _ _) (sumOf_size K _) hcut (fun W => split_any n W h2 hn1)
            (fun W hb => ih rest _ i (halfN n) W hrl (by omega) hik (by omega) (lR W hb) (T.below hb))
            (fun W hb => join_any _ _ K W (climbF_size _ (sumOf_size K) _ _ _ _) hb32 (T.below hb))
        · rw [climbF_right _ _ _ _ h1 _ _ hb32 hik]
          exact climb_right s i n (halfN n) _ _ b _ _ _ w h2 hn1 hk1 hin (by omega) hb32 (climbF_size _ (sumOf_size K) _ _ _ _) (sumOf_size K _) hcut (fun W => split_any n W h2 hn1)
            (fun W hb => by
              have := ih rest _ (i - halfN n) (n - halfN n) W hrl (by omega) (by omega) (by omega) (lR W hb) (T.below hb)
              rw [show ((i - halfN n : Nat) : Int) = (i : Int) - (halfN n : Int) by omega, show ((n - halfN n : Nat) : Int) = (n : Int) - (halfN n : Int) by omega] at this
              exact this)
            (fun W hb => join_any _ _ K W hb32 (climbF_size _ (sumOf_size K) _ _ _ _) (T.below hb))
      · rw [climbF_bad _ _ _ _ h1 _ _ hb32, z32_hV]
        have hok : (b.size == 32) = false := by simp [hb32]
        rw [hok] at hcut
        exact climb_bad s i n _ _ _ w (by rw [beq_eq_false_iff_ne]; omega) (cutV_len b) (cutV_one b) hcut
end Go.Proofs.YteebdadnfaekmaaDoor
