import Derived.Test.YteebdadnfaekmaaDoorTClimb2
set_option linter.unusedVariables false
set_option linter.unusedSimpArgs false
namespace Go.Proofs.YteebdadnfaekmaaDoor
open Go.RowKit

set_option maxRecDepth 10000 in
set_option maxHeartbeats 1000000 in
theorem chk_root (s r : ByteArray) (i n : Nat) (v : Value) (w : World) (hin : i < n) (hn1 : n ≤ 2147483647) (hr : r.size ≠ 32) :
    Calls Tryd.prog 33 #[.string s, .int .i64 i, .int .i64 n, .string r, v] w fun e w' => e = .returned (.iface 34 (.int .i64 14)) ∧ Below w.heap.size w w' := by
  have i0 : ¬ (i : Int) < 0 := by omega
  have i1 : ¬ (n : Int) ≤ (i : Int) := by omega
  have i2 : ¬ (2147483647 : Int) < (n : Int) := by omega
  have hrd := read_no r w hr
  have lz := z32_len
  have oz := z32_one
  go_enter Tryd.func33, Tryd.ntmps33
  go_wp2_with fail
  refine hrd.mono ?_
  rintro e w1 ⟨rfl, hb1⟩
  have ht1 : (w1.alloc (.cells z32.toArray 54)).there w1.heap.size 0 z32.length := there_z32 w1
  go_wp2_with (first | (refine wpList_alloc_of rfl 54 rfl z32.toArray alloc_32 ?_) | (refine wpList_store_abs rfl 54 _ _ rfl w1.heap.size 0 z32 rfl rfl ht1 z32_info oz ?_; intro w2 _hw2 hr2 _ht2 hb2; clear _hw2 _ht2))
  go_ret
  exact ⟨rfl, hb1.trans (((Below.refl _ _).alloc hb1.size _).trans (hb2 _ hb1.size))⟩

set_option maxRecDepth 10000 in
set_option maxHeartbeats 1000000 in
theorem chk_any (s r x : ByteArray) (f : Bool) (i n : Nat) (v : Value) (w : World) (hin : i < n) (hn1 : n ≤ 2147483647) (hr : r.size = 32) (hx : x.size = 32)
    (hcl : ∀ W, Below w.heap.size w W → Calls Tryd.prog 62 #[.string s, .int .i64 i, .int .i64 n, v] W fun e w' => e = .returned (.tuple #[.agg (hV x).toArray, .bool f]) ∧ Below W.heap.size W w') :
    Calls Tryd.prog 33 #[.string s, .int .i64 i, .int .i64 n, .string r, v] w fun e w' => e = .returned (chkV (f && decide (x = r))) ∧ Below w.heap.size w w' := by
  have i0 : ¬ (i : Int) < 0 := by omega
  have i1 : ¬ (n : Int) ≤ (i : Int) := by omega
  have i2 : ¬ (2147483647 : Int) < (n : Int) := by omega
  have hrd := read_yes r w hr
  have lr := hV_len hr
  have lx := hV_len hx
  have ir := hV_info hr
  have ix := hV_info hx
  have oR := hV_one r
  have oX := hV_one x
  have heq : ∀ W, (Op.equalIn 10000 54 (.agg (hV x).toArray) (.agg (hV r).toArray)).run Tryd.prog W = .ok (decide (x = r)) W := hash_eq x r hx hr
  have heq' : ∀ W, (Op.equal 54 (.agg (hV x).toArray) (.agg (hV r).toArray)).run Tryd.prog W = .ok (decide (x = r)) W := heq
  generalize decide (x = r) = same at *
  have HEQ : Hid (∀ W, (Op.equalIn 10000 54 (.agg (hV x).toArray) (.agg (hV r).toArray)).run Tryd.prog W = .ok same W) := heq
  have HEQ' : Hid (∀ W, (Op.equal 54 (.agg (hV x).toArray) (.agg (hV r).toArray)).run Tryd.prog W = .ok same W) := heq'
  have HCL : Hid (∀ W, Below w.heap.size w W → Calls Tryd.prog 62 #[.string s, .int .i64 i, .int .i64 n, v] W fun e w' => e = .returned (.tuple #[.agg (hV x).toArray, .bool f]) ∧ Below W.heap.size W w') := hcl
  clear heq heq' hcl
  go_enter Tryd.func33, Tryd.ntmps33
  go_wp2_with fail
  refine hrd.mono ?_
  rintro e w1 ⟨rfl, hb1⟩
  have ht1 : (w1.alloc (.cells z32.toArray 54)).there w1.heap.size 0 (hV r).length := by rw [lr]; exact there_z32 w1
  go_wp2_with (first | (refine wpList_alloc_of rfl 54 rfl z32.toArray alloc_32 ?_) | (refine wpList_store_abs rfl 54 _ _ rfl w1.heap.size 0 (hV r) rfl rfl ht1 ir oR ?_; intro w2 _hw2 hr2 _ht2 hb2; clear _hw2 _ht2))
  have hB2 : Below w.heap.size w w2 := hb1.trans (((Below.refl _ _).alloc hb1.size _).trans (hb2 _ hb1.size))
  have hs2 : w1.heap.size < w2.heap.size := by have := (hb2 _ (Nat.le_refl _)).size; simp at this; omega
  clear ht1 hb2 hrd
  refine (HCL.out w2 hB2).mono ?_
  rintro e w3 ⟨rfl, hb3⟩
  have hB3 : Below w.heap.size w w3 := hB2.trans (hb3.mono hB2.size)
  have hr3 : w3.rangeAt w1.heap.size 0 (hV r) := fun j u hu => (hb3.cell (p := ⟨w1.heap.size, 0 + j, none⟩) hs2).trans (hr2 j u hu)
  have hs3 : w1.heap.size < w3.heap.size := Nat.lt_of_lt_of_le hs2 hb3.size
  have ht3 : (w3.alloc (.cells z32.toArray 54)).there w3.heap.size 0 (hV x).length := by rw [lx]; exact there_z32 w3
  have heq := HEQ.out
  have heq' := HEQ'.out
  clear hb3 hr2
  cases f
  · go_wp2_with (first | (refine wpList_alloc_of rfl 54 rfl z32.toArray alloc_32 ?_) | (refine wpList_store_abs rfl 54 _ _ rfl w3.heap.size 0 (hV x) rfl rfl ht3 ix oX ?_; intro w4 _hw4 hr4 _ht4 hb4; clear _hw4 _ht4))
    go_ret
    exact ⟨rfl, hB3.trans (((Below.refl _ _).alloc hB3.size _).trans (hb4 _ hB3.size))⟩
  · cases same
    · go_wp2_with (first | (refine wpList_alloc_of rfl 54 rfl z32.toArray alloc_32 ?_) | (refine wpList_store_abs rfl 54 _ _ rfl w3.heap.size 0 (hV x) rfl rfl ht3 ix oX ?_; intro w4 _hw4 hr4 _ht4 hb4; clear _hw4 _ht4; have hr4b : w4.rangeAt w1.heap.size 0 (hV r) := fun j u hu => ((hb4 _ (Nat.le_refl _)).cell (p := ⟨w1.heap.size, 0 + j, none⟩) hs3).trans ((World.cell?_alloc_past _ _ _ hs3).trans (hr3 j u hu))) | (refine wpList_load_wanted (by rfl) 54 (.tmp 13) rfl w3.heap.size 0 rfl (hV x) _ hr4 Tryd.underlying54 rfl ix ?_) | (refine wpList_load_wanted (by rfl) 54 (.tmp 11) rfl w1.heap.size 0 rfl (hV r) _ hr4b Tryd.underlying54 rfl ir ?_))
      go_ret
      exact ⟨rfl, hB3.trans (((Below.refl _ _).alloc hB3.size _).trans (hb4 _ hB3.size))⟩
    · go_wp2_with (first | (refine wpList_alloc_of rfl 54 rfl z32.toArray alloc_32 ?_) | (refine wpList_store_abs rfl 54 _ _ rfl w3.heap.size 0 (hV x) rfl rfl ht3 ix oX ?_; intro w4 _hw4 hr4 _ht4 hb4; clear _hw4 _ht4; have hr4b : w4.rangeAt w1.heap.size 0 (hV r) := fun j u hu => ((hb4 _ (Nat.le_refl _)).cell (p := ⟨w1.heap.size, 0 + j, none⟩) hs3).trans ((World.cell?_alloc_past _ _ _ hs3).trans (hr3 j u hu))) | (refine wpList_load_wanted (by rfl) 54 (.tmp 13) rfl w3.heap.size 0 rfl (hV x) _ hr4 Tryd.underlying54 rfl ix ?_) | (refine wpList_load_wanted (by rfl) 54 (.tmp 11) rfl w1.heap.size 0 rfl (hV r) _ hr4b Tryd.underlying54 rfl ir ?_))
      go_ret
      exact ⟨rfl, hB3.trans (((Below.refl _ _).alloc hB3.size _).trans (hb4 _ hB3.size))⟩

/-- Does a check take the proof? -/
def inclOk (K : Nat → Int) (s : ByteArray) (i n : Nat) (r : ByteArray) (pf : List ByteArray) : Bool := decide (r.size = 32) && ((climbF (sumOf K) s i n pf).2 && decide ((climbF (sumOf K) s i n pf).1 = r))

set_option maxRecDepth 10000 in
set_option maxHeartbeats 400000 in
/-- CheckInclusion, at a place. -/
theorem achk_any (K : Nat → Int) (s r : ByteArray) (i n : Nat) (pf : List ByteArray) (v : Value) (w : World) (hs : s.size ≤ 140737488355000) (hin : i < n) (hn1 : n ≤ 2147483647) (hl : LeafAt w v pf) (hpf : pf.length ≤ 1000000000) (T : Tab K w) :
    Calls Tryd.prog 15 #[.string s, .int .i64 i, .int .i64 n, .string r, v] w fun e w' => e = .returned (chkV (inclOk K s i n r pf)) ∧ Below w.heap.size w w' := by
  have hc : Calls Tryd.prog 33 #[.string s, .int .i64 i, .int .i64 n, .string r, v] w fun e w' => e = .returned (chkV (inclOk K s i n r pf)) ∧ Below w.heap.size w w' := by
    by_cases hr : r.size = 32
    · have := chk_any s r _ _ i n v w hin hn1 hr (climbF_size _ (sumOf_size K) s i n pf) (fun W hb => climb_any K s hs _ pf v i n W rfl hpf hin hn1 (hl.below hb) (T.below hb))
      rw [show inclOk K s i n r pf = ((climbF (sumOf K) s i n pf).2 && decide ((climbF (sumOf K) s i n pf).1 = r)) by unfold inclOk; simp [hr]]
      exact this
    · have := chk_root s r i n v w hin hn1 hr
      rw [show inclOk K s i n r pf = false by unfold inclOk; simp [hr]]
      exact this
  generalize inclOk K s i n r pf = ok at *
  obtain ⟨ao, cap, rfl⟩ := leaf_form hl
  clear hl T
  generalize pf.length = m at *
  cases ok
  all_goals
    go_enter Tryd.func15, Tryd.ntmps15
    go_wp2_with fail
    refine hc.mono ?_
    rintro e w1 ⟨rfl, hb1⟩
    clear hc
    go_wp2_with fail
    go_ret
    exact ⟨rfl, hb1⟩
end Go.Proofs.YteebdadnfaekmaaDoor
