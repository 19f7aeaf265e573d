import Derived.Test.YteglimjonofdeaaGreatDoorGReg2
import Derived.Test.YteglimjonofdeaaGreatDoorGGrownM
set_option linter.unusedVariables false
set_option linter.unusedSimpArgs false
namespace Go.Proofs.YteglimjonofdeaaGreatDoor
open Go.RowKit

def ckPost (w : World) (ok : Bool) (e : Ending) (w' : World) : Prop := e = .returned (chkV ok) ∧ Below w.heap.size w w'
/-- A store to a block whose number is spelt otherwise. -/
theorem wpList_store_at {P : Program} {ops : Array Oper} {rest : List Oper} {op : Oper} {a : Act} {w : World} {Q : Exit → Act → World → Prop} (hgd : op.guard = none) (ty : TypeId) (x y : Operand) (ho : op.op = .store ty x y)
    (b o : Nat) (cells : List Value) (b' : Nat) (e : b' = b) (hx : a.eval x = .pointer (some ⟨b', o, none⟩)) (hy : a.eval y = .agg cells.toArray)
    (ht : w.there b o cells.length) (hi : (P.info? ty).map (·.size) = some cells.length) (h1 : ∀ u ∈ cells, u.oneCell' = true)
    (h : ∀ w', w' = w.setCells b o cells → w'.rangeAt b o cells → w'.there b o cells.length → (∀ B, B ≤ b → Below B w w') → wpList P ops Q rest (a.put op.dst undef) w') : wpList P ops Q (op :: rest) a w := by
  subst e; exact wpList_store_abs hgd ty x y ho b' o cells hx hy ht hi h1 h
structure CS (n q : Nat) (w : World) (s : ByteArray) (w' : World) : Prop where
  b : Below n w w'
  r : w'.rangeAt q 0 (hV s)
  hi : q < w'.heap.size
theorem CS.step {n q : Nat} {w w' w'' : World} {b : ByteArray} (h : CS n q w b w') (hn : n ≤ q) (hb : Below w'.heap.size w' w'') : CS n q w b w'' :=
  ⟨h.b.trans (hb.mono (by have := h.hi; omega)), range_keep h.r hb h.hi, Nat.lt_of_lt_of_le h.hi hb.size⟩
theorem CS.stored {n q p : Nat} {w w' w2 : World} {b : ByteArray} {cs : List Value} (h : CS n q w b w') (hn : n ≤ p) (hne : q ≠ p) (e : w2 = w'.setCells p 0 cs) : CS n q w b w2 := by
  subst e; exact ⟨below_setCells hn _ _ _ h.b, range_store h.r hne, by rw [size_setCells]; exact h.hi⟩
theorem CS.drew {n q : Nat} {w w' : World} {b : ByteArray} (h : CS n q w b w') : CS n q w b w'.drew := ⟨h.b.drew, h.r, h.hi⟩

set_option maxRecDepth 10000 in
set_option maxHeartbeats 1000000 in
theorem nothing_size (n : Int) (first second : ByteArray) (v : Value) (w : World) (hf : first.size ≠ 32) :
    Calls Tryz.prog 155 #[.int .i64 n, .string first, .string second, v] w (ckPost w false) := by
  have hrd := read_no first w hf
  have oz := z32_onet
  go_enter Tryz.func155, Tryz.ntmps155
  go_wp2_with fail
  refine hrd.mono ?_
  rintro e w1 ⟨rfl, hb1⟩
  have ht1 : (w1.alloc (.cells z32.toArray 104)).there w1.heap.size 0 z32.length := there_z32 w1
  go_wp2_with (first | (refine wpList_alloc_of rfl 104 rfl z32.toArray alloc_32 ?_) | (refine wpList_store_abs rfl 104 _ _ rfl w1.heap.size 0 z32 rfl rfl ht1 z32_info oz ?_; intro w2 _hw2 hr2 _ht2 hb2; clear _hw2 _ht2))
  have hB2 : Below w.heap.size w w2 := hb1.trans (((Below.refl _ _).alloc hb1.size _).trans (hb2 _ hb1.size))
  have J0 : Below w.heap.size w w2.drew := hB2.drew
  refine wp_region_noPanic ?_
  refine wp_region_held_drew (S := fun w' => Below w.heap.size w w') (by kernel_rfl) J0 (fun _ => ?_)
  refine tk 0 J0 ?_
  refine tk 1 J0 ?_
  refine tk 2 J0 ?_
  refine wpAnyH_take (i := 3) (v := undef) rfl (by kernel_rfl) (by kernel_rfl) (by kernel_rfl) (fun _ _ _ h => h) (Or.inr ⟨by rfl, rfl⟩) J0 ?_
  simp only [qA, qB, qC, Act.put, qD, qE, qF]
  refine wpAnyH_take (i := 4) (v := undef) rfl (by kernel_rfl) (by kernel_rfl) (by kernel_rfl) (fun _ _ _ h => h) (Or.inr ⟨by rfl, rfl⟩) J0 ?_
  simp only [qA, qB, qC, Act.put, qD, qE, qF]
  refine wpAnyH_take (i := 5) (v := undef) rfl (by kernel_rfl) (by kernel_rfl) (by kernel_rfl) (fun _ _ _ h => h) (Or.inr ⟨by rfl, rfl⟩) J0 ?_
  simp only [qA, qB, qC, Act.put, qD, qE, qF]
  refine tk 6 J0 ?_
  refine tk 7 J0 ?_
  refine wpAnyH_take (i := 8) (v := undef) rfl (by kernel_rfl) (by kernel_rfl) (by kernel_rfl) (fun _ _ _ h => h) (Or.inr ⟨by rfl, rfl⟩) J0 ?_
  simp only [qA, qB, qC, Act.put, qD, qE, qF]
  refine wpAnyH_take (i := 9) (v := undef) rfl (by kernel_rfl) (by kernel_rfl) (by kernel_rfl) (fun _ _ _ h => h) (Or.inr ⟨by rfl, rfl⟩) J0 ?_
  simp only [qA, qB, qC, Act.put, qD, qE, qF]
  refine wpAnyH_take (i := 10) (v := undef) rfl (by kernel_rfl) (by kernel_rfl) (by kernel_rfl) (fun _ _ _ h => h) (Or.inr ⟨by rfl, rfl⟩) J0 ?_
  simp only [qA, qB, qC, Act.put, qD, qE, qF]
  refine tk 11 J0 ?_
  refine ⟨by kernel_rfl, ?_⟩
  refine NoPanic.normal ?_
  try simp only [qA, qB, qC, Act.put, qD, qE, qF]
  go_wp2_with fail
  go_ret
  exact ⟨rfl, J0⟩

set_option maxRecDepth 10000 in
set_option maxHeartbeats 1000000 in
theorem nothing_any (n : Nat) (first second R : ByteArray) (ao : Option Addr) (M cap : Nat) (w : World) (hf : first.size = 32) (hR32 : R.size = 32)
    (hR : ∀ W, Below w.heap.size w W → Calls Tryz.prog 75 #[.slice none 0 0] W fun e w' => e = .returned (.agg (hV R).toArray) ∧ Below W.heap.size W w') :
    Calls Tryz.prog 155 #[.int .i64 n, .string first, .string second, .slice ao M cap] w (ckPost w (decide (first = R) && decide (M = 0) && (decide (n ≠ 0) || decide (second = first)))) := by
  have hrd := read_yes first w hf
  have lf := hV_len hf
  have if' := hV_info hf
  have of' := hV_one first
  have heq : ∀ W, (Op.equalIn 10000 104 (.agg (hV first).toArray) (.agg (hV R).toArray)).run Tryz.prog W = .ok (decide (first = R)) W := hash_eq first R hf hR32
  have heq' : ∀ W, (Op.equal 104 (.agg (hV first).toArray) (.agg (hV R).toArray)).run Tryz.prog W = .ok (decide (first = R)) W := heq
  generalize decide (first = R) = same at *
  have HEQ : Hid (∀ W, (Op.equalIn 10000 104 (.agg (hV first).toArray) (.agg (hV R).toArray)).run Tryz.prog W = .ok same W) := heq
  have HEQ' : Hid (∀ W, (Op.equal 104 (.agg (hV first).toArray) (.agg (hV R).toArray)).run Tryz.prog W = .ok same W) := heq'
  have HR : Hid (∀ W, Below w.heap.size w W → Calls Tryz.prog 75 #[.slice none 0 0] W fun e w' => e = .returned (.agg (hV R).toArray) ∧ Below W.heap.size W w') := hR
  clear heq heq' hR
  go_enter Tryz.func155, Tryz.ntmps155
  go_wp2_with fail
  refine hrd.mono ?_
  rintro e w1 ⟨rfl, hb1⟩
  have ht1 : (w1.alloc (.cells z32.toArray 104)).there w1.heap.size 0 (hV first).length := by rw [lf]; exact there_z32 w1
  clear hrd
  go_wp2_with (first | (refine wpList_alloc_of rfl 104 rfl z32.toArray alloc_32 ?_) | (refine wpList_store_abs rfl 104 _ _ rfl w1.heap.size 0 (hV first) rfl rfl ht1 if' of' ?_; intro w2 _hw2 hr2 _ht2 hb2; clear _hw2 _ht2))
  have hs1 := hb1.size
  have C2 : CS w.heap.size w1.heap.size w first w2 := ⟨hb1.trans (((Below.refl _ _).alloc hb1.size _).trans (hb2 _ hb1.size)), hr2, by have := (hb2 _ (Nat.le_refl _)).size; simp at this; omega⟩
  have J0 := C2.drew
  clear ht1 hb2 hr2
  refine wp_region_noPanic ?_
  refine wp_region_held_drew (S := CS w.heap.size w1.heap.size w first) (by kernel_rfl) J0 (fun _ => ?_)
  refine tk 0 J0 ?_
  refine tk 1 J0 ?_
  refine tk 2 J0 ?_
  refine wpAnyH_take (i := 3) (v := .agg (hV first).toArray) rfl (by kernel_rfl) (by kernel_rfl) (by kernel_rfl) (fun _ _ _ h => h) (yieldsIf_load_mid (by rfl) 104 (.tmp 9) rfl w1.heap.size 0 rfl (hV first) _ (fun w' hw' => hw'.r) Tryz.underlying104 rfl if') J0 ?_
  simp only [qA, qB, qC, Act.put, qD, qE, qF]
  refine rk 4 (fun K hK => ?_)
  go_simp
  refine (HR.out _ J0.b).mono ?_
  rintro e w3 ⟨rfl, hb3⟩
  have J1 := J0.step hs1 hb3
  refine hK.out _ _ J1 (fun _ => ?_)
  clear hK K J0
  have J0 := J1
  try simp only [qA, qB, qC, Act.put, qD, qE, qF]
  refine tq (i := 5) (v := ?_) rfl J0 ?_ ?_
  rotate_left 1
  · intro w hSw; clear hSw; have heq := HEQ.out w; have heq' := HEQ'.out w; go_simp; try with_reducible rfl
  simp only [qA, qB, qC, Act.put, qD, qE, qF]
  refine tk 6 J0 ?_
  refine tk 7 J0 ?_
  cases same
  · refine wpAnyH_take (i := 8) (v := undef) rfl (by kernel_rfl) (by kernel_rfl) (by kernel_rfl) (fun _ _ _ h => h) (Or.inr ⟨by rfl, rfl⟩) J0 ?_
    simp only [qA, qB, qC, Act.put, qD, qE, qF]
    refine wpAnyH_take (i := 9) (v := undef) rfl (by kernel_rfl) (by kernel_rfl) (by kernel_rfl) (fun _ _ _ h => h) (Or.inr ⟨by rfl, rfl⟩) J0 ?_
    simp only [qA, qB, qC, Act.put, qD, qE, qF]
    refine wpAnyH_take (i := 10) (v := undef) rfl (by kernel_rfl) (by kernel_rfl) (by kernel_rfl) (fun _ _ _ h => h) (Or.inr ⟨by rfl, rfl⟩) J0 ?_
    simp only [qA, qB, qC, Act.put, qD, qE, qF]
    refine tk 11 J0 ?_
    refine ⟨by kernel_rfl, ?_⟩
    refine NoPanic.normal ?_
    try simp only [qA, qB, qC, Act.put, qD, qE, qF]
    go_wp2_with fail
    go_ret
    exact ⟨rfl, J0.b⟩
  · by_cases hM : M = 0
    · subst hM
      refine tk 8 J0 ?_
      refine tk 9 J0 ?_
      refine tk 10 J0 ?_
      refine tk 11 J0 ?_
      refine ⟨by kernel_rfl, ?_⟩
      refine NoPanic.normal ?_
      try simp only [qA, qB, qC, Act.put, qD, qE, qF]
      by_cases hn : n = 0
      · subst hn
        by_cases hs : second = first
        · subst hs
          have bb : (second.toList == second.toList) = true := by rw [← beq_toListBytes]; show (second.data == second.data) = true; simp
          go_wp2_with fail
          go_ret
          exact ⟨by simp [chkV], J0.b⟩
        · have bb : (second.toList == first.toList) = false := by rw [← beq_toListBytes]; show (second.data == first.data) = false; rw [beq_eq_false_iff_ne]; exact fun e => hs (ByteArray.ext e)
          go_wp2_with fail
          go_ret
          exact ⟨by simp [chkV, hs], J0.b⟩
      · have n0 : ((n : Int) == 0) = false := by rw [beq_eq_false_iff_ne]; omega
        go_wp2_with fail
        go_ret
        exact ⟨by simp [chkV, hn], J0.b⟩
    · have m0 : (0 : Int) < (M : Int) := by omega
      refine tk 8 J0 ?_
      refine tk 9 J0 ?_
      refine tk 10 J0 ?_
      refine tk 11 J0 ?_
      refine ⟨by kernel_rfl, ?_⟩
      refine NoPanic.normal ?_
      try simp only [qA, qB, qC, Act.put, qD, qE, qF]
      go_wp2_with fail
      go_ret
      exact ⟨by simp [chkV, hM], J0.b⟩

set_option maxRecDepth 10000 in
set_option maxHeartbeats 2000000 in
theorem ccon_zero (first second : ByteArray) (ok : Bool) (m n : Nat) (v : Value) (w : World) (hmn : m ≤ n) (hn1 : n ≤ 2147483647) (hm : m = 0) (hz : Calls Tryz.prog 155 #[.int .i64 n, .string first, .string second, v] w (ckPost w ok)) :
    Calls Tryz.prog 128 #[.int .i64 m, .int .i64 n, .string first, .string second, v] w (ckPost w (ok)) := by
  have i0 : ¬ (m : Int) < 0 := by omega
  have i1 : ¬ (n : Int) < (m : Int) := by omega
  have i2 : ¬ (2147483647 : Int) < (n : Int) := by omega
  subst hm
  have HZ : Hid (Calls Tryz.prog 155 #[.int .i64 n, .string first, .string second, v] w (ckPost w ok)) := hz
  clear hz
  go_enter Tryz.func128, Tryz.ntmps128
  go_wp2_with fail
  refine HZ.out.mono ?_
  rintro e w1 ⟨rfl, hb1⟩
  generalize hc : chkV ok = vc at *
  go_wp2_with fail
  go_ret
  exact ⟨by rw [hc]; rfl, hb1⟩

set_option maxRecDepth 10000 in
set_option maxHeartbeats 2000000 in
theorem ccon_first (first second : ByteArray) (m n : Nat) (v : Value) (w : World) (hmn : m ≤ n) (hn1 : n ≤ 2147483647) (hm : 0 < m) (hf : first.size ≠ 32) :
    Calls Tryz.prog 128 #[.int .i64 m, .int .i64 n, .string first, .string second, v] w (ckPost w (false)) := by
  have i0 : ¬ (m : Int) < 0 := by omega
  have i1 : ¬ (n : Int) < (m : Int) := by omega
  have i2 : ¬ (2147483647 : Int) < (n : Int) := by omega
  have m0 : ((m : Int) == 0) = false := by rw [beq_eq_false_iff_ne]; omega
  have hrd := read_no first w hf
  have oz := z32_onet
  go_enter Tryz.func128, Tryz.ntmps128
  go_wp2_with fail
  refine hrd.mono ?_
  rintro e w1 ⟨rfl, hb1⟩
  have ht1 : (w1.alloc (.cells z32.toArray 104)).there w1.heap.size 0 z32.length := there_z32 w1
  go_wp2_with (first | (refine wpList_alloc_of rfl 104 rfl z32.toArray alloc_32 ?_) | (refine wpList_store_abs rfl 104 _ _ rfl w1.heap.size 0 z32 rfl rfl ht1 z32_info oz ?_; intro w2 _hw2 hr2 _ht2 hb2; clear _hw2 _ht2))
  go_ret
  exact ⟨rfl, hb1.trans (((Below.refl _ _).alloc hb1.size _).trans (hb2 _ hb1.size))⟩

set_option maxRecDepth 10000 in
set_option maxHeartbeats 2000000 in
theorem ccon_second (first second : ByteArray) (m n : Nat) (v : Value) (w : World) (hmn : m ≤ n) (hn1 : n ≤ 2147483647) (hm : 0 < m) (hf : first.size = 32) (hg : second.size ≠ 32) :
    Calls Tryz.prog 128 #[.int .i64 m, .int .i64 n, .string first, .string second, v] w (ckPost w (false)) := by
  have i0 : ¬ (m : Int) < 0 := by omega
  have i1 : ¬ (n : Int) < (m : Int) := by omega
  have i2 : ¬ (2147483647 : Int) < (n : Int) := by omega
  have m0 : ((m : Int) == 0) = false := by rw [beq_eq_false_iff_ne]; omega
  have hrd := read_yes first w hf
  have oz := z32_onet
  have lf := hV_len hf
  have jf := hV_info hf
  have of' := hV_one first
  go_enter Tryz.func128, Tryz.ntmps128
  go_wp2_with fail
  refine hrd.mono ?_
  rintro e w1 ⟨rfl, hb1⟩
  have hs1 := hb1.size
  have ht1 : (w1.alloc (.cells z32.toArray 104)).there w1.heap.size 0 (hV first).length := by rw [lf]; exact there_z32 w1
  clear hrd
  go_wp2_with (first | (refine wpList_alloc_of rfl 104 rfl z32.toArray alloc_32 ?_) | (refine wpList_store_abs rfl 104 _ _ rfl w1.heap.size 0 (hV first) rfl rfl ht1 jf of' ?_; intro w2 _hw2 hr2 _ht2 hb2; clear _hw2 _ht2))
  have C2 : CS w.heap.size w1.heap.size w first w2 := ⟨hb1.trans (((Below.refl _ _).alloc hb1.size _).trans (hb2 _ hb1.size)), hr2, by have := (hb2 _ (Nat.le_refl _)).size; simp at this; omega⟩
  have hs2 := C2.b.size
  clear ht1 hb2 hr2
  refine (read_no second w2 hg).mono ?_
  rintro e w3 ⟨rfl, hb3⟩
  have C3 := C2.step hs1 hb3
  have hs3 := C3.b.size
  have ht3 : (w3.alloc (.cells z32.toArray 104)).there w3.heap.size 0 z32.length := there_z32 w3
  go_wp2_with (first | (refine wpList_alloc_of rfl 104 rfl z32.toArray alloc_32 ?_) | (refine wpList_store_abs rfl 104 _ _ rfl w3.heap.size 0 z32 rfl rfl ht3 z32_info oz ?_; intro w4 _hw4 hr4 _ht4 hb4; clear _hw4 _ht4))
  go_ret
  exact ⟨rfl, C3.b.trans (((Below.refl _ _).alloc hs3 _).trans (hb4 _ hs3))⟩

set_option maxRecDepth 10000 in
set_option maxHeartbeats 2000000 in
theorem ccon_any (first second x y : ByteArray) (f : Bool) (m n : Nat) (v : Value) (w : World) (hmn : m ≤ n) (hn1 : n ≤ 2147483647) (hm : 0 < m) (hf : first.size = 32) (hg : second.size = 32) (hx : x.size = 32) (hy : y.size = 32)
    (hreg : ∀ W, Below w.heap.size w W → Calls Tryz.prog 156 #[.int .i64 m, .int .i64 n, .agg (hV first).toArray, .bool true, v] W (regPost W x y f)) :
    Calls Tryz.prog 128 #[.int .i64 m, .int .i64 n, .string first, .string second, v] w (ckPost w (f && (decide (x = first) && decide (y = second)))) := by
  have i0 : ¬ (m : Int) < 0 := by omega
  have i1 : ¬ (n : Int) < (m : Int) := by omega
  have i2 : ¬ (2147483647 : Int) < (n : Int) := by omega
  have m0 : ((m : Int) == 0) = false := by rw [beq_eq_false_iff_ne]; omega
  have hrd := read_yes first w hf
  have oz := z32_onet
  have lf := hV_len hf
  have jf := hV_info hf
  have of' := hV_one first
  have lg := hV_len hg
  have jg := hV_info hg
  have og := hV_one second
  have lx := hV_len hx
  have jx := hV_info hx
  have ox := hV_one x
  have ly := hV_len hy
  have jy := hV_info hy
  have oy := hV_one y
  have h1 : ∀ W, (Op.equalIn 10000 104 (.agg (hV x).toArray) (.agg (hV first).toArray)).run Tryz.prog W = .ok (decide (x = first)) W := hash_eq x first hx hf
  have h1' : ∀ W, (Op.equal 104 (.agg (hV x).toArray) (.agg (hV first).toArray)).run Tryz.prog W = .ok (decide (x = first)) W := h1
  have h2 : ∀ W, (Op.equalIn 10000 104 (.agg (hV y).toArray) (.agg (hV second).toArray)).run Tryz.prog W = .ok (decide (y = second)) W := hash_eq y second hy hg
  have h2' : ∀ W, (Op.equal 104 (.agg (hV y).toArray) (.agg (hV second).toArray)).run Tryz.prog W = .ok (decide (y = second)) W := h2
  generalize decide (x = first) = s1 at *
  generalize decide (y = second) = s2 at *
  have E1 : Hid (∀ W, (Op.equalIn 10000 104 (.agg (hV x).toArray) (.agg (hV first).toArray)).run Tryz.prog W = .ok s1 W) := h1
  have E1' : Hid (∀ W, (Op.equal 104 (.agg (hV x).toArray) (.agg (hV first).toArray)).run Tryz.prog W = .ok s1 W) := h1'
  have E2 : Hid (∀ W, (Op.equalIn 10000 104 (.agg (hV y).toArray) (.agg (hV second).toArray)).run Tryz.prog W = .ok s2 W) := h2
  have E2' : Hid (∀ W, (Op.equal 104 (.agg (hV y).toArray) (.agg (hV second).toArray)).run Tryz.prog W = .ok s2 W) := h2'
  have HREG : Hid (∀ W, Below w.heap.size w W → Calls Tryz.prog 156 #[.int .i64 m, .int .i64 n, .agg (hV first).toArray, .bool true, v] W (regPost W x y f)) := hreg
  clear h1 h1' h2 h2' hreg
  go_enter Tryz.func128, Tryz.ntmps128
  go_wp2_with fail
  refine hrd.mono ?_
  rintro e w1 ⟨rfl, hb1⟩
  have hs1 := hb1.size
  have ht1 : (w1.alloc (.cells z32.toArray 104)).there w1.heap.size 0 (hV first).length := by rw [lf]; exact there_z32 w1
  clear hrd
  go_wp2_with (first | (refine wpList_alloc_of rfl 104 rfl z32.toArray alloc_32 ?_) | (refine wpList_store_abs rfl 104 _ _ rfl w1.heap.size 0 (hV first) rfl rfl ht1 jf of' ?_; intro w2 _hw2 hr2 _ht2 hb2; clear _hw2 _ht2))
  have C2 : CS w.heap.size w1.heap.size w first w2 := ⟨hb1.trans (((Below.refl _ _).alloc hb1.size _).trans (hb2 _ hb1.size)), hr2, by have := (hb2 _ (Nat.le_refl _)).size; simp at this; omega⟩
  have hs2 := C2.b.size
  clear ht1 hb2 hr2
  refine (read_yes second w2 hg).mono ?_
  rintro e w3 ⟨rfl, hb3⟩
  have C3 := C2.step hs1 hb3
  have hs3 := C3.b.size
  have ht3 : (w3.alloc (.cells z32.toArray 104)).there w3.heap.size 0 (hV second).length := by rw [lg]; exact there_z32 w3
  clear hb3
  go_wp2_with (first | (refine wpList_alloc_of rfl 104 rfl z32.toArray alloc_32 ?_) | (refine wpList_store_abs rfl 104 _ _ rfl w3.heap.size 0 (hV second) rfl rfl ht3 jg og ?_; intro w4 _hw4 hr4 _ht4 hb4; clear _hw4 _ht4; have r4a : w4.rangeAt w1.heap.size 0 (hV first) := (C3.step hs1 (((Below.refl _ _).alloc (Nat.le_refl _) _).trans (hb4 _ (Nat.le_refl _)))).r) | (refine wpList_load_mid rfl 104 (.tmp 11) rfl w1.heap.size 0 rfl (hV first) _ r4a Tryz.underlying104 rfl jf ?_))
  have C4 := C3.step hs1 (((Below.refl _ _).alloc (Nat.le_refl _) _).trans (hb4 _ (Nat.le_refl _)))
  have hz4 : w3.heap.size < w4.heap.size := by have := (hb4 _ (Nat.le_refl _)).size; simp at this; omega
  clear ht3 hb4 r4a
  refine (HREG.out w4 C4.b).mono ?_
  rintro e w5 ⟨rfl, hb5⟩
  have C5 := C4.step hs1 hb5
  have hs5 := C5.b.size
  have r5 := range_keep hr4 hb5 hz4
  have hz5 : w3.heap.size < w5.heap.size := Nat.lt_of_lt_of_le hz4 hb5.size
  obtain ⟨wA, hwA⟩ : ∃ wA, wA = (w5.alloc (.cells z32.toArray 104)).alloc (.cells z32.toArray 104) := ⟨_, rfl⟩
  have hbA : Below w5.heap.size w5 wA := by rw [hwA]; exact ((Below.refl _ _).alloc (Nat.le_refl _) _).alloc (by simp) _
  have tA : wA.there w5.heap.size 0 (hV x).length := by
    rw [lx, hwA]; exact there_below ((Below.refl _ _).alloc (by simp) _) (Nat.lt_succ_self _) (there_z32 w5)
  have tA2 : wA.there (w5.heap.size + 1) 0 (hV y).length := by
    rw [ly, hwA]; have := there_z32 (w5.alloc (.cells z32.toArray 104)); simpa using this
  have CA := C5.step hs1 hbA
  have rA := range_keep r5 hbA hz5
  have hsA := hbA.size
  have c11 := C5.hi
  clear hb5 hr4 r5 C4 C3 C2
  rw [hwA] at tA tA2
  have e1 := E1.out
  have e1' := E1'.out
  have e2 := E2.out
  have e2' := E2'.out
  cases f
  · go_wp2_with (first | (refine wpList_alloc_of rfl 104 rfl z32.toArray alloc_32 ?_) | (refine wpList_store_abs rfl 104 _ _ rfl w5.heap.size 0 (hV x) rfl rfl tA jx ox ?_; intro w6 hw6 hr6 _ht6 hb6; have t6 : w6.there (w5.heap.size + 1) 0 (hV y).length := there_stored tA2 hw6; rw [← hwA] at hw6; have C6 : CS w.heap.size w1.heap.size w first w6 := CA.stored (by omega) (by omega) hw6; have r6 : w6.rangeAt w3.heap.size 0 (hV second) := range_stored rA (by omega) hw6; clear hw6) | (refine wpList_store_at rfl 104 _ _ rfl (w5.heap.size + 1) 0 (hV y) _ ?_ rfl rfl t6 jy oy ?_; (first | rfl | simp); intro w7 hw7 hr7 _ht7 hb7; have C7 : CS w.heap.size w1.heap.size w first w7 := C6.stored (by omega) (by omega) hw7; have r7 : w7.rangeAt w3.heap.size 0 (hV second) := range_stored r6 (by omega) hw7; have x7 : w7.rangeAt w5.heap.size 0 (hV x) := range_stored hr6 (by omega) hw7; have f7 := C7.r; clear hw7))
    go_ret
    exact ⟨rfl, C7.b⟩
  · cases s1
    · go_wp2_with (first | (refine wpList_alloc_of rfl 104 rfl z32.toArray alloc_32 ?_) | (refine wpList_store_abs rfl 104 _ _ rfl w5.heap.size 0 (hV x) rfl rfl tA jx ox ?_; intro w6 hw6 hr6 _ht6 hb6; have t6 : w6.there (w5.heap.size + 1) 0 (hV y).length := there_stored tA2 hw6; rw [← hwA] at hw6; have C6 : CS w.heap.size w1.heap.size w first w6 := CA.stored (by omega) (by omega) hw6; have r6 : w6.rangeAt w3.heap.size 0 (hV second) := range_stored rA (by omega) hw6; clear hw6) | (refine wpList_store_at rfl 104 _ _ rfl (w5.heap.size + 1) 0 (hV y) _ ?_ rfl rfl t6 jy oy ?_; (first | rfl | simp); intro w7 hw7 hr7 _ht7 hb7; have C7 : CS w.heap.size w1.heap.size w first w7 := C6.stored (by omega) (by omega) hw7; have r7 : w7.rangeAt w3.heap.size 0 (hV second) := range_stored r6 (by omega) hw7; have x7 : w7.rangeAt w5.heap.size 0 (hV x) := range_stored hr6 (by omega) hw7; have f7 := C7.r; clear hw7) | (refine wpList_load_wanted (by rfl) 104 (.tmp 14) rfl w5.heap.size 0 rfl (hV x) _ x7 Tryz.underlying104 rfl jx ?_) | (refine wpList_load_wanted (by rfl) 104 (.tmp 11) rfl w1.heap.size 0 rfl (hV first) _ f7 Tryz.underlying104 rfl jf ?_) | (refine wpList_load_wanted (by rfl) 104 (.tmp 15) rfl (w5.heap.size + 1) 0 rfl (hV y) _ hr7 Tryz.underlying104 rfl jy ?_) | (refine wpList_load_wanted (by rfl) 104 (.tmp 13) rfl w3.heap.size 0 rfl (hV second) _ r7 Tryz.underlying104 rfl jg ?_))
      go_ret
      exact ⟨rfl, C7.b⟩
    · cases s2
      · go_wp2_with (first | (refine wpList_alloc_of rfl 104 rfl z32.toArray alloc_32 ?_) | (refine wpList_store_abs rfl 104 _ _ rfl w5.heap.size 0 (hV x) rfl rfl tA jx ox ?_; intro w6 hw6 hr6 _ht6 hb6; have t6 : w6.there (w5.heap.size + 1) 0 (hV y).length := there_stored tA2 hw6; rw [← hwA] at hw6; have C6 : CS w.heap.size w1.heap.size w first w6 := CA.stored (by omega) (by omega) hw6; have r6 : w6.rangeAt w3.heap.size 0 (hV second) := range_stored rA (by omega) hw6; clear hw6) | (refine wpList_store_at rfl 104 _ _ rfl (w5.heap.size + 1) 0 (hV y) _ ?_ rfl rfl t6 jy oy ?_; (first | rfl | simp); intro w7 hw7 hr7 _ht7 hb7; have C7 : CS w.heap.size w1.heap.size w first w7 := C6.stored (by omega) (by omega) hw7; have r7 : w7.rangeAt w3.heap.size 0 (hV second) := range_stored r6 (by omega) hw7; have x7 : w7.rangeAt w5.heap.size 0 (hV x) := range_stored hr6 (by omega) hw7; have f7 := C7.r; clear hw7) | (refine wpList_load_wanted (by rfl) 104 (.tmp 14) rfl w5.heap.size 0 rfl (hV x) _ x7 Tryz.underlying104 rfl jx ?_) | (refine wpList_load_wanted (by rfl) 104 (.tmp 11) rfl w1.heap.size 0 rfl (hV first) _ f7 Tryz.underlying104 rfl jf ?_) | (refine wpList_load_wanted (by rfl) 104 (.tmp 15) rfl (w5.heap.size + 1) 0 rfl (hV y) _ hr7 Tryz.underlying104 rfl jy ?_) | (refine wpList_load_wanted (by rfl) 104 (.tmp 13) rfl w3.heap.size 0 rfl (hV second) _ r7 Tryz.underlying104 rfl jg ?_))
        go_ret
        exact ⟨rfl, C7.b⟩
      · go_wp2_with (first | (refine wpList_alloc_of rfl 104 rfl z32.toArray alloc_32 ?_) | (refine wpList_store_abs rfl 104 _ _ rfl w5.heap.size 0 (hV x) rfl rfl tA jx ox ?_; intro w6 hw6 hr6 _ht6 hb6; have t6 : w6.there (w5.heap.size + 1) 0 (hV y).length := there_stored tA2 hw6; rw [← hwA] at hw6; have C6 : CS w.heap.size w1.heap.size w first w6 := CA.stored (by omega) (by omega) hw6; have r6 : w6.rangeAt w3.heap.size 0 (hV second) := range_stored rA (by omega) hw6; clear hw6) | (refine wpList_store_at rfl 104 _ _ rfl (w5.heap.size + 1) 0 (hV y) _ ?_ rfl rfl t6 jy oy ?_; (first | rfl | simp); intro w7 hw7 hr7 _ht7 hb7; have C7 : CS w.heap.size w1.heap.size w first w7 := C6.stored (by omega) (by omega) hw7; have r7 : w7.rangeAt w3.heap.size 0 (hV second) := range_stored r6 (by omega) hw7; have x7 : w7.rangeAt w5.heap.size 0 (hV x) := range_stored hr6 (by omega) hw7; have f7 := C7.r; clear hw7) | (refine wpList_load_wanted (by rfl) 104 (.tmp 14) rfl w5.heap.size 0 rfl (hV x) _ x7 Tryz.underlying104 rfl jx ?_) | (refine wpList_load_wanted (by rfl) 104 (.tmp 11) rfl w1.heap.size 0 rfl (hV first) _ f7 Tryz.underlying104 rfl jf ?_) | (refine wpList_load_wanted (by rfl) 104 (.tmp 15) rfl (w5.heap.size + 1) 0 rfl (hV y) _ hr7 Tryz.underlying104 rfl jy ?_) | (refine wpList_load_wanted (by rfl) 104 (.tmp 13) rfl w3.heap.size 0 rfl (hV second) _ r7 Tryz.underlying104 rfl jg ?_))
        go_ret
        exact ⟨rfl, C7.b⟩

/-- Does a check take the proof? -/
def consOk (K : Nat → Int) (m n : Nat) (first second : ByteArray) (pf : List ByteArray) : Bool :=
  if m = 0 then decide (first.size = 32) && (decide (first = rootF (sumOf K) []) && decide (pf.length = 0) && (decide (n ≠ 0) || decide (second = first)))
  else decide (first.size = 32) && (decide (second.size = 32) && ((regF (sumOf K) first m n true pf).2.2 && (decide ((regF (sumOf K) first m n true pf).1 = first) && decide ((regF (sumOf K) first m n true pf).2.1 = second))))

theorem ccon_tree (K : Nat → Int) (first second : ByteArray) (m n : Nat) (pf : List ByteArray) (v : Value) (w : World) (hmn : m ≤ n) (hn1 : n ≤ 2147483647) (hl : LeafAt w v pf) (hpf : pf.length ≤ 1000000000) (T : Tab K w) :
    Calls Tryz.prog 128 #[.int .i64 m, .int .i64 n, .string first, .string second, v] w (ckPost w (consOk K m n first second pf)) := by
  unfold consOk
  by_cases hm : m = 0
  · rw [if_pos hm]
    refine ccon_zero first second _ m n v w hmn hn1 hm ?_
    by_cases hf : first.size = 32
    · rw [decide_eq_true hf, Bool.true_and]
      obtain ⟨ao, cap, rfl⟩ := leaf_form hl
      exact nothing_any n first second _ ao pf.length cap w hf (rootF_size _ (sumOf_size K) _) (fun W hb => root_nil K none 0 W (T.below hb))
    · rw [decide_eq_false hf, Bool.false_and]
      exact nothing_size n first second v w hf
  · rw [if_neg hm]
    by_cases hf : first.size = 32
    · rw [decide_eq_true hf, Bool.true_and]
      by_cases hg : second.size = 32
      · rw [decide_eq_true hg, Bool.true_and]
        have hsz := regF_sizes (sumOf K) (sumOf_size K) first hf _ pf m n true rfl
        exact ccon_any first second _ _ _ m n v w hmn hn1 (by omega) hf hg hsz.1 hsz.2 (fun W hb => reg_any K first hf _ pf v m n true W rfl hpf (by omega) hmn hn1 (hl.below hb) (T.below hb))
      · rw [decide_eq_false hg, Bool.false_and]
        exact ccon_second first second m n v w hmn hn1 (by omega) hf hg
    · rw [decide_eq_false hf, Bool.false_and]
      exact ccon_first first second m n v w hmn hn1 (by omega) hf

end Go.Proofs.YteglimjonofdeaaGreatDoor
