import Derived.Test.YtijdnpoenpjnlaaGreatDoorROwner2
set_option linter.unusedVariables false
set_option linter.unusedSimpArgs false
namespace Go.Proofs.YtijdnpoenpjnlaaGreatDoor
open Go.RowKit

/-- A slice of texts, wherever it lies. -/
def StrsAt (w : World) (y : Value) (L : List ByteArray) : Prop :=
  (y = .slice none 0 0 ∧ L = []) ∨ ∃ g off cap, y = .slice (some ⟨g, off, none⟩) L.length cap ∧ ∀ j u, (L.map Value.string)[j]? = some u → w.cell? ⟨g, off + j, none⟩ = some u
theorem StrsAt.of_own {w : World} {B : Nat} {v : Value} {L : List ByteArray} (h : w.ownsRow B 9 1 v L.length (L.map .string)) : StrsAt w v L := by
  rcases h.2 with ⟨rfl, h0⟩ | ⟨g, cap, cur, rfl, _⟩
  · exact Or.inl ⟨rfl, List.eq_nil_of_length_eq_zero h0⟩
  · refine Or.inr ⟨g, 0, cap, rfl, fun j u hu => ?_⟩
    have hj : j < L.length := by have := (List.getElem?_eq_some_iff.1 hu).1; simpa using this
    rw [Nat.zero_add, h.cellAt j (by omega), hu]
theorem StrsAt.below {w w' : World} {y : Value} {L : List ByteArray} (h : StrsAt w y L) (hb : Below w.heap.size w w') : StrsAt w' y L := by
  rcases h with h | ⟨g, off, cap, e, h⟩
  · exact Or.inl h
  · refine Or.inr ⟨g, off, cap, e, fun j u hu => ?_⟩
    have := h j u hu
    rw [hb.cell (World.block_lt_of_cell? w _ this)]; exact this

theorem own_form {w : World} {B : Nat} {e : TypeId} {k : Nat} {v : Value} {n : Nat} {xs : List Value} (h : w.ownsRow B e k v n xs) : ∃ ao cap, v = .slice ao n cap := by
  rcases h.2 with ⟨rfl, rfl⟩ | ⟨g, cap, cur, rfl, _⟩
  · exact ⟨none, 0, rfl⟩
  · exact ⟨some ⟨g, 0, none⟩, cap, rfl⟩
/-- 'append(v, y...)' of texts: v of the call's own. -/
theorem wpList_append_strs {ops : Array Oper} {rest : List Oper} {o : Oper} {a : Act} {w : World} {Q : Exit → Act → World → Prop} (hg : o.guard = none) (s x : Operand)
    (hop : o.op = Op.call { callee := Callee.builtin Builtin.append, args := #[s, x], argTypes := #[30, 30] })
    (base : Nat) (v : Value) (n : Nat) (xs : List Value) (hs : a.eval s = v) (hown : w.ownsRow base 9 1 v n xs) (y : Value) (L : List ByteArray) (hx : a.eval x = y) (hy : StrsAt w y L)
    (hbd : n + L.length ≤ 10000000) (hbase : base ≤ w.heap.size)
    (hK : ∀ ao m cap' w', Hid (m = n + L.length) → w'.ownsRow base 9 1 (.slice ao m cap') m (xs ++ L.map .string) → w.grownBy w' v.ownBlock → wpList Tryz.prog ops Q rest (a.put o.dst (.slice ao m cap')) w') :
    wpList Tryz.prog ops Q (o :: rest) a w := by
  obtain ⟨i, hi, hz, hsz, hby⟩ := info_str
  refine wpList_plain hg fun K hK' => ?_
  rcases hy with ⟨rfl, rfl⟩ | ⟨g, off, cap, rfl, hc⟩
  · have hr := run_append_owned_none (P := Tryz.prog) w base 30 o.type 9 i 1 Tryz.underlying30 hi v n xs hown
    unfold Oper.wp
    simp [execOp, hop, resolve, invoke, builtin, hs, hx, hr, Result.andThen]
    obtain ⟨ao, cp, rfl⟩ := own_form hown
    exact hK' _ _ (hK ao n cp w (by show n = n + 0; rfl) (by simpa using hown) ⟨rfl, rfl, rfl, Nat.le_refl _, fun _ _ _ => rfl⟩)
  · obtain ⟨v', w', hr, ho, hgr, _⟩ := run_append_own (P := Tryz.prog) w base 30 o.type 9 i _ 1 16 Tryz.underlying30 hi hz hsz hby rfl (by decide) v n xs hown ⟨g, off, none⟩ L.length cap (L.map .string) (by simp) (fun j u hu => by rw [Addr.add_lit]; exact hc j u hu) (by intro u hu; simp at hu; obtain ⟨q, _, rfl⟩ := hu; rfl) (by unfold maxLen; omega) (by omega) hbase
    unfold Oper.wp
    simp [execOp, hop, resolve, invoke, builtin, hs, hx, hr, Result.andThen]
    obtain ⟨ao, cp, rfl⟩ := own_form ho
    exact hK' _ _ (hK ao _ cp w' rfl ho hgr)
theorem below_grown {w w' : World} {row : Option Nat} (h : w.grownBy w' row) {B : Nat} (hB : B ≤ w.heap.size) (hr : ∀ k, row = some k → B ≤ k) : Below B w w' := (Below.refl _ _).grown h hB hr

set_option maxRecDepth 10000 in
set_option maxHeartbeats 1000000 in
theorem owner_item (p k : Nat) (S : WS) (x y z a b c : Int) (s : ByteArray) (w : World) (h : WAt p k w S) (hk : k ≤ 1000000) (B : OpOk x y z a b c) :
    Calls Tryz.prog 17 #[.pointer (some ⟨p, 0, none⟩), .agg (opCells 5 x y z a b c s).toArray] w fun e w' => e = .returned (.bool true) ∧ ∃ S', WAt p (k + 1) w' S' ∧ Far p S S' w w' := by
  obtain ⟨x0, x1, y0, y1, z0, z1, a0, a1, b0, b1, c0, c1⟩ := B
  have HA : WAt p k (w.alloc (.cells (opCells 5 x y z a b c s).toArray 28)) S := h.below ((Below.refl _ _).alloc (Nat.le_refl _) _)
  have HW : Hid (WAt p k w S) := h
  clear h
  go_enter Tryz.func17, Tryz.ntmps17
  unfold opCells at HA ⊢
  go_wp2_with fail
  refine (text_any p k S x _ HA hk x0 x1).mono ?_
  rintro e w1 ⟨t, rfl, ht, m, hw1⟩
  have hb1 : Below w.heap.size w w1 := by rw [hw1]; exact below_draws ((Below.refl _ _).alloc (Nat.le_refl _) _) m
  have W1 : WAt p k w1 S := HW.out.below hb1
  have hr1 : ∀ j u, (opCells 5 x y z a b c s)[j]? = some u → w1.cell? ⟨w.heap.size, j, none⟩ = some u := by
    intro j u hu
    rw [hw1]
    have := range_new w (opCells 5 x y z a b c s) 28 j u hu
    rw [Nat.zero_add] at this
    exact this
  have hz1 : w.heap.size < w1.heap.size := by rw [hw1]; show w.heap.size < (w.alloc _).heap.size; simp
  clear hw1 HA
  have i0 : w1.cell? ⟨w.heap.size, 0, none⟩ = some (.int .i64 5) := hr1 0 _ rfl
  clear hr1
  have hc1 : w1.cell? ⟨p, 1, none⟩ = some S.lv := W1.cell 1
  have hf1 : w1.frozen? ⟨p, 1, none⟩ = false := W1.frozen 1
  have hp1 := W1.lt
  have hL := StrsAt.of_own W1.list
  have hnL := W1.nL
  have HW1 : Hid (WAt p k w1 S) := W1
  clear W1
  obtain ⟨i, hi, hz, hsz, hby⟩ := info_str
  go_wp2_with (first
    | (refine wpList_append_strs rfl (.tmp 88) (.tmp 92) rfl w1.heap.size (.slice none 0 0) 0 [] rfl (World.ownsRow_nil _ _ _ _) S.lv S.L rfl hL (by omega) (Nat.le_refl _) ?_
       intro ao2 n2 cap2 w2 hn2 ho2 hgr2
       have hb2 : Below w1.heap.size w1 w2 := below_grown hgr2 (Nat.le_refl _) (fun k hk => by cases hk)
       have hn2' : n2 = S.L.length := by have := hn2.out; omega
       subst hn2'
       simp only [List.nil_append] at ho2
       have hc2 : w2.cell? ⟨p, 1, none⟩ = some S.lv := (hb2.cell hp1).trans hc1
       have hf2 : w2.frozen? ⟨p, 1, none⟩ = false := (hb2.frozen hp1).trans hf1
       have hs2 := hb2.size
       clear hgr2 hc1 hf1
       have hown : (w2.alloc (.cells #[.string t] 9)).ownsRow w1.heap.size 9 1 (.slice ao2 S.L.length cap2) S.L.length (S.L.map .string) := ho2.alloc _
       have hnews : ∀ j u, [Value.string t][j]? = some u → (w2.alloc (.cells #[.string t] 9)).cell? ((⟨w2.heap.size, 0, none⟩ : Addr).add j) = some u := World.news_of_block (heap_alloc_new w2 (.cells #[.string t] 9))
       have hv2 := ho2.lt
       have hnp : some p ≠ (Value.slice ao2 S.L.length cap2).ownBlock := fun e => by have := hv2 p e.symm; omega)
    | (refine wpList_append_lies _ rfl (.tmp 95) (.tmp 97) 30 rfl w1.heap.size 9 i _ 1 16 Tryz.underlying30 hi hz hsz hby rfl (by decide) (.slice ao2 S.L.length cap2) S.L.length _ rfl hown ⟨w2.heap.size, 0, none⟩ 1 1 [.string t] rfl rfl hnews (by simp [Value.oneCell']) (by decide) (by unfold maxLen; omega) (by omega) (by simp; omega) _ rfl ?_
       intro g cap w3 ho hgr hat hlt3
       have hp3 : w3.cell? ⟨p, 1, none⟩ = some S.lv := (hgr.cell_far ⟨p, 1, none⟩ (by simp; omega) hnp).trans ((World.cell?_alloc_past _ _ _ (by show p < _; omega)).trans hc2)
       have hf3 : w3.frozen? ⟨p, 1, none⟩ = false := (hgr.frozen_far ⟨p, 1, none⟩ (by simp; omega) hnp).trans ((World.frozen?_alloc_past _ _ _ (by show p < _; omega)).trans hf2)))
  go_ret
  have hb3 : Below w1.heap.size w1 w3 := hb2.trans (((Below.refl _ _).alloc hs2 _).trans (below_grown hgr (by simp; omega) (fun k hk => (hv2 k hk).1)))
  obtain ⟨W2, F2⟩ := HW1.out.setL (L := S.L ++ [t]) hb3 (by simpa using ho) (by simp; omega) (fun x hx => by
    rcases List.mem_append.1 hx with hx | hx
    · exact HW1.out.sL x hx
    · simp at hx; rw [hx]; exact ht)
  exact ⟨rfl, _, W2, (Far.of_below S hb1).trans F2⟩

end Go.Proofs.YtijdnpoenpjnlaaGreatDoor
