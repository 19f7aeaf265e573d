import Derived.Test.YtijdnpoenpjnlaaGreatDoorRStep
set_option linter.unusedVariables false
set_option linter.unusedSimpArgs false
namespace Go.Proofs.YtijdnpoenpjnlaaGreatDoor
open Go.RowKit

/-- A step of a script. -/
structure Op8 where
  k : Int
  x : Int
  y : Int
  z : Int
  a : Int
  b : Int
  c : Int
  s : ByteArray
def Op8.cells (o : Op8) : List Value := opCells o.k o.x o.y o.z o.a o.b o.c o.s
structure Op8.Ok (o : Op8) : Prop where
  nums : OpOk o.x o.y o.z o.a o.b o.c
  k0 : -9223372036854775808 ≤ o.k
  k1 : o.k ≤ 9223372036854775807
  size : o.s.size ≤ 16384
/-- A slice of steps, wherever it lies. -/
structure OpsAt (w : World) (v : Value) (l : List Op8) : Prop where
  form : ((∃ ao cap, v = .slice ao 0 cap) ∧ l = []) ∨ ∃ g off cap, v = .slice (some ⟨g, off, none⟩) l.length cap ∧ ∀ i o, l[i]? = some o → ∀ j u, o.cells[j]? = some u → w.cell? ⟨g, off + i * 8 + j, none⟩ = some u
theorem OpsAt.below {w w' : World} {v : Value} {l : List Op8} (h : OpsAt w v l) (hb : Below w.heap.size w w') : OpsAt w' v l := by
  rcases h.form with h | ⟨g, off, cap, e, h⟩
  · exact ⟨Or.inl h⟩
  · refine ⟨Or.inr ⟨g, off, cap, e, fun i o ho j u hu => ?_⟩⟩
    have := h i o ho j u hu
    rw [hb.cell (World.block_lt_of_cell? w _ this)]; exact this

def zW : List Value := [.slice none 0 0, .slice none 0 0, .slice none 0 0, .slice none 0 0, .slice none 0 0, .slice none 0 0, .slice none 0 0, .slice none 0 0, .slice none 0 0, .slice none 0 0, .int .i64 0]
theorem w_start (w : World) : WAt w.heap.size 0 (w.alloc (.cells zW.toArray 37)) ⟨.slice none 0 0, .slice none 0 0, .slice none 0 0, .slice none 0 0, [], [], [], [], .slice none 0 0, .slice none 0 0, 0⟩ := by
  have aw : ∀ v, away (.slice none 0 0) v := fun v g h => by cases h
  exact ⟨heap_alloc_new w _, World.ownsRow_nil _ _ _ _, World.ownsRow_nil _ _ _ _, World.ownsRow_nil _ _ _ _, World.ownsRow_nil _ _ _ _, aw _, aw _, aw _, aw _, aw _, aw _, Nat.le_refl _, Nat.le_refl _, Nat.le_refl _, Nat.le_refl _, (fun s h => by cases h), (fun s h => by cases h)⟩

set_option maxRecDepth 10000 in
set_option maxHeartbeats 1000000 in
theorem upto_sums (v : Value) (l : List Op8) (w : World) (h : OpsAt w v l) (hn : l.length ≤ 16384) (hok : ∀ o ∈ l, o.Ok ∧ sumsKind o.k) (G : Glob w.heap.size w) :
    Calls Tryz.prog 15 #[v] w fun e w' => e = .returned (.int .i64 (-1)) ∧ Below w.heap.size w w' := by
  have HO : Hid (∀ o ∈ l, o.Ok ∧ sumsKind o.k) := hok
  have HG : Hid (Glob w.heap.size w) := G
  have HL : Hid (OpsAt w v l) := h
  clear hok G
  obtain ⟨ao, n, cap, rfl, hnl⟩ : ∃ ao n cap, v = .slice ao n cap ∧ n = l.length := by
    rcases h.form with ⟨⟨ao, cap, rfl⟩, rfl⟩ | ⟨g, off, cap, rfl, _⟩
    · exact ⟨ao, 0, cap, rfl, rfl⟩
    · exact ⟨_, _, _, rfl, rfl⟩
  have HN : Hid (n = l.length) := hnl
  have hn' : n ≤ 16384 := by omega
  clear h hnl hn
  have hst := w_start w
  have hb0 : Below w.heap.size w (w.alloc (.cells zW.toArray 37)) := (Below.refl _ _).alloc (Nat.le_refl _) _
  have HST : Hid (WAt w.heap.size 0 (w.alloc (.cells zW.toArray 37)) ⟨.slice none 0 0, .slice none 0 0, .slice none 0 0, .slice none 0 0, [], [], [], [], .slice none 0 0, .slice none 0 0, 0⟩) := hst
  clear hst
  go_enter Tryz.func15, Tryz.ntmps15
  go_wp2_with fail
  go_loopw [4] (fun i wr => ∃ q : Nat, q ≤ n ∧ i = .int .i64 q ∧ Below w.heap.size w wr ∧ ∃ S, WAt w.heap.size q wr S ∧ S.gv = .slice none 0 0) (fun i _ => n - (intOf i).toNat)
  case atStart => exact ⟨0, by omega, rfl, hb0, _, HST.out, rfl⟩
  case round =>
    obtain ⟨q, hq, rfl, hB, S, W, hgv⟩ := hrel
    by_cases hlt : q < n
    · have q1 : (q : Int) < (n : Int) := by omega
      have q0 : (0 : Int) ≤ (q : Int) := by omega
      have hql : q < l.length := by have := HN.out; omega
      obtain ⟨g, off, hao, hc⟩ : ∃ g off, ao = some ⟨g, off, none⟩ ∧ ∀ i o, l[i]? = some o → ∀ j u, o.cells[j]? = some u → w.cell? ⟨g, off + i * 8 + j, none⟩ = some u := by
        rcases HL.out.form with ⟨e, rfl⟩ | ⟨g, off, cap', e, h⟩
        · simp at hql
        · exact ⟨g, off, by injection e, h⟩
      subst hao
      obtain ⟨o, ho⟩ : ∃ o, o = l[q] := ⟨_, rfl⟩
      obtain ⟨ook, okd⟩ := HO.out o (by rw [ho]; exact List.getElem_mem hql)
      have hr : wr.rangeAt g (off + q * 8) (opCells o.k o.x o.y o.z o.a o.b o.c o.s) := fun j u hu => by
        have := hc q o (by rw [List.getElem?_eq_getElem hql, ho]) j u hu
        rw [hB.cell (World.block_lt_of_cell? w _ this)]; exact this
      clear hc ho
      go_wp2_with (first | (refine wpList_load_mid rfl 28 _ rfl g (off + q * 8) rfl (opCells o.k o.x o.y o.z o.a o.b o.c o.s) _ hr Tryz.underlying28 rfl (info_op _ _ _ _ _ _ _ _) ?_))
      refine (step_sums w.heap.size q S o.k o.x o.y o.z o.a o.b o.c o.s wr W (HG.out.below hB) (by omega) ook.nums (by have := ook.size; omega) okd hgv).mono ?_
      rintro e w2 ⟨rfl, S', W2, hgv2, hB2⟩
      go_wp2_with fail
      refine ⟨⟨q + 1, by omega, by go_num, hB.trans hB2, S', W2, hgv2⟩, ?_⟩
      simp [intOf]; omega
    · have q1 : ¬ (q : Int) < (n : Int) := by omega
      go_wp2_with fail
      go_ret
      exact ⟨rfl, hB⟩
end Go.Proofs.YtijdnpoenpjnlaaGreatDoor
