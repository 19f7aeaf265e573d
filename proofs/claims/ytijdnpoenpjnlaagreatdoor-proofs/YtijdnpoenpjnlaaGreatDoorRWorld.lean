import Derived.Test.YtijdnpoenpjnlaaGreatDoorRAid
import Derived.Deep.AppendLies
set_option linter.unusedVariables false
set_option linter.unusedSimpArgs false
namespace Go.Proofs.YtijdnpoenpjnlaaGreatDoor
open Go.RowKit

/-- What a script's world holds: texts, the list at hand, what survives, disks; lists that came out, what they must read as, the mark. -/
structure WS where
  tv : Value
  lv : Value
  kv : Value
  dv : Value
  T : List ByteArray
  L : List ByteArray
  K : List Value
  D : List Value
  gv : Value
  hv : Value
  mrk : Int
def WS.cells (S : WS) : List Value := [S.tv, S.lv, S.kv, S.dv, .slice none 0 0, .slice none 0 0, S.gv, S.hv, .slice none 0 0, .slice none 0 0, .int .i64 S.mrk]
def WS.own (S : WS) (b : Nat) : Prop := S.tv.ownBlock = some b ∨ S.lv.ownBlock = some b ∨ S.kv.ownBlock = some b ∨ S.dv.ownBlock = some b
def away (a b : Value) : Prop := ∀ g, a.ownBlock = some g → b.ownBlock ≠ some g
theorem away.symm {a b : Value} (h : away a b) : away b a := fun g h1 h2 => h g h2 h1
theorem away.ne {a b : Value} (h : away a b) : a.ownBlock = none ∨ a.ownBlock ≠ b.ownBlock := by
  cases ha : a.ownBlock with
  | none => exact Or.inl rfl
  | some g => exact Or.inr fun e => h g ha e.symm

structure WAt (p k : Nat) (w : World) (S : WS) : Prop where
  block : w.heap[p]? = some (.cells S.cells.toArray 37 (0, 0))
  texts : w.ownsRow (p + 1) 9 1 S.tv S.T.length (S.T.map .string)
  list : w.ownsRow (p + 1) 9 1 S.lv S.L.length (S.L.map .string)
  keep : w.ownsRow (p + 1) 3 1 S.kv S.K.length S.K
  disks : w.ownsRow (p + 1) 44 1 S.dv S.D.length S.D
  tl : away S.tv S.lv
  tk : away S.tv S.kv
  td : away S.tv S.dv
  lk : away S.lv S.kv
  ld : away S.lv S.dv
  kd : away S.kv S.dv
  nT : S.T.length ≤ k
  nL : S.L.length ≤ k
  nK : S.K.length ≤ k
  nD : S.D.length ≤ k
  sT : ∀ s ∈ S.T, s.size ≤ 20000
  sL : ∀ s ∈ S.L, s.size ≤ 20000

/-- Nothing has turned but the world's own block and rows; its rows are the old ones, or new. -/
structure Far (p : Nat) (S S' : WS) (w w' : World) : Prop where
  os : w'.os = w.os
  tape : w'.tape = w.tape
  output : w'.output = w.output
  size : w.heap.size ≤ w'.heap.size
  block : ∀ b, b < w.heap.size → b ≠ p → ¬ S.own b → w'.heap[b]? = w.heap[b]?
  fresh : ∀ b, S'.own b → S.own b ∨ w.heap.size ≤ b
  gv : S'.gv = S.gv
  hv : S'.hv = S.hv
  mrk : S'.mrk = S.mrk
theorem Far.refl (p : Nat) (S : WS) (w : World) : Far p S S w w := ⟨rfl, rfl, rfl, Nat.le_refl _, fun _ _ _ _ => rfl, fun _ h => Or.inl h, rfl, rfl, rfl⟩
theorem Far.trans {p : Nat} {S S' S'' : WS} {w w' w'' : World} (h : Far p S S' w w') (k : Far p S' S'' w' w'') : Far p S S'' w w'' :=
  ⟨k.os.trans h.os, k.tape.trans h.tape, k.output.trans h.output, Nat.le_trans h.size k.size,
   fun b hb hp ho => (k.block b (Nat.lt_of_lt_of_le hb h.size) hp (fun o => by rcases h.fresh b o with o | o; exact ho o; omega)).trans (h.block b hb hp ho),
   fun b o => by
     rcases k.fresh b o with o | o
     · exact h.fresh b o
     · exact Or.inr (Nat.le_trans h.size o),
   k.gv.trans h.gv, k.hv.trans h.hv, k.mrk.trans h.mrk⟩
theorem Far.of_below {p : Nat} (S : WS) {w w' : World} (h : Below w.heap.size w w') : Far p S S w w' := ⟨h.os, h.tape, h.output, h.size, fun b hb _ _ => h.block b hb, fun _ o => Or.inl o, rfl, rfl, rfl⟩
theorem WAt.lt {p k : Nat} {w : World} {S : WS} (h : WAt p k w S) : p < w.heap.size := (Array.getElem?_eq_some_iff.1 h.block).1
theorem WAt.own_lt {p k : Nat} {w : World} {S : WS} (h : WAt p k w S) {b : Nat} (o : S.own b) : p + 1 ≤ b ∧ b < w.heap.size := by
  rcases o with o | o | o | o
  · exact h.texts.lt b o
  · exact h.list.lt b o
  · exact h.keep.lt b o
  · exact h.disks.lt b o
theorem Far.below {p k : Nat} {S S' : WS} {w w' : World} (h : Far p S S' w w') (hw : WAt p k w S) : Below p w w' :=
  ⟨h.os, h.tape, h.output, h.size, fun b hb => h.block b (Nat.lt_trans hb hw.lt) (by omega) (fun o => by have := hw.own_lt o; omega)⟩
theorem own_below {B : Nat} {e : TypeId} {k : Nat} {v : Value} {n : Nat} {xs : List Value} {w w' : World} (h : w.ownsRow B e k v n xs) (hb : Below w.heap.size w w') : w'.ownsRow B e k v n xs :=
  h.kept (row := none) ⟨hb.os, hb.tape, hb.output, hb.size, fun j hj _ => hb.block j hj⟩ (by cases hv : v.ownBlock <;> simp)
theorem WAt.below {p k : Nat} {w w' : World} {S : WS} (h : WAt p k w S) (hb : Below w.heap.size w w') : WAt p k w' S :=
  { h with block := (hb.block p h.lt).trans h.block, texts := own_below h.texts hb, list := own_below h.list hb, keep := own_below h.keep hb, disks := own_below h.disks hb }
theorem WAt.mono {p k k' : Nat} {w : World} {S : WS} (h : WAt p k w S) (hk : k ≤ k') : WAt p k' w S :=
  { h with nT := Nat.le_trans h.nT hk, nL := Nat.le_trans h.nL hk, nK := Nat.le_trans h.nK hk, nD := Nat.le_trans h.nD hk }
theorem WAt.cell {p k : Nat} {w : World} {S : WS} (h : WAt p k w S) (i : Nat) : w.cell? ⟨p, i, none⟩ = S.cells[i]? := by
  rw [cell_of_row w p i _ _ _ h.block]; simp
theorem WAt.frozen {p k : Nat} {w : World} {S : WS} (h : WAt p k w S) (i : Nat) : w.frozen? ⟨p, i, none⟩ = false := frozen_of_row w p i _ _ h.block

/-- The row of texts anew: behind an append and a store. -/
theorem WAt.setT {p k : Nat} {w w1 : World} {S : WS} (h : WAt p k w S) {v : Value} {T : List ByteArray} (hg : w.grownBy w1 S.tv.ownBlock) (ho : w1.ownsRow (p + 1) 9 1 v T.length (T.map .string)) (hv : ∀ g, v.ownBlock = some g → S.tv.ownBlock = some g ∨ w.heap.size ≤ g) (hn : T.length ≤ k + 1) (hs : ∀ s ∈ T, s.size ≤ 20000) :
    WAt p (k + 1) (w1.setCell ⟨p, 0, none⟩ v) { S with tv := v, T := T } ∧ Far p S { S with tv := v, T := T } w (w1.setCell ⟨p, 0, none⟩ v) := by
  have hp : some p ≠ S.tv.ownBlock := fun e => by have := h.texts.lt p e.symm; omega
  have hb1 : w1.heap[p]? = some (.cells S.cells.toArray 37 (0, 0)) := (hg.block p h.lt hp).trans h.block
  have far : ∀ x, away S.tv x → (∀ g, x.ownBlock = some g → g < w.heap.size) → away v x := fun x hx hl g h1 h2 => by
    rcases hv g h1 with h3 | h3
    · exact hx g h3 h2
    · have := hl g h2; omega
  have set : ∀ {e : TypeId} {x : Value} {n : Nat} {xs : List Value}, w1.ownsRow (p + 1) e 1 x n xs → (w1.setCell ⟨p, 0, none⟩ v).ownsRow (p + 1) e 1 x n xs := fun {e x n xs} hx =>
    hx.kept (row := some p) ⟨rfl, rfl, rfl, by simp, fun b _ hb => heap_setCell_other w1 ⟨p, 0, none⟩ b v (fun e => hb (by simp [e]))⟩ (Or.inr fun e => by have := hx.lt p e; omega)
  refine ⟨⟨?_, set ho, set (h.list.kept hg h.tl.symm.ne), set (h.keep.kept hg h.tk.symm.ne), set (h.disks.kept hg h.td.symm.ne), far _ h.tl (fun g e => (h.list.lt g e).2), far _ h.tk (fun g e => (h.keep.lt g e).2), far _ h.td (fun g e => (h.disks.lt g e).2), h.lk, h.ld, h.kd, hn, Nat.le_succ_of_le h.nL, Nat.le_succ_of_le h.nK, Nat.le_succ_of_le h.nD, hs, h.sL⟩, ⟨hg.os, hg.tape, hg.output, by simpa using hg.size, fun b hb hbp hbo => ?_, fun b o => ?_, rfl, rfl, rfl⟩⟩
  · rw [heap_setCell_same w1 p 0 _ _ v hb1]; simp [WS.cells]
  · rw [heap_setCell_other w1 ⟨p, 0, none⟩ b v hbp]
    exact hg.block b hb (fun e => hbo (Or.inl e.symm))
  · rcases o with o | o | o | o
    · rcases hv b o with o | o
      · exact Or.inl (Or.inl o)
      · exact Or.inr o
    · exact Or.inl (Or.inr (Or.inl o))
    · exact Or.inl (Or.inr (Or.inr (Or.inl o)))
    · exact Or.inl (Or.inr (Or.inr (Or.inr o)))
/-- The list anew: in new memory. -/
theorem WAt.setL {p k : Nat} {w w1 : World} {S : WS} (h : WAt p k w S) {v : Value} {L : List ByteArray} (hg : Below w.heap.size w w1) (ho : w1.ownsRow w.heap.size 9 1 v L.length (L.map .string)) (hn : L.length ≤ k + 1) (hs : ∀ s ∈ L, s.size ≤ 20000) :
    WAt p (k + 1) (w1.setCell ⟨p, 1, none⟩ v) { S with lv := v, L := L } ∧ Far p S { S with lv := v, L := L } w (w1.setCell ⟨p, 1, none⟩ v) := by
  have h1 := h.below hg
  have hv : ∀ g, v.ownBlock = some g → w.heap.size ≤ g := fun g e => (ho.lt g e).1
  have far : ∀ x, (∀ g, x.ownBlock = some g → g < w.heap.size) → away v x := fun x hl g h1 h2 => by
    have := hv g h1; have := hl g h2; omega
  have hm : ∀ {e : TypeId} {x : Value} {n : Nat} {xs : List Value}, w1.ownsRow (p + 1) e 1 x n xs → (w1.setCell ⟨p, 1, none⟩ v).ownsRow (p + 1) e 1 x n xs := fun {e x n xs} hx =>
    hx.kept (row := some p) ⟨rfl, rfl, rfl, by simp, fun b _ hb => heap_setCell_other w1 ⟨p, 1, none⟩ b v (fun e => hb (by simp [e]))⟩ (Or.inr fun e => by have := hx.lt p e; omega)
  have ho' : w1.ownsRow (p + 1) 9 1 v L.length (L.map .string) := by
    refine ⟨ho.1, ?_⟩
    rcases ho.2 with h0 | ⟨g, cap, cur, e1, e2, e3⟩
    · exact Or.inl h0
    · exact Or.inr ⟨g, cap, cur, e1, by have := h.lt; omega, e3⟩
  refine ⟨⟨?_, hm h1.texts, hm ho', hm h1.keep, hm h1.disks, (far _ (fun g e => (h.texts.lt g e).2)).symm, h.tk, h.td, far _ (fun g e => (h.keep.lt g e).2), far _ (fun g e => (h.disks.lt g e).2), h.kd, Nat.le_succ_of_le h.nT, hn, Nat.le_succ_of_le h.nK, Nat.le_succ_of_le h.nD, h.sT, hs⟩, ⟨hg.os, hg.tape, hg.output, by simpa using hg.size, fun b hb hbp hbo => ?_, fun b o => ?_, rfl, rfl, rfl⟩⟩
  · rw [heap_setCell_same w1 p 1 _ _ v h1.block]; simp [WS.cells]
  · rw [heap_setCell_other w1 ⟨p, 1, none⟩ b v hbp]
    exact hg.block b hb
  · rcases o with o | o | o | o
    · exact Or.inl (Or.inl o)
    · exact Or.inr (hv b o)
    · exact Or.inl (Or.inr (Or.inr (Or.inl o)))
    · exact Or.inl (Or.inr (Or.inr (Or.inr o)))
/-- What survives, anew: behind an append and a store. -/
theorem WAt.setK {p k : Nat} {w w1 : World} {S : WS} (h : WAt p k w S) {v : Value} {K : List Value} (hg : w.grownBy w1 S.kv.ownBlock) (ho : w1.ownsRow (p + 1) 3 1 v K.length K) (hv : ∀ g, v.ownBlock = some g → S.kv.ownBlock = some g ∨ w.heap.size ≤ g) (hn : K.length ≤ k + 1) :
    WAt p (k + 1) (w1.setCell ⟨p, 2, none⟩ v) { S with kv := v, K := K } ∧ Far p S { S with kv := v, K := K } w (w1.setCell ⟨p, 2, none⟩ v) := by
  have hp : some p ≠ S.kv.ownBlock := fun e => by have := h.keep.lt p e.symm; omega
  have hb1 : w1.heap[p]? = some (.cells S.cells.toArray 37 (0, 0)) := (hg.block p h.lt hp).trans h.block
  have far : ∀ x, away S.kv x → (∀ g, x.ownBlock = some g → g < w.heap.size) → away v x := fun x hx hl g h1 h2 => by
    rcases hv g h1 with h3 | h3
    · exact hx g h3 h2
    · have := hl g h2; omega
  have set : ∀ {e : TypeId} {x : Value} {n : Nat} {xs : List Value}, w1.ownsRow (p + 1) e 1 x n xs → (w1.setCell ⟨p, 2, none⟩ v).ownsRow (p + 1) e 1 x n xs := fun {e x n xs} hx =>
    hx.kept (row := some p) ⟨rfl, rfl, rfl, by simp, fun b _ hb => heap_setCell_other w1 ⟨p, 2, none⟩ b v (fun e => hb (by simp [e]))⟩ (Or.inr fun e => by have := hx.lt p e; omega)
  refine ⟨⟨?_, set (h.texts.kept hg h.tk.ne), set (h.list.kept hg h.lk.ne), set ho, set (h.disks.kept hg h.kd.symm.ne), h.tl, (far _ h.tk.symm (fun g e => (h.texts.lt g e).2)).symm, h.td, (far _ h.lk.symm (fun g e => (h.list.lt g e).2)).symm, h.ld, far _ h.kd (fun g e => (h.disks.lt g e).2), Nat.le_succ_of_le h.nT, Nat.le_succ_of_le h.nL, hn, Nat.le_succ_of_le h.nD, h.sT, h.sL⟩, ⟨hg.os, hg.tape, hg.output, by simpa using hg.size, fun b hb hbp hbo => ?_, fun b o => ?_, rfl, rfl, rfl⟩⟩
  · rw [heap_setCell_same w1 p 2 _ _ v hb1]; simp [WS.cells]
  · rw [heap_setCell_other w1 ⟨p, 2, none⟩ b v hbp]
    exact hg.block b hb (fun e => hbo (Or.inr (Or.inr (Or.inl e.symm))))
  · rcases o with o | o | o | o
    · exact Or.inl (Or.inl o)
    · exact Or.inl (Or.inr (Or.inl o))
    · rcases hv b o with o | o
      · exact Or.inl (Or.inr (Or.inr (Or.inl o)))
      · exact Or.inr o
    · exact Or.inl (Or.inr (Or.inr (Or.inr o)))
/-- The disks anew. -/
theorem WAt.setD {p k : Nat} {w w1 : World} {S : WS} (h : WAt p k w S) {v : Value} {D : List Value} (hg : w.grownBy w1 S.dv.ownBlock) (ho : w1.ownsRow (p + 1) 44 1 v D.length D) (hv : ∀ g, v.ownBlock = some g → S.dv.ownBlock = some g ∨ w.heap.size ≤ g) (hn : D.length ≤ k + 1) :
    WAt p (k + 1) (w1.setCell ⟨p, 3, none⟩ v) { S with dv := v, D := D } ∧ Far p S { S with dv := v, D := D } w (w1.setCell ⟨p, 3, none⟩ v) := by
  have hp : some p ≠ S.dv.ownBlock := fun e => by have := h.disks.lt p e.symm; omega
  have hb1 : w1.heap[p]? = some (.cells S.cells.toArray 37 (0, 0)) := (hg.block p h.lt hp).trans h.block
  have far : ∀ x, away S.dv x → (∀ g, x.ownBlock = some g → g < w.heap.size) → away v x := fun x hx hl g h1 h2 => by
    rcases hv g h1 with h3 | h3
    · exact hx g h3 h2
    · have := hl g h2; omega
  have set : ∀ {e : TypeId} {x : Value} {n : Nat} {xs : List Value}, w1.ownsRow (p + 1) e 1 x n xs → (w1.setCell ⟨p, 3, none⟩ v).ownsRow (p + 1) e 1 x n xs := fun {e x n xs} hx =>
    hx.kept (row := some p) ⟨rfl, rfl, rfl, by simp, fun b _ hb => heap_setCell_other w1 ⟨p, 3, none⟩ b v (fun e => hb (by simp [e]))⟩ (Or.inr fun e => by have := hx.lt p e; omega)
  refine ⟨⟨?_, set (h.texts.kept hg h.td.ne), set (h.list.kept hg h.ld.ne), set (h.keep.kept hg h.kd.ne), set ho, h.tl, h.tk, (far _ h.td.symm (fun g e => (h.texts.lt g e).2)).symm, h.lk, (far _ h.ld.symm (fun g e => (h.list.lt g e).2)).symm, (far _ h.kd.symm (fun g e => (h.keep.lt g e).2)).symm, Nat.le_succ_of_le h.nT, Nat.le_succ_of_le h.nL, Nat.le_succ_of_le h.nK, hn, h.sT, h.sL⟩, ⟨hg.os, hg.tape, hg.output, by simpa using hg.size, fun b hb hbp hbo => ?_, fun b o => ?_, rfl, rfl, rfl⟩⟩
  · rw [heap_setCell_same w1 p 3 _ _ v hb1]; simp [WS.cells]
  · rw [heap_setCell_other w1 ⟨p, 3, none⟩ b v hbp]
    exact hg.block b hb (fun e => hbo (Or.inr (Or.inr (Or.inr e.symm))))
  · rcases o with o | o | o | o
    · exact Or.inl (Or.inl o)
    · exact Or.inl (Or.inr (Or.inl o))
    · exact Or.inl (Or.inr (Or.inr (Or.inl o)))
    · rcases hv b o with o | o
      · exact Or.inl (Or.inr (Or.inr (Or.inr o)))
      · exact Or.inr o
end Go.Proofs.YtijdnpoenpjnlaaGreatDoor
