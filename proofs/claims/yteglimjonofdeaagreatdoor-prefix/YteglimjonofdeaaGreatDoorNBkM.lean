import Derived.Test.YteglimjonofdeaaGreatDoorNRec6
set_option linter.unusedVariables false
set_option linter.unusedSimpArgs false
namespace Go.Proofs.YteglimjonofdeaaGreatDoor
open Go.RowKit

/-- An entry of the log. -/
structure En where
  (c n o p v : Int)
  t : ByteArray
  (k vv : Int)
  tt : ByteArray
def En.cells (e : En) : List Value := enCells e.c e.n e.o e.p e.v e.t e.k e.vv e.tt
def En.ok (e : En) : Prop := (0 ≤ e.c ∧ e.c ≤ 9) ∧ (0 ≤ e.n ∧ e.n ≤ 2147483647) ∧ (0 ≤ e.k ∧ e.k < 256) ∧ (0 ≤ e.vv ∧ e.vv < 256) ∧ e.tt.size ≤ 8
theorem En.len (e : En) : e.cells.length = 9 := rfl
theorem En.one (e : En) : ∀ u ∈ e.cells, u.oneCell' = true := by
  intro u hu; simp [En.cells, enCells, rqCells] at hu; rcases hu with rfl | rfl | rfl | rfl | rfl | rfl | rfl | rfl | rfl <;> rfl
def logC (L : List En) : List Value := L.flatMap En.cells
theorem logC_snoc (L : List En) (e : En) : logC (L ++ [e]) = logC L ++ e.cells := by unfold logC; rw [List.flatMap_append]; simp
theorem logC_len : ∀ L : List En, (logC L).length = L.length * 9
  | [] => rfl
  | e :: L => by
    have := logC_len L
    unfold logC at this ⊢
    rw [List.flatMap_cons, List.length_append, this, e.len, List.length_cons]; omega
theorem logC_get : ∀ (L : List En) (i j : Nat) (e : En), L[i]? = some e → j < 9 → (logC L)[i * 9 + j]? = e.cells[j]?
  | e0 :: L, 0, j, e, h, hj => by
    obtain rfl : e0 = e := by simpa using h
    unfold logC
    rw [List.flatMap_cons, List.getElem?_append_left (by rw [e0.len]; omega)]; simp
  | e0 :: L, i + 1, j, e, h, hj => by
    have := logC_get L i j e (by simpa using h) hj
    unfold logC at this ⊢
    rw [List.flatMap_cons, List.getElem?_append_right (by rw [e0.len]; omega), e0.len, show (i + 1) * 9 + j - 9 = i * 9 + j by omega, this]
/-- A book's cells. -/
def bkL (j lm m ky : Nat) (lv : Value) : List Value := [.pointer (some ⟨j, 0, none⟩), lv, .map (some lm), .map (some m), .int .i64 (ky : Nat)]
/-- The blocks that are a book's own. -/
def bkOwn (bk lm : Nat) (lv : Value) (G : Nat → Prop) (g : Nat) : Prop := g = bk ∨ g = lm ∨ G g ∨ lv.ownBlock = some g
/-- A book: its log, the clients' last entries, the records. -/
structure BookAt (w : World) (bk j lm m cc ky : Nat) (lv : Value) (L : List En) (G F : Nat → Prop) (D : DataW Unit) : Prop where
  lt : bk < w.heap.size
  cells : w.rangeAt bk 0 (bkL j lm m ky lv)
  room : w.there bk 0 5
  log : w.ownsRow 0 168 9 lv L.length (logC L)
  lasts : w.ownsMap Tryz.prog 3 (plainElem Tryz.prog 3) lm cc D
  recs : RecsAt w m cc G F
  ens : ∀ e ∈ L, e.ok
  apart : ¬ G bk ∧ ¬ G lm ∧ bk ≠ lm
  logs : ∀ g, lv.ownBlock = some g → g ≠ bk ∧ g ≠ lm ∧ ¬ G g
theorem BookAt.kept {w w' : World} {bk j lm m cc ky : Nat} {lv : Value} {L : List En} {G F S : Nat → Prop} {D : DataW Unit} (h : BookAt w bk j lm m cc ky lv L G F D) (hk : Kept S w w') (hn : ∀ g, bkOwn bk lm lv G g → ¬ S g) : BookAt w' bk j lm m cc ky lv L G F D :=
  ⟨Nat.lt_of_lt_of_le h.lt hk.size, range_kept h.cells hk h.lt (hn bk (Or.inl rfl)), there_kept h.room hk h.lt (hn bk (Or.inl rfl)), hk.own h.log (fun g hg => hn g (Or.inr (Or.inr (Or.inr hg)))), by
    obtain ⟨es, clock, h1, h2⟩ := h.lasts
    exact ⟨es, clock, (hk.block lm (block_lt h1) (hn lm (Or.inr (Or.inl rfl)))).trans h1, h2⟩, h.recs.kept hk (fun g hg => hn g (Or.inr (Or.inr (Or.inl hg)))), h.ens, h.apart, h.logs⟩
theorem BookAt.fresh {w w' : World} {bk j lm m cc ky : Nat} {lv : Value} {L : List En} {G F : Nat → Prop} {D : DataW Unit} (h : BookAt w bk j lm m cc ky lv L G F D) (hb : Below w.heap.size w w') : BookAt w' bk j lm m cc ky lv L G F D :=
  h.kept (Kept.fresh (S := fun _ => False) hb) (fun _ _ => id)
theorem BookAt.ownLt {w : World} {bk j lm m cc ky : Nat} {lv : Value} {L : List En} {G F : Nat → Prop} {D : DataW Unit} (h : BookAt w bk j lm m cc ky lv L G F D) (g : Nat) (hg : bkOwn bk lm lv G g) : g < w.heap.size := by
  rcases hg with rfl | rfl | hg | hg
  · exact h.lt
  · exact h.lasts.lt
  · exact h.recs.lts g hg
  · exact (h.log.lt g hg).2
/-- A deed was done. -/
theorem BookAt.did {w w' : World} {bk j lm m cc ky : Nat} {lv : Value} {L : List En} {G F G' F' : Nat → Prop} {D : DataW Unit} (h : BookAt w bk j lm m cc ky lv L G F D) (hR : RecsAt w' m (cc + 2) G' F') (hk : Kept G w w') (hG : ∀ g, G' g → G g ∨ w.heap.size ≤ g) : BookAt w' bk j lm m (cc + 2) ky lv L G' F' D := by
  have hml := h.lasts.lt
  refine ⟨Nat.lt_of_lt_of_le h.lt hk.size, range_kept h.cells hk h.lt h.apart.1, there_kept h.room hk h.lt h.apart.1, hk.own h.log (fun g hg => (h.logs g hg).2.2), ?_, hR, h.ens, ⟨fun e => ?_, fun e => ?_, h.apart.2.2⟩, fun g hg => ⟨(h.logs g hg).1, (h.logs g hg).2.1, fun e => ?_⟩⟩
  · obtain ⟨es, clock, h1, h2, h3, h4⟩ := h.lasts
    exact ⟨es, clock, (hk.block lm (block_lt h1) h.apart.2.1).trans h1, h2, by omega, h4⟩
  · rcases hG _ e with e | e
    · exact h.apart.1 e
    · have := h.lt; omega
  · rcases hG _ e with e | e
    · exact h.apart.2.1 e
    · omega
  · rcases hG _ e with e | e
    · exact (h.logs g hg).2.2 e
    · have := (h.log.lt g hg).2; omega
/-- An entry was laid behind the log. -/
theorem BookAt.logged {w w2 w3 : World} {bk j lm m cc ky : Nat} {lv : Value} {L : List En} {G F : Nat → Prop} {D : DataW Unit} {e : En} {o : Obj} {g5 cap5 : Nat} (h : BookAt w bk j lm m cc ky lv L G F D) (he : e.ok) (h2 : w2 = w.alloc o)
    (hg : w2.grownBy w3 lv.ownBlock) (ho : w3.ownsRow 0 168 9 (.slice (some ⟨g5, 0, none⟩) (L.length + 1) cap5) (L.length + 1) (logC L ++ e.cells)) (hat : lv.ownBlock = some g5 ∨ g5 = w2.heap.size) (hlt : g5 < w3.heap.size) :
    BookAt (w3.setCell ⟨bk, 1, none⟩ (.slice (some ⟨g5, 0, none⟩) (L.length + 1) cap5)) bk j lm m cc ky (.slice (some ⟨g5, 0, none⟩) (L.length + 1) cap5) (L ++ [e]) G F D ∧
    Kept (bkOwn bk lm lv G) w (w3.setCell ⟨bk, 1, none⟩ (.slice (some ⟨g5, 0, none⟩) (L.length + 1) cap5)) ∧ (lv.ownBlock = some g5 ∨ w.heap.size ≤ g5) := by
  have hbl := h.lt
  have h2s : w2.heap.size = w.heap.size + 1 := by rw [h2]; simp
  have k2 : Kept (fun _ => False) w w2 := by rw [h2]; exact Kept.alloc _ _ _
  have k3 : Kept (fun g => lv.ownBlock = some g) w2 w3 := Kept.grown hg (fun k e => Or.inl e)
  have k23 : Kept (fun g => lv.ownBlock = some g) w w3 := (k2.mono (fun _ _ h => h.elim)).trans k3 (fun _ _ h => h)
  have k4 : Kept (· = bk) w3 (w3.setCell ⟨bk, 1, none⟩ (.slice (some ⟨g5, 0, none⟩) (L.length + 1) cap5)) := Kept.setCell _ _ _ (Or.inl rfl)
  have hnb : ¬ lv.ownBlock = some bk := fun e => (h.logs bk e).1 rfl
  have hg5 : g5 ≠ bk ∧ g5 ≠ lm ∧ ¬ G g5 := by
    rcases hat with e | e
    · exact h.logs g5 e
    · refine ⟨by omega, by have := h.lasts.lt; omega, fun e => by have := h.recs.lts g5 e; omega⟩
  have k3b : bk < w3.heap.size := Nat.lt_of_lt_of_le hbl k23.size
  have r3 : w3.rangeAt bk 0 (bkL j lm m ky lv) := range_kept h.cells k23 hbl hnb
  have t3 : w3.there bk 0 5 := there_kept h.room k23 hbl hnb
  have kall : Kept (bkOwn bk lm lv G) w (w3.setCell ⟨bk, 1, none⟩ (.slice (some ⟨g5, 0, none⟩) (L.length + 1) cap5)) := (k23.mono (fun g _ e => Or.inr (Or.inr (Or.inr e)))).trans k4 (fun g _ e => Or.inl e)
  have blk : ∀ g, g < w.heap.size → g ≠ bk → ¬ lv.ownBlock = some g → (w3.setCell ⟨bk, 1, none⟩ (.slice (some ⟨g5, 0, none⟩) (L.length + 1) cap5)).heap[g]? = w.heap[g]? := fun g hg h1 h2 => (k4.block g (Nat.lt_of_lt_of_le hg k23.size) h1).trans (k23.block g hg h2)
  have kG : Kept (fun g => g = bk ∨ lv.ownBlock = some g) w (w3.setCell ⟨bk, 1, none⟩ (.slice (some ⟨g5, 0, none⟩) (L.length + 1) cap5)) := (k23.mono (fun g _ e => Or.inr e)).trans k4 (fun g _ e => Or.inl e)
  refine ⟨⟨by simpa using k3b, ?_, World.there_setCells t3 bk 1 [.slice (some ⟨g5, 0, none⟩) (L.length + 1) cap5], ?_, ?_, h.recs.kept kG (fun g hg e => ?_), ?_, h.apart, fun g hg => ?_⟩, kall, ?_⟩
  · intro i u hu
    match i, hu with
    | 0, hu => rw [World.cell?_setCell_other _ _ _ _ (by intro e; have := congrArg Addr.off e; simp at this)]; exact r3 0 _ hu
    | 1, hu => exact (World.cell?_setCell_same _ ⟨bk, 1, none⟩ _ (u := lv) (r3 1 _ rfl)).trans hu
    | 2, hu => rw [World.cell?_setCell_other _ _ _ _ (by intro e; have := congrArg Addr.off e; simp at this)]; exact r3 2 _ hu
    | 3, hu => rw [World.cell?_setCell_other _ _ _ _ (by intro e; have := congrArg Addr.off e; simp at this)]; exact r3 3 _ hu
    | 4, hu => rw [World.cell?_setCell_other _ _ _ _ (by intro e; have := congrArg Addr.off e; simp at this)]; exact r3 4 _ hu
    | i + 5, hu => cases hu
  · rw [logC_snoc, List.length_append, List.length_singleton]
    refine own_sameX ho (fun g hg => ?_)
    obtain rfl : g5 = g := by simpa [Value.ownBlock] using hg
    exact heap_setCell_other _ ⟨bk, 1, none⟩ g5 _ hg5.1
  · have hml := h.lasts.lt
    obtain ⟨es, clock, h1, h2⟩ := h.lasts
    exact ⟨es, clock, (blk lm hml (fun e => h.apart.2.2 e.symm) (fun e => (h.logs lm e).2.1 rfl)).trans h1, h2⟩
  · rcases e with rfl | e
    · exact h.apart.1 hg
    · exact (h.logs g e).2.2 hg
  · intro x hx
    rcases List.mem_append.1 hx with hx | hx
    · exact h.ens x hx
    · rw [List.mem_singleton.1 hx]; exact he
  · obtain rfl : g5 = g := by simpa [Value.ownBlock] using hg
    exact hg5
  · rcases hat with e | e
    · exact Or.inl e
    · right; omega
/-- A client's last entry was written down. -/
theorem BookAt.lasted {w w' : World} {bk j lm m cc ky : Nat} {lv : Value} {L : List En} {G F : Nat → Prop} {D D' : DataW Unit} (h : BookAt w bk j lm m cc ky lv L G F D) (hm : w'.ownsMap Tryz.prog 3 (plainElem Tryz.prog 3) lm (cc + 1) D') (hg : w.grownBy w' (some lm)) :
    BookAt w' bk j lm m (cc + 1) ky lv L G F D' ∧ Kept (bkOwn bk lm lv G) w w' := by
  have k : Kept (· = lm) w w' := Kept.grown hg (fun k e => Or.inl (by simpa using e.symm))
  refine ⟨⟨Nat.lt_of_lt_of_le h.lt k.size, range_kept h.cells k h.lt h.apart.2.2, there_kept h.room k h.lt h.apart.2.2, k.own h.log (fun g hg => (h.logs g hg).2.1), hm, (h.recs.kept k (fun g hg2 e => ?_)).mono (by omega), h.ens, h.apart, h.logs⟩, k.mono (fun g _ e => Or.inr (Or.inl e))⟩
  exact h.apart.2.1 (e ▸ hg2)
end Go.Proofs.YteglimjonofdeaaGreatDoor
set_option linter.unusedVariables false
set_option linter.unusedSimpArgs false
namespace Go.Proofs.YteglimjonofdeaaGreatDoor
open Go.RowKit

theorem en_built (c n o p v : Int) (t : ByteArray) (k vv : Int) (tt : ByteArray) : Tryz.prog.built 168 [(0, .agg (rqCells c n o p v t).toArray), (1, .agg (anCells k vv tt).toArray)] = some (enCells c n o p v t k vv tt).toArray := by kernel_rfl
theorem rq_built (c n o p v : Int) (t : ByteArray) : Tryz.prog.built 29 [(0, .int .i64 c), (1, .int .i64 n), (2, .int .i64 o), (3, .int .i64 p), (4, .int .i64 v), (5, .string t)] = some (rqCells c n o p v t).toArray := by kernel_rfl
theorem rq_one (c n o p v : Int) (t : ByteArray) : ∀ u ∈ rqCells c n o p v t, u.oneCell' = true := by intro u hu; simp [rqCells] at hu; rcases hu with rfl | rfl | rfl | rfl | rfl | rfl <;> rfl
theorem alloc_rq (w : World) : (Instr.alloc 29 true (.tuple #[])).run Tryz.prog w = .ok (.pointer (some ⟨w.heap.size, 0, none⟩)) (w.alloc (.cells (rqCells 0 0 0 0 0 ⟨#[]⟩).toArray 29)) := by kernel_rfl
theorem yieldsIf_build {ops : Array Oper} {S : World → Prop} {op : Oper} {a : Act} (hw : Region.wanted op (yielded ops a.tmps) = true) (t : TypeId) (parts : Array (Nat × Operand)) (ho : op.op = .build t parts) (cells : Array Value)
    (hf : Tryz.prog.built t (parts.map fun (i, x) => (i, a.eval x)).toList = some cells) : YieldsIf Tryz.prog ops S op (.agg cells) a :=
  .inl ⟨hw, fun w _ => by
    unfold execOp
    simp only [ho, Sem.run_bind, run_build w t _ cells hf, Result.andThen_ok]; rfl⟩
theorem info_enT : ∃ i, Tryz.prog.info? 168 = some i ∧ i.zero = some (.agg (enCells 0 0 0 0 0 ⟨#[]⟩ 0 0 ⟨#[]⟩).toArray) ∧ i.size = 9 ∧ i.bytes = 88 := by
  obtain ⟨i, hi⟩ : ∃ i, Tryz.prog.info? 168 = some i := Option.isSome_iff_exists.1 (by kernel_rfl)
  refine ⟨i, hi, ?_, ?_, ?_⟩
  · have : (Tryz.prog.info? 168).bind (·.zero) = some (.agg (enCells 0 0 0 0 0 ⟨#[]⟩ 0 0 ⟨#[]⟩).toArray) := by kernel_rfl
    rw [hi] at this; exact this
  · have : (Tryz.prog.info? 168).map (·.size) = some 9 := by kernel_rfl
    rw [hi] at this; exact Option.some.inj this
  · have : (Tryz.prog.info? 168).map (·.bytes) = some 88 := by kernel_rfl
    rw [hi] at this; exact Option.some.inj this
theorem World.rangeAt_lt {W : World} {b : Nat} {x : Value} {xs : List Value} (h : W.rangeAt b 0 (x :: xs)) : b < W.heap.size := by
  have := h 0 x rfl
  rcases Nat.lt_or_ge b W.heap.size with h1 | h1
  · exact h1
  · simp [World.cell?, Array.getElem?_eq_none h1] at this
/-- What add leaves. -/
def addPost (bk j lm m cc ky : Nat) (lv : Value) (L : List En) (G F : Nat → Prop) (D : DataW Unit) (c n o p v : Int) (t : ByteArray) (w : World) (e : Ending) (w' : World) : Prop :=
  ∃ (lv' : Value) (G' F' : Nat → Prop) (k vv : Int) (tt : ByteArray), e = .returned (.tuple #[]) ∧ BookAt w' bk j lm m (cc + 3) ky lv' (L ++ [⟨c, n, o, p, v, t, k, vv, tt⟩]) G' F' (D.put (.int .i64 c) (.lit (.int .i64 ((L.length + 1 : Nat) : Int)))) ∧ Kept (bkOwn bk lm lv G) w w' ∧ ∀ g, bkOwn bk lm lv' G' g → bkOwn bk lm lv G g ∨ w.heap.size ≤ g

set_option maxRecDepth 10000 in
set_option maxHeartbeats 4000000 in
theorem badd_any (bk j lm m cc ky : Nat) (lv : Value) (L : List En) (G F : Nat → Prop) (D : DataW Unit) (c n o p v : Int) (t : ByteArray) (w : World) (h : BookAt w bk j lm m cc ky lv L G F D) (hw : rqWhole c n o p v t = true) (hL : L.length ≤ 400) (hcc : cc < 800) :
    Calls Tryz.prog 144 #[.pointer (some ⟨bk, 0, none⟩), .agg (rqCells c n o p v t).toArray] w (addPost bk j lm m cc ky lv L G F D c n o p v t w) := by
  obtain ⟨⟨c1, c2⟩, ⟨n1, n2⟩, ho, ⟨p1, p2⟩, hv, ht⟩ := rq_bounds hw
  have hp : 0 ≤ p ∧ p < 1000 := by omega
  have hc' : 0 ≤ c ∧ c ≤ 9 := by omega
  have hn' : 0 ≤ n ∧ n ≤ 2147483647 := by omega
  obtain ⟨i0, hi9, hz9, hs9, hb9⟩ := info_enT
  obtain ⟨V, hV⟩ : ∃ V, V = w.alloc (.cells (rqCells c n o p v t).toArray 29) := ⟨_, rfl⟩
  have hVs : V.heap.size = w.heap.size + 1 := by rw [hV]; simp
  have kV : Kept (fun _ => False) w V := by rw [hV]; exact Kept.alloc _ _ _
  have rV : V.rangeAt w.heap.size 0 (rqCells c n o p v t) := by rw [hV]; exact range_new _ _ _
  have kD : Kept (fun _ => False) w V.drew := kV.trans (Kept.drew _ V) (fun _ _ h => h)
  have BD : Hid (BookAt V.drew bk j lm m cc ky lv L G F D) := h.kept kD (fun _ _ => id)
  have HKD : Hid (Kept (fun _ => False) w V.drew) := kD
  have HG : Hid (∀ g, G g → g < w.heap.size) := h.recs.lts
  have HLV : Hid (∀ g, lv.ownBlock = some g → g < w.heap.size) := fun g hg => (h.log.lt g hg).2
  have HBK : Hid (bk < w.heap.size) := h.lt
  have HLM : Hid (lm < w.heap.size) := h.lasts.lt
  have HNB : Hid (¬ lv.ownBlock = some bk) := fun e => (h.logs bk e).1 rfl
  have HQ : Hid ((Tryz.prog.info? 29).map (·.size) = some (rqCells c n o p v t).length) := info_rq c n o p v t
  have J0 : V.drew.rangeAt w.heap.size 0 (rqCells c n o p v t) ∧ V.drew.cell? ⟨bk, 3, none⟩ = some (.map (some m)) := ⟨rV, BD.out.cells 3 _ rfl⟩
  have hVV : w.alloc (.cells (rqCells c n o p v t).toArray 29) = V := hV.symm
  clear h kV kD rV hV
  go_enter Tryz.func144, Tryz.ntmps144
  go_wp2_with fail
  try rw [hVV]
  clear hVV
  refine wp_region_noPanic ?_
  refine wp_region_held_drew (S := fun W => W.rangeAt w.heap.size 0 (rqCells c n o p v t) ∧ W.cell? ⟨bk, 3, none⟩ = some (.map (some m))) (by kernel_rfl) J0 (fun _ => ?_)
  refine wpAnyH_take (i := 0) (v := ?_) rfl (by kernel_rfl) (by kernel_rfl) (by kernel_rfl) (fun _ _ _ h => h) (Or.inl ⟨by rfl, ?_⟩) J0 ?_
  rotate_left 1
  · intro W hSW; clear hSW; go_simp; try with_reducible rfl
  simp only [qA, qB, qC, Act.put, qD, qE, qF]
  refine wpAnyH_take (i := 1) (v := ?_) rfl (by kernel_rfl) (by kernel_rfl) (by kernel_rfl) (fun _ _ _ h => h) (Or.inl ⟨by rfl, ?_⟩) J0 ?_
  rotate_left 1
  · intro W hSW; clear hSW; go_simp; try with_reducible rfl
  simp only [qA, qB, qC, Act.put, qD, qE, qF]
  refine wpAnyH_take (i := 2) (v := ?_) rfl (by kernel_rfl) (by kernel_rfl) (by kernel_rfl) (fun _ _ _ h => h) (Or.inl ⟨by rfl, ?_⟩) J0 ?_
  rotate_left 1
  · intro W hSW; clear hSW; go_simp; try with_reducible rfl
  simp only [qA, qB, qC, Act.put, qD, qE, qF]
  refine wpAnyH_take (i := 3) (v := ?_) rfl (by kernel_rfl) (by kernel_rfl) (by kernel_rfl) (fun _ _ _ h => h) (Or.inl ⟨by rfl, ?_⟩) J0 ?_
  rotate_left 1
  · intro W hSW; clear hSW; go_simp; try with_reducible rfl
  simp only [qA, qB, qC, Act.put, qD, qE, qF]
  refine wpAnyH_take (i := 5) (v := .agg ((rqCells c n o p v t)).toArray) rfl (by kernel_rfl) (by kernel_rfl) (by kernel_rfl) (fun _ _ _ h => h) (yieldsIf_load_mid (by rfl) 29 _ rfl w.heap.size 0 rfl ((rqCells c n o p v t)) _ (fun W hW => hW.1) Tryz.underlying29 rfl HQ.out) J0 ?_
  simp only [qA, qB, qC, Act.put, qD, qE, qF]
  refine wpAnyH_take (i := 6) (v := ?_) rfl (by kernel_rfl) (by kernel_rfl) (by kernel_rfl) (fun _ _ _ h => h) (Or.inl ⟨by rfl, ?_⟩) J0 ?_
  rotate_left 1
  · intro W hSW; clear hSW; go_simp; try with_reducible rfl
  simp only [qA, qB, qC, Act.put, qD, qE, qF]
  refine wpAnyH_take (i := 7) (v := ?_) rfl (by kernel_rfl) (by kernel_rfl) (by kernel_rfl) (fun _ _ _ h => h) (Or.inl ⟨by rfl, ?_⟩) J0 ?_
  rotate_left 1
  · intro W hSW; clear hSW; go_simp; try with_reducible rfl
  simp only [qA, qB, qC, Act.put, qD, qE, qF]
  refine wpAnyH_take (i := 8) (v := ?_) rfl (by kernel_rfl) (by kernel_rfl) (by kernel_rfl) (fun _ _ _ h => h) (Or.inl ⟨by rfl, ?_⟩) J0 ?_
  rotate_left 1
  · intro W hSW; clear hSW; go_simp; try with_reducible rfl
  simp only [qA, qB, qC, Act.put, qD, qE, qF]
  refine wpAnyH_take (i := 9) (v := ?_) rfl (by kernel_rfl) (by kernel_rfl) (by kernel_rfl) (fun _ _ _ h => h) (Or.inl ⟨by rfl, ?_⟩) J0 ?_
  rotate_left 1
  · intro W hSW; have qc : W.cell? ⟨bk, 3, none⟩ = some (.map (some m)) := hSW.2; clear hSW; go_simp; try with_reducible rfl
  simp only [qA, qB, qC, Act.put, qD, qE, qF]
  refine wpAnyH_take (i := 10) (v := .agg ((rqCells c n o p v t)).toArray) rfl (by kernel_rfl) (by kernel_rfl) (by kernel_rfl) (fun _ _ _ h => h) (yieldsIf_load_mid (by rfl) 29 _ rfl w.heap.size 0 rfl ((rqCells c n o p v t)) _ (fun W hW => hW.1) Tryz.underlying29 rfl HQ.out) J0 ?_
  simp only [qA, qB, qC, Act.put, qD, qE, qF]
  all_goals
    refine wpAnyH_ready (rs := [4, 11]) (by kernel_rfl) (by simp) ?_
    refine AllReadyH.cons rfl (fun K' hK' => ?_) (AllReadyH.cons rfl (fun K' hK' => ?_) AllReadyH.nil)
    rw [if_pos (by rfl)]
    have q4 : V.drew.cell? ⟨bk, 1, none⟩ = some lv := BD.out.cells 1 _ rfl
    go_simp
    clear q4
    refine hK'.out _ _ J0 (fun _ => ?_)
    clear hK' K'
    try simp only [qA, qB, qC, Act.put, qD, qE, qF]
    rotate_left 1
    rw [if_pos (by rfl)]
    go_simp
    refine (do_any m cc G F c n o p v t V.drew BD.out.recs ho hp hv ht (by omega)).mono ?_
    rintro e W1 ⟨k, vv, tt, G', F', rfl, a1, a2, a3, R1, K1, G1⟩
    have B1 : Hid (BookAt W1 bk j lm m (cc + 2) ky lv L G' F' D) := BD.out.did R1 K1 G1
    have J1 : W1.rangeAt w.heap.size 0 (rqCells c n o p v t) ∧ W1.cell? ⟨bk, 3, none⟩ = some (.map (some m)) := ⟨range_kept (W := V.drew) J0.1 K1 (by show _ < V.heap.size; omega) (fun hg => by have := HG.out _ hg; omega), B1.out.cells 3 _ rfl⟩
    have HK1 : Hid (Kept (bkOwn bk lm lv G) w W1) := (HKD.out.mono (fun _ _ h => h.elim)).trans K1 (fun g _ h => Or.inr (Or.inr (Or.inl h)))
    have HG1 : Hid (∀ g, G' g → G g ∨ w.heap.size ≤ g) := fun g hg => (G1 g hg).imp id (fun h => by have : V.heap.size ≤ g := h; omega)
    have hW1s : w.heap.size + 1 ≤ W1.heap.size := by have := K1.size; have : V.heap.size ≤ W1.heap.size := this; omega
    have hen := en_built c n o p v t k vv tt
    have HBS : Hid (∀ w, (Instr.buildSlice 172 1 #[(0, .agg (enCells c n o p v t k vv tt).toArray)]).run Tryz.prog w = .ok (.slice (some ⟨w.heap.size, 0, none⟩) 1 1) (w.alloc (.cells (enCells c n o p v t k vv tt).toArray 168))) := fun w => run_slice_one 172 168 (enCells c n o p v t k vv tt) i0 _ Tryz.underlying172 hi9 hz9 hs9 (by show 0 < 9; omega) (by show 9 ≤ 1000; omega) w
    clear R1 K1 G1
    refine hK'.out _ _ J1 (fun _ => ?_)
    clear hK' K'
    try simp only [qA, qB, qC, Act.put, qD, qE, qF]
    refine wpAnyH_take (i := 12) (v := .agg (enCells c n o p v t k vv tt).toArray) rfl (by kernel_rfl) (by kernel_rfl) (by kernel_rfl) (fun _ _ _ h => h) (yieldsIf_build (by rfl) 168 _ rfl (enCells c n o p v t k vv tt).toArray (Eq.trans (congrArg (Tryz.prog.built _) (by simp [Act.eval])) hen)) J1 ?_
    simp only [qA, qB, qC, Act.put, qD, qE, qF]
    rotate_left 1
  all_goals first
    | (refine wpAnyH_ready (rs := [11]) (by kernel_rfl) (by simp) ?_
       refine AllReadyH.cons rfl (fun K' hK' => ?_) AllReadyH.nil
       rw [if_pos (by rfl)]
       go_simp
       refine (do_any m cc G F c n o p v t V.drew BD.out.recs ho hp hv ht (by omega)).mono ?_
       rintro e W1 ⟨k, vv, tt, G', F', rfl, a1, a2, a3, R1, K1, G1⟩
       have B1 : Hid (BookAt W1 bk j lm m (cc + 2) ky lv L G' F' D) := BD.out.did R1 K1 G1
       have J1 : W1.rangeAt w.heap.size 0 (rqCells c n o p v t) ∧ W1.cell? ⟨bk, 3, none⟩ = some (.map (some m)) := ⟨range_kept (W := V.drew) J0.1 K1 (by show _ < V.heap.size; omega) (fun hg => by have := HG.out _ hg; omega), B1.out.cells 3 _ rfl⟩
       have HK1 : Hid (Kept (bkOwn bk lm lv G) w W1) := (HKD.out.mono (fun _ _ h => h.elim)).trans K1 (fun g _ h => Or.inr (Or.inr (Or.inl h)))
       have HG1 : Hid (∀ g, G' g → G g ∨ w.heap.size ≤ g) := fun g hg => (G1 g hg).imp id (fun h => by have : V.heap.size ≤ g := h; omega)
       have hW1s : w.heap.size + 1 ≤ W1.heap.size := by have := K1.size; have : V.heap.size ≤ W1.heap.size := this; omega
       have hen := en_built c n o p v t k vv tt
       have HBS : Hid (∀ w, (Instr.buildSlice 172 1 #[(0, .agg (enCells c n o p v t k vv tt).toArray)]).run Tryz.prog w = .ok (.slice (some ⟨w.heap.size, 0, none⟩) 1 1) (w.alloc (.cells (enCells c n o p v t k vv tt).toArray 168))) := fun w => run_slice_one 172 168 (enCells c n o p v t k vv tt) i0 _ Tryz.underlying172 hi9 hz9 hs9 (by show 0 < 9; omega) (by show 9 ≤ 1000; omega) w
       clear R1 K1 G1
       refine hK'.out _ _ J1 (fun _ => ?_)
       clear hK' K'
       try simp only [qA, qB, qC, Act.put, qD, qE, qF]
       refine wpAnyH_take (i := 12) (v := .agg (enCells c n o p v t k vv tt).toArray) rfl (by kernel_rfl) (by kernel_rfl) (by kernel_rfl) (fun _ _ _ h => h) (yieldsIf_build (by rfl) 168 _ rfl (enCells c n o p v t k vv tt).toArray (Eq.trans (congrArg (Tryz.prog.built _) (by simp [Act.eval])) hen)) J1 ?_
       simp only [qA, qB, qC, Act.put, qD, qE, qF])
    | (refine wpAnyH_ready (rs := [4, 13]) (by kernel_rfl) (by simp) ?_
       refine AllReadyH.cons rfl (fun K' hK' => ?_) (AllReadyH.cons rfl (fun K' hK' => ?_) AllReadyH.nil)
       rw [if_pos (by rfl)]
       have q4 : W1.cell? ⟨bk, 1, none⟩ = some lv := B1.out.cells 1 _ rfl
       go_simp
       clear q4
       refine hK'.out _ _ J1 (fun _ => ?_)
       clear hK' K'
       try simp only [qA, qB, qC, Act.put, qD, qE, qF]
       rotate_left 1
       rw [if_pos (by rfl)]
       refine wp_slice_one 172 168 _ rfl (enCells c n o p v t k vv tt) rfl HBS.out ?_
       obtain ⟨W2, hW2⟩ : ∃ W2, W2 = W1.alloc (.cells (enCells c n o p v t k vv tt).toArray 168) := ⟨_, rfl⟩
       rw [← hW2]
       have k2 : Kept (fun _ => False) W1 W2 := by rw [hW2]; exact Kept.alloc _ _ _
       have hn2 : ∀ x u, (enCells c n o p v t k vv tt)[x]? = some u → W2.cell? ((⟨W1.heap.size, 0, none⟩ : Addr).add x) = some u := by rw [hW2]; exact World.news_of_block (heap_alloc_new W1 (.cells (enCells c n o p v t k vv tt).toArray 168))
       have HN2 : Hid (∀ x u, (enCells c n o p v t k vv tt)[x]? = some u → W2.cell? ((⟨W1.heap.size, 0, none⟩ : Addr).add x) = some u) := hn2
       have B2 : Hid (BookAt W2 bk j lm m (cc + 2) ky lv L G' F' D) := B1.out.kept k2 (fun _ _ => id)
       have J2 : W2.rangeAt w.heap.size 0 (rqCells c n o p v t) ∧ W2.cell? ⟨bk, 3, none⟩ = some (.map (some m)) := ⟨range_kept J1.1 k2 (by omega) id, B2.out.cells 3 _ rfl⟩
       have hW2s : W2.heap.size = W1.heap.size + 1 := by rw [hW2]; simp
       have HW2 : Hid (W2 = W1.alloc (.cells (enCells c n o p v t k vv tt).toArray 168)) := hW2
       have HW2s : Hid (W2.heap.size = W1.heap.size + 1) := hW2s
       clear hW2 hn2 k2 hW2s
       refine hK'.out _ _ J2 (fun _ => ?_)
       clear hK' K'
       try simp only [qA, qB, qC, Act.put, qD, qE, qF]
       rotate_left 1)
  all_goals first
    | (refine wpAnyH_ready (rs := [13]) (by kernel_rfl) (by simp) ?_
       refine AllReadyH.cons rfl (fun K' hK' => ?_) AllReadyH.nil
       rw [if_pos (by rfl)]
       refine wp_slice_one 172 168 _ rfl (enCells c n o p v t k vv tt) rfl HBS.out ?_
       obtain ⟨W2, hW2⟩ : ∃ W2, W2 = W1.alloc (.cells (enCells c n o p v t k vv tt).toArray 168) := ⟨_, rfl⟩
       rw [← hW2]
       have k2 : Kept (fun _ => False) W1 W2 := by rw [hW2]; exact Kept.alloc _ _ _
       have hn2 : ∀ x u, (enCells c n o p v t k vv tt)[x]? = some u → W2.cell? ((⟨W1.heap.size, 0, none⟩ : Addr).add x) = some u := by rw [hW2]; exact World.news_of_block (heap_alloc_new W1 (.cells (enCells c n o p v t k vv tt).toArray 168))
       have HN2 : Hid (∀ x u, (enCells c n o p v t k vv tt)[x]? = some u → W2.cell? ((⟨W1.heap.size, 0, none⟩ : Addr).add x) = some u) := hn2
       have B2 : Hid (BookAt W2 bk j lm m (cc + 2) ky lv L G' F' D) := B1.out.kept k2 (fun _ _ => id)
       have J2 : W2.rangeAt w.heap.size 0 (rqCells c n o p v t) ∧ W2.cell? ⟨bk, 3, none⟩ = some (.map (some m)) := ⟨range_kept J1.1 k2 (by omega) id, B2.out.cells 3 _ rfl⟩
       have hW2s : W2.heap.size = W1.heap.size + 1 := by rw [hW2]; simp
       have HW2 : Hid (W2 = W1.alloc (.cells (enCells c n o p v t k vv tt).toArray 168)) := hW2
       have HW2s : Hid (W2.heap.size = W1.heap.size + 1) := hW2s
       clear hW2 hn2 k2 hW2s
       refine hK'.out _ _ J2 (fun _ => ?_)
       clear hK' K'
       try simp only [qA, qB, qC, Act.put, qD, qE, qF])
    | (refine wpAnyH_ready (rs := [4]) (by kernel_rfl) (by simp) ?_
       refine AllReadyH.cons rfl (fun K' hK' => ?_) AllReadyH.nil
       rw [if_pos (by rfl)]
       have q4 : W2.cell? ⟨bk, 1, none⟩ = some lv := B2.out.cells 1 _ rfl
       go_simp
       clear q4
       refine hK'.out _ _ J2 (fun _ => ?_)
       clear hK' K'
       try simp only [qA, qB, qC, Act.put, qD, qE, qF])
  all_goals
    refine wpAnyH_ready (rs := [14]) (by kernel_rfl) (by simp) ?_
    refine AllReadyH.cons rfl (fun K' hK' => ?_) AllReadyH.nil
    rw [if_pos (by rfl)]
    refine wp_append_lies _ _ _ 172 rfl 0 168 i0 _ 9 88 Tryz.underlying172 hi9 hz9 hs9 hb9 rfl (by decide) lv L.length (logC L) rfl B2.out.log ⟨W1.heap.size, 0, none⟩ 1 1 (enCells c n o p v t k vv tt) rfl rfl HN2.out (En.one ⟨c, n, o, p, v, t, k, vv, tt⟩) (by decide) (by unfold maxLen; omega) (by omega) (Nat.zero_le _) _ rfl ?_
    intro g5 cap5 W3 ho5 hgr5 hat5 hlt5
    have hnw : ¬ lv.ownBlock = some w.heap.size := fun e => by have := HLV.out _ e; omega
    have k3 : Kept (fun g => lv.ownBlock = some g) W2 W3 := Kept.grown hgr5 (fun k e => Or.inl e)
    have hW2s := HW2s.out
    have hbk : bk < w.heap.size := HBK.out
    have q3 : W3.cell? ⟨bk, 1, none⟩ = some lv := (k3.cell (a := ⟨bk, 1, none⟩) (by show bk < _; omega) HNB.out).trans (B2.out.cells 1 _ rfl)
    have f3 : W3.frozen? ⟨bk, 1, none⟩ = false := (k3.frozen (a := ⟨bk, 1, none⟩) (by show bk < _; omega) HNB.out).trans (B2.out.room 1 (by omega)).2
    have J3 : W3.rangeAt w.heap.size 0 (rqCells c n o p v t) ∧ W3.cell? ⟨bk, 3, none⟩ = some (.map (some m)) := ⟨range_kept J2.1 k3 (by omega) hnw, (k3.cell (a := ⟨bk, 3, none⟩) (by show bk < _; omega) HNB.out).trans (B2.out.cells 3 _ rfl)⟩
    have HLG : Hid (_ ∧ _ ∧ _) := B1.out.logged (e := ⟨c, n, o, p, v, t, k, vv, tt⟩) ⟨hc', hn', a1, a2, a3⟩ HW2.out hgr5 ho5 hat5 hlt5
    clear k3 ho5 hgr5 hat5 hlt5 hnw hW2s
    refine hK'.out _ _ J3 (fun _ => ?_)
    clear hK' K'
    try simp only [qA, qB, qC, Act.put, qD, qE, qF]
    refine wpAnyH_take (i := 15) (v := ?_) rfl (by kernel_rfl) (by kernel_rfl) (by kernel_rfl) (fun _ _ _ h => h) (Or.inl ⟨by rfl, ?_⟩) J3 ?_
    rotate_left 1
    · intro W hSW; clear hSW; go_simp; try with_reducible rfl
    simp only [qA, qB, qC, Act.put, qD, qE, qF]
    refine wpAnyH_take (i := 16) (v := ?_) rfl (by kernel_rfl) (by kernel_rfl) (by kernel_rfl) (fun _ _ _ h => h) (Or.inl ⟨by rfl, ?_⟩) J3 ?_
    rotate_left 1
    · intro W hSW; clear hSW; go_simp; try with_reducible rfl
    simp only [qA, qB, qC, Act.put, qD, qE, qF]
  all_goals
    refine wpAnyH_ready (rs := [17]) (by kernel_rfl) (by simp) ?_
    refine AllReadyH.cons rfl (fun K' hK' => ?_) AllReadyH.nil
    rw [if_pos (by rfl)]
    go_simp
    obtain ⟨sv, hsv⟩ : ∃ sv, sv = Value.slice (some ⟨g5, 0, none⟩) (L.length + 1) cap5 := ⟨_, rfl⟩
    have hown5 : sv.ownBlock = some g5 := by rw [hsv]; rfl
    have HSV : Hid (sv = Value.slice (some ⟨g5, 0, none⟩) (L.length + 1) cap5) := hsv
    rw [← hsv] at HLG ⊢
    obtain ⟨W4, hW4⟩ : ∃ W4, W4 = W3.setCell ⟨bk, 1, none⟩ sv := ⟨_, rfl⟩
    rw [← hW4] at HLG ⊢
    have J4 : W4.rangeAt w.heap.size 0 (rqCells c n o p v t) ∧ W4.cell? ⟨bk, 3, none⟩ = some (.map (some m)) := by
      have k4 : Kept (· = bk) W3 W4 := by rw [hW4]; exact Kept.setCell _ _ _ (Or.inl rfl)
      exact ⟨range_kept J3.1 k4 (World.rangeAt_lt J3.1) (by show ¬ w.heap.size = bk; omega), HLG.out.1.cells 3 _ rfl⟩
    clear hsv q3 f3 hW4
    refine hK'.out _ _ J4 (fun _ => ?_)
    clear hK' K'
    try simp only [qA, qB, qC, Act.put, qD, qE, qF]
  all_goals
    refine ⟨by kernel_rfl, ?_⟩
    refine NoPanic.normal ?_
    try simp only [qA, qB, qC, Act.put, qD, qE, qF]
    rw [HSV.out] at HLG hown5
    have B4 := HLG.out.1
    have hW4l : w.heap.size < W4.heap.size := World.rangeAt_lt J4.1
    have K0 : W4.drew.cell? ⟨bk, 2, none⟩ = some (.map (some lm)) ∧ W4.drew.cell? ⟨bk, 1, none⟩ = some (.slice (some ⟨g5, 0, none⟩) (L.length + 1) cap5) ∧ W4.drew.cell? ⟨w.heap.size, 0, none⟩ = some (.int .i64 c) := ⟨B4.cells 2 _ rfl, B4.cells 1 _ rfl, J4.1 0 _ rfl⟩
    obtain ⟨X, hrun, mX, gX⟩ := World.ownsMap.update (w := W4.drew) B4.lasts (t := 173) (e := 3) key_int Tryz.underlying173 (by unfold maxLen; omega) (key := .int .i64 c) (val := .int .i64 ((L.length + 1 : Nat) : Int)) (Maps.keyOf_int_mk Tryz.underlying3 (a := c) (WalkArith.wf_i64 (by omega))) (plainElem_int Tryz.underlying3 (WalkArith.wf_i64 (by omega)))
    have B4d : BookAt W4.drew bk j lm m (cc + 2) ky _ _ G' F' D := B4.kept (Kept.drew (fun _ => False) W4) (fun _ _ => id)
    have HX := B4d.lasted mX gX
    have kX : Kept (· = lm) W4.drew X := Kept.grown gX (fun k e => Or.inl (by simpa using e.symm))
    have hlm := BD.out.lasts.lt
    have K3 : X.cell? ⟨bk, 2, none⟩ = some (.map (some lm)) ∧ X.cell? ⟨bk, 1, none⟩ = some (.slice (some ⟨g5, 0, none⟩) (L.length + 1) cap5) ∧ X.cell? ⟨w.heap.size, 0, none⟩ = some (.int .i64 c) := ⟨HX.1.cells 2 _ rfl, HX.1.cells 1 _ rfl, (kX.cell (a := ⟨w.heap.size, 0, none⟩) hW4l (by show ¬ w.heap.size = lm; have := HLM.out; omega)).trans K0.2.2⟩
    have HXX : Hid (_ ∧ _) := HX
    have HKX : Hid (Kept (bkOwn bk lm lv G) w X) := by
      refine (HK1.out.trans (HLG.out.2.1) (fun g hg e => ?_)).trans ((Kept.drew (· = lm) W4).trans kX (fun _ _ h => h)) (fun g _ e => Or.inr (Or.inl e))
      rcases e with e | e | e | e
      · exact Or.inl e
      · exact Or.inr (Or.inl e)
      · rcases HG1.out g e with e | e
        · exact Or.inr (Or.inr (Or.inl e))
        · omega
      · exact Or.inr (Or.inr (Or.inr e))
    have HOW : Hid (∀ g, bkOwn bk lm (.slice (some ⟨g5, 0, none⟩) (L.length + 1) cap5) G' g → bkOwn bk lm lv G g ∨ w.heap.size ≤ g) := fun g hg => by
      rcases hg with e | e | e | e
      · exact Or.inl (Or.inl e)
      · exact Or.inl (Or.inr (Or.inl e))
      · exact (HG1.out g e).imp (fun h => Or.inr (Or.inr (Or.inl h))) id
      · obtain rfl : g5 = g := by simpa [Value.ownBlock] using e
        exact HLG.out.2.2.imp (fun h => Or.inr (Or.inr (Or.inr h))) (fun h => by omega)
    rw [show (((L.length + 1 : Nat)) : Int) = (L.length : Int) + 1 by omega] at hrun
    clear B4 B4d HX mX gX kX
    go_wp2_with fail
    refine wp_region_noPanic ?_
    refine wp_region_held_drew (S := fun W => W.cell? ⟨bk, 2, none⟩ = some (.map (some lm)) ∧ W.cell? ⟨bk, 1, none⟩ = some (.slice (some ⟨g5, 0, none⟩) (L.length + 1) cap5) ∧ W.cell? ⟨w.heap.size, 0, none⟩ = some (.int .i64 c)) (by kernel_rfl) K0 (fun _ => ?_)
    refine wpAnyH_take (i := 0) (v := ?_) rfl (by kernel_rfl) (by kernel_rfl) (by kernel_rfl) (fun _ _ _ h => h) (Or.inl ⟨by rfl, ?_⟩) K0 ?_
    rotate_left 1
    · intro W hSW; clear hSW; go_simp; try with_reducible rfl
    simp only [qA, qB, qC, Act.put, qD, qE, qF]
    refine wpAnyH_take (i := 1) (v := ?_) rfl (by kernel_rfl) (by kernel_rfl) (by kernel_rfl) (fun _ _ _ h => h) (Or.inl ⟨by rfl, ?_⟩) K0 ?_
    rotate_left 1
    · intro W hSW; clear hSW; go_simp; try with_reducible rfl
    simp only [qA, qB, qC, Act.put, qD, qE, qF]
    refine wpAnyH_take (i := 2) (v := ?_) rfl (by kernel_rfl) (by kernel_rfl) (by kernel_rfl) (fun _ _ _ h => h) (Or.inl ⟨by rfl, ?_⟩) K0 ?_
    rotate_left 1
    · intro W hSW; clear hSW; go_simp; try with_reducible rfl
    simp only [qA, qB, qC, Act.put, qD, qE, qF]
    refine wpAnyH_take (i := 3) (v := ?_) rfl (by kernel_rfl) (by kernel_rfl) (by kernel_rfl) (fun _ _ _ h => h) (Or.inl ⟨by rfl, ?_⟩) K0 ?_
    rotate_left 1
    · intro W hSW; have qc := hSW.1; clear hSW; go_simp; try with_reducible rfl
    simp only [qA, qB, qC, Act.put, qD, qE, qF]
    refine wpAnyH_take (i := 4) (v := ?_) rfl (by kernel_rfl) (by kernel_rfl) (by kernel_rfl) (fun _ _ _ h => h) (Or.inl ⟨by rfl, ?_⟩) K0 ?_
    rotate_left 1
    · intro W hSW; clear hSW; go_simp; try with_reducible rfl
    simp only [qA, qB, qC, Act.put, qD, qE, qF]
    refine wpAnyH_take (i := 5) (v := ?_) rfl (by kernel_rfl) (by kernel_rfl) (by kernel_rfl) (fun _ _ _ h => h) (Or.inl ⟨by rfl, ?_⟩) K0 ?_
    rotate_left 1
    · intro W hSW; have qc := hSW.2.2; clear hSW; go_simp; try with_reducible rfl
    simp only [qA, qB, qC, Act.put, qD, qE, qF]
    refine wpAnyH_take (i := 6) (v := ?_) rfl (by kernel_rfl) (by kernel_rfl) (by kernel_rfl) (fun _ _ _ h => h) (Or.inl ⟨by rfl, ?_⟩) K0 ?_
    rotate_left 1
    · intro W hSW; clear hSW; go_simp; try with_reducible rfl
    simp only [qA, qB, qC, Act.put, qD, qE, qF]
    refine wpAnyH_take (i := 7) (v := ?_) rfl (by kernel_rfl) (by kernel_rfl) (by kernel_rfl) (fun _ _ _ h => h) (Or.inl ⟨by rfl, ?_⟩) K0 ?_
    rotate_left 1
    · intro W hSW; clear hSW; go_simp; try with_reducible rfl
    simp only [qA, qB, qC, Act.put, qD, qE, qF]
    refine wpAnyH_take (i := 8) (v := ?_) rfl (by kernel_rfl) (by kernel_rfl) (by kernel_rfl) (fun _ _ _ h => h) (Or.inl ⟨by rfl, ?_⟩) K0 ?_
    rotate_left 1
    · intro W hSW; clear hSW; go_simp; try with_reducible rfl
    simp only [qA, qB, qC, Act.put, qD, qE, qF]
    refine wpAnyH_take (i := 9) (v := ?_) rfl (by kernel_rfl) (by kernel_rfl) (by kernel_rfl) (fun _ _ _ h => h) (Or.inl ⟨by rfl, ?_⟩) K0 ?_
    rotate_left 1
    · intro W hSW; have qc := hSW.2.1; clear hSW; go_simp; try with_reducible rfl
    simp only [qA, qB, qC, Act.put, qD, qE, qF]
    refine wpAnyH_take (i := 10) (v := ?_) rfl (by kernel_rfl) (by kernel_rfl) (by kernel_rfl) (fun _ _ _ h => h) (Or.inl ⟨by rfl, ?_⟩) K0 ?_
    rotate_left 1
    · intro W hSW; clear hSW; go_simp; try with_reducible rfl
    simp only [qA, qB, qC, Act.put, qD, qE, qF]
    refine wpAnyH_ready (rs := [11]) (by kernel_rfl) (by simp) ?_
    refine AllReadyH.cons rfl (fun K' hK' => ?_) AllReadyH.nil
    rw [if_pos (by rfl)]
    go_simp
    refine hK'.out _ _ K3 (fun _ => ?_)
    clear hK' K'
    try simp only [qA, qB, qC, Act.put, qD, qE, qF]
    refine ⟨by kernel_rfl, ?_⟩
    refine NoPanic.normal ?_
    try simp only [qA, qB, qC, Act.put, qD, qE, qF]
    go_wp2_with fail
    go_end0
    exact ⟨_, G', F', k, vv, tt, rfl, HXX.out.1, HKX.out, HOW.out⟩
end Go.Proofs.YteglimjonofdeaaGreatDoor
