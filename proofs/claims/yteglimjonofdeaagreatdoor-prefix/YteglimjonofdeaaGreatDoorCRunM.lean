import Derived.Test.YteglimjonofdeaaGreatDoorCStepM
import Derived.Deep.AppendLies
set_option linter.unusedVariables false
set_option linter.unusedSimpArgs false
namespace Go.Proofs.YteglimjonofdeaaGreatDoor
open Go.RowKit

/-- 'append(v, y...)' of packets, with the block where they lie. -/
theorem wp_append_at {o : Oper} {a : Act} {w : World} {C : Act → World → Prop} {Q : Exit → Act → World → Prop} (s x : Operand)
    (hop : o.op = Op.call { callee := Callee.builtin Builtin.append, args := #[s, x], argTypes := #[33, 33] })
    (base : Nat) (v : Value) (M : List (Int × ByteArray)) (hs : a.eval s = v) (hown : w.ownsRow base 44 2 v M.length (wayC M)) (y : Value) (L : List (Int × ByteArray)) (hx : a.eval x = y) (hy : OutAt w y L)
    (hbd : M.length + L.length ≤ 10000000) (hbase : base ≤ w.heap.size)
    (hK : ∀ ao m cap' w', Hid (m = M.length + L.length) → w'.ownsRow base 44 2 (.slice ao m cap') (M ++ L).length (wayC (M ++ L)) → w.grownBy w' v.ownBlock → (∀ g, (Value.slice ao m cap').ownBlock = some g → v.ownBlock = some g ∨ w.heap.size ≤ g) → C (a.put o.dst (.slice ao m cap')) w') :
    o.wp Tryz.prog a w C Q := by
  obtain ⟨i, hi, hz, hsz, hby⟩ := info_pk24
  have form : ∀ {w : World} {v : Value} {n : Nat} {xs : List Value}, w.ownsRow base 44 2 v n xs → ∃ ao cap, v = .slice ao n cap := fun {w v n xs} h => by
    rcases h.2 with ⟨rfl, rfl⟩ | ⟨g, cap, cur, rfl, _⟩
    · exact ⟨none, 0, rfl⟩
    · exact ⟨_, cap, rfl⟩
  rw [List.length_append] at hK
  rcases hy with ⟨rfl, rfl⟩ | ⟨g, cap, rfl, hg, hr0⟩
  · have hr := run_append_owned_none (P := Tryz.prog) w base 33 o.type 44 i 2 Tryz.underlying33 hi v M.length (wayC M) hown
    unfold Oper.wp
    simp [execOp, hop, resolve, invoke, builtin, hs, hx, hr, Result.andThen]
    obtain ⟨ao, cp, rfl⟩ := form hown
    exact hK ao M.length cp w (by show M.length = M.length + 0; rfl) (by simpa using hown) ⟨rfl, rfl, rfl, Nat.le_refl _, fun _ _ _ => rfl⟩ (fun g hg => Or.inl hg)
  · have hnews : ∀ j u, (wayC L)[j]? = some u → w.cell? ((⟨g, 0, none⟩ : Addr).add j) = some u := fun j u hu => by have := hr0 j u hu; rw [Nat.zero_add] at this; by_cases e : j = 0 <;> simp [Addr.add, e] at this ⊢ <;> exact this
    obtain ⟨v', w', hr, ho, hgr, _, h5⟩ := run_append_own_at (P := Tryz.prog) w base 33 o.type 44 i _ 2 24 Tryz.underlying33 hi hz hsz hby rfl (by decide) v M.length (wayC M) hown ⟨g, 0, none⟩ L.length cap (wayC L) (wayC_len L) hnews (wayC_one L) (by unfold maxLen; omega) (by omega) hbase
    unfold Oper.wp
    simp [execOp, hop, resolve, invoke, builtin, hs, hx, hr, Result.andThen]
    obtain ⟨ao, cp, rfl⟩ := form ho
    refine hK ao _ cp w' rfl (by rw [wayC_app]; exact ho) hgr (fun g hg => ?_)
    rcases h5 with h5 | h5
    · rw [h5] at hg; exact Or.inl hg
    · rw [h5] at hg; right; have : w.heap.size = g := by simpa using hg
      omega
theorem wpList_append_at {ops : Array Oper} {rest : List Oper} {o : Oper} {a : Act} {w : World} {Q : Exit → Act → World → Prop} (hg : o.guard = none) (s x : Operand)
    (hop : o.op = Op.call { callee := Callee.builtin Builtin.append, args := #[s, x], argTypes := #[33, 33] })
    (base : Nat) (v : Value) (M : List (Int × ByteArray)) (hs : a.eval s = v) (hown : w.ownsRow base 44 2 v M.length (wayC M)) (y : Value) (L : List (Int × ByteArray)) (hx : a.eval x = y) (hy : OutAt w y L)
    (hbd : M.length + L.length ≤ 10000000) (hbase : base ≤ w.heap.size)
    (hK : ∀ ao m cap' w', Hid (m = M.length + L.length) → w'.ownsRow base 44 2 (.slice ao m cap') (M ++ L).length (wayC (M ++ L)) → w.grownBy w' v.ownBlock → (∀ g, (Value.slice ao m cap').ownBlock = some g → v.ownBlock = some g ∨ w.heap.size ≤ g) → wpList Tryz.prog ops Q rest (a.put o.dst (.slice ao m cap')) w') :
    wpList Tryz.prog ops Q (o :: rest) a w :=
  wpList_plain hg fun _ hK' => wp_append_at s x hop base v M hs hown y L hx hy hbd hbase fun ao m cap' w' h1 h2 h3 h4 => hK' _ _ (hK ao m cap' w' h1 h2 h3 h4)
theorem sched_snoc : ∀ (J : List Pk) (ts : List Nat) (p : Pk) (t : Nat), J[ts.length]? = some p → sched (J.take (ts.length + 1)) (ts ++ [t]) = sched (J.take ts.length) ts ++ List.replicate t p
  | q :: J, [], p, t, h => by
    obtain rfl : q = p := by simpa using h
    simp [sched]
  | q :: J, n :: ts, p, t, h => by
    have := sched_snoc J ts p t (by simpa using h)
    simp only [List.length_cons, List.take_succ_cons, List.cons_append, sched, List.append_assoc]
    rw [this]
  | [], ts, p, t, h => by simp at h
theorem sched_len : ∀ (J : List Pk) (ts : List Nat), (∀ t ∈ ts, t ≤ 2) → (sched J ts).length ≤ 2 * ts.length
  | p :: J, t :: ts, h => by
    have h1 := sched_len J ts (fun x hx => h x (List.mem_cons_of_mem _ hx))
    have h2 := h t (List.mem_cons_self ..)
    simp only [sched, List.length_append, List.length_replicate, List.length_cons]
    omega
  | [], ts, _ => by simp [sched]
  | _ :: _, [], _ => by simp [sched]
theorem recv_len (s : PS) (p : Pk) : (recv s p).2.length ≤ 4 := by
  cases p <;> simp only [recv] <;> (repeat' split) <;> simp [fwdL_len] <;> omega
theorem deliver_len : ∀ (ps : List Pk) (s : PS), (deliver s ps).2.length ≤ 4 * ps.length
  | [], s => by simp [deliver]
  | p :: ps, s => by
    have h1 := recv_len s p
    have h2 := deliver_len ps (recv s p).1
    simp only [deliver, List.length_append, List.length_cons]
    omega
theorem deliver_snoc (ps : List Pk) (p : Pk) (s : PS) : deliver s (ps ++ [p]) = ((recv (deliver s ps).1 p).1, (deliver s ps).2 ++ (recv (deliver s ps).1 p).2) := by
  rw [deliver_app]; simp [deliver]
/-- What was told, in a row of sixty texts. -/
def ToldAt (w : World) (tb : Nat) (s : PS) : Prop := tb < w.heap.size ∧ w.there tb 0 60 ∧ ∀ n, n < 60 → ∃ b : ByteArray, w.cell? ⟨tb, n, none⟩ = some (.string b) ∧ (b.size = 0 ↔ n ∉ s.told)
theorem ToldAt.kept {w w' : World} {tb : Nat} {s : PS} {S : Nat → Prop} (h : ToldAt w tb s) (k : Kept S w w') (hn : ¬ S tb) : ToldAt w' tb s :=
  ⟨Nat.lt_of_lt_of_le h.1 k.size, there_kept h.2.1 k h.1 hn, fun n h' => by
    obtain ⟨b, h1, h2⟩ := h.2.2 n h'
    exact ⟨b, (k.cell (a := ⟨tb, n, none⟩) h.1 hn).trans h1, h2⟩⟩
theorem ToldAt.same {w : World} {tb : Nat} {s s' : PS} (h : ToldAt w tb s) (e : s'.told = s.told) : ToldAt w tb s' := ⟨h.1, h.2.1, fun n h' => by rw [e]; exact h.2.2 n h'⟩
theorem recv_told_same (s : PS) (p : Pk) (h : isA p = false) : (recv s p).1.told = s.told := by
  cases p <;> simp only [recv] <;> (repeat' split) <;> first | rfl | (simp [isA] at h)
/-- One more is told. -/
theorem ToldAt.put {w : World} {tb n : Nat} {s : PS} {b : ByteArray} (h : ToldAt w tb s) (hb : b.size ≠ 0) (hn : n < 60) : ToldAt (w.setCell ⟨tb, n, none⟩ (.string b)) tb { s with told := n :: s.told } := by
  refine ⟨by simpa using h.1, World.there_setCells h.2.1 tb n [.string b], fun m hm => ?_⟩
  by_cases e : m = n
  · subst e
    obtain ⟨b0, h1, _⟩ := h.2.2 m hm
    exact ⟨b, World.cell?_setCell_same _ ⟨tb, m, none⟩ _ h1, by simp [hb]⟩
  · obtain ⟨b0, h1, h2⟩ := h.2.2 m hm
    refine ⟨b0, ?_, ?_⟩
    · rw [World.cell?_setCell_other _ _ _ _ (by intro e2; have := congrArg Addr.off e2; simp at this; omega)]; exact h1
    · rw [h2]; simp [e]
theorem Cst.told {K : Nat → Int} {rs : List Rq} {dr : Nat → Nat} {s s' : PS} {O : Nat → Prop} {w : World} (h : Cst K rs dr s O w) (e : s' = { s with told := s'.told }) : Cst K rs dr s' O w := by
  obtain ⟨hl, x0, x1, x2, c, ho⟩ := h
  rw [e]
  exact ⟨hl, x0, x1, x2, ⟨c.n0, c.n1, c.n2, c.k0, c.k1, c.h1, c.h2, c.a01, c.a02, c.a12, c.dd, c.dl⟩, ho⟩
/-- Numbers that say what becomes of packets. -/
def HowAt (w : World) (v : Value) (ns : List Int) : Prop := ((∃ a cap, v = .slice a 0 cap) ∧ ns = []) ∨ ∃ g off cap, v = .slice (some ⟨g, off, none⟩) ns.length cap ∧ g < w.heap.size ∧ ∀ i x, ns[i]? = some x → w.cell? ⟨g, off + i, none⟩ = some (.int .i64 x)
/-- What run has done with the packets ps. -/
structure Rn (K : Nat → Int) (rs : List Rq) (dr : Nat → Nat) (s : PS) (tb : Nat) (O : Nat → Prop) (w : World) (ps : List Pk) (ao : Option Addr) (n cap : Nat) (Lo : List (Int × ByteArray)) (O' : Nat → Prop) (wr : World) : Prop where
  st : Cst K rs dr (deliver s ps).1 O' wr
  out : Match rs (deliver s ps).2 Lo
  len : n = Lo.length
  row : wr.ownsRow w.heap.size 44 2 (.slice ao n cap) Lo.length (wayC Lo)
  told : ToldAt wr tb (deliver s ps).1
  kept : Kept (fun g => O g ∨ g = tb) w wr
  own : ∀ g, O' g → O g ∨ w.heap.size ≤ g
  nown : ∀ g, (Value.slice ao n cap).ownBlock = some g → ¬ O' g
theorem Rn.fresh {K : Nat → Int} {rs : List Rq} {dr : Nat → Nat} {s : PS} {tb : Nat} {O : Nat → Prop} {w : World} {ps : List Pk} {ao : Option Addr} {n cap : Nat} {Lo : List (Int × ByteArray)} {O' : Nat → Prop} {wr w' : World} (h : Rn K rs dr s tb O w ps ao n cap Lo O' wr) (hb : Below wr.heap.size wr w') : Rn K rs dr s tb O w ps ao n cap Lo O' w' :=
  ⟨h.st.fresh hb, h.out, h.len, own_below' h.row hb, h.told.kept (Kept.fresh (S := fun _ => False) hb) id, h.kept.trans (Kept.fresh (S := fun g => O g ∨ g = tb) hb) (fun _ _ h => h), h.own, h.nown⟩
/-- An answer is told. -/
theorem Rn.tell {K : Nat → Int} {rs : List Rq} {dr : Nat → Nat} {s : PS} {tb : Nat} {O : Nat → Prop} {w : World} {ps : List Pk} {ao : Option Addr} {n cap : Nat} {Lo : List (Int × ByteArray)} {O' : Nat → Prop} {wr : World} {m : Nat} {b : ByteArray} (h : Rn K rs dr s tb O w ps ao n cap Lo O' wr) (hb : b.size ≠ 0) (hm : m < 60) (hO : ¬ O tb) (htb : tb < w.heap.size) (hT : tb ≠ 1) (hd : ∀ j, j < 3 → dr j ≠ tb) : Rn K rs dr s tb O w (ps ++ [.A m]) ao n cap Lo O' (wr.setCell ⟨tb, m, none⟩ (.string b)) := by
  have k : Kept (· = tb) wr (wr.setCell ⟨tb, m, none⟩ (.string b)) := Kept.setCell _ _ _ (Or.inl rfl)
  have hO' : ¬ O' tb := fun e => by rcases h.own tb e with e | e; exact hO e; omega
  have e1 : (deliver s (ps ++ [.A m])).1 = { (deliver s ps).1 with told := m :: (deliver s ps).1.told } := by rw [deliver_snoc]; rfl
  have e2 : (deliver s (ps ++ [.A m])).2 = (deliver s ps).2 := by rw [deliver_snoc]; simp [recv]
  refine ⟨?_, by rw [e2]; exact h.out, h.len, k.own h.row (fun g hg e => ?_), by rw [e1]; exact h.told.put hb hm, h.kept.trans (k.mono (fun g _ e => Or.inr e)) (fun _ _ h => h), h.own, h.nown⟩
  · refine Cst.told (s := (deliver s ps).1) (h.st.kept k (fun g hg e => hO' (e ▸ hg)) (fun e => hT e.symm) (fun j hj e => hd j hj e)) ?_
    rw [e1]
  · have := (h.row.lt g hg).1; omega
/-- A packet came to its node, and what came out was laid behind. -/
theorem Rn.recv {K : Nat → Int} {rs : List Rq} {dr : Nat → Nat} {s : PS} {tb : Nat} {O : Nat → Prop} {w : World} {ps : List Pk} {ao : Option Addr} {n cap : Nat} {Lo : List (Int × ByteArray)} {O' : Nat → Prop} {wr W1 W2 : World} {p : Pk} {Lo1 : List (Int × ByteArray)} {O1 : Nat → Prop} {ao2 : Option Addr} {cap2 m2 : Nat} (h : Rn K rs dr s tb O w ps ao n cap Lo O' wr) (hp : isA p = false) (hO : ¬ O tb) (htb : tb < w.heap.size) (hT : 1 < w.heap.size) (hds : ∀ j, j < 3 → dr j < w.heap.size)
    (hm : Match rs (Proofs.YteglimjonofdeaaGreatDoor.recv (deliver s ps).1 p).2 Lo1) (hc : Cst K rs dr (Proofs.YteglimjonofdeaaGreatDoor.recv (deliver s ps).1 p).1 O1 W1) (k1 : Kept O' wr W1) (o1 : ∀ g, O1 g → O' g ∨ wr.heap.size ≤ g)
    (hr : W2.ownsRow w.heap.size 44 2 (.slice ao2 m2 cap2) (Lo ++ Lo1).length (wayC (Lo ++ Lo1))) (hm2 : m2 = (Lo ++ Lo1).length) (g2 : W1.grownBy W2 (Value.slice ao n cap).ownBlock) (hat : ∀ g, (Value.slice ao2 m2 cap2).ownBlock = some g → (Value.slice ao n cap).ownBlock = some g ∨ W1.heap.size ≤ g) : Rn K rs dr s tb O w (ps ++ [p]) ao2 m2 cap2 (Lo ++ Lo1) O1 W2 := by
  have hO' : ¬ O' tb := fun e => by rcases h.own tb e with e | e; exact hO e; omega
  have kg : Kept (fun g => (Value.slice ao n cap).ownBlock = some g) W1 W2 := Kept.grown g2 (fun k e => Or.inl e)
  have base : ∀ g, (Value.slice ao n cap).ownBlock = some g → w.heap.size ≤ g := fun g e => (h.row.lt g e).1
  have hwr := h.kept.size
  have nO1 : ∀ g, (Value.slice ao n cap).ownBlock = some g → ¬ O1 g := fun g e e1 => by
    rcases o1 g e1 with e2 | e2
    · exact h.nown g e e2
    · have := (h.row.lt g e).2; omega
  have e0 := deliver_snoc ps p s
  have e1 : (deliver s (ps ++ [p])).1 = (Proofs.YteglimjonofdeaaGreatDoor.recv (deliver s ps).1 p).1 := by rw [e0]
  have e2 : (deliver s (ps ++ [p])).2 = (deliver s ps).2 ++ (Proofs.YteglimjonofdeaaGreatDoor.recv (deliver s ps).1 p).2 := by rw [e0]
  refine ⟨by rw [e1]; exact hc.kept kg (fun g hg e => nO1 g e hg) (fun e => by have := base _ e; omega) (fun j hj e => by have := base _ e; have := hds j hj; omega), by rw [e2]; exact h.out.app hm, hm2, hr, by rw [e1]; exact ((h.told.kept k1 hO').kept kg (fun e => by have := base _ e; omega)).same (recv_told_same _ _ hp), (h.kept.trans k1 (fun g hg e => ?_)).trans kg (fun g hg e => ?_), fun g hg => ?_, fun g hg e => ?_⟩
  · rcases h.own g e with e | e
    · exact Or.inl e
    · omega
  · have := base g e; omega
  · rcases o1 g hg with e | e
    · exact h.own g e
    · exact Or.inr (Nat.le_trans hwr e)
  · rcases hat g hg with e2 | e2
    · exact nO1 g e2 e
    · have := hc.lt g e; omega
end Go.Proofs.YteglimjonofdeaaGreatDoor
