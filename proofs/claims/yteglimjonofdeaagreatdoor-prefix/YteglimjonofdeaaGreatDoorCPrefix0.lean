import Derived.Test.YteglimjonofdeaaGreatDoorCPhaseM
import Derived.Test.YteglimjonofdeaaGreatDoorCPhaseM
import Derived.Test.YteglimjonofdeaaGreatDoorCPhaseM
import Derived.Test.YteglimjonofdeaaGreatDoorHReckM
set_option linter.unusedVariables false
set_option linter.unusedSimpArgs false
namespace Go.Proofs.YteglimjonofdeaaGreatDoor
open Go.RowKit

theorem make60 (w : World) : (Instr.makeSlice 51 (.int .i64 60) (.int .i64 60)).run Tryz.prog w = .ok (.slice (some ⟨w.heap.size, 0, none⟩) 60 60) (w.alloc (.cells (Array.replicate 60 (.string ⟨#[]⟩)) 9)) := by kernel_rfl
theorem node_nil (b c : Nat) (w : World) : (binOp BinOp.eql 48 (.slice (some ⟨b, 0, none⟩) 3 c) (.slice none 0 0)).run Tryz.prog w = .ok (.bool false) w := by kernel_rfl
theorem told0 (w : World) : ToldAt (w.alloc (.cells (Array.replicate 60 (.string ⟨#[]⟩)) 9)) w.heap.size ps0 := by
  refine ⟨by simp, there_new w (Array.replicate 60 (.string ⟨#[]⟩)) _, fun n hn => ⟨⟨#[]⟩, ?_, ?_⟩⟩
  · rw [World.cell?_alloc_at _ _ _ _ rfl, Array.getElem?_replicate, if_pos hn]
  · simp [ps0]; rfl
/-- A chain's law begins. -/
theorem LSt.begin {K : Nat → Int} {dr : Nat → Nat} {O : Nat → Prop} {lb : Nat} {w W1 W2 W3 : World} (b1 : Below w.heap.size w W1) (b2 : Below W1.heap.size W1 W2) (cst : Cst K [] dr ps0 O W2) (lr : W2.rangeAt lb 0 [.pointer (some ⟨dr 0, 0, none⟩), .pointer (some ⟨dr 1, 0, none⟩), .pointer (some ⟨dr 2, 0, none⟩)]) (ll : lb < W2.heap.size) (lO : ¬ O lb) (lw : W1.heap.size ≤ lb) (own : ∀ g, O g → W1.heap.size ≤ g) (dl : ∀ j, j < 3 → dr j < W2.heap.size) (h3 : W3 = W2.alloc (.cells (Array.replicate 60 (.string ⟨#[]⟩)) 9)) : LSt K [] dr ps0 [] O W2.heap.size lb w none 0 0 [] W3 := by
  have b3 : Below W2.heap.size W2 W3 := by rw [h3]; exact (Below.refl _ _).alloc (Nat.le_refl _) _
  have s1 := b1.size; have s2 := b2.size; have s3 := b3.size
  exact ⟨cst.fresh b3, Match.nil [], rfl, ⟨rfl, Or.inl ⟨rfl, rfl⟩⟩, (fun g hg => by cases hg), (by rw [h3]; exact told0 W2), range_kept lr (Kept.fresh (S := fun _ => False) b3) ll id, by omega, ⟨lO, fun e => by have := cst.lt _ e; omega, by omega⟩, fun g hg => by have := own g hg; omega, fun j hj => ⟨by have := dl j hj; omega, by have := dl j hj; omega⟩, (b1.trans (b2.mono s1)).trans (b3.mono (by omega)), ⟨by omega, by omega⟩⟩
def askZ : List Value := [.int .i64 0, .int .i64 0, .int .i64 0, .int .i64 0, .int .i64 0]
theorem alloc_ask (w : World) : (Instr.alloc 32 true (.tuple #[])).run Tryz.prog w = .ok (.pointer (some ⟨w.heap.size, 0, none⟩)) (w.alloc (.cells askZ.toArray 32)) := by kernel_rfl
theorem ask_one (a : Ask5) : ∀ u ∈ a.cells, u.oneCell' = true := by intro u hu; simp [Ask5.cells] at hu; rcases hu with rfl | rfl | rfl | rfl | rfl <;> rfl
/-- What the law's first loop keeps. -/
def PI (K : Nat → Int) (dr : Nat → Nat) (tb lb : Nat) (w : World) (i : Nat) (wa : Option Addr) (wn wc : Nat) (wr : World) : Prop := ∃ rs s J O L, LSt K rs dr s J O tb lb w wa wn wc L wr ∧ Ph1 i s J ∧ RsOk rs ∧ L.length ≤ 240 ∧ (i = 0 → s = ps0 ∧ J = [])
/-- What its second loop keeps: the request q in block qb. -/
def PT (K : Nat → Int) (dr : Nat → Nat) (tb lb qb : Nat) (w : World) (i : Nat) (rs : List Rq) (q : Rq) (t : Nat) (wa : Option Addr) (wn wc : Nat) (wr : World) : Prop := ∃ rs1 s J O L, LSt K rs1 dr s J O tb lb w wa wn wc L wr ∧ TSt i t s J ∧ ((t = 0 ∧ rs1 = rs) ∨ (1 ≤ t ∧ rs1 = rs ++ [q])) ∧ L.length ≤ 240 ∧ wr.rangeAt qb 0 (rqCells q.c q.n q.o q.p q.v q.t) ∧ qb < wr.heap.size ∧ ¬ O qb ∧ (Value.slice wa wn wc).ownBlock ≠ some qb
/-- What its third loop keeps: the Ticks of the first k nodes are on their way. -/
def TK (K : Nat → Int) (dr : Nat → Nat) (tb lb qb : Nat) (w : World) (rs1 : List Rq) (q : Rq) (s1 : PS) (J1 : List Pk) (k : Nat) (wa : Option Addr) (wn wc : Nat) (wr : World) : Prop := ∃ O L, LSt K rs1 dr s1 (J1 ++ tkN (tickN s1) k) O tb lb w wa wn wc L wr ∧ L.length ≤ 244 + 5 * k ∧ wr.rangeAt qb 0 (rqCells q.c q.n q.o q.p q.v q.t) ∧ qb < wr.heap.size ∧ ¬ O qb ∧ (Value.slice wa wn wc).ownBlock ≠ some qb
theorem tk3 (s : PS) : tkN (tickN s) 3 = tickL s := by
  have := tickN_all s
  simp only [tkN, List.nil_append]
  rw [← this, List.append_assoc]
theorem tickN_len (s : PS) (k : Nat) : (tickN s k).length ≤ 5 := by
  match k with
  | 0 => simp only [tickN, fwdL_len]; omega
  | 1 => simp only [tickN, List.length_append, fwdL_len]; split <;> simp <;> omega
  | k + 2 => simp only [tickN]; split <;> simp
theorem TSt.tests {i t : Nat} {s : PS} {J : List Pk} (h : TSt i (t + 1) s J) : s.b ≤ s.a ∧ s.c ≤ s.b ∧ s.k1 ≤ s.c ∧ s.k0 ≤ s.k1 ∧ s.a ≤ i + 1 := by
  rcases h with ⟨e, _⟩ | ⟨_, _, hp, _⟩ | ⟨_, _, hp⟩
  · omega
  · have h1 := hp.way.inv; exact ⟨h1.ba, h1.cb, h1.kc, h1.kk, h1.ai⟩
  · have h1 := hp.inv; exact ⟨h1.ba, h1.cb, h1.kc, h1.kk, by have := hp.ai; omega⟩
/-- What run does in round t, be it with loss or without. -/
def RunAll (K : Nat → Int) (rs : List Rq) (dr : Nat → Nat) (tb lb lcap : Nat) (w : World) (i t : Nat) (hv : Value) : Prop := ∀ s J O wa wn wc L W0 (at_ : Nat), LSt K rs dr s J O tb lb w wa wn wc L W0 → PInv i s → (∀ p ∈ J, okP s p) → J.countP isA ≤ 1 → (∀ n, Pk.A n ∈ J → n < 60 ∧ n ∉ s.told) → at_ ≤ 100000 → L.length ≤ 100000 →
    Calls Tryz.prog 14 #[.slice (some ⟨lb, 0, none⟩) 3 lcap, .slice wa wn wc, hv, .int .i64 (at_ : Nat), .slice (some ⟨tb, 0, none⟩) 60 60] W0 fun e w' => ∃ ts ao n cap Lo O', e = .returned (.tuple #[.slice ao n cap, .bool true]) ∧ ts.length = min 30 J.length ∧ (41 ≤ t → ∀ t ∈ ts, t = 1) ∧ LSt K rs dr (deliver s (sched (J.take ts.length) ts)).1 (deliver s (sched (J.take ts.length) ts)).2 O' tb lb w ao n cap Lo w' ∧ Lo.length ≤ 240 ∧ (∀ x, x < W0.heap.size → ¬ O x → x ≠ tb → w'.heap[x]? = W0.heap[x]? ∧ ¬ O' x ∧ (Value.slice ao n cap).ownBlock ≠ some x)
theorem RunAll.of {K : Nat → Int} {rs : List Rq} {dr : Nat → Nat} {tb lb lcap : Nat} {w : World} {i t : Nat} {ha : Option Addr} {hn hcap : Nat} {ns : List Int} (hT : 1 < w.heap.size) (hr : RsOk rs) (hi : i ≤ 12) (hhow : HowAt w (.slice ha hn hcap) ns) (hhn : hn = ns.length) (hnsb : ∀ x ∈ ns, -9223372036854775808 ≤ x ∧ x ≤ 9223372036854775807) (hnl : hn ≤ 140737488355328) (h41 : 41 ≤ t → ns = []) : RunAll K rs dr tb lb lcap w i t (.slice ha hn hcap) :=
  fun s J O wa wn wc L W0 at_ hS hv hok hone hA hat hL => (LSt.runs K rs dr s J O tb 60 lb lcap w wa wn wc L W0 i ha hn hcap ns at_ hS hT hr hi hv hok hone hA hhow hhn hnsb hnl hat hL).mono (by
    rintro e w' ⟨ts, ao, n, cap, Lo, O', rfl, h1, _, h2, h3, h4, h5⟩
    exact ⟨ts, ao, n, cap, Lo, O', rfl, h1, fun e => h2 (h41 e), h3, h4, h5⟩)
/-- What the closing loop keeps: t rounds of Ticks are done. -/
def PE (K : Nat → Int) (dr : Nat → Nat) (tb lb : Nat) (w : World) (rs : List Rq) (s : PS) (J : List Pk) (t : Nat) (wa : Option Addr) (wn wc : Nat) (wr : World) : Prop := ∃ O L, LSt K rs dr (rndsT t (s, J)).1 (rndsT t (s, J)).2 O tb lb w wa wn wc L wr ∧ L.length ≤ 240
/-- What the loop in it keeps. -/
def TE (K : Nat → Int) (dr : Nat → Nat) (tb lb : Nat) (w : World) (rs : List Rq) (s1 : PS) (J1 : List Pk) (k : Nat) (wa : Option Addr) (wn wc : Nat) (wr : World) : Prop := ∃ O L, LSt K rs dr s1 (J1 ++ tkN (tickN s1) k) O tb lb w wa wn wc L wr ∧ L.length ≤ 240 + 5 * k
theorem Fin.rnds {n : Nat} {s : PS} {J : List Pk} (h : Fin n s J) (k : Nat) : Fin n (rndsT k (s, J)).1 (rndsT k (s, J)).2 := by
  induction k generalizing s J with
  | zero => exact h
  | succ k ih => exact ih h.round
theorem ph1_0 : Ph1 0 ps0 [] := ⟨⟨Nat.le_refl _, Nat.le_refl _, Nat.le_refl _, by decide, Nat.le_refl _, Nat.le_refl _, fun _ => rfl, fun _ => rfl, fun n hn => by simp [ps0] at hn, fun n h1 h2 => by omega⟩, rfl, (fun p hp => by cases hp), rfl⟩
theorem rsok_0 : RsOk [] := ⟨by decide, fun i r h => by simp at h⟩
theorem RsOk.snoc {rs : List Rq} {q : Rq} (h : RsOk rs) (hl : rs.length < 12) (hw : q.whole) (hc : q.c = 1) (hn : q.n = ((rs.length + 1 : Nat) : Int)) : RsOk (rs ++ [q]) := by
  refine ⟨by rw [List.length_append, List.length_singleton]; omega, fun i r hi => ?_⟩
  by_cases e : i < rs.length
  · rw [List.getElem?_append_left e] at hi; exact h.2 i r hi
  · have hlt : i < (rs ++ [q]).length := (List.getElem?_eq_some_iff.1 hi).1
    rw [List.length_append, List.length_singleton] at hlt
    obtain rfl : i = rs.length := by omega
    rw [List.getElem?_append_right (Nat.le_refl _), Nat.sub_self] at hi
    obtain rfl : q = r := by simpa using hi
    exact ⟨hw, hc, hn⟩
/-- What Request does in a round, whether it is the first one or not. -/
theorem req_round {K : Nat → Int} {dr : Nat → Nat} {tb lb : Nat} {w : World} {i t : Nat} {rs rs1 : List Rq} {q : Rq} {s : PS} {J : List Pk} {O : Nat → Prop} {L : List (Int × ByteArray)} {wa : Option Addr} {wn wc : Nat} {wr : World} (h : LSt K rs1 dr s J O tb lb w wa wn wc L wr) (hT : TSt i t s J) (hcase : (t = 0 ∧ rs1 = rs) ∨ (1 ≤ t ∧ rs1 = rs ++ [q])) (hi : i < 12) (hrl : rs.length = i) (hrs : RsOk (rs ++ [q])) (hnt : i + 1 ∉ s.told) :
    ∃ s1 Jo, s1.told = s.told ∧ Match (rs ++ [q]) J L ∧ Mid i t s1 (J ++ Jo) ∧ Jo.length ≤ 4 ∧ ∀ W, Cst K rs1 dr s O W → Calls Tryz.prog 9 #[.pointer (some ⟨dr 0, 0, none⟩), .agg (rqCells q.c q.n q.o q.p q.v q.t).toArray] W fun e w' => ∃ v r, e = .returned (.tuple #[v, r]) ∧ COut K (rs ++ [q]) dr s1 Jo O W v r w' := by
  rcases hT with ⟨rfl, hp⟩ | ⟨ht, _, hp, hl⟩ | ⟨_, ht, _⟩
  · obtain rfl : rs1 = rs := by rcases hcase with ⟨_, e⟩ | ⟨e, _⟩; exact e; omega
    exact ⟨{ s with a := s.a + 1 }, [Pk.F1 (s.a + 1)], rfl, h.mt.more q, Mid.of1 hp, by simp, fun W hW => req_new_chain K rs1 dr s O i q W hrs (by omega) hp.inv hW⟩
  · obtain rfl : rs1 = rs ++ [q] := by rcases hcase with ⟨e, _⟩ | ⟨_, e⟩; omega; exact e
    have ha : s.a = i + 1 := hp.way.full
    refine ⟨s, reqL s, rfl, h.mt, Mid.of2 hp hnt hl, ?_, fun W hW => req_again_chain K (rs ++ [q]) dr s O i q W hrs (by omega) hp.way.inv (by omega) ?_ hW⟩
    · unfold reqL; split
      · simp
      · rw [fwdL_len]; omega
    · rw [ha, Nat.add_sub_cancel, ← hrl, List.getElem?_append_right (Nat.le_refl _), Nat.sub_self]; rfl
  · exact absurd ht hnt
end Go.Proofs.YteglimjonofdeaaGreatDoor
