import Derived.Test.YteglimjonofdeaaGreatDoorPModelM
import Derived.Test.YteglimjonofdeaaGreatDoorPWay
import Derived.Test.YteglimjonofdeaaGreatDoorCNodesM
import Derived.Test.YteglimjonofdeaaGreatDoorOOpenM
set_option linter.unusedVariables false
set_option linter.unusedSimpArgs false
namespace Go.Proofs.YteglimjonofdeaaGreatDoor

/-- Thing i + 1 is about to be asked for. -/
structure Ph1 (i : Nat) (s : PS) (J : List Pk) : Prop where
  inv : PInv i s
  ai : s.a = i
  ok : ∀ p ∈ J, okP s p ∧ isQ p = false
  noA : J.countP isA = 0
/-- Thing i + 1 was asked for, and is not told yet. -/
structure Ph2 (i : Nat) (s : PS) (J : List Pk) : Prop where
  way : Way i (s, J)
  ans : Ans i (s, J)
theorem countA_mem {J : List Pk} {n : Nat} (h : J.countP isA = 0) (hn : Pk.A n ∈ J) : False := by
  rw [List.countP_eq_zero] at h
  have := h _ hn
  simp [isA] at this
theorem countA_zero {J : List Pk} (h : ∀ n, Pk.A n ∉ J) : J.countP isA = 0 := by
  rw [List.countP_eq_zero]
  intro p hp e
  cases p with
  | A n => exact h n hp
  | F1 n => simp [isA] at e
  | F2 n => simp [isA] at e
  | K0 n => simp [isA] at e
  | K1 n => simp [isA] at e
  | Q0 n => simp [isA] at e
  | Q1 n => simp [isA] at e
/-- With at most one answer in a row, no answer stands at two places. -/
theorem one_place {J : List Pk} (h : J.countP isA ≤ 1) {k k' n : Nat} (hk : J[k]? = some (Pk.A n)) (hlt : k' < k) : J[k']? ≠ some (Pk.A n) := fun hk' => by
  have h1 : k < J.length := (List.getElem?_eq_some_iff.1 hk).1
  have e1 : J = J.take k ++ J.drop k := (List.take_append_drop k J).symm
  have m1 : Pk.A n ∈ J.take k := by
    apply List.mem_of_getElem? (i := k')
    rw [List.getElem?_take_of_lt hlt]; exact hk'
  have m2 : Pk.A n ∈ J.drop k := by
    apply List.mem_of_getElem? (i := 0)
    rw [List.getElem?_drop, Nat.add_zero]; exact hk
  have c1 : 0 < (J.take k).countP isA := List.countP_pos_iff.2 ⟨_, m1, rfl⟩
  have c2 : 0 < (J.drop k).countP isA := List.countP_pos_iff.2 ⟨_, m2, rfl⟩
  rw [e1, List.countP_append] at h
  omega
theorem fwd_noA (mk : Nat → Pk) (hmk : ∀ n, isA (mk n) = false) (n hi : Nat) : (fwdL mk n hi).countP isA = 0 := by
  rw [List.countP_eq_zero]
  intro p hp e
  obtain ⟨m, rfl, _⟩ := fwdL_mem hp
  rw [hmk] at e; cases e
theorem tick_noA (s : PS) : (tickL s).countP isA = 0 := by
  unfold tickL
  rw [List.countP_append, List.countP_append, List.countP_append, fwd_noA .F1 (fun _ => rfl), fwd_noA .F2 (fun _ => rfl)]
  cases s.h1 <;> cases s.h2 <;> simp [isA]
/-- The first time that thing i + 1 is asked for. -/
theorem Ph1.req {i : Nat} {s : PS} {J : List Pk} (h : Ph1 i s J) : PInv i { s with a := s.a + 1 } ∧ (∀ p ∈ J ++ ([Pk.F1 (s.a + 1)] ++ tickL { s with a := s.a + 1 }), okP { s with a := s.a + 1 } p) ∧ (J ++ ([Pk.F1 (s.a + 1)] ++ tickL { s with a := s.a + 1 })).countP isA = 0 ∧ i + 1 ∉ s.told := by
  obtain ⟨⟨h1, h2, h3, h4, h5, h6, h7, h8, h9, h10⟩, ai, ok, noA⟩ := h
  have hp : PInv i { s with a := s.a + 1 } := ⟨h1, h2, by show s.b ≤ s.a + 1; omega, by show s.a + 1 ≤ i + 1; omega, h5, h6, h7, h8, h9, h10⟩
  refine ⟨hp, fun p hpm => ?_, ?_, fun e => by have := h9 _ e; omega⟩
  · rcases List.mem_append.1 hpm with hm | hm
    · obtain ⟨o1, o2⟩ := ok p hm
      cases p with
      | F1 n => exact ⟨o1.1, by have := o1.2; show n ≤ s.a + 1; omega⟩
      | F2 n => exact o1
      | K0 n => exact o1
      | K1 n => exact o1
      | Q0 n => simp [isQ] at o2
      | Q1 n => simp [isQ] at o2
      | A n => exact o1
    · rcases List.mem_append.1 hm with hm | hm
      · rw [List.mem_singleton.1 hm]; exact ⟨by omega, Nat.le_refl _⟩
      · exact tick_ok hp p hm
  · rw [List.countP_append, List.countP_append, noA, tick_noA]; simp [isA]
/-- A round's packets, when thing i + 1 was asked for already. -/
theorem Ph2.req {i : Nat} {s : PS} {J : List Pk} (h : Ph2 i s J) : (∀ p ∈ J ++ (reqL s ++ tickL s), okP s p) ∧ (J ++ (reqL s ++ tickL s)).countP isA ≤ 1 ∧ (∀ n, Pk.A n ∈ J ++ (reqL s ++ tickL s) → n = i + 1 ∧ s.c = i + 1) := by
  obtain ⟨⟨inv, full, ok⟩, ⟨one, at_⟩⟩ := h
  have hf : s.a = i + 1 := full
  have inv0 : PInv i s := inv
  obtain ⟨h1, h2, h3, h4, h5, h6, h7, h8, h9, h10⟩ := inv0
  have inv0 : PInv i s := inv
  refine ⟨fun p hp => ?_, ?_, fun n hn => ?_⟩
  · rcases List.mem_append.1 hp with hp | hp
    · exact (ok p hp).1
    · rcases List.mem_append.1 hp with hp | hp
      · exact req_ok inv0 (by omega) p hp
      · exact tick_ok inv0 p hp
  · rw [List.countP_append, List.countP_append, tick_noA]
    have one' : J.countP isA ≤ 1 := one
    by_cases e : s.a ≤ s.k0
    · have hr : reqL s = [Pk.A s.a] := by unfold reqL; rw [if_pos e]
      have hz : J.countP isA = 0 := countA_zero fun n hn => by have := (at_ n hn).2.2; have : s.k1 ≤ i := this; omega
      rw [hr, hz]; simp [isA]
    · have hr : reqL s = fwdL .F1 s.k0 s.a := by unfold reqL; rw [if_neg e]
      rw [hr, fwd_noA .F1 (fun _ => rfl)]; omega
  · rcases List.mem_append.1 hn with hn | hn
    · exact ⟨(at_ n hn).1, (at_ n hn).2.1⟩
    · rcases List.mem_append.1 hn with hn | hn
      · by_cases e : s.a ≤ s.k0
        · have hr : reqL s = [Pk.A s.a] := by unfold reqL; rw [if_pos e]
          rw [hr] at hn
          have : n = s.a := by simpa using hn
          exact ⟨by omega, by omega⟩
        · have hr : reqL s = fwdL .F1 s.k0 s.a := by unfold reqL; rw [if_neg e]
          rw [hr] at hn
          exact (countA_mem (fwd_noA .F1 (fun _ => rfl) _ _) hn).elim
      · exact (countA_mem (tick_noA s) hn).elim
/-- Behind a round. -/
theorem Ph2.of {i : Nat} {s : PS} {P : List Pk} (h : PInv i s) (ha : s.a = i + 1) (hok : ∀ p ∈ P, okP s p) : Ph2 i (deliver s P).1 (deliver s P).2 := by
  obtain ⟨d1, d2, d3, d4⟩ := deliver_ok P h hok
  exact ⟨⟨d1, d4.trans ha, d2⟩, Ans.round h ha P hok⟩
/-- It is told: the next thing is about to be asked for. -/
theorem Ph1.next {i : Nat} {s : PS} {P : List Pk} (h : PInv i s) (ha : s.a = i + 1) (hok : ∀ p ∈ P, okP s p) (hA : ∀ n, Pk.A n ∈ P → s.c = i + 1) (hnt : i + 1 ∉ s.told) (ht : i + 1 ∈ (deliver s P).1.told) : Ph1 (i + 1) (deliver s P).1 (deliver s P).2 := by
  obtain ⟨d1, d2, d3, d4⟩ := deliver_ok P h hok
  have hc : s.c = i + 1 := by
    rcases deliver_only P s (i + 1) ht with e | e
    · exact absurd e hnt
    · exact hA _ e
  obtain ⟨y1, y2⟩ := deliver_full P h ha hc hok
  obtain ⟨h1, h2, h3, h4, h5, h6, h7, h8, h9, h10⟩ := d1
  refine ⟨⟨by omega, h2, h3, by omega, h5, h6, h7, h8, h9, fun n h11 h12 => ?_⟩, d4.trans ha, d2, y1⟩
  by_cases e : n = i + 1
  · rw [e]; exact ht
  · exact h10 n h11 (by omega)
/-- At the end: rounds of Ticks. -/
def Fin (n : Nat) (s : PS) (J : List Pk) : Prop := (n = 0 ∧ s = ⟨0, 0, 0, 0, 0, false, false, []⟩ ∧ J = []) ∨ (Done n (s, J) ∧ J.countP isA = 0)
theorem PInv.down {n : Nat} {s : PS} (h : PInv (n + 1) s) (ha : s.a = n + 1) : PInv n s := by
  obtain ⟨h1, h2, h3, h4, h5, h6, h7, h8, h9, h10⟩ := h
  exact ⟨by omega, h2, h3, by omega, h5, h6, h7, h8, h9, fun m h11 h12 => h10 m h11 (by omega)⟩
theorem Fin.all {n : Nat} {s : PS} {J : List Pk} (h : Fin n s J) : PInv n s ∧ (∀ p ∈ J ++ tickL s, okP s p) ∧ (J ++ tickL s).countP isA = 0 := by
  rcases h with ⟨rfl, rfl, rfl⟩ | ⟨hd, hA⟩
  · have hp : PInv 0 ⟨0, 0, 0, 0, 0, false, false, []⟩ := ⟨Nat.le_refl _, Nat.le_refl _, Nat.le_refl _, by decide, Nat.le_refl _, Nat.le_refl _, fun _ => rfl, fun _ => rfl, fun n hn => by simp at hn, fun n h1 h2 => by omega⟩
    exact ⟨hp, fun p hp' => tick_ok hp p (by simpa using hp'), by rw [List.nil_append]; exact tick_noA _⟩
  · exact ⟨hd.inv, fun p hp => by
      rcases List.mem_append.1 hp with hp | hp
      · exact (hd.ok p hp).1
      · exact tick_ok hd.inv p hp, by rw [List.countP_append, hA, tick_noA]⟩
theorem Fin.round {n : Nat} {s : PS} {J : List Pk} (h : Fin n s J) : Fin n (rndT (s, J)).1 (rndT (s, J)).2 := by
  rcases h with ⟨rfl, rfl, rfl⟩ | ⟨hd, hA⟩
  · exact Or.inl ⟨rfl, rfl, rfl⟩
  · refine Or.inr ⟨hd.rnd, ?_⟩
    obtain ⟨m, rfl⟩ : ∃ m, n = m + 1 := ⟨n - 1, by have := hd.n1; omega⟩
    have hi := hd.inv.down hd.an
    have hl := hd.logs
    exact (deliver_full _ hi hd.an hl.2.1 hd.all).1
theorem Fin.end_ {n : Nat} {s : PS} {J : List Pk} (h : Fin n s J) (hn : n ≤ 12) : (rndsT 30 (s, J)).1.k0 = n ∧ (rndsT 30 (s, J)).1.a = n ∧ (rndsT 30 (s, J)).1.c = n := by
  rcases h with ⟨rfl, rfl, rfl⟩ | ⟨hd, hA⟩
  · exact ⟨rfl, rfl, rfl⟩
  · exact finale hd hn
theorem Fin.of {n : Nat} {s : PS} {J : List Pk} (h : Ph1 n s J) (h1 : 1 ≤ n) : Fin n s J := Or.inr ⟨⟨h.inv, h.ai, h1, h.ok⟩, h.noA⟩
/-- A round in which all comes once is rnd. -/
theorem rnd_eq (s : PS) (J : List Pk) (ts : List Nat) (hl : ts.length = min 30 (J ++ (reqL s ++ tickL s)).length) (h1 : ∀ t ∈ ts, t = 1) : deliver s (sched ((J ++ (reqL s ++ tickL s)).take ts.length) ts) = rnd (s, J) := by
  rw [sched_ones _ ts (by rw [List.length_take]; omega) h1]
  unfold rnd
  congr 1
  rw [hl, ← List.take_take, List.take_of_length_le (Nat.le_refl _)]
theorem rndT_eq (s : PS) (J : List Pk) (ts : List Nat) (hl : ts.length = min 30 (J ++ tickL s).length) (h1 : ∀ t ∈ ts, t = 1) : deliver s (sched ((J ++ tickL s).take ts.length) ts) = rndT (s, J) := by
  rw [sched_ones _ ts (by rw [List.length_take]; omega) h1]
  unfold rndT
  congr 1
  rw [hl, ← List.take_take, List.take_of_length_le (Nat.le_refl _)]
end Go.Proofs.YteglimjonofdeaaGreatDoor
set_option linter.unusedVariables false
set_option linter.unusedSimpArgs false
namespace Go.Proofs.YteglimjonofdeaaGreatDoor
open Go.RowKit

theorem own_down {w : World} {B B' k : Nat} {e : TypeId} {v : Value} {n : Nat} {xs : List Value} (h : w.ownsRow B e k v n xs) (hB : B' ≤ B) : w.ownsRow B' e k v n xs := by
  refine ⟨h.1, ?_⟩
  rcases h.2 with h0 | ⟨g, cap, cur, e1, e2, e3⟩
  · exact Or.inl h0
  · exact Or.inr ⟨g, cap, cur, e1, by omega, e3⟩
theorem HowAt.below {w w' : World} {v : Value} {ns : List Int} (h : HowAt w v ns) (hb : Below w.heap.size w w') : HowAt w' v ns := by
  rcases h with h | ⟨g, off, cap, h1, h2, h3⟩
  · exact Or.inl h
  · exact Or.inr ⟨g, off, cap, h1, Nat.lt_of_lt_of_le h2 hb.size, fun i x hx => (hb.cell (p := ⟨g, off + i, none⟩) h2).trans (h3 i x hx)⟩
/-- What the law has in hand: the chain, what is on its way, what was told. -/
structure LSt (K : Nat → Int) (rs : List Rq) (dr : Nat → Nat) (s : PS) (J : List Pk) (O : Nat → Prop) (tb lb : Nat) (w : World) (wa : Option Addr) (wn wc : Nat) (L : List (Int × ByteArray)) (wr : World) : Prop where
  cst : Cst K rs dr s O wr
  mt : Match rs J L
  wn_ : wn = L.length
  row : wr.ownsRow w.heap.size 44 2 (.slice wa wn wc) L.length (wayC L)
  nrow : ∀ g, (Value.slice wa wn wc).ownBlock = some g → ¬ O g ∧ g ≠ tb ∧ g ≠ lb ∧ ∀ j, j < 3 → dr j ≠ g
  told : ToldAt wr tb s
  lr : wr.rangeAt lb 0 [.pointer (some ⟨dr 0, 0, none⟩), .pointer (some ⟨dr 1, 0, none⟩), .pointer (some ⟨dr 2, 0, none⟩)]
  ll : lb < wr.heap.size
  nO : ¬ O lb ∧ ¬ O tb ∧ lb ≠ tb
  own : ∀ g, O g → w.heap.size ≤ g
  dd : ∀ j, j < 3 → dr j ≠ tb ∧ dr j < wr.heap.size
  bl : Below w.heap.size w wr
  tl : w.heap.size ≤ tb ∧ w.heap.size ≤ lb
theorem LSt.fresh {K : Nat → Int} {rs : List Rq} {dr : Nat → Nat} {s : PS} {J : List Pk} {O : Nat → Prop} {tb lb : Nat} {w : World} {wa : Option Addr} {wn wc : Nat} {L : List (Int × ByteArray)} {wr w' : World} (h : LSt K rs dr s J O tb lb w wa wn wc L wr) (hb : Below wr.heap.size wr w') : LSt K rs dr s J O tb lb w wa wn wc L w' :=
  ⟨h.cst.fresh hb, h.mt, h.wn_, own_below' h.row hb, h.nrow, h.told.kept (Kept.fresh (S := fun _ => False) hb) id, range_kept h.lr (Kept.fresh (S := fun _ => False) hb) h.ll id, Nat.lt_of_lt_of_le h.ll hb.size, h.nO, h.own, fun j hj => ⟨(h.dd j hj).1, Nat.lt_of_lt_of_le (h.dd j hj).2 hb.size⟩, h.bl.trans (hb.mono h.bl.size), h.tl⟩
/-- A node was called, and what came out was laid behind. -/
theorem LSt.app {K : Nat → Int} {rs rs' : List Rq} {dr : Nat → Nat} {s s' : PS} {J Jo : List Pk} {O O1 : Nat → Prop} {tb lb : Nat} {w : World} {wa wa2 : Option Addr} {wn wc m2 wc2 : Nat} {L Lo : List (Int × ByteArray)} {W0 W1 W2 : World} (h : LSt K rs dr s J O tb lb w wa wn wc L W0) (hT : 1 < w.heap.size) (hmt : Match rs' J L) (hs : s'.told = s.told)
    (hm : Match rs' Jo Lo) (hc : Cst K rs' dr s' O1 W1) (k1 : Kept O W0 W1) (o1 : ∀ g, O1 g → O g ∨ W0.heap.size ≤ g)
    (hr : W2.ownsRow w.heap.size 44 2 (.slice wa2 m2 wc2) (L ++ Lo).length (wayC (L ++ Lo))) (hm2 : m2 = (L ++ Lo).length) (g2 : W1.grownBy W2 (Value.slice wa wn wc).ownBlock) (hat : ∀ g, (Value.slice wa2 m2 wc2).ownBlock = some g → (Value.slice wa wn wc).ownBlock = some g ∨ W1.heap.size ≤ g) : LSt K rs' dr s' (J ++ Jo) O1 tb lb w wa2 m2 wc2 (L ++ Lo) W2 := by
  have kg : Kept (fun g => (Value.slice wa wn wc).ownBlock = some g) W1 W2 := Kept.grown g2 (fun k e => Or.inl e)
  have s1 := k1.size; have s2 := kg.size; have s0 := h.bl.size
  have htb := h.told.1
  have hll := h.ll
  have base : ∀ g, (Value.slice wa wn wc).ownBlock = some g → w.heap.size ≤ g ∧ g < W0.heap.size := fun g e => h.row.lt g e
  have nO1 : ∀ g, g < W0.heap.size → ¬ O g → ¬ O1 g := fun g hg hn e => by
    rcases o1 g e with e | e
    · exact hn e
    · omega
  refine ⟨hc.kept kg (fun g hg e => nO1 g (base g e).2 (h.nrow g e).1 hg) (fun e => by have := base _ e; omega) (fun j hj e => (h.nrow _ e).2.2.2 j hj rfl), hmt.app hm, hm2, hr, fun g hg => ?_, ((h.told.kept k1 h.nO.2.1).kept kg (fun e => (h.nrow tb e).2.1 rfl)).same hs, range_kept (range_kept h.lr k1 hll h.nO.1) kg (by omega) (fun e => (h.nrow lb e).2.2.1 rfl), by omega, ⟨nO1 lb hll h.nO.1, nO1 tb htb h.nO.2.1, h.nO.2.2⟩, fun g hg => ?_, fun j hj => ⟨(h.dd j hj).1, by have := (h.dd j hj).2; omega⟩, (h.bl.trans (k1.toBelow s0 h.own)).trans ((Below.refl _ _).grown g2 (by omega) (fun g e => (base g e).1)), h.tl⟩
  · rcases hat g hg with e | e
    · exact ⟨nO1 g (base g e).2 (h.nrow g e).1, (h.nrow g e).2⟩
    · exact ⟨fun e2 => by have := hc.lt g e2; omega, by omega, by omega, fun j hj => by have := (h.dd j hj).2; omega⟩
  · rcases o1 g hg with e | e
    · exact h.own g e
    · omega
/-- What is neither the chain's nor the row's is left alone. -/
theorem LSt.app_left {K : Nat → Int} {rs : List Rq} {dr : Nat → Nat} {s : PS} {J : List Pk} {O O1 : Nat → Prop} {tb lb : Nat} {w : World} {wa wa2 : Option Addr} {wn wc m2 wc2 : Nat} {L : List (Int × ByteArray)} {W0 W1 W2 : World} (h : LSt K rs dr s J O tb lb w wa wn wc L W0) (k1 : Kept O W0 W1) (o1 : ∀ g, O1 g → O g ∨ W0.heap.size ≤ g) (g2 : W1.grownBy W2 (Value.slice wa wn wc).ownBlock) (hat : ∀ g, (Value.slice wa2 m2 wc2).ownBlock = some g → (Value.slice wa wn wc).ownBlock = some g ∨ W1.heap.size ≤ g) (x : Nat) (hx : x < W0.heap.size) (h1 : ¬ O x) (h2 : (Value.slice wa wn wc).ownBlock ≠ some x) : W2.heap[x]? = W0.heap[x]? ∧ ¬ O1 x ∧ (Value.slice wa2 m2 wc2).ownBlock ≠ some x := by
  have kg : Kept (fun g => (Value.slice wa wn wc).ownBlock = some g) W1 W2 := Kept.grown g2 (fun k e => Or.inl e)
  have s1 := k1.size
  refine ⟨(kg.block x (by omega) h2).trans (k1.block x hx h1), fun e => ?_, fun e => ?_⟩
  · rcases o1 x e with e | e
    · exact h1 e
    · omega
  · rcases hat x e with e | e
    · exact h2 e
    · omega
theorem range_block {w w' : World} {b o : Nat} {cs : List Value} (h : w'.heap[b]? = w.heap[b]?) (hr : w.rangeAt b o cs) : w'.rangeAt b o cs := fun i u hu => (World.cell?_of_block (a := ⟨b, o + i, none⟩) h).trans (hr i u hu)
/-- run was called. -/
theorem LSt.run {K : Nat → Int} {rs : List Rq} {dr : Nat → Nat} {s : PS} {J : List Pk} {O : Nat → Prop} {tb lb : Nat} {w : World} {wa : Option Addr} {wn wc : Nat} {L : List (Int × ByteArray)} {W0 W1 : World} {ns : List Int} {ts : List Nat} {ao : Option Addr} {n cap : Nat} (h : LSt K rs dr s J O tb lb w wa wn wc L W0) (hR : RO K rs dr s tb O W0 J ns ts ao n cap W1) :
    ∃ Lo O', LSt K rs dr (deliver s (sched (J.take ts.length) ts)).1 (deliver s (sched (J.take ts.length) ts)).2 O' tb lb w ao n cap Lo W1 ∧ Lo.length ≤ 8 * ts.length ∧ (∀ x, x < W0.heap.size → ¬ O x → x ≠ tb → W1.heap[x]? = W0.heap[x]? ∧ ¬ O' x ∧ (Value.slice ao n cap).ownBlock ≠ some x) := by
  obtain ⟨h2, _, _, Lo, O', hr⟩ := hR
  have s0 := h.bl.size
  have s1 := hr.kept.size
  have htb := h.told.1
  have hll := h.ll
  have nO' : ∀ g, g < W0.heap.size → ¬ O g → ¬ O' g := fun g hg hn e => by
    rcases hr.own g e with e | e
    · exact hn e
    · omega
  refine ⟨Lo, O', ⟨hr.st, hr.out, hr.len, own_down hr.row s0, fun g hg => ?_, hr.told, range_kept h.lr hr.kept hll (fun e => by rcases e with e | e; exact h.nO.1 e; exact h.nO.2.2 e), by omega, ⟨nO' lb hll h.nO.1, nO' tb htb h.nO.2.1, h.nO.2.2⟩, fun g hg => ?_, fun j hj => ⟨(h.dd j hj).1, by have := (h.dd j hj).2; omega⟩, h.bl.trans (hr.kept.toBelow s0 (fun g hg => ?_)), h.tl⟩, ?_, fun x hx h1 h2 => ⟨hr.kept.block x hx (fun e => by rcases e with e | e; exact h1 e; exact h2 e), nO' x hx h1, fun e => by have := (hr.row.lt x e).1; omega⟩⟩
  · have := (hr.row.lt g hg).1
    exact ⟨hr.nown g hg, by omega, by omega, fun j hj => by have := (h.dd j hj).2; omega⟩
  · rcases hr.own g hg with e | e
    · exact h.own g e
    · omega
  · rcases hg with e | e
    · exact h.own g e
    · have := h.tl.1; omega
  · have e1 := hr.out.1
    have e2 := deliver_len (sched (J.take ts.length) ts) s
    have e3 := sched_len (J.take ts.length) ts h2
    omega
/-- run of all that is on its way. -/
theorem LSt.runs (K : Nat → Int) (rs : List Rq) (dr : Nat → Nat) (s : PS) (J : List Pk) (O : Nat → Prop) (tb tcap lb lcap : Nat) (w : World) (wa : Option Addr) (wn wc : Nat) (L : List (Int × ByteArray)) (W0 : World) (i : Nat) (ha : Option Addr) (hn hcap : Nat) (ns : List Int) (at_ : Nat) (h : LSt K rs dr s J O tb lb w wa wn wc L W0) (hT : 1 < w.heap.size) (hr : RsOk rs) (hi : i ≤ 12) (hPI : PInv i s) (hok : ∀ p ∈ J, okP s p) (hone : J.countP isA ≤ 1) (hA : ∀ n, Pk.A n ∈ J → n < 60 ∧ n ∉ s.told)
    (hhow : HowAt w (.slice ha hn hcap) ns) (hhn : hn = ns.length) (hnsb : ∀ x ∈ ns, -9223372036854775808 ≤ x ∧ x ≤ 9223372036854775807) (hnl : hn ≤ 140737488355328) (hat : at_ ≤ 100000) (hL : L.length ≤ 100000) :
    Calls Tryz.prog 14 #[.slice (some ⟨lb, 0, none⟩) 3 lcap, .slice wa wn wc, .slice ha hn hcap, .int .i64 (at_ : Nat), .slice (some ⟨tb, 0, none⟩) 60 tcap] W0 fun e w' => ∃ ts ao n cap Lo O', e = .returned (.tuple #[.slice ao n cap, .bool true]) ∧ ts.length = min 30 J.length ∧ (∀ t ∈ ts, t ≤ 2) ∧ (ns = [] → ∀ t ∈ ts, t = 1) ∧ LSt K rs dr (deliver s (sched (J.take ts.length) ts)).1 (deliver s (sched (J.take ts.length) ts)).2 O' tb lb w ao n cap Lo w' ∧ Lo.length ≤ 240 ∧ (∀ x, x < W0.heap.size → ¬ O x → x ≠ tb → w'.heap[x]? = W0.heap[x]? ∧ ¬ O' x ∧ (Value.slice ao n cap).ownBlock ≠ some x) := by
  have hb := h.bl.size
  refine (run_any K rs dr s O i J L lb lcap wa wn wc ha hn hcap ns at_ tb tcap W0 hr hi hPI hok h.mt h.cst h.lr h.ll h.nO.1 h.nO.2.2 (OutAt.of_own h.row) h.wn_ (fun g e => ?_) (hhow.below h.bl) hhn (fun h0 g off e => ?_) hnsb hnl hat h.told h.nO.2.1 (by omega) (by have := h.tl.1; omega) (fun j hj => h.dd j hj) hL (fun k n hk => ?_)).mono ?_
  · subst e
    exact ⟨(h.nrow g rfl).1, (h.nrow g rfl).2.1⟩
  · subst e
    rcases hhow with ⟨_, e1⟩ | ⟨g2, off2, cap2, e1, e2, _⟩
    · rw [e1] at hhn; simp at hhn; omega
    · injection e1 with e1
      injection e1 with e1
      injection e1 with e1
      subst e1
      exact ⟨fun e3 => by have := h.own g e3; omega, by have := h.tl.1; omega⟩
  · obtain ⟨h1, h2⟩ := hA n (List.mem_of_getElem? hk)
    exact ⟨h1, h2, fun k' hk' => one_place hone hk hk'⟩
  · rintro e w' ⟨ts, ao, n, cap, rfl, hl, hR⟩
    have hR' := hR
    obtain ⟨q1, q2, _, _⟩ := hR'
    obtain ⟨Lo, O', hS, hlen, hleft⟩ := h.run hR
    exact ⟨ts, ao, n, cap, Lo, O', rfl, hl, q1, q2, hS, by omega, hleft⟩
end Go.Proofs.YteglimjonofdeaaGreatDoor
set_option linter.unusedVariables false
set_option linter.unusedSimpArgs false
namespace Go.Proofs.YteglimjonofdeaaGreatDoor

/-- In the middle of round t: thing i + 1 was asked for, the Ticks are to come. -/
structure Mid (i t : Nat) (s : PS) (J : List Pk) : Prop where
  inv : PInv i s
  full : s.a = i + 1
  ok : ∀ p ∈ J ++ tickL s, okP s p
  one : (J ++ tickL s).countP isA ≤ 1
  at_ : ∀ n, Pk.A n ∈ J ++ tickL s → n = i + 1 ∧ s.c = i + 1
  nt : i + 1 ∉ s.told
  ls : 41 ≤ t → ∃ x J0, Way i x ∧ rnds (t - 41) x = (s, J0) ∧ J = J0 ++ reqL s
/-- Ahead of round t. -/
def TSt (i t : Nat) (s : PS) (J : List Pk) : Prop := (t = 0 ∧ Ph1 i s J) ∨ (1 ≤ t ∧ i + 1 ∉ s.told ∧ Ph2 i s J ∧ (41 ≤ t → ∃ x, Way i x ∧ rnds (t - 41) x = (s, J))) ∨ (1 ≤ t ∧ i + 1 ∈ s.told ∧ Ph1 (i + 1) s J)
theorem Mid.of1 {i : Nat} {s : PS} {J : List Pk} (h : Ph1 i s J) : Mid i 0 { s with a := s.a + 1 } (J ++ [Pk.F1 (s.a + 1)]) := by
  obtain ⟨h1, h2, h3, h4⟩ := h.req
  rw [← List.append_assoc] at h2 h3
  exact ⟨h1, by show s.a + 1 = i + 1; rw [h.ai], h2, by omega, fun n hn => (countA_mem h3 hn).elim, h4, fun e => by omega⟩
theorem Mid.of2 {i t : Nat} {s : PS} {J : List Pk} (h : Ph2 i s J) (hnt : i + 1 ∉ s.told) (hl : 41 ≤ t → ∃ x, Way i x ∧ rnds (t - 41) x = (s, J)) : Mid i t s (J ++ reqL s) := by
  obtain ⟨h2, h3, h4⟩ := h.req
  rw [← List.append_assoc] at h2 h3 h4
  exact ⟨h.way.inv, h.way.full, h2, h3, h4, hnt, fun e => by obtain ⟨x, hx, he⟩ := hl e; exact ⟨x, J, hx, he, rfl⟩⟩
theorem rnds_one (x : PS × List Pk) : rnds 1 x = rnd x := rfl
theorem Mid.next {i t : Nat} {s : PS} {J : List Pk} (h : Mid i t s J) (ts : List Nat) (hl : ts.length = min 30 (J ++ tickL s).length) (h1 : 41 ≤ t → ∀ x ∈ ts, x = 1) : TSt i (t + 1) (deliver s (sched ((J ++ tickL s).take ts.length) ts)).1 (deliver s (sched ((J ++ tickL s).take ts.length) ts)).2 := by
  have hP : ∀ p ∈ sched ((J ++ tickL s).take ts.length) ts, p ∈ J ++ tickL s := fun p hp => List.mem_of_mem_take (sched_mem _ _ _ hp)
  have hok : ∀ p ∈ sched ((J ++ tickL s).take ts.length) ts, okP s p := fun p hp => h.ok p (hP p hp)
  by_cases ht : i + 1 ∈ (deliver s (sched ((J ++ tickL s).take ts.length) ts)).1.told
  · exact Or.inr (Or.inr ⟨by omega, ht, Ph1.next h.inv h.full hok (fun n hn => (h.at_ n (hP _ hn)).2) h.nt ht⟩)
  · have hp2 := Ph2.of h.inv h.full hok
    refine Or.inr (Or.inl ⟨by omega, ht, hp2, fun e => ?_⟩)
    by_cases e2 : 41 ≤ t
    · obtain ⟨x, J0, hx, he, hJ⟩ := h.ls e2
      refine ⟨x, hx, ?_⟩
      have hJ' : J ++ tickL s = J0 ++ (reqL s ++ tickL s) := by rw [hJ, List.append_assoc]
      rw [hJ'] at hl ⊢
      rw [rnd_eq s J0 ts hl (h1 e2), show t + 1 - 41 = (t - 41) + 1 by omega, rnds_add, he, rnds_one]
    · obtain rfl : t = 40 := by omega
      exact ⟨_, hp2.way, rfl⟩
theorem TSt.told {i : Nat} {s : PS} {J : List Pk} (h : TSt i 200 s J) (hi : i < 12) : Ph1 (i + 1) s J ∧ i + 1 ∈ s.told := by
  rcases h with ⟨e, _⟩ | ⟨_, hnt, _, hl⟩ | ⟨_, ht, hp⟩
  · omega
  · exfalso
    obtain ⟨x, hx, he⟩ := hl (by omega)
    have hlive := live_all hi hx
    have key : ∀ a b : Nat, a + b = 200 - 41 → i + 1 ∈ (rnds a x).1.told → i + 1 ∈ (rnds (200 - 41) x).1.told := fun a b hab h1 => by
      rw [← hab, rnds_add]; exact rnds_told b (rnds a x) (i + 1) h1
    have h2 := key 150 9 (by decide) hlive
    rw [he] at h2
    exact hnt h2
  · exact ⟨hp, ht⟩
/-- The Ticks of the first k nodes. -/
def tkN (f : Nat → List Pk) : Nat → List Pk
  | 0 => []
  | k + 1 => tkN f k ++ f k
end Go.Proofs.YteglimjonofdeaaGreatDoor
set_option linter.unusedVariables false
set_option linter.unusedSimpArgs false
namespace Go.Proofs.YteglimjonofdeaaGreatDoor
open Go.RowKit

set_option maxHeartbeats 400000 in
theorem opick_zero (w : World) : Calls Tryz.prog 23 #[.int .i64 0, .int .i64 3] w fun e w' => e = .returned (.int .i64 ((0 : Nat) : Int)) ∧ w' = w := by
  go_enter Tryz.func23, Tryz.ntmps23
  go_wp2
  go_ret
  exact ⟨rfl, rfl⟩
set_option maxRecDepth 10000 in
set_option maxHeartbeats 4000000 in
/-- A request of the first client. -/
theorem request0_any (a : Ask5) (no : Int) (w : World) (hok : a.ok) (hc0 : a.c = 0) (hno : 1 ≤ no ∧ no ≤ 2147483647) :
    Calls Tryz.prog 8 #[.agg a.cells.toArray, .int .i64 no] w fun e w' => ∃ o p v t, e = .returned (.agg (rqCells 1 no o p v t).toArray) ∧ rqWhole 1 no o p v t = true ∧ Below w.heap.size w w' := by
  obtain ⟨⟨x1, x2⟩, ⟨x3, x4⟩, ⟨x5, x6⟩, ⟨x7, x8⟩, ⟨x9, x10⟩⟩ := hok
  obtain ⟨rc, lc, hrc, hc⟩ : ∃ r : Nat, (r : Int) < 3 ∧ r = 0 ∧ ∀ w, Calls Tryz.prog 23 #[.int .i64 a.c, .int .i64 3] w fun e w' => e = .returned (.int .i64 r) ∧ w' = w := ⟨0, by decide, rfl, by rw [hc0]; exact opick_zero⟩
  have HRC : Hid (1 + (rc : Int) = 1) := by show _ = _; omega
  clear hrc hc0
  obtain ⟨ro, lo, ho⟩ := opick_fix a.o 5 x3 x4 (by omega) (by omega)
  obtain ⟨rp, lp, hp⟩ := opick_fix a.p 4 x5 x6 (by omega) (by omega)
  obtain ⟨rv, lv, hv⟩ := opick_fix a.v 5 x7 x8 (by omega) (by omega)
  obtain ⟨rt, lt, ht⟩ := opick_fix a.t 9 x9 x10 (by omega) (by omega)
  obtain ⟨T, hT8, hslice⟩ := slice_abc rt (by omega)
  have HW : Hid (rqWhole (1 + rc) no (1 + ro) (1 + rp) rv T = true) := rq_whole _ _ _ _ _ _ (by omega) hno (by omega) (by omega) (by omega) hT8
  have wrc : IntKind.i64.wrap (1 + (rc : Int)) = 1 + rc := owrap _ (by omega) (by omega)
  have wro : IntKind.i64.wrap (1 + (ro : Int)) = 1 + ro := owrap _ (by omega) (by omega)
  have wrp : IntKind.i64.wrap (1 + (rp : Int)) = 1 + rp := owrap _ (by omega) (by omega)
  obtain ⟨U, hU⟩ : ∃ U, U = w.alloc (.cells a.cells.toArray 32) := ⟨_, rfl⟩
  obtain ⟨V, hV⟩ : ∃ V, V = U.alloc (.cells (rqCells 0 0 0 0 0 ⟨#[]⟩).toArray 29) := ⟨_, rfl⟩
  have hUs : U.heap.size = w.heap.size + 1 := by rw [hU]; simp
  have bU : Below w.heap.size w U := by rw [hU]; exact (Below.refl _ _).alloc (Nat.le_refl _) _
  have bV : Below U.heap.size U V := by rw [hV]; exact (Below.refl _ _).alloc (Nat.le_refl _) _
  have rU : U.rangeAt w.heap.size 0 a.cells := by rw [hU]; exact range_new _ _ _
  have hVs : V.heap.size = w.heap.size + 2 := by rw [hV]; simp; omega
  have TV : Hid (V.there (w.heap.size + 1) 0 6) := by
    have := there_new U (rqCells 0 0 0 0 0 ⟨#[]⟩).toArray 29
    rw [← hV, hUs] at this; exact this
  have BV : Hid (Below w.heap.size w V) := bU.trans (bV.mono (by omega))
  have J0 : V.drew.rangeAt w.heap.size 0 a.cells := fun i x hx => (bV.cell (p := ⟨w.heap.size, 0 + i, none⟩) (by show w.heap.size < _; omega)).trans (rU i x hx)
  have hVV : (w.alloc (.cells a.cells.toArray 32)).alloc (.cells #[.int .i64 0, .int .i64 0, .int .i64 0, .int .i64 0, .int .i64 0, .string ⟨#[]⟩] 29) = V := by rw [hV, hU]; rfl
  clear bU bV rU x1 x2 x3 x4 x5 x6 x7 x8 x9 x10 hT8 hU hV
  go_enter Tryz.func8, Tryz.ntmps8
  go_wp2_with fail
  try rw [hVV]
  clear hVV
  refine wp_region_noPanic ?_
  refine wp_region_held_drew (S := fun W => W.rangeAt w.heap.size 0 a.cells) (by kernel_rfl) J0 (fun _ => ?_)
  refine wpAnyH_take (i := 0) (v := ?_) rfl (by kernel_rfl) (by kernel_rfl) (by kernel_rfl) (fun _ _ _ h => h) (Or.inl ⟨by rfl, ?_⟩) J0 ?_
  rotate_left 1
  · intro W hSW; clear hSW; go_simp; try with_reducible rfl
  simp only [qA, qB, qC, Act.put, qD, qE, qF]
  refine wpAnyH_take (i := 1) (v := ?_) rfl (by kernel_rfl) (by kernel_rfl) (by kernel_rfl) (fun _ _ _ h => h) (Or.inl ⟨by rfl, ?_⟩) J0 ?_
  rotate_left 1
  · intro W hSW; have qc : W.cell? ⟨w.heap.size, 0, none⟩ = some (.int .i64 a.c) := hSW 0 _ rfl; clear hSW; go_simp; try with_reducible rfl
  simp only [qA, qB, qC, Act.put, qD, qE, qF]
  refine wpAnyH_take (i := 4) (v := ?_) rfl (by kernel_rfl) (by kernel_rfl) (by kernel_rfl) (fun _ _ _ h => h) (Or.inl ⟨by rfl, ?_⟩) J0 ?_
  rotate_left 1
  · intro W hSW; clear hSW; go_simp; try with_reducible rfl
  simp only [qA, qB, qC, Act.put, qD, qE, qF]
  refine wpAnyH_take (i := 5) (v := ?_) rfl (by kernel_rfl) (by kernel_rfl) (by kernel_rfl) (fun _ _ _ h => h) (Or.inl ⟨by rfl, ?_⟩) J0 ?_
  rotate_left 1
  · intro W hSW; clear hSW; go_simp; try with_reducible rfl
  simp only [qA, qB, qC, Act.put, qD, qE, qF]
  refine wpAnyH_take (i := 6) (v := ?_) rfl (by kernel_rfl) (by kernel_rfl) (by kernel_rfl) (fun _ _ _ h => h) (Or.inl ⟨by rfl, ?_⟩) J0 ?_
  rotate_left 1
  · intro W hSW; have qc : W.cell? ⟨w.heap.size, 1, none⟩ = some (.int .i64 a.o) := hSW 1 _ rfl; clear hSW; go_simp; try with_reducible rfl
  simp only [qA, qB, qC, Act.put, qD, qE, qF]
  refine wpAnyH_take (i := 9) (v := ?_) rfl (by kernel_rfl) (by kernel_rfl) (by kernel_rfl) (fun _ _ _ h => h) (Or.inl ⟨by rfl, ?_⟩) J0 ?_
  rotate_left 1
  · intro W hSW; clear hSW; go_simp; try with_reducible rfl
  simp only [qA, qB, qC, Act.put, qD, qE, qF]
  refine wpAnyH_take (i := 10) (v := ?_) rfl (by kernel_rfl) (by kernel_rfl) (by kernel_rfl) (fun _ _ _ h => h) (Or.inl ⟨by rfl, ?_⟩) J0 ?_
  rotate_left 1
  · intro W hSW; have qc : W.cell? ⟨w.heap.size, 2, none⟩ = some (.int .i64 a.p) := hSW 2 _ rfl; clear hSW; go_simp; try with_reducible rfl
  simp only [qA, qB, qC, Act.put, qD, qE, qF]
  refine wpAnyH_take (i := 13) (v := ?_) rfl (by kernel_rfl) (by kernel_rfl) (by kernel_rfl) (fun _ _ _ h => h) (Or.inl ⟨by rfl, ?_⟩) J0 ?_
  rotate_left 1
  · intro W hSW; clear hSW; go_simp; try with_reducible rfl
  simp only [qA, qB, qC, Act.put, qD, qE, qF]
  refine wpAnyH_take (i := 14) (v := ?_) rfl (by kernel_rfl) (by kernel_rfl) (by kernel_rfl) (fun _ _ _ h => h) (Or.inl ⟨by rfl, ?_⟩) J0 ?_
  rotate_left 1
  · intro W hSW; have qc : W.cell? ⟨w.heap.size, 3, none⟩ = some (.int .i64 a.v) := hSW 3 _ rfl; clear hSW; go_simp; try with_reducible rfl
  simp only [qA, qB, qC, Act.put, qD, qE, qF]
  refine wpAnyH_take (i := 16) (v := ?_) rfl (by kernel_rfl) (by kernel_rfl) (by kernel_rfl) (fun _ _ _ h => h) (Or.inl ⟨by rfl, ?_⟩) J0 ?_
  rotate_left 1
  · intro W hSW; clear hSW; go_simp; try with_reducible rfl
  simp only [qA, qB, qC, Act.put, qD, qE, qF]
  refine wpAnyH_take (i := 17) (v := ?_) rfl (by kernel_rfl) (by kernel_rfl) (by kernel_rfl) (fun _ _ _ h => h) (Or.inl ⟨by rfl, ?_⟩) J0 ?_
  rotate_left 1
  · intro W hSW; have qc : W.cell? ⟨w.heap.size, 4, none⟩ = some (.int .i64 a.t) := hSW 4 _ rfl; clear hSW; go_simp; try with_reducible rfl
  simp only [qA, qB, qC, Act.put, qD, qE, qF]
  refine wpAnyH_ready (rs := [2]) (by kernel_rfl) (by simp) ?_
  refine AllReadyH.cons rfl (fun K' hK' => ?_) AllReadyH.nil
  rw [if_pos (by rfl)]
  go_simp
  refine (hc V.drew).mono ?_
  rintro e W' ⟨rfl, hw'⟩
  obtain rfl : V.drew = W' := hw'.symm
  clear hw'
  refine hK'.out _ _ J0 (fun _ => ?_)
  clear hK' K'
  try simp only [qA, qB, qC, Act.put, qD, qE, qF]
  refine wpAnyH_take (i := 3) (v := ?_) rfl (by kernel_rfl) (by kernel_rfl) (by kernel_rfl) (fun _ _ _ h => h) (Or.inl ⟨by rfl, ?_⟩) J0 ?_
  rotate_left 1
  · intro W hSW; clear hSW; go_simp; try with_reducible rfl
  simp only [qA, qB, qC, Act.put, qD, qE, qF]
  refine wpAnyH_ready (rs := [7]) (by kernel_rfl) (by simp) ?_
  refine AllReadyH.cons rfl (fun K' hK' => ?_) AllReadyH.nil
  rw [if_pos (by rfl)]
  go_simp
  refine (ho V.drew).mono ?_
  rintro e W' ⟨rfl, hw'⟩
  obtain rfl : V.drew = W' := hw'.symm
  clear hw'
  refine hK'.out _ _ J0 (fun _ => ?_)
  clear hK' K'
  try simp only [qA, qB, qC, Act.put, qD, qE, qF]
  refine wpAnyH_take (i := 8) (v := ?_) rfl (by kernel_rfl) (by kernel_rfl) (by kernel_rfl) (fun _ _ _ h => h) (Or.inl ⟨by rfl, ?_⟩) J0 ?_
  rotate_left 1
  · intro W hSW; clear hSW; go_simp; try with_reducible rfl
  simp only [qA, qB, qC, Act.put, qD, qE, qF]
  refine wpAnyH_ready (rs := [11]) (by kernel_rfl) (by simp) ?_
  refine AllReadyH.cons rfl (fun K' hK' => ?_) AllReadyH.nil
  rw [if_pos (by rfl)]
  go_simp
  refine (hp V.drew).mono ?_
  rintro e W' ⟨rfl, hw'⟩
  obtain rfl : V.drew = W' := hw'.symm
  clear hw'
  refine hK'.out _ _ J0 (fun _ => ?_)
  clear hK' K'
  try simp only [qA, qB, qC, Act.put, qD, qE, qF]
  refine wpAnyH_take (i := 12) (v := ?_) rfl (by kernel_rfl) (by kernel_rfl) (by kernel_rfl) (fun _ _ _ h => h) (Or.inl ⟨by rfl, ?_⟩) J0 ?_
  rotate_left 1
  · intro W hSW; clear hSW; go_simp; try with_reducible rfl
  simp only [qA, qB, qC, Act.put, qD, qE, qF]
  refine wpAnyH_ready (rs := [15]) (by kernel_rfl) (by simp) ?_
  refine AllReadyH.cons rfl (fun K' hK' => ?_) AllReadyH.nil
  rw [if_pos (by rfl)]
  go_simp
  refine (hv V.drew).mono ?_
  rintro e W' ⟨rfl, hw'⟩
  obtain rfl : V.drew = W' := hw'.symm
  clear hw'
  refine hK'.out _ _ J0 (fun _ => ?_)
  clear hK' K'
  try simp only [qA, qB, qC, Act.put, qD, qE, qF]
  refine wpAnyH_ready (rs := [18]) (by kernel_rfl) (by simp) ?_
  refine AllReadyH.cons rfl (fun K' hK' => ?_) AllReadyH.nil
  rw [if_pos (by rfl)]
  go_simp
  refine (ht V.drew).mono ?_
  rintro e W' ⟨rfl, hw'⟩
  obtain rfl : V.drew = W' := hw'.symm
  clear hw'
  refine hK'.out _ _ J0 (fun _ => ?_)
  clear hK' K'
  try simp only [qA, qB, qC, Act.put, qD, qE, qF]
  refine wpAnyH_take (i := 19) (v := .string T) rfl (by kernel_rfl) (by kernel_rfl) (by kernel_rfl) (fun _ _ _ h => h) (Or.inl ⟨by rfl, ?_⟩) J0 ?_
  · intro W hSW; have hsl := hslice W; clear hSW; go_simp; try with_reducible rfl
  simp only [qA, qB, qC, Act.put, qD, qE, qF]
  refine wpAnyH_take (i := 20) (v := .agg (rqCells (1 + rc) no (1 + ro) (1 + rp) rv T).toArray) rfl (by kernel_rfl) (by kernel_rfl) (by kernel_rfl) (fun _ _ _ h => h) (yieldsIf_build (by rfl) 29 _ rfl (rqCells (1 + rc) no (1 + ro) (1 + rp) rv T).toArray (Eq.trans (congrArg (Tryz.prog.built _) (by simp [Act.eval, wrc, wro, wrp])) (rq_built _ _ _ _ _ _))) J0 ?_
  simp only [qA, qB, qC, Act.put, qD, qE, qF]
  refine wpAnyH_ready (rs := [21]) (by kernel_rfl) (by simp) ?_
  refine AllReadyH.cons rfl (fun K' hK' => ?_) AllReadyH.nil
  rw [if_pos (by rfl)]
  refine wp_store_abs 29 _ _ rfl (w.heap.size + 1) 0 (rqCells (1 + rc) no (1 + ro) (1 + rp) rv T) rfl rfl TV.out (info_rq _ _ _ _ _ _) (rq_one _ _ _ _ _ _) ?_
  intro W6 hw6 hr6 _ht6 hb6
  have J6 : W6.rangeAt w.heap.size 0 a.cells := by rw [hw6]; exact World.rangeAt_setCells_apart J0 _ _ _ (Or.inl (by omega))
  have B6 : Below w.heap.size w W6 := (BV.out.drew).trans (hb6 w.heap.size (by omega))
  clear _ht6 hw6 hb6
  refine hK'.out _ _ J6 (fun _ => ?_)
  clear hK' K'
  try simp only [qA, qB, qC, Act.put, qD, qE, qF]
  refine ⟨by kernel_rfl, ?_⟩
  refine NoPanic.normal ?_
  try simp only [qA, qB, qC, Act.put, qD, qE, qF]
  go_wp2_with fail
  exact ret_cell rfl (w.heap.size + 1) 0 (rqCells (1 + rc) no (1 + ro) (1 + rp) rv T) _ rfl hr6 Tryz.underlying29 rfl (info_rq _ _ _ _ _ _) rfl ⟨1 + ro, 1 + rp, rv, T, by rw [HRC.out], by have := HW.out; rwa [HRC.out] at this, B6⟩
end Go.Proofs.YteglimjonofdeaaGreatDoor
