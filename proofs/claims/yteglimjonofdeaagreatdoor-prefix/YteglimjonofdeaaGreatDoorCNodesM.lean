import Derived.Test.YteglimjonofdeaaGreatDoorCRun
import Derived.Test.YteglimjonofdeaaGreatDoorOAlone
set_option linter.unusedVariables false
set_option linter.unusedSimpArgs false
namespace Go.Proofs.YteglimjonofdeaaGreatDoor
open Go.RowKit

/-- A pointer type's facts. -/
def PtrT (e : TypeId) : Prop := ∃ i, Tryz.prog.info? e = some i ∧ i.zero = some (.pointer none) ∧ i.size = 1 ∧ i.bytes = 8
theorem ptrT_disk : PtrT 23 := by
  obtain ⟨i, hi⟩ : ∃ i, Tryz.prog.info? 23 = some i := Option.isSome_iff_exists.1 (by kernel_rfl)
  refine ⟨i, hi, ?_, ?_, ?_⟩
  · have : (Tryz.prog.info? 23).bind (·.zero) = some (.pointer none) := by kernel_rfl
    rw [hi] at this; exact this
  · have : (Tryz.prog.info? 23).map (·.size) = some 1 := by kernel_rfl
    rw [hi] at this; exact Option.some.inj this
  · have : (Tryz.prog.info? 23).map (·.bytes) = some 8 := by kernel_rfl
    rw [hi] at this; exact Option.some.inj this
theorem ptrT_node : PtrT 24 := by
  obtain ⟨i, hi⟩ : ∃ i, Tryz.prog.info? 24 = some i := Option.isSome_iff_exists.1 (by kernel_rfl)
  refine ⟨i, hi, ?_, ?_, ?_⟩
  · have : (Tryz.prog.info? 24).bind (·.zero) = some (.pointer none) := by kernel_rfl
    rw [hi] at this; exact this
  · have : (Tryz.prog.info? 24).map (·.size) = some 1 := by kernel_rfl
    rw [hi] at this; exact Option.some.inj this
  · have : (Tryz.prog.info? 24).map (·.bytes) = some 8 := by kernel_rfl
    rw [hi] at this; exact Option.some.inj this
/-- 'append(v, x)' of a pointer. -/
theorem wpList_append_ptr {ops : Array Oper} {rest : List Oper} {o : Oper} {a : Act} {w : World} {Q : Exit → Act → World → Prop} (hg : o.guard = none) (s x : Operand) (t e : TypeId) (ht : Tryz.prog.underlying t = some (.slice e)) (hp : PtrT e)
    (hop : o.op = Op.call { callee := Callee.builtin Builtin.append, args := #[s, x], argTypes := #[t, t] })
    (base : Nat) (v : Value) (n : Nat) (xs : List Value) (hs : a.eval s = v) (hown : w.ownsRow base e 1 v n xs) (b cp : Nat) (q : Value) (hx : a.eval x = .slice (some ⟨b, 0, none⟩) 1 cp) (hc : w.cell? ⟨b, 0, none⟩ = some q) (hq : q.oneCell' = true)
    (hbd : n ≤ 1000) (hbase : base ≤ w.heap.size)
    (hK : ∀ ao m cap' w', Hid (m = n + 1) → w'.ownsRow base e 1 (.slice ao m cap') m (xs ++ [q]) → w.grownBy w' v.ownBlock → (∀ g, (Value.slice ao m cap').ownBlock = some g → v.ownBlock = some g ∨ w.heap.size ≤ g) → wpList Tryz.prog ops Q rest (a.put o.dst (.slice ao m cap')) w') :
    wpList Tryz.prog ops Q (o :: rest) a w := by
  obtain ⟨i, hi, hz, hsz, hby⟩ := hp
  refine wpList_plain hg fun _ hK' => ?_
  have hnews : ∀ j u, [q][j]? = some u → w.cell? ((⟨b, 0, none⟩ : Addr).add j) = some u := fun j u hu => by
    match j, hu with
    | 0, hu => rw [← show some q = some u from hu]; simpa [Addr.add] using hc
    | j + 1, hu => simp at hu
  obtain ⟨v', w', hr, ho, hgr, _, h5⟩ := run_append_own_at (P := Tryz.prog) w base t o.type e i _ 1 8 ht hi hz hsz hby rfl (by decide) v n xs hown ⟨b, 0, none⟩ 1 cp [q] (by simp) hnews (by intro u hu; simp at hu; rw [hu]; exact hq) (by unfold maxLen; omega) (by omega) hbase
  unfold Oper.wp
  simp [execOp, hop, resolve, invoke, builtin, hs, hx, hr, Result.andThen]
  obtain ⟨ao, cp', rfl⟩ : ∃ ao cap, v' = .slice ao (n + 1) cap := by
    rcases ho.2 with ⟨rfl, h0⟩ | ⟨g, cap, cur, rfl, _⟩
    · omega
    · exact ⟨_, cap, rfl⟩
  refine hK' _ _ (hK ao _ cp' w' rfl ho hgr (fun g hg => ?_))
  rcases h5 with h5 | h5
  · rw [h5] at hg; exact Or.inl hg
  · rw [h5] at hg; right; have : w.heap.size = g := by simpa using hg
    omega
theorem slice_disk (p : Nat) (w : World) : (Instr.buildSlice 47 1 #[(0, .pointer (some ⟨p, 0, none⟩))]).run Tryz.prog w = .ok (.slice (some ⟨w.heap.size, 0, none⟩) 1 1) (w.alloc (.cells #[.pointer (some ⟨p, 0, none⟩)] 23)) := by kernel_rfl
theorem slice_node (p : Nat) (w : World) : (Instr.buildSlice 48 1 #[(0, .pointer (some ⟨p, 0, none⟩))]).run Tryz.prog w = .ok (.slice (some ⟨w.heap.size, 0, none⟩) 1 1) (w.alloc (.cells #[.pointer (some ⟨p, 0, none⟩)] 24)) := by kernel_rfl
/-- k nodes, the rows of their disks and of themselves. -/
structure NS (K : Nat → Int) (s : ByteArray) (w : World) (k : Nat) (da la : Option Addr) (dc lc : Nat) (X : Nat → NP) (dr : Nat → Nat) (DL : List Value) (wr : World) : Prop where
  bl : Below w.heap.size w wr
  ok : ∀ i, i < k → Nok K [] (dr i) (i : Int) 0 (X i) wr ∧ (X i).z = nv0 (i : Int) 2 s 3
  base : ∀ i, i < k → (∀ g, (X i).own g → w.heap.size ≤ g) ∧ w.heap.size ≤ dr i
  ap : ∀ i j, i < j → j < k → ∀ g, (X i).own g → ¬ (X j).own g
  dd : ∀ i j, i < k → j < k → ¬ (X i).own (dr j)
  rd : wr.ownsRow w.heap.size 23 1 (.slice da k dc) k DL
  rl : wr.ownsRow w.heap.size 24 1 (.slice la k lc) k ((List.range k).map fun i => Value.pointer (some ⟨dr i, 0, none⟩))
  nd : ∀ g, (Value.slice da k dc).ownBlock = some g ∨ (Value.slice la k lc).ownBlock = some g → ∀ i, i < k → ¬ (X i).own g ∧ dr i ≠ g
  dl : ∀ g, (Value.slice da k dc).ownBlock = some g → (Value.slice la k lc).ownBlock ≠ some g
theorem Nok.below {K : Nat → Int} {rs : List Rq} {xn : Nat} {r : Int} {len : Nat} {x : NP} {w w' : World} (h : Nok K rs xn r len x w) (hb : Below w.heap.size w w') : Nok K rs xn r len x w' := h.kept (Kept.fresh (S := fun _ => False) hb) (fun _ _ => id) id id
/-- One node more. -/
theorem NS.more {K : Nat → Int} {s : ByteArray} {w : World} {k : Nat} {da la da' la' : Option Addr} {dc lc dc' lc' : Nat} {X : Nat → NP} {dr : Nat → Nat} {DL : List Value} {wr W2 W4' W4 W5 W6 : World} {x : NP} {xn p : Nat} (h : NS K s w k da la dc lc X dr DL wr) (hb2 : Below wr.heap.size wr W2) (hT : 1 < w.heap.size)
    (hx : Nok K [] xn (k : Int) 0 x W2) (hz : x.z = nv0 (k : Int) 2 s 3) (hxo : ∀ g, x.own g → wr.heap.size ≤ g) (hxn : wr.heap.size ≤ xn) (hxx : ¬ x.own xn)
    (hb3 : Below W2.heap.size W2 W4') (hg4 : W4'.grownBy W4 (Value.slice da k dc).ownBlock) (r4 : W4.ownsRow w.heap.size 23 1 (.slice da' (k + 1) dc') (k + 1) (DL ++ [.pointer (some ⟨p, 0, none⟩)])) (at4 : ∀ g, (Value.slice da' (k + 1) dc').ownBlock = some g → (Value.slice da k dc).ownBlock = some g ∨ W4'.heap.size ≤ g)
    (hb5 : Below W4.heap.size W4 W5) (hg6 : W5.grownBy W6 (Value.slice la k lc).ownBlock) (r6 : W6.ownsRow w.heap.size 24 1 (.slice la' (k + 1) lc') (k + 1) (((List.range k).map fun i => Value.pointer (some ⟨dr i, 0, none⟩)) ++ [.pointer (some ⟨xn, 0, none⟩)])) (at6 : ∀ g, (Value.slice la' (k + 1) lc').ownBlock = some g → (Value.slice la k lc).ownBlock = some g ∨ W5.heap.size ≤ g) :
    NS K s w (k + 1) da' la' dc' lc' (fun i => if i = k then x else X i) (fun i => if i = k then xn else dr i) (DL ++ [.pointer (some ⟨p, 0, none⟩)]) W6 := by
  have s0 := h.bl.size; have s2 := hb2.size; have s3 := hb3.size; have s5 := hb5.size
  have k4 : Kept (fun g => (Value.slice da k dc).ownBlock = some g) W4' W4 := Kept.grown hg4 (fun k e => Or.inl e)
  have k6 : Kept (fun g => (Value.slice la k lc).ownBlock = some g) W5 W6 := Kept.grown hg6 (fun k e => Or.inl e)
  have s4 := k4.size; have s6 := k6.size
  have bd : ∀ g, (Value.slice da k dc).ownBlock = some g → w.heap.size ≤ g ∧ g < wr.heap.size := fun g e => h.rd.lt g e
  have bl : ∀ g, (Value.slice la k lc).ownBlock = some g → w.heap.size ≤ g ∧ g < wr.heap.size := fun g e => h.rl.lt g e
  have xlt : ∀ g, x.own g → g < W2.heap.size := fun g hg => hx.at_.lt g hg
  have olt : ∀ i, i < k → ∀ g, (X i).own g → g < wr.heap.size := fun i hi g hg => (h.ok i hi).1.at_.lt g hg
  have dlt : ∀ i, i < k → dr i < wr.heap.size := fun i hi => (h.ok i hi).1.xl
  have xnl := hx.xl
  have stay : ∀ (y : NP) (yn : Nat) (r : Int), Nok K [] yn r 0 y W2 → (∀ g, y.own g → (Value.slice da k dc).ownBlock ≠ some g ∧ (Value.slice la k lc).ownBlock ≠ some g) → (Value.slice da k dc).ownBlock ≠ some yn ∧ (Value.slice la k lc).ownBlock ≠ some yn → Nok K [] yn r 0 y W6 := fun y yn r hy ho hn =>
    (((hy.below hb3).kept k4 (fun g hg e => (ho g hg).1 e) (fun e => by have := bd _ e; omega) hn.1).below hb5).kept k6 (fun g hg e => (ho g hg).2 e) (fun e => by have := bl _ e; omega) hn.2
  refine ⟨?_, fun i hi => ?_, fun i hi => ?_, fun i j hij hj g => ?_, fun i j hi hj => ?_, ?_, ?_, fun g hg i hi => ?_, fun g e1 e2 => ?_⟩
  · exact (((h.bl.trans (hb2.mono s0)).trans (hb3.mono (by omega))).trans (((Below.refl _ _).grown hg4 (by omega) (fun g e => (bd g e).1)))).trans ((hb5.mono (by omega)).trans ((Below.refl _ _).grown hg6 (by omega) (fun g e => (bl g e).1)))
  · by_cases e : i = k
    · subst e
      simp only [if_pos]
      exact ⟨stay x xn _ hx (fun g hg => ⟨fun e => by have := bd g e; have := hxo g hg; omega, fun e => by have := bl g e; have := hxo g hg; omega⟩) ⟨fun e => by have := bd _ e; omega, fun e => by have := bl _ e; omega⟩, hz⟩
    · simp only [if_neg e]
      have hik : i < k := by omega
      exact ⟨stay (X i) (dr i) _ ((h.ok i hik).1.below hb2) (fun g hg => ⟨fun e => (h.nd g (Or.inl e) i hik).1 hg, fun e => (h.nd g (Or.inr e) i hik).1 hg⟩) ⟨fun e => (h.nd _ (Or.inl e) i hik).2 rfl, fun e => (h.nd _ (Or.inr e) i hik).2 rfl⟩, (h.ok i hik).2⟩
  · by_cases e : i = k
    · simp only [if_pos e]; exact ⟨fun g hg => by have := hxo g hg; omega, by omega⟩
    · simp only [if_neg e]; exact h.base i (by omega)
  · by_cases e : j = k
    · simp only [if_pos e, if_neg (show ¬ i = k by omega)]
      intro hg e2; have := olt i (by omega) g hg; have := hxo g e2; omega
    · simp only [if_neg e, if_neg (show ¬ i = k by omega)]
      exact h.ap i j hij (by omega) g
  · by_cases e : i = k
    · by_cases e2 : j = k
      · simp only [if_pos e, if_pos e2]; exact hxx
      · simp only [if_pos e, if_neg e2]; intro e3; have := hxo _ e3; have := dlt j (by omega); omega
    · by_cases e2 : j = k
      · simp only [if_neg e, if_pos e2]; intro e3; have := olt i (by omega) _ e3; omega
      · simp only [if_neg e, if_neg e2]; exact h.dd i j (by omega) (by omega)
  · refine k6.own (own_below' r4 hb5) (fun g hg e => ?_)
    rcases at4 g hg with e2 | e2
    · exact h.dl g e2 e
    · have := bl g e; omega
  · have : ((List.range (k + 1)).map fun i => Value.pointer (some ⟨if i = k then xn else dr i, 0, none⟩)) = ((List.range k).map fun i => Value.pointer (some ⟨dr i, 0, none⟩)) ++ [.pointer (some ⟨xn, 0, none⟩)] := by
      rw [List.range_succ, List.map_append]
      congr 1
      · apply List.map_congr_left
        intro i hi
        rw [if_neg (by have := List.mem_range.1 hi; omega)]
      · simp
    rw [this]; exact r6
  · have hcase : ((Value.slice da k dc).ownBlock = some g ∨ (Value.slice la k lc).ownBlock = some g) ∨ W4'.heap.size ≤ g := by
      rcases hg with hg | hg
      · rcases at4 g hg with e | e
        · exact Or.inl (Or.inl e)
        · exact Or.inr e
      · rcases at6 g hg with e | e
        · exact Or.inl (Or.inr e)
        · right; omega
    have hglt : ∀ g, (Value.slice da k dc).ownBlock = some g ∨ (Value.slice la k lc).ownBlock = some g → g < wr.heap.size := fun g e => by
      rcases e with e | e
      · exact (bd g e).2
      · exact (bl g e).2
    by_cases e : i = k
    · simp only [if_pos e]
      rcases hcase with e2 | e2
      · have := hglt g e2
        exact ⟨fun e3 => by have := hxo g e3; omega, by omega⟩
      · exact ⟨fun e3 => by have := xlt g e3; omega, by omega⟩
    · simp only [if_neg e]
      rcases hcase with e2 | e2
      · exact h.nd g e2 i (by omega)
      · exact ⟨fun e3 => by have := olt i (by omega) g e3; omega, by have := dlt i (by omega); omega⟩
  · rcases at4 g e1 with e | e
    · rcases at6 g e2 with e3 | e3
      · exact h.dl g e e3
      · have := bd g e; omega
    · rcases at6 g e2 with e3 | e3
      · have := bl g e3; omega
      · have := (r4.lt g e1).2; omega
end Go.Proofs.YteglimjonofdeaaGreatDoor
set_option linter.unusedVariables false
set_option linter.unusedSimpArgs false
namespace Go.Proofs.YteglimjonofdeaaGreatDoor
open Go.RowKit

/-- A chain that has done nothing yet. -/
def ps0 : PS := ⟨0, 0, 0, 0, 0, false, false, []⟩
theorem NS.chain {K : Nat → Int} {s : ByteArray} {w : World} {da la : Option Addr} {dc lc : Nat} {X : Nat → NP} {dr : Nat → Nat} {DL : List Value} {wr : World} (h : NS K s w 3 da la dc lc X dr DL wr) : Cst K [] dr ps0 (cOwn (X 0) (X 1) (X 2)) wr := by
  have h0 := h.ok 0 (by omega); have h1 := h.ok 1 (by omega); have h2 := h.ok 2 (by omega)
  refine ⟨rfl, X 0, X 1, X 2, ⟨h0.1, h1.1, h2.1, by rw [h0.2]; rfl, by rw [h1.2]; rfl, by rw [h1.2]; rfl, by rw [h2.2]; rfl, h.ap 0 1 (by omega) (by omega), h.ap 0 2 (by omega) (by omega), h.ap 1 2 (by omega) (by omega), fun k hk => ⟨h.dd 0 k (by omega) hk, h.dd 1 k (by omega) hk, h.dd 2 k (by omega) hk⟩, fun k hk => (h.ok k hk).1.xl⟩, fun _ => Iff.rfl⟩
/-- What nodes leaves. -/
def nodesPost (K : Nat → Int) (w : World) (e : Ending) (w' : World) : Prop :=
  ∃ dv lb lcap dr O, e = .returned (.tuple #[dv, .slice (some ⟨lb, 0, none⟩) 3 lcap]) ∧ Cst K [] dr ps0 O w' ∧ w'.rangeAt lb 0 [.pointer (some ⟨dr 0, 0, none⟩), .pointer (some ⟨dr 1, 0, none⟩), .pointer (some ⟨dr 2, 0, none⟩)] ∧ lb < w'.heap.size ∧ ¬ O lb ∧ w.heap.size ≤ lb ∧ (∀ g, O g → w.heap.size ≤ g) ∧ (∀ j, j < 3 → dr j < w'.heap.size) ∧ Below w.heap.size w w'
theorem NS.post {K : Nat → Int} {s : ByteArray} {w : World} {da la : Option Addr} {dc lc : Nat} {X : Nat → NP} {dr : Nat → Nat} {DL : List Value} {wr : World} (h : NS K s w 3 da la dc lc X dr DL wr) (dv : Value) : nodesPost K w (.returned (.tuple #[dv, .slice la 3 lc])) wr := by
  rcases h.rl.2 with ⟨e, e2⟩ | ⟨g, cap, cur, e, hg, hb, hc, hc2, hs, hx⟩
  · omega
  · injection e with e1 e2 e3
    subst e1 e3
    have own : (Value.slice (some ⟨g, 0, none⟩) 3 lc).ownBlock = some g := rfl
    refine ⟨dv, g, lc, dr, cOwn (X 0) (X 1) (X 2), rfl, h.chain, fun j u hu => ?_, block_lt hb, fun e => ?_, hg, fun g' hg' => ?_, fun j hj => (h.ok j hj).1.xl, h.bl⟩
    · have hj : j < 3 := (List.getElem?_eq_some_iff.1 hu).1
      rw [cell_of_row wr g (0 + j) _ _ _ hb]
      have : ((List.range 3).map fun i => Value.pointer (some ⟨dr i, 0, none⟩))[j]? = some u := by
        obtain rfl | rfl | rfl : j = 0 ∨ j = 1 ∨ j = 2 := by omega
        all_goals exact hu
      rw [← hx, List.getElem?_take_of_lt (by omega)] at this
      simpa using this
    · rcases e with e | e | e
      · exact (h.nd g (Or.inr own) 0 (by omega)).1 e
      · exact (h.nd g (Or.inr own) 1 (by omega)).1 e
      · exact (h.nd g (Or.inr own) 2 (by omega)).1 e
    · rcases hg' with e | e | e
      · exact (h.base 0 (by omega)).1 g' e
      · exact (h.base 1 (by omega)).1 g' e
      · exact (h.base 2 (by omega)).1 g' e
theorem ptr_one (p : Nat) : (Value.pointer (some ⟨p, 0, none⟩)).oneCell' = true := rfl

set_option maxRecDepth 10000 in
set_option maxHeartbeats 4000000 in
theorem nodes_any (K : Nat → Int) (s : ByteArray) (w : World) (hs : s.size = 32) (T : Tab K w) (hno : z128.take 32 ≠ (packN K (sumOf K (sumOf K origT ++ stampT K zeroC 250)) ⟨#[]⟩).take 32) :
    Calls Tryz.prog 12 #[.string s] w (nodesPost K w) := by
  have HT : Hid (Tab K w) := T
  have HNO : Hid (z128.take 32 ≠ (packN K (sumOf K (sumOf K origT ++ stampT K zeroC 250)) ⟨#[]⟩).take 32) := hno
  have HS0 : Hid (∃ X dr DL, NS K s w 0 none none 0 0 X dr DL w) := ⟨fun _ => ⟨nv0 0 0 ⟨#[]⟩ 0, 0, 0, 0, 0, 0, fun _ => [], ⟨#[]⟩, 0, 0, 0, 0, .slice none 0 0, [], fun _ => False, fun _ => False, .map []⟩, fun _ => 0, [], ⟨Below.refl _ _, fun i hi => absurd hi (by omega), fun i hi => absurd hi (by omega), fun i j hi hj => absurd hj (by omega), fun i j hi => absurd hi (by omega), ⟨rfl, Or.inl ⟨rfl, rfl⟩⟩, ⟨rfl, Or.inl ⟨rfl, rfl⟩⟩, fun g hg i hi => absurd hi (by omega), fun g hg => by cases hg⟩⟩
  have hpd := ptrT_disk
  have hpn := ptrT_node
  clear T hno
  go_enter Tryz.func12, Tryz.ntmps12
  go_wp2_with fail
  go_loopw [4, 5, 6] (fun d l iv wr => ∃ (k : Nat) (da la : Option Addr) (dc lc : Nat), d = .slice da k dc ∧ l = .slice la k lc ∧ iv = .int .i64 (k : Nat) ∧ k ≤ 3 ∧ Hid (∃ X dr DL, NS K s w k da la dc lc X dr DL wr)) (fun _ _ iv _ => 3 - (intOf iv).toNat)
  case atStart => exact ⟨0, none, none, 0, 0, rfl, rfl, rfl, by omega, HS0⟩
  case round =>
    obtain ⟨k, da, la, dc, lc, rfl, rfl, rfl, hk3, hR⟩ := hrel
    obtain ⟨X, dr, DL, hN⟩ := hR.out
    by_cases hlt : k < 3
    · have t1 : (k : Int) < 3 := by omega
      have t0 : (0 : Int) ≤ (k : Int) := by omega
      have HN : Hid (NS K s w k da la dc lc X dr DL wr) := hN
      have hmd := made_any K 250 wr (by omega) (by omega) (HT.out.below hN.bl)
      have HLT : Hid (k < 3) := hlt
      clear hN hR hlt
      go_wp2_with fail
      refine hmd.mono ?_
      rintro e W1 ⟨p, bb, rfl, hp, hbb, hd, b1⟩
      have hTl := HT.out.lt
      have s0 := HN.out.bl.size
      have s1 := b1.size
      have hop := popen_any K (k : Nat) 2 3 p bb 250 _ s W1 (aopen_any K (k : Nat) 2 3 p bb 250 _ (stampT K zeroC 250) s W1 t0 (by omega) (by omega) (by omega) (by omega) (by omega) (by omega) (stamp_size _ _ _) hs hd ((HT.out.below HN.out.bl).below b1) (by omega) (by omega) rfl rfl HNO.out)
      have HB1 : Hid (Below wr.heap.size wr W1) := b1
      generalize fmtC (packN K (sumOf K origT) (stampT K zeroC 250)) = C at hop
      clear hmd hd b1
      go_wp2_with fail
      refine hop.mono ?_
      rintro e W2 ⟨xn, nd, bk, j, lm, m, l, rfl, a2, ⟨g1, g2, g3, g4, g5⟩, k2, x2, xl2, xw2, xo2⟩
      have s2 := k2.size
      have b2 : Below wr.heap.size wr W2 := HB1.out.trans (k2.toBelow s1 (fun g hg => by omega))
      obtain ⟨x, hx⟩ : ∃ x : NP, x = ⟨nv0 (k : Nat) 2 s 3, nd, p, bb, j, 1, C, l, bk, lm, m, 0, .slice none 0 0, [], fun g => g = m, fun _ => False, .map []⟩ := ⟨_, rfl⟩
      have hok : Nok K [] xn (k : Nat) 0 x W2 := by rw [hx]; exact ⟨a2, x2, xl2, rfl, rfl, rfl, rfl, ⟨rfl, Or.inl ⟨rfl, rfl⟩⟩, rfl, rfl⟩
      have hxo : ∀ g, x.own g → wr.heap.size ≤ g := fun g hg => by
        rw [hx] at hg
        rcases hg with (h | h) | h
        · rcases h with h | h | h
          · have : g = p := h; omega
          · have : g = bb := h; omega
          · have : g = j := h; omega
        · rcases h with h | h | h | h
          · have : g = bk := h; omega
          · have : g = lm := h; omega
          · have : g = m := h; omega
          · cases h
        · have : g = nd := h; omega
      have hxnd : xn ≠ nd := fun e => by
        have h1 := a2.node 0 _ rfl
        rw [Nat.add_zero, ← e, x2] at h1
        cases h1
      have hxx : ¬ x.own xn := fun e => by
        rw [hx] at e
        rcases e with e | e
        · exact xo2 e
        · exact hxnd e
      have hz : x.z = nv0 (k : Nat) 2 s 3 := by rw [hx]
      have HX : Hid (Below wr.heap.size wr W2 ∧ Nok K [] xn (k : Nat) 0 x W2 ∧ x.z = nv0 (k : Nat) 2 s 3 ∧ (∀ g, x.own g → wr.heap.size ≤ g) ∧ wr.heap.size ≤ xn ∧ ¬ x.own xn) := ⟨b2, hok, hz, hxo, by omega, hxx⟩
      obtain ⟨W3, h3⟩ : ∃ X, X = W2.alloc (.cells #[.pointer (some ⟨p, 0, none⟩)] 23) := ⟨_, rfl⟩
      have b3 : Below W2.heap.size W2 W3 := by rw [h3]; exact (Below.refl _ _).alloc (Nat.le_refl _) _
      have s3 : W3.heap.size = W2.heap.size + 1 := by rw [h3]; simp
      have c3 : W3.cell? ⟨W2.heap.size, 0, none⟩ = some (.pointer (some ⟨p, 0, none⟩)) := by rw [h3, World.cell?_alloc_at _ _ _ _ rfl]; rfl
      have rd3 := own_below' (own_below' HN.out.rd b2) b3
      have HB3 : Hid (Below W2.heap.size W2 W3) := b3
      have hsd := slice_disk p
      have hsn := slice_node xn
      have hpo := ptr_one p
      have hxo1 := ptr_one xn
      clear hop a2 k2 x2 xo2 hok hxo hxx hz hx b2 b3 hxnd
      go_wp2_with (first
        | (rw [← h3]; clear h3)
        | (refine wpList_append_ptr rfl _ _ 47 23 Tryz.underlying47 hpd rfl w.heap.size _ k DL rfl rd3 W2.heap.size 1 _ rfl c3 hpo (by omega) (by omega) ?_
           intro da4 m4 dc4 W4 hm4 rd4 g4 at4
           have hm4' : m4 = k + 1 := hm4
           have sz4 := g4.size
           obtain ⟨W5, h5⟩ : ∃ X, X = W4.alloc (.cells #[.pointer (some ⟨xn, 0, none⟩)] 24) := ⟨_, rfl⟩
           have b5 : Below W4.heap.size W4 W5 := (by rw [h5]; exact (Below.refl _ _).alloc (Nat.le_refl _) _)
           have s5 : W5.heap.size = W4.heap.size + 1 := (by rw [h5]; simp)
           have c5 : W5.cell? ⟨W4.heap.size, 0, none⟩ = some (.pointer (some ⟨xn, 0, none⟩)) := (by rw [h5, World.cell?_alloc_at _ _ _ _ rfl]; rfl)
           have kd : Kept (fun g => (Value.slice da k dc).ownBlock = some g) W3 W4 := Kept.grown g4 (fun k e => Or.inl e)
           have rl5 := own_below' (kd.own (own_below' (own_below' HN.out.rl HX.out.1) HB3.out) (fun g hg e => HN.out.dl g e hg)) b5
           have HD4 : Hid (m4 = k + 1 ∧ W4.ownsRow w.heap.size 23 1 (.slice da4 m4 dc4) m4 (DL ++ [.pointer (some ⟨p, 0, none⟩)]) ∧ W3.grownBy W4 (Value.slice da k dc).ownBlock ∧ (∀ g, (Value.slice da4 m4 dc4).ownBlock = some g → (Value.slice da k dc).ownBlock = some g ∨ W3.heap.size ≤ g) ∧ Below W4.heap.size W4 W5) := ⟨hm4', rd4, g4, at4, b5⟩
           clear hm4 hm4' rd4 g4 at4 kd rd3 c3 b5)
        | (rw [← h5]; clear h5)
        | (refine wpList_append_ptr rfl _ _ 48 24 Tryz.underlying48 hpn rfl w.heap.size _ k _ rfl rl5 W4.heap.size 1 _ rfl c5 hxo1 (by omega) (by omega) ?_
           intro la6 m6 lc6 W6 hm6 rl6 g6 at6
           have hm6' : m6 = k + 1 := hm6
           have HD6 : Hid (m6 = k + 1 ∧ W6.ownsRow w.heap.size 24 1 (.slice la6 m6 lc6) m6 (((List.range k).map fun i => Value.pointer (some ⟨dr i, 0, none⟩)) ++ [.pointer (some ⟨xn, 0, none⟩)]) ∧ W5.grownBy W6 (Value.slice la k lc).ownBlock ∧ (∀ g, (Value.slice la6 m6 lc6).ownBlock = some g → (Value.slice la k lc).ownBlock = some g ∨ W5.heap.size ≤ g)) := ⟨hm6', rl6, g6, at6⟩
           clear hm6 hm6' rl6 g6 at6 rl5 c5))
      obtain ⟨e4, q1, q2, q3, q4⟩ := HD4.out
      obtain ⟨e6, p1, p2, p3⟩ := HD6.out
      have hk := HLT.out
      subst e4 e6
      refine ⟨⟨k + 1, da4, la6, dc4, lc6, rfl, rfl, by first | rfl | (congr 1), by omega, ⟨_, _, _, HN.out.more HX.out.1 hTl HX.out.2.1 HX.out.2.2.1 HX.out.2.2.2.1 HX.out.2.2.2.2.1 HX.out.2.2.2.2.2 HB3.out q2 q1 q3 q4 p2 p1 p3⟩⟩, ?_⟩
      simp [intOf]; omega
    · obtain rfl : k = 3 := by omega
      have HE : Hid (nodesPost K w (.returned (.tuple #[.slice da 3 dc, .slice la 3 lc])) wr) := hN.post _
      clear hN hR
      go_wp2_with fail
      go_ret2
      exact HE.out
end Go.Proofs.YteglimjonofdeaaGreatDoor
