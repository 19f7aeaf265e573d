import Derived.Test.YteglimjonofdeaaGreatDoorPDecM
import Derived.Test.YteglimjonofdeaaGreatDoorPModelM
import Derived.Laws.OwnMore
set_option linter.unusedVariables false
set_option linter.unusedSimpArgs false
namespace Go.Proofs.YteglimjonofdeaaGreatDoor
open Go.RowKit

/-- A request. -/
structure Rq where
  (c n o p v : Int)
  t : ByteArray
def Rq.whole (r : Rq) : Prop := rqWhole r.c r.n r.o r.p r.v r.t = true
def Rq.fw (r : Rq) (m : Int) : ByteArray := fwT m r.c r.n r.o r.p r.v r.t
/-- A packet as it goes to an address: what it is by its number, with the requests rs of the log. -/
def PkAt (rs : List Rq) : Pk → Int → ByteArray → Prop
  | .F1 n, ad, b => ad = 1 ∧ 1 ≤ n ∧ ∃ r, rs[n - 1]? = some r ∧ r.whole ∧ b = r.fw (n : Nat)
  | .F2 n, ad, b => ad = 2 ∧ 1 ≤ n ∧ ∃ r, rs[n - 1]? = some r ∧ r.whole ∧ b = r.fw (n : Nat)
  | .K0 n, ad, b => ad = 0 ∧ b = mkT 75 (n : Nat) ⟨#[]⟩
  | .K1 n, ad, b => ad = 1 ∧ b = mkT 75 (n : Nat) ⟨#[]⟩
  | .Q0 n, ad, b => ad = 0 ∧ b = mkT 81 (n : Nat) ⟨#[]⟩
  | .Q1 n, ad, b => ad = 1 ∧ b = mkT 81 (n : Nat) ⟨#[]⟩
  | .A n, ad, b => ad = 11 ∧ 5 ≤ b.size ∧ b.size ≤ 1000 ∧ ∀ x, x < 4 → bAt b (1 + x) = (fourN (n : Nat)).getD x 0
theorem PkAt.more {rs : List Rq} {p : Pk} {ad : Int} {b : ByteArray} (h : PkAt rs p ad b) (r : Rq) : PkAt (rs ++ [r]) p ad b := by
  have up : ∀ (n : Nat) (x : Rq), rs[n]? = some x → (rs ++ [r])[n]? = some x := fun n x hx => by
    rw [List.getElem?_append_left (List.getElem?_eq_some_iff.1 hx).1]; exact hx
  cases p with
  | F1 n => obtain ⟨h1, h2, x, h3, h4, h5⟩ := h; exact ⟨h1, h2, x, up _ _ h3, h4, h5⟩
  | F2 n => obtain ⟨h1, h2, x, h3, h4, h5⟩ := h; exact ⟨h1, h2, x, up _ _ h3, h4, h5⟩
  | K0 n => exact h
  | K1 n => exact h
  | Q0 n => exact h
  | Q1 n => exact h
  | A n => exact h
/-- The cells of packets. -/
def wayC (L : List (Int × ByteArray)) : List Value := L.flatMap fun x => [.int .i64 x.1, .string x.2]
theorem wayC_app (L M : List (Int × ByteArray)) : wayC (L ++ M) = wayC L ++ wayC M := List.flatMap_append
theorem wayC_len : ∀ L : List (Int × ByteArray), (wayC L).length = L.length * 2
  | [] => rfl
  | x :: L => by
    have := wayC_len L
    unfold wayC at this ⊢
    rw [List.flatMap_cons, List.length_append, this, List.length_cons]; simp; omega
theorem wayC_get : ∀ (L : List (Int × ByteArray)) (i : Nat) (x : Int × ByteArray), L[i]? = some x → (wayC L)[i * 2]? = some (.int .i64 x.1) ∧ (wayC L)[i * 2 + 1]? = some (.string x.2)
  | y :: L, 0, x, h => by
    obtain rfl : y = x := by simpa using h
    unfold wayC
    rw [List.flatMap_cons]; exact ⟨rfl, rfl⟩
  | y :: L, i + 1, x, h => by
    have := wayC_get L i x (by simpa using h)
    unfold wayC at this ⊢
    rw [List.flatMap_cons, List.getElem?_append_right (by simp; omega), List.getElem?_append_right (by simp; omega)]
    rw [show (i + 1) * 2 - [Value.int .i64 y.1, .string y.2].length = i * 2 by simp; omega, show (i + 1) * 2 + 1 - [Value.int .i64 y.1, .string y.2].length = i * 2 + 1 by simp; omega]
    exact this
theorem wayC_one (L : List (Int × ByteArray)) : ∀ u ∈ wayC L, u.oneCell' = true := by
  intro u hu
  unfold wayC at hu
  obtain ⟨x, _, h⟩ := List.mem_flatMap.1 hu
  simp at h
  rcases h with rfl | rfl <;> rfl
/-- A row of packets, what it holds by numbers. -/
def Match (rs : List Rq) (J : List Pk) (L : List (Int × ByteArray)) : Prop := J.length = L.length ∧ ∀ (i : Nat) (p : Pk) (x : Int × ByteArray), J[i]? = some p → L[i]? = some x → PkAt rs p x.1 x.2
theorem Match.nil (rs : List Rq) : Match rs [] [] := ⟨rfl, fun i p x h => by simp at h⟩
theorem Match.app {rs : List Rq} {J J' : List Pk} {L L' : List (Int × ByteArray)} (h : Match rs J L) (h' : Match rs J' L') : Match rs (J ++ J') (L ++ L') := by
  refine ⟨by rw [List.length_append, List.length_append, h.1, h'.1], fun i p x hp hx => ?_⟩
  by_cases e : i < J.length
  · rw [List.getElem?_append_left e] at hp
    rw [List.getElem?_append_left (by rw [← h.1]; exact e)] at hx
    exact h.2 i p x hp hx
  · rw [List.getElem?_append_right (by omega)] at hp
    rw [List.getElem?_append_right (by rw [← h.1]; omega), ← h.1] at hx
    exact h'.2 _ p x hp hx
theorem Match.more {rs : List Rq} {J : List Pk} {L : List (Int × ByteArray)} (h : Match rs J L) (r : Rq) : Match (rs ++ [r]) J L := ⟨h.1, fun i p x hp hx => (h.2 i p x hp hx).more r⟩
/-- A slice of packets that came out of a call: none, or a row somewhere. -/
def OutAt (w : World) (v : Value) (L : List (Int × ByteArray)) : Prop := (v = .slice none 0 0 ∧ L = []) ∨ ∃ g cap, v = .slice (some ⟨g, 0, none⟩) L.length cap ∧ g < w.heap.size ∧ w.rangeAt g 0 (wayC L)
theorem OutAt.of_own {w : World} {B : Nat} {v : Value} {L : List (Int × ByteArray)} (h : w.ownsRow B 44 2 v L.length (wayC L)) : OutAt w v L := by
  rcases h.2 with ⟨e1, e2⟩ | ⟨g, cap, cur, e1, _, hb, hc, hc2, hs, hx⟩
  · exact Or.inl ⟨e1, List.eq_nil_of_length_eq_zero e2⟩
  · refine Or.inr ⟨g, cap, e1, block_lt hb, fun j u hu => ?_⟩
    have hl := wayC_len L
    have hj : j < (wayC L).length := (List.getElem?_eq_some_iff.1 hu).1
    rw [cell_of_row w g (0 + j) _ _ _ hb]
    rw [← hx, List.getElem?_take_of_lt (by omega)] at hu
    simpa using hu
theorem OutAt.one {w : World} {g cap : Nat} {ad : Int} {b : ByteArray} (hg : g < w.heap.size) (h : w.rangeAt g 0 [.int .i64 ad, .string b]) : OutAt w (.slice (some ⟨g, 0, none⟩) 1 cap) [(ad, b)] := Or.inr ⟨g, cap, rfl, hg, h⟩
theorem OutAt.kept {w w' : World} {v : Value} {L : List (Int × ByteArray)} (h : OutAt w v L) (hb : Below w.heap.size w w') : OutAt w' v L := by
  rcases h with h | ⟨g, cap, h1, h2, h3⟩
  · exact Or.inl h
  · exact Or.inr ⟨g, cap, h1, Nat.lt_of_lt_of_le h2 hb.size, fun j u hu => (hb.cell (p := ⟨g, 0 + j, none⟩) h2).trans (h3 j u hu)⟩
theorem OutAt.form {w : World} {v : Value} {L : List (Int × ByteArray)} (h : OutAt w v L) : ∃ ao cap, v = .slice ao L.length cap := by
  rcases h with ⟨rfl, rfl⟩ | ⟨g, cap, h1, _⟩
  · exact ⟨none, 0, rfl⟩
  · exact ⟨_, cap, h1⟩
theorem info_pk24 : ∃ i, Tryz.prog.info? 44 = some i ∧ i.zero = some (.agg #[.int .i64 0, .string ⟨#[]⟩]) ∧ i.size = 2 ∧ i.bytes = 24 := by
  obtain ⟨i, hi⟩ : ∃ i, Tryz.prog.info? 44 = some i := Option.isSome_iff_exists.1 (by kernel_rfl)
  refine ⟨i, hi, ?_, ?_, ?_⟩
  · have : (Tryz.prog.info? 44).bind (·.zero) = some (.agg #[.int .i64 0, .string ⟨#[]⟩]) := by kernel_rfl
    rw [hi] at this; exact this
  · have : (Tryz.prog.info? 44).map (·.size) = some 2 := by kernel_rfl
    rw [hi] at this; exact Option.some.inj this
  · have : (Tryz.prog.info? 44).map (·.bytes) = some 24 := by kernel_rfl
    rw [hi] at this; exact Option.some.inj this
/-- 'append(v, y...)' of packets: v of the call's own; at the operation. -/
theorem wp_append_pks {o : Oper} {a : Act} {w : World} {C : Act → World → Prop} {Q : Exit → Act → World → Prop} (s x : Operand)
    (hop : o.op = Op.call { callee := Callee.builtin Builtin.append, args := #[s, x], argTypes := #[33, 33] })
    (base : Nat) (v : Value) (M : List (Int × ByteArray)) (hs : a.eval s = v) (hown : w.ownsRow base 44 2 v M.length (wayC M)) (y : Value) (L : List (Int × ByteArray)) (hx : a.eval x = y) (hy : OutAt w y L)
    (hbd : M.length + L.length ≤ 10000000) (hbase : base ≤ w.heap.size)
    (hK : ∀ ao m cap' w', Hid (m = M.length + L.length) → w'.ownsRow base 44 2 (.slice ao m cap') (M ++ L).length (wayC (M ++ L)) → w.grownBy w' v.ownBlock → C (a.put o.dst (.slice ao m cap')) w') :
    o.wp Tryz.prog a w C Q := by
  obtain ⟨i, hi, hz, hsz, hby⟩ := info_pk24
  have form : ∀ {w : World} {v : Value} {n : Nat} {xs : List Value}, w.ownsRow base 44 2 v n xs → ∃ ao cap, v = .slice ao n cap := fun {w v n xs} h => by
    rcases h.2 with ⟨rfl, rfl⟩ | ⟨g, cap, cur, rfl, _⟩
    · exact ⟨none, 0, rfl⟩
    · exact ⟨_, cap, rfl⟩
  rw [List.length_append] at hK
  rcases hy with ⟨rfl, rfl⟩ | ⟨g, cap, rfl, hg, hr0⟩
  · have hr := run_append_owned_none (P := Tryz.prog) w base 33 o.type 44 i 2 Tryz.underlying33 hi v M.length (wayC M) hown
    unfold Oper.wp
    simp [execOp, hop, resolve, invoke, builtin, hs, hx, hr, Result.andThen]
    obtain ⟨ao, cp, rfl⟩ := form hown
    exact hK ao M.length cp w (by show M.length = M.length + 0; rfl) (by simpa using hown) ⟨rfl, rfl, rfl, Nat.le_refl _, fun _ _ _ => rfl⟩
  · have hnews : ∀ j u, (wayC L)[j]? = some u → w.cell? ((⟨g, 0, none⟩ : Addr).add j) = some u := fun j u hu => by have := hr0 j u hu; rw [Nat.zero_add] at this; by_cases e : j = 0 <;> simp [Addr.add, e] at this ⊢ <;> exact this
    obtain ⟨v', w', hr, ho, hgr, _⟩ := run_append_own (P := Tryz.prog) w base 33 o.type 44 i _ 2 24 Tryz.underlying33 hi hz hsz hby rfl (by decide) v M.length (wayC M) hown ⟨g, 0, none⟩ L.length cap (wayC L) (wayC_len L) hnews (wayC_one L) (by unfold maxLen; omega) (by omega) hbase
    unfold Oper.wp
    simp [execOp, hop, resolve, invoke, builtin, hs, hx, hr, Result.andThen]
    obtain ⟨ao, cp, rfl⟩ := form ho
    exact hK ao _ cp w' rfl (by rw [wayC_app]; exact ho) hgr
theorem wpList_append_pks {ops : Array Oper} {rest : List Oper} {o : Oper} {a : Act} {w : World} {Q : Exit → Act → World → Prop} (hg : o.guard = none) (s x : Operand)
    (hop : o.op = Op.call { callee := Callee.builtin Builtin.append, args := #[s, x], argTypes := #[33, 33] })
    (base : Nat) (v : Value) (M : List (Int × ByteArray)) (hs : a.eval s = v) (hown : w.ownsRow base 44 2 v M.length (wayC M)) (y : Value) (L : List (Int × ByteArray)) (hx : a.eval x = y) (hy : OutAt w y L)
    (hbd : M.length + L.length ≤ 10000000) (hbase : base ≤ w.heap.size)
    (hK : ∀ ao m cap' w', Hid (m = M.length + L.length) → w'.ownsRow base 44 2 (.slice ao m cap') (M ++ L).length (wayC (M ++ L)) → w.grownBy w' v.ownBlock → wpList Tryz.prog ops Q rest (a.put o.dst (.slice ao m cap')) w') :
    wpList Tryz.prog ops Q (o :: rest) a w :=
  wpList_plain hg fun _ hK' => wp_append_pks s x hop base v M hs hown y L hx hy hbd hbase fun ao m cap' w' h1 h2 h3 => hK' _ _ (hK ao m cap' w' h1 h2 h3)
/-- Packet i of a row that is owned. -/
theorem way_get {w : World} {base : Nat} {v : Value} {L : List (Int × ByteArray)} (h : w.ownsRow base 44 2 v L.length (wayC L)) (i : Nat) (x : Int × ByteArray) (hi : L[i]? = some x) :
    ∃ g cap, v = .slice (some ⟨g, 0, none⟩) L.length cap ∧ base ≤ g ∧ g < w.heap.size ∧ w.rangeAt g (i * 2) [.int .i64 x.1, .string x.2] := by
  have hlt : i < L.length := (List.getElem?_eq_some_iff.1 hi).1
  rcases h.2 with ⟨_, e2⟩ | ⟨g, cap, cur, e1, hbg, hb, hc, hc2, hs, hx⟩
  · omega
  · obtain ⟨w0, w1⟩ := wayC_get L i x hi
    refine ⟨g, cap, e1, hbg, block_lt hb, fun y u hu => ?_⟩
    have hy : y < 2 := (List.getElem?_eq_some_iff.1 hu).1
    rw [cell_of_row w g (i * 2 + y) _ _ _ hb]
    have : (wayC L)[i * 2 + y]? = some u := by
      obtain rfl | rfl : y = 0 ∨ y = 1 := by omega
      · rw [Nat.add_zero, w0]; exact hu
      · rw [w1]; exact hu
    rw [← hx, List.getElem?_take_of_lt (by omega)] at this
    simpa using this
/-- The list that is delivered: each packet as often as is told. -/
def sched : List Pk → List Nat → List Pk
  | p :: ps, n :: ns => List.replicate n p ++ sched ps ns
  | _, _ => []
theorem sched_mem : ∀ (ps : List Pk) (ns : List Nat) (p : Pk), p ∈ sched ps ns → p ∈ ps
  | p :: ps, n :: ns, q, h => by
    simp only [sched, List.mem_append] at h
    rcases h with h | h
    · rw [List.eq_of_mem_replicate h]; exact List.mem_cons_self ..
    · exact List.mem_cons_of_mem _ (sched_mem ps ns q h)
  | [], _, q, h => by simp [sched] at h
  | _ :: _, [], q, h => by simp [sched] at h
theorem sched_ones : ∀ (ps : List Pk) (ns : List Nat), ns.length = ps.length → (∀ n ∈ ns, n = 1) → sched ps ns = ps
  | [], [], _, _ => rfl
  | p :: ps, n :: ns, h, h1 => by
    obtain rfl := h1 n (List.mem_cons_self ..)
    simp only [sched]
    rw [sched_ones ps ns (by simpa using h) (fun m hm => h1 m (List.mem_cons_of_mem _ hm))]
    rfl
theorem deliver_app : ∀ (ps qs : List Pk) (s : PS), deliver s (ps ++ qs) = ((deliver (deliver s ps).1 qs).1, (deliver s ps).2 ++ (deliver (deliver s ps).1 qs).2)
  | [], qs, s => by simp [deliver]
  | p :: ps, qs, s => by
    have := deliver_app ps qs (recv s p).1
    simp only [List.cons_append, deliver, this, List.append_assoc]
end Go.Proofs.YteglimjonofdeaaGreatDoor
