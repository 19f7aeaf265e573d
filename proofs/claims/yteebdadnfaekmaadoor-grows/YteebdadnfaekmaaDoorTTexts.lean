import Derived.Test.YteebdadnfaekmaaDoorTCom
import Derived.Laws.OwnMore
set_option linter.unusedVariables false
set_option linter.unusedSimpArgs false
namespace Go.Proofs.YteebdadnfaekmaaDoor
open Go.RowKit

/-- A row of texts that a call has made is a list of texts. -/
theorem leaf_own {w : World} {B : Nat} {v : Value} {L : List ByteArray} (h : w.ownsRow B 9 1 v L.length (L.map .string)) : LeafAt w v L := by
  rcases h.2 with ⟨rfl, h0⟩ | ⟨g, cap, cur, rfl, _, _, hc, _⟩
  · exact Or.inl ⟨List.eq_nil_of_length_eq_zero h0, none, 0, rfl⟩
  · refine Or.inr ⟨g, 0, cap, rfl, hc, fun j hj => ?_⟩
    rw [Nat.zero_add, h.cellAt j (by omega), List.getElem?_map, List.getElem?_eq_getElem hj]; rfl

/-- 'append(v, y...)' of texts: v of the call's own; at the operation. -/
theorem wp_append_texts {o : Oper} {a : Act} {w : World} {C : Act → World → Prop} {Q : Exit → Act → World → Prop} (s x : Operand)
    (hop : o.op = Op.call { callee := Callee.builtin Builtin.append, args := #[s, x], argTypes := #[37, 37] })
    (base : Nat) (v : Value) (n : Nat) (xs : List Value) (hs : a.eval s = v) (hown : w.ownsRow base 9 1 v n xs) (y : Value) (L : List ByteArray) (hx : a.eval x = y) (B2 : Nat) (hy : w.ownsRow B2 9 1 y L.length (L.map .string))
    (hbd : n + L.length ≤ 10000000) (hbase : base ≤ w.heap.size)
    (hK : ∀ ao m cap' w', Hid (m = n + L.length) → w'.ownsRow base 9 1 (.slice ao m cap') m (xs ++ L.map .string) → w.grownBy w' v.ownBlock → C (a.put o.dst (.slice ao m cap')) w') :
    o.wp Tryd.prog a w C Q := by
  obtain ⟨i, hi, hz, hsz, hby⟩ := info_strT
  have form : ∀ {w : World} {v : Value} {n : Nat} {xs : List Value}, w.ownsRow base 9 1 v n xs → ∃ ao cap, v = .slice ao n cap := fun {w v n xs} h => by
    rcases h.2 with ⟨rfl, rfl⟩ | ⟨g, cap, cur, rfl, _⟩
    · exact ⟨none, 0, rfl⟩
    · exact ⟨_, cap, rfl⟩
  rcases hy.2 with ⟨rfl, h0⟩ | ⟨g, cap, cur, rfl, _⟩
  · obtain rfl := List.eq_nil_of_length_eq_zero h0
    have hr := run_append_owned_none (P := Tryd.prog) w base 37 o.type 9 i 1 Tryd.underlying37 hi v n xs hown
    unfold Oper.wp
    simp [execOp, hop, resolve, invoke, builtin, hs, hx, hr, Result.andThen]
    obtain ⟨ao, cp, rfl⟩ := form hown
    exact hK ao n cp w (by show n = n + 0; rfl) (by simpa using hown) ⟨rfl, rfl, rfl, Nat.le_refl _, fun _ _ _ => rfl⟩
  · have hnews : ∀ j u, (L.map Value.string)[j]? = some u → w.cell? ((⟨g, 0, none⟩ : Addr).add j) = some u := hy.cells rfl
    obtain ⟨v', w', hr, ho, hgr, _⟩ := run_append_own (P := Tryd.prog) w base 37 o.type 9 i _ 1 16 Tryd.underlying37 hi hz hsz hby rfl (by decide) v n xs hown ⟨g, 0, none⟩ L.length cap (L.map .string) (by simp) hnews (by intro u hu; simp at hu; obtain ⟨q, _, rfl⟩ := hu; rfl) (by unfold maxLen; omega) (by omega) hbase
    unfold Oper.wp
    simp [execOp, hop, resolve, invoke, builtin, hs, hx, hr, Result.andThen]
    obtain ⟨ao, cp, rfl⟩ := form ho
    exact hK ao _ cp w' rfl ho hgr
theorem wpList_append_texts {ops : Array Oper} {rest : List Oper} {o : Oper} {a : Act} {w : World} {Q : Exit → Act → World → Prop} (hg : o.guard = none) (s x : Operand)
    (hop : o.op = Op.call { callee := Callee.builtin Builtin.append, args := #[s, x], argTypes := #[37, 37] })
    (base : Nat) (v : Value) (n : Nat) (xs : List Value) (hs : a.eval s = v) (hown : w.ownsRow base 9 1 v n xs) (y : Value) (L : List ByteArray) (hx : a.eval x = y) (B2 : Nat) (hy : w.ownsRow B2 9 1 y L.length (L.map .string))
    (hbd : n + L.length ≤ 10000000) (hbase : base ≤ w.heap.size)
    (hK : ∀ ao m cap' w', Hid (m = n + L.length) → w'.ownsRow base 9 1 (.slice ao m cap') m (xs ++ L.map .string) → w.grownBy w' v.ownBlock → wpList Tryd.prog ops Q rest (a.put o.dst (.slice ao m cap')) w') :
    wpList Tryd.prog ops Q (o :: rest) a w :=
  wpList_plain hg fun _ hK' => wp_append_texts s x hop base v n xs hs hown y L hx B2 hy hbd hbase fun ao m cap' w' h1 h2 h3 => hK' _ _ (hK ao m cap' w' h1 h2 h3)
theorem own_mono {w : World} {B B' : Nat} {e : TypeId} {v : Value} {n : Nat} {xs : List Value} (h : w.ownsRow B e 1 v n xs) (hB : B' ≤ B) : w.ownsRow B' e 1 v n xs := by
  refine ⟨h.1, ?_⟩
  rcases h.2 with h0 | ⟨g, cap, cur, e1, e2, e3⟩
  · exact Or.inl h0
  · exact Or.inr ⟨g, cap, cur, e1, by omega, e3⟩
end Go.Proofs.YteebdadnfaekmaaDoor
