import Derived.Test.YteebdadnfaekmaaDoorTCom
set_option linter.unusedVariables false
set_option linter.unusedSimpArgs false
namespace Go.Proofs.YteebdadnfaekmaaDoor
open Go.RowKit

set_option maxRecDepth 10000 in
set_option maxHeartbeats 400000 in
theorem half_any (n : Nat) (w : World) (h0 : 2 ≤ n) (h1 : n ≤ 2147483647) :
    Calls Tryd.prog 63 #[.int .i64 n] w fun e w' => e = .returned (.int .i64 (halfN n)) ∧ w' = w := by
  go_enter Tryd.func63, Tryd.ntmps63
  go_wp2_with fail
  go_loopw [3] (fun k wr => ∃ q : Nat, k = .int .i64 q ∧ q < n ∧ Hid (∃ j, q = 2 ^ j) ∧ wr = w) (fun k _ => n - (intOf k).toNat)
  case atStart => exact ⟨1, rfl, by omega, ⟨0, rfl⟩, rfl⟩
  case round =>
    obtain ⟨q, rfl, hq, hj, hwr⟩ := hrel
    obtain rfl : w = wr := hwr.symm
    clear hwr
    by_cases hlt : q < n - q
    · have q1 : (q : Int) < (n : Int) - (q : Int) := by omega
      go_wp2_with fail
      refine ⟨⟨2 * q, by go_num, by omega, ?_, by trivial⟩, ?_⟩
      · obtain ⟨j, e⟩ := hj.out
        exact ⟨j + 1, by rw [e, Nat.pow_succ]; omega⟩
      · have h0 : 0 < q := by
          obtain ⟨j, e⟩ := hj.out
          rw [e]; exact Nat.pow_pos (by omega)
        simp [intOf]; omega
    · have q1 : ¬ (q : Int) < (n : Int) - (q : Int) := by omega
      have hh : q = halfN n := by
        obtain ⟨j, e⟩ := hj.out
        rw [e] at hq hlt ⊢
        exact halfN_unique hq (by omega)
      have HH : Hid (q = halfN n) := hh
      clear hh
      go_wp2_with fail
      go_ret
      exact ⟨by rw [← HH.out]; rfl, rfl⟩

def awayT (a b : Value) : Prop := ∀ g, a.ownBlock = some g → b.ownBlock ≠ some g
theorem awayT.ne {a b : Value} (h : awayT a b) : a.ownBlock = none ∨ a.ownBlock ≠ b.ownBlock := by
  cases ha : a.ownBlock with
  | none => exact Or.inl rfl
  | some g => exact Or.inr fun e => h g ha e.symm
theorem awayT.symm {a b : Value} (h : awayT a b) : awayT b a := fun g h1 h2 => h g h2 h1

/-- The texts that were hashed, each with its hash: block p. -/
structure KAt (H : ByteArray → ByteArray) (p : Nat) (w : World) (tv hv : Value) (ts : List ByteArray) : Prop where
  block : w.heap[p]? = some (.cells #[tv, hv] 62 (0, 0))
  texts : w.ownsRow (p + 1) 9 1 tv ts.length (ts.map .string)
  hashes : w.ownsRow (p + 1) 9 1 hv ts.length ((ts.map H).map .string)
  away : awayT tv hv
theorem KAt.lt {H : ByteArray → ByteArray} {p : Nat} {w : World} {tv hv : Value} {ts : List ByteArray} (h : KAt H p w tv hv ts) : p < w.heap.size := (Array.getElem?_eq_some_iff.1 h.block).1
theorem KAt.below {H : ByteArray → ByteArray} {p : Nat} {w w' : World} {tv hv : Value} {ts : List ByteArray} (h : KAt H p w tv hv ts) (hb : Below w.heap.size w w') : KAt H p w' tv hv ts :=
  ⟨(hb.block p h.lt).trans h.block, own_below' h.texts hb, own_below' h.hashes hb, h.away⟩
theorem grown_trans' {w a b : World} {row : Option Nat} (h : w.grownBy a row) (k : a.grownBy b row) : w.grownBy b row :=
  ⟨k.os.trans h.os, k.tape.trans h.tape, k.output.trans h.output, Nat.le_trans h.size k.size, fun j hj hr => (k.block j (Nat.lt_of_lt_of_le hj h.size) hr).trans (h.block j hj hr)⟩

/-- A store into a field of block p leaves a row of another block as it was. -/
theorem own_field {w : World} {p i : Nat} {u : Value} {e : TypeId} {x : Value} {n : Nat} {xs : List Value} (hx : w.ownsRow (p + 1) e 1 x n xs) : (w.setCell ⟨p, i, none⟩ u).ownsRow (p + 1) e 1 x n xs :=
  hx.kept (row := some p) ⟨rfl, rfl, rfl, by simp, fun b _ hb => heap_setCell_other w ⟨p, i, none⟩ b u (fun e => hb (by simp [e]))⟩ (Or.inr fun e => by have := hx.lt p e; omega)

set_option maxRecDepth 10000 in
set_option maxHeartbeats 1000000 in
theorem kof_any (K : Nat → Int) (p : Nat) (w : World) (tv hv : Value) (ts : List ByteArray) (t : ByteArray) (h : KAt (sumOf K) p w tv hv ts) (hn : ts.length ≤ 1000000) (ht : t.size ≤ 140737488355000) (T : Tab K w) :
    Calls Tryd.prog 43 #[.pointer (some ⟨p, 0, none⟩), .string t] w fun e w' => e = .returned (.string (sumOf K t)) ∧ (∃ tv' hv', KAt (sumOf K) p w' tv' hv' (ts ++ [t])) ∧ Below p w w' := by
  have hsum := sum_any t K w (by omega) T.lt T.cells
  have hlt := h.lt
  obtain ⟨i, hi, hz, hsz, hby⟩ := info_strT
  have HA : Hid (KAt (sumOf K) p w tv hv ts) := h
  obtain ⟨d, hd⟩ : ∃ d, d = sumOf K t := ⟨_, rfl⟩
  have HD : Hid (d = sumOf K t) := hd
  rw [← hd] at hsum ⊢
  clear hd h T
  go_enter Tryd.func43, Tryd.ntmps43
  go_wp2_with fail
  refine hsum.mono ?_
  rintro e w1 ⟨rfl, hb1⟩
  have A1 := HA.out.below hb1
  have hs1 := hb1.size
  have c0 : w1.cell? ⟨p, 0, none⟩ = some tv := by rw [cell_of_row w1 p 0 _ _ _ A1.block]; rfl
  have f0 : w1.frozen? ⟨p, 0, none⟩ = false := frozen_of_row w1 p 0 _ _ A1.block
  have ho1 : (w1.alloc (.cells #[.string t] 9)).ownsRow (p + 1) 9 1 tv ts.length (ts.map .string) := A1.texts.alloc _
  have hnp1 : some p ≠ tv.ownBlock := fun e => by have := A1.texts.lt p e.symm; omega
  have hn1 : ∀ j u, [Value.string t][j]? = some u → (w1.alloc (.cells #[.string t] 9)).cell? ((⟨w1.heap.size, 0, none⟩ : Addr).add j) = some u := World.news_of_block (heap_alloc_new w1 (.cells #[.string t] 9))
  have HA1 : Hid (KAt (sumOf K) p w1 tv hv ts) := A1
  clear A1 hsum
  have HL : Hid (∀ k, hv.ownBlock = some k → p + 1 ≤ k ∧ k < w1.heap.size) := HA1.out.hashes.lt
  have hnp2 : some p ≠ hv.ownBlock := fun e => by have := HL.out p e.symm; omega
  go_wp2_with (first
    | (refine wpList_append_lies _ rfl _ _ 37 rfl (p + 1) 9 i _ 1 16 Tryd.underlying37 hi hz hsz hby rfl (by decide) hv ts.length _ rfl hoB ⟨w2.heap.size, 0, none⟩ 1 1 [.string d] rfl rfl hnB (by simp [Value.oneCell']) (by decide) (by unfold maxLen; omega) (by omega) (by simp; omega) _ rfl ?_
       intro g3 cap3 w3 ho3 hgr3 hat3 hlt3
       have c3 : w3.cell? ⟨p, 1, none⟩ = some hv := (hgr3.cell_far ⟨p, 1, none⟩ (by simp; omega) hnp2).trans ((World.cell?_alloc_past _ _ _ (by simp; omega)).trans c1)
       have f3 : w3.frozen? ⟨p, 1, none⟩ = false := (hgr3.frozen_far ⟨p, 1, none⟩ (by simp; omega) hnp2).trans ((World.frozen?_alloc_past _ _ _ (by simp; omega)).trans f1))
    | (refine wpList_append_lies _ rfl _ _ 37 rfl (p + 1) 9 i _ 1 16 Tryd.underlying37 hi hz hsz hby rfl (by decide) tv ts.length _ rfl ho1 ⟨w1.heap.size, 0, none⟩ 1 1 [.string t] rfl rfl hn1 (by simp [Value.oneCell']) (by decide) (by unfold maxLen; omega) (by omega) (by simp; omega) _ rfl ?_
       intro g2 cap2 w2 ho2 hgr2 hat2 hlt2
       have hs2 := hgr2.size
       simp at hs2
       have c2 : w2.cell? ⟨p, 0, none⟩ = some tv := (hgr2.cell_far ⟨p, 0, none⟩ (by simp; omega) hnp1).trans ((World.cell?_alloc_past _ _ _ (by show p < _; omega)).trans c0)
       have f2 : w2.frozen? ⟨p, 0, none⟩ = false := (hgr2.frozen_far ⟨p, 0, none⟩ (by simp; omega) hnp1).trans ((World.frozen?_alloc_past _ _ _ (by show p < _; omega)).trans f0)
       have hgr12 : w1.grownBy w2 tv.ownBlock := grown_trans' (World.grownBy_alloc w1 _ _) hgr2
       have bB : (w2.setCell ⟨p, 0, none⟩ (.slice (some ⟨g2, 0, none⟩) (ts.length + 1) cap2)).heap[p]? = some (.cells #[.slice (some ⟨g2, 0, none⟩) (ts.length + 1) cap2, hv] 62 (0, 0)) := by
         rw [heap_setCell_same w2 p 0 _ _ _ ((hgr12.block p (by omega) hnp1).trans HA1.out.block)]; rfl
       have c1 : (w2.setCell ⟨p, 0, none⟩ (.slice (some ⟨g2, 0, none⟩) (ts.length + 1) cap2)).cell? ⟨p, 1, none⟩ = some hv := by rw [cell_of_row _ p 1 _ _ _ bB]; rfl
       have f1 : (w2.setCell ⟨p, 0, none⟩ (.slice (some ⟨g2, 0, none⟩) (ts.length + 1) cap2)).frozen? ⟨p, 1, none⟩ = false := frozen_of_row _ p 1 _ _ bB
       have hoB : ((w2.setCell ⟨p, 0, none⟩ (.slice (some ⟨g2, 0, none⟩) (ts.length + 1) cap2)).alloc (.cells #[.string d] 9)).ownsRow (p + 1) 9 1 hv ts.length ((ts.map (sumOf K)).map .string) := (own_field (HA1.out.hashes.kept hgr12 HA1.out.away.symm.ne)).alloc _
       have hnB : ∀ j u, [Value.string d][j]? = some u → ((w2.setCell ⟨p, 0, none⟩ (.slice (some ⟨g2, 0, none⟩) (ts.length + 1) cap2)).alloc (.cells #[.string d] 9)).cell? ((⟨w2.heap.size, 0, none⟩ : Addr).add j) = some u := fun j u hu => by
         have := World.news_of_block (heap_alloc_new (w2.setCell ⟨p, 0, none⟩ (.slice (some ⟨g2, 0, none⟩) (ts.length + 1) cap2)) (.cells #[.string d] 9)) j u hu
         rw [show (w2.setCell ⟨p, 0, none⟩ (.slice (some ⟨g2, 0, none⟩) (ts.length + 1) cap2)).heap.size = w2.heap.size by simp] at this
         exact this
       have HB : Hid ((w2.setCell ⟨p, 0, none⟩ (.slice (some ⟨g2, 0, none⟩) (ts.length + 1) cap2)).heap[p]? = some (.cells #[.slice (some ⟨g2, 0, none⟩) (ts.length + 1) cap2, hv] 62 (0, 0))) := bB
       clear bB))
  go_ret
  refine ⟨rfl, ⟨.slice (some ⟨g2, 0, none⟩) (ts.length + 1) cap2, .slice (some ⟨g3, 0, none⟩) (ts.length + 1) cap3, ?_, ?_, ?_, ?_⟩, ?_⟩
  · rw [heap_setCell_same w3 p 1 _ _ _ ((hgr3.block p (by simp; omega) hnp2).trans ((heap_alloc_old _ _ (by simp; omega)).trans HB.out))]; rfl
  · have h2 : w2.ownsRow (p + 1) 9 1 (.slice (some ⟨g2, 0, none⟩) (ts.length + 1) cap2) (ts ++ [t]).length ((ts ++ [t]).map .string) := by simpa using ho2
    refine own_field (World.ownsRow.kept ((own_field h2).alloc _) hgr3 (Or.inr fun e => ?_))
    have e' : hv.ownBlock = some g2 := by rw [← e]; rfl
    rcases hat2 with h3 | h3
    · exact HA1.out.away g2 h3 e'
    · have := HL.out g2 e'; simp at h3; omega
  · have h3 : w3.ownsRow (p + 1) 9 1 (.slice (some ⟨g3, 0, none⟩) (ts.length + 1) cap3) (ts ++ [t]).length (((ts ++ [t]).map (sumOf K)).map .string) := by
      have := ho3
      rw [HD.out] at this
      simpa using this
    exact own_field h3
  · intro g e1 e2
    have e1' : g2 = g := by simpa [Value.ownBlock] using e1
    have e2' : g3 = g := by simpa [Value.ownBlock] using e2
    subst e1'
    rcases hat3 with h3 | h3
    · rw [e2'] at h3
      rcases hat2 with h4 | h4
      · exact HA1.out.away g2 h4 h3
      · have := HL.out g2 h3; simp at h4; omega
    · simp at h3; omega
  · have hb2 : Below p w1 w2 := ((Below.refl _ _).alloc (by omega) _).trans ((Below.refl _ _).grown hgr2 (by simp; omega) (fun k hk => by have := HA1.out.texts.lt k hk; omega))
    have hb3 : Below p (w2.setCell ⟨p, 0, none⟩ (.slice (some ⟨g2, 0, none⟩) (ts.length + 1) cap2)) w3 := ((Below.refl _ _).alloc (by simp; omega) _).trans ((Below.refl _ _).grown hgr3 (by simp; omega) (fun k hk => by have := HL.out k hk; omega))
    exact (hb1.mono (by omega)).trans ((hb2.setCell (p := ⟨p, 0, none⟩) (Nat.le_refl _) _).trans (hb3.setCell (p := ⟨p, 1, none⟩) (Nat.le_refl _) _))
end Go.Proofs.YteebdadnfaekmaaDoor
