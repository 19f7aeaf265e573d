import Derived.Test.YteebdadnfaekmaaDoorIClash
import Derived.Test.YteebdadnfaekmaaDoorFMathM
set_option linter.unusedVariables false
set_option linter.unusedSimpArgs false
namespace Go.Proofs.YteebdadnfaekmaaDoor
open Go.RowKit

/-- Blocks that are none of known's. -/
def farB (p : Nat) (G : Nat → Prop) (w : World) (tv hv : Value) : Prop := ∀ g, G g → g < w.heap.size ∧ g ≠ p ∧ tv.ownBlock ≠ some g ∧ hv.ownBlock ≠ some g
def kSt (K : Nat → Int) (p : Nat) (G : Nat → Prop) (w : World) (ts : List ByteArray) : Prop := ∃ tv hv, KAt (sumOf K) p w tv hv ts ∧ farB p G w tv hv
/-- What a call of known's leaves, with the caller's own blocks. -/
def kPo (K : Nat → Int) (p : Nat) (G : Nat → Prop) (w : World) (ts : List ByteArray) (h : ByteArray) (e : Ending) (w' : World) : Prop :=
  e = .returned (.string h) ∧ kSt K p G w' ts ∧ Below p w w' ∧ ∀ g, G g → w'.heap[g]? = w.heap[g]?
theorem kSt.below {K : Nat → Int} {p : Nat} {G : Nat → Prop} {w w' : World} {ts : List ByteArray} (h : kSt K p G w ts) (hb : Below w.heap.size w w') : kSt K p G w' ts := by
  obtain ⟨tv, hv, h1, h2⟩ := h
  exact ⟨tv, hv, h1.below hb, fun g hg => by have h3 := h2 g hg; have := hb.size; exact ⟨by omega, h3.2⟩⟩
theorem kSt.lt {K : Nat → Int} {p : Nat} {G : Nat → Prop} {w : World} {ts : List ByteArray} (h : kSt K p G w ts) : p < w.heap.size := by obtain ⟨tv, hv, h1, h2⟩ := h; exact h1.lt

set_option maxRecDepth 10000 in
set_option maxHeartbeats 1000000 in
theorem kof_far (K : Nat → Int) (p : Nat) (G : Nat → Prop) (w : World) (tv hv : Value) (ts : List ByteArray) (t : ByteArray) (h : KAt (sumOf K) p w tv hv ts) (hG : farB p G w tv hv) (hn : ts.length ≤ 1000000) (ht : t.size ≤ 140737488355000) (T : Tab K w) :
    Calls Tryd.prog 43 #[.pointer (some ⟨p, 0, none⟩), .string t] w fun e w' => kPo K p G w (ts ++ [t]) (sumOf K t) e w' := by
  have HG : Hid (farB p G w tv hv) := hG
  clear hG
  have hsum := sum_any t K w (by omega) T.lt T.cells
  have hlt := h.lt
  obtain ⟨i, hi, hz, hsz, hby⟩ := info_strT
  have HA : Hid (KAt (sumOf K) p w tv hv ts) := h
  obtain ⟨d, hd⟩ : ∃ d, d = sumOf K t := ⟨_, rfl⟩
  have HD : Hid (d = sumOf K t) := hd
  rw [← hd] at hsum ⊢
  clear hd h T
  go_enter Tryd.func43, Tryd.ntmps43
  go_wp2_with fail
  refine hsum.mono ?_
  rintro e w1 ⟨rfl, hb1⟩
  have A1 := HA.out.below hb1
  have hs1 := hb1.size
  have c0 : w1.cell? ⟨p, 0, none⟩ = some tv := by rw [cell_of_row w1 p 0 _ _ _ A1.block]; rfl
  have f0 : w1.frozen? ⟨p, 0, none⟩ = false := frozen_of_row w1 p 0 _ _ A1.block
  have ho1 : (w1.alloc (.cells #[.string t] 9)).ownsRow (p + 1) 9 1 tv ts.length (ts.map .string) := A1.texts.alloc _
  have hnp1 : some p ≠ tv.ownBlock := fun e => by have := A1.texts.lt p e.symm; omega
  have hn1 : ∀ j u, [Value.string t][j]? = some u → (w1.alloc (.cells #[.string t] 9)).cell? ((⟨w1.heap.size, 0, none⟩ : Addr).add j) = some u := World.news_of_block (heap_alloc_new w1 (.cells #[.string t] 9))
  have HA1 : Hid (KAt (sumOf K) p w1 tv hv ts) := A1
  clear A1 hsum
  have HL : Hid (∀ k, hv.ownBlock = some k → p + 1 ≤ k ∧ k < w1.heap.size) := HA1.out.hashes.lt
  have hnp2 : some p ≠ hv.ownBlock := fun e => by have := HL.out p e.symm; omega
  go_wp2_with (first
    | (refine wpList_append_lies _ rfl _ _ 37 rfl (p + 1) 9 i _ 1 16 Tryd.underlying37 hi hz hsz hby rfl (by decide) hv ts.length _ rfl hoB ⟨w2.heap.size, 0, none⟩ 1 1 [.string d] rfl rfl hnB (by simp [Value.oneCell']) (by decide) (by unfold maxLen; omega) (by omega) (by simp; omega) _ rfl ?_
       intro g3 cap3 w3 ho3 hgr3 hat3 hlt3
       have c3 : w3.cell? ⟨p, 1, none⟩ = some hv := (hgr3.cell_far ⟨p, 1, none⟩ (by simp; omega) hnp2).trans ((World.cell?_alloc_past _ _ _ (by simp; omega)).trans c1)
       have f3 : w3.frozen? ⟨p, 1, none⟩ = false := (hgr3.frozen_far ⟨p, 1, none⟩ (by simp; omega) hnp2).trans ((World.frozen?_alloc_past _ _ _ (by simp; omega)).trans f1))
    | (refine wpList_append_lies _ rfl _ _ 37 rfl (p + 1) 9 i _ 1 16 Tryd.underlying37 hi hz hsz hby rfl (by decide) tv ts.length _ rfl ho1 ⟨w1.heap.size, 0, none⟩ 1 1 [.string t] rfl rfl hn1 (by simp [Value.oneCell']) (by decide) (by unfold maxLen; omega) (by omega) (by simp; omega) _ rfl ?_
       intro g2 cap2 w2 ho2 hgr2 hat2 hlt2
       have hs2 := hgr2.size
       simp at hs2
       have c2 : w2.cell? ⟨p, 0, none⟩ = some tv := (hgr2.cell_far ⟨p, 0, none⟩ (by simp; omega) hnp1).trans ((World.cell?_alloc_past _ _ _ (by show p < _; omega)).trans c0)
       have f2 : w2.frozen? ⟨p, 0, none⟩ = false := (hgr2.frozen_far ⟨p, 0, none⟩ (by simp; omega) hnp1).trans ((World.frozen?_alloc_past _ _ _ (by show p < _; omega)).trans f0)
       have hgr12 : w1.grownBy w2 tv.ownBlock := grown_trans' (World.grownBy_alloc w1 _ _) hgr2
       have bB : (w2.setCell ⟨p, 0, none⟩ (.slice (some ⟨g2, 0, none⟩) (ts.length + 1) cap2)).heap[p]? = some (.cells #[.slice (some ⟨g2, 0, none⟩) (ts.length + 1) cap2, hv] 62 (0, 0)) := by
         rw [heap_setCell_same w2 p 0 _ _ _ ((hgr12.block p (by omega) hnp1).trans HA1.out.block)]; rfl
       have c1 : (w2.setCell ⟨p, 0, none⟩ (.slice (some ⟨g2, 0, none⟩) (ts.length + 1) cap2)).cell? ⟨p, 1, none⟩ = some hv := by rw [cell_of_row _ p 1 _ _ _ bB]; rfl
       have f1 : (w2.setCell ⟨p, 0, none⟩ (.slice (some ⟨g2, 0, none⟩) (ts.length + 1) cap2)).frozen? ⟨p, 1, none⟩ = false := frozen_of_row _ p 1 _ _ bB
       have hoB : ((w2.setCell ⟨p, 0, none⟩ (.slice (some ⟨g2, 0, none⟩) (ts.length + 1) cap2)).alloc (.cells #[.string d] 9)).ownsRow (p + 1) 9 1 hv ts.length ((ts.map (sumOf K)).map .string) := (own_field (HA1.out.hashes.kept hgr12 HA1.out.away.symm.ne)).alloc _
       have hnB : ∀ j u, [Value.string d][j]? = some u → ((w2.setCell ⟨p, 0, none⟩ (.slice (some ⟨g2, 0, none⟩) (ts.length + 1) cap2)).alloc (.cells #[.string d] 9)).cell? ((⟨w2.heap.size, 0, none⟩ : Addr).add j) = some u := fun j u hu => by
         have := World.news_of_block (heap_alloc_new (w2.setCell ⟨p, 0, none⟩ (.slice (some ⟨g2, 0, none⟩) (ts.length + 1) cap2)) (.cells #[.string d] 9)) j u hu
         rw [show (w2.setCell ⟨p, 0, none⟩ (.slice (some ⟨g2, 0, none⟩) (ts.length + 1) cap2)).heap.size = w2.heap.size by simp] at this
         exact this
       have HB : Hid ((w2.setCell ⟨p, 0, none⟩ (.slice (some ⟨g2, 0, none⟩) (ts.length + 1) cap2)).heap[p]? = some (.cells #[.slice (some ⟨g2, 0, none⟩) (ts.length + 1) cap2, hv] 62 (0, 0))) := bB
       clear bB))
  go_ret
  refine ⟨rfl, ⟨.slice (some ⟨g2, 0, none⟩) (ts.length + 1) cap2, .slice (some ⟨g3, 0, none⟩) (ts.length + 1) cap3, ⟨?_, ?_, ?_, ?_⟩, ?_⟩, ?_, ?_⟩
  · rw [heap_setCell_same w3 p 1 _ _ _ ((hgr3.block p (by simp; omega) hnp2).trans ((heap_alloc_old _ _ (by simp; omega)).trans HB.out))]; rfl
  · have h2 : w2.ownsRow (p + 1) 9 1 (.slice (some ⟨g2, 0, none⟩) (ts.length + 1) cap2) (ts ++ [t]).length ((ts ++ [t]).map .string) := by simpa using ho2
    refine own_field (World.ownsRow.kept ((own_field h2).alloc _) hgr3 (Or.inr fun e => ?_))
    have e' : hv.ownBlock = some g2 := by rw [← e]; rfl
    rcases hat2 with h3 | h3
    · exact HA1.out.away g2 h3 e'
    · have := HL.out g2 e'; simp at h3; omega
  · have h3 : w3.ownsRow (p + 1) 9 1 (.slice (some ⟨g3, 0, none⟩) (ts.length + 1) cap3) (ts ++ [t]).length (((ts ++ [t]).map (sumOf K)).map .string) := by
      have := ho3
      rw [HD.out] at this
      simpa using this
    exact own_field h3
  · intro g e1 e2
    have e1' : g2 = g := by simpa [Value.ownBlock] using e1
    have e2' : g3 = g := by simpa [Value.ownBlock] using e2
    subst e1'
    rcases hat3 with h3 | h3
    · rw [e2'] at h3
      rcases hat2 with h4 | h4
      · exact HA1.out.away g2 h4 h3
      · have := HL.out g2 h3; simp at h4; omega
    · simp at h3; omega
  · intro g hg
    obtain ⟨q1, q2, q3, q4⟩ := HG.out g hg
    have hs3 := hgr3.size
    simp at hs3
    refine ⟨by simp; omega, q2, ?_, ?_⟩
    · intro e
      have e' : g2 = g := by simpa [Value.ownBlock] using e
      subst e'
      rcases hat2 with h3 | h3
      · exact q3 h3
      · simp at h3; omega
    · intro e
      have e' : g3 = g := by simpa [Value.ownBlock] using e
      subst e'
      rcases hat3 with h3 | h3
      · exact q4 h3
      · simp at h3; omega
  · have hb2 : Below p w1 w2 := ((Below.refl _ _).alloc (by omega) _).trans ((Below.refl _ _).grown hgr2 (by simp; omega) (fun k hk => by have := HA1.out.texts.lt k hk; omega))
    have hb3 : Below p (w2.setCell ⟨p, 0, none⟩ (.slice (some ⟨g2, 0, none⟩) (ts.length + 1) cap2)) w3 := ((Below.refl _ _).alloc (by simp; omega) _).trans ((Below.refl _ _).grown hgr3 (by simp; omega) (fun k hk => by have := HL.out k hk; omega))
    exact (hb1.mono (by omega)).trans ((hb2.setCell (p := ⟨p, 0, none⟩) (Nat.le_refl _) _).trans (hb3.setCell (p := ⟨p, 1, none⟩) (Nat.le_refl _) _))
  · intro g hg
    obtain ⟨q1, q2, q3, q4⟩ := HG.out g hg
    show (w3.setCell ⟨p, 1, none⟩ (.slice (some ⟨g3, 0, none⟩) (ts.length + 1) cap3)).heap[g]? = _
    rw [heap_setCell_other w3 ⟨p, 1, none⟩ g _ q2, hgr3.block g (by simp; omega) (fun e => q4 e.symm), heap_alloc_old _ _ (by simp; omega), heap_setCell_other w2 ⟨p, 0, none⟩ g _ q2, hgr12.block g (by omega) (fun e => q3 e.symm), hb1.block g q1]

theorem kof_st (K : Nat → Int) (p : Nat) (G : Nat → Prop) (w : World) (ts : List ByteArray) (t : ByteArray) (h : kSt K p G w ts) (hn : ts.length ≤ 1000000) (ht : t.size ≤ 140737488355000) (T : Tab K w) :
    Calls Tryd.prog 43 #[.pointer (some ⟨p, 0, none⟩), .string t] w (kPo K p G w (ts ++ [t]) (sumOf K t)) := by
  obtain ⟨tv, hv, h1, h2⟩ := h
  exact kof_far K p G w tv hv ts t h1 h2 hn ht T
theorem Tab.belowq {K : Nat → Int} {p : Nat} {w w' : World} (h : Tab K w) (hp : 1 < p) (hb : Below p w w') : Tab K w' :=
  ⟨Nat.lt_of_lt_of_le h.lt hb.size, fun j hj => (hb.cell (p := ⟨1, j, none⟩) hp).trans (h.cells j hj)⟩

set_option maxRecDepth 10000 in
set_option maxHeartbeats 400000 in
theorem ksteps_any (K : Nat → Int) (p : Nat) (hp : 1 < p) (G : Nat → Prop) (x : ByteArray) (n : Nat) (w : World) (ts : List ByteArray) (hx : x.size = 32) (hn : n ≤ 15) (h : kSt K p G w ts) (hl : ts.length ≤ 900000) (T : Tab K w) :
    Calls Tryd.prog 44 #[.pointer (some ⟨p, 0, none⟩), .string x, .int .i64 n] w (kPo K p G w (ts ++ stepT (sumOf K) x n) (stepF (sumOf K) x n)) := by
  have HX : Hid (x.size = 32) := hx
  have HS : Hid (kSt K p G w ts) := h
  have HT : Hid (Tab K w) := T
  clear hx h T
  go_enter Tryd.func44, Tryd.ntmps44
  go_wp2_with fail
  go_loopw [1, 7] (fun v i wr => ∃ j : Nat, v = .string (stepF (sumOf K) x j) ∧ i = .int .i64 j ∧ j ≤ n ∧ Hid (kSt K p G wr (ts ++ stepT (sumOf K) x j) ∧ Below p w wr ∧ ∀ g, G g → wr.heap[g]? = w.heap[g]?)) (fun _ i _ => n - (intOf i).toNat)
  case atStart => exact ⟨0, rfl, rfl, Nat.zero_le _, by rw [stepT, List.append_nil]; exact HS.out, Below.refl _ _, fun g _ => rfl⟩
  case round =>
    obtain ⟨j, rfl, rfl, hj, hI⟩ := hrel
    by_cases hlt : j < n
    · have j1 : (j : Int) < (n : Int) := by omega
      have y32 : (stepF (sumOf K) x j).size = 32 := stepF_size (sumOf K) (sumOf_size K) x HX.out j
      have hs := kof_st K p G wr (ts ++ stepT (sumOf K) x j) (m2 ++ stepF (sumOf K) x j) hI.out.1 (by rw [List.length_append, stepT_len]; omega) (by rw [ByteArray.size_append, y32]; show 1 + 32 ≤ _; omega) (HT.out.belowq hp hI.out.2.1)
      rw [show sumOf K (m2 ++ stepF (sumOf K) x j) = stepF (sumOf K) x (j + 1) from rfl, List.append_assoc, show stepT (sumOf K) x j ++ [m2 ++ stepF (sumOf K) x j] = stepT (sumOf K) x (j + 1) from rfl] at hs
      rw [show m2 = (⟨#[2]⟩ : ByteArray) from rfl] at hs
      obtain ⟨z, hz⟩ : ∃ z, z = stepF (sumOf K) x (j + 1) := ⟨_, rfl⟩
      rw [← hz] at hs
      have HZ : Hid (z = stepF (sumOf K) x (j + 1)) := hz
      clear hz
      generalize stepF (sumOf K) x j = y at *
      go_wp2_with fail
      refine hs.mono ?_
      rintro e w1 ⟨rfl, hk1, hb1, hg1⟩
      clear hs
      go_wp2_with fail
      refine ⟨⟨j + 1, by rw [HZ.out], by go_num, by omega, hk1, hI.out.2.1.trans hb1, fun g hg => (hg1 g hg).trans (hI.out.2.2 g hg)⟩, ?_⟩
      simp [intOf]; omega
    · have j1 : ¬ (j : Int) < (n : Int) := by omega
      obtain rfl : j = n := by omega
      have HP : Hid (∀ e, e = Ending.returned (.string (stepF (sumOf K) x j)) → kPo K p G w (ts ++ stepT (sumOf K) x j) (stepF (sumOf K) x j) e wr) := fun e he => ⟨he, hI.out⟩
      go_wp2_with fail
      go_ret
      exact HP.out _ rfl
end Go.Proofs.YteebdadnfaekmaaDoor
