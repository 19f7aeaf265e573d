import Derived.Test.YteglimjonofdeaaGreatDoorALiveM
import Derived.Test.YteglimjonofdeaaGreatDoorIClashM
set_option linter.unusedVariables false
set_option linter.unusedSimpArgs false
namespace Go.Proofs.YteglimjonofdeaaGreatDoor
open Go.RowKit

section
variable {K : Nat → Int} {s : ByteArray} {w : World} {xn da ab i was hs : Nat} {z : Nv} {ky nd q bb j : Nat} {C : Nat → List Int} {l : ByteArray} {bk lm m : Nat} {lv : Value} {L : List En} {G F : Nat → Prop} {D : DataW Unit} {wr wr' : World}
theorem AudI.len (h : AudI K s w xn da ab i was hs z ky nd q bb j C l bk lm m lv L G F D wr) : (evs K L).length = i + 1 := by rw [evs_len]; exact h.ond.len
theorem AudI.event (h : AudI K s w xn da ab i was hs z ky nd q bb j C l bk lm m lv L G F D wr) (k : Nat) (hk : k ≤ i) (hi : i < 40) :
    Calls Tryz.prog 24 #[.pointer (some ⟨xn, 0, none⟩), .int .i64 (k : Nat), .int .i64 ((i + 1 : Nat) : Int)] wr fun e w' => ∃ ao cap, e = .returned (.tuple #[.string (evF K L k), .slice ao (inclF (sumOf K) (evs K L) k).length cap, .nilIface]) ∧ w'.ownsRow wr.heap.size 9 1 (.slice ao (inclF (sumOf K) (evs K L) k).length cap) (inclF (sumOf K) (evs K L) k).length ((inclF (sumOf K) (evs K L) k).map .string) ∧ Below wr.heap.size wr w' := by
  have := aud_event h.ond k (i + 1) (by omega) (Nat.le_refl _) (by omega)
  rwa [List.take_of_length_le (by rw [h.len]; exact Nat.le_refl _)] at this
theorem AudI.events (h : AudI K s w xn da ab i was hs z ky nd q bb j C l bk lm m lv L G F D wr) (n : Nat) (hn : n ≤ i + 1) (hi : i < 40) :
    Calls Tryz.prog 27 #[.pointer (some ⟨xn, 0, none⟩), .int .i64 (n : Nat)] wr fun e w' => ∃ ao cap, e = .returned (.slice ao n cap) ∧ w'.ownsRow wr.heap.size 9 1 (.slice ao n cap) n (((evs K L).take n).map .string) ∧ Below wr.heap.size wr w' :=
  kevents_any K z ky 200 w.heap.size xn (i + 1) nd q bb j C l bk lm m lv L G F D n wr h.ond hn (by omega)
/-- Confirm, of the bytes of an event, at any place of the book that is trusted. -/
theorem AudI.confirm (h : AudI K s w xn da ab i (i + 1) hs z ky nd q bb j C l bk lm m lv L G F D wr) (b : ByteArray) (k : Nat) (hk : k ≤ i) (hi : i < 40) (hg : goodB b = true) (pf : List ByteArray) (v : Value) (hl : LeafAt wr v pf) (hpf : pf.length ≤ 1000000000) :
    Calls Tryz.prog 25 #[.pointer (some ⟨da, 0, none⟩), .string b, .int .i64 (k : Nat), v] wr fun e w' => e = .returned (chkV (inclOk K b k (i + 1) (rootF (sumOf K) (evs K L)) pf)) ∧ Below wr.heap.size wr w' := by
  have ha := h.au
  rw [List.take_of_length_le (by rw [h.len]; exact Nat.le_refl _)] at ha
  refine daconf_any da ab b (k : Nat) v _ wr h.dc ((aconf_any K ab _ 3 (i + 1) k _ b pf v wr ha (by omega) (by omega) hg hl hpf h.ond.al.tab).mono ?_)
  rintro e w' ⟨rfl, bw⟩
  exact ⟨⟨_, rfl⟩, rfl, bw⟩
theorem AudI.at (h : AudI K s w xn da ab i was hs z ky nd q bb j C l bk lm m lv L G F D wr) (k : Nat) (hk : k ≤ i) : ∃ e, L[k]? = some e ∧ e.whole ∧ e.n = ((k + 1 : Nat) : Int) ∧ evF K L k = evT K e ∧ (evs K L)[k]? = some (evT K e) := by
  have hlen := h.ond.len
  have hlt : k < L.length := by omega
  refine ⟨L[k]'hlt, List.getElem?_eq_getElem hlt, h.ond.wholes _ (List.getElem_mem hlt), h.seq k _ (List.getElem?_eq_getElem hlt), ?_, ?_⟩
  · unfold evF; simp [List.getD, List.getElem?_eq_getElem hlt]
  · unfold evs; simp [List.getElem?_eq_getElem hlt]
/-- An event is good bytes, and is confirmed at its place. -/
theorem AudI.yes (h : AudI K s w xn da ab i was hs z ky nd q bb j C l bk lm m lv L G F D wr) (k : Nat) (hk : k ≤ i) : goodB (evF K L k) = true ∧ inclOk K (evF K L k) k (i + 1) (rootF (sumOf K) (evs K L)) (inclF (sumOf K) (evs K L) k) = true := by
  obtain ⟨e, he, hw, _, h1, h2⟩ := h.at k hk
  refine ⟨by rw [h1]; exact evT_good K e hw, ?_⟩
  have := ok_good K (evs K L) k (evF K L k) (by rw [h.len]; omega) (by rw [h1]; exact h2)
  rwa [h.len] at this
/-- At another place it is not, or two texts of one hash are in hand. -/
theorem AudI.other (h : AudI K s w xn da ab i was hs z ky nd q bb j C l bk lm m lv L G F D wr) (k k' : Nat) (hk : k ≤ i) (hk' : k' ≤ i) (hne : k ≠ k') (ho : inclOk K (evF K L k) k' (i + 1) (rootF (sumOf K) (evs K L)) (inclF (sumOf K) (evs K L) k) = true) :
    ∃ a b, b < a ∧ clashAt (sumOf K) (rootT (sumOf K) (evs K L) ++ (upF (sumOf K) (evF K L k) k' (evs K L).length (inclF (sumOf K) (evs K L) k)).2) a b := by
  obtain ⟨e, he, hw, hn, h1, h2⟩ := h.at k hk
  obtain ⟨e', he', hw', hn', h1', h2'⟩ := h.at k' hk'
  have hlt : k' < (evs K L).length := by rw [h.len]; omega
  refine ok_clash K (evs K L) k' (evF K L k) _ hlt (by rw [h.len]; exact ho) (fun hx => ?_)
  have h3 := hx.1
  rw [List.getElem?_eq_getElem hlt] at h2'
  injection h2' with h2'
  rw [h2', h1] at h3
  exact evT_ne K e e' hw hw' (by rw [hn, hn']; omega) h3
theorem inclF_le (K : Nat → Int) (L : List ByteArray) (k : Nat) : (inclF (sumOf K) L k).length ≤ L.length := inclF_len (sumOf K) L.length L k rfl
end
/-- Blocks that are none of known's. -/
def farB (p : Nat) (G : Nat → Prop) (w : World) (tv hv : Value) : Prop := ∀ g, G g → g < w.heap.size ∧ g ≠ p ∧ tv.ownBlock ≠ some g ∧ hv.ownBlock ≠ some g
def kSt (K : Nat → Int) (p : Nat) (G : Nat → Prop) (w : World) (ts : List ByteArray) : Prop := ∃ tv hv, KAt (sumOf K) p w tv hv ts ∧ farB p G w tv hv
/-- What a call of known's leaves, with the caller's own blocks. -/
def kPo (K : Nat → Int) (p : Nat) (G : Nat → Prop) (w : World) (ts : List ByteArray) (h : ByteArray) (e : Ending) (w' : World) : Prop :=
  e = .returned (.string h) ∧ kSt K p G w' ts ∧ Below p w w' ∧ ∀ g, G g → w'.heap[g]? = w.heap[g]?
theorem kSt.below {K : Nat → Int} {p : Nat} {G : Nat → Prop} {w w' : World} {ts : List ByteArray} (h : kSt K p G w ts) (hb : Below w.heap.size w w') : kSt K p G w' ts := by
  obtain ⟨tv, hv, h1, h2⟩ := h
  exact ⟨tv, hv, h1.below hb, fun g hg => by have h3 := h2 g hg; have := hb.size; exact ⟨by omega, h3.2⟩⟩
theorem kSt.lt {K : Nat → Int} {p : Nat} {G : Nat → Prop} {w : World} {ts : List ByteArray} (h : kSt K p G w ts) : p < w.heap.size := by obtain ⟨tv, hv, h1, h2⟩ := h; exact h1.lt

set_option maxRecDepth 10000 in
set_option maxHeartbeats 1000000 in
theorem kof_far (K : Nat → Int) (p : Nat) (G : Nat → Prop) (w : World) (tv hv : Value) (ts : List ByteArray) (t : ByteArray) (h : KAt (sumOf K) p w tv hv ts) (hG : farB p G w tv hv) (hn : ts.length ≤ 1000000) (ht : t.size ≤ 140737488355000) (T : Tab K w) :
    Calls Tryz.prog 44 #[.pointer (some ⟨p, 0, none⟩), .string t] w fun e w' => kPo K p G w (ts ++ [t]) (sumOf K t) e w' := by
  have HG : Hid (farB p G w tv hv) := hG
  clear hG
  have hsum := sum_any t K w (by omega) T.lt T.cells
  have hlt := h.lt
  obtain ⟨i, hi, hz, hsz, hby⟩ := info_strT
  have HA : Hid (KAt (sumOf K) p w tv hv ts) := h
  obtain ⟨d, hd⟩ : ∃ d, d = sumOf K t := ⟨_, rfl⟩
  have HD : Hid (d = sumOf K t) := hd
  rw [← hd] at hsum ⊢
  clear hd h T
  go_enter Tryz.func44, Tryz.ntmps44
  go_wp2_with fail
  refine hsum.mono ?_
  rintro e w1 ⟨rfl, hb1⟩
  have A1 := HA.out.below hb1
  have hs1 := hb1.size
  have c0 : w1.cell? ⟨p, 0, none⟩ = some tv := by rw [cell_of_row w1 p 0 _ _ _ A1.block]; rfl
  have f0 : w1.frozen? ⟨p, 0, none⟩ = false := frozen_of_row w1 p 0 _ _ A1.block
  have ho1 : (w1.alloc (.cells #[.string t] 9)).ownsRow (p + 1) 9 1 tv ts.length (ts.map .string) := A1.texts.alloc _
  have hnp1 : some p ≠ tv.ownBlock := fun e => by have := A1.texts.lt p e.symm; omega
  have hn1 : ∀ j u, [Value.string t][j]? = some u → (w1.alloc (.cells #[.string t] 9)).cell? ((⟨w1.heap.size, 0, none⟩ : Addr).add j) = some u := World.news_of_block (heap_alloc_new w1 (.cells #[.string t] 9))
  have HA1 : Hid (KAt (sumOf K) p w1 tv hv ts) := A1
  clear A1 hsum
  have HL : Hid (∀ k, hv.ownBlock = some k → p + 1 ≤ k ∧ k < w1.heap.size) := HA1.out.hashes.lt
  have hnp2 : some p ≠ hv.ownBlock := fun e => by have := HL.out p e.symm; omega
  go_wp2_with (first
    | (refine wpList_append_lies _ rfl _ _ 51 rfl (p + 1) 9 i _ 1 16 Tryz.underlying51 hi hz hsz hby rfl (by decide) hv ts.length _ rfl hoB ⟨w2.heap.size, 0, none⟩ 1 1 [.string d] rfl rfl hnB (by simp [Value.oneCell']) (by decide) (by unfold maxLen; omega) (by omega) (by simp; omega) _ rfl ?_
       intro g3 cap3 w3 ho3 hgr3 hat3 hlt3
       have c3 : w3.cell? ⟨p, 1, none⟩ = some hv := (hgr3.cell_far ⟨p, 1, none⟩ (by simp; omega) hnp2).trans ((World.cell?_alloc_past _ _ _ (by simp; omega)).trans c1)
       have f3 : w3.frozen? ⟨p, 1, none⟩ = false := (hgr3.frozen_far ⟨p, 1, none⟩ (by simp; omega) hnp2).trans ((World.frozen?_alloc_past _ _ _ (by simp; omega)).trans f1))
    | (refine wpList_append_lies _ rfl _ _ 51 rfl (p + 1) 9 i _ 1 16 Tryz.underlying51 hi hz hsz hby rfl (by decide) tv ts.length _ rfl ho1 ⟨w1.heap.size, 0, none⟩ 1 1 [.string t] rfl rfl hn1 (by simp [Value.oneCell']) (by decide) (by unfold maxLen; omega) (by omega) (by simp; omega) _ rfl ?_
       intro g2 cap2 w2 ho2 hgr2 hat2 hlt2
       have hs2 := hgr2.size
       simp at hs2
       have c2 : w2.cell? ⟨p, 0, none⟩ = some tv := (hgr2.cell_far ⟨p, 0, none⟩ (by simp; omega) hnp1).trans ((World.cell?_alloc_past _ _ _ (by show p < _; omega)).trans c0)
       have f2 : w2.frozen? ⟨p, 0, none⟩ = false := (hgr2.frozen_far ⟨p, 0, none⟩ (by simp; omega) hnp1).trans ((World.frozen?_alloc_past _ _ _ (by show p < _; omega)).trans f0)
       have hgr12 : w1.grownBy w2 tv.ownBlock := grown_trans' (World.grownBy_alloc w1 _ _) hgr2
       have bB : (w2.setCell ⟨p, 0, none⟩ (.slice (some ⟨g2, 0, none⟩) (ts.length + 1) cap2)).heap[p]? = some (.cells #[.slice (some ⟨g2, 0, none⟩) (ts.length + 1) cap2, hv] 77 (0, 0)) := by
         rw [heap_setCell_same w2 p 0 _ _ _ ((hgr12.block p (by omega) hnp1).trans HA1.out.block)]; rfl
       have c1 : (w2.setCell ⟨p, 0, none⟩ (.slice (some ⟨g2, 0, none⟩) (ts.length + 1) cap2)).cell? ⟨p, 1, none⟩ = some hv := by rw [cell_of_row _ p 1 _ _ _ bB]; rfl
       have f1 : (w2.setCell ⟨p, 0, none⟩ (.slice (some ⟨g2, 0, none⟩) (ts.length + 1) cap2)).frozen? ⟨p, 1, none⟩ = false := frozen_of_row _ p 1 _ _ bB
       have hoB : ((w2.setCell ⟨p, 0, none⟩ (.slice (some ⟨g2, 0, none⟩) (ts.length + 1) cap2)).alloc (.cells #[.string d] 9)).ownsRow (p + 1) 9 1 hv ts.length ((ts.map (sumOf K)).map .string) := (own_field (HA1.out.hashes.kept hgr12 HA1.out.away.symm.ne)).alloc _
       have hnB : ∀ j u, [Value.string d][j]? = some u → ((w2.setCell ⟨p, 0, none⟩ (.slice (some ⟨g2, 0, none⟩) (ts.length + 1) cap2)).alloc (.cells #[.string d] 9)).cell? ((⟨w2.heap.size, 0, none⟩ : Addr).add j) = some u := fun j u hu => by
         have := World.news_of_block (heap_alloc_new (w2.setCell ⟨p, 0, none⟩ (.slice (some ⟨g2, 0, none⟩) (ts.length + 1) cap2)) (.cells #[.string d] 9)) j u hu
         rw [show (w2.setCell ⟨p, 0, none⟩ (.slice (some ⟨g2, 0, none⟩) (ts.length + 1) cap2)).heap.size = w2.heap.size by simp] at this
         exact this
       have HB : Hid ((w2.setCell ⟨p, 0, none⟩ (.slice (some ⟨g2, 0, none⟩) (ts.length + 1) cap2)).heap[p]? = some (.cells #[.slice (some ⟨g2, 0, none⟩) (ts.length + 1) cap2, hv] 77 (0, 0))) := bB
       clear bB))
  go_ret
  refine ⟨rfl, ⟨.slice (some ⟨g2, 0, none⟩) (ts.length + 1) cap2, .slice (some ⟨g3, 0, none⟩) (ts.length + 1) cap3, ⟨?_, ?_, ?_, ?_⟩, ?_⟩, ?_, ?_⟩
  · rw [heap_setCell_same w3 p 1 _ _ _ ((hgr3.block p (by simp; omega) hnp2).trans ((heap_alloc_old _ _ (by simp; omega)).trans HB.out))]; rfl
  · have h2 : w2.ownsRow (p + 1) 9 1 (.slice (some ⟨g2, 0, none⟩) (ts.length + 1) cap2) (ts ++ [t]).length ((ts ++ [t]).map .string) := by simpa using ho2
    refine own_field (World.ownsRow.kept ((own_field h2).alloc _) hgr3 (Or.inr fun e => ?_))
    have e' : hv.ownBlock = some g2 := by rw [← e]; rfl
    rcases hat2 with h3 | h3
    · exact HA1.out.away g2 h3 e'
    · have := HL.out g2 e'; simp at h3; omega
  · have h3 : w3.ownsRow (p + 1) 9 1 (.slice (some ⟨g3, 0, none⟩) (ts.length + 1) cap3) (ts ++ [t]).length (((ts ++ [t]).map (sumOf K)).map .string) := by
      have := ho3
      rw [HD.out] at this
      simpa using this
    exact own_field h3
  · intro g e1 e2
    have e1' : g2 = g := by simpa [Value.ownBlock] using e1
    have e2' : g3 = g := by simpa [Value.ownBlock] using e2
    subst e1'
    rcases hat3 with h3 | h3
    · rw [e2'] at h3
      rcases hat2 with h4 | h4
      · exact HA1.out.away g2 h4 h3
      · have := HL.out g2 h3; simp at h4; omega
    · simp at h3; omega
  · intro g hg
    obtain ⟨q1, q2, q3, q4⟩ := HG.out g hg
    have hs3 := hgr3.size
    simp at hs3
    refine ⟨by simp; omega, q2, ?_, ?_⟩
    · intro e
      have e' : g2 = g := by simpa [Value.ownBlock] using e
      subst e'
      rcases hat2 with h3 | h3
      · exact q3 h3
      · simp at h3; omega
    · intro e
      have e' : g3 = g := by simpa [Value.ownBlock] using e
      subst e'
      rcases hat3 with h3 | h3
      · exact q4 h3
      · simp at h3; omega
  · have hb2 : Below p w1 w2 := ((Below.refl _ _).alloc (by omega) _).trans ((Below.refl _ _).grown hgr2 (by simp; omega) (fun k hk => by have := HA1.out.texts.lt k hk; omega))
    have hb3 : Below p (w2.setCell ⟨p, 0, none⟩ (.slice (some ⟨g2, 0, none⟩) (ts.length + 1) cap2)) w3 := ((Below.refl _ _).alloc (by simp; omega) _).trans ((Below.refl _ _).grown hgr3 (by simp; omega) (fun k hk => by have := HL.out k hk; omega))
    exact (hb1.mono (by omega)).trans ((hb2.setCell (p := ⟨p, 0, none⟩) (Nat.le_refl _) _).trans (hb3.setCell (p := ⟨p, 1, none⟩) (Nat.le_refl _) _))
  · intro g hg
    obtain ⟨q1, q2, q3, q4⟩ := HG.out g hg
    show (w3.setCell ⟨p, 1, none⟩ (.slice (some ⟨g3, 0, none⟩) (ts.length + 1) cap3)).heap[g]? = _
    rw [heap_setCell_other w3 ⟨p, 1, none⟩ g _ q2, hgr3.block g (by simp; omega) (fun e => q4 e.symm), heap_alloc_old _ _ (by simp; omega), heap_setCell_other w2 ⟨p, 0, none⟩ g _ q2, hgr12.block g (by omega) (fun e => q3 e.symm), hb1.block g q1]

theorem kof_st (K : Nat → Int) (p : Nat) (G : Nat → Prop) (w : World) (ts : List ByteArray) (t : ByteArray) (h : kSt K p G w ts) (hn : ts.length ≤ 1000000) (ht : t.size ≤ 140737488355000) (T : Tab K w) :
    Calls Tryz.prog 44 #[.pointer (some ⟨p, 0, none⟩), .string t] w (kPo K p G w (ts ++ [t]) (sumOf K t)) := by
  obtain ⟨tv, hv, h1, h2⟩ := h
  exact kof_far K p G w tv hv ts t h1 h2 hn ht T
theorem Tab.belowq {K : Nat → Int} {p : Nat} {w w' : World} (h : Tab K w) (hp : 1 < p) (hb : Below p w w') : Tab K w' :=
  ⟨Nat.lt_of_lt_of_le h.lt hb.size, fun j hj => (hb.cell (p := ⟨1, j, none⟩) hp).trans (h.cells j hj)⟩

set_option maxRecDepth 10000 in
set_option maxHeartbeats 400000 in
theorem ksteps_any (K : Nat → Int) (p : Nat) (hp : 1 < p) (G : Nat → Prop) (x : ByteArray) (n : Nat) (w : World) (ts : List ByteArray) (hx : x.size = 32) (hn : n ≤ 15) (h : kSt K p G w ts) (hl : ts.length ≤ 900000) (T : Tab K w) :
    Calls Tryz.prog 45 #[.pointer (some ⟨p, 0, none⟩), .string x, .int .i64 n] w (kPo K p G w (ts ++ stepT (sumOf K) x n) (stepF (sumOf K) x n)) := by
  have HX : Hid (x.size = 32) := hx
  have HS : Hid (kSt K p G w ts) := h
  have HT : Hid (Tab K w) := T
  clear hx h T
  go_enter Tryz.func45, Tryz.ntmps45
  go_wp2_with fail
  go_loopw [1, 7] (fun v i wr => ∃ j : Nat, v = .string (stepF (sumOf K) x j) ∧ i = .int .i64 j ∧ j ≤ n ∧ Hid (kSt K p G wr (ts ++ stepT (sumOf K) x j) ∧ Below p w wr ∧ ∀ g, G g → wr.heap[g]? = w.heap[g]?)) (fun _ i _ => n - (intOf i).toNat)
  case atStart => exact ⟨0, rfl, rfl, Nat.zero_le _, by rw [stepT, List.append_nil]; exact HS.out, Below.refl _ _, fun g _ => rfl⟩
  case round =>
    obtain ⟨j, rfl, rfl, hj, hI⟩ := hrel
    by_cases hlt : j < n
    · have j1 : (j : Int) < (n : Int) := by omega
      have y32 : (stepF (sumOf K) x j).size = 32 := stepF_size (sumOf K) (sumOf_size K) x HX.out j
      have hs := kof_st K p G wr (ts ++ stepT (sumOf K) x j) (m2 ++ stepF (sumOf K) x j) hI.out.1 (by rw [List.length_append, stepT_len]; omega) (by rw [ByteArray.size_append, y32]; show 1 + 32 ≤ _; omega) (HT.out.belowq hp hI.out.2.1)
      rw [show sumOf K (m2 ++ stepF (sumOf K) x j) = stepF (sumOf K) x (j + 1) from rfl, List.append_assoc, show stepT (sumOf K) x j ++ [m2 ++ stepF (sumOf K) x j] = stepT (sumOf K) x (j + 1) from rfl] at hs
      rw [show m2 = (⟨#[2]⟩ : ByteArray) from rfl] at hs
      obtain ⟨z, hz⟩ : ∃ z, z = stepF (sumOf K) x (j + 1) := ⟨_, rfl⟩
      rw [← hz] at hs
      have HZ : Hid (z = stepF (sumOf K) x (j + 1)) := hz
      clear hz
      generalize stepF (sumOf K) x j = y at *
      go_wp2_with fail
      refine hs.mono ?_
      rintro e w1 ⟨rfl, hk1, hb1, hg1⟩
      clear hs
      go_wp2_with fail
      refine ⟨⟨j + 1, by rw [HZ.out], by go_num, by omega, hk1, hI.out.2.1.trans hb1, fun g hg => (hg1 g hg).trans (hI.out.2.2 g hg)⟩, ?_⟩
      simp [intOf]; omega
    · have j1 : ¬ (j : Int) < (n : Int) := by omega
      obtain rfl : j = n := by omega
      have HP : Hid (∀ e, e = Ending.returned (.string (stepF (sumOf K) x j)) → kPo K p G w (ts ++ stepT (sumOf K) x j) (stepF (sumOf K) x j) e wr) := fun e he => ⟨he, hI.out⟩
      go_wp2_with fail
      go_ret
      exact HP.out _ rfl
set_option maxRecDepth 10000 in
set_option maxHeartbeats 1000000 in
theorem froot_one (K : Nat → Int) (p : Nat) (G : Nat → Prop) (w : World) (g off cap : Nat) (s h : ByteArray) (ts : List ByteArray) (hc : w.cell? ⟨g, off, none⟩ = some (.string s)) (hs : s.size ≤ 100000)
    (hof : Calls Tryz.prog 44 #[.pointer (some ⟨p, 0, none⟩), .string (⟨#[0]⟩ ++ s)] w (kPo K p G w ts h)) :
    Calls Tryz.prog 28 #[.pointer (some ⟨p, 0, none⟩), .slice (some ⟨g, off, none⟩) 1 cap] w (kPo K p G w ts h) := by
  go_enter Tryz.func28, Tryz.ntmps28
  go_wp2_with fail
  refine hof.mono ?_
  rintro e w1 ⟨rfl, hk, hb, hg⟩
  go_wp2_with fail
  go_ret
  exact ⟨rfl, hk, hb, hg⟩

set_option maxRecDepth 10000 in
set_option maxHeartbeats 1000000 in
theorem froot_more (K : Nat → Int) (p : Nat) (G : Nat → Prop) (w : World) (g off cap N k : Nat) (a b h : ByteArray) (t1 t2 t3 : List ByteArray) (hN : 2 ≤ N) (hN1 : N ≤ 2147483647) (hk0 : 0 < k) (hk1 : k < N) (hcap : N ≤ cap) (ha : a.size = 32) (hb : b.size = 32)
    (hh : ∀ W, Calls Tryz.prog 50 #[.int .i64 N] W fun e w' => e = .returned (.int .i64 k) ∧ w' = W)
    (hA : Calls Tryz.prog 28 #[.pointer (some ⟨p, 0, none⟩), .slice (some ⟨g, off, none⟩) k cap] w (kPo K p G w t1 a))
    (hB : ∀ W, kSt K p G W t1 → Below p w W → (∀ g, G g → W.heap[g]? = w.heap[g]?) → Calls Tryz.prog 28 #[.pointer (some ⟨p, 0, none⟩), .slice (some ⟨g, off + k, none⟩) (N - k) (cap - k)] W (kPo K p G W t2 b))
    (hof : ∀ W, kSt K p G W t2 → Below p w W → (∀ g, G g → W.heap[g]? = w.heap[g]?) → Calls Tryz.prog 44 #[.pointer (some ⟨p, 0, none⟩), .string (⟨#[1]⟩ ++ a ++ b)] W (kPo K p G W t3 h)) :
    Calls Tryz.prog 28 #[.pointer (some ⟨p, 0, none⟩), .slice (some ⟨g, off, none⟩) N cap] w (kPo K p G w t3 h) := by
  have n0 : ((N : Int) == 0) = false := by rw [beq_eq_false_iff_ne]; omega
  have n1 : ((N : Int) == 1) = false := by rw [beq_eq_false_iff_ne]; omega
  have k1 : (k : Int) ≤ (N : Int) := by omega
  have k2 : (k : Int) ≤ (cap : Int) := by omega
  have k3 : ¬ cap = k := by omega
  have HB : Hid (∀ W, kSt K p G W t1 → Below p w W → (∀ g, G g → W.heap[g]? = w.heap[g]?) → Calls Tryz.prog 28 #[.pointer (some ⟨p, 0, none⟩), .slice (some ⟨g, off + k, none⟩) (N - k) (cap - k)] W (kPo K p G W t2 b)) := hB
  have HOF : Hid (∀ W, kSt K p G W t2 → Below p w W → (∀ g, G g → W.heap[g]? = w.heap[g]?) → Calls Tryz.prog 44 #[.pointer (some ⟨p, 0, none⟩), .string (⟨#[1]⟩ ++ a ++ b)] W (kPo K p G W t3 h)) := hof
  clear hB hof
  go_enter Tryz.func28, Tryz.ntmps28
  go_wp2_with (go_at_call 50; refine (hh _).mono ?_; rintro e wx ⟨rfl, hwx⟩; obtain rfl : w = wx := hwx.symm; clear hwx)
  refine hA.mono ?_
  rintro e w1 ⟨rfl, hk1', hb1, hg1⟩
  clear hA
  go_wp2_with fail
  refine (HB.out w1 hk1' hb1 hg1).mono ?_
  rintro e w2 ⟨rfl, hk2', hb2, hg2⟩
  go_wp2_with fail
  refine (HOF.out w2 hk2' (hb1.trans hb2) (fun g hg => (hg2 g hg).trans (hg1 g hg))).mono ?_
  rintro e w3 ⟨rfl, hk3', hb3, hg3⟩
  go_wp2_with fail
  go_ret
  exact ⟨rfl, hk3', (hb1.trans hb2).trans hb3, fun g hg => (hg3 g hg).trans ((hg2 g hg).trans (hg1 g hg))⟩

theorem froot_any (K : Nat → Int) (p : Nat) (G : Nat → Prop) (hp : 1 < p) : ∀ (n : Nat) (ls : List ByteArray) (g off cap : Nat) (w : World) (ts : List ByteArray), ls.length = n → 0 < n → n ≤ 2147483647 → n ≤ cap → G g → (∀ j (h : j < ls.length), w.cell? ⟨g, off + j, none⟩ = some (.string (ls[j]'h))) → (∀ s ∈ ls, s.size ≤ 100000) → kSt K p G w ts → ts.length + 2 * n ≤ 1000000 → Tab K w →
    Calls Tryz.prog 28 #[.pointer (some ⟨p, 0, none⟩), .slice (some ⟨g, off, none⟩) n cap] w (kPo K p G w (ts ++ rootT (sumOf K) ls) (rootF (sumOf K) ls)) := by
  intro n
  induction n using Nat.strongRecOn with
  | _ n ih =>
  intro ls g off cap w ts hn hn0 hn1 hcap hg hc hs hk ht T
  have hszF : ∀ l, (rootF (sumOf K) l).size = 32 := rootF_size (sumOf K) (sumOf_size K)
  by_cases h1 : n = 1
  · subst h1
    obtain ⟨s, rfl⟩ : ∃ s, ls = [s] := List.length_eq_one_iff.1 hn
    rw [rootT_one]
    have hss := hs s (by simp)
    refine froot_one K p G w g off cap s _ _ (by have := hc 0 (by simp); simpa using this) hss ?_
    have hm : (m0 ++ s).size ≤ 140737488355000 := by rw [ByteArray.size_append, m0_size]; omega
    have := kof_st K p G w ts (m0 ++ s) hk (by omega) hm T
    rw [show rootF (sumOf K) [s] = sumOf K (m0 ++ s) by rw [rootF]]
    exact this
  · have h2 : 2 ≤ ls.length := by omega
    have hk0 := halfN_pos ls.length
    have hk1 := halfN_lt h2
    have lT := rootT_len (sumOf K) _ (ls.take (halfN ls.length)) rfl (by simp; omega)
    have lD := rootT_len (sumOf K) _ (ls.drop (halfN ls.length)) rfl (by simp; omega)
    have nT : (ls.take (halfN ls.length)).length = halfN ls.length := by simp; omega
    have nD : (ls.drop (halfN ls.length)).length = ls.length - halfN ls.length := by simp
    rw [nT] at lT
    rw [nD] at lD
    rw [rootT_more _ h2, rootF_more _ h2, ← List.append_assoc, ← List.append_assoc]
    rw [← hn]
    refine froot_more K p G w g off cap ls.length (halfN ls.length) (rootF (sumOf K) (ls.take (halfN ls.length))) (rootF (sumOf K) (ls.drop (halfN ls.length))) _ (ts ++ rootT (sumOf K) (ls.take (halfN ls.length))) (ts ++ rootT (sumOf K) (ls.take (halfN ls.length)) ++ rootT (sumOf K) (ls.drop (halfN ls.length))) _ h2 (by omega) hk0 hk1 (by omega) (hszF _) (hszF _) (fun W => half_any ls.length W h2 (by omega)) ?_ ?_ ?_
    · refine ih (halfN ls.length) (by omega) (ls.take (halfN ls.length)) g off cap w ts nT hk0 (by omega) (by omega) hg (fun j hj => ?_) (fun s hs' => hs s (List.mem_of_mem_take hs')) hk (by omega) T
      rw [List.getElem_take]; exact hc j (by simp at hj; omega)
    · intro W hkW hbW hgW
      refine ih (ls.length - halfN ls.length) (by omega) (ls.drop (halfN ls.length)) g (off + halfN ls.length) (cap - halfN ls.length) W _ nD (by omega) (by omega) (by omega) hg (fun j hj => ?_) (fun s hs' => hs s (List.mem_of_mem_drop hs')) hkW (by simp; omega) (T.belowq hp hbW)
      rw [List.getElem_drop, Nat.add_assoc, cell_sameB (hgW g hg)]
      exact hc _ (by simp at hj; omega)
    · intro W hkW hbW hgW
      have hm : (m1 ++ rootF (sumOf K) (ls.take (halfN ls.length)) ++ rootF (sumOf K) (ls.drop (halfN ls.length))).size ≤ 140737488355000 := by
        rw [ByteArray.size_append, ByteArray.size_append, hszF, hszF, m1_size]; omega
      exact kof_st K p G W _ _ hkW (by simp; omega) hm (T.belowq hp hbW)
def nibV (h : ByteArray) (m : Nat) : List Value := (List.range m).map fun c => .int .i64 (nib h c : Nat)
theorem nibV_two (h : ByteArray) (k : Nat) : nibV h (2 * (k + 1)) = nibV h (2 * k) ++ [.int .i64 (nib h (2 * k) : Nat), .int .i64 (nib h (2 * k + 1) : Nat)] := by
  unfold nibV; rw [show 2 * (k + 1) = 2 * k + 1 + 1 by omega, List.range_succ, List.range_succ]; simp
theorem digV_eq (h : ByteArray) : digV h = nibV h 64 ++ [.int .i64 (lackN h 64 / 256 : Nat), .int .i64 (lackN h 64 / 16 % 16 : Nat), .int .i64 (lackN h 64 % 16 : Nat)] := by
  unfold digV nibV
  rw [show (67 : Nat) = 64 + 1 + 1 + 1 from rfl, List.range_succ, List.range_succ, List.range_succ, List.map_append, List.map_append, List.map_append]
  have : (List.range 64).map (fun c => Value.int .i64 (dig h c : Nat)) = (List.range 64).map (fun c => Value.int .i64 (nib h c : Nat)) := by
    apply List.map_congr_left
    intro c hc
    have := List.mem_range.1 hc
    unfold dig; rw [if_pos this]
  rw [this]
  simp [dig]
theorem info_intT : ∃ i, Tryz.prog.info? 3 = some i ∧ i.zero = some (.int .i64 0) ∧ i.size = 1 ∧ i.bytes = 8 := by
  obtain ⟨i, hi⟩ : ∃ i, Tryz.prog.info? 3 = some i := Option.isSome_iff_exists.1 (by kernel_rfl)
  refine ⟨i, hi, ?_, ?_, ?_⟩
  · have : (Tryz.prog.info? 3).bind (·.zero) = some (.int .i64 0) := by kernel_rfl
    rw [hi] at this; exact this
  · have : (Tryz.prog.info? 3).map (·.size) = some 1 := by kernel_rfl
    rw [hi] at this; exact Option.some.inj this
  · have : (Tryz.prog.info? 3).map (·.bytes) = some 8 := by kernel_rfl
    rw [hi] at this; exact Option.some.inj this
def digPost (h : ByteArray) (w : World) (e : Ending) (w' : World) : Prop := ∃ ao cap, e = .returned (.slice ao 67 cap) ∧ w'.ownsRow w.heap.size 3 1 (.slice ao 67 cap) 67 (digV h) ∧ Below w.heap.size w w'

set_option maxRecDepth 10000 in
set_option maxHeartbeats 2000000 in
theorem kdigits_any (h : ByteArray) (hh : h.size = 32) (w : World) : Calls Tryz.prog 46 #[.string h] w (digPost h w) := by
  obtain ⟨i0, hi, hz, hsz, hby⟩ := info_intT
  have HOWN : Hid (w.ownsRow w.heap.size 3 1 (.slice none 0 0) 0 []) := World.ownsRow_nil _ _ _ _
  go_enter Tryz.func46, Tryz.ntmps46
  go_wp2_with fail
  go_loopw [3, 4, 5] (fun l s i wr => ∃ (k m : Nat) (ao : Option Addr) (cap : Nat), k ≤ 32 ∧ m = 2 * k ∧ i = .int .i64 k ∧ s = .int .i64 (lackN h m : Nat) ∧ l = .slice ao m cap ∧ Hid (wr.ownsRow w.heap.size 3 1 (.slice ao m cap) m (nibV h m) ∧ Below w.heap.size w wr)) (fun _ _ i _ => 32 - (intOf i).toNat)
  case atStart => exact ⟨0, 0, none, 0, by omega, rfl, rfl, rfl, rfl, HOWN.out, Below.refl _ _⟩
  case round =>
    obtain ⟨k, m, ao, cap, hk, hm, rfl, rfl, rfl, hI⟩ := hrel
    by_cases hlt : k < 32
    · have k1 : (k : Int) < 32 := by omega
      have b8 := bAt_lt h k
      have blo := bAt_lo h k
      obtain ⟨x, hx⟩ : ∃ x, x = (bAt h k).toNat := ⟨_, rfl⟩
      have hx2 : bAt h k = (x : Int) := by omega
      rw [← hx] at b8
      have ha := and15 ⟨x, b8⟩
      simp only at ha
      have hgx : ∀ p : k < h.size, (h[k]'p).toNat = x := fun p => by
        have e := bAt_eq h k p
        rw [hx2] at e
        exact Int.ofNat_inj.1 e
      have hl2 := lack_two h k
      rw [← hx] at hl2
      have hlk := lackN_le h (2 * k)
      rw [← hm] at hlk hl2
      have e0 : nib h (2 * k) = x / 16 := by unfold nib; rw [if_pos (by omega), show 2 * k / 2 = k by omega, hx]
      have e1 : nib h (2 * k + 1) = x % 16 := by unfold nib; rw [if_neg (by omega), show (2 * k + 1) / 2 = k by omega, hx]
      have hnv := nibV_two h k
      rw [e0, e1, ← hm, show ((x / 16 : Nat) : Int) = (x : Int) / 16 by omega, show ((x % 16 : Nat) : Int) = (x : Int) % 16 by omega, show 2 * (k + 1) = m + 2 by omega] at hnv
      rw [show 2 * (k + 1) = m + 2 by omega] at hl2
      have HNV : Hid (nibV h (m + 2) = nibV h m ++ [.int .i64 ((x : Int) / 16), .int .i64 ((x : Int) % 16)]) := hnv
      have HL2 : Hid (lackN h (m + 2) = lackN h m + (15 - x / 16) + (15 - x % 16)) := hl2
      generalize lackN h m = L at *
      have HOW : Hid (wr.ownsRow w.heap.size 3 1 (.slice ao m cap) m (nibV h m)) := hI.out.1
      have HB : Hid (Below w.heap.size w wr) := hI.out.2
      have HM : Hid (m = 2 * k) := hm
      have hm64 : m ≤ 64 := by omega
      have hw1 : IntKind.i64.wrap ((x : Int) / 16) = (x : Int) / 16 := wrap_small _ (by omega) (by omega)
      have hw2 : IntKind.i64.wrap ((x : Int) % 16) = (x : Int) % 16 := wrap_small _ (by omega) (by omega)
      clear hI hnv hl2 e0 e1 hx hx2 hm
      go_wp2_with fail
      have B0 : Below w.heap.size w wr.drew := HB.out.drew
      have hoA : wr.drew.ownsRow w.heap.size 3 1 (.slice ao m cap) m (nibV h m) := own_below' HOW.out (Below.refl _ _).drew
      refine wp_region_noPanic ?_
      refine wp_region_held_drew (S := fun W => Below w.heap.size w W) (by kernel_rfl) B0 (fun _ => ?_)
      generalize wr.drew = wd at *
      refine tk 0 B0 ?_
      refine tk 1 B0 ?_
      refine tk 2 B0 ?_
      refine tk 3 B0 ?_
      refine tk 4 B0 ?_
      refine tk 5 B0 ?_
      refine tk 6 B0 ?_
      refine tk 7 B0 ?_
      refine tk 8 B0 ?_
      refine tk 9 B0 ?_
      refine tk 10 B0 ?_
      refine rk 11 (fun K hK => ?_)
      go_simp
      have hb4 : Below wd.heap.size wd (wd.alloc (.cells #[.int .i64 ((x : Int) / 16), .int .i64 ((x : Int) % 16)] 3)) := (Below.refl _ _).alloc (Nat.le_refl _) _
      have B4 : Below w.heap.size w (wd.alloc (.cells #[.int .i64 ((x : Int) / 16), .int .i64 ((x : Int) % 16)] 3)) := B0.trans (hb4.mono B0.size)
      have ho4 := own_below' hoA hb4
      have hnews : ∀ j u, ([.int .i64 ((x : Int) / 16), .int .i64 ((x : Int) % 16)] : List Value)[j]? = some u → (wd.alloc (.cells #[.int .i64 ((x : Int) / 16), .int .i64 ((x : Int) % 16)] 3)).cell? ((⟨wd.heap.size, 0, none⟩ : Addr).add j) = some u := World.news_of_block (heap_alloc_new wd (.cells #[.int .i64 ((x : Int) / 16), .int .i64 ((x : Int) % 16)] 3))
      refine hK.out _ _ B4 (fun _ => ?_)
      clear hK K
      try simp only [qA, qB, qC, Act.put, qD, qE, qF]
      refine rk 12 (fun K hK => ?_)
      refine wp_append_lies _ (.tmp 12) (.tmp 23) 46 rfl w.heap.size 3 i0 _ 1 8 Tryz.underlying46 hi hz hsz hby rfl (by decide) (.slice ao m cap) m _ rfl ho4 ⟨wd.heap.size, 0, none⟩ 2 2 [.int .i64 ((x : Int) / 16), .int .i64 ((x : Int) % 16)] rfl rfl hnews (by simp [Value.oneCell']) (by decide) (by unfold maxLen; omega) (by omega) B4.size _ rfl ?_
      intro g5 cap5 w5 ho5 hgr5 hat5 hlt5
      have B5 : Below w.heap.size w w5 := B4.trans ((Below.refl _ _).grown hgr5 B4.size (fun k hk => (ho4.lt k hk).1))
      refine hK.out _ _ B5 (fun _ => ?_)
      clear hK K
      try simp only [qA, qB, qC, Act.put, qD, qE, qF]
      refine rk 13 (fun K hK => ?_)
      go_simp
      refine hK.out _ _ B5 (fun _ => ?_)
      clear hK K
      try simp only [qA, qB, qC, Act.put, qD, qE, qF]
      refine ⟨by kernel_rfl, ?_⟩
      refine NoPanic.normal ?_
      try simp only [qA, qB, qC, Act.put, qD, qE, qF]
      go_wp2_with fail
      have ho6 : w5.ownsRow w.heap.size 3 1 (.slice (some ⟨g5, 0, none⟩) (m + 2) cap5) (m + 2) (nibV h (m + 2)) := by rw [HNV.out]; exact ho5
      have HO6 : Hid (w5.ownsRow w.heap.size 3 1 (.slice (some ⟨g5, 0, none⟩) (m + 2) cap5) (m + 2) (nibV h (m + 2))) := ho6
      have HB6 : Hid (Below w.heap.size w w5) := B5
      clear ho4 ho5 ho6 hgr5 hat5 hlt5 B0 B4 B5 hb4 hnews hoA HB HOW HNV
      have hw3 : IntKind.i64.wrap ((L : Int) + 30) = (L : Int) + 30 := wrap_small _ (by omega) (by omega)
      have hw4 : IntKind.i64.wrap ((L : Int) + 30 - (x : Int) / 16) = (L : Int) + 30 - (x : Int) / 16 := wrap_small _ (by omega) (by omega)
      have hw5 : IntKind.i64.wrap ((L : Int) + 30 - (x : Int) / 16 - (x : Int) % 16) = (L : Int) + 30 - (x : Int) / 16 - (x : Int) % 16 := wrap_small _ (by omega) (by omega)
      go_quiet (fail)
      go_wp2_with fail
      refine ⟨⟨k + 1, m + 2, some ⟨g5, 0, none⟩, cap5, by omega, by have := HM.out; omega, by go_num, ?_, rfl, ?_, ?_⟩, ?_⟩
      · rw [HL2.out]; congr 1; omega
      · exact own_below' HO6.out (below_draws (Below.refl _ _) _)
      · exact below_draws HB6.out _
      · simp [intOf]; omega
    · obtain rfl : k = 32 := by omega
      obtain rfl : m = 64 := by omega
      have hlk := lackN_le h 64
      have HDV := digV_eq h
      obtain ⟨L, hL⟩ : ∃ L, L = lackN h 64 := ⟨_, rfl⟩
      rw [← hL] at hlk HDV ⊢
      obtain ⟨A, hA⟩ : ∃ A, A = L / 256 := ⟨_, rfl⟩
      obtain ⟨B1, hB1⟩ : ∃ B1, B1 = L / 16 := ⟨_, rfl⟩
      obtain ⟨B2, hB2⟩ : ∃ B2, B2 = B1 % 16 := ⟨_, rfl⟩
      obtain ⟨C, hC⟩ : ∃ C, C = L % 16 := ⟨_, rfl⟩
      rw [← hA, ← hB1, ← hB2, ← hC] at HDV
      have HD : Hid (digV h = nibV h 64 ++ [.int .i64 (A : Int), .int .i64 (B2 : Int), .int .i64 (C : Int)]) := HDV
      have q1 : (L : Int).tdiv 256 = (A : Int) := by rw [Int.tdiv_eq_ediv_of_nonneg (by omega)]; omega
      have q2 : (L : Int).tdiv 16 = (B1 : Int) := by rw [Int.tdiv_eq_ediv_of_nonneg (by omega)]; omega
      have r2 : (B1 : Int).tmod 16 = (B2 : Int) := by rw [Int.tmod_eq_emod_of_nonneg (by omega)]; omega
      have r3 : (L : Int).tmod 16 = (C : Int) := by rw [Int.tmod_eq_emod_of_nonneg (by omega)]; omega
      have q1' : (L : Int) / 256 = (A : Int) := by omega
      have q2' : (L : Int) / 16 = (B1 : Int) := by omega
      have r2' : (B1 : Int) % 16 = (B2 : Int) := by omega
      have r3' : (L : Int) % 16 = (C : Int) := by omega
      clear HDV hA hB1 hB2 hC hL
      have HB : Hid (Below w.heap.size w wr) := hI.out.2
      have ho4 : (wr.alloc (.cells #[.int .i64 (A : Int), .int .i64 (B2 : Int), .int .i64 (C : Int)] 3)).ownsRow w.heap.size 3 1 (.slice ao 64 cap) 64 (nibV h 64) := hI.out.1.alloc _
      have hnews : ∀ j u, ([.int .i64 (A : Int), .int .i64 (B2 : Int), .int .i64 (C : Int)] : List Value)[j]? = some u → (wr.alloc (.cells #[.int .i64 (A : Int), .int .i64 (B2 : Int), .int .i64 (C : Int)] 3)).cell? ((⟨wr.heap.size, 0, none⟩ : Addr).add j) = some u := World.news_of_block (heap_alloc_new wr (.cells #[.int .i64 (A : Int), .int .i64 (B2 : Int), .int .i64 (C : Int)] 3))
      have hBs := hI.out.2.size
      clear hI
      go_wp2_with (refine wpList_append_lies _ rfl _ _ 46 rfl w.heap.size 3 i0 _ 1 8 Tryz.underlying46 hi hz hsz hby rfl (by decide) (.slice ao 64 cap) 64 _ rfl ho4 ⟨wr.heap.size, 0, none⟩ 3 3 [.int .i64 (A : Int), .int .i64 (B2 : Int), .int .i64 (C : Int)] rfl rfl hnews (by simp [Value.oneCell']) (by decide) (by unfold maxLen; omega) (by omega) (by simp; omega) _ rfl ?_; intro g5 cap5 w5 ho5 hgr5 hat5 hlt5)
      go_ret
      refine ⟨some ⟨g5, 0, none⟩, cap5, rfl, ?_, ?_⟩
      · rw [HD.out]; exact ho5
      · exact HB.out.trans (((Below.refl _ _).alloc hBs _).trans ((Below.refl _ _).grown hgr5 (by simp; omega) (fun g e => (ho4.lt g e).1)))
end Go.Proofs.YteglimjonofdeaaGreatDoor
