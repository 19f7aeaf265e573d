import Derived.Test.YteglimjonofdeaaGreatDoorOOpenM
import Derived.Test.YteglimjonofdeaaGreatDoorOTold2
import Derived.BigQuiet
set_option linter.unusedVariables false
set_option linter.unusedSimpArgs false
namespace Go.Proofs.YteglimjonofdeaaGreatDoor
open Go.RowKit

theorem oba_self (x : ByteArray) : (x == x) = true := by
  show (x.data == x.data) = true
  simp
theorem info_ask (a : Ask5) : (Tryz.prog.info? 32).map (·.size) = some a.cells.length := by show _ = some 5; kernel_rfl
theorem AsksAt.slice {W : World} {v : Value} {l : List Ask5} (h : AsksAt W v l) : ∃ ao cap, v = .slice ao l.length cap := by
  rcases h.at_ with ⟨⟨ao, cap, rfl⟩, rfl⟩ | ⟨g, off, cap, rfl, _⟩
  · exact ⟨ao, cap, rfl⟩
  · exact ⟨_, _, rfl⟩
/-- What the law's loop keeps. -/
def OnceAt (K : Nat → Int) (B xn k : Nat) (w W : World) : Prop := Below w.heap.size w W ∧ ∃ z nd q bb j C lk bk lm m lv L G F D, Onc K z 0 200 B xn (k + 1) nd q bb j C lk bk lm m lv L G F D W
theorem rq_old {W : World} {b : Nat} {c n o p v : Int} {t : ByteArray} (h : W.rangeAt b 0 (rqCells c n o p v t)) : (W.setCell ⟨b, 1, none⟩ (.int .i64 1)).rangeAt b 0 (rqCells c 1 o p v t) := by
  intro i x hx
  by_cases e : i = 1
  · subst e; exact (World.cell?_setCell_same _ ⟨b, 1, none⟩ _ (u := .int .i64 n) (h 1 _ rfl)).trans hx
  · rw [World.cell?_setCell_other _ _ _ _ (by intro e2; have := congrArg Addr.off e2; simp at this; omega)]
    refine h i x ?_
    match i, e, hx with
    | 0, _, hx => exact hx
    | i + 2, _, hx => exact hx
theorem rq_one_whole {c n o p v : Int} {t : ByteArray} (h : rqWhole c n o p v t = true) : rqWhole c 1 o p v t = true := by
  obtain ⟨h1, h2, h3, h4, h5, h6⟩ := rq_bounds h
  exact rq_whole _ _ _ _ _ _ h1 (by omega) h3 h4 h5 h6
set_option maxRecDepth 10000 in
set_option maxHeartbeats 8000000 in
theorem once_any (K : Nat → Int) (v : Value) (l : List Ask5) (w : World) (h : AsksAt w v l) (hn : l.length ≤ 140737488355328) (hok : ∀ o ∈ l, o.ok) (T : Tab K w) (hK : ∀ j, j < 64 → K j = ((tabN.getD j 0 : Nat) : Int)) (hE : w.cell? ⟨0, 0, none⟩ = some errTypeV) (hEl : 0 < w.heap.size) :
    Calls Tryz.prog 3 #[v] w fun e w' => e = .returned (.bool true) ∧ Below w.heap.size w w' := by
  have HOK : Hid (∀ o ∈ l, o.ok) := hok
  have HL : Hid (AsksAt w v l) := h
  have HT : Hid (Tab K w) := T
  have HE : Hid (w.cell? ⟨0, 0, none⟩ = some errTypeV) := hE
  have HNO := hno_200 K hK
  obtain ⟨ao, cap, rfl⟩ := h.slice
  obtain ⟨len, hlen⟩ : ∃ len, len = l.length := ⟨_, rfl⟩
  have HLEN : Hid (len = l.length) := hlen
  rw [← hlen] at hn ⊢
  have hseed := oseed_any 1 K w (by omega) (by omega) T
  clear hok h T hE hlen
  go_enter Tryz.func3, Tryz.ntmps3
  go_wp2_with fail
  refine hseed.mono ?_
  rintro e W1 ⟨s, rfl, hs, b1⟩
  have hal := alone_any K 0 200 s W1 (by omega) (by omega) (by omega) (by omega) hs (HT.out.below b1) HNO
  have HB1 : Hid (Below w.heap.size w W1) := b1
  clear hseed b1 HNO
  go_wp2_with fail
  refine hal.mono ?_
  rintro e W2 ⟨pd, xn, nd, q, bb, j, C, lk, bk, lm, m, lv, L, G, F, D, rfl, O2, b2⟩
  have HS : Hid (OnceAt K W1.heap.size xn 0 w W2) := ⟨HB1.out.trans (b2.mono HB1.out.size), _, nd, q, bb, j, C, lk, bk, lm, m, lv, L, G, F, D, O2⟩
  have hs1 := HB1.out.size
  clear hal O2 b2
  go_wp2_with fail
  go_loopw [5] (fun i wr => ∃ k : Nat, i = .int .i64 k ∧ k ≤ 60 ∧ Hid (OnceAt K W1.heap.size xn k w wr)) (fun i _ => 61 - (intOf i).toNat)
  case atStart => exact ⟨0, rfl, by omega, HS⟩
  case round =>
    obtain ⟨k, rfl, hk, hR⟩ := hrel
    by_cases hlt : k < len ∧ k < 60
    · obtain ⟨hk1, hk2⟩ := hlt
      have q1 : (k : Int) < (len : Int) := by omega
      have q2 : (k : Int) < 60 := by omega
      have q0 : (0 : Int) ≤ (k : Int) := by omega
      have hkl : k < l.length := by have := HLEN.out; omega
      obtain ⟨z, nd, q, bb, j, C, lk, bk, lm, m, lv, L, G, F, D, O0⟩ := hR.out.2
      obtain ⟨g, off, hao, hc⟩ : ∃ g off, ao = some ⟨g, off, none⟩ ∧ ∀ i o, l[i]? = some o → w.rangeAt g (off + i * 5) o.cells := by
        rcases HL.out.at_ with ⟨e, rfl⟩ | ⟨g, off, cap', e, h⟩
        · simp at hkl
        · exact ⟨g, off, by injection e, h⟩
      subst hao
      obtain ⟨a, ha⟩ : ∃ a, a = l[k] := ⟨_, rfl⟩
      have hgl : g < w.heap.size := World.block_lt_of_cell? w _ (hc k a (by rw [List.getElem?_eq_getElem hkl, ha]) 0 _ rfl)
      have ra : wr.rangeAt g (off + k * 5) a.cells := fun x u hu => (hR.out.1.cell (p := ⟨g, off + k * 5 + x, none⟩) hgl).trans (hc k a (by rw [List.getElem?_eq_getElem hkl, ha]) x u hu)
      have hia := info_ask a
      have hreq := request_any a ((k : Int) + 2) wr (HOK.out a (by rw [ha]; exact List.getElem_mem hkl)) (by omega)
      clear hc ha
      generalize hac : a.cells.toArray = acs at hreq
      go_wp2_with (first | (refine wpList_load_mid rfl 32 _ rfl g (off + k * 5) rfl a.cells _ ra Tryz.underlying32 rfl hia ?_; rw [hac]))
      refine hreq.mono ?_
      obtain ⟨n, hnn⟩ : ∃ n : Int, n = (k : Int) + 2 := ⟨_, rfl⟩
      rw [← hnn]
      rintro e R1 ⟨c, o, p, vr, t, rfl, hw, b01⟩
      have sz1 := b01.size
      obtain ⟨R2, h2⟩ : ∃ X, X = R1.alloc (.cells (rqCells 0 0 0 0 0 ⟨#[]⟩).toArray 29) := ⟨_, rfl⟩
      have b12 : Below R1.heap.size R1 R2 := by rw [h2]; exact (Below.refl _ _).alloc (Nat.le_refl _) _
      have t2 : R2.there R1.heap.size 0 (rqCells c n o p vr t).length := by rw [h2]; exact there_new R1 (rqCells 0 0 0 0 0 ⟨#[]⟩).toArray _
      have sz2 : R2.heap.size = R1.heap.size + 1 := by rw [h2]; simp
      have B02 : Hid (Below wr.heap.size wr R2) := b01.trans (b12.mono sz1)
      have HQI := info_rq c n o p vr t
      have HQO := rq_one c n o p vr t
      have HO0 : Hid (Onc K z 0 200 W1.heap.size xn (k + 1) nd q bb j C lk bk lm m lv L G F D wr) := O0
      clear hreq b01 b12 O0 ra hac
      generalize hrq : (rqCells c n o p vr t).toArray = rqa at *
      go_wp2_with (first
        | (refine wpList_alloc_of rfl 29 rfl (rqCells 0 0 0 0 0 ⟨#[]⟩).toArray alloc_rq ?_; rw [← h2]; clear h2)
        | (refine wpList_store_abs rfl 29 _ _ rfl R1.heap.size 0 (rqCells c n o p vr t) rfl (by rw [hrq]; rfl) t2 HQI HQO ?_
           intro R3 hw3 hr3 _ht3 hb3
           have sz3 : R3.heap.size = R1.heap.size + 1 := (by rw [hw3, size_setCells]; exact sz2)
           have B03 : Hid (Below wr.heap.size wr R3) := B02.out.trans (hb3 wr.heap.size sz1)
           have O3 : Hid (Onc K z 0 200 W1.heap.size xn (k + 1) nd q bb j C lk bk lm m lv L G F D R3) := HO0.out.fresh B03.out
           clear _ht3 hw3 hb3 t2)
        | (refine wpList_load_mid rfl 29 _ rfl R1.heap.size 0 rfl (rqCells c n o p vr t) _ hr3 Tryz.underlying29 rfl HQI ?_; rw [hrq]))
      have hnew := o_new K z 0 200 W1.heap.size xn (k + 1) nd q bb j C lk bk lm m lv L G F D c n o p vr t R3 O3.out hw (by omega) (by omega) (by omega) (by omega)
      rw [hrq] at hnew
      refine hnew.mono ?_
      rintro e R4 ⟨C', lk', lv', G', F', L', D', en, b1, rfl, O4, pk4, b4, hl4, hi4, hc4, k4⟩
      have sz4 := k4.size
      have r4 : R4.rangeAt R1.heap.size 0 (rqCells c n o p vr t) := range_kept hr3 k4 (by omega) (fun e => by
        rcases e with e | e
        · have := HO0.out.al.jat.ownLt _ e; omega
        · have := HO0.out.al.book.ownLt _ e; omega)
      have HO4 : Hid (Onc K z 0 200 W1.heap.size xn (k + 2) nd q bb j C' lk' bk lm m lv' L' G' F' D' R4) := O4
      have HL4 : Hid (lastIs L' D' c n (k + 2) ∧ L'[k + 1]? = some en) := ⟨hl4, hi4⟩
      have HP4 : Hid (b1 < R4.heap.size ∧ R4.rangeAt b1 0 (pkOf en)) := pk4.2
      have B04 : Hid (Below w.heap.size w R4) := (hR.out.1.trans (B03.out.mono hR.out.1.size)).trans (b4.mono hs1)
      obtain ⟨es, clock, hm4, _⟩ := O4.al.book.recs.map.block
      have hsee := o_see K z 0 200 W1.heap.size xn (k + 2) nd q bb j C' lk' bk lm m lv' L' G' F' D' es clock R4 O4 hm4 (by omega)
      have HM4 : Hid (R4.heap[m]? = some (.map es clock)) := hm4
      obtain ⟨st, hst⟩ : ∃ st, st = stG ((k + 2 : Nat) : Int) ((k + 2 : Nat) : Int) ((es.size : Nat) : Int) ((0 : Nat) : Int) := ⟨_, rfl⟩
      have HSI : (Tryz.prog.info? 39).map (·.size) = some st.length := by rw [hst]; exact st_info _ _ _ _
      have HSO : ∀ u ∈ st, u.oneCell' = true := by rw [hst]; exact st_one _ _ _ _
      have HST : Hid (st = stG ((k + 2 : Nat) : Int) ((k + 2 : Nat) : Int) ((es.size : Nat) : Int) ((0 : Nat) : Int)) := hst
      have stl : st.length = 4 := by rw [hst]; rfl
      rw [← hst] at hsee
      clear hnew O4 pk4 b4 hl4 hi4 k4 hm4 hr3 hst
      generalize hsta : st.toArray = sta at *
      go_wp2_with fail
      refine hsee.mono ?_
      rintro e R5 ⟨rfl, b45⟩
      have sz5 := b45.size
      obtain ⟨R6, h6⟩ : ∃ X, X = R5.alloc (.cells (stG 0 0 0 0).toArray 39) := ⟨_, rfl⟩
      have b56 : Below R5.heap.size R5 R6 := by rw [h6]; exact (Below.refl _ _).alloc (Nat.le_refl _) _
      have sz6 : R6.heap.size = R5.heap.size + 1 := by rw [h6]; simp
      have t6 : R6.there R5.heap.size 0 st.length := by rw [h6, stl]; exact there_new R5 (stG 0 0 0 0).toArray _
      have B46 : Hid (Below R4.heap.size R4 R6) := b45.trans (b56.mono sz5)
      clear hsee b45 b56
      go_wp2_with (first
        | (refine wpList_alloc_of rfl 39 rfl (stG 0 0 0 0).toArray alloc_st ?_; rw [← h6]; clear h6)
        | (refine wpList_store_abs rfl 39 _ _ rfl R5.heap.size 0 st rfl (by rw [hsta]; rfl) t6 HSI HSO ?_
           intro R7 hw7 hr7 _ht7 hb7
           have sz7 : R7.heap.size = R5.heap.size + 1 := (by rw [hw7, size_setCells]; exact sz6)
           have B47 : Hid (Below R4.heap.size R4 R7) := B46.out.trans (hb7 R4.heap.size sz5)
           have O7 : Hid (Onc K z 0 200 W1.heap.size xn (k + 2) nd q bb j C' lk' bk lm m lv' L' G' F' D' R7) := HO4.out.fresh B47.out
           have r7 : R7.rangeAt R1.heap.size 0 (rqCells c n o p vr t) := range_kept r4 (Kept.fresh (S := fun _ => False) B47.out) (by omega) id
           have HS7 : Hid (R7.rangeAt R5.heap.size 0 st) := hr7
           clear _ht7 hw7 hb7 t6 hr7)
        | (refine wpList_load_mid rfl 29 _ rfl R1.heap.size 0 rfl (rqCells c n o p vr t) _ r7 Tryz.underlying29 rfl HQI ?_; rw [hrq]))
      have hag := o_again K z 0 200 W1.heap.size xn (k + 2) nd q bb j C' lk' bk lm m lv' L' G' F' D' c n o p vr t (k + 1) en R7 O7.out hw HL4.out.1 HL4.out.2 (by omega)
      rw [hrq] at hag
      refine hag.mono ?_
      rintro e R8 ⟨b2, rfl, pk8, b78⟩
      have sz8 := b78.size
      have HP8 : Hid (b2 < R8.heap.size ∧ R8.rangeAt b2 0 (pkOf en)) := pk8.2
      have O8 : Hid (Onc K z 0 200 W1.heap.size xn (k + 2) nd q bb j C' lk' bk lm m lv' L' G' F' D' R8) := O7.out.fresh b78
      have hm8 : R8.heap[m]? = some (.map es clock) := (b78.block m (by have := block_lt HM4.out; omega)).trans ((B47.out.block m (block_lt HM4.out)).trans HM4.out)
      have hsee := o_see K z 0 200 W1.heap.size xn (k + 2) nd q bb j C' lk' bk lm m lv' L' G' F' D' es clock R8 O8.out hm8 (by omega)
      rw [← HST.out, hsta] at hsee
      have r8 : R8.rangeAt R1.heap.size 0 (rqCells c n o p vr t) := range_kept r7 (Kept.fresh (S := fun _ => False) b78) (by omega) id
      have B78 : Hid (Below R7.heap.size R7 R8) := b78
      clear hag pk8 b78 hm8 r7 r4
      go_wp2_with fail
      refine hsee.mono ?_
      rintro e R9 ⟨rfl, b89⟩
      have sz9 := b89.size
      obtain ⟨R10, h10⟩ : ∃ X, X = R9.alloc (.cells (stG 0 0 0 0).toArray 39) := ⟨_, rfl⟩
      have b910 : Below R9.heap.size R9 R10 := by rw [h10]; exact (Below.refl _ _).alloc (Nat.le_refl _) _
      have sz10 : R10.heap.size = R9.heap.size + 1 := by rw [h10]; simp
      have t10 : R10.there R9.heap.size 0 st.length := by rw [h10, stl]; exact there_new R9 (stG 0 0 0 0).toArray _
      have B810 : Hid (Below R8.heap.size R8 R10) := b89.trans (b910.mono sz9)
      clear hsee b89 b910
      go_wp2_with (first
        | (refine wpList_alloc_of rfl 39 rfl (stG 0 0 0 0).toArray alloc_st ?_; rw [← h10]; clear h10)
        | (refine wpList_store_abs rfl 39 _ _ rfl R9.heap.size 0 st rfl (by rw [hsta]; rfl) t10 HSI HSO ?_
           intro R11 hw11 hr11 _ht11 hb11
           have sz11 : R11.heap.size = R9.heap.size + 1 := (by rw [hw11, size_setCells]; exact sz10)
           have B811 : Hid (Below R8.heap.size R8 R11) := B810.out.trans (hb11 R8.heap.size sz9)
           have O11 : Hid (Onc K z 0 200 W1.heap.size xn (k + 2) nd q bb j C' lk' bk lm m lv' L' G' F' D' R11) := O8.out.fresh B811.out
           have r11 : R11.rangeAt R1.heap.size 0 (rqCells c n o p vr t) := range_kept r8 (Kept.fresh (S := fun _ => False) B811.out) (by omega) id
           have HS11 : Hid (R11.rangeAt R9.heap.size 0 st) := hr11
           obtain ⟨R12, h12⟩ : ∃ X, X = R11.alloc (.cells (rqCells 0 0 0 0 0 ⟨#[]⟩).toArray 29) := ⟨_, rfl⟩
           have b1112 : Below R11.heap.size R11 R12 := (by rw [h12]; exact (Below.refl _ _).alloc (Nat.le_refl _) _)
           have sz12 : R12.heap.size = R9.heap.size + 2 := (by rw [h12]; simp; omega)
           have t12 : R12.there (R9.heap.size + 1) 0 (rqCells c n o p vr t).length := (by have := there_new R11 (rqCells 0 0 0 0 0 ⟨#[]⟩).toArray 29; rw [← h12, sz11] at this; exact this)
           have B1112 : Hid (Below R11.heap.size R11 R12) := b1112
           clear _ht11 hw11 hb11 t10 hr11 b1112)
        | (refine wpList_load_mid rfl 29 _ rfl R1.heap.size 0 rfl (rqCells c n o p vr t) _ r11 Tryz.underlying29 rfl HQI ?_; rw [hrq])
        | (refine wpList_alloc_of rfl 29 rfl (rqCells 0 0 0 0 0 ⟨#[]⟩).toArray alloc_rq ?_; rw [← h12]; clear h12; rw [sz11])
        | (refine wpList_store_abs rfl 29 _ _ rfl (R9.heap.size + 1) 0 (rqCells c n o p vr t) rfl (by rw [hrq]; rfl) t12 HQI HQO ?_
           intro R13 hw13 hr13 ht13 hb13
           have sz13 : R13.heap.size = R9.heap.size + 2 := (by rw [hw13, size_setCells]; exact sz12)
           have B1113 : Hid (Below R11.heap.size R11 R13) := B1112.out.trans (hb13 R11.heap.size (by omega))
           have c13 : R13.cell? ⟨R9.heap.size + 1, 1, none⟩ = some (.int .i64 n) := hr13 1 _ rfl
           have f13 : R13.frozen? ⟨R9.heap.size + 1, 1, none⟩ = false := (ht13 1 (by show 1 < 6; omega)).2
           obtain ⟨R14, h14⟩ : ∃ X, X = R13.setCell ⟨R9.heap.size + 1, 1, none⟩ (.int .i64 1) := ⟨_, rfl⟩
           have r14 : R14.rangeAt (R9.heap.size + 1) 0 (rqCells c 1 o p vr t) := (by rw [h14]; exact rq_old hr13)
           have B1114 : Hid (Below R11.heap.size R11 R14) := (by show Below _ _ _; rw [h14]; exact B1113.out.setCell (p := ⟨R9.heap.size + 1, 1, none⟩) (by show _ ≤ R9.heap.size + 1; omega) _)
           have sz14 : R14.heap.size = R9.heap.size + 2 := (by rw [h14]; simp; exact sz13)
           have HQ1 := info_rq c 1 o p vr t
           clear hw13 ht13 hb13 t12 hr13)
        | (rw [← h14]; clear h14 c13 f13)
        | (refine wpList_load_mid rfl 29 _ rfl (R9.heap.size + 1) 0 rfl (rqCells c 1 o p vr t) _ r14 Tryz.underlying29 rfl HQ1 ?_))
      have O14 := O11.out.fresh B1114.out
      have hw1 : rqWhole c 1 o p vr t = true := rq_one_whole hw
      have hold := o_old K z 0 200 W1.heap.size xn (k + 2) nd q bb j C' lk' bk lm m lv' L' G' F' D' c 1 o p vr n t (k + 2) R14 O14 hw1 HL4.out.1 (by omega) (by omega)
      clear O14
      refine hold.mono ?_
      rintro e R15 ⟨rfl, b1415⟩
      have sz15 := b1415.size
      have B1115 : Hid (Below R11.heap.size R11 R15) := B1114.out.trans (b1415.mono (by omega))
      have hwl := B04.out.size
      have B4to11 : Hid (Below R4.heap.size R4 R11) := (B47.out.trans (B78.out.mono (by omega))).trans (B811.out.mono (by omega))
      have Bw15 : Hid (Below w.heap.size w R15) := (B04.out.trans (B4to11.out.mono (by omega))).trans (B1115.out.mono (by omega))
      have htl := told_hit 2 R15 ((Bw15.out.cell (p := ⟨0, 0, none⟩) hEl).trans HE.out) (by omega)
      clear hold b1415
      go_wp2_with fail
      refine htl.mono ?_
      rintro e R16 ⟨rfl, b1516⟩
      have sz16 := b1516.size
      have B1116 : Hid (Below R11.heap.size R11 R16) := B1115.out.trans (b1516.mono (by omega))
      have hb1l := HP4.out.1
      have hb2l := HP8.out.1
      have P1 : R16.rangeAt b1 0 (pkOf en) := range_kept (range_kept HP4.out.2 (Kept.fresh (S := fun _ => False) B4to11.out) hb1l id) (Kept.fresh (S := fun _ => False) B1116.out) (by omega) id
      have P2 : R16.rangeAt b2 0 (pkOf en) := range_kept (range_kept HP8.out.2 (Kept.fresh (S := fun _ => False) B811.out) hb2l id) (Kept.fresh (S := fun _ => False) B1116.out) (by omega) id
      have S1 : R16.rangeAt R5.heap.size 0 st := range_kept (range_kept HS7.out (Kept.fresh (S := fun _ => False) (B78.out.trans (B811.out.mono sz8))) (by omega) id) (Kept.fresh (S := fun _ => False) B1116.out) (by omega) id
      have S2 : R16.rangeAt R9.heap.size 0 st := range_kept HS11.out (Kept.fresh (S := fun _ => False) B1116.out) (by omega) id
      have HEND : Hid (OnceAt K W1.heap.size xn (k + 1) w R16) := ⟨Bw15.out.trans (b1516.mono (by omega)), z, nd, q, bb, j, C', lk', bk, lm, m, lv', L', G', F', D', O11.out.fresh B1116.out⟩
      have s0 : R16.cell? ⟨R5.heap.size, 0, none⟩ = some (.int .i64 ((k : Int) + 2)) := by
        have := S1 0 (.int .i64 ((k : Int) + 2)) (by rw [HST.out]; rfl)
        exact this
      clear htl b1516 hwl r8 r11 r14
      obtain ⟨pkb, hpkb⟩ : ∃ pkb, pkb = strOfNums (anBytes en.n en.k en.vv en.tt) := ⟨_, rfl⟩
      obtain ⟨pkc, hpkc⟩ : ∃ pkc : Int, pkc = 10 + en.c := ⟨_, rfl⟩
      have p10 : R16.cell? ⟨b1, 0, none⟩ = some (.int .i64 pkc) := by rw [hpkc]; exact P1 0 _ rfl
      have p11 : R16.cell? ⟨b1, 1, none⟩ = some (.string pkb) := by rw [hpkb]; exact P1 1 _ rfl
      have p20 : R16.cell? ⟨b2, 0, none⟩ = some (.int .i64 pkc) := by rw [hpkc]; exact P2 0 _ rfl
      have p21 : R16.cell? ⟨b2, 1, none⟩ = some (.string pkb) := by rw [hpkb]; exact P2 1 _ rfl
      obtain ⟨er, her⟩ : ∃ er : Int, er = ((es.size : Nat) : Int) := ⟨_, rfl⟩
      have s1 : R16.cell? ⟨R5.heap.size, 1, none⟩ = some (.int .i64 ((k : Int) + 2)) := S1 1 _ (by rw [HST.out]; rfl)
      have s2 : R16.cell? ⟨R5.heap.size, 2, none⟩ = some (.int .i64 er) := S1 2 _ (by rw [HST.out, her]; rfl)
      have s3 : R16.cell? ⟨R5.heap.size, 3, none⟩ = some (.int .i64 0) := S1 3 _ (by rw [HST.out]; rfl)
      have u0 : R16.cell? ⟨R9.heap.size, 0, none⟩ = some (.int .i64 ((k : Int) + 2)) := S2 0 _ (by rw [HST.out]; rfl)
      have u1 : R16.cell? ⟨R9.heap.size, 1, none⟩ = some (.int .i64 ((k : Int) + 2)) := S2 1 _ (by rw [HST.out]; rfl)
      have u2' : R16.cell? ⟨R9.heap.size, 2, none⟩ = some (.int .i64 er) := S2 2 _ (by rw [HST.out, her]; rfl)
      have u3 : R16.cell? ⟨R9.heap.size, 3, none⟩ = some (.int .i64 0) := S2 3 _ (by rw [HST.out]; rfl)
      have bz : (pkb.toList == pkb.toList) = true := by rw [← beq_toListBytes]; exact oba_self pkb
      clear P1 P2 S1 S2 hpkb hpkc her HP4 HP8 HS7 HS11
      go_wp2_with fail
      go_quiet (fail)
      go_wp2_with fail
      have bD := below_draws (Below.refl R16.heap.size R16) nq
      obtain ⟨hE1, z1, nd1, q1', bb1, j1, C1, lk1, bk1, lm1, m1, lv1, L1, G1, F1, D1, hE2⟩ := HEND.out
      refine ⟨⟨k + 1, by go_num, by omega, ⟨hE1.trans (bD.mono hE1.size), z1, nd1, q1', bb1, j1, C1, lk1, bk1, lm1, m1, lv1, L1, G1, F1, D1, hE2.fresh bD⟩⟩, ?_⟩
      simp [intOf]; omega
    · have hq : ¬ ((k : Int) < (len : Int) ∧ (k : Int) < 60) := by omega
      by_cases q1 : (k : Int) < (len : Int)
      · have q2 : ¬ (k : Int) < 60 := by omega
        go_wp2_with fail
        go_ret
        exact ⟨rfl, hR.out.1⟩
      · go_wp2_with fail
        go_ret
        exact ⟨rfl, hR.out.1⟩
end Go.Proofs.YteglimjonofdeaaGreatDoor
