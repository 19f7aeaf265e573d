import Derived.Test.YteglimjonofdeaaGreatDoorNVol2M
import Derived.WalkMore
import Derived.ScopeJumps
import Derived.Deep.DeepCutAuto
set_option linter.unusedVariables false
set_option linter.unusedSimpArgs false
namespace Go.Proofs.YteglimjonofdeaaGreatDoor
open Go.RowKit

/-- A device at rest, and a journal of it, while a call goes on. -/
structure Jv (p bb n j : Nat) (C : Nat → List Int) (l : ByteArray) (u : Nat) (w W : World) : Prop where
  kept : Kept (· = p) w W
  disk : DiskAt W p bb n C (.slice none 0 0) []
  jour : W.rangeAt j 0 (jL p n l u)
  room : W.there j 0 35
theorem Jv.go {p bb n j u : Nat} {C : Nat → List Int} {l : ByteArray} {w W W' : World} (h : Jv p bb n j C l u w W) (hjp : j ≠ p) (hjl : j < w.heap.size) (hk : Kept (· = p) W W') (hd : DiskAt W' p bb n C (.slice none 0 0) []) : Jv p bb n j C l u w W' :=
  ⟨h.kept.trans hk (fun _ _ h => h), hd, fun i v hv => (hk.cell (a := ⟨j, 0 + i, none⟩) (Nat.lt_of_lt_of_le hjl h.kept.size) hjp).trans (h.jour i v hv),
   fun i hi => by rw [hk.cell (a := ⟨j, 0 + i, none⟩) (Nat.lt_of_lt_of_le hjl h.kept.size) hjp, hk.frozen (a := ⟨j, 0 + i, none⟩) (Nat.lt_of_lt_of_le hjl h.kept.size) hjp]; exact h.room i hi⟩
theorem Jv.fresh {p bb n j u : Nat} {C : Nat → List Int} {l : ByteArray} {w W W' : World} (h : Jv p bb n j C l u w W) (hjp : j ≠ p) (hjl : j < w.heap.size) (hb : Below W.heap.size W W') : Jv p bb n j C l u w W' := h.go hjp hjl (Kept.fresh hb) (h.disk.fresh hb)
/-- A row that was made meanwhile. -/
def RwJ (w W : World) (q m : Nat) : Prop := W.there q 0 m ∧ w.heap.size ≤ q ∧ q < W.heap.size
theorem RwJ.go {w W W' : World} {q m p : Nat} (h : RwJ w W q m) (hp : p < w.heap.size) (hk : Kept (· = p) W W') : RwJ w W' q m :=
  ⟨fun j hj => by rw [hk.cell (a := ⟨q, 0 + j, none⟩) h.2.2 (by have := h.2.1; show ¬ q = p; omega), hk.frozen (a := ⟨q, 0 + j, none⟩) h.2.2 (by have := h.2.1; show ¬ q = p; omega)]; exact h.1 j hj, h.2.1, Nat.lt_of_lt_of_le h.2.2 hk.size⟩
theorem j_relink {w : World} {j p n u : Nat} {l l' : ByteArray} (hl : l.size = 32) (hl' : l'.size = 32) (h : w.rangeAt j 0 (jL p n l u)) (ht : w.there j 2 32) : (w.setCells j 2 (hV l')).rangeAt j 0 (jL p n l' u) := by
  have h1 := World.rangeAt_setCells_same w j 2 (hV l') (by rw [hV_len hl']; exact ht)
  intro i v hv
  rw [Nat.zero_add]
  unfold jL at hv h
  by_cases i2 : i < 2
  · rw [World.cell?_setCells_out j _ 2 w ⟨j, i, none⟩ (fun _ _ => Or.inl i2)]
    have := h i v (by rw [List.getElem?_append_left (by show i < 2; omega)] at hv ⊢; exact hv)
    rwa [Nat.zero_add] at this
  · rw [List.getElem?_append_right (by show 2 ≤ i; omega), show (volL p n).length = 2 from rfl] at hv
    by_cases i34 : i < 34
    · rw [List.getElem?_append_left (by rw [hV_len hl']; omega)] at hv
      have := h1 (i - 2) v hv
      rwa [show 2 + (i - 2) = i by omega] at this
    · rw [World.cell?_setCells_out j _ 2 w ⟨j, i, none⟩ (fun _ _ => Or.inr (by rw [hV_len hl']; show 2 + 32 ≤ i; omega))]
      rw [List.getElem?_append_right (by rw [hV_len hl']; omega), hV_len hl'] at hv
      have := h i v (by rw [List.getElem?_append_right (by show 2 ≤ i; omega), show (volL p n).length = 2 from rfl, List.getElem?_append_right (by rw [hV_len hl]; omega), hV_len hl]; exact hv)
      rwa [Nat.zero_add] at this
theorem j_count {w : World} {j p n u u' : Nat} {l : ByteArray} (hl : l.size = 32) (h : w.rangeAt j 0 (jL p n l u)) : (w.setCell ⟨j, 34, none⟩ (.int .i64 (u' : Nat))).rangeAt j 0 (jL p n l u') := by
  have hc := j_used hl h
  intro i v hv
  rw [Nat.zero_add]
  by_cases e : i = 34
  · subst e
    rw [World.cell?_setCell_same _ _ _ hc]
    unfold jL at hv
    rw [List.getElem?_append_right (by show 2 ≤ 34; omega), show 34 - (volL p n).length = 32 from rfl, List.getElem?_append_right (by rw [hV_len hl]; exact Nat.le_refl _), hV_len hl] at hv
    exact hv
  · rw [World.cell?_setCell_other _ _ _ _ (by intro e'; exact e (congrArg Addr.off e').symm)]
    have := h i v (by
      have hi : i < 35 := by have := (List.getElem?_eq_some_iff.1 hv).1; rw [jL_len p n l u' hl] at this; exact this
      unfold jL at hv ⊢
      by_cases i2 : i < 2
      · rw [List.getElem?_append_left (by show i < 2; omega)] at hv ⊢; exact hv
      · rw [List.getElem?_append_right (by show 2 ≤ i; omega), show (volL p n).length = 2 from rfl, List.getElem?_append_left (by rw [hV_len hl]; omega)] at hv ⊢
        exact hv)
    rwa [Nat.zero_add] at this
/-- What read leaves: its one record, and the journal behind it. -/
def rd1Post (K : Nat → Int) (p bb n j : Nat) (C : Nat → List Int) (l r : ByteArray) (w : World) (e : Ending) (w' : World) : Prop :=
  ∃ g cap, e = .returned (.slice (some ⟨g, 0, none⟩) 1 cap) ∧ w'.ownsRow w.heap.size 9 1 (.slice (some ⟨g, 0, none⟩) 1 cap) 1 [.string r] ∧ DiskAt w' p bb n C (.slice none 0 0) [] ∧ w'.rangeAt j 0 (jL p n (sumOf K (l ++ r)) 1) ∧ w'.there j 0 35 ∧ Kept (fun g => g = p ∨ g = j) w w'
def rdJ (K : Nat → Int) (p bb n j : Nat) (C : Nat → List Int) (H1 r : ByteArray) (w : World) (a : Act) (w' : World) : Prop :=
  ∃ (g cap : Nat) (u4 u5 u6 u7 u8 u9 u10 u11 u12 u13 u14 u15 u16 u17 u18 u19 u20 u21 u22 u23 u24 u25 u26 u27 u28 u29 u30 u31 u32 u33 u34 u35 u36 u37 u38 u39 u40 u41 u42 u43 u44 : Value),
    a = { tmps := #[.pointer (some ⟨j, 0, none⟩), undef, .slice none 0 0, .slice (some ⟨g, 0, none⟩) 1 cap, u4, u5, u6, u7, u8, u9, u10, u11, u12, u13, u14, u15, u16, u17, u18, u19, u20, u21, u22, u23, u24, u25, u26, u27, u28, u29, u30, u31, u32, u33, u34, u35, u36, u37, u38, u39, u40, u41, u42, u43, u44], defers := [] } ∧
    Hid (w'.ownsRow w.heap.size 9 1 (.slice (some ⟨g, 0, none⟩) 1 cap) 1 [.string r] ∧ DiskAt w' p bb n C (.slice none 0 0) [] ∧ w'.rangeAt j 0 (jL p n H1 1) ∧ w'.there j 0 35 ∧ Kept (fun g => g = p ∨ g = j) w w')

set_option maxRecDepth 10000 in
set_option maxHeartbeats 4000000 in
theorem read_fresh (K : Nat → Int) (p bb n j : Nat) (C : Nat → List Int) (l r : ByteArray) (w : World) (hn : n ≤ 1000) (hn8 : 8 ≤ n) (hl : l.size = 32) (hr : r.size ≤ 18) (hjp : j ≠ p) (hjb : j ≠ bb) (hjl : j < w.heap.size) (L0 : Jv p bb n j C l 0 w w) (T : Tab K w) (hpT : ¬ 1 = p) (hjT : ¬ 1 = j)
    (hC0 : C 0 = packN K l r) (hC1 : C 1 = z128) (hno : z128.take 32 ≠ (packN K (sumOf K (l ++ r)) ⟨#[]⟩).take 32) :
    Calls Tryz.prog 178 #[.pointer (some ⟨j, 0, none⟩)] w (rd1Post K p bb n j C l r w) := by
  have hpl := L0.disk.lt.1
  have hbl := L0.disk.lt.2
  obtain ⟨i0, hi, hz, hsz, hby⟩ := info_strT
  have HT : Hid (Tab K w) := T
  have HIV : Hid ((Tryz.prog.info? 222).map (·.size) = some (volL p n).length) := info_vol p n
  have HIL : Hid ((Tryz.prog.info? 104).map (·.size) = some (hV l).length) := hV_info hl
  obtain ⟨H1, hH1⟩ : ∃ H, H = sumOf K (l ++ r) := ⟨_, rfl⟩
  have hH32 : H1.size = 32 := by rw [hH1]; exact sumOf_size K _
  have HIH : Hid ((Tryz.prog.info? 104).map (·.size) = some (hV H1).length) := hV_info hH32
  have e32 : (hV H1).toArray.size = 32 := by rw [List.size_toArray, hV_len hH32]
  have HTW : Hid (∀ W, Jv p bb n j C l 0 w W → Tab K W) := fun W hL => HT.out.kept hL.kept hpT
  have HU1 : Hid (∀ W, Tab K W → Calls Tryz.prog 180 #[.agg (hV l).toArray, .agg (bytesV (C 0)).toArray] W fun e w' => e = .returned (.tuple #[.string r, .agg (hV H1).toArray, .bool true]) ∧ Below W.heap.size W w') := fun W hT => by
    have hpr : ∀ x ∈ packN K l r, 0 ≤ x ∧ x < 256 := by
      unfold packN
      intro x hx
      simp only [List.mem_cons, List.mem_append] at hx
      rcases hx with rfl | hx | hx | hx | hx
      · omega
      · exact nums_range _ x hx
      · rw [List.eq_of_mem_replicate hx]; omega
      · exact nums_range _ x (List.mem_of_mem_take hx)
      · rw [List.eq_of_mem_replicate hx]; omega
    have := unpack_any K l r (packN K l r) W hl hr (packN_len K l r hr) hpr (by unfold packN; rfl) (by unfold packN; rw [List.drop_one, List.tail_cons, List.take_left' (by rw [numsOf_length])]) hT
    rw [hC0]
    rw [decide_eq_true rfl] at this
    unfold unpackV at this
    rw [if_pos rfl, ← hH1] at this
    exact this
  have HU2 : Hid (∀ W, Tab K W → Calls Tryz.prog 180 #[.agg (hV H1).toArray, .agg (bytesV (C 1)).toArray] W fun e w' => e = .returned (.tuple #[.string ⟨#[]⟩, .agg z32.toArray, .bool false]) ∧ Below W.heap.size W w') := fun W hT => by
    have := unpack_any K H1 ⟨#[]⟩ z128 W hH32 (by decide) (by decide +kernel) (fun x hx => by unfold z128 at hx; rw [List.eq_of_mem_replicate hx]; omega) (by rfl) (by rfl) hT
    rw [hC1]
    rw [← hH1] at hno
    rw [decide_eq_false hno] at this
    unfold unpackV at this
    rw [if_neg (by decide)] at this
    exact this
  have hf := jfull_any j p n 0 l w hl hjl L0.jour
  rw [show decide (0 = n) = false by simp; omega] at hf
  have HH1 : Hid (H1 = sumOf K (l ++ r)) := hH1
  clear hH1 hC0 hC1 hno T
  go_enter Tryz.func178, Tryz.ntmps178
  go_wp2_with fail
  refine wp_scope_jumps 0 (rdJ K p bb n j C H1 r w) (fun a' _ => 0) rfl ?_ ?_
  · go_wp2_with fail
    go_step3
    go_wp2_with fail
    refine hf.mono ?_
    rintro e w1 ⟨rfl, hb1⟩
    clear hf
    have hB1 : Below w.heap.size w w1.drew := hb1.drew
    have h0 : Jv p bb n j C l 0 w w1.drew := L0.fresh hjp hjl hB1
    go_wp2_with fail
    go_cut [4, 5, 6] (fun v4 v5 v6 wc => ∃ q, v4 = .string r ∧ v5 = .pointer (some ⟨q, 0, none⟩) ∧ v6 = .bool true ∧ Jv p bb n j C l 0 w wc ∧ w.heap.size ≤ q ∧ q < wc.heap.size ∧ wc.rangeAt q 0 (hV H1))
    case first =>
      refine wp_region_noPanic ?_
      refine wp_region_held_drew (S := fun W => W.rangeAt j 0 (jL p n l 0)) (by kernel_rfl) h0.jour (fun _ => ?_)
      generalize w1.drew = W0 at *
      refine tk 0 h0.jour ?_
      refine tk 1 h0.jour ?_
      refine tk 2 h0.jour ?_
      refine wpAnyH_take (i := 3) (v := .agg (hV l).toArray) rfl (by kernel_rfl) (by kernel_rfl) (by kernel_rfl) (fun _ _ _ h => h) (yieldsIf_load_mid (by rfl) 104 _ rfl j 2 rfl (hV l) _ (fun W hW => j_link hW) Tryz.underlying104 rfl HIL.out) h0.jour ?_
      simp only [qA, qB, qC, Act.put, qD, qE, qF]
      refine tk 4 h0.jour ?_
      refine tk 5 h0.jour ?_
      refine tk 6 h0.jour ?_
      refine wpAnyH_take (i := 7) (v := .agg (volL p n).toArray) rfl (by kernel_rfl) (by kernel_rfl) (by kernel_rfl) (fun _ _ _ h => h) (yieldsIf_load_mid (by rfl) 222 _ rfl j 0 rfl (volL p n) _ (fun W hW => j_vol hW) Tryz.underlying222 rfl HIV.out) h0.jour ?_
      simp only [qA, qB, qC, Act.put, qD, qE, qF]
      refine tk 8 h0.jour ?_
      refine tk 9 h0.jour ?_
      refine tk 10 h0.jour ?_
      refine tq (i := 11) (v := ?_) rfl h0.jour ?_ ?_
      rotate_left 1
      · intro W hSW; have cW := j_used hl hSW; clear hSW; go_simp; try with_reducible rfl
      simp only [qA, qB, qC, Act.put, qD, qE, qF]
      refine wpAnyH_ready (rs := [12, 18]) (by kernel_rfl) (by simp) ?_
      refine AllReadyH.cons rfl (fun K' hK' => ?_) (AllReadyH.cons rfl (fun K' hK' => ?_) AllReadyH.nil)
      rw [if_pos (by rfl)]
      go_simp
      refine (vblock_any p bb n 0 C W0 (by omega) hn h0.disk).mono ?_
      rintro e W1 ⟨rfl, d1, b1⟩
      have h1 := h0.go hjp hjl b1 d1
      refine hK'.out _ _ h1.jour (fun _ => ?_)
      clear hK' K'
      try simp only [qA, qB, qC, Act.put, qD, qE, qF]
      refine wpAnyH_ready (rs := [13, 18]) (by kernel_rfl) (by simp) ?_
      refine AllReadyH.cons rfl (fun K' hK' => ?_) (AllReadyH.cons rfl (fun K' hK' => ?_) AllReadyH.nil)
      rw [if_pos (by rfl)]
      go_simp
      refine (HU1.out W1 (HTW.out _ h1)).mono ?_
      rintro e W2 ⟨rfl, b2⟩
      have h2 := h1.fresh hjp hjl b2
      refine hK'.out _ _ h2.jour (fun _ => ?_)
      clear hK' K'
      try simp only [qA, qB, qC, Act.put, qD, qE, qF]
      refine tk 14 h2.jour ?_
      refine tk 15 h2.jour ?_
      refine tk 16 h2.jour ?_
      refine tk 17 h2.jour ?_
      refine rk 18 (fun K' hK' => ?_)
      refine wp_alloc_abs 104 rfl z32 alloc_32 ?_
      intro W3 q8 b3 lo3 hi3 th3
      have h3 := h2.fresh hjp hjl b3
      have r8_3 : RwJ w W3 q8 32 := ⟨th3, Nat.le_trans h2.kept.size lo3, hi3⟩
      refine hK'.out _ _ h3.jour (fun _ => ?_)
      clear hK' K'
      try simp only [qA, qB, qC, Act.put, qD, qE, qF]
      refine tk 19 h3.jour ?_
      all_goals skip
      rotate_left 1
      rw [if_pos (by rfl)]
      refine wp_alloc_abs 104 rfl z32 alloc_32 ?_
      intro W2 q8 b2 lo2 hi2 th2
      have h2 := h1.fresh hjp hjl b2
      have r8_2 : RwJ w W2 q8 32 := ⟨th2, Nat.le_trans h1.kept.size lo2, hi2⟩
      refine hK'.out _ _ h2.jour (fun _ => ?_)
      clear hK' K'
      try simp only [qA, qB, qC, Act.put, qD, qE, qF]
      refine rk 13 (fun K' hK' => ?_)
      go_simp
      refine (HU1.out W2 (HTW.out _ h2)).mono ?_
      rintro e W3 ⟨rfl, b3⟩
      have h3 := h2.fresh hjp hjl b3
      have r8_3 := r8_2.go hpl (Kept.fresh b3)
      refine hK'.out _ _ h3.jour (fun _ => ?_)
      clear hK' K'
      try simp only [qA, qB, qC, Act.put, qD, qE, qF]
      refine tk 14 h3.jour ?_
      refine tk 15 h3.jour ?_
      refine tk 16 h3.jour ?_
      refine tk 17 h3.jour ?_
      refine tk 19 h3.jour ?_
      all_goals skip
      rotate_left 1
      rw [if_pos (by rfl)]
      refine wp_alloc_abs 104 rfl z32 alloc_32 ?_
      intro W1 q8 b1 lo1 hi1 th1
      have h1 := h0.fresh hjp hjl b1
      have r8_1 : RwJ w W1 q8 32 := ⟨th1, Nat.le_trans h0.kept.size lo1, hi1⟩
      refine hK'.out _ _ h1.jour (fun _ => ?_)
      clear hK' K'
      try simp only [qA, qB, qC, Act.put, qD, qE, qF]
      refine rk 12 (fun K' hK' => ?_)
      go_simp
      refine (vblock_any p bb n 0 C W1 (by omega) hn h1.disk).mono ?_
      rintro e W2 ⟨rfl, d2, b2⟩
      have h2 := h1.go hjp hjl b2 d2
      have r8_2 := r8_1.go hpl b2
      refine hK'.out _ _ h2.jour (fun _ => ?_)
      clear hK' K'
      try simp only [qA, qB, qC, Act.put, qD, qE, qF]
      refine rk 13 (fun K' hK' => ?_)
      go_simp
      refine (HU1.out W2 (HTW.out _ h2)).mono ?_
      rintro e W3 ⟨rfl, b3⟩
      have h3 := h2.fresh hjp hjl b3
      have r8_3 := r8_2.go hpl (Kept.fresh b3)
      refine hK'.out _ _ h3.jour (fun _ => ?_)
      clear hK' K'
      try simp only [qA, qB, qC, Act.put, qD, qE, qF]
      refine tk 14 h3.jour ?_
      refine tk 15 h3.jour ?_
      refine tk 16 h3.jour ?_
      refine tk 17 h3.jour ?_
      refine tk 19 h3.jour ?_
      all_goals skip
      rotate_left 1
      all_goals
        refine rk 20 (fun K' hK' => ?_)
        refine wp_store_mid 104 _ _ rfl q8 0 (hV H1).toArray rfl rfl (by rw [e32]; exact r8_3.1) (by rw [List.size_toArray]; exact HIH.out) (all_oneCell_toArray (hV_one H1)) ?_
        rw [List.toList_toArray]
        have g4 : Kept (· = q8) W3 (W3.setCells q8 0 (hV H1)) := Kept.setCells _ _ _ _ (Or.inl rfl)
        have h4 : Jv p bb n j C l 0 w (W3.setCells q8 0 (hV H1)) := ⟨h3.kept.trans g4 (fun g h1 h2 => by have := r8_3.2.1; omega), h3.disk.kept g4 (by have := r8_3.2.1; omega) (by have := r8_3.2.1; omega) (fun g hg => by cases hg), World.rangeAt_setCells_apart h3.jour _ _ _ (Or.inl (by have := r8_3.2.1; omega)), World.there_setCells h3.room _ _ _⟩
        have R8 : (W3.setCells q8 0 (hV H1)).rangeAt q8 0 (hV H1) := World.rangeAt_setCells_same _ _ _ _ (by rw [hV_len hH32]; exact r8_3.1)
        have l8_4 : w.heap.size ≤ q8 ∧ q8 < (W3.setCells q8 0 (hV H1)).heap.size := ⟨r8_3.2.1, by rw [size_setCells]; exact r8_3.2.2⟩
        clear g4
        generalize (W3.setCells q8 0 (hV H1)) = W4 at *
        refine hK'.out _ _ h4.jour (fun _ => ?_)
        clear hK' K'
        try simp only [qA, qB, qC, Act.put, qD, qE, qF]
        refine tk 21 h4.jour ?_
        refine ⟨by kernel_rfl, ?_⟩
        refine NoPanic.normal ?_
        try simp only [qA, qB, qC, Act.put, qD, qE, qF]
        go_wp2_with fail
        go_meet
        exact ⟨q8, rfl, rfl, rfl, h4, l8_4.1, l8_4.2, R8⟩
    case rest =>
      obtain ⟨q, rfl, rfl, rfl, hL, hq0, hq1, hrq⟩ := hcut
      have hnews : ∀ i u, [Value.string r][i]? = some u → (wc.alloc (.cells #[.string r] 9)).cell? ((⟨wc.heap.size, 0, none⟩ : Addr).add i) = some u := World.news_of_block (heap_alloc_new wc (.cells #[.string r] 9))
      have ho : (wc.alloc (.cells #[.string r] 9)).ownsRow w.heap.size 9 1 (.slice none 0 0) 0 [] := World.ownsRow_nil _ _ _ _
      have hsc := hL.kept.size
      have HL : Hid (Jv p bb n j C l 0 w wc) := hL
      have HRQ : Hid (wc.rangeAt q 0 (hV H1)) := hrq
      clear hL hrq
      go_wp2_with (first
        | (refine wpList_append_lies _ rfl _ _ 51 rfl w.heap.size 9 i0 _ 1 16 Tryz.underlying51 hi hz hsz hby rfl (by decide) (.slice none 0 0) 0 _ rfl ho ⟨wc.heap.size, 0, none⟩ 1 1 [_] rfl rfl hnews (by simp [Value.oneCell']) (by decide) (by unfold maxLen; omega) (by omega) (by simp; omega) _ rfl ?_
           intro g5 cap5 w5 ho5 hgr5 hat5 hlt5
           have hk5 : Kept (fun _ => False) wc w5 := (Kept.alloc _ _ _).trans (Kept.grown (S := fun _ => False) hgr5 (fun k hk => by cases hk)) (fun g _ h => h)
           have hr5 : w5.rangeAt q 0 (hV H1) := fun i v hv => (hk5.cell (a := ⟨q, 0 + i, none⟩) (by show q < _; omega) id).trans (HRQ.out i v hv)
           have hJ5 : w5.rangeAt j 0 (jL p n l 0) := fun i v hv => (hk5.cell (a := ⟨j, 0 + i, none⟩) (by show j < _; omega) id).trans (HL.out.jour i v hv)
           have hT5 : w5.there j 0 35 := (fun i hi' => (by rw [hk5.cell (a := ⟨j, 0 + i, none⟩) (by show j < _; omega) id, hk5.frozen (a := ⟨j, 0 + i, none⟩) (by show j < _; omega) id]; exact HL.out.room i hi'))
           have ht2 : w5.there j 2 (hV H1).length := (fun i hi' => (by rw [hV_len hH32] at hi'; have := hT5 (2 + i) (by omega); rwa [Nat.zero_add] at this)))
        | (refine wpList_load_mid rfl 104 _ rfl q 0 rfl (hV H1) _ hr5 Tryz.underlying104 rfl HIH.out ?_)
        | (refine wpList_store_abs rfl 104 _ _ rfl j 2 (hV H1) rfl rfl ht2 HIH.out (hV_one H1) ?_
           intro w6 hw6 _hr6 _ht6 hb6
           have hk6 : Kept (· = j) w5 w6 := (by rw [hw6]; exact Kept.setCells _ _ _ _ (Or.inl rfl))
           have hT6 : w6.there j 0 35 := (by rw [hw6]; exact World.there_setCells hT5 _ _ _)
           have hJ6 : w6.rangeAt j 0 (jL p n H1 0) := (by rw [hw6]; exact j_relink hl hH32 hJ5 (by rw [← hV_len hH32]; exact ht2))
           have c34 := j_used hH32 hJ6
           have f34 : w6.frozen? ⟨j, 34, none⟩ = false := (by have := (hT6 34 (by omega)).2; rwa [Nat.zero_add] at this)
           clear hw6 _hr6 _ht6 hb6))
      go_step3
      refine ⟨rfl, g5, cap5, _, _, _, _, _, _, _, _, _, _, _, _, _, _, _, _, _, _, _, _, _, _, _, _, _, _, _, _, _, _, _, _, _, _, _, _, _, _, _, _, _, rfl, ?_, ?_, ?_, ?_, ?_⟩
      · refine own_sameX ho5 (fun g hg => ?_)
        obtain rfl : g5 = g := by simpa [Value.ownBlock] using hg
        have hg5 : g5 ≠ j := by rcases hat5 with e | e; cases e; simp at e; omega
        rw [heap_setCell_other _ ⟨j, 34, none⟩ g5 _ hg5, hk6.block g5 hlt5 hg5]
      · exact (((HL.out.disk.kept hk5 id id (fun g hg => by cases hg)).kept hk6 (fun e => hjp e.symm) (fun e => hjb e.symm) (fun g hg => by cases hg))).kept (Kept.setCell (S := (· = j)) _ _ _ (Or.inl rfl)) (fun e => hjp e.symm) (fun e => hjb e.symm) (fun g hg => by cases hg)
      · exact j_count (u' := 1) hH32 hJ6
      · exact World.there_setCells hT6 j 34 [.int .i64 1]
      · exact (((HL.out.kept.mono (S' := fun g => g = p ∨ g = j) (fun g _ h => Or.inl h)).trans hk5 (fun g _ h => h.elim)).trans hk6 (fun g _ h => Or.inr h)).trans (Kept.setCell (S := (· = j)) _ _ _ (Or.inl rfl)) (fun g _ h => Or.inr h)
  · rintro a' v0 ⟨g, cap, u4, u5, u6, u7, u8, u9, u10, u11, u12, u13, u14, u15, u16, u17, u18, u19, u20, u21, u22, u23, u24, u25, u26, u27, u28, u29, u30, u31, u32, u33, u34, u35, u36, u37, u38, u39, u40, u41, u42, u43, u44, rfl, hI⟩
    have hs0 := hI.out.2.2.2.2.size
    have hpl2 : p < v0.heap.size := by omega
    have hbl2 : bb < v0.heap.size := by omega
    have hjl2 : j < v0.heap.size := by omega
    have HTW2 : Hid (∀ W, Jv p bb n j C H1 1 v0 W → Tab K W) := fun W hL => (HT.out.kept hI.out.2.2.2.2 (by rintro (h | h); exact hpT h; exact hjT h)).kept hL.kept hpT
    have hf2 := jfull_any j p n 1 H1 v0 hH32 hjl2 hI.out.2.2.1
    rw [show decide (1 = n) = false by simp; omega] at hf2
    have L2 : Jv p bb n j C H1 1 v0 v0 := ⟨Kept.refl _ _, hI.out.2.1, hI.out.2.2.1, hI.out.2.2.2.1⟩
    have ez32 : z32.toArray.size = 32 := by decide +kernel
    have lz32 : z32.length = 32 := by decide +kernel
    clear hf
    go_wp2_with fail
    refine hf2.mono ?_
    rintro e w1 ⟨rfl, hb1⟩
    clear hf2
    have hB1 : Below v0.heap.size v0 w1.drew := hb1.drew
    have h0 : Jv p bb n j C H1 1 v0 w1.drew := L2.fresh hjp hjl2 hB1
    go_wp2_with fail
    go_cut [6] (fun v6 wc => v6 = .bool false ∧ Jv p bb n j C H1 1 v0 wc)
    case first =>
      refine wp_region_noPanic ?_
      refine wp_region_held_drew (S := fun W => W.rangeAt j 0 (jL p n H1 1)) (by kernel_rfl) h0.jour (fun _ => ?_)
      generalize w1.drew = W0 at *
      refine tk 0 h0.jour ?_
      refine tk 1 h0.jour ?_
      refine tk 2 h0.jour ?_
      refine wpAnyH_take (i := 3) (v := .agg (hV H1).toArray) rfl (by kernel_rfl) (by kernel_rfl) (by kernel_rfl) (fun _ _ _ h => h) (yieldsIf_load_mid (by rfl) 104 _ rfl j 2 rfl (hV H1) _ (fun W hW => j_link hW) Tryz.underlying104 rfl HIH.out) h0.jour ?_
      simp only [qA, qB, qC, Act.put, qD, qE, qF]
      refine tk 4 h0.jour ?_
      refine tk 5 h0.jour ?_
      refine tk 6 h0.jour ?_
      refine wpAnyH_take (i := 7) (v := .agg (volL p n).toArray) rfl (by kernel_rfl) (by kernel_rfl) (by kernel_rfl) (fun _ _ _ h => h) (yieldsIf_load_mid (by rfl) 222 _ rfl j 0 rfl (volL p n) _ (fun W hW => j_vol hW) Tryz.underlying222 rfl HIV.out) h0.jour ?_
      simp only [qA, qB, qC, Act.put, qD, qE, qF]
      refine tk 8 h0.jour ?_
      refine tk 9 h0.jour ?_
      refine tk 10 h0.jour ?_
      refine tq (i := 11) (v := ?_) rfl h0.jour ?_ ?_
      rotate_left 1
      · intro W hSW; have cW := j_used hH32 hSW; clear hSW; go_simp; try with_reducible rfl
      simp only [qA, qB, qC, Act.put, qD, qE, qF]
      refine wpAnyH_ready (rs := [12, 18]) (by kernel_rfl) (by simp) ?_
      refine AllReadyH.cons rfl (fun K' hK' => ?_) (AllReadyH.cons rfl (fun K' hK' => ?_) AllReadyH.nil)
      rw [if_pos (by rfl)]
      go_simp
      refine (vblock_any p bb n 1 C W0 (by omega) hn h0.disk).mono ?_
      rintro e W1 ⟨rfl, d1, b1⟩
      have h1 := h0.go hjp hjl2 b1 d1
      refine hK'.out _ _ h1.jour (fun _ => ?_)
      clear hK' K'
      try simp only [qA, qB, qC, Act.put, qD, qE, qF]
      refine wpAnyH_ready (rs := [13, 18]) (by kernel_rfl) (by simp) ?_
      refine AllReadyH.cons rfl (fun K' hK' => ?_) (AllReadyH.cons rfl (fun K' hK' => ?_) AllReadyH.nil)
      rw [if_pos (by rfl)]
      go_simp
      refine (HU2.out W1 (HTW2.out _ h1)).mono ?_
      rintro e W2 ⟨rfl, b2⟩
      have h2 := h1.fresh hjp hjl2 b2
      refine hK'.out _ _ h2.jour (fun _ => ?_)
      clear hK' K'
      try simp only [qA, qB, qC, Act.put, qD, qE, qF]
      refine tk 14 h2.jour ?_
      refine tk 15 h2.jour ?_
      refine tk 16 h2.jour ?_
      refine tk 17 h2.jour ?_
      refine rk 18 (fun K' hK' => ?_)
      refine wp_alloc_abs 104 rfl z32 alloc_32 ?_
      intro W3 q8 b3 lo3 hi3 th3
      have h3 := h2.fresh hjp hjl2 b3
      have r8_3 : RwJ v0 W3 q8 32 := ⟨th3, Nat.le_trans h2.kept.size lo3, hi3⟩
      refine hK'.out _ _ h3.jour (fun _ => ?_)
      clear hK' K'
      try simp only [qA, qB, qC, Act.put, qD, qE, qF]
      refine tk 19 h3.jour ?_
      all_goals skip
      rotate_left 1
      rw [if_pos (by rfl)]
      refine wp_alloc_abs 104 rfl z32 alloc_32 ?_
      intro W2 q8 b2 lo2 hi2 th2
      have h2 := h1.fresh hjp hjl2 b2
      have r8_2 : RwJ v0 W2 q8 32 := ⟨th2, Nat.le_trans h1.kept.size lo2, hi2⟩
      refine hK'.out _ _ h2.jour (fun _ => ?_)
      clear hK' K'
      try simp only [qA, qB, qC, Act.put, qD, qE, qF]
      refine rk 13 (fun K' hK' => ?_)
      go_simp
      refine (HU2.out W2 (HTW2.out _ h2)).mono ?_
      rintro e W3 ⟨rfl, b3⟩
      have h3 := h2.fresh hjp hjl2 b3
      have r8_3 := r8_2.go hpl2 (Kept.fresh b3)
      refine hK'.out _ _ h3.jour (fun _ => ?_)
      clear hK' K'
      try simp only [qA, qB, qC, Act.put, qD, qE, qF]
      refine tk 14 h3.jour ?_
      refine tk 15 h3.jour ?_
      refine tk 16 h3.jour ?_
      refine tk 17 h3.jour ?_
      refine tk 19 h3.jour ?_
      all_goals skip
      rotate_left 1
      rw [if_pos (by rfl)]
      refine wp_alloc_abs 104 rfl z32 alloc_32 ?_
      intro W1 q8 b1 lo1 hi1 th1
      have h1 := h0.fresh hjp hjl2 b1
      have r8_1 : RwJ v0 W1 q8 32 := ⟨th1, Nat.le_trans h0.kept.size lo1, hi1⟩
      refine hK'.out _ _ h1.jour (fun _ => ?_)
      clear hK' K'
      try simp only [qA, qB, qC, Act.put, qD, qE, qF]
      refine rk 12 (fun K' hK' => ?_)
      go_simp
      refine (vblock_any p bb n 1 C W1 (by omega) hn h1.disk).mono ?_
      rintro e W2 ⟨rfl, d2, b2⟩
      have h2 := h1.go hjp hjl2 b2 d2
      have r8_2 := r8_1.go hpl2 b2
      refine hK'.out _ _ h2.jour (fun _ => ?_)
      clear hK' K'
      try simp only [qA, qB, qC, Act.put, qD, qE, qF]
      refine rk 13 (fun K' hK' => ?_)
      go_simp
      refine (HU2.out W2 (HTW2.out _ h2)).mono ?_
      rintro e W3 ⟨rfl, b3⟩
      have h3 := h2.fresh hjp hjl2 b3
      have r8_3 := r8_2.go hpl2 (Kept.fresh b3)
      refine hK'.out _ _ h3.jour (fun _ => ?_)
      clear hK' K'
      try simp only [qA, qB, qC, Act.put, qD, qE, qF]
      refine tk 14 h3.jour ?_
      refine tk 15 h3.jour ?_
      refine tk 16 h3.jour ?_
      refine tk 17 h3.jour ?_
      refine tk 19 h3.jour ?_
      all_goals skip
      rotate_left 1
      all_goals
        refine rk 20 (fun K' hK' => ?_)
        refine wp_store_mid 104 _ _ rfl q8 0 (z32).toArray rfl rfl (by rw [ez32]; exact r8_3.1) (by rw [List.size_toArray]; exact info_z32) (all_oneCell_toArray (z32_one)) ?_
        rw [List.toList_toArray]
        have g4 : Kept (· = q8) W3 (W3.setCells q8 0 (z32)) := Kept.setCells _ _ _ _ (Or.inl rfl)
        have h4 : Jv p bb n j C H1 1 v0 (W3.setCells q8 0 (z32)) := ⟨h3.kept.trans g4 (fun g h1 h2 => by have := r8_3.2.1; omega), h3.disk.kept g4 (by have := r8_3.2.1; omega) (by have := r8_3.2.1; omega) (fun g hg => by cases hg), World.rangeAt_setCells_apart h3.jour _ _ _ (Or.inl (by have := r8_3.2.1; omega)), World.there_setCells h3.room _ _ _⟩
        have R8 : (W3.setCells q8 0 (z32)).rangeAt q8 0 (z32) := World.rangeAt_setCells_same _ _ _ _ (by rw [lz32]; exact r8_3.1)
        have l8_4 : v0.heap.size ≤ q8 ∧ q8 < (W3.setCells q8 0 (z32)).heap.size := ⟨r8_3.2.1, by rw [size_setCells]; exact r8_3.2.2⟩
        clear g4
        generalize (W3.setCells q8 0 (z32)) = W4 at *
        refine hK'.out _ _ h4.jour (fun _ => ?_)
        clear hK' K'
        try simp only [qA, qB, qC, Act.put, qD, qE, qF]
        refine tk 21 h4.jour ?_
        refine ⟨by kernel_rfl, ?_⟩
        refine NoPanic.normal ?_
        try simp only [qA, qB, qC, Act.put, qD, qE, qF]
        go_wp2_with fail
        go_meet
        exact ⟨rfl, h4⟩
    case rest =>
      obtain ⟨rfl, hL⟩ := hcut
      have HO : Hid (wc.ownsRow w.heap.size 9 1 (.slice (some ⟨g, 0, none⟩) 1 cap) 1 [.string r]) := hL.kept.own hI.out.1 (fun g' hg' e => by
        obtain rfl : g = g' := by simpa [Value.ownBlock] using hg'
        have := (hI.out.1.lt g rfl).1
        have e' : g = p := e
        omega)
      have HL : Hid (Jv p bb n j C H1 1 v0 wc) := hL
      clear hL
      go_wp2_with fail
      simp only [Exit.jump]
      go_ret
      exact ⟨g, cap, rfl, HO.out, HL.out.disk, by rw [← HH1.out]; exact HL.out.jour, HL.out.room, hI.out.2.2.2.2.trans HL.out.kept (fun g _ h => Or.inl h)⟩
end Go.Proofs.YteglimjonofdeaaGreatDoor
