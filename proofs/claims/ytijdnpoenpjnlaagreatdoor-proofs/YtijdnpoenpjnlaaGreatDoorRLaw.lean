import Derived.Test.YtijdnpoenpjnlaaGreatDoorRTold
import Derived.Test.YtijdnpoenpjnlaaGreatDoorRLeaf
set_option linter.unusedVariables false
set_option linter.unusedSimpArgs false
namespace Go.Proofs.YtijdnpoenpjnlaaGreatDoor
open Go.RowKit

theorem size_alloc2 (w : World) (o : Obj) : (w.alloc o).heap.size = w.heap.size + 1 := by simp
/-- The digest, as far as it is copied. -/
def digK (s : ByteArray) (k : Nat) : List Int := (numsOf s).take k ++ List.replicate (32 - k) 0
theorem digK_len (s : ByteArray) (hs : s.size = 32) (k : Nat) (hk : k ≤ 32) : (digK s k).length = 32 := by
  simp [digK, numsOf_length, hs]; omega
theorem digK_all (s : ByteArray) (hs : s.size = 32) : digK s 32 = numsOf s := by
  simp [digK]; exact List.take_of_length_le (by rw [numsOf_length, hs]; exact Nat.le_refl _)
theorem digK_get (s : ByteArray) (hs : s.size = 32) (k i : Nat) (hk : k ≤ 32) : (digK s k)[i]? = if i < k then (numsOf s)[i]? else if i < 32 then some 0 else none := by
  have hl : ((numsOf s).take k).length = k := by rw [List.length_take, numsOf_length, hs]; omega
  unfold digK
  by_cases h : i < k
  · rw [List.getElem?_append_left (by omega), if_pos h, List.getElem?_take, if_pos h]
  · rw [List.getElem?_append_right (by omega), if_neg h, hl, List.getElem?_replicate]
    by_cases h2 : i < 32
    · rw [if_pos (by omega), if_pos h2]
    · rw [if_neg (by omega), if_neg h2]
theorem dig_other (s : ByteArray) (hs : s.size = 32) (q i : Nat) (hq : q < 32) (h : i ≠ q) : (digK s (q + 1))[i]? = (digK s q)[i]? := by
  rw [digK_get s hs _ _ (by omega), digK_get s hs _ _ (by omega)]
  by_cases h1 : i < q
  · rw [if_pos h1, if_pos (by omega)]
  · rw [if_neg h1, if_neg (by omega)]
theorem dig_here (s : ByteArray) (hs : s.size = 32) (q : Nat) (hq : q < s.size) : (digK s (q + 1))[q]? = some ((s[q]'hq).toNat : Int) := by
  rw [digK_get s hs _ _ (by omega), if_pos (by omega), bAt_eq s q hq]
  have hq' : q < s.data.toList.length := by rw [← Lib.size_eq]; exact hq
  simp [numsOf, bAt, List.getD, List.getElem?_eq_getElem hq']
theorem dig_step {w : World} {g : Nat} {c n o p v k : Int} {s : ByteArray} {u : Value} (hs : s.size = 32) (q : Nat) (hq : q < s.size) (hr : w.rangeAt g 0 (evCells c n o p v k (bytesV (digK s q)))) (hu : w.cell? ⟨g, 6 + q, none⟩ = some u) :
    (w.setCell ⟨g, 6 + q, none⟩ (.int .u8 ((s[q]'hq).toNat : Int))).rangeAt g 0 (evCells c n o p v k (bytesV (digK s (q + 1)))) := by
  intro j x hx
  rw [Nat.zero_add]
  by_cases hj : j = 6 + q
  · subst hj
    rw [World.cell?_setCell_same _ _ _ hu]
    rw [show (evCells c n o p v k (bytesV (digK s (q + 1))))[6 + q]? = (bytesV (digK s (q + 1)))[q]? by rw [show 6 + q = q + 6 by omega]; rfl] at hx
    rw [bytesV, List.getElem?_map, dig_here s hs q hq] at hx
    simpa using hx
  · rw [World.cell?_setCell_other (w := w) (a := ⟨g, 6 + q, none⟩) (b := ⟨g, j, none⟩) _ (by intro e; exact hj (congrArg Addr.off e).symm)]
    have := hr j x (by
      rw [← hx]
      by_cases h6 : j < 6
      · obtain rfl | rfl | rfl | rfl | rfl | rfl : j = 0 ∨ j = 1 ∨ j = 2 ∨ j = 3 ∨ j = 4 ∨ j = 5 := by omega
        all_goals rfl
      · obtain ⟨i, rfl⟩ : ∃ i, j = i + 6 := ⟨j - 6, by omega⟩
        show (bytesV (digK s q))[i]? = (bytesV (digK s (q + 1)))[i]?
        rw [bytesV, bytesV, List.getElem?_map, List.getElem?_map, dig_other s hs q i (by omega) (by omega)])
    rwa [Nat.zero_add] at this
theorem there_set {w : World} {g n b i : Nat} {v : Value} (h : w.there g 0 n) : (w.setCell ⟨b, i, none⟩ v).there g 0 n := World.there_setCells h b i [v]

set_option maxRecDepth 10000 in
set_option maxHeartbeats 1000000 in
theorem levent_any (c n o p v k : Int) (s : ByteArray) (w : World) (hs : s.size = 32) :
    Calls Tryz.prog 59 #[.agg (refEv c n o p v k s).toArray] w fun e w' => e = .returned (.agg (evCells c n o p v k (bytesV (numsOf s))).toArray) ∧ Below w.heap.size w w' := by
  obtain ⟨E0, hE0⟩ : ∃ E0, E0 = evCells c n o p v k (bytesV (List.replicate 32 0)) := ⟨_, rfl⟩
  have hi : (Tryz.prog.info? 104).map (·.size) = some E0.length := by rw [hE0]; exact ev_length _ _ _ _ _ _ _ rfl
  have hone : ∀ u ∈ E0, u.oneCell' = true := by rw [hE0]; exact raw_one _ _ _ _ _ _
  have hl0 : E0.length = 38 := by rw [hE0]; rfl
  obtain ⟨wb, hwb⟩ : ∃ wb, wb = (w.alloc (.cells (refEv c n o p v k s).toArray 59)).alloc (.cells zEvL.toArray 104) := ⟨_, rfl⟩
  have hzb : wb.heap.size = w.heap.size + 1 + 1 := by rw [hwb]; simp
  have ht : (wb.alloc (.cells zEvL.toArray 104)).there wb.heap.size 0 E0.length := by rw [hl0]; exact there_zev wb
  rw [hwb] at ht
  have HE : Hid (E0 = evCells c n o p v k (bytesV (List.replicate 32 0))) := hE0
  have HW : Hid (wb = (w.alloc (.cells (refEv c n o p v k s).toArray 59)).alloc (.cells zEvL.toArray 104)) := hwb
  clear hE0 hwb hl0 hzb
  unfold refEv at ht
  go_enter Tryz.func59, Tryz.ntmps59
  unfold refEv
  go_wp2_with (first | (refine wpList_alloc_of rfl 104 rfl zEvL.toArray alloc_ev ?_) | (refine wpList_build_val rfl 104 _ rfl E0.toArray (fun W => by rw [HE.out]; kernel_rfl) ?_) | (refine wpList_store_abs rfl 104 _ _ rfl _ 0 E0 rfl rfl ht hi hone ?_; intro w2 _hw2 hr2 ht2 hb2; clear _hw2))
  simp only [size_alloc2] at hr2 ht2 hb2
  have hzw := HW.out
  have hsz2 := (hb2 _ (Nat.le_refl _)).size
  simp at hsz2
  have hB2 : Below (w.heap.size + 1 + 1) wb w2 := by
    rw [hzw]; exact ((Below.refl _ _).alloc (by simp) _).trans (hb2 _ (Nat.le_refl _))
  have hzb : wb.heap.size = w.heap.size + 1 + 1 := by rw [hzw]; simp
  have hlen : E0.length = 38 := by rw [HE.out]; rfl
  rw [hlen] at ht2
  have hr2' : w2.rangeAt (w.heap.size + 1 + 1) 0 (evCells c n o p v k (bytesV (digK s 0))) := by rw [HE.out] at hr2; exact hr2
  have hbx : wb.cell? ⟨w.heap.size, 6, none⟩ = some (.string s) := by
    rw [hzw, World.cell?_alloc_past _ _ _ (by simp)]
    have := range_new w (refEv c n o p v k s) 59 6 _ rfl
    simpa using this
  have HBX : Hid (wb.cell? ⟨w.heap.size, 6, none⟩ = some (.string s)) := hbx
  clear hr2 hbx hzw hi hone ht hb2
  go_loopw [4] (fun i wr => ∃ q : Nat, q ≤ 32 ∧ i = .int .i64 q ∧ wr.rangeAt (w.heap.size + 1 + 1) 0 (evCells c n o p v k (bytesV (digK s q))) ∧ wr.there (w.heap.size + 1 + 1) 0 38 ∧ Below (w.heap.size + 1 + 1) wb wr) (fun i _ => 32 - (intOf i).toNat)
  case atStart => exact ⟨0, by omega, rfl, hr2', ht2, hB2⟩
  case round =>
    clear hr2' ht2 hB2
    obtain ⟨q, hq, rfl, hr, ht, hB⟩ := hrel
    by_cases hlt : q < 32
    · have hbx : wr.cell? ⟨w.heap.size, 6, none⟩ = some (.string s) := by
        rw [hB.cell (p := ⟨w.heap.size, 6, none⟩) (by show w.heap.size < _; omega)]; exact HBX.out
      have q0 : (0 : Int) ≤ (q : Int) := by omega
      have q1 : (q : Int) < (s.size : Int) := by omega
      have q32 : (q : Int) < 32 := by omega
      have hcq : ∃ u, wr.cell? ⟨w.heap.size + 1 + 1, 6 + q, none⟩ = some u := by
        have := (ht (6 + q) (by omega)).1
        rw [Nat.zero_add] at this
        exact Option.isSome_iff_exists.1 this
      obtain ⟨u, hcq⟩ := hcq
      have hfq := (ht (6 + q) (by omega)).2
      rw [Nat.zero_add] at hfq
      go_wp2_with fail
      refine ⟨⟨q + 1, by omega, by go_num, dig_step hs q (by omega) hr hcq, there_set ht, below_setCells_one hB (Nat.le_refl _) _ _⟩, ?_⟩
      simp [intOf]; omega
    · obtain rfl : q = 32 := by omega
      rw [digK_all s hs] at hr
      have hi : (Tryz.prog.info? 104).map (·.size) = some (evCells c n o p v k (bytesV (numsOf s))).length := ev_length _ _ _ _ _ _ _ (by rw [bytesV_length, numsOf_length, hs])
      have hone : ∀ u ∈ evCells c n o p v k (bytesV (numsOf s)), u.oneCell' = true := by
        intro u hu
        simp only [evCells, List.mem_cons] at hu
        rcases hu with rfl | rfl | rfl | rfl | rfl | rfl | hu
        · rfl
        · rfl
        · rfl
        · rfl
        · rfl
        · rfl
        · exact bytesV_one _ u hu
      obtain ⟨L, hL⟩ : ∃ L, L = evCells c n o p v k (bytesV (numsOf s)) := ⟨_, rfl⟩
      have hl38 : L.length = 38 := by rw [hL]; simp [evCells, bytesV_length, numsOf_length, hs]
      have ht1 : wr.there (w.heap.size + 1) 0 L.length := by
        rw [hl38]
        intro j hj
        rw [hB.cell (p := ⟨w.heap.size + 1, 0 + j, none⟩) (by show w.heap.size + 1 < _; omega), hB.frozen (p := ⟨w.heap.size + 1, 0 + j, none⟩) (by show w.heap.size + 1 < _; omega), HW.out]
        have h := there_zev (w.alloc (.cells (refEv c n o p v k s).toArray 59)) j hj
        simpa using h
      rw [← hL] at hr hi hone
      have HL : Hid (L = evCells c n o p v k (bytesV (numsOf s))) := hL
      clear hL
      go_wp2_with (first | (refine wpList_load_mid rfl 104 _ rfl (w.heap.size + 1 + 1) 0 rfl L _ hr Tryz.underlying104 rfl hi ?_) | (refine wpList_store_abs rfl 104 _ _ rfl (w.heap.size + 1) 0 L rfl rfl ht1 hi hone ?_; intro w4 _hw4 hr4 ht4 hb4; clear _hw4))
      refine ret_cell rfl (w.heap.size + 1) 0 L _ rfl hr4 Tryz.underlying104 rfl hi rfl ⟨by rw [HL.out], ?_⟩
      have h0 : Below w.heap.size w wb := by rw [HW.out]; exact ((Below.refl _ _).alloc (Nat.le_refl _) _).alloc (by simp) _
      exact h0.trans ((hB.mono (by omega)).trans (hb4 _ (by omega)))
end Go.Proofs.YtijdnpoenpjnlaaGreatDoor
