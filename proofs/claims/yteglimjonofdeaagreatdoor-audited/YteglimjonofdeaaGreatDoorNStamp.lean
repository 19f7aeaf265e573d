import Derived.Test.YteglimjonofdeaaGreatDoorNVol2M
set_option linter.unusedVariables false
set_option linter.unusedSimpArgs false
namespace Go.Proofs.YteglimjonofdeaaGreatDoor
open Go.RowKit

/-- The blocks' bytes, one behind the other. -/
def allN (C : Nat → List Int) (n : Nat) : List Int := (List.range n).flatMap C
/-- The texts of the blocks. -/
def blkT (C : Nat → List Int) (n : Nat) : List ByteArray := (List.range n).map fun i => strOfNums (C i)
theorem blkT_len (C : Nat → List Int) (n : Nat) : (blkT C n).length = n := by unfold blkT; simp
theorem join_blkT (C : Nat → List Int) (n : Nat) (h : ∀ i, i < n → ∀ x ∈ C i, 0 ≤ x ∧ x < 256) : joinN (blkT C n) = allN C n := by
  unfold joinN blkT allN
  rw [List.flatMap_map]
  induction n with
  | zero => rfl
  | succ n ih =>
    rw [List.range_succ, List.flatMap_append, List.flatMap_append, ih (fun i hi => h i (by omega))]
    simp [nums_str _ (h n (by omega))]
theorem allN_len (C : Nat → List Int) (n : Nat) (h : ∀ i, i < n → (C i).length = 128) : (allN C n).length = 128 * n := by
  unfold allN
  induction n with
  | zero => rfl
  | succ n ih => rw [List.range_succ, List.flatMap_append, List.length_append, ih (fun i hi => h i (by omega))]; simp [h n (by omega)]; omega
/-- What no record on the blocks can be linked to. -/
def stampT (K : Nat → Int) (C : Nat → List Int) (n : Nat) : ByteArray := (sumOf K (strOfNums (allN C n))).extract 0 18
theorem stampT_size (K : Nat → Int) (C : Nat → List Int) (n : Nat) : (stampT K C n).size = 18 := by unfold stampT; rw [ByteArray.size_extract, sumOf_size]; rfl

set_option maxRecDepth 10000 in
set_option maxHeartbeats 1000000 in
theorem stamp_any (K : Nat → Int) (p bb n : Nat) (C : Nat → List Int) (w : World) (hn : n ≤ 1000) (hn0 : 0 < n) (h : DiskAt w p bb n C (.slice none 0 0) []) (hC : ∀ i, i < n → ∀ x ∈ C i, 0 ≤ x ∧ x < 256) (T : Tab K w) (hpT : ¬ 1 = p) :
    Calls Tryz.prog 162 #[.agg (volL p n).toArray] w fun e w' => e = .returned (.string (stampT K C n)) ∧ DiskAt w' p bb n C (.slice none 0 0) [] ∧ Kept (· = p) w w' := by
  obtain ⟨i0, hi, hz, hsz, hby⟩ := info_strT
  have hpl := h.lt.1
  have hB0 : Below w.heap.size w (w.alloc (.cells (volL p n).toArray 222)) := (Below.refl _ _).alloc (Nat.le_refl _) _
  have hsize := vsize_any p n (w.alloc (.cells (volL p n).toArray 222))
  have hr0 : (w.alloc (.cells (volL p n).toArray 222)).rangeAt w.heap.size 0 (volL p n) := range_new _ _ _
  have HIV : Hid ((Tryz.prog.info? 222).map (·.size) = some (volL p n).length) := info_vol p n
  have HD : Hid (DiskAt w p bb n C (.slice none 0 0) []) := h
  have HT : Hid (Tab K w) := T
  clear h T
  go_enter Tryz.func162, Tryz.ntmps162
  go_wp2_with (refine wpList_load_mid rfl 222 _ rfl w.heap.size 0 rfl (volL p n) _ hr0 Tryz.underlying222 rfl HIV.out ?_)
  refine hsize.mono ?_
  rintro e w1 ⟨rfl, hb1⟩
  clear hsize
  have hs1 : w.heap.size + 1 ≤ w1.heap.size := by have := hb1.size; simpa using this
  have hB1 : Below w.heap.size w w1 := hB0.trans (hb1.mono hB0.size)
  have hr1 : w1.rangeAt w.heap.size 0 (volL p n) := fun j v hv => (hb1.cell (p := ⟨w.heap.size, 0 + j, none⟩) (by show w.heap.size < _; simp)).trans (hr0 j v hv)
  clear hr0 hb1 hB0
  go_wp2_with (at_make; refine wpList_make_full _ rfl _ _ 51 rfl w1.heap.size 9 i0 (.string ⟨#[]⟩) 1 Tryz.underlying51 hi hz hsz .i64 .i64 _ _ n rfl rfl ?L ?C ?b2 ?b3 (Nat.le_refl _) ?_)
  case L => rfl
  case C => rfl
  case b2 => rw [hby]; omega
  case b3 => unfold maxLen; omega
  intro w2 ho2 hg2
  have hgt : w2.there w1.heap.size 0 n := own_there ho2
  have hgl := (ho2.lt w1.heap.size rfl).2
  have hk2 : Kept (fun _ => False) w1 w2 := Kept.grown hg2 (fun k hk => by cases hk)
  have HK2 : Hid (Kept (· = p) w w2) := (Kept.fresh hB1).trans (hk2.mono (S' := (· = p)) (fun _ _ h => h.elim)) (fun g _ h => h)
  have HD2 : Hid (DiskAt w2 p bb n C (.slice none 0 0) []) := (HD.out.fresh hB1).kept hk2 id id (fun g hg => by cases hg)
  have hr2 : w2.rangeAt w.heap.size 0 (volL p n) := fun j v hv => (hk2.cell (a := ⟨w.heap.size, 0 + j, none⟩) (by show w.heap.size < _; omega) id).trans (hr1 j v hv)
  clear ho2 hg2 hr1
  go_wp2_with fail
  go_loopw [11] (fun i wr => ∃ k : Nat, i = .int .i64 k ∧ k ≤ n ∧ Hid (DiskAt wr p bb n C (.slice none 0 0) [] ∧ Kept (· = p) w wr ∧ Kept (fun g => g = p ∨ g = w1.heap.size) w2 wr ∧ wr.there w1.heap.size 0 n ∧ ∀ j, j < k → wr.cell? ⟨w1.heap.size, j, none⟩ = some (.string (strOfNums (C j))))) (fun i _ => n - (intOf i).toNat)
  case atStart => exact ⟨0, rfl, Nat.zero_le _, HD2.out, HK2.out, Kept.refl _ _, hgt, fun j hj => by omega⟩
  case round =>
    obtain ⟨k, rfl, hk, hI⟩ := hrel
    clear HD2 HK2 hgt
    have hrr : wr.rangeAt w.heap.size 0 (volL p n) := fun j v hv => (hI.out.2.2.1.cell (a := ⟨w.heap.size, 0 + j, none⟩) (by show w.heap.size < _; omega) (by show ¬ (w.heap.size = p ∨ w.heap.size = w1.heap.size); omega)).trans (hr2 j v hv)
    have hsr := hI.out.2.2.1.size
    by_cases hlt : k < n
    · have k1 : (k : Int) < (n : Int) := by omega
      have k0 : (0 : Int) ≤ (k : Int) := by omega
      have hblk := vblock_any p bb n k C wr hlt hn hI.out.1
      have hCk : (C k).length = 128 := hI.out.1.len k hlt
      go_wp2_with (refine wpList_load_mid rfl 222 _ rfl w.heap.size 0 rfl (volL p n) _ hrr Tryz.underlying222 rfl HIV.out ?_)
      refine hblk.mono ?_
      rintro e w4 ⟨rfl, hD4, hk4⟩
      clear hblk
      have hs4 := hk4.size
      have htq : (w4.alloc (.cells zB.toArray 254)).there w4.heap.size 0 (bytesV (C k)).length := by rw [bytesV_length, hCk]; exact there_blk w4
      have HIB : Hid ((Tryz.prog.info? 254).map (·.size) = some (bytesV (C k)).length) := info_dblk (C k) hCk
      obtain ⟨b, hbe⟩ : ∃ b, b = C k := ⟨_, rfl⟩
      have HBE : Hid (b = C k) := hbe
      have hb : b.length = 128 := by rw [hbe]; exact hCk
      rw [← hbe] at htq HIB ⊢
      clear hbe hCk
      have ht4 : w4.there w1.heap.size 0 n := fun j hj => by
        have := hI.out.2.2.2.1 j hj
        rw [hk4.cell (a := ⟨w1.heap.size, 0 + j, none⟩) (by show w1.heap.size < _; omega) (by show ¬ w1.heap.size = p; omega), hk4.frozen (a := ⟨w1.heap.size, 0 + j, none⟩) (by show w1.heap.size < _; omega) (by show ¬ w1.heap.size = p; omega)]
        exact this
      go_wp2_with (first
        | (refine wpList_alloc_of rfl 254 rfl zB.toArray alloc_blk ?_)
        | (refine wpList_store_abs rfl 254 _ _ rfl w4.heap.size 0 (bytesV b) rfl rfl htq HIB.out (bytesV_one b) ?_
           intro w5 hw5 hr5 _ht5 hb5
           have HS5 : Hid (w5.heap.size = w4.heap.size + 1) := (by show _ = _; rw [hw5, size_setCells]; simp)
           clear hw5 _ht5
           have hB5 : Below w4.heap.size w4 w5 := ((Below.refl _ _).alloc (Nat.le_refl _) _).trans (hb5 _ (Nat.le_refl _))
           have hcv := convert_range (cap := 128) 128 hb hr5
           have ht5 : w5.there w1.heap.size 0 n := there_below hB5 (by omega) ht4
           have cK := (ht5 k hlt).1
           have fK := (ht5 k hlt).2
           rw [Nat.zero_add] at cK fK
           obtain ⟨xK, hxK⟩ := Option.isSome_iff_exists.1 cK))
      refine ⟨⟨k + 1, by go_num, by omega, ?_, ?_, ?_, ?_, ?_⟩, ?_⟩
      · exact (hD4.fresh hB5).kept (Kept.setCell (S := (· = w1.heap.size)) _ _ _ (Or.inl rfl)) (by omega) (by have := hI.out.1.lt.2; have := HD.out.lt.2; omega) (fun g hg => by cases hg)
      · exact (hI.out.2.1.trans hk4 (fun g _ h => h)).trans ((Kept.fresh (S := (· = w1.heap.size)) hB5).trans (Kept.setCell (S := (· = w1.heap.size)) _ _ _ (Or.inl rfl)) (fun g _ h => h)) (fun g h1 h2 => by omega)
      · exact (hI.out.2.2.1.trans hk4 (fun g _ h => Or.inl h)).trans ((Kept.fresh (S := (· = w1.heap.size)) hB5).trans (Kept.setCell (S := (· = w1.heap.size)) _ _ _ (Or.inl rfl)) (fun g _ h => h)) (fun g h1 h2 => Or.inr h2)
      · exact World.there_setCells ht5 w1.heap.size k [.string (strOfNums b)]
      · intro j hj
        by_cases e : j = k
        · subst e
          rw [World.cell?_setCell_same _ _ _ hxK, HBE.out]
        · rw [World.cell?_setCell_other _ _ _ _ (by intro e'; exact e (congrArg Addr.off e').symm), hB5.cell (p := ⟨w1.heap.size, j, none⟩) (by show w1.heap.size < _; omega), hk4.cell (a := ⟨w1.heap.size, j, none⟩) (by show w1.heap.size < _; omega) (by show ¬ w1.heap.size = p; omega)]
          exact hI.out.2.2.2.2 j (by omega)
      · simp [intOf]; omega
    · have k1 : ¬ (k : Int) < (n : Int) := by omega
      obtain rfl : n = k := by omega
      have hsr2 : w1.heap.size < wr.heap.size := by omega
      have T2 : Tab K wr := HT.out.kept hI.out.2.1 hpT
      have hof := of_any (blkT C n) w1.heap.size n K wr hsr2 (by rw [blkT_len]; omega) (by rw [join_blkT C n hC, allN_len C n hI.out.1.len]; omega)
        (fun j hj => by
          rw [blkT_len] at hj
          rw [hI.out.2.2.2.2 j hj]
          unfold blkT
          rw [List.getD_eq_getElem?_getD, List.getElem?_map, List.getElem?_range hj]; rfl) T2.lt T2.cells
      rw [blkT_len, join_blkT C n hC] at hof
      have hal : ∀ x ∈ allN C n, 0 ≤ x ∧ x < 256 := fun x hx => by
        unfold allN at hx
        obtain ⟨i, hi', hx⟩ := List.mem_flatMap.1 hx
        exact hC i (List.mem_range.1 hi') x hx
      rw [hV_sum K (allN C n) (strOfNums (allN C n)) (nums_str _ hal).symm] at hof
      have HST : Hid (stampT K C n = (sumOf K (strOfNums (allN C n))).extract 0 18) := rfl
      have hS32 := sumOf_size K (strOfNums (allN C n))
      generalize sumOf K (strOfNums (allN C n)) = S at *
      have hs18 : (18 : Int) ≤ (S.size : Int) := by omega
      clear hal T2
      go_wp2_with fail
      refine hof.mono ?_
      rintro e w5 ⟨rfl, hb5⟩
      clear hof
      go_wp2_with fail
      refine (htx_any S hS32 w5).mono ?_
      rintro e w6 ⟨rfl, hb6⟩
      have hB6 : Below wr.heap.size wr w6 := hb5.trans (hb6.mono hb5.size)
      go_wp2_with fail
      go_ret
      exact ⟨by rw [HST.out]; rfl, hI.out.1.fresh hB6, hI.out.2.1.trans (Kept.fresh hB6) (fun g _ h => h)⟩
end Go.Proofs.YteglimjonofdeaaGreatDoor
