import Derived.Test.YteebdadnfaekmaaDoorWPick
import Derived.Test.YteebdadnfaekmaaDoorWTold2
import Derived.Test.YteebdadnfaekmaaDoorWCoded
set_option linter.unusedVariables false
set_option linter.unusedSimpArgs false
namespace Go.Proofs.YteebdadnfaekmaaDoor
open Go.RowKit

theorem tdiv_bounds (c d : Int) (hd : 0 < d) (h0 : -9223372036854775808 ≤ c) (h1 : c ≤ 9223372036854775807) : -9223372036854775808 ≤ c.tdiv d ∧ c.tdiv d ≤ 9223372036854775807 := by
  rcases Int.le_total 0 c with h | h
  · rw [Int.tdiv_eq_ediv_of_nonneg h]
    have h2 := Int.ediv_le_self d h
    have h3 := Int.ediv_nonneg h (Int.le_of_lt hd)
    omega
  · obtain ⟨m, rfl⟩ : ∃ m, c = -m := ⟨-c, by omega⟩
    have hm : 0 ≤ m := by omega
    rw [Int.neg_tdiv, Int.tdiv_eq_ediv_of_nonneg hm]
    have h2 := Int.ediv_le_self d hm
    have h3 := Int.ediv_nonneg hm (Int.le_of_lt hd)
    omega
theorem coded_whole (r1 r2 r3 r4 r5 r6 : Int) (a1 : 0 ≤ r1) (b1 : r1 < 9) (a2 : 0 ≤ r2) (b2 : r2 < 2147483647) (a3 : 0 ≤ r3) (b3 : r3 < 5) (a4 : 0 ≤ r4) (b4 : r4 < 99) (a5 : 0 ≤ r5) (b5 : r5 < 9) (a6 : 0 ≤ r6) (b6 : r6 < 6) :
    wholeB (1 + r1) (1 + r2) (1 + r3) (1 + r4) r5 r6 = true := by
  simp [wholeB, inB]; omega
theorem evz_len (c n o p v k : Int) : (Tryd.prog.info? 25).map (·.size) = some (evCells c n o p v k (bytesV (List.replicate 32 0))).length := by rw [info25]; rfl

theorem dig_put {w : World} {g : Nat} (c n o p v k : Int) (D0 D : List Value) (h : D.length = 32) (h0 : D0.length = 32) (hr : w.rangeAt g 0 (evCells c n o p v k D0)) (ht : w.there g 0 38) : (w.setCells g 6 D).rangeAt g 0 (evCells c n o p v k D) := by
  have h2 := range_over [.int .i64 c, .int .i64 n, .int .i64 o, .int .i64 p, .int .i64 v, .int .i64 k] D D0 hr (by rw [List.length_append, h0]; exact ht) (by omega)
  have e : D0.drop D.length = [] := List.drop_eq_nil_of_le (by omega)
  rw [e, List.append_nil] at h2
  exact h2
theorem sum_cells (K : Nat → Int) (s : ByteArray) : ((sumOf K s).data.toList.map fun x => Value.int .u8 (x.toNat : Int)) = bytesV (numsOf (sumOf K s)) := by unfold bytesV numsOf; rw [List.map_map]; rfl
theorem ev_info (c n o p v k : Int) (D : List Int) (h : D.length = 32) : (Tryd.prog.info? 25).map (·.size) = some (evCells c n o p v k (bytesV D)).length := by rw [info25]; simp [evCells, bytesV_length, h]
theorem ev_one (a b c d e f : Int) (D : List Int) : ∀ u ∈ evCells a b c d e f (bytesV D), u.oneCell' = true := by
  intro u hu
  simp only [evCells, List.mem_cons] at hu
  rcases hu with rfl | rfl | rfl | rfl | rfl | rfl | hu
  · rfl
  · rfl
  · rfl
  · rfl
  · rfl
  · rfl
  · exact bytesV_one _ u hu
theorem z32_same (w : World) : (Op.equalIn 9999 23 (.agg z32.toArray) (.agg z32.toArray)).run Tryd.prog w = .ok true w := by kernel_rfl
theorem digest_same (t : ByteArray) (h : t.size = 32) (w : World) (d : Nat) : (Op.equalIn (d + 2) 23 (.agg (bytesV (numsOf t)).toArray) (.agg (bytesV (numsOf t)).toArray)).run Tryd.prog w = .ok true w := by
  have hl : t.data.toList.length = 32 := by rw [← Lib.size_eq]; exact h
  have := run_equalIn_bytes (P := Tryd.prog) w d 23 5 32 Tryd.underlying23 Tryd.underlying5 size_byte t.data.toList t.data.toList hl hl
  have e : (t.data.toList.map Extern.Stop.cell) = bytesV (numsOf t) := by unfold bytesV numsOf; rw [List.map_map]; rfl
  rw [e] at this
  simpa using this

set_option maxRecDepth 10000 in
set_option maxHeartbeats 2000000 in
theorem coded_any (c : Int) (s : ByteArray) (K : Nat → Int) (w : World) (h0 : -9223372036854775808 ≤ c) (h1 : c ≤ 9223372036854775807) (hs : s.size ≤ 140737488351232)
    (hg : 2 ≤ w.heap.size) (hK : ∀ j, j < 64 → w.cell? ⟨1, j, none⟩ = some (.int .u32 (K j))) (hE : w.cell? ⟨0, 0, none⟩ = some errTypeV) :
    Calls Tryd.prog 3 #[.int .i64 c, .string s] w fun e w' => e = .returned (.bool true) ∧ Below w.heap.size w w' := by
  have HK : Hid (∀ j, j < 64 → w.cell? ⟨1, j, none⟩ = some (.int .u32 (K j))) := hK
  have HE : Hid (w.cell? ⟨0, 0, none⟩ = some errTypeV) := hE
  clear hK hE
  go_enter Tryd.func3, Tryd.ntmps3
  go_wp2_with fail
  refine (pick_any _ _ _ h0 h1 (by omega) (by omega)).mono ?_
  rintro e w1 ⟨r1, rfl, a1, b1, hw1⟩
  obtain rfl : w = w1 := hw1.symm
  clear hw1
  go_wp2_with fail
  refine (pick_any _ _ _ h0 h1 (by omega) (by omega)).mono ?_
  rintro e w1 ⟨r2, rfl, a2, b2, hw1⟩
  obtain rfl : w = w1 := hw1.symm
  clear hw1
  go_wp2_with fail
  refine (pick_any _ _ _ (tdiv_bounds c 9 (by omega) h0 h1).1 (tdiv_bounds c 9 (by omega) h0 h1).2 (by omega) (by omega)).mono ?_
  rintro e w1 ⟨r3, rfl, a3, b3, hw1⟩
  obtain rfl : w = w1 := hw1.symm
  clear hw1
  go_wp2_with fail
  refine (pick_any _ _ _ (tdiv_bounds c 64 (by omega) h0 h1).1 (tdiv_bounds c 64 (by omega) h0 h1).2 (by omega) (by omega)).mono ?_
  rintro e w1 ⟨r4, rfl, a4, b4, hw1⟩
  obtain rfl : w = w1 := hw1.symm
  clear hw1
  go_wp2_with fail
  refine (pick_any _ _ _ (tdiv_bounds c 7 (by omega) h0 h1).1 (tdiv_bounds c 7 (by omega) h0 h1).2 (by omega) (by omega)).mono ?_
  rintro e w1 ⟨r5, rfl, a5, b5, hw1⟩
  obtain rfl : w = w1 := hw1.symm
  clear hw1
  go_wp2_with fail
  refine (pick_any _ _ _ (tdiv_bounds c 5 (by omega) h0 h1).1 (tdiv_bounds c 5 (by omega) h0 h1).2 (by omega) (by omega)).mono ?_
  rintro e w1 ⟨r6, rfl, a6, b6, hw1⟩
  obtain rfl : w = w1 := hw1.symm
  clear hw1
  have hwh := coded_whole r1 r2 r3 r4 r5 r6 a1 b1 a2 b2 a3 b3 a4 b4 a5 b5 a6 b6
  have ht0 : (w.alloc (.cells zEvL.toArray 25)).there w.heap.size 0 (evCells (1 + r1) (1 + r2) (1 + r3) (1 + r4) r5 r6 (bytesV (List.replicate 32 0))).length := there_zev w
  go_wp2_with (first | (refine wpList_alloc_of rfl 25 rfl zEvL.toArray alloc_ev ?_) | (refine wpList_store_abs rfl 25 _ _ rfl w.heap.size 0 (evCells (1 + r1) (1 + r2) (1 + r3) (1 + r4) r5 r6 (bytesV (List.replicate 32 0))) rfl rfl ht0 (evz_len _ _ _ _ _ _) (raw_one _ _ _ _ _ _) ?_; intro w2 _hw2 hr2 ht2 hb2; clear _hw2))
  clear ht0 a1 b1 a2 b2 a3 b3 a4 b4 a5 b5 a6 b6
  generalize (1 + r1) = f1 at *
  generalize (1 + r2) = f2 at *
  generalize (1 + r3) = f3 at *
  generalize (1 + r4) = f4 at *
  have hB2 : Below w.heap.size w w2 := ((Below.refl _ _).alloc (Nat.le_refl _) _).trans (hb2 _ (Nat.le_refl _))
  have hs2 := (hb2 _ (Nat.le_refl _)).size
  simp at hs2
  clear hb2
  refine (sum_any s K w2 (by omega) (by omega) (fun j hj => (hB2.cell (p := ⟨1, j, none⟩) (by show 1 < w.heap.size; omega)).trans (HK.out j hj))).mono ?_
  rintro e w3 ⟨rfl, hb3⟩
  have hsz : (sumOf K s).size = 32 := sumOf_size K s
  have hrS := hr2
  have ht3 : w3.there w.heap.size 0 38 := there_below hb3 hs2 ht2
  have hr3 : w3.rangeAt w.heap.size 0 (evCells f1 f2 f3 f4 r5 r6 (bytesV (List.replicate 32 0))) := fun j v hv => (hb3.cell (p := ⟨w.heap.size, 0 + j, none⟩) hs2).trans (hr2 j v hv)
  have hB3 : Below w.heap.size w w3 := hB2.trans (hb3.mono (Nat.le_of_lt hs2))
  have hs3 : w.heap.size < w3.heap.size := Nat.lt_of_lt_of_le hs2 hb3.size
  have hgood := forth f1 f2 f3 f4 r5 r6 (numsOf (sumOf K s)) (by rw [numsOf_length, hsz]) (nums_range _) hwh
  have hdl : (numsOf (sumOf K s)).length = 32 := by rw [numsOf_length, hsz]
  have hsc := sum_cells K s
  have hds := digest_same (sumOf K s) hsz
  generalize sumOf K s = t at *
  clear hrS hr2 ht2 hb3 hB2 hs2
  have hrun := run_copy_string (P := Tryd.prog) w3 27 9 3 5 w.heap.size 6 32 32 t Tryd.underlying27 size_byte (by rw [hsz]; exact Nat.le_refl _) (fun j hj => by simpa using (ht3 (6 + j) (by omega)).1) (fun j hj => by simpa using (ht3 (6 + j) (by omega)).2)
  rw [hsc, hsz] at hrun
  obtain ⟨w4, hw4⟩ : ∃ w4, w4 = w3.setCells w.heap.size 6 (bytesV (numsOf t)) := ⟨_, rfl⟩
  rw [← hw4] at hrun
  have hr4 : w4.rangeAt w.heap.size 0 (evCells f1 f2 f3 f4 r5 r6 (bytesV (numsOf t))) := by rw [hw4]; exact dig_put f1 f2 f3 f4 r5 r6 _ _ (by rw [bytesV_length, hdl]) (by rw [bytesV_length, List.length_replicate]) hr3 ht3
  have hB4 : Below w.heap.size w w4 := by rw [hw4]; exact below_setCells (Nat.le_refl _) _ _ _ hB3
  have hs4 : w.heap.size < w4.heap.size := by rw [hw4, size_setCells]; exact hs3
  clear hw4 hr3 ht3 hB3 hs3 hsc
  have hi := ev_info f1 f2 f3 f4 r5 r6 (numsOf t) hdl
  have HD : Hid (∀ (w : World) (d : Nat), (Op.equalIn (d + 2) 23 (.agg (bytesV (numsOf t)).toArray) (.agg (bytesV (numsOf t)).toArray)).run Tryd.prog w = .ok true w) := hds
  have HG : Hid (goodB (strOfNums (evBytes f1 f2 f3 f4 r5 r6 (numsOf t))) = true ∧ fEv (strOfNums (evBytes f1 f2 f3 f4 r5 r6 (numsOf t))) = evCells f1 f2 f3 f4 r5 r6 (bytesV (numsOf t))) := hgood
  clear hds hgood
  go_wp2_with (first | (at_builtin; refine Lib.wpList_copy_run _ rfl _ _ 27 9 rfl _ _ rfl rfl hrun ?_) | (refine wpList_load_mid rfl 25 _ rfl w.heap.size 0 rfl _ _ hr4 Tryd.underlying25 rfl hi ?_))
  refine (aencode_yes _ _ _ _ _ _ _ _ hdl hwh).mono ?_
  rintro e w5 ⟨rfl, hb5⟩
  clear hrun
  have hr5 : w5.rangeAt w.heap.size 0 (evCells f1 f2 f3 f4 r5 r6 (bytesV (numsOf t))) := fun j v hv => (hb5.cell (p := ⟨w.heap.size, 0 + j, none⟩) hs4).trans (hr4 j v hv)
  have hB5 : Below w.heap.size w w5 := hB4.trans (hb5.mono (Nat.le_of_lt hs4))
  have hs5 : w.heap.size < w5.heap.size := Nat.lt_of_lt_of_le hs4 hb5.size
  clear hr4 hB4 hs4 hb5
  have hsl : (strOfNums (evBytes f1 f2 f3 f4 r5 r6 (numsOf t))).size = 42 := by rw [strOfNums_size, ev_len _ _ _ _ _ _ _ hdl]
  generalize strOfNums (evBytes f1 f2 f3 f4 r5 r6 (numsOf t)) = S at *
  go_wp2_with fail
  refine (adecode_any S _).mono ?_
  rintro e w6 ⟨hb6, cs, v6, rfl, hc6⟩
  obtain ⟨rfl, rfl⟩ : cs = evCells f1 f2 f3 f4 r5 r6 (bytesV (numsOf t)) ∧ v6 = .nilIface := by
    rcases hc6 with ⟨_, h1, h2⟩ | ⟨h1, _⟩
    · exact ⟨h1.trans HG.out.2, h2⟩
    · rw [HG.out.1] at h1; cases h1
  clear hc6 HG
  have hr6 : w6.rangeAt w.heap.size 0 (evCells f1 f2 f3 f4 r5 r6 (bytesV (numsOf t))) := fun j v hv => (hb6.cell (p := ⟨w.heap.size, 0 + j, none⟩) hs5).trans (hr5 j v hv)
  have hB6 : Below w.heap.size w w6 := hB5.trans (hb6.mono (Nat.le_of_lt hs5))
  have hs6 : w.heap.size < w6.heap.size := Nat.lt_of_lt_of_le hs5 hb6.size
  clear hr5 hB5 hs5 hb6
  have hone := fun u hu => ev_one f1 f2 f3 f4 r5 r6 (numsOf t) u hu
  have hl38 : (evCells f1 f2 f3 f4 r5 r6 (bytesV (numsOf t))).length = zEvL.length := by rw [zEv_len]; simp [evCells, bytesV_length, hdl]
  have ht6 : (w6.alloc (.cells zEvL.toArray 25)).there w6.heap.size 0 (evCells f1 f2 f3 f4 r5 r6 (bytesV (numsOf t))).length := by rw [hl38]; exact there_zev w6
  go_wp2_with (first | (refine wpList_alloc_of rfl 25 rfl zEvL.toArray alloc_ev ?_) | (refine wpList_store_abs rfl 25 _ _ rfl w6.heap.size 0 _ rfl rfl ht6 hi hone ?_; intro w7 _hw7 hr7 _ht7 hb7; clear _hw7 _ht7))
  have hr7' : w7.rangeAt w.heap.size 0 (evCells f1 f2 f3 f4 r5 r6 (bytesV (numsOf t))) := fun j v hv => ((hb7 _ (Nat.le_refl _)).cell (p := ⟨w.heap.size, 0 + j, none⟩) hs6).trans ((World.cell?_alloc_past _ _ _ hs6).trans (hr6 j v hv))
  have hB7 : Below w.heap.size w w7 := hB6.trans (((Below.refl _ _).alloc (Nat.le_of_lt hs6) _).trans (hb7 _ (Nat.le_of_lt hs6)))
  have hs7 : w6.heap.size < w7.heap.size := by have := (hb7 _ (Nat.le_refl _)).size; simp at this; omega
  clear hr6 hB6 ht6 hb7
  have hbad : goodB (S ++ ⟨#[120]⟩) = false := by
    have : (S ++ ⟨#[120]⟩ : ByteArray).size = 43 := by rw [ByteArray.size_append, hsl]; rfl
    simp [goodB, this]
  refine (adecode_any _ _).mono ?_
  rintro e w8 ⟨hb8, cs, v8, rfl, hc8⟩
  obtain ⟨rfl, rfl⟩ : cs = zEvL ∧ v8 = .iface 34 (.int .i64 9) := by
    rcases hc8 with ⟨h1, _⟩ | ⟨_, h1, h2⟩
    · rw [hbad] at h1; cases h1
    · exact ⟨h1, h2⟩
  clear hc8 hbad
  have hr8 : w8.rangeAt w6.heap.size 0 (evCells f1 f2 f3 f4 r5 r6 (bytesV (numsOf t))) := fun j v hv => (hb8.cell (p := ⟨w6.heap.size, 0 + j, none⟩) hs7).trans (hr7 j v hv)
  have hr8' : w8.rangeAt w.heap.size 0 (evCells f1 f2 f3 f4 r5 r6 (bytesV (numsOf t))) := fun j v hv => (hb8.cell (p := ⟨w.heap.size, 0 + j, none⟩) (Nat.lt_trans hs6 hs7)).trans (hr7' j v hv)
  have hB8 : Below w.heap.size w w8 := hB7.trans (hb8.mono (Nat.le_of_lt (Nat.lt_trans hs6 hs7)))
  have hs8 : w6.heap.size < w8.heap.size := Nat.lt_of_lt_of_le hs7 hb8.size
  clear hr7 hr7' hB7 hs7 hb8
  have e0 := ev0 f1 f2 f3 f4 r5 r6 (bytesV (numsOf t))
  have e1 := ev1 f1 f2 f3 f4 r5 r6 (bytesV (numsOf t))
  have e2 := ev2 f1 f2 f3 f4 r5 r6 (bytesV (numsOf t))
  have e3 := ev3 f1 f2 f3 f4 r5 r6 (bytesV (numsOf t))
  have e4 := ev4 f1 f2 f3 f4 r5 r6 (bytesV (numsOf t))
  have e5 := ev5 f1 f2 f3 f4 r5 r6 (bytesV (numsOf t))
  have ex : ((evCells f1 f2 f3 f4 r5 r6 (bytesV (numsOf t))).extract 6 38) = bytesV (numsOf t) := by
    rw [List.extract_eq_take_drop]; exact List.take_of_length_le (by show (bytesV (numsOf t)).length ≤ 32; rw [bytesV_length, hdl]; exact Nat.le_refl _)
  have eb : ∀ w, (Op.equalIn 9999 23 (.agg (bytesV (numsOf t)).toArray) (.agg (bytesV (numsOf t)).toArray)).run Tryd.prog w = .ok true w := fun w => HD.out w 9997
  clear HD hone hl38
  go_wp2_with (first | (refine wpList_alloc_of rfl 25 rfl zEvL.toArray alloc_ev ?_) | (refine wpList_store_abs rfl 25 _ _ rfl w8.heap.size 0 zEvL rfl rfl (there_zev w8) info_zev zEv_one ?_; intro w9 _hw9 _hr9 _ht9 hb9; clear _hw9 _hr9 _ht9; have hr9 : w9.rangeAt w6.heap.size 0 (evCells f1 f2 f3 f4 r5 r6 (bytesV (numsOf t))) := fun j v hv => ((hb9 _ (Nat.le_refl _)).cell (p := ⟨w6.heap.size, 0 + j, none⟩) hs8).trans ((World.cell?_alloc_past _ _ _ hs8).trans (hr8 j v hv)); have hr9' : w9.rangeAt w.heap.size 0 (evCells f1 f2 f3 f4 r5 r6 (bytesV (numsOf t))) := fun j v hv => ((hb9 _ (Nat.le_refl _)).cell (p := ⟨w.heap.size, 0 + j, none⟩) (Nat.lt_trans hs6 hs8)).trans ((World.cell?_alloc_past _ _ _ (Nat.lt_trans hs6 hs8)).trans (hr8' j v hv))) | (refine wpList_load_wanted (by rfl) 25 (.tmp 9) rfl w6.heap.size 0 rfl _ _ hr9 Tryd.underlying25 rfl hi ?_) | (refine wpList_load_wanted (by rfl) 25 (.tmp 5) rfl w.heap.size 0 rfl _ _ hr9' Tryd.underlying25 rfl hi ?_))
  have hB9 : Below w.heap.size w w9 := hB8.trans (((Below.refl _ _).alloc (Nat.le_of_lt (Nat.lt_trans hs6 hs8)) _).trans (hb9 _ (Nat.le_of_lt (Nat.lt_trans hs6 hs8))))
  have hs9 : w.heap.size < w9.heap.size := by have := hB9.size; have := (hb9 _ (Nat.le_refl _)).size; simp at this; omega
  clear hb9 hr9 hr9' hr8 hr8' hB8 hs8 hs6 e0 e1 e2 e3 e4 e5 ex eb hdl hsl hi hwh hsz
  refine (adecode_any s w9).mono ?_
  rintro e w10 ⟨hb10, cs, v10, rfl, hc10⟩
  have hB10 : Below w.heap.size w w10 := hB9.trans (hb10.mono (Nat.le_of_lt hs9))
  have hs10 : w.heap.size < w10.heap.size := Nat.lt_of_lt_of_le hs9 hb10.size
  clear hb10 hB9 hs9
  rcases hc10 with ⟨hgd, rfl, rfl⟩ | ⟨hgd, rfl, rfl⟩
  · have hw0 : wholeB (bAt s 1) (readI (bAt s 2) (bAt s 3) (bAt s 4) (bAt s 5)) (bAt s 6) (bAt s 7) (bAt s 8) (bAt s 9) = true := by
      simp [goodB] at hgd; exact hgd.2.2
    have hsz := good_len s hgd
    have hdl : (dg s).length = 32 := dg_length s (by simp [hsz])
    have hbk := back_bytes s hgd
    have hi : (Tryd.prog.info? 25).map (·.size) = some (fEv s).length := by rw [info25, fEv_len s (by simp [hsz])]
    have hone := fEv_one s
    have ht : (w10.alloc (.cells zEvL.toArray 25)).there w10.heap.size 0 (fEv s).length := by rw [fEv_len s (by simp [hsz]), ← zEv_len]; exact there_zev w10
    have HB : Hid (strOfNums (evBytes (bAt s 1) (readI (bAt s 2) (bAt s 3) (bAt s 4) (bAt s 5)) (bAt s 6) (bAt s 7) (bAt s 8) (bAt s 9) (dg s)) = s) := hbk
    clear hbk hsz hgd
    go_wp2_with (first | (refine wpList_alloc_of rfl 25 rfl zEvL.toArray alloc_ev ?_) | (refine wpList_store_abs rfl 25 _ _ rfl w10.heap.size 0 (fEv s) rfl rfl ht hi hone ?_; intro w11 _hw11 hr11 _ht11 hb11; clear _hw11 _ht11) | (refine wpList_load_mid rfl 25 _ rfl w10.heap.size 0 rfl (fEv s) _ hr11 Tryd.underlying25 rfl hi ?_))
    have hB11 : Below w.heap.size w w11 := hB10.trans (((Below.refl _ _).alloc (Nat.le_of_lt hs10) _).trans (hb11 _ (Nat.le_of_lt hs10)))
    have hs11 : w.heap.size ≤ w11.heap.size := hB11.size
    refine (aencode_yes _ _ _ _ _ _ _ _ hdl hw0).mono ?_
    rintro e w12 ⟨rfl, hb12⟩
    rw [HB.out]
    have hB12 : Below w.heap.size w w12 := hB11.trans (hb12.mono hs11)
    clear hb11 hr11 hB11 hb12 hB10
    go_wp2
    go_ret
    exact ⟨rfl, hB12⟩
  · have z0 : zEvL[0]? = some (.int .i64 0) := rfl
    have z1 : zEvL[1]? = some (.int .i64 0) := rfl
    have z2 : zEvL[2]? = some (.int .i64 0) := rfl
    have z3 : zEvL[3]? = some (.int .i64 0) := rfl
    have z4 : zEvL[4]? = some (.int .i64 0) := rfl
    have z5 : zEvL[5]? = some (.int .i64 0) := rfl
    have zx : zEvL.extract 6 38 = z32 := rfl
    have zb := z32_same
    go_wp2_with (first | (refine wpList_alloc_of rfl 25 rfl zEvL.toArray alloc_ev ?_) | (refine wpList_store_abs rfl 25 _ _ rfl w10.heap.size 0 zEvL rfl rfl (there_zev w10) info_zev zEv_one ?_; intro w11 _hw11 hr11 _ht11 hb11; clear _hw11 _ht11))
    have hB11 : Below w.heap.size w w11 := hB10.trans (((Below.refl _ _).alloc (Nat.le_of_lt hs10) _).trans (hb11 _ (Nat.le_of_lt hs10)))
    have hs11 : w10.heap.size < w11.heap.size := by have := (hb11 _ (Nat.le_refl _)).size; simp at this; omega
    refine (told_hit 9 w11 ((hB11.cell (p := ⟨0, 0, none⟩) (by show 0 < w.heap.size; omega)).trans HE.out) (by omega)).mono ?_
    rintro e w12 ⟨rfl, hb12⟩
    have hr12 : w12.rangeAt w10.heap.size 0 zEvL := fun j v hv => (hb12.cell (p := ⟨w10.heap.size, 0 + j, none⟩) hs11).trans (hr11 j v hv)
    have hB12 : Below w.heap.size w w12 := hB11.trans (hb12.mono (by omega))
    clear hb11 hr11 hB11 hb12 hB10
    go_wp2_with (first | (refine wpList_load_wanted (by rfl) 25 (.tmp 13) rfl w10.heap.size 0 rfl zEvL _ hr12 Tryd.underlying25 rfl info_zev ?_) | (refine wpList_build_wanted (by rfl) 25 rfl zEvL.toArray build_ev ?_))
    go_ret
    exact ⟨rfl, hB12⟩
end Go.Proofs.YteebdadnfaekmaaDoor
