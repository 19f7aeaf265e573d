import Derived.Test.YteglimjonofdeaaGreatDoorNBkM
set_option linter.unusedVariables false
set_option linter.unusedSimpArgs false
namespace Go.Proofs.YteglimjonofdeaaGreatDoor
open Go.RowKit

theorem oor_u32 (a b : Int) (ha : 0 ≤ a) (ha2 : a < 4294967296) (hb : 0 ≤ b) (hb2 : b < 4294967296) : bits .or .u32 a b = ((a.toNat ||| b.toNat : Nat) : Int) := by
  obtain ⟨x, rfl⟩ := Int.eq_ofNat_of_zero_le ha
  obtain ⟨y, rfl⟩ := Int.eq_ofNat_of_zero_le hb
  have hx : x < 2 ^ 32 := by omega
  have hy : y < 2 ^ 32 := by omega
  have ho : x ||| y < 2 ^ 32 := Nat.or_lt_two_pow hx hy
  have h1 : (BitVec.ofInt 32 (x : Int)).toNat = x := by rw [BitVec.ofInt_natCast, BitVec.toNat_ofNat]; exact Nat.mod_eq_of_lt hx
  have h2 : (BitVec.ofInt 32 (y : Int)).toNat = y := by rw [BitVec.ofInt_natCast, BitVec.toNat_ofNat]; exact Nat.mod_eq_of_lt hy
  show IntKind.u32.wrap ((BitVec.ofInt 32 (x : Int) ||| BitVec.ofInt 32 (y : Int)).toNat : Int) = _
  rw [BitVec.toNat_or, h1, h2, Int.toNat_natCast, Int.toNat_natCast]
  simp [IntKind.wrap, IntKind.bits, IntKind.signed]
  omega
/-- A number whose low part is nought, and another that is that part. -/
theorem oor_apart (k a b : Nat) (hb : b < 2 ^ k) : (2 ^ k * a) ||| b = 2 ^ k * a + b := by
  rw [Nat.two_pow_add_eq_or_of_lt hb]
theorem oreadI_eq (x0 x1 x2 x3 : Int) (h0 : 0 ≤ x0 ∧ x0 < 256) (h1 : 0 ≤ x1 ∧ x1 < 256) (h2 : 0 ≤ x2 ∧ x2 < 256) (h3 : 0 ≤ x3 ∧ x3 < 256) : readI x0 x1 x2 x3 = x0 * 16777216 + x1 * 65536 + x2 * 256 + x3 := by
  obtain ⟨a, rfl⟩ := Int.eq_ofNat_of_zero_le h0.1
  obtain ⟨b, rfl⟩ := Int.eq_ofNat_of_zero_le h1.1
  obtain ⟨c, rfl⟩ := Int.eq_ofNat_of_zero_le h2.1
  obtain ⟨d, rfl⟩ := Int.eq_ofNat_of_zero_le h3.1
  have e0 : (a : Int) % 4294967296 * 16777216 % 4294967296 = ((2 ^ 24 * a : Nat) : Int) := by omega
  have e1 : (b : Int) % 4294967296 * 65536 % 4294967296 = ((2 ^ 16 * b : Nat) : Int) := by omega
  have e2 : (c : Int) % 4294967296 * 256 % 4294967296 = ((2 ^ 8 * c : Nat) : Int) := by omega
  have e3 : (d : Int) % 4294967296 = ((d : Nat) : Int) := by omega
  have r1 : bits .or .u32 ((2 ^ 24 * a : Nat) : Int) ((2 ^ 16 * b : Nat) : Int) = ((2 ^ 16 * (2 ^ 8 * a + b) : Nat) : Int) := by
    rw [oor_u32 _ _ (by omega) (by omega) (by omega) (by omega), Int.toNat_natCast, Int.toNat_natCast, oor_apart 24 a (2 ^ 16 * b) (by omega)]
    congr 1; omega
  have r2 : bits .or .u32 ((2 ^ 16 * (2 ^ 8 * a + b) : Nat) : Int) ((2 ^ 8 * c : Nat) : Int) = ((2 ^ 8 * (2 ^ 16 * a + 2 ^ 8 * b + c) : Nat) : Int) := by
    rw [oor_u32 _ _ (by omega) (by omega) (by omega) (by omega), Int.toNat_natCast, Int.toNat_natCast, oor_apart 16 _ (2 ^ 8 * c) (by omega)]
    congr 1; omega
  have r3 : bits .or .u32 ((2 ^ 8 * (2 ^ 16 * a + 2 ^ 8 * b + c) : Nat) : Int) ((d : Nat) : Int) = ((2 ^ 8 * (2 ^ 16 * a + 2 ^ 8 * b + c) + d : Nat) : Int) := by
    rw [oor_u32 _ _ (by omega) (by omega) (by omega) (by omega), Int.toNat_natCast, Int.toNat_natCast, oor_apart 8 _ d (by omega)]
  unfold readI
  rw [e0, e1, e2, e3, r1, r2, r3]
  omega
theorem oread_four0 (n : Int) (h0 : 0 ≤ n) (h1 : n < 4294967296) : readI (n / 16777216 % 256) (n / 65536 % 256) (n / 256 % 256) (n % 256) = n := by
  rw [oreadI_eq _ _ _ _ (by omega) (by omega) (by omega) (by omega)]
  omega
/-- What is decoded is encoded to the same bytes. -/
theorem oread_four (n : Int) (h0 : 0 ≤ n) (h1 : n < 4294967296) : readI ((fourN n).getD 0 0) ((fourN n).getD 1 0) ((fourN n).getD 2 0) ((fourN n).getD 3 0) = n := oread_four0 n h0 h1
theorem powrap (x : Int) (h0 : 0 ≤ x) (h1 : x ≤ 4294967295) : IntKind.i64.wrap x = x := by
  simp [IntKind.wrap, IntKind.bits, IntKind.signed]; omega
theorem rq_nums (c n o p v : Int) (t : ByteArray) (hw : rqWhole c n o p v t = true) : numsOf (strOfNums (rqBytes c n o p v t)) = rqBytes c n o p v t := by
  obtain ⟨h1, h2, h3, h4, h5, h6⟩ := rq_bounds hw
  refine nums_str _ (fun x hx => ?_)
  simp only [rqBytes, List.mem_append, List.mem_cons, List.not_mem_nil, or_false] at hx
  rcases hx with ((( rfl | rfl) | hx) | (rfl | rfl | rfl | rfl)) | hx
  · omega
  · omega
  · exact fourN_range n x hx
  · omega
  · omega
  · omega
  · omega
  · exact nums_range t x hx
set_option maxRecDepth 10000 in
set_option maxHeartbeats 4000000 in
theorem edecode_any (c n o p v : Int) (t : ByteArray) (w : World) (hw : rqWhole c n o p v t = true) :
    Calls Tryz.prog 146 #[.string (strOfNums (rqBytes c n o p v t))] w fun e w' => e = .returned (.tuple #[.agg (rqCells c n o p v t).toArray, .bool true]) ∧ Below w.heap.size w w' := by
  obtain ⟨⟨c1, c9⟩, ⟨n1, n9⟩, ⟨o1, o5⟩, ⟨p1, p9⟩, ⟨v0, v8⟩, t8⟩ := rq_bounds hw
  have hN := rq_nums c n o p v t hw
  obtain ⟨s, hs⟩ : ∃ s, s = strOfNums (rqBytes c n o p v t) := ⟨_, rfl⟩
  rw [← hs] at hN ⊢
  have hsz : s.size = 10 + t.size := by rw [← numsOf_length, hN]; simp [rqBytes, fourN, numsOf_length]; omega
  have hb : ∀ k (h : k < s.size), ((s[k]'h).toNat : Int) = (rqBytes c n o p v t).getD k 0 := fun k h => by rw [bAt_eq s k h, bAt_nums, hN]
  have l9 : 9 < s.size := by omega
  have l0 : 0 < s.size := by omega
  have l1 : 1 < s.size := by omega
  have l6 : 6 < s.size := by omega
  have l7 : 7 < s.size := by omega
  have l8 : 8 < s.size := by omega
  have x0 : ((s[0]'l0).toNat : Int) = 82 := hb 0 _
  have x1 : ((s[1]'l1).toNat : Int) = c := hb 1 _
  have x6 : ((s[6]'l6).toNat : Int) = o := hb 6 _
  have x7 : ((s[7]'l7).toNat : Int) = p := hb 7 _
  have x8 : ((s[8]'l8).toNat : Int) = v := hb 8 _
  have x9 : ((s[9]'l9).toNat : Int) = (t.size : Int) := hb 9 _
  have h26 : (s.extract 2 6).size = 4 := by rw [ByteArray.size_extract]; omega
  have x10 : s.extract 10 s.size = t := by
    have : numsOf (s.extract 10 s.size) = numsOf t := by
      unfold numsOf
      rw [ByteArray.data_extract, Array.toList_extract, List.extract_eq_take_drop, List.map_take, List.map_drop]
      show ((numsOf s).drop 10).take (s.size - 10) = numsOf t
      rw [hN]
      simp only [rqBytes, fourN, List.cons_append, List.nil_append, List.drop_succ_cons, List.drop_zero]
      rw [List.take_of_length_le (by rw [numsOf_length]; omega)]
    rw [← str_nums (s.extract 10 s.size), this, str_nums]
  have HF : Hid (∀ x, x < 4 → bAt (s.extract 2 6) x = (fourN n).getD x 0) := fun x hx => by
    rw [bAt_nums]
    have : numsOf (s.extract 2 6) = fourN n := by
      unfold numsOf
      rw [ByteArray.data_extract, Array.toList_extract, List.extract_eq_take_drop, List.map_take, List.map_drop]
      show ((numsOf s).drop 2).take 4 = fourN n
      rw [hN]; rfl
    rw [this]
  have HRD : Hid (readI ((fourN n).getD 0 0) ((fourN n).getD 1 0) ((fourN n).getD 2 0) ((fourN n).getD 3 0) = n) := oread_four n (by omega) (by omega)
  have szI : (s.size : Int) = 10 + (t.size : Int) := by omega
  have wc : IntKind.i64.wrap c = c := powrap _ (by omega) (by omega)
  have wn : IntKind.i64.wrap n = n := powrap _ (by omega) (by omega)
  have wo : IntKind.i64.wrap o = o := powrap _ (by omega) (by omega)
  have wp' : IntKind.i64.wrap p = p := powrap _ (by omega) (by omega)
  have wv : IntKind.i64.wrap v = v := powrap _ (by omega) (by omega)
  have hne : ((s.size : Int) != 10 + (t.size : Int)) = false := by rw [szI]; simp
  have hne2 : ((s.size : Int) = 10 + (t.size : Int)) = True := by rw [szI]; simp
  have k0 : (0 : Int) < (s.size : Int) := by omega
  have k1 : (1 : Int) < (s.size : Int) := by omega
  have k6 : (6 : Int) < (s.size : Int) := by omega
  have k7 : (7 : Int) < (s.size : Int) := by omega
  have k8 : (8 : Int) < (s.size : Int) := by omega
  have k9 : (9 : Int) < (s.size : Int) := by omega
  have k6' : (6 : Int) ≤ (s.size : Int) := by omega
  have k2' : (2 : Int) ≤ (s.size : Int) := by omega
  have k10 : (10 : Int) ≤ (s.size : Int) := by omega
  have k10' : ¬ (s.size : Int) < 10 := by omega
  obtain ⟨V, hV⟩ : ∃ V, V = w.alloc (.cells (rqCells 0 0 0 0 0 ⟨#[]⟩).toArray 29) := ⟨_, rfl⟩
  have hVs : V.heap.size = w.heap.size + 1 := by rw [hV]; simp
  have HBV : Hid (Below w.heap.size w V) := by show Below _ _ _; rw [hV]; exact (Below.refl _ _).alloc (Nat.le_refl _) _
  have HTV : Hid (V.there w.heap.size 0 6) := by show World.there _ _ _ _; rw [hV]; exact there_new w (rqCells 0 0 0 0 0 ⟨#[]⟩).toArray _
  have B0 : Below (w.heap.size + 1) V V.drew := (Below.refl _ _).drew
  have HSZ : Hid (s.size = 10 + t.size) := hsz
  clear hb hN hs hsz szI
  go_enter Tryz.func146, Tryz.ntmps146
  go_wp2_with (first
    | (refine wpList_alloc_of rfl 29 rfl (rqCells 0 0 0 0 0 ⟨#[]⟩).toArray alloc_rq ?_; rw [← hV]; clear hV))
  go_cut [4] (fun v4 wc => ∃ g, v4 = .pointer (some ⟨g, 0, none⟩) ∧ w.heap.size + 1 ≤ g ∧ wc.rangeAt g 0 (rqCells c n o p v t) ∧ Below (w.heap.size + 1) V wc)
  case rest =>
    obtain ⟨g, rfl, hg, hr, hB⟩ := hcut
    have HQI := info_rq c n o p v t
    have HQO := rq_one c n o p v t
    have sB := hB.size
    have hwh := ewhole_any c n o p v t wc (by omega)
    rw [hw] at hwh
    clear x0 x1 x6 x7 x8 x9 x10 h26
    generalize hrq : (rqCells c n o p v t).toArray = rqa at hwh
    go_wp2_with (first
      | (refine wpList_load_mid rfl 29 _ rfl g 0 rfl (rqCells c n o p v t) _ hr Tryz.underlying29 rfl HQI ?_; rw [hrq]))
    refine hwh.mono ?_
    rintro e R9 ⟨rfl, hb9⟩
    have r9 : R9.rangeAt g 0 (rqCells c n o p v t) := range_kept hr (Kept.fresh (S := fun _ => False) hb9) (World.rangeAt_lt hr) id
    have t9 : R9.there w.heap.size 0 (rqCells c n o p v t).length := there_below hb9 (by omega) (there_below hB (by omega) HTV.out)
    have HB9 : Hid (Below w.heap.size w R9) := (HBV.out.trans (hB.mono (by omega))).trans (hb9.mono (by omega))
    clear hwh hb9 hr
    go_wp2_with (first
      | (refine wpList_load_mid rfl 29 _ rfl g 0 rfl (rqCells c n o p v t) _ r9 Tryz.underlying29 rfl HQI ?_; rw [hrq])
      | (refine wpList_store_abs rfl 29 _ _ rfl w.heap.size 0 (rqCells c n o p v t) rfl (by rw [hrq]; rfl) t9 HQI HQO ?_
         intro w5 _hw5 hr5 _ht5 hb5
         clear _hw5 _ht5))
    exact ret_cell_tmp rfl w.heap.size 0 (rqCells c n o p v t) _ (.bool true) rfl rfl hr5 Tryz.underlying29 rfl HQI rfl ⟨rfl, HB9.out.trans (hb5 w.heap.size (Nat.le_refl _))⟩
  case first =>
    refine wp_region_noPanic ?_
    refine wp_region_held_drew (S := fun _ => True) (by kernel_rfl) trivial (fun _ => ?_)
    refine wpAnyH_take (i := 0) (v := ?_) rfl (by kernel_rfl) (by kernel_rfl) (by kernel_rfl) (fun _ _ _ h => h) (Or.inl ⟨by rfl, ?_⟩) trivial ?_
    rotate_left 1
    · intro W hSW; clear hSW; go_simp; try with_reducible rfl
    simp only [qA, qB, qC, Act.put, qD, qE, qF]
    refine wpAnyH_take (i := 1) (v := ?_) rfl (by kernel_rfl) (by kernel_rfl) (by kernel_rfl) (fun _ _ _ h => h) (Or.inl ⟨by rfl, ?_⟩) trivial ?_
    rotate_left 1
    · intro W hSW; clear hSW; go_simp; try with_reducible rfl
    simp only [qA, qB, qC, Act.put, qD, qE, qF]
    refine wpAnyH_take (i := 2) (v := ?_) rfl (by kernel_rfl) (by kernel_rfl) (by kernel_rfl) (fun _ _ _ h => h) (Or.inl ⟨by rfl, ?_⟩) trivial ?_
    rotate_left 1
    · intro W hSW; clear hSW; go_simp; try with_reducible rfl
    simp only [qA, qB, qC, Act.put, qD, qE, qF]
    refine wpAnyH_take (i := 3) (v := ?_) rfl (by kernel_rfl) (by kernel_rfl) (by kernel_rfl) (fun _ _ _ h => h) (Or.inl ⟨by rfl, ?_⟩) trivial ?_
    rotate_left 1
    · intro W hSW; clear hSW; go_simp; try with_reducible rfl
    simp only [qA, qB, qC, Act.put, qD, qE, qF]
    refine wpAnyH_take (i := 4) (v := ?_) rfl (by kernel_rfl) (by kernel_rfl) (by kernel_rfl) (fun _ _ _ h => h) (Or.inl ⟨by rfl, ?_⟩) trivial ?_
    rotate_left 1
    · intro W hSW; clear hSW; go_simp; try with_reducible rfl
    simp only [qA, qB, qC, Act.put, qD, qE, qF]
    refine wpAnyH_take (i := 8) (v := ?_) rfl (by kernel_rfl) (by kernel_rfl) (by kernel_rfl) (fun _ _ _ h => h) (Or.inl ⟨by rfl, ?_⟩) trivial ?_
    rotate_left 1
    · intro W hSW; clear hSW; go_simp; try with_reducible rfl
    simp only [qA, qB, qC, Act.put, qD, qE, qF]
    refine wpAnyH_take (i := 9) (v := ?_) rfl (by kernel_rfl) (by kernel_rfl) (by kernel_rfl) (fun _ _ _ h => h) (Or.inl ⟨by rfl, ?_⟩) trivial ?_
    rotate_left 1
    · intro W hSW; clear hSW; go_simp; try with_reducible rfl
    simp only [qA, qB, qC, Act.put, qD, qE, qF]
    refine wpAnyH_take (i := 10) (v := ?_) rfl (by kernel_rfl) (by kernel_rfl) (by kernel_rfl) (fun _ _ _ h => h) (Or.inl ⟨by rfl, ?_⟩) trivial ?_
    rotate_left 1
    · intro W hSW; clear hSW; go_simp; try with_reducible rfl
    simp only [qA, qB, qC, Act.put, qD, qE, qF]
    refine wpAnyH_take (i := 11) (v := ?_) rfl (by kernel_rfl) (by kernel_rfl) (by kernel_rfl) (fun _ _ _ h => h) (Or.inl ⟨by rfl, ?_⟩) trivial ?_
    rotate_left 1
    · intro W hSW; clear hSW; go_simp; try with_reducible rfl
    simp only [qA, qB, qC, Act.put, qD, qE, qF]
    refine wpAnyH_take (i := 12) (v := ?_) rfl (by kernel_rfl) (by kernel_rfl) (by kernel_rfl) (fun _ _ _ h => h) (Or.inl ⟨by rfl, ?_⟩) trivial ?_
    rotate_left 1
    · intro W hSW; clear hSW; go_simp; try with_reducible rfl
    simp only [qA, qB, qC, Act.put, qD, qE, qF]
    refine wpAnyH_take (i := 13) (v := ?_) rfl (by kernel_rfl) (by kernel_rfl) (by kernel_rfl) (fun _ _ _ h => h) (Or.inl ⟨by rfl, ?_⟩) trivial ?_
    rotate_left 1
    · intro W hSW; clear hSW; go_simp; try with_reducible rfl
    simp only [qA, qB, qC, Act.put, qD, qE, qF]
    refine wpAnyH_take (i := 14) (v := ?_) rfl (by kernel_rfl) (by kernel_rfl) (by kernel_rfl) (fun _ _ _ h => h) (Or.inl ⟨by rfl, ?_⟩) trivial ?_
    rotate_left 1
    · intro W hSW; clear hSW; go_simp; try with_reducible rfl
    simp only [qA, qB, qC, Act.put, qD, qE, qF]
    refine wpAnyH_take (i := 15) (v := ?_) rfl (by kernel_rfl) (by kernel_rfl) (by kernel_rfl) (fun _ _ _ h => h) (Or.inl ⟨by rfl, ?_⟩) trivial ?_
    rotate_left 1
    · intro W hSW; clear hSW; go_simp; try with_reducible rfl
    simp only [qA, qB, qC, Act.put, qD, qE, qF]
    refine wpAnyH_take (i := 16) (v := ?_) rfl (by kernel_rfl) (by kernel_rfl) (by kernel_rfl) (fun _ _ _ h => h) (Or.inl ⟨by rfl, ?_⟩) trivial ?_
    rotate_left 1
    · intro W hSW; clear hSW; go_simp; try with_reducible rfl
    simp only [qA, qB, qC, Act.put, qD, qE, qF]
    refine wpAnyH_take (i := 17) (v := ?_) rfl (by kernel_rfl) (by kernel_rfl) (by kernel_rfl) (fun _ _ _ h => h) (Or.inl ⟨by rfl, ?_⟩) trivial ?_
    rotate_left 1
    · intro W hSW; clear hSW; go_simp; try with_reducible rfl
    simp only [qA, qB, qC, Act.put, qD, qE, qF]
    refine wpAnyH_take (i := 18) (v := ?_) rfl (by kernel_rfl) (by kernel_rfl) (by kernel_rfl) (fun _ _ _ h => h) (Or.inl ⟨by rfl, ?_⟩) trivial ?_
    rotate_left 1
    · intro W hSW; clear hSW; go_simp; try with_reducible rfl
    simp only [qA, qB, qC, Act.put, qD, qE, qF]
    refine wpAnyH_ready (rs := [5, 20]) (by kernel_rfl) (by simp) ?_
    refine AllReadyH.cons rfl (fun K' hK' => ?_) (AllReadyH.cons rfl (fun K' hK' => ?_) AllReadyH.nil)
    · rw [if_pos (by rfl)]
      refine wp_conv_abs _ rfl (s.extract 2 6) rfl ?_
      intro R1 gc cap hb1 _hz4 hz5 hc5
      rw [h26]
      have B1 : Below (w.heap.size + 1) V R1 := B0.trans (hb1.mono (by have := B0.size; omega))
      have cv : ∀ x, x < 4 → R1.cell? ⟨gc, x, none⟩ = some (.int .u8 ((fourN n).getD x 0)) := fun x hx => by rw [hc5 x (by rw [h26]; exact hx), HF.out x hx]
      clear hc5
      refine hK'.out _ _ trivial (fun _ => ?_)
      clear hK' K'
      try simp only [qA, qB, qC, Act.put, qD, qE, qF]
      refine wpAnyH_ready (rs := [6, 20]) (by kernel_rfl) (by simp) ?_
      refine AllReadyH.cons rfl (fun K' hK' => ?_) (AllReadyH.cons rfl (fun K' hK' => ?_) AllReadyH.nil)
      · rw [if_pos (by rfl)]
        go_simp
        refine (read_any gc 0 4 cap _ _ _ _ R1 (by omega) (by omega) (cv 0 (by omega)) (cv 1 (by omega)) (cv 2 (by omega)) (cv 3 (by omega))).mono ?_
        rintro e R2 ⟨rfl, nq, hnq⟩
        have hb2 : Below R1.heap.size R1 R2 := by rw [hnq]; exact below_draws (Below.refl _ _) nq
        clear hnq
        have B2 : Below (w.heap.size + 1) V R2 := B1.trans (hb2.mono (by have := B1.size; omega))
        rw [HRD.out]
        refine hK'.out _ _ trivial (fun _ => ?_)
        clear hK' K'
        try simp only [qA, qB, qC, Act.put, qD, qE, qF]
        refine wpAnyH_take (i := 7) (v := ?_) rfl (by kernel_rfl) (by kernel_rfl) (by kernel_rfl) (fun _ _ _ h => h) (Or.inl ⟨by rfl, ?_⟩) trivial ?_
        rotate_left 1
        · intro W hSW; clear hSW; go_simp; try with_reducible rfl
        simp only [qA, qB, qC, Act.put, qD, qE, qF]
        refine wpAnyH_take (i := 19) (v := .agg (rqCells c n o p v t).toArray) rfl (by kernel_rfl) (by kernel_rfl) (by kernel_rfl) (fun _ _ _ h => h) (yieldsIf_build (by rfl) 29 _ rfl (rqCells c n o p v t).toArray (Eq.trans (congrArg (Tryz.prog.built _) (by simp [Act.eval, wc, wn, wo, wp', wv])) (rq_built c n o p v t))) trivial ?_
        simp only [qA, qB, qC, Act.put, qD, qE, qF]
        refine wpAnyH_ready (rs := [20]) (by kernel_rfl) (by simp) ?_
        refine AllReadyH.cons rfl (fun K' hK' => ?_) AllReadyH.nil
        rw [if_pos (by rfl)]
        refine wp_alloc_abs 29 rfl (rqCells 0 0 0 0 0 ⟨#[]⟩) alloc_rq ?_
        intro R3 ga hb3 lo3 lg3 tg3
        have B3 : Below (w.heap.size + 1) V R3 := B2.trans (hb3.mono (by have := B2.size; omega))
        have gg : w.heap.size + 1 ≤ ga := by have := B2.size; omega
        refine hK'.out _ _ trivial (fun _ => ?_)
        clear hK' K'
        try simp only [qA, qB, qC, Act.put, qD, qE, qF]
        refine wpAnyH_ready (rs := [21]) (by kernel_rfl) (by simp) ?_
        refine AllReadyH.cons rfl (fun K' hK' => ?_) AllReadyH.nil
        rw [if_pos (by rfl)]
        refine wp_store_abs 29 _ _ rfl ga 0 (rqCells c n o p v t) rfl rfl tg3 (info_rq _ _ _ _ _ _) (rq_one _ _ _ _ _ _) ?_
        intro R4 hw4 hr4 _ht4 hb4
        have B4 : Below (w.heap.size + 1) V R4 := B3.trans (hb4 _ gg)
        clear _ht4 hw4
        refine hK'.out _ _ trivial (fun _ => ?_)
        clear hK' K'
        try simp only [qA, qB, qC, Act.put, qD, qE, qF]
        refine ⟨by kernel_rfl, ?_⟩
        refine NoPanic.normal ?_
        try simp only [qA, qB, qC, Act.put, qD, qE, qF]
        go_wp2_with fail
        go_meet
        exact ⟨_, rfl, gg, hr4, B4⟩
      · rw [if_pos (by rfl)]
        refine wp_alloc_abs 29 rfl (rqCells 0 0 0 0 0 ⟨#[]⟩) alloc_rq ?_
        intro R2 ga hb2 lo2 lg2 tg2
        have B2 : Below (w.heap.size + 1) V R2 := B1.trans (hb2.mono (by have := B1.size; omega))
        have gg : w.heap.size + 1 ≤ ga := by have := B1.size; omega
        have cv : ∀ x, x < 4 → R2.cell? ⟨gc, x, none⟩ = some (.int .u8 ((fourN n).getD x 0)) := fun x hx => (hb2.cell (p := ⟨gc, x, none⟩) (World.block_lt_of_cell? _ _ (cv x hx))).trans (cv x hx)
        refine hK'.out _ _ trivial (fun _ => ?_)
        clear hK' K'
        try simp only [qA, qB, qC, Act.put, qD, qE, qF]
        refine wpAnyH_ready (rs := [6]) (by kernel_rfl) (by simp) ?_
        refine AllReadyH.cons rfl (fun K' hK' => ?_) AllReadyH.nil
        rw [if_pos (by rfl)]
        go_simp
        refine (read_any gc 0 4 cap _ _ _ _ R2 (by omega) (by omega) (cv 0 (by omega)) (cv 1 (by omega)) (cv 2 (by omega)) (cv 3 (by omega))).mono ?_
        rintro e R3 ⟨rfl, nq, hnq⟩
        have hb3 : Below R2.heap.size R2 R3 := by rw [hnq]; exact below_draws (Below.refl _ _) nq
        clear hnq
        have B3 : Below (w.heap.size + 1) V R3 := B2.trans (hb3.mono (by have := B2.size; omega))
        rw [HRD.out]
        have tg3 : R3.there ga 0 6 := there_kept tg2 (Kept.fresh (S := fun _ => False) hb3) lg2 id
        have lg3 : ga < R3.heap.size := Nat.lt_of_lt_of_le lg2 hb3.size
        refine hK'.out _ _ trivial (fun _ => ?_)
        clear hK' K'
        try simp only [qA, qB, qC, Act.put, qD, qE, qF]
        refine wpAnyH_take (i := 7) (v := ?_) rfl (by kernel_rfl) (by kernel_rfl) (by kernel_rfl) (fun _ _ _ h => h) (Or.inl ⟨by rfl, ?_⟩) trivial ?_
        rotate_left 1
        · intro W hSW; clear hSW; go_simp; try with_reducible rfl
        simp only [qA, qB, qC, Act.put, qD, qE, qF]
        refine wpAnyH_take (i := 19) (v := .agg (rqCells c n o p v t).toArray) rfl (by kernel_rfl) (by kernel_rfl) (by kernel_rfl) (fun _ _ _ h => h) (yieldsIf_build (by rfl) 29 _ rfl (rqCells c n o p v t).toArray (Eq.trans (congrArg (Tryz.prog.built _) (by simp [Act.eval, wc, wn, wo, wp', wv])) (rq_built c n o p v t))) trivial ?_
        simp only [qA, qB, qC, Act.put, qD, qE, qF]
        refine wpAnyH_ready (rs := [21]) (by kernel_rfl) (by simp) ?_
        refine AllReadyH.cons rfl (fun K' hK' => ?_) AllReadyH.nil
        rw [if_pos (by rfl)]
        refine wp_store_abs 29 _ _ rfl ga 0 (rqCells c n o p v t) rfl rfl tg3 (info_rq _ _ _ _ _ _) (rq_one _ _ _ _ _ _) ?_
        intro R4 hw4 hr4 _ht4 hb4
        have B4 : Below (w.heap.size + 1) V R4 := B3.trans (hb4 _ gg)
        clear _ht4 hw4
        refine hK'.out _ _ trivial (fun _ => ?_)
        clear hK' K'
        try simp only [qA, qB, qC, Act.put, qD, qE, qF]
        refine ⟨by kernel_rfl, ?_⟩
        refine NoPanic.normal ?_
        try simp only [qA, qB, qC, Act.put, qD, qE, qF]
        go_wp2_with fail
        go_meet
        exact ⟨_, rfl, gg, hr4, B4⟩
    · rw [if_pos (by rfl)]
      refine wp_alloc_abs 29 rfl (rqCells 0 0 0 0 0 ⟨#[]⟩) alloc_rq ?_
      intro R1 ga hb1 lo1 lg1 tg1
      have B1 : Below (w.heap.size + 1) V R1 := B0.trans (hb1.mono (by have := B0.size; omega))
      have gg : w.heap.size + 1 ≤ ga := by have := B0.size; omega
      refine hK'.out _ _ trivial (fun _ => ?_)
      clear hK' K'
      try simp only [qA, qB, qC, Act.put, qD, qE, qF]
      refine wpAnyH_ready (rs := [5]) (by kernel_rfl) (by simp) ?_
      refine AllReadyH.cons rfl (fun K' hK' => ?_) AllReadyH.nil
      rw [if_pos (by rfl)]
      refine wp_conv_abs _ rfl (s.extract 2 6) rfl ?_
      intro R2 gc cap hb2 _hz4 hz5 hc5
      rw [h26]
      have B2 : Below (w.heap.size + 1) V R2 := B1.trans (hb2.mono (by have := B1.size; omega))
      have cv : ∀ x, x < 4 → R2.cell? ⟨gc, x, none⟩ = some (.int .u8 ((fourN n).getD x 0)) := fun x hx => by rw [hc5 x (by rw [h26]; exact hx), HF.out x hx]
      have tg2 : R2.there ga 0 6 := there_kept tg1 (Kept.fresh (S := fun _ => False) hb2) lg1 id
      have lg2 : ga < R2.heap.size := Nat.lt_of_lt_of_le lg1 hb2.size
      clear hc5
      refine hK'.out _ _ trivial (fun _ => ?_)
      clear hK' K'
      try simp only [qA, qB, qC, Act.put, qD, qE, qF]
      refine wpAnyH_ready (rs := [6]) (by kernel_rfl) (by simp) ?_
      refine AllReadyH.cons rfl (fun K' hK' => ?_) AllReadyH.nil
      rw [if_pos (by rfl)]
      go_simp
      refine (read_any gc 0 4 cap _ _ _ _ R2 (by omega) (by omega) (cv 0 (by omega)) (cv 1 (by omega)) (cv 2 (by omega)) (cv 3 (by omega))).mono ?_
      rintro e R3 ⟨rfl, nq, hnq⟩
      have hb3 : Below R2.heap.size R2 R3 := by rw [hnq]; exact below_draws (Below.refl _ _) nq
      clear hnq
      have B3 : Below (w.heap.size + 1) V R3 := B2.trans (hb3.mono (by have := B2.size; omega))
      rw [HRD.out]
      have tg3 : R3.there ga 0 6 := there_kept tg2 (Kept.fresh (S := fun _ => False) hb3) lg2 id
      have lg3 : ga < R3.heap.size := Nat.lt_of_lt_of_le lg2 hb3.size
      refine hK'.out _ _ trivial (fun _ => ?_)
      clear hK' K'
      try simp only [qA, qB, qC, Act.put, qD, qE, qF]
      refine wpAnyH_take (i := 7) (v := ?_) rfl (by kernel_rfl) (by kernel_rfl) (by kernel_rfl) (fun _ _ _ h => h) (Or.inl ⟨by rfl, ?_⟩) trivial ?_
      rotate_left 1
      · intro W hSW; clear hSW; go_simp; try with_reducible rfl
      simp only [qA, qB, qC, Act.put, qD, qE, qF]
      refine wpAnyH_take (i := 19) (v := .agg (rqCells c n o p v t).toArray) rfl (by kernel_rfl) (by kernel_rfl) (by kernel_rfl) (fun _ _ _ h => h) (yieldsIf_build (by rfl) 29 _ rfl (rqCells c n o p v t).toArray (Eq.trans (congrArg (Tryz.prog.built _) (by simp [Act.eval, wc, wn, wo, wp', wv])) (rq_built c n o p v t))) trivial ?_
      simp only [qA, qB, qC, Act.put, qD, qE, qF]
      refine wpAnyH_ready (rs := [21]) (by kernel_rfl) (by simp) ?_
      refine AllReadyH.cons rfl (fun K' hK' => ?_) AllReadyH.nil
      rw [if_pos (by rfl)]
      refine wp_store_abs 29 _ _ rfl ga 0 (rqCells c n o p v t) rfl rfl tg3 (info_rq _ _ _ _ _ _) (rq_one _ _ _ _ _ _) ?_
      intro R4 hw4 hr4 _ht4 hb4
      have B4 : Below (w.heap.size + 1) V R4 := B3.trans (hb4 _ gg)
      clear _ht4 hw4
      refine hK'.out _ _ trivial (fun _ => ?_)
      clear hK' K'
      try simp only [qA, qB, qC, Act.put, qD, qE, qF]
      refine ⟨by kernel_rfl, ?_⟩
      refine NoPanic.normal ?_
      try simp only [qA, qB, qC, Act.put, qD, qE, qF]
      go_wp2_with fail
      go_meet
      exact ⟨_, rfl, gg, hr4, B4⟩
end Go.Proofs.YteglimjonofdeaaGreatDoor
set_option linter.unusedVariables false
set_option linter.unusedSimpArgs false
namespace Go.Proofs.YteglimjonofdeaaGreatDoor
open Go.RowKit

/-- A mark, a number, and what is behind them. -/
def mkT (mark m : Int) (rest : ByteArray) : ByteArray := strOfNums (mark :: fourN m) ++ rest
theorem mkT_nums (mark m : Int) (rest : ByteArray) (hm : 0 ≤ mark ∧ mark < 256) : numsOf (mkT mark m rest) = mark :: (fourN m ++ numsOf rest) := by
  unfold mkT
  rw [nums_app, nums_str _ (fun x hx => by
    rcases List.mem_cons.1 hx with rfl | hx
    · exact hm
    · exact fourN_range m x hx)]
  rfl
theorem mkT_size (mark m : Int) (rest : ByteArray) : (mkT mark m rest).size = 5 + rest.size := by
  unfold mkT; rw [ByteArray.size_append, strOfNums_size]; rfl
theorem ext_nums (s : ByteArray) (a b : Nat) : numsOf (s.extract a b) = ((numsOf s).drop a).take (b - a) := by
  unfold numsOf
  rw [ByteArray.data_extract, Array.toList_extract, List.extract_eq_take_drop, List.map_take, List.map_drop]
theorem mkT_facts (mark m : Int) (rest s : ByteArray) (hs : s = mkT mark m rest) (hm : 0 ≤ mark ∧ mark < 256) (h0 : 0 < s.size) :
    ((s[0]'h0).toNat : Int) = mark ∧ (s.extract 1 5).size = 4 ∧ (∀ x, x < 4 → bAt (s.extract 1 5) x = (fourN m).getD x 0) ∧ s.extract 5 s.size = rest := by
  have hN : numsOf s = mark :: (fourN m ++ numsOf rest) := by rw [hs]; exact mkT_nums mark m rest hm
  have hz : s.size = 5 + rest.size := by rw [hs]; exact mkT_size mark m rest
  refine ⟨?_, ?_, fun x hx => ?_, ?_⟩
  · rw [bAt_eq s 0 h0, bAt_nums, hN]; rfl
  · rw [ByteArray.size_extract]; omega
  · rw [bAt_nums, ext_nums, hN]; rfl
  · have : numsOf (s.extract 5 s.size) = numsOf rest := by
      rw [ext_nums, hN]
      simp only [fourN, List.cons_append, List.nil_append, List.drop_succ_cons, List.drop_zero]
      rw [List.take_of_length_le (by rw [numsOf_length]; omega)]
    rw [← str_nums (s.extract 5 s.size), this, str_nums]
/-- The cells of a Forward. -/
def fwCells (m c n o p v : Int) (t : ByteArray) : List Value := .int .i64 m :: rqCells c n o p v t
/-- The bytes of a Forward. -/
def fwT (m c n o p v : Int) (t : ByteArray) : ByteArray := mkT 70 m (strOfNums (rqBytes c n o p v t))

set_option maxRecDepth 10000 in
set_option maxHeartbeats 1000000 in
theorem ackbytes_any (m : Int) (w : World) (hm : 0 ≤ m ∧ m ≤ 2147483647) :
    Calls Tryz.prog 232 #[.agg #[.int .i64 m]] w fun e w' => e = .returned (.string (mkT 75 m ⟨#[]⟩)) ∧ Below w.heap.size w w' := by
  obtain ⟨V, hV⟩ : ∃ V, V = w.alloc (.cells #[.int .i64 m] 202) := ⟨_, rfl⟩
  have hVs : V.heap.size = w.heap.size + 1 := by rw [hV]; simp
  have HB : Hid (Below w.heap.size w V) := by show Below _ _ _; rw [hV]; exact (Below.refl _ _).alloc (Nat.le_refl _) _
  have c0 : V.cell? ⟨w.heap.size, 0, none⟩ = some (.int .i64 m) := by rw [hV, World.cell?_alloc_at _ _ _ _ rfl]; rfl
  have hnum := numbered_any 75 m V (by omega) hm
  have e : strOfNums (75 :: fourN m) = mkT 75 m ⟨#[]⟩ := by unfold mkT; exact (ByteArray.append_empty).symm
  rw [e] at hnum
  clear e
  go_enter Tryz.func232, Tryz.ntmps232
  go_wp2_with (rw [← hV]; clear hV)
  refine hnum.mono ?_
  rintro e w1 ⟨rfl, hb1⟩
  have HB1 : Hid (Below w.heap.size w w1) := HB.out.trans (hb1.mono (by omega))
  clear hnum hb1
  go_wp2_with fail
  go_ret
  exact ⟨rfl, HB1.out⟩

set_option maxRecDepth 10000 in
set_option maxHeartbeats 1000000 in
theorem askbytes_any (m : Int) (w : World) (hm : 0 ≤ m ∧ m ≤ 2147483647) :
    Calls Tryz.prog 229 #[.agg #[.int .i64 m]] w fun e w' => e = .returned (.string (mkT 81 m ⟨#[]⟩)) ∧ Below w.heap.size w w' := by
  obtain ⟨V, hV⟩ : ∃ V, V = w.alloc (.cells #[.int .i64 m] 195) := ⟨_, rfl⟩
  have hVs : V.heap.size = w.heap.size + 1 := by rw [hV]; simp
  have HB : Hid (Below w.heap.size w V) := by show Below _ _ _; rw [hV]; exact (Below.refl _ _).alloc (Nat.le_refl _) _
  have c0 : V.cell? ⟨w.heap.size, 0, none⟩ = some (.int .i64 m) := by rw [hV, World.cell?_alloc_at _ _ _ _ rfl]; rfl
  have hnum := numbered_any 81 m V (by omega) hm
  have e : strOfNums (81 :: fourN m) = mkT 81 m ⟨#[]⟩ := by unfold mkT; exact (ByteArray.append_empty).symm
  rw [e] at hnum
  clear e
  go_enter Tryz.func229, Tryz.ntmps229
  go_wp2_with (rw [← hV]; clear hV)
  refine hnum.mono ?_
  rintro e w1 ⟨rfl, hb1⟩
  have HB1 : Hid (Below w.heap.size w w1) := HB.out.trans (hb1.mono (by omega))
  clear hnum hb1
  go_wp2_with fail
  go_ret
  exact ⟨rfl, HB1.out⟩

theorem rqBytes_size' (c n o p v : Int) (t : ByteArray) (hw : rqWhole c n o p v t = true) : (strOfNums (rqBytes c n o p v t)).size ≤ 18 := by
  obtain ⟨_, _, _, _, _, h⟩ := rq_bounds hw
  rw [strOfNums_size]
  simp [rqBytes, fourN, numsOf_length]
  omega
theorem fw_rq {W : World} {b : Nat} {m c n o p v : Int} {t : ByteArray} (h : W.rangeAt b 0 (fwCells m c n o p v t)) : W.rangeAt b 1 (rqCells c n o p v t) := fun i x hx => by
  have := h (i + 1) x hx
  rw [show 0 + (i + 1) = 1 + i by omega] at this
  exact this
set_option maxRecDepth 10000 in
set_option maxHeartbeats 2000000 in
theorem fwbytes_any (m c n o p v : Int) (t : ByteArray) (w : World) (hm : 0 ≤ m ∧ m ≤ 2147483647) (hw : rqWhole c n o p v t = true) :
    Calls Tryz.prog 231 #[.agg (fwCells m c n o p v t).toArray] w fun e w' => e = .returned (.string (fwT m c n o p v t)) ∧ Below w.heap.size w w' := by
  obtain ⟨V, hV⟩ : ∃ V, V = w.alloc (.cells (fwCells m c n o p v t).toArray 200) := ⟨_, rfl⟩
  have hVs : V.heap.size = w.heap.size + 1 := by rw [hV]; simp
  have HB : Hid (Below w.heap.size w V) := by show Below _ _ _; rw [hV]; exact (Below.refl _ _).alloc (Nat.le_refl _) _
  have J0 : V.drew.rangeAt w.heap.size 0 (fwCells m c n o p v t) := by
    have : V.rangeAt w.heap.size 0 (fwCells m c n o p v t) := by rw [hV]; exact range_new _ _ _
    exact this
  have HQ : Hid ((Tryz.prog.info? 29).map (·.size) = some (rqCells c n o p v t).length) := info_rq c n o p v t
  have hz := rqBytes_size' c n o p v t hw
  have z1 : ¬ (9223372036854775807 < (strOfNums (70 :: fourN m)).size + (strOfNums (rqBytes c n o p v t)).size) := by rw [strOfNums_size]; simp [fourN]; omega
  have hVV : w.alloc (.cells (fwCells m c n o p v t).toArray 200) = V := hV.symm
  clear hV hz
  go_enter Tryz.func231, Tryz.ntmps231
  go_wp2_with fail
  try rw [hVV]
  clear hVV
  refine wp_region_noPanic ?_
  refine wp_region_held_drew (S := fun W => W.rangeAt w.heap.size 0 (fwCells m c n o p v t)) (by kernel_rfl) J0 (fun _ => ?_)
  refine wpAnyH_take (i := 0) (v := ?_) rfl (by kernel_rfl) (by kernel_rfl) (by kernel_rfl) (fun _ _ _ h => h) (Or.inl ⟨by rfl, ?_⟩) J0 ?_
  rotate_left 1
  · intro W hSW; clear hSW; go_simp; try with_reducible rfl
  simp only [qA, qB, qC, Act.put, qD, qE, qF]
  refine wpAnyH_take (i := 1) (v := ?_) rfl (by kernel_rfl) (by kernel_rfl) (by kernel_rfl) (fun _ _ _ h => h) (Or.inl ⟨by rfl, ?_⟩) J0 ?_
  rotate_left 1
  · intro W hSW; have qc : W.cell? ⟨w.heap.size, 0, none⟩ = some (.int .i64 m) := hSW 0 _ rfl; clear hSW; go_simp; try with_reducible rfl
  simp only [qA, qB, qC, Act.put, qD, qE, qF]
  refine wpAnyH_take (i := 3) (v := ?_) rfl (by kernel_rfl) (by kernel_rfl) (by kernel_rfl) (fun _ _ _ h => h) (Or.inl ⟨by rfl, ?_⟩) J0 ?_
  rotate_left 1
  · intro W hSW; clear hSW; go_simp; try with_reducible rfl
  simp only [qA, qB, qC, Act.put, qD, qE, qF]
  refine wpAnyH_take (i := 4) (v := .agg ((rqCells c n o p v t)).toArray) rfl (by kernel_rfl) (by kernel_rfl) (by kernel_rfl) (fun _ _ _ h => h) (yieldsIf_load_mid (by rfl) 29 _ rfl w.heap.size 1 rfl ((rqCells c n o p v t)) _ (fun W hW => fw_rq hW) Tryz.underlying29 rfl HQ.out) J0 ?_
  simp only [qA, qB, qC, Act.put, qD, qE, qF]
  refine wpAnyH_ready (rs := [2]) (by kernel_rfl) (by simp) ?_
  refine AllReadyH.cons rfl (fun K' hK' => ?_) AllReadyH.nil
  rw [if_pos (by rfl)]
  go_simp
  refine (numbered_any 70 m V.drew (by omega) hm).mono ?_
  rintro e W3 ⟨rfl, hb3⟩
  have k3 : Kept (fun _ => False) V W3 := (Kept.drew _ V).trans (Kept.fresh hb3) (fun _ _ h => h)
  have s3 := k3.size
  have J3 : W3.rangeAt w.heap.size 0 (fwCells m c n o p v t) := range_kept (W := V) J0 k3 (by omega) id
  have B3 : Hid (Below w.heap.size w W3) := (HB.out.drew).trans (hb3.mono (by show _ ≤ V.heap.size; omega))
  clear hb3 k3
  refine hK'.out _ _ J3 (fun _ => ?_)
  clear hK' K'
  try simp only [qA, qB, qC, Act.put, qD, qE, qF]
  refine wpAnyH_ready (rs := [5]) (by kernel_rfl) (by simp) ?_
  refine AllReadyH.cons rfl (fun K' hK' => ?_) AllReadyH.nil
  rw [if_pos (by rfl)]
  go_simp
  refine (eencode_any c n o p v t W3 hw).mono ?_
  rintro e W4 ⟨rfl, hb4⟩
  have s4 := hb4.size
  have J4 : W4.rangeAt w.heap.size 0 (fwCells m c n o p v t) := range_kept J3 (Kept.fresh (S := fun _ => False) hb4) (by omega) id
  have B4 : Hid (Below w.heap.size w W4) := B3.out.trans (hb4.mono B3.out.size)
  clear hb4
  refine hK'.out _ _ J4 (fun _ => ?_)
  clear hK' K'
  try simp only [qA, qB, qC, Act.put, qD, qE, qF]
  refine wpAnyH_take (i := 6) (v := ?_) rfl (by kernel_rfl) (by kernel_rfl) (by kernel_rfl) (fun _ _ _ h => h) (Or.inl ⟨by rfl, ?_⟩) J4 ?_
  rotate_left 1
  · intro W hSW; clear hSW; go_simp; try with_reducible rfl
  simp only [qA, qB, qC, Act.put, qD, qE, qF]
  refine wpAnyH_take (i := 7) (v := ?_) rfl (by kernel_rfl) (by kernel_rfl) (by kernel_rfl) (fun _ _ _ h => h) (Or.inl ⟨by rfl, ?_⟩) J4 ?_
  rotate_left 1
  · intro W hSW; clear hSW; go_simp; try with_reducible rfl
  simp only [qA, qB, qC, Act.put, qD, qE, qF]
  refine ⟨by kernel_rfl, ?_⟩
  refine NoPanic.normal ?_
  try simp only [qA, qB, qC, Act.put, qD, qE, qF]
  go_wp2_with fail
  go_ret
  exact ⟨rfl, B4.out⟩

theorem m_ackbytes (v : Value) (w : World) : (method 421 202 v "Bytes").run Tryz.prog w = .ok (232, v) w := by kernel_rfl
set_option maxRecDepth 10000 in
set_option maxHeartbeats 2000000 in
/-- An answer packet, ready for an address. -/
theorem pto_ack (adr : Int) (m : Int) (w : World) (hmr : 0 ≤ m ∧ m ≤ 2147483647) :
    Calls Tryz.prog 105 #[.int .i64 adr, .iface 202 (.agg #[.int .i64 m])] w fun e w' => e = .returned (.agg #[.int .i64 adr, .string (mkT 75 m ⟨#[]⟩)]) ∧ Below w.heap.size w w' := by
  obtain ⟨W, hW⟩ : ∃ W, W = w.alloc (.cells #[.int .i64 0, .string ⟨#[]⟩] 44) := ⟨_, rfl⟩
  have hWs : W.heap.size = w.heap.size + 1 := by rw [hW]; simp
  have bW : Below w.heap.size w W := by rw [hW]; exact (Below.refl _ _).alloc (Nat.le_refl _) _
  have tW : W.there w.heap.size 0 2 := by rw [hW]; exact there_new w #[.int .i64 0, .string ⟨#[]⟩] _
  have hm := m_ackbytes (.agg #[.int .i64 m])
  have hby := ackbytes_any m W hmr
  have HB : Hid (Below w.heap.size w W) := bW
  have HT : Hid (W.there w.heap.size 0 2) := tW
  clear bW tW
  generalize hcs0 : (#[Value.int .i64 m] : Array Value) = cs at *
  go_enter Tryz.func105, Tryz.ntmps105
  go_wp2_with (rw [← hW]; clear hW)
  refine hby.mono ?_
  rintro e w1 ⟨rfl, hb1⟩
  have hs1 := hb1.size
  have t1 : w1.there w.heap.size 0 2 := there_below hb1 (by omega) HT.out
  have HB1 : Hid (Below w.heap.size w w1) := HB.out.trans (hb1.mono (by omega))
  clear hby hb1
  obtain ⟨L, hL⟩ : ∃ L : List Value, L = [.int .i64 adr, .string (mkT 75 m ⟨#[]⟩)] := ⟨_, rfl⟩
  have HI : Hid ((Tryz.prog.info? 44).map (·.size) = some L.length) := by show _ = _; rw [hL]; show _ = some 2; kernel_rfl
  have HO : Hid (∀ u ∈ L, u.oneCell' = true) := by show ∀ _, _; rw [hL]; intro u hu; simp at hu; rcases hu with rfl | rfl <;> rfl
  have HT3 : Hid (w1.there w.heap.size 0 L.length) := by show World.there _ _ _ _; rw [hL]; exact t1
  have HL : Hid (L = [.int .i64 adr, .string (mkT 75 m ⟨#[]⟩)]) := hL
  clear hL t1
  go_wp2_with (first
    | (refine wpList_store_abs rfl 44 _ _ rfl w.heap.size 0 L rfl (by rw [HL.out]; rfl) HT3.out HI.out HO.out ?_
       intro w5 _hw5 hr5 _ht5 hb5
       clear _hw5 _ht5))
  exact ret_cell rfl w.heap.size 0 L _ rfl hr5 Tryz.underlying44 rfl HI.out rfl ⟨by rw [HL.out], HB1.out.trans (hb5 w.heap.size (Nat.le_refl _))⟩


theorem m_askbytes (v : Value) (w : World) : (method 421 195 v "Bytes").run Tryz.prog w = .ok (229, v) w := by kernel_rfl
set_option maxRecDepth 10000 in
set_option maxHeartbeats 2000000 in
/-- An answer packet, ready for an address. -/
theorem pto_ask (adr : Int) (m : Int) (w : World) (hmr : 0 ≤ m ∧ m ≤ 2147483647) :
    Calls Tryz.prog 105 #[.int .i64 adr, .iface 195 (.agg #[.int .i64 m])] w fun e w' => e = .returned (.agg #[.int .i64 adr, .string (mkT 81 m ⟨#[]⟩)]) ∧ Below w.heap.size w w' := by
  obtain ⟨W, hW⟩ : ∃ W, W = w.alloc (.cells #[.int .i64 0, .string ⟨#[]⟩] 44) := ⟨_, rfl⟩
  have hWs : W.heap.size = w.heap.size + 1 := by rw [hW]; simp
  have bW : Below w.heap.size w W := by rw [hW]; exact (Below.refl _ _).alloc (Nat.le_refl _) _
  have tW : W.there w.heap.size 0 2 := by rw [hW]; exact there_new w #[.int .i64 0, .string ⟨#[]⟩] _
  have hm := m_askbytes (.agg #[.int .i64 m])
  have hby := askbytes_any m W hmr
  have HB : Hid (Below w.heap.size w W) := bW
  have HT : Hid (W.there w.heap.size 0 2) := tW
  clear bW tW
  generalize hcs0 : (#[Value.int .i64 m] : Array Value) = cs at *
  go_enter Tryz.func105, Tryz.ntmps105
  go_wp2_with (rw [← hW]; clear hW)
  refine hby.mono ?_
  rintro e w1 ⟨rfl, hb1⟩
  have hs1 := hb1.size
  have t1 : w1.there w.heap.size 0 2 := there_below hb1 (by omega) HT.out
  have HB1 : Hid (Below w.heap.size w w1) := HB.out.trans (hb1.mono (by omega))
  clear hby hb1
  obtain ⟨L, hL⟩ : ∃ L : List Value, L = [.int .i64 adr, .string (mkT 81 m ⟨#[]⟩)] := ⟨_, rfl⟩
  have HI : Hid ((Tryz.prog.info? 44).map (·.size) = some L.length) := by show _ = _; rw [hL]; show _ = some 2; kernel_rfl
  have HO : Hid (∀ u ∈ L, u.oneCell' = true) := by show ∀ _, _; rw [hL]; intro u hu; simp at hu; rcases hu with rfl | rfl <;> rfl
  have HT3 : Hid (w1.there w.heap.size 0 L.length) := by show World.there _ _ _ _; rw [hL]; exact t1
  have HL : Hid (L = [.int .i64 adr, .string (mkT 81 m ⟨#[]⟩)]) := hL
  clear hL t1
  go_wp2_with (first
    | (refine wpList_store_abs rfl 44 _ _ rfl w.heap.size 0 L rfl (by rw [HL.out]; rfl) HT3.out HI.out HO.out ?_
       intro w5 _hw5 hr5 _ht5 hb5
       clear _hw5 _ht5))
  exact ret_cell rfl w.heap.size 0 L _ rfl hr5 Tryz.underlying44 rfl HI.out rfl ⟨by rw [HL.out], HB1.out.trans (hb5 w.heap.size (Nat.le_refl _))⟩


theorem m_fwbytes (v : Value) (w : World) : (method 421 200 v "Bytes").run Tryz.prog w = .ok (231, v) w := by kernel_rfl
set_option maxRecDepth 10000 in
set_option maxHeartbeats 2000000 in
/-- An answer packet, ready for an address. -/
theorem pto_fw (adr : Int) (m c n o p v : Int) (t : ByteArray) (w : World) (hmr : 0 ≤ m ∧ m ≤ 2147483647) (hw : rqWhole c n o p v t = true) :
    Calls Tryz.prog 105 #[.int .i64 adr, .iface 200 (.agg (fwCells m c n o p v t).toArray)] w fun e w' => e = .returned (.agg #[.int .i64 adr, .string (fwT m c n o p v t)]) ∧ Below w.heap.size w w' := by
  obtain ⟨W, hW⟩ : ∃ W, W = w.alloc (.cells #[.int .i64 0, .string ⟨#[]⟩] 44) := ⟨_, rfl⟩
  have hWs : W.heap.size = w.heap.size + 1 := by rw [hW]; simp
  have bW : Below w.heap.size w W := by rw [hW]; exact (Below.refl _ _).alloc (Nat.le_refl _) _
  have tW : W.there w.heap.size 0 2 := by rw [hW]; exact there_new w #[.int .i64 0, .string ⟨#[]⟩] _
  have hm := m_fwbytes (.agg (fwCells m c n o p v t).toArray)
  have hby := fwbytes_any m c n o p v t W hmr hw
  have HB : Hid (Below w.heap.size w W) := bW
  have HT : Hid (W.there w.heap.size 0 2) := tW
  clear bW tW
  generalize hcs0 : (fwCells m c n o p v t).toArray = cs at *
  go_enter Tryz.func105, Tryz.ntmps105
  go_wp2_with (rw [← hW]; clear hW)
  refine hby.mono ?_
  rintro e w1 ⟨rfl, hb1⟩
  have hs1 := hb1.size
  have t1 : w1.there w.heap.size 0 2 := there_below hb1 (by omega) HT.out
  have HB1 : Hid (Below w.heap.size w w1) := HB.out.trans (hb1.mono (by omega))
  clear hby hb1
  obtain ⟨L, hL⟩ : ∃ L : List Value, L = [.int .i64 adr, .string (fwT m c n o p v t)] := ⟨_, rfl⟩
  have HI : Hid ((Tryz.prog.info? 44).map (·.size) = some L.length) := by show _ = _; rw [hL]; show _ = some 2; kernel_rfl
  have HO : Hid (∀ u ∈ L, u.oneCell' = true) := by show ∀ _, _; rw [hL]; intro u hu; simp at hu; rcases hu with rfl | rfl <;> rfl
  have HT3 : Hid (w1.there w.heap.size 0 L.length) := by show World.there _ _ _ _; rw [hL]; exact t1
  have HL : Hid (L = [.int .i64 adr, .string (fwT m c n o p v t)]) := hL
  clear hL t1
  go_wp2_with (first
    | (refine wpList_store_abs rfl 44 _ _ rfl w.heap.size 0 L rfl (by rw [HL.out]; rfl) HT3.out HI.out HO.out ?_
       intro w5 _hw5 hr5 _ht5 hb5
       clear _hw5 _ht5))
  exact ret_cell rfl w.heap.size 0 L _ rfl hr5 Tryz.underlying44 rfl HI.out rfl ⟨by rw [HL.out], HB1.out.trans (hb5 w.heap.size (Nat.le_refl _))⟩

end Go.Proofs.YteglimjonofdeaaGreatDoor
set_option linter.unusedVariables false
set_option linter.unusedSimpArgs false
namespace Go.Proofs.YteglimjonofdeaaGreatDoor
open Go.RowKit

theorem ak_built (m : Int) : Tryz.prog.built 202 [(0, .int .i64 m)] = some #[.int .i64 m] := by kernel_rfl
theorem qk_built (m : Int) : Tryz.prog.built 195 [(0, .int .i64 m)] = some #[.int .i64 m] := by kernel_rfl
theorem fw_built (m c n o p v : Int) (t : ByteArray) : Tryz.prog.built 200 [(0, .int .i64 m), (1, .agg (rqCells c n o p v t).toArray)] = some (fwCells m c n o p v t).toArray := by kernel_rfl

set_option maxRecDepth 10000 in
set_option maxHeartbeats 2000000 in
theorem pdec_ack (m : Int) (w : World) (hm : 0 ≤ m ∧ m ≤ 2147483647) :
    Calls Tryz.prog 107 #[.string (mkT 75 m ⟨#[]⟩)] w fun e w' => e = .returned (.iface 202 (.agg #[.int .i64 m])) ∧ Below w.heap.size w w' := by
  obtain ⟨s, hs⟩ : ∃ s, s = mkT 75 m ⟨#[]⟩ := ⟨_, rfl⟩
  rw [← hs]
  have hz : s.size = 5 + (⟨#[]⟩ : ByteArray).size := by rw [hs]; exact mkT_size 75 m _
  have l0 : 0 < s.size := by omega
  obtain ⟨x0, h15, hF, x5⟩ := mkT_facts 75 m ⟨#[]⟩ s hs (by omega) l0
  have HF : Hid (∀ x, x < 4 → bAt (s.extract 1 5) x = (fourN m).getD x 0) := hF
  have HRD : Hid (readI ((fourN m).getD 0 0) ((fourN m).getD 1 0) ((fourN m).getD 2 0) ((fourN m).getD 3 0) = m) := oread_four m (by omega) (by omega)
  have k0 : (0 : Int) < (s.size : Int) := by omega
  have k1 : (1 : Int) ≤ (s.size : Int) := by omega
  have k5 : (5 : Int) ≤ (s.size : Int) := by omega
  have k5' : ¬ (s.size : Int) < 5 := by omega
  have hg : ¬ (2147483647 : Int) < m := by omega
  obtain ⟨m0, m9⟩ := hm
  clear hF hs hz
  go_enter Tryz.func107, Tryz.ntmps107
  go_wp2_with fail
  refine wp_region_noPanic ?_
  refine wp_region_held_drew (S := fun _ => True) (by kernel_rfl) trivial (fun _ => ?_)
  refine wpAnyH_take (i := 0) (v := ?_) rfl (by kernel_rfl) (by kernel_rfl) (by kernel_rfl) (fun _ _ _ h => h) (Or.inl ⟨by rfl, ?_⟩) trivial ?_
  rotate_left 1
  · intro W hSW; clear hSW; go_simp; try with_reducible rfl
  simp only [qA, qB, qC, Act.put, qD, qE, qF]
  refine wpAnyH_take (i := 1) (v := ?_) rfl (by kernel_rfl) (by kernel_rfl) (by kernel_rfl) (fun _ _ _ h => h) (Or.inl ⟨by rfl, ?_⟩) trivial ?_
  rotate_left 1
  · intro W hSW; clear hSW; go_simp; try with_reducible rfl
  simp only [qA, qB, qC, Act.put, qD, qE, qF]
  refine wpAnyH_take (i := 2) (v := ?_) rfl (by kernel_rfl) (by kernel_rfl) (by kernel_rfl) (fun _ _ _ h => h) (Or.inl ⟨by rfl, ?_⟩) trivial ?_
  rotate_left 1
  · intro W hSW; clear hSW; go_simp; try with_reducible rfl
  simp only [qA, qB, qC, Act.put, qD, qE, qF]
  refine wpAnyH_take (i := 3) (v := ?_) rfl (by kernel_rfl) (by kernel_rfl) (by kernel_rfl) (fun _ _ _ h => h) (Or.inl ⟨by rfl, ?_⟩) trivial ?_
  rotate_left 1
  · intro W hSW; clear hSW; go_simp; try with_reducible rfl
  simp only [qA, qB, qC, Act.put, qD, qE, qF]
  refine wpAnyH_take (i := 6) (v := ?_) rfl (by kernel_rfl) (by kernel_rfl) (by kernel_rfl) (fun _ _ _ h => h) (Or.inl ⟨by rfl, ?_⟩) trivial ?_
  rotate_left 1
  · intro W hSW; clear hSW; go_simp; try with_reducible rfl
  simp only [qA, qB, qC, Act.put, qD, qE, qF]
  refine wpAnyH_take (i := 7) (v := ?_) rfl (by kernel_rfl) (by kernel_rfl) (by kernel_rfl) (fun _ _ _ h => h) (Or.inl ⟨by rfl, ?_⟩) trivial ?_
  rotate_left 1
  · intro W hSW; clear hSW; go_simp; try with_reducible rfl
  simp only [qA, qB, qC, Act.put, qD, qE, qF]
  refine wpAnyH_ready (rs := [4]) (by kernel_rfl) (by simp) ?_
  refine AllReadyH.cons rfl (fun K' hK' => ?_) AllReadyH.nil
  rw [if_pos (by rfl)]
  refine wp_conv_abs _ rfl (s.extract 1 5) rfl ?_
  intro R1 gc cap hb1 _hz4 hz5 hc5
  rw [h15]
  have B1 : Below w.heap.size w R1 := ((Below.refl w.heap.size w).drew).trans hb1
  have cv : ∀ x, x < 4 → R1.cell? ⟨gc, x, none⟩ = some (.int .u8 ((fourN m).getD x 0)) := fun x hx => by rw [hc5 x (by rw [h15]; exact hx), HF.out x hx]
  clear hc5 hb1
  refine hK'.out _ _ trivial (fun _ => ?_)
  clear hK' K'
  try simp only [qA, qB, qC, Act.put, qD, qE, qF]
  refine wpAnyH_ready (rs := [5]) (by kernel_rfl) (by simp) ?_
  refine AllReadyH.cons rfl (fun K' hK' => ?_) AllReadyH.nil
  rw [if_pos (by rfl)]
  go_simp
  refine (read_any gc 0 4 cap _ _ _ _ R1 (by omega) (by omega) (cv 0 (by omega)) (cv 1 (by omega)) (cv 2 (by omega)) (cv 3 (by omega))).mono ?_
  rintro e R2 ⟨rfl, nq, hnq⟩
  have B2 : Hid (Below w.heap.size w R2) := by show Below _ _ _; rw [hnq]; exact below_draws B1 nq
  clear hnq cv B1
  rw [HRD.out]
  refine hK'.out _ _ trivial (fun _ => ?_)
  clear hK' K'
  try simp only [qA, qB, qC, Act.put, qD, qE, qF]
  refine wpAnyH_take (i := 8) (v := ?_) rfl (by kernel_rfl) (by kernel_rfl) (by kernel_rfl) (fun _ _ _ h => h) (Or.inl ⟨by rfl, ?_⟩) trivial ?_
  rotate_left 1
  · intro W hSW; clear hSW; go_simp; try with_reducible rfl
  simp only [qA, qB, qC, Act.put, qD, qE, qF]
  refine wpAnyH_take (i := 9) (v := ?_) rfl (by kernel_rfl) (by kernel_rfl) (by kernel_rfl) (fun _ _ _ h => h) (Or.inl ⟨by rfl, ?_⟩) trivial ?_
  rotate_left 1
  · intro W hSW; clear hSW; go_simp; try with_reducible rfl
  simp only [qA, qB, qC, Act.put, qD, qE, qF]
  refine wpAnyH_take (i := 10) (v := ?_) rfl (by kernel_rfl) (by kernel_rfl) (by kernel_rfl) (fun _ _ _ h => h) (Or.inl ⟨by rfl, ?_⟩) trivial ?_
  rotate_left 1
  · intro W hSW; clear hSW; go_simp; try with_reducible rfl
  simp only [qA, qB, qC, Act.put, qD, qE, qF]
  refine ⟨by kernel_rfl, ?_⟩
  refine NoPanic.normal ?_
  try simp only [qA, qB, qC, Act.put, qD, qE, qF]
  go_wp2_with fail
  go_ret
  exact ⟨rfl, B2.out⟩

set_option maxRecDepth 10000 in
set_option maxHeartbeats 2000000 in
theorem pdec_ask (m : Int) (w : World) (hm : 0 ≤ m ∧ m ≤ 2147483647) :
    Calls Tryz.prog 107 #[.string (mkT 81 m ⟨#[]⟩)] w fun e w' => e = .returned (.iface 195 (.agg #[.int .i64 m])) ∧ Below w.heap.size w w' := by
  obtain ⟨s, hs⟩ : ∃ s, s = mkT 81 m ⟨#[]⟩ := ⟨_, rfl⟩
  rw [← hs]
  have hz : s.size = 5 + (⟨#[]⟩ : ByteArray).size := by rw [hs]; exact mkT_size 81 m _
  have l0 : 0 < s.size := by omega
  obtain ⟨x0, h15, hF, x5⟩ := mkT_facts 81 m ⟨#[]⟩ s hs (by omega) l0
  have HF : Hid (∀ x, x < 4 → bAt (s.extract 1 5) x = (fourN m).getD x 0) := hF
  have HRD : Hid (readI ((fourN m).getD 0 0) ((fourN m).getD 1 0) ((fourN m).getD 2 0) ((fourN m).getD 3 0) = m) := oread_four m (by omega) (by omega)
  have k0 : (0 : Int) < (s.size : Int) := by omega
  have k1 : (1 : Int) ≤ (s.size : Int) := by omega
  have k5 : (5 : Int) ≤ (s.size : Int) := by omega
  have k5' : ¬ (s.size : Int) < 5 := by omega
  have hg : ¬ (2147483647 : Int) < m := by omega
  obtain ⟨m0, m9⟩ := hm
  clear hF hs hz
  go_enter Tryz.func107, Tryz.ntmps107
  go_wp2_with fail
  refine wp_region_noPanic ?_
  refine wp_region_held_drew (S := fun _ => True) (by kernel_rfl) trivial (fun _ => ?_)
  refine wpAnyH_take (i := 0) (v := ?_) rfl (by kernel_rfl) (by kernel_rfl) (by kernel_rfl) (fun _ _ _ h => h) (Or.inl ⟨by rfl, ?_⟩) trivial ?_
  rotate_left 1
  · intro W hSW; clear hSW; go_simp; try with_reducible rfl
  simp only [qA, qB, qC, Act.put, qD, qE, qF]
  refine wpAnyH_take (i := 1) (v := ?_) rfl (by kernel_rfl) (by kernel_rfl) (by kernel_rfl) (fun _ _ _ h => h) (Or.inl ⟨by rfl, ?_⟩) trivial ?_
  rotate_left 1
  · intro W hSW; clear hSW; go_simp; try with_reducible rfl
  simp only [qA, qB, qC, Act.put, qD, qE, qF]
  refine wpAnyH_take (i := 2) (v := ?_) rfl (by kernel_rfl) (by kernel_rfl) (by kernel_rfl) (fun _ _ _ h => h) (Or.inl ⟨by rfl, ?_⟩) trivial ?_
  rotate_left 1
  · intro W hSW; clear hSW; go_simp; try with_reducible rfl
  simp only [qA, qB, qC, Act.put, qD, qE, qF]
  refine wpAnyH_take (i := 3) (v := ?_) rfl (by kernel_rfl) (by kernel_rfl) (by kernel_rfl) (fun _ _ _ h => h) (Or.inl ⟨by rfl, ?_⟩) trivial ?_
  rotate_left 1
  · intro W hSW; clear hSW; go_simp; try with_reducible rfl
  simp only [qA, qB, qC, Act.put, qD, qE, qF]
  refine wpAnyH_take (i := 6) (v := ?_) rfl (by kernel_rfl) (by kernel_rfl) (by kernel_rfl) (fun _ _ _ h => h) (Or.inl ⟨by rfl, ?_⟩) trivial ?_
  rotate_left 1
  · intro W hSW; clear hSW; go_simp; try with_reducible rfl
  simp only [qA, qB, qC, Act.put, qD, qE, qF]
  refine wpAnyH_take (i := 7) (v := ?_) rfl (by kernel_rfl) (by kernel_rfl) (by kernel_rfl) (fun _ _ _ h => h) (Or.inl ⟨by rfl, ?_⟩) trivial ?_
  rotate_left 1
  · intro W hSW; clear hSW; go_simp; try with_reducible rfl
  simp only [qA, qB, qC, Act.put, qD, qE, qF]
  refine wpAnyH_ready (rs := [4]) (by kernel_rfl) (by simp) ?_
  refine AllReadyH.cons rfl (fun K' hK' => ?_) AllReadyH.nil
  rw [if_pos (by rfl)]
  refine wp_conv_abs _ rfl (s.extract 1 5) rfl ?_
  intro R1 gc cap hb1 _hz4 hz5 hc5
  rw [h15]
  have B1 : Below w.heap.size w R1 := ((Below.refl w.heap.size w).drew).trans hb1
  have cv : ∀ x, x < 4 → R1.cell? ⟨gc, x, none⟩ = some (.int .u8 ((fourN m).getD x 0)) := fun x hx => by rw [hc5 x (by rw [h15]; exact hx), HF.out x hx]
  clear hc5 hb1
  refine hK'.out _ _ trivial (fun _ => ?_)
  clear hK' K'
  try simp only [qA, qB, qC, Act.put, qD, qE, qF]
  refine wpAnyH_ready (rs := [5]) (by kernel_rfl) (by simp) ?_
  refine AllReadyH.cons rfl (fun K' hK' => ?_) AllReadyH.nil
  rw [if_pos (by rfl)]
  go_simp
  refine (read_any gc 0 4 cap _ _ _ _ R1 (by omega) (by omega) (cv 0 (by omega)) (cv 1 (by omega)) (cv 2 (by omega)) (cv 3 (by omega))).mono ?_
  rintro e R2 ⟨rfl, nq, hnq⟩
  have B2 : Hid (Below w.heap.size w R2) := by show Below _ _ _; rw [hnq]; exact below_draws B1 nq
  clear hnq cv B1
  rw [HRD.out]
  refine hK'.out _ _ trivial (fun _ => ?_)
  clear hK' K'
  try simp only [qA, qB, qC, Act.put, qD, qE, qF]
  refine wpAnyH_take (i := 8) (v := ?_) rfl (by kernel_rfl) (by kernel_rfl) (by kernel_rfl) (fun _ _ _ h => h) (Or.inl ⟨by rfl, ?_⟩) trivial ?_
  rotate_left 1
  · intro W hSW; clear hSW; go_simp; try with_reducible rfl
  simp only [qA, qB, qC, Act.put, qD, qE, qF]
  refine wpAnyH_take (i := 9) (v := ?_) rfl (by kernel_rfl) (by kernel_rfl) (by kernel_rfl) (fun _ _ _ h => h) (Or.inl ⟨by rfl, ?_⟩) trivial ?_
  rotate_left 1
  · intro W hSW; clear hSW; go_simp; try with_reducible rfl
  simp only [qA, qB, qC, Act.put, qD, qE, qF]
  refine wpAnyH_take (i := 10) (v := ?_) rfl (by kernel_rfl) (by kernel_rfl) (by kernel_rfl) (fun _ _ _ h => h) (Or.inl ⟨by rfl, ?_⟩) trivial ?_
  rotate_left 1
  · intro W hSW; clear hSW; go_simp; try with_reducible rfl
  simp only [qA, qB, qC, Act.put, qD, qE, qF]
  refine ⟨by kernel_rfl, ?_⟩
  refine NoPanic.normal ?_
  try simp only [qA, qB, qC, Act.put, qD, qE, qF]
  go_wp2_with fail
  go_ret
  exact ⟨rfl, B2.out⟩

set_option maxRecDepth 10000 in
set_option maxHeartbeats 2000000 in
theorem pdec_fw (m c n o p v : Int) (t : ByteArray) (w : World) (hm : 0 ≤ m ∧ m ≤ 2147483647) (hm1 : 1 ≤ m) (hw : rqWhole c n o p v t = true) :
    Calls Tryz.prog 107 #[.string (mkT 70 m (strOfNums (rqBytes c n o p v t)))] w fun e w' => e = .returned (.iface 200 (.agg (fwCells m c n o p v t).toArray)) ∧ Below w.heap.size w w' := by
  obtain ⟨s, hs⟩ : ∃ s, s = mkT 70 m (strOfNums (rqBytes c n o p v t)) := ⟨_, rfl⟩
  rw [← hs]
  have hz : s.size = 5 + ((strOfNums (rqBytes c n o p v t)) : ByteArray).size := by rw [hs]; exact mkT_size 70 m _
  have l0 : 0 < s.size := by omega
  obtain ⟨x0, h15, hF, x5⟩ := mkT_facts 70 m (strOfNums (rqBytes c n o p v t)) s hs (by omega) l0
  have HF : Hid (∀ x, x < 4 → bAt (s.extract 1 5) x = (fourN m).getD x 0) := hF
  have HRD : Hid (readI ((fourN m).getD 0 0) ((fourN m).getD 1 0) ((fourN m).getD 2 0) ((fourN m).getD 3 0) = m) := oread_four m (by omega) (by omega)
  have k0 : (0 : Int) < (s.size : Int) := by omega
  have k1 : (1 : Int) ≤ (s.size : Int) := by omega
  have k5 : (5 : Int) ≤ (s.size : Int) := by omega
  have k5' : ¬ (s.size : Int) < 5 := by omega
  have hg : ¬ (2147483647 : Int) < m := by omega
  obtain ⟨m0, m9⟩ := hm
  clear hF hs hz
  go_enter Tryz.func107, Tryz.ntmps107
  go_wp2_with fail
  refine wp_region_noPanic ?_
  refine wp_region_held_drew (S := fun _ => True) (by kernel_rfl) trivial (fun _ => ?_)
  refine wpAnyH_take (i := 0) (v := ?_) rfl (by kernel_rfl) (by kernel_rfl) (by kernel_rfl) (fun _ _ _ h => h) (Or.inl ⟨by rfl, ?_⟩) trivial ?_
  rotate_left 1
  · intro W hSW; clear hSW; go_simp; try with_reducible rfl
  simp only [qA, qB, qC, Act.put, qD, qE, qF]
  refine wpAnyH_take (i := 1) (v := ?_) rfl (by kernel_rfl) (by kernel_rfl) (by kernel_rfl) (fun _ _ _ h => h) (Or.inl ⟨by rfl, ?_⟩) trivial ?_
  rotate_left 1
  · intro W hSW; clear hSW; go_simp; try with_reducible rfl
  simp only [qA, qB, qC, Act.put, qD, qE, qF]
  refine wpAnyH_take (i := 2) (v := ?_) rfl (by kernel_rfl) (by kernel_rfl) (by kernel_rfl) (fun _ _ _ h => h) (Or.inl ⟨by rfl, ?_⟩) trivial ?_
  rotate_left 1
  · intro W hSW; clear hSW; go_simp; try with_reducible rfl
  simp only [qA, qB, qC, Act.put, qD, qE, qF]
  refine wpAnyH_take (i := 3) (v := ?_) rfl (by kernel_rfl) (by kernel_rfl) (by kernel_rfl) (fun _ _ _ h => h) (Or.inl ⟨by rfl, ?_⟩) trivial ?_
  rotate_left 1
  · intro W hSW; clear hSW; go_simp; try with_reducible rfl
  simp only [qA, qB, qC, Act.put, qD, qE, qF]
  refine wpAnyH_take (i := 6) (v := ?_) rfl (by kernel_rfl) (by kernel_rfl) (by kernel_rfl) (fun _ _ _ h => h) (Or.inl ⟨by rfl, ?_⟩) trivial ?_
  rotate_left 1
  · intro W hSW; clear hSW; go_simp; try with_reducible rfl
  simp only [qA, qB, qC, Act.put, qD, qE, qF]
  refine wpAnyH_take (i := 7) (v := ?_) rfl (by kernel_rfl) (by kernel_rfl) (by kernel_rfl) (fun _ _ _ h => h) (Or.inl ⟨by rfl, ?_⟩) trivial ?_
  rotate_left 1
  · intro W hSW; clear hSW; go_simp; try with_reducible rfl
  simp only [qA, qB, qC, Act.put, qD, qE, qF]
  refine wpAnyH_ready (rs := [4]) (by kernel_rfl) (by simp) ?_
  refine AllReadyH.cons rfl (fun K' hK' => ?_) AllReadyH.nil
  rw [if_pos (by rfl)]
  refine wp_conv_abs _ rfl (s.extract 1 5) rfl ?_
  intro R1 gc cap hb1 _hz4 hz5 hc5
  rw [h15]
  have B1 : Below w.heap.size w R1 := ((Below.refl w.heap.size w).drew).trans hb1
  have cv : ∀ x, x < 4 → R1.cell? ⟨gc, x, none⟩ = some (.int .u8 ((fourN m).getD x 0)) := fun x hx => by rw [hc5 x (by rw [h15]; exact hx), HF.out x hx]
  clear hc5 hb1
  refine hK'.out _ _ trivial (fun _ => ?_)
  clear hK' K'
  try simp only [qA, qB, qC, Act.put, qD, qE, qF]
  refine wpAnyH_ready (rs := [5]) (by kernel_rfl) (by simp) ?_
  refine AllReadyH.cons rfl (fun K' hK' => ?_) AllReadyH.nil
  rw [if_pos (by rfl)]
  go_simp
  refine (read_any gc 0 4 cap _ _ _ _ R1 (by omega) (by omega) (cv 0 (by omega)) (cv 1 (by omega)) (cv 2 (by omega)) (cv 3 (by omega))).mono ?_
  rintro e R2 ⟨rfl, nq, hnq⟩
  have B2 : Hid (Below w.heap.size w R2) := by show Below _ _ _; rw [hnq]; exact below_draws B1 nq
  clear hnq cv B1
  rw [HRD.out]
  refine hK'.out _ _ trivial (fun _ => ?_)
  clear hK' K'
  try simp only [qA, qB, qC, Act.put, qD, qE, qF]
  refine wpAnyH_take (i := 8) (v := ?_) rfl (by kernel_rfl) (by kernel_rfl) (by kernel_rfl) (fun _ _ _ h => h) (Or.inl ⟨by rfl, ?_⟩) trivial ?_
  rotate_left 1
  · intro W hSW; clear hSW; go_simp; try with_reducible rfl
  simp only [qA, qB, qC, Act.put, qD, qE, qF]
  refine wpAnyH_take (i := 9) (v := ?_) rfl (by kernel_rfl) (by kernel_rfl) (by kernel_rfl) (fun _ _ _ h => h) (Or.inl ⟨by rfl, ?_⟩) trivial ?_
  rotate_left 1
  · intro W hSW; clear hSW; go_simp; try with_reducible rfl
  simp only [qA, qB, qC, Act.put, qD, qE, qF]
  refine wpAnyH_take (i := 10) (v := ?_) rfl (by kernel_rfl) (by kernel_rfl) (by kernel_rfl) (fun _ _ _ h => h) (Or.inl ⟨by rfl, ?_⟩) trivial ?_
  rotate_left 1
  · intro W hSW; clear hSW; go_simp; try with_reducible rfl
  simp only [qA, qB, qC, Act.put, qD, qE, qF]
  refine ⟨by kernel_rfl, ?_⟩
  refine NoPanic.normal ?_
  try simp only [qA, qB, qC, Act.put, qD, qE, qF]
  have hmp : (0 : Int) < m := by omega
  have hde := edecode_any c n o p v t R2 hw
  have HQI := info_rq c n o p v t
  have HQO := rq_one c n o p v t
  have hfb := fw_built m c n o p v t
  generalize hrq : (rqCells c n o p v t).toArray = rqa at hde hfb
  generalize strOfNums (rqBytes c n o p v t) = rs at *
  go_wp2_with fail
  refine hde.mono ?_
  rintro e R3 ⟨rfl, hb3⟩
  have B3 : Hid (Below w.heap.size w R3) := B2.out.trans (hb3.mono B2.out.size)
  obtain ⟨R4, h4⟩ : ∃ X, X = R3.alloc (.cells (rqCells 0 0 0 0 0 ⟨#[]⟩).toArray 29) := ⟨_, rfl⟩
  have b4 : Below R3.heap.size R3 R4 := by rw [h4]; exact (Below.refl _ _).alloc (Nat.le_refl _) _
  have t4 : R4.there R3.heap.size 0 (rqCells c n o p v t).length := by rw [h4]; exact there_new R3 (rqCells 0 0 0 0 0 ⟨#[]⟩).toArray _
  have B4 : Hid (Below w.heap.size w R4) := B3.out.trans (b4.mono B3.out.size)
  have s3 := B3.out.size
  clear hde hb3 b4
  go_wp2_with (first
    | (refine wpList_alloc_of rfl 29 rfl (rqCells 0 0 0 0 0 ⟨#[]⟩).toArray alloc_rq ?_; rw [← h4]; clear h4)
    | (refine wpList_store_abs rfl 29 _ _ rfl R3.heap.size 0 (rqCells c n o p v t) rfl (by rw [hrq]; rfl) t4 HQI HQO ?_
       intro R5 _hw5 hr5 _ht5 hb5
       have B5 : Hid (Below w.heap.size w R5) := B4.out.trans (hb5 w.heap.size s3)
       clear _hw5 _ht5 hb5)
    | (refine wpList_load_mid rfl 29 _ rfl R3.heap.size 0 rfl (rqCells c n o p v t) _ hr5 Tryz.underlying29 rfl HQI ?_; rw [hrq])
    | (refine wpList_build_tm rfl 200 _ rfl _ (Eq.trans (congrArg (Tryz.prog.built _) (by simp [Act.eval, Act.put])) hfb) ?_))
  go_ret
  exact ⟨rfl, B5.out⟩
end Go.Proofs.YteglimjonofdeaaGreatDoor
