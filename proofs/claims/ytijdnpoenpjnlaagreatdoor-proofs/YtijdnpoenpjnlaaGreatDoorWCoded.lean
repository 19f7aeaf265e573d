import Derived.Test.YtijdnpoenpjnlaaGreatDoorWSum
import Derived.Test.YtijdnpoenpjnlaaGreatDoorWSumAM
import Derived.Stop.BytesEq
set_option linter.unusedVariables false
set_option linter.unusedSimpArgs false
namespace Go.Proofs.YtijdnpoenpjnlaaGreatDoor
open Go.RowKit

/-! What is encoded is decoded: plain mathematics. -/
theorem or_u32 (a b : Int) (ha : 0 ≤ a) (ha2 : a < 4294967296) (hb : 0 ≤ b) (hb2 : b < 4294967296) : bits .or .u32 a b = ((a.toNat ||| b.toNat : Nat) : Int) := by
  obtain ⟨x, rfl⟩ := Int.eq_ofNat_of_zero_le ha
  obtain ⟨y, rfl⟩ := Int.eq_ofNat_of_zero_le hb
  have hx : x < 2 ^ 32 := by omega
  have hy : y < 2 ^ 32 := by omega
  have ho : x ||| y < 2 ^ 32 := Nat.or_lt_two_pow hx hy
  have h1 : (BitVec.ofInt 32 (x : Int)).toNat = x := by rw [BitVec.ofInt_natCast, BitVec.toNat_ofNat]; exact Nat.mod_eq_of_lt hx
  have h2 : (BitVec.ofInt 32 (y : Int)).toNat = y := by rw [BitVec.ofInt_natCast, BitVec.toNat_ofNat]; exact Nat.mod_eq_of_lt hy
  show IntKind.u32.wrap ((BitVec.ofInt 32 (x : Int) ||| BitVec.ofInt 32 (y : Int)).toNat : Int) = _
  rw [BitVec.toNat_or, h1, h2, Int.toNat_natCast, Int.toNat_natCast]
  simp [IntKind.wrap, IntKind.bits, IntKind.signed]
  omega
/-- A number whose low part is nought, and another that is that part. -/
theorem or_apart (k a b : Nat) (hb : b < 2 ^ k) : (2 ^ k * a) ||| b = 2 ^ k * a + b := by
  rw [Nat.two_pow_add_eq_or_of_lt hb]
theorem readI_eq (x0 x1 x2 x3 : Int) (h0 : 0 ≤ x0 ∧ x0 < 256) (h1 : 0 ≤ x1 ∧ x1 < 256) (h2 : 0 ≤ x2 ∧ x2 < 256) (h3 : 0 ≤ x3 ∧ x3 < 256) : readI x0 x1 x2 x3 = x0 * 16777216 + x1 * 65536 + x2 * 256 + x3 := by
  obtain ⟨a, rfl⟩ := Int.eq_ofNat_of_zero_le h0.1
  obtain ⟨b, rfl⟩ := Int.eq_ofNat_of_zero_le h1.1
  obtain ⟨c, rfl⟩ := Int.eq_ofNat_of_zero_le h2.1
  obtain ⟨d, rfl⟩ := Int.eq_ofNat_of_zero_le h3.1
  have e0 : (a : Int) % 4294967296 * 16777216 % 4294967296 = ((2 ^ 24 * a : Nat) : Int) := by omega
  have e1 : (b : Int) % 4294967296 * 65536 % 4294967296 = ((2 ^ 16 * b : Nat) : Int) := by omega
  have e2 : (c : Int) % 4294967296 * 256 % 4294967296 = ((2 ^ 8 * c : Nat) : Int) := by omega
  have e3 : (d : Int) % 4294967296 = ((d : Nat) : Int) := by omega
  have r1 : bits .or .u32 ((2 ^ 24 * a : Nat) : Int) ((2 ^ 16 * b : Nat) : Int) = ((2 ^ 16 * (2 ^ 8 * a + b) : Nat) : Int) := by
    rw [or_u32 _ _ (by omega) (by omega) (by omega) (by omega), Int.toNat_natCast, Int.toNat_natCast, or_apart 24 a (2 ^ 16 * b) (by omega)]
    congr 1; omega
  have r2 : bits .or .u32 ((2 ^ 16 * (2 ^ 8 * a + b) : Nat) : Int) ((2 ^ 8 * c : Nat) : Int) = ((2 ^ 8 * (2 ^ 16 * a + 2 ^ 8 * b + c) : Nat) : Int) := by
    rw [or_u32 _ _ (by omega) (by omega) (by omega) (by omega), Int.toNat_natCast, Int.toNat_natCast, or_apart 16 _ (2 ^ 8 * c) (by omega)]
    congr 1; omega
  have r3 : bits .or .u32 ((2 ^ 8 * (2 ^ 16 * a + 2 ^ 8 * b + c) : Nat) : Int) ((d : Nat) : Int) = ((2 ^ 8 * (2 ^ 16 * a + 2 ^ 8 * b + c) + d : Nat) : Int) := by
    rw [or_u32 _ _ (by omega) (by omega) (by omega) (by omega), Int.toNat_natCast, Int.toNat_natCast, or_apart 8 _ d (by omega)]
  unfold readI
  rw [e0, e1, e2, e3, r1, r2, r3]
  omega
theorem bAt_str (l : List Int) (h : ∀ x ∈ l, 0 ≤ x ∧ x < 256) (i : Nat) (hi : i < l.length) : bAt (strOfNums l) i = l.getD i 0 := by
  unfold bAt
  rw [strOfNums_data, List.getD, List.getD, List.getElem?_map, List.getElem?_eq_getElem hi]
  have := h l[i] (List.getElem_mem hi)
  simp only [Option.map_some, Option.getD_some]
  have e : (UInt8.ofNat l[i].toNat).toNat = l[i].toNat % 256 := UInt8.toNat_ofNat'
  rw [e]
  omega

set_option maxHeartbeats 1000000 in
theorem ev_same (c n o p v k : Int) (D : List Value) (hD : D.length = 32) (w : World) (hb : ∀ d, (Op.equalIn (d + 2) 89 (.agg D.toArray) (.agg D.toArray)).run Tryz.prog w = .ok true w) :
    (Op.equalIn 10000 104 (.agg (evCells c n o p v k D).toArray) (.agg (evCells c n o p v k D).toArray)).run Tryz.prog w = .ok true w := by
  have h0 := ev0 c n o p v k D
  have h1 := ev1 c n o p v k D
  have h2 := ev2 c n o p v k D
  have h3 := ev3 c n o p v k D
  have h4 := ev4 c n o p v k D
  have h5 := ev5 c n o p v k D
  have hx : ((evCells c n o p v k D).extract 6 38) = D := by
    rw [List.extract_eq_take_drop]; show List.take 32 D = D
    exact List.take_of_length_le (by rw [hD]; exact Nat.le_refl _)
  have hb' := hb 9997
  go_simp

theorem ext_drop (s : ByteArray) : (s.extract 10 s.size).data.toList = s.data.toList.drop 10 := by
  have hl : s.data.toList.length = s.size := by rw [Lib.size_eq]
  rw [ByteArray.data_extract]
  simp only [Array.toList_extract, List.extract_eq_take_drop]
  exact List.take_of_length_le (by rw [List.length_drop, hl]; exact Nat.le_refl _)
theorem dg_drop (s : ByteArray) : dg s = (numsOf s).drop 10 := by
  unfold dg numsOf; rw [ext_drop, List.map_drop]
theorem ten_drop (l : List Int) (h : 10 ≤ l.length) : l = l.getD 0 0 :: l.getD 1 0 :: l.getD 2 0 :: l.getD 3 0 :: l.getD 4 0 :: l.getD 5 0 :: l.getD 6 0 :: l.getD 7 0 :: l.getD 8 0 :: l.getD 9 0 :: l.drop 10 := by
  match l, h with
  | _ :: _ :: _ :: _ :: _ :: _ :: _ :: _ :: _ :: _ :: _, _ => rfl
theorem four_read (x0 x1 x2 x3 : Int) (h0 : 0 ≤ x0 ∧ x0 < 256) (h1 : 0 ≤ x1 ∧ x1 < 256) (h2 : 0 ≤ x2 ∧ x2 < 256) (h3 : 0 ≤ x3 ∧ x3 < 256) : fourN (readI x0 x1 x2 x3) = [x0, x1, x2, x3] := by
  rw [readI_eq x0 x1 x2 x3 h0 h1 h2 h3]
  unfold fourN
  have e0 : (x0 * 16777216 + x1 * 65536 + x2 * 256 + x3) / 16777216 % 256 = x0 := by omega
  have e1 : (x0 * 16777216 + x1 * 65536 + x2 * 256 + x3) / 65536 % 256 = x1 := by omega
  have e2 : (x0 * 16777216 + x1 * 65536 + x2 * 256 + x3) / 256 % 256 = x2 := by omega
  have e3 : (x0 * 16777216 + x1 * 65536 + x2 * 256 + x3) % 256 = x3 := by omega
  rw [e0, e1, e2, e3]
theorem read_four (n : Int) (h0 : 0 ≤ n) (h1 : n < 4294967296) : readI (n / 16777216 % 256) (n / 65536 % 256) (n / 256 % 256) (n % 256) = n := by
  rw [readI_eq _ _ _ _ (by omega) (by omega) (by omega) (by omega)]
  omega
/-- What is decoded is encoded to the same bytes. -/
theorem back_bytes (s : ByteArray) (h : goodB s = true) : strOfNums (evBytes (bAt s 1) (readI (bAt s 2) (bAt s 3) (bAt s 4) (bAt s 5)) (bAt s 6) (bAt s 7) (bAt s 8) (bAt s 9) (dg s)) = s := by
  have hs := good_len s h
  have hm : bAt s 0 = 69 := by simp [goodB] at h; exact h.2.1
  have hl : (numsOf s).length = 42 := by rw [numsOf_length, hs]
  have hb : ∀ i, 0 ≤ bAt s i ∧ bAt s i < 256 := fun i => ⟨bAt_lo s i, by have := bAt_hi s i; omega⟩
  have e : evBytes (bAt s 1) (readI (bAt s 2) (bAt s 3) (bAt s 4) (bAt s 5)) (bAt s 6) (bAt s 7) (bAt s 8) (bAt s 9) (dg s) = numsOf s := by
    unfold evBytes
    rw [four_read _ _ _ _ (hb 2) (hb 3) (hb 4) (hb 5), dg_drop, ← hm]
    conv => rhs; rw [ten_drop (numsOf s) (by omega)]
    simp only [bAt_nums]
    rfl
  rw [e, str_nums]
/-- What is encoded is decoded to the same. -/
theorem ev_range (c n o p v k : Int) (D : List Int) (hD : ∀ x ∈ D, 0 ≤ x ∧ x < 256) (hw : wholeB c n o p v k = true) : ∀ x ∈ evBytes c n o p v k D, 0 ≤ x ∧ x < 256 := by
  obtain ⟨⟨c1, c2⟩, ⟨n1, n2⟩, ⟨o1, o2⟩, ⟨p1, p2⟩, ⟨v1, v2⟩, k1, k2⟩ := whole_bounds hw
  intro x hx
  simp only [evBytes, fourN, List.cons_append, List.nil_append, List.mem_cons] at hx
  rcases hx with rfl | rfl | rfl | rfl | rfl | rfl | rfl | rfl | rfl | rfl | hx
  · omega
  · omega
  · omega
  · omega
  · omega
  · omega
  · omega
  · omega
  · omega
  · omega
  · exact hD x hx
theorem ev_len (c n o p v k : Int) (D : List Int) (hD : D.length = 32) : (evBytes c n o p v k D).length = 42 := by simp [evBytes, fourN, hD]
theorem forth (c n o p v k : Int) (D : List Int) (hl : D.length = 32) (hD : ∀ x ∈ D, 0 ≤ x ∧ x < 256) (hw : wholeB c n o p v k = true) :
    goodB (strOfNums (evBytes c n o p v k D)) = true ∧ fEv (strOfNums (evBytes c n o p v k D)) = evCells c n o p v k (bytesV D) := by
  have hr := nums_str _ (ev_range c n o p v k D hD hw)
  obtain ⟨_, ⟨n1, n2⟩, _⟩ := whole_bounds hw
  have hb : ∀ i, bAt (strOfNums (evBytes c n o p v k D)) i = (evBytes c n o p v k D).getD i 0 := fun i => by rw [bAt_nums, hr]
  have hd : dg (strOfNums (evBytes c n o p v k D)) = D := by rw [dg_drop, hr]; rfl
  have hn : readI (bAt (strOfNums (evBytes c n o p v k D)) 2) (bAt (strOfNums (evBytes c n o p v k D)) 3) (bAt (strOfNums (evBytes c n o p v k D)) 4) (bAt (strOfNums (evBytes c n o p v k D)) 5) = n := by
    rw [hb, hb, hb, hb]; exact read_four n (by omega) (by omega)
  have hw' : wholeD (strOfNums (evBytes c n o p v k D)) = true := by
    unfold wholeD; rw [hn, hb, hb, hb, hb, hb]; exact hw
  refine ⟨?_, ?_⟩
  · unfold goodB
    rw [hw', hb, strOfNums_size, ev_len _ _ _ _ _ _ _ hl]; rfl
  · unfold fEv
    rw [hn, hd, hb, hb, hb, hb, hb]; rfl
end Go.Proofs.YtijdnpoenpjnlaaGreatDoor
