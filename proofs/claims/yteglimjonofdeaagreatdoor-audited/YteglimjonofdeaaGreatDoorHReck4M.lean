import Derived.Test.YteglimjonofdeaaGreatDoorNNopenM
import Derived.Test.YteglimjonofdeaaGreatDoorNFmt2M
import Derived.Test.YteglimjonofdeaaGreatDoorNBookM
import Derived.ProofKit
import Derived.OpenShut
import Derived.SizedLaws
import Derived.Deep.Slices
import Derived.ChangeSame
import Derived.Carry
set_option linter.unusedVariables false
set_option linter.unusedSimpArgs false
namespace Go.Proofs.YteglimjonofdeaaGreatDoor
open Go.RowKit

def mixN (a b far near : Nat) : Nat := (a + b + ((rotN far 25 ^^^ rotN far 14) ^^^ (far / 8)) + ((rotN near 15 ^^^ rotN near 13) ^^^ (near / 1024))) % 4294967296
theorem mix_nat (a b far near : Nat) (hf : far < 4294967296) (hn : near < 4294967296) : mixI (a : Int) b far near = (mixN a b far near : Nat) := by
  unfold mixI mixN
  rw [show (25 : Int) = ((25 : Nat) : Int) from rfl, show (14 : Int) = ((14 : Nat) : Int) from rfl, show (15 : Int) = ((15 : Nat) : Int) from rfl, show (13 : Int) = ((13 : Nat) : Int) from rfl, show (far : Int) / 8 = ((far / 8 : Nat) : Int) by omega, show (near : Int) / 1024 = ((near / 1024 : Nat) : Int) by omega,
    rot_nat far 25 hf (by omega), rot_nat far 14 hf (by omega), rot_nat near 15 hn (by omega), rot_nat near 13 hn (by omega),
    u32_xor_nat _ _ (rotN_lt far 25 hf) (rotN_lt far 14 hf), u32_xor_nat _ _ (rotN_lt near 15 hn) (rotN_lt near 13 hn),
    u32_xor_nat _ _ (xor_lt32 (rotN_lt far 25 hf) (rotN_lt far 14 hf)) (by omega), u32_xor_nat _ _ (xor_lt32 (rotN_lt near 15 hn) (rotN_lt near 13 hn)) (by omega),
    IntKind.wrap_u32', IntKind.wrap_u32', IntKind.wrap_u32']
  omega
/-- Word q of a block. -/
def Wd (x : Nat → Int) (q : Nat) : Int := (wordsL x (q + 1)).getD q 0
theorem words_get (x : Nat → Int) : ∀ m q, q < m → (wordsL x m).getD q 0 = Wd x q
  | m + 1, q, h => by
    by_cases e : q = m
    · subst e; rfl
    · rw [wordsL, List.getD_eq_getElem?_getD, List.getElem?_append_left (by rw [wordsL_length]; omega), ← List.getD_eq_getElem?_getD]
      exact words_get x m q (by omega)
theorem Wd_eq (x : Nat → Int) (q : Nat) : Wd x q = nextW x (wordsL x q) q := by
  unfold Wd
  rw [wordsL, List.getD_eq_getElem?_getD, List.getElem?_append_right (by rw [wordsL_length]; exact Nat.le_refl _), wordsL_length, Nat.sub_self]
  rfl
theorem Wd_first (x : Nat → Int) (q : Nat) (h : q < 16) : Wd x q = wordI x q := by rw [Wd_eq]; unfold nextW; rw [if_pos h]
theorem Wd_next (x : Nat → Int) (q : Nat) : Wd x (q + 16) = mixI (Wd x q) (Wd x (q + 9)) (Wd x (q + 1)) (Wd x (q + 14)) := by
  rw [Wd_eq]
  unfold nextW
  rw [if_neg (by omega), words_get x _ _ (by omega), words_get x _ _ (by omega), words_get x _ _ (by omega), words_get x _ _ (by omega)]
  congr 2
/-- The words, sixteen at a time, that roll on. -/
def roll : Nat → Nat → Nat → Nat → Nat → Nat → Nat → Nat → Nat → Nat → Nat → Nat → Nat → Nat → Nat → Nat → Nat → List Nat
  | 0, _, _, _, _, _, _, _, _, _, _, _, _, _, _, _, _ => []
  | n + 1, a0, a1, a2, a3, a4, a5, a6, a7, a8, a9, a10, a11, a12, a13, a14, a15 => a0 :: roll n a1 a2 a3 a4 a5 a6 a7 a8 a9 a10 a11 a12 a13 a14 a15 (mixN a0 a9 a1 a14)
theorem roll_len : ∀ (n a0 a1 a2 a3 a4 a5 a6 a7 a8 a9 a10 a11 a12 a13 a14 a15 : Nat), (roll n a0 a1 a2 a3 a4 a5 a6 a7 a8 a9 a10 a11 a12 a13 a14 a15).length = n
  | 0, _, _, _, _, _, _, _, _, _, _, _, _, _, _, _, _ => by rw [roll]; rfl
  | n + 1, a0, a1, a2, a3, a4, a5, a6, a7, a8, a9, a10, a11, a12, a13, a14, a15 => by rw [roll, List.length_cons, roll_len n]
theorem roll_words (x : Nat → Int) : ∀ (n k a0 a1 a2 a3 a4 a5 a6 a7 a8 a9 a10 a11 a12 a13 a14 a15 : Nat),
    (Wd x k = (a0 : Int) ∧ Wd x (k + 1) = a1 ∧ Wd x (k + 2) = a2 ∧ Wd x (k + 3) = a3 ∧ Wd x (k + 4) = a4 ∧ Wd x (k + 5) = a5 ∧ Wd x (k + 6) = a6 ∧ Wd x (k + 7) = a7 ∧ Wd x (k + 8) = a8 ∧ Wd x (k + 9) = a9 ∧ Wd x (k + 10) = a10 ∧ Wd x (k + 11) = a11 ∧ Wd x (k + 12) = a12 ∧ Wd x (k + 13) = a13 ∧ Wd x (k + 14) = a14 ∧ Wd x (k + 15) = a15) →
    (a0 < 4294967296 ∧ a1 < 4294967296 ∧ a2 < 4294967296 ∧ a3 < 4294967296 ∧ a4 < 4294967296 ∧ a5 < 4294967296 ∧ a6 < 4294967296 ∧ a7 < 4294967296 ∧ a8 < 4294967296 ∧ a9 < 4294967296 ∧ a10 < 4294967296 ∧ a11 < 4294967296 ∧ a12 < 4294967296 ∧ a13 < 4294967296 ∧ a14 < 4294967296 ∧ a15 < 4294967296) →
    ∀ j, j < n → Wd x (k + j) = (((roll n a0 a1 a2 a3 a4 a5 a6 a7 a8 a9 a10 a11 a12 a13 a14 a15).getD j 0 : Nat) : Int)
  | 0, _, _, _, _, _, _, _, _, _, _, _, _, _, _, _, _, _, _, _, j, hj => by omega
  | n + 1, k, a0, a1, a2, a3, a4, a5, a6, a7, a8, a9, a10, a11, a12, a13, a14, a15, h, b, j, hj => by
    rw [roll]
    obtain ⟨h0, h1, h2, h3, h4, h5, h6, h7, h8, h9, h10, h11, h12, h13, h14, h15⟩ := h
    obtain ⟨b0, b1, b2, b3, b4, b5, b6, b7, b8, b9, b10, b11, b12, b13, b14, b15⟩ := b
    cases j with
    | zero => rw [Nat.add_zero, h0]; rfl
    | succ j =>
      have hn : Wd x (k + 16) = (mixN a0 a9 a1 a14 : Nat) := by rw [Wd_next, h0, h9, h1, h14]; exact mix_nat a0 a9 a1 a14 b1 b14
      have := roll_words x n (k + 1) a1 a2 a3 a4 a5 a6 a7 a8 a9 a10 a11 a12 a13 a14 a15 (mixN a0 a9 a1 a14)
        ⟨h1, by rw [← h2], by rw [← h3], by rw [← h4], by rw [← h5], by rw [← h6], by rw [← h7], by rw [← h8], by rw [← h9], by rw [← h10], by rw [← h11], by rw [← h12], by rw [← h13], by rw [← h14], by rw [← h15], by rw [← hn]⟩
        ⟨b1, b2, b3, b4, b5, b6, b7, b8, b9, b10, b11, b12, b13, b14, b15, Nat.mod_lt _ (by decide)⟩ j (by omega)
      rw [show k + (j + 1) = k + 1 + j by omega, this]
      rfl
def readN (a b c d : Nat) : Nat := ((a * 16777216 ||| b * 65536) ||| c * 256) ||| d
theorem read_nat (a b c d : Nat) (ha : a < 256) (hb : b < 256) (hc : c < 256) (hd : d < 256) : readI (a : Int) b c d = (readN a b c d : Nat) ∧ readN a b c d < 4294967296 := by
  have o1 : a * 16777216 ||| b * 65536 < 4294967296 := Nat.or_lt_two_pow (n := 32) (by omega) (by omega)
  have o2 : (a * 16777216 ||| b * 65536) ||| c * 256 < 4294967296 := Nat.or_lt_two_pow (n := 32) o1 (by omega)
  refine ⟨?_, Nat.or_lt_two_pow (n := 32) o2 (by omega)⟩
  unfold readI readN
  rw [show (a : Int) % 4294967296 * 16777216 % 4294967296 = ((a * 16777216 : Nat) : Int) by omega, show (b : Int) % 4294967296 * 65536 % 4294967296 = ((b * 65536 : Nat) : Int) by omega, show (c : Int) % 4294967296 * 256 % 4294967296 = ((c * 256 : Nat) : Int) by omega, show (d : Int) % 4294967296 = ((d : Nat) : Int) by omega,
    u32_or_nat _ _ (by omega) (by omega), u32_or_nat _ _ o1 (by omega), u32_or_nat _ _ o2 (by omega)]
def wordN (x : Nat → Nat) (q : Nat) : Nat := readN (x (q * 4)) (x (q * 4 + 1)) (x (q * 4 + 2)) (x (q * 4 + 3))
def takeN (x : Nat → Nat) (st : List Nat) : List Nat :=
  match st with
  | [a, b, c, d, e, f, g, h] => List.zipWith (fun p q => (p + q) % 4294967296) st (reckR tabN (roll 64 (wordN x 0) (wordN x 1) (wordN x 2) (wordN x 3) (wordN x 4) (wordN x 5) (wordN x 6) (wordN x 7) (wordN x 8) (wordN x 9) (wordN x 10) (wordN x 11) (wordN x 12) (wordN x 13) (wordN x 14) (wordN x 15)) a b c d e f g h)
  | _ => []
theorem word_nat (X : Nat → Int) (x : Nat → Nat) (hX : ∀ j, j < 64 → X j = (x j : Int)) (hb : ∀ j, j < 64 → x j < 256) (q : Nat) (hq : q < 16) : Wd X q = ((wordN x q : Nat) : Int) ∧ wordN x q < 4294967296 := by
  rw [Wd_first X q hq]
  unfold wordI wordN
  rw [hX _ (by omega), hX _ (by omega), hX _ (by omega), hX _ (by omega)]
  exact read_nat _ _ _ _ (hb _ (by omega)) (hb _ (by omega)) (hb _ (by omega)) (hb _ (by omega))
/-- A block of any bytes. -/
theorem take_nat (X K : Nat → Int) (x : Nat → Nat) (st : List Nat) (hX : ∀ j, j < 64 → X j = (x j : Int)) (hb : ∀ j, j < 64 → x j < 256) (hK : ∀ j, j < 64 → K j = ((tabN.getD j 0 : Nat) : Int)) (hl : st.length = 8) (hs : ∀ y ∈ st, y < 4294967296) :
    takeL X K (castL st) = castL (takeN x st) ∧ (∀ y ∈ takeN x st, y < 4294967296) ∧ (takeN x st).length = 8 := by
  match st, hl with
  | [a, b, c, d, e, f, g, h], _ =>
    have hw := word_nat X x hX hb
    have hroll := roll_words X 64 0 (wordN x 0) (wordN x 1) (wordN x 2) (wordN x 3) (wordN x 4) (wordN x 5) (wordN x 6) (wordN x 7) (wordN x 8) (wordN x 9) (wordN x 10) (wordN x 11) (wordN x 12) (wordN x 13) (wordN x 14) (wordN x 15)
      ⟨(hw 0 (by omega)).1, (hw 1 (by omega)).1, (hw 2 (by omega)).1, (hw 3 (by omega)).1, (hw 4 (by omega)).1, (hw 5 (by omega)).1, (hw 6 (by omega)).1, (hw 7 (by omega)).1, (hw 8 (by omega)).1, (hw 9 (by omega)).1, (hw 10 (by omega)).1, (hw 11 (by omega)).1, (hw 12 (by omega)).1, (hw 13 (by omega)).1, (hw 14 (by omega)).1, (hw 15 (by omega)).1⟩
      ⟨(hw 0 (by omega)).2, (hw 1 (by omega)).2, (hw 2 (by omega)).2, (hw 3 (by omega)).2, (hw 4 (by omega)).2, (hw 5 (by omega)).2, (hw 6 (by omega)).2, (hw 7 (by omega)).2, (hw 8 (by omega)).2, (hw 9 (by omega)).2, (hw 10 (by omega)).2, (hw 11 (by omega)).2, (hw 12 (by omega)).2, (hw 13 (by omega)).2, (hw 14 (by omega)).2, (hw 15 (by omega)).2⟩
    have hr := (reck_rounds 64 tabN (roll 64 (wordN x 0) (wordN x 1) (wordN x 2) (wordN x 3) (wordN x 4) (wordN x 5) (wordN x 6) (wordN x 7) (wordN x 8) (wordN x 9) (wordN x 10) (wordN x 11) (wordN x 12) (wordN x 13) (wordN x 14) (wordN x 15)) (fun j => (wordsL X 64).getD j 0) K a b c d e f g h rfl (roll_len _ _ _ _ _ _ _ _ _ _ _ _ _ _ _ _ _) (fun j hj => by
      show (wordsL X 64).getD j 0 = _
      rw [words_get X 64 j hj, ← hroll j hj, Nat.zero_add]) hK (hs _ (by simp)) (hs _ (by simp)) (hs _ (by simp)) (hs _ (by simp)) (hs _ (by simp)) (hs _ (by simp)) (hs _ (by simp)) (hs _ (by simp))).1
    refine ⟨?_, zip_lt _ _, ?_⟩
    · unfold takeL
      rw [hr, zip_cast]
      rfl
    · unfold takeN
      rw [List.length_zipWith, reckR_len]
      rfl
def blocksN (D : List Nat) : Nat → List Nat
  | 0 => startN
  | k + 1 => takeN (fun j => D.getD (64 * k + j) 0) (blocksN D k)
theorem castL_get (D : List Nat) (j : Nat) : (castL D).getD j 0 = ((D.getD j 0 : Nat) : Int) := by
  unfold castL
  rw [List.getD_eq_getElem?_getD, List.getElem?_map, List.getD_eq_getElem?_getD]
  cases D[j]? <;> rfl
theorem getD_lt (D : List Nat) (h : ∀ y ∈ D, y < 256) (j : Nat) : D.getD j 0 < 256 := by
  rw [List.getD_eq_getElem?_getD]
  cases e : D[j]? with
  | none => exact (by decide : (0 : Nat) < 256)
  | some v => exact h v (List.mem_of_getElem? e)
theorem blocks_nat (K : Nat → Int) (D : List Nat) (hD : ∀ y ∈ D, y < 256) (hK : ∀ j, j < 64 → K j = ((tabN.getD j 0 : Nat) : Int)) : ∀ k,
    blocksL K (castL D) k = castL (blocksN D k) ∧ (∀ y ∈ blocksN D k, y < 4294967296) ∧ (blocksN D k).length = 8
  | 0 => ⟨by rw [blocksL, blocksN]; decide +kernel, by show ∀ y ∈ startN, y < 4294967296; decide +kernel, rfl⟩
  | k + 1 => by
    obtain ⟨h1, h2, h3⟩ := blocks_nat K D hD hK k
    rw [blocksL, blocksN, h1]
    exact take_nat _ K _ _ (fun j hj => castL_get D _) (fun j hj => getD_lt D hD _) hK h3 h2
def fourM (n : Nat) : List Nat := [n / 16777216 % 256, n / 65536 % 256, n / 256 % 256, n % 256]
theorem four_nat (n : Nat) : fourN (n : Int) = castL (fourM n) := by
  unfold fourN fourM castL
  simp only [List.map_cons, List.map_nil, List.cons.injEq, and_true]
  refine ⟨?_, ?_, ?_, ?_⟩ <;> omega
theorem fourM_lt (n : Nat) : ∀ y ∈ fourM n, y < 256 := by
  intro y hy
  simp only [fourM, List.mem_cons, List.not_mem_nil, or_false] at hy
  rcases hy with rfl | rfl | rfl | rfl <;> omega
theorem castL_append (a b : List Nat) : castL (a ++ b) = castL a ++ castL b := List.map_append
theorem castL_len (a : List Nat) : (castL a).length = a.length := List.length_map ..
theorem castL_rep (n : Nat) : castL (List.replicate n 0) = List.replicate n 0 := by unfold castL; rw [List.map_replicate]; rfl
def padN (D : List Nat) : List Nat := D ++ 128 :: (List.replicate (padLen D.length - D.length - 9) 0 ++ (fourM (D.length * 8 / 4294967296) ++ fourM (D.length * 8 % 4294967296)))
theorem pad_nat (D : List Nat) : padL (castL D) = castL (padN D) := by
  unfold padL padN
  rw [castL_append, castL_len, show ((D.length : Int) * 8 / 4294967296) = ((D.length * 8 / 4294967296 : Nat) : Int) by omega, show ((D.length : Int) * 8 % 4294967296) = ((D.length * 8 % 4294967296 : Nat) : Int) by omega, four_nat, four_nat, ← castL_append, ← castL_rep, ← castL_append]
  rfl
theorem padN_lt (D : List Nat) (h : ∀ y ∈ D, y < 256) : ∀ y ∈ padN D, y < 256 := by
  intro y hy
  unfold padN at hy
  simp only [List.mem_append, List.mem_cons] at hy
  rcases hy with h1 | rfl | h1 | h1 | h1
  · exact h y h1
  · decide
  · rw [List.eq_of_mem_replicate h1]; decide
  · exact fourM_lt _ y h1
  · exact fourM_lt _ y h1
theorem spread_nat : ∀ l : List Nat, spreadN (castL l) = castL (l.flatMap fourM)
  | [] => rfl
  | a :: l => by
    have := spread_nat l
    unfold spreadN at this ⊢
    rw [List.flatMap_cons, castL_append, ← this, ← four_nat]
    rfl
def shaN (D : List Nat) : List Nat := (blocksN (padN D) (padLen D.length / 64)).flatMap fourM
/-- The hash of any bytes, in Nat. -/
theorem sha_nat (K : Nat → Int) (D : List Nat) (hD : ∀ y ∈ D, y < 256) (hK : ∀ j, j < 64 → K j = ((tabN.getD j 0 : Nat) : Int)) : hashN K (castL D) = castL (shaN D) := by
  unfold hashN shaN
  rw [castL_len, pad_nat, (blocks_nat K _ (padN_lt D hD) hK _).1, spread_nat]
def zpad (m : Nat) : List Nat := 128 :: (List.replicate 55 0 ++ (fourM (64 * m * 8 / 4294967296) ++ fourM (64 * m * 8 % 4294967296)))
theorem zpad_lt (m : Nat) : ∀ y ∈ zpad m, y < 256 := by
  intro y hy
  unfold zpad at hy
  simp only [List.mem_append, List.mem_cons] at hy
  rcases hy with rfl | h1 | h1 | h1
  · decide
  · rw [List.eq_of_mem_replicate h1]; decide
  · exact fourM_lt _ y h1
  · exact fourM_lt _ y h1
theorem pad_zeros (m : Nat) : padL (List.replicate (64 * m) 0) = List.replicate (64 * m) 0 ++ castL (zpad m) := by
  unfold padL
  rw [List.length_replicate, show padLen (64 * m) - 64 * m - 9 = 55 by unfold padLen; omega, show (((64 * m : Nat) : Int) * 8 / 4294967296) = ((64 * m * 8 / 4294967296 : Nat) : Int) by omega, show (((64 * m : Nat) : Int) * 8 % 4294967296) = ((64 * m * 8 % 4294967296 : Nat) : Int) by omega, four_nat, four_nat, ← castL_append, ← castL_rep 55, ← castL_append]
  rfl
/-- The hash of blocks of noughts. -/
theorem zeros_nat (K : Nat → Int) (m : Nat) (hK : ∀ j, j < 64 → K j = ((tabN.getD j 0 : Nat) : Int)) : hashN K (List.replicate (64 * m) 0) = castL ((takeN (fun j => (zpad m).getD j 0) (reckN m startN)).flatMap fourM) := by
  unfold hashN
  rw [List.length_replicate, show padLen (64 * m) / 64 = m + 1 by unfold padLen; omega, blocksL, pad_zeros]
  obtain ⟨h1, h2, h3⟩ := blocks_zero K (List.replicate (64 * m) 0 ++ castL (zpad m)) hK m (fun j hj => by
    rw [List.getD_eq_getElem?_getD, List.getElem?_append_left (by rw [List.length_replicate]; exact hj), List.getElem?_replicate, if_pos hj]; rfl)
  rw [h1, (take_nat _ K (fun j => (zpad m).getD j 0) (reckN m startN) (fun j hj => by
    show (List.replicate (64 * m) (0 : Int) ++ castL (zpad m)).getD (64 * m + j) 0 = _
    rw [List.getD_eq_getElem?_getD, List.getElem?_append_right (by rw [List.length_replicate]; omega), List.length_replicate, show 64 * m + j - 64 * m = j by omega, ← List.getD_eq_getElem?_getD, castL_get]) (fun j hj => getD_lt _ (zpad_lt m) j) hK h2 h3).1, spread_nat]
theorem all_zero : ∀ n, allN zeroC n = List.replicate (128 * n) 0
  | 0 => rfl
  | n + 1 => by
    have := all_zero n
    unfold allN at this ⊢
    rw [List.range_succ, List.flatMap_append, this, List.flatMap_cons, List.flatMap_nil, List.append_nil]
    show _ ++ List.replicate 128 0 = _
    rw [List.replicate_append_replicate, show 128 * n + 128 = 128 * (n + 1) by omega]
theorem sum_nat (K : Nat → Int) (s : ByteArray) (D D' : List Nat) (hs : numsOf s = castL D) (hD : ∀ y ∈ D, y < 256) (hK : ∀ j, j < 64 → K j = ((tabN.getD j 0 : Nat) : Int)) (e : shaN D = D') : numsOf (sumOf K s) = castL D' := by
  unfold sumOf
  rw [nums_str _ (hashN_range K _), hs, sha_nat K D hD hK, e]
theorem nums_ext (V : ByteArray) (b : Nat) : numsOf (V.extract 0 b) = (numsOf V).take b := by
  unfold numsOf
  rw [ByteArray.data_extract, Array.toList_extract, List.extract_eq_take_drop, List.drop_zero, List.map_take, Nat.sub_zero]
theorem castL_take (l : List Nat) (n : Nat) : (castL l).take n = castL (l.take n) := by unfold castL; rw [List.map_take]
theorem stamp_nat (K : Nat → Int) (n : Nat) (D' : List Nat) (hK : ∀ j, j < 64 → K j = ((tabN.getD j 0 : Nat) : Int)) (e : (takeN (fun j => (zpad (2 * n)).getD j 0) (reckN (2 * n) startN)).flatMap fourM = D') : numsOf (stampT K zeroC n) = castL (D'.take 18) := by
  unfold stampT sumOf
  rw [nums_ext, nums_str _ (hashN_range K _), all_zero, nums_str _ (fun x hx => by rw [List.eq_of_mem_replicate hx]; decide), show 128 * n = 64 * (2 * n) by omega, zeros_nat K _ hK, e, castL_take]
def origD : List Nat := [97, 117, 100, 105, 116, 98, 111, 111, 107, 44, 32, 106, 111, 117, 114, 110, 97, 108, 32, 49]
def h0D : List Nat := [37, 53, 186, 106, 103, 224, 85, 206, 77, 137, 240, 194, 38, 189, 209, 189, 65, 115, 85, 232, 203, 57, 57, 143, 238, 204, 127, 159, 237, 6, 161, 128]
theorem orig_sha : shaN origD = h0D := by decide +kernel
theorem orig_nat (K : Nat → Int) (hK : ∀ j, j < 64 → K j = ((tabN.getD j 0 : Nat) : Int)) : numsOf (sumOf K origT) = castL h0D := sum_nat K origT origD h0D (by decide +kernel) (by decide +kernel) hK orig_sha
theorem z200 : (takeN (fun j => (zpad (2 * 200)).getD j 0) (reckN (2 * 200) startN)).flatMap fourM = [198, 82, 6, 118, 151, 35, 161, 58, 254, 128, 192, 217, 37, 83, 22, 57, 206, 239, 156, 46, 185, 126, 238, 59, 27, 84, 39, 57, 236, 64, 89, 127] := by
  rw [show 2 * 200 = 400 from rfl, reck_all]
  decide +kernel
def a200D : List Nat := [37, 53, 186, 106, 103, 224, 85, 206, 77, 137, 240, 194, 38, 189, 209, 189, 65, 115, 85, 232, 203, 57, 57, 143, 238, 204, 127, 159, 237, 6, 161, 128, 198, 82, 6, 118, 151, 35, 161, 58, 254, 128, 192, 217, 37, 83, 22, 57, 206, 239]
def h200D : List Nat := [224, 9, 4, 6, 12, 122, 124, 187, 222, 239, 251, 45, 239, 142, 194, 123, 163, 84, 245, 203, 107, 26, 141, 212, 46, 173, 4, 246, 29, 28, 80, 96]
def k200D : List Nat := [91, 35, 84, 135, 168, 211, 46, 160, 149, 34, 136, 154, 134, 95, 69, 86, 115, 57, 77, 244, 107, 81, 20, 223, 57, 152, 146, 167, 67, 27, 62, 104]
theorem a200_sha : shaN a200D = h200D := by decide +kernel
theorem h200_sha : shaN h200D = k200D := by decide +kernel
/-- The block behind a fresh journal's first is no record. -/
theorem hno_200 (K : Nat → Int) (hK : ∀ j, j < 64 → K j = ((tabN.getD j 0 : Nat) : Int)) : z128.take 32 ≠ (packN K (sumOf K (sumOf K origT ++ stampT K zeroC 200)) ⟨#[]⟩).take 32 := by
  have e1 : numsOf (sumOf K origT ++ stampT K zeroC 200) = castL a200D := by
    rw [nums_app, orig_nat K hK, stamp_nat K 200 _ hK z200, ← castL_append]; rfl
  have e2 := sum_nat K _ a200D h200D e1 (by decide +kernel) hK a200_sha
  have e3 : numsOf (sumOf K (sumOf K origT ++ stampT K zeroC 200) ++ ⟨#[]⟩) = castL h200D := by
    rw [nums_app, e2]; exact List.append_nil _
  have e4 := sum_nat K _ h200D k200D e3 (by decide +kernel) hK h200_sha
  unfold packN
  rw [e4]
  decide +kernel
end Go.Proofs.YteglimjonofdeaaGreatDoor
namespace Go.Proofs.YteglimjonofdeaaGreatDoor
open Go.ChangeShapes Go.WideShapes Go.ChangeAt Go.RowKit

/-- What a client asks for. -/
structure Ask5 where
  (c o p v t : Int)
def Ask5.cells (a : Ask5) : List Value := [.int .i64 a.c, .int .i64 a.o, .int .i64 a.p, .int .i64 a.v, .int .i64 a.t]
def inI (k : Int) : Prop := -9223372036854775808 ≤ k ∧ k ≤ 9223372036854775807
def Ask5.ok (a : Ask5) : Prop := inI a.c ∧ inI a.o ∧ inI a.p ∧ inI a.v ∧ inI a.t
/-- The list of asks as it lies. -/
structure AsksAt (W : World) (v : Value) (l : List Ask5) : Prop where
  at_ : ((∃ a cap, v = .slice a 0 cap) ∧ l = []) ∨ ∃ g off cap, v = .slice (some ⟨g, off, none⟩) l.length cap ∧ ∀ i o, l[i]? = some o → W.rangeAt g (off + i * 5) o.cells

theorem cellsAsk : Tryz.prog.cellsOf 32 = 5 := by kernel_rfl
theorem cellsIntA : Tryz.prog.cellsOf 3 = 1 := by kernel_rfl
theorem bytesAsk : Tryz.prog.bytesOf 32 = 40 := by kernel_rfl
theorem fieldsAsk : ∃ fs : Array Field, Tryz.prog.underlying 32 = some (.struct fs) ∧ fs.toList.map (fun f => (f.type, f.offset)) = [(3, 0), (3, 1), (3, 2), (3, 3), (3, 4)] :=
  ⟨_, Tryz.underlying32, by kernel_rfl⟩
theorem field_atA {fs : Array Field} {i t off : Nat} (h : (fs.toList.map (fun f => (f.type, f.offset)))[i]? = some (t, off)) : ∃ f, fs[i]? = some f ∧ f.type = t ∧ f.offset = off := by
  rw [List.getElem?_map] at h
  obtain ⟨f, hf, e⟩ := Option.map_eq_some_iff.1 h
  simp only [Prod.mk.injEq] at e
  exact ⟨f, by simpa using hf, e.1, e.2⟩

theorem open_ask {H : Type} {enc : TypeId × Value → H} {W : World} {base n : Nat} {sp : Nat → Bool} {held : Bool} {cs : List Value} {x : DataW H × List MemPlace} (h : DataW.trod enc Tryz.prog W base sp held n 32 cs = some x) :
    ∃ o : Ask5, cs = o.cells ∧ o.ok := by
  obtain ⟨fs, hu, hfs⟩ := fieldsAsk
  obtain ⟨xs, m, _, rfl, hcl, hxl, hf⟩ := DataW.trod_struct hu h
  rw [cellsAsk] at hcl
  have num : ∀ i, i < 5 → ∃ k : Int, cs[i]? = some (.int .i64 k) ∧ inI k := by
    intro i hi
    obtain ⟨f, hf1, hft, hfo⟩ := field_atA (fs := fs) (i := i) (t := 3) (off := i) (by
      rw [hfs]
      obtain rfl | rfl | rfl | rfl | rfl : i = 0 ∨ i = 1 ∨ i = 2 ∨ i = 3 ∨ i = 4 := by omega
      all_goals rfl)
    have hx := hf i f hf1
    rw [hft, hfo, cellsIntA] at hx
    have hlt : i < xs.length := by
      rw [hxl]; exact (Array.getElem?_eq_some_iff.1 hf1).1
    rw [List.getElem?_eq_getElem hlt] at hx
    obtain ⟨k, hk, _, hwf⟩ := DataW.trod_int Tryz.underlying3 hx
    have hb := bounds_i64 hwf
    refine ⟨k, ?_, by unfold inI; omega⟩
    have : ((cs.drop i).take 1)[0]? = some (.int .i64 k) := by rw [hk]; rfl
    rw [List.getElem?_take_of_lt (by omega), List.getElem?_drop] at this
    simpa using this
  obtain ⟨k0, e0, l0⟩ := num 0 (by omega)
  obtain ⟨k1, e1, l1⟩ := num 1 (by omega)
  obtain ⟨k2, e2, l2⟩ := num 2 (by omega)
  obtain ⟨k3, e3, l3⟩ := num 3 (by omega)
  obtain ⟨k4, e4, l4⟩ := num 4 (by omega)
  refine ⟨⟨k0, k1, k2, k3, k4⟩, ?_, ⟨l0, l1, l2, l3, l4⟩⟩
  match cs, hcl, e0, e1, e2, e3, e4 with
  | [a0, a1, a2, a3, a4], _, e0, e1, e2, e3, e4 =>
    simp at e0 e1 e2 e3 e4
    subst e0 e1 e2 e3 e4
    rfl

theorem open_asks {H : Type} {enc : TypeId × Value → H} {W : World} {v : Value} {d : DataW H} {ps : List MemPlace} (hv : ∃ a len cap, v = .slice a len cap) (h : DataW.Trod enc Tryz.prog W 0 (fun _ => true) true 22 v d ps)
    (hw : ∀ n ∈ d.weights Tryz.prog 22, n ≤ reachBytes) :
    ∃ l : List Ask5, AsksAt W v l ∧ l.length ≤ 140737488355328 ∧ ∀ o ∈ l, o.ok := by
  obtain ⟨fuel, hf⟩ := h
  obtain ⟨ao, vlen, vcap, rfl⟩ := hv
  have hrb : reachBytes ≤ 140737488355328 := by decide
  rcases Deep.open_slice Tryz.underlying22 hf with ⟨hc, _⟩ | ⟨a, len, cap, m, n, D, Pl, hc, _, hl, hm, hmm, hx, hall⟩
  · simp [Value.cells] at hc
    obtain ⟨rfl, rfl, rfl⟩ := hc
    exact ⟨[], ⟨Or.inl ⟨⟨none, 0, rfl⟩, rfl⟩⟩, by simp, fun o ho => by cases ho⟩
  · simp [Value.cells] at hc
    obtain ⟨rfl, rfl, rfl⟩ := hc
    simp only [Prod.mk.injEq] at hx
    obtain ⟨rfl, _⟩ := hx
    have hlm : vlen ≤ m := by rw [hmm]; simp; exact hl
    have each : ∀ i, i < vlen → ∃ o : Ask5, (∀ j u, o.cells[j]? = some u → W.cell? ((a.add (i * 5)).add j) = some u) ∧ o.ok := by
      intro i hi
      obtain ⟨cs', h1, h2⟩ := hall i (by omega)
      obtain ⟨o, rfl, ho1⟩ := open_ask h2
      rw [cellsAsk] at h1
      obtain ⟨_, hlen, hcell⟩ := World.cells?_some h1
      refine ⟨o, fun j u hu => ?_, ho1⟩
      have hj : j < 5 := (List.getElem?_eq_some_iff.1 hu).1
      rw [hcell j hj]; exact hu
    have inst : Inhabited Ask5 := ⟨⟨0, 0, 0, 0, 0⟩⟩
    obtain ⟨O, hO⟩ := Deep.choose_lt each
    have hlen : vlen * 40 ≤ reachBytes := by
      have := hw ((vlen + (m - vlen)) * 40) (by
        unfold DataW.weights
        rw [Tryz.underlying22]
        simp only [List.mem_cons, List.length_map, List.length_range, bytesAsk, true_or])
      have h1 : vlen * 40 ≤ (vlen + (m - vlen)) * 40 := Nat.mul_le_mul_right _ (by omega)
      omega
    refine ⟨(List.range vlen).map O, ?_, ?_, ?_⟩
    · by_cases h0 : vlen = 0
      · subst h0
        exact ⟨Or.inl ⟨⟨_, _, rfl⟩, rfl⟩⟩
      · have hsp : a.spot = none := by
          have := (hO 0 (by omega)).1 0 _ rfl
          simp [Addr.add] at this
          exact World.cell?_spot this
        obtain ⟨g, off, sp⟩ := a
        simp only at hsp
        subst hsp
        refine ⟨Or.inr ⟨g, off, vcap, by simp, fun i o ho j u hu => ?_⟩⟩
        have hi : i < vlen := by have := (List.getElem?_eq_some_iff.1 ho).1; simpa using this
        rw [List.getElem?_map, List.getElem?_range hi] at ho
        simp at ho
        subst ho
        have := (hO i hi).1 j u hu
        rw [Addr.add_lit, Addr.add_lit] at this
        exact this
    · simp; omega
    · intro o ho
      obtain ⟨i, hi, rfl⟩ := List.mem_map.1 ho
      exact (hO i (List.mem_range.1 hi)).2
theorem info_ask (a : Ask5) : (Tryz.prog.info? 32).map (·.size) = some a.cells.length := by show _ = some 5; kernel_rfl
theorem AsksAt.slice {W : World} {v : Value} {l : List Ask5} (h : AsksAt W v l) : ∃ ao cap, v = .slice ao l.length cap := by
  rcases h.at_ with ⟨⟨ao, cap, rfl⟩, rfl⟩ | ⟨g, off, cap, rfl, _⟩
  · exact ⟨ao, cap, rfl⟩
  · exact ⟨_, _, rfl⟩
end Go.Proofs.YteglimjonofdeaaGreatDoor
namespace Go.Proofs.YteglimjonofdeaaGreatDoor
open Go.RowKit

set_option maxHeartbeats 400000 in
theorem opick_fix (c n : Int) (h0 : -9223372036854775808 ≤ c) (h1 : c ≤ 9223372036854775807) (hn : 0 < n) (hn1 : n ≤ 4294967296) :
    ∃ r : Nat, (r : Int) < n ∧ ∀ w, Calls Tryz.prog 23 #[.int .i64 c, .int .i64 n] w fun e w' => e = .returned (.int .i64 r) ∧ w' = w := by
  by_cases hc : c < 0
  · have e1 : 0 ≤ -((c + 1).tmod n) := by rw [← Int.neg_tmod, Int.tmod_eq_emod_of_nonneg (by omega)]; exact Int.emod_nonneg _ (by omega)
    have e2 : -((c + 1).tmod n) < n := by rw [← Int.neg_tmod, Int.tmod_eq_emod_of_nonneg (by omega)]; exact Int.emod_lt_of_pos _ hn
    refine ⟨(-((c + 1).tmod n)).toNat, by omega, fun w => ?_⟩
    have HE : Hid (((-((c + 1).tmod n)).toNat : Int) = -((c + 1).tmod n)) := by show _ = _; omega
    clear e1 e2
    generalize (-((c + 1).tmod n)).toNat = r at *
    go_enter Tryz.func23, Tryz.ntmps23
    go_wp2
    go_ret
    exact ⟨by show Ending.returned (Value.int .i64 (-((c + 1).tmod n))) = Ending.returned (Value.int .i64 (r : Int)); rw [HE.out], rfl⟩
  · have e1 : 0 ≤ c % n := Int.emod_nonneg _ (by omega)
    have e2 : c % n < n := Int.emod_lt_of_pos _ hn
    refine ⟨(c % n).toNat, by omega, fun w => ?_⟩
    have HE : Hid (((c % n).toNat : Int) = c % n) := by show _ = _; omega
    clear e1 e2
    generalize (c % n).toNat = r at *
    go_enter Tryz.func23, Tryz.ntmps23
    go_wp2
    go_ret
    exact ⟨by show Ending.returned (Value.int .i64 (c % n)) = Ending.returned (Value.int .i64 (r : Int)); rw [HE.out], rfl⟩
set_option maxRecDepth 10000 in
set_option maxHeartbeats 1000000 in
theorem oseed_any (c : Int) (K : Nat → Int) (w : World) (c0 : -9223372036854775808 ≤ c) (c1 : c ≤ 9223372036854775807) (T : Tab K w) :
    Calls Tryz.prog 7 #[.int .i64 c] w fun e w' => ∃ s : ByteArray, e = .returned (.string s) ∧ s.size = 32 ∧ Below w.heap.size w w' := by
  have hcv := convert_range (w := w.alloc (.cells #[.int .u8 (c % 256), .int .u8 (c / 256 % 256), .int .u8 (c / 65536 % 256)] 5)) (b := w.heap.size) (cap := 3) (ns := [c % 256, c / 256 % 256, c / 65536 % 256]) 3 rfl (range_new w (bytesV [c % 256, c / 256 % 256, c / 65536 % 256]) 5)
  obtain ⟨t, ht⟩ : ∃ t, t = strOfNums [c % 256, c / 256 % 256, c / 65536 % 256] := ⟨_, rfl⟩
  have ht3 : t.size = 3 := by rw [ht, strOfNums_size]; rfl
  rw [← ht] at hcv
  clear ht
  have hb0 : Below w.heap.size w (w.alloc (.cells #[.int .u8 (c % 256), .int .u8 (c / 256 % 256), .int .u8 (c / 65536 % 256)] 5)) := (Below.refl _ _).alloc (Nat.le_refl _) _
  have T1 := T.below hb0
  have hsum := sum_any (⟨#[115, 101, 101, 100]⟩ ++ t) K _ (by rw [ByteArray.size_append, ht3, show (⟨#[115, 101, 101, 100]⟩ : ByteArray).size = 4 from rfl]; omega) T1.lt T1.cells
  have HS : Hid ((sumOf K (⟨#[115, 101, 101, 100]⟩ ++ t)).size = 32) := sumOf_size K _
  obtain ⟨s, hs⟩ : ∃ s, s = sumOf K (⟨#[115, 101, 101, 100]⟩ ++ t) := ⟨_, rfl⟩
  rw [← hs] at hsum HS
  clear hs T T1
  go_enter Tryz.func7, Tryz.ntmps7
  go_wp2_with fail
  refine hsum.mono ?_
  rintro e w1 ⟨rfl, hb1⟩
  go_wp2_with fail
  go_ret
  exact ⟨s, rfl, HS.out, hb0.trans (hb1.mono hb0.size)⟩


theorem xn_built (nd : Nat) : Tryz.prog.built 89 [(0, .pointer (some ⟨nd, 0, none⟩))] = some #[.pointer (some ⟨nd, 0, none⟩)] := by kernel_rfl
/-- What the door Open leaves. -/
def dopPost (K : Nat → Int) (z : Nv) (q bb N : Nat) (C : Nat → List Int) (w : World) (e : Ending) (w' : World) : Prop :=
  ∃ xn nd bk j lm m l, e = .returned (.tuple #[.pointer (some ⟨xn, 0, none⟩), .nilIface]) ∧ Al K w' z nd q bb N j 1 C l bk lm m 0 0 (.slice none 0 0) [] (fun g => g = m) (fun _ => False) (.map []) ∧ (w.heap.size ≤ j ∧ w.heap.size ≤ bk ∧ w.heap.size ≤ lm ∧ w.heap.size ≤ m ∧ w.heap.size ≤ nd) ∧ Kept (fun g => g = q ∨ g = bb) w w' ∧
    w'.cell? ⟨xn, 0, none⟩ = some (.pointer (some ⟨nd, 0, none⟩)) ∧ xn < w'.heap.size ∧ w.heap.size ≤ xn ∧ ¬ alOwn q bb j bk lm (.slice none 0 0) (fun g => g = m) xn
set_option maxRecDepth 10000 in
set_option maxHeartbeats 1000000 in
theorem aopen_any (K : Nat → Int) (ro la h : Int) (q bb N : Nat) (C : Nat → List Int) (r s : ByteArray) (w : World) (hro : 0 ≤ ro) (hrl : ro ≤ la) (hla : la < 3) (hh0 : 0 ≤ h) (hh5 : h ≤ 5) (h4 : N ≤ 400) (hn8 : 8 ≤ N) (hr : r.size ≤ 18) (hs : s.size = 32) (hD : DiskAt w q bb N C (.slice none 0 0) []) (T : Tab K w) (hpT : ¬ 1 = q) (hbT : ¬ 1 = bb)
    (hC0 : C 0 = packN K (sumOf K origT) r) (hC1 : C 1 = z128) (hno : z128.take 32 ≠ (packN K (sumOf K (sumOf K origT ++ r)) ⟨#[]⟩).take 32) :
    Calls Tryz.prog 53 #[devV q, .int .i64 ro, .int .i64 la, .string s, .int .i64 h] w (dopPost K (nv0 ro la s h) q bb N C w) := by
  have ho := nopen_any K ro la h q bb N C r s w hro hrl hla hh0 hh5 h4 hn8 hr hs hD T hpT hbT hC0 hC1 hno
  have HQL : Hid (q < w.heap.size ∧ bb < w.heap.size) := hD.lt
  clear hD T hC0 hC1 hno
  unfold devV at ho ⊢
  go_enter Tryz.func53, Tryz.ntmps53
  go_wp2_with fail
  refine ho.mono ?_
  rintro e W1 ⟨nd, bk, j, lm, m, l, rfl, a1, g1, k1⟩
  have s1 := k1.size
  obtain ⟨W2, h2⟩ : ∃ X, X = W1.alloc (.cells #[.pointer (some ⟨nd, 0, none⟩)] 89) := ⟨_, rfl⟩
  have b2 : Below W1.heap.size W1 W2 := by rw [h2]; exact (Below.refl _ _).alloc (Nat.le_refl _) _
  have hno : ¬ alOwn q bb j bk lm (.slice none 0 0) (fun g => g = m) W1.heap.size := fun e => by
    rcases e with e | e
    · have := a1.jat.ownLt _ e; omega
    · have := a1.book.ownLt _ e; omega
  have HR : Hid (dopPost K (nv0 ro la s h) q bb N C w (.returned (.tuple #[.pointer (some ⟨W1.heap.size, 0, none⟩), .nilIface])) W2) := ⟨W1.heap.size, nd, bk, j, lm, m, l, rfl, a1.fresh b2, g1, k1.trans (Kept.fresh (S := fun g => g = q ∨ g = bb) b2) (fun _ _ h => h), by rw [h2, World.cell?_alloc_at _ _ _ _ rfl]; rfl, by rw [h2]; simp, s1, hno⟩
  have hxb := xn_built nd
  clear ho a1 k1 b2 hno g1
  go_wp2_with (rw [← h2]; clear h2)
  go_ret2
  try rw [← h2]
  exact HR.out
set_option maxHeartbeats 400000 in
theorem popen_any (K : Nat → Int) (ro la h : Int) (q bb N : Nat) (C : Nat → List Int) (s : ByteArray) (w : World) (ho : Calls Tryz.prog 53 #[devV q, .int .i64 ro, .int .i64 la, .string s, .int .i64 h] w (dopPost K (nv0 ro la s h) q bb N C w)) :
    Calls Tryz.prog 31 #[.pointer (some ⟨q, 0, none⟩), .int .i64 ro, .int .i64 la, .string s, .int .i64 h] w (dopPost K (nv0 ro la s h) q bb N C w) := by
  unfold devV at ho
  go_enter Tryz.func31, Tryz.ntmps31
  go_wp2_with fail
  refine ho.mono ?_
  rintro e W1 ⟨xn, nd, bk, j, lm, m, l, rfl, hrest⟩
  have HR : Hid (dopPost K (nv0 ro la s h) q bb N C w (.returned (.tuple #[.pointer (some ⟨xn, 0, none⟩), .nilIface])) W1) := ⟨xn, nd, bk, j, lm, m, l, rfl, hrest⟩
  clear ho hrest
  go_wp2_with fail
  go_ret2
  exact HR.out
/-- A disk with an empty book. -/
theorem made_any (K : Nat → Int) (N : Nat) (w : World) (h8 : 8 ≤ N) (h4 : N ≤ 400) (T : Tab K w) :
    Calls Tryz.prog 30 #[.int .i64 N] w fun e w' => ∃ p bb, e = .returned (.pointer (some ⟨p, 0, none⟩)) ∧ w.heap.size ≤ p ∧ w.heap.size ≤ bb ∧ DiskAt w' p bb N (fmtC (packN K (sumOf K origT) (stampT K zeroC N))) (.slice none 0 0) [] ∧ Below w.heap.size w w' := by
  have hnd := newdisk_any N w (by omega) (by omega)
  have HT : Hid (Tab K w) := T
  clear T
  go_enter Tryz.func30, Tryz.ntmps30
  go_wp2_with fail
  refine hnd.mono ?_
  rintro e W1 ⟨p, bb, rfl, hp, hb, hd, b1⟩
  have hTl := HT.out.lt
  have hf := pformat_any K p bb N zeroC W1 h8 h4 hd (fun i _ x hx => by rw [List.eq_of_mem_replicate (show x ∈ List.replicate 128 (0 : Int) from hx)]; decide) (HT.out.below b1) (by omega)
  have HB1 : Hid (Below w.heap.size w W1) := b1
  clear hnd hd b1
  go_wp2_with fail
  refine hf.mono ?_
  rintro e W2 ⟨rfl, d2, k2⟩
  have B2 : Below w.heap.size w W2 := HB1.out.trans (k2.toBelow HB1.out.size (fun g hg => by omega))
  have HD : Hid (DiskAt W2 p bb N (fmtC (packN K (sumOf K origT) (stampT K zeroC N))) (.slice none 0 0) []) := d2
  have HB2 : Hid (Below w.heap.size w W2) := B2
  clear hf d2 k2 B2
  go_wp2_with fail
  go_ret
  exact ⟨p, bb, rfl, hp, hb, HD.out, HB2.out⟩
end Go.Proofs.YteglimjonofdeaaGreatDoor
