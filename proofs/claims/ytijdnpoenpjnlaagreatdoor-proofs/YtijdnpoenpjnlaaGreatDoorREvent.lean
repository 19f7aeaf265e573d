import Derived.Test.YtijdnpoenpjnlaaGreatDoorRAid
set_option linter.unusedVariables false
set_option linter.unusedSimpArgs false
namespace Go.Proofs.YtijdnpoenpjnlaaGreatDoor
open Go.RowKit

/-- An event of the document's answer: six numbers, and the digest as a text. -/
def refEv (c n o p v k : Int) (s : ByteArray) : List Value := [.int .i64 c, .int .i64 n, .int .i64 o, .int .i64 p, .int .i64 v, .int .i64 k, .string s]

set_option maxHeartbeats 1000000 in
theorem rwhole_any (c n o p v k : Int) (s : ByteArray) (w : World) :
    Calls Tryz.prog 60 #[.agg (refEv c n o p v k s).toArray] w fun e w' => e = .returned (.bool (wholeB c n o p v k)) ∧ w' = w.alloc (.cells (refEv c n o p v k s).toArray 59) := by
  go_enter Tryz.func60, Tryz.ntmps60
  unfold refEv
  go_wp2
  all_goals go_ret
  all_goals exact ⟨ret_bool (by rw [Bool.eq_iff_iff]; simp [wholeB, inB]; omega), rfl⟩

set_option maxHeartbeats 400000 in
theorem four_any (n : Int) (w : World) :
    Calls Tryz.prog 112 #[.int .i64 n] w fun e w' => e = .returned (.string (strOfNums (fourN n))) ∧ Below w.heap.size w w' := by
  have hcv := convert_range (w := w.alloc (.cells (bytesV (fourN n)).toArray 5)) (b := w.heap.size) (cap := 4) (ns := fourN n) 4 rfl (range_new _ _ _)
  simp only [fourN, bytesV, List.map] at hcv
  go_enter Tryz.func112, Tryz.ntmps112
  go_wp2_with fail
  go_ret
  exact ⟨rfl, (Below.refl _ _).alloc (Nat.le_refl _) _⟩

/-- The number of the first k bytes, the high one first. -/
def numK (s : ByteArray) : Nat → Int
  | 0 => 0
  | k + 1 => 256 * numK s k + bAt s k
theorem numK_lo (s : ByteArray) : ∀ k, 0 ≤ numK s k
  | 0 => by simp [numK]
  | k + 1 => by have := numK_lo s k; have := bAt_lo s k; simp only [numK]; omega
theorem numK_hi (s : ByteArray) (k : Nat) (h : k ≤ 4) : numK s k < 4294967296 := by
  have h0 := bAt_hi s 0
  have h1 := bAt_hi s 1
  have h2 := bAt_hi s 2
  have h3 := bAt_hi s 3
  have g0 := bAt_lo s 0
  have g1 := bAt_lo s 1
  have g2 := bAt_lo s 2
  have g3 := bAt_lo s 3
  obtain rfl | rfl | rfl | rfl | rfl : k = 0 ∨ k = 1 ∨ k = 2 ∨ k = 3 ∨ k = 4 := by omega
  all_goals simp only [numK]; omega

set_option maxHeartbeats 400000 in
theorem number_any (s : ByteArray) (w : World) (hs : s.size ≤ 4) :
    Calls Tryz.prog 114 #[.string s] w fun e w' => e = .returned (.int .i64 (numK s s.size)) ∧ w' = w := by
  go_enter Tryz.func114, Tryz.ntmps114
  go_wp2_with fail
  go_loopw [3, 4] (fun v i wr => ∃ k : Nat, k ≤ s.size ∧ i = .int .i64 k ∧ v = .int .i64 (numK s k) ∧ wr = w) (fun _ i _ => s.size - (intOf i).toNat)
  case atStart => exact ⟨0, by omega, rfl, rfl, rfl⟩
  case round =>
    obtain ⟨k, hk, rfl, rfl, rfl⟩ := hrel
    by_cases hlt : k < s.size
    · have e0 := bAt_eq s k hlt
      have h0 := numK_lo s k
      have h1 := numK_hi s k (by omega)
      have h2 := numK_lo s (k + 1)
      have h3 := numK_hi s (k + 1) (by omega)
      have b0 := bAt_lo s k
      have b1 := bAt_hi s k
      have k0 : (0 : Int) ≤ (k : Int) := by omega
      have k1 : (k : Int) < (s.size : Int) := by omega
      go_wp2_with fail
      go_roundw
      case rel =>
        refine ⟨k + 1, by omega, by go_num, ?_, trivial⟩
        rfl
      case measure => simp [intOf]; omega
    · obtain rfl : k = s.size := by omega
      go_wp2_with fail
      go_ret
      exact ⟨rfl, rfl⟩

theorem box_cell {w w1 : World} {l : List Value} {t : TypeId} (hb : Below (w.heap.size + 1) (w.alloc (.cells l.toArray t)) w1) (j : Nat) (v : Value) (hv : l[j]? = some v) : w1.cell? ⟨w.heap.size, j, none⟩ = some v := by
  rw [hb.cell (p := ⟨w.heap.size, j, none⟩) (Nat.lt_succ_self _)]
  have := range_new w l t j v hv
  simpa using this

set_option maxRecDepth 10000 in
set_option maxHeartbeats 1000000 in
theorem rbytes_any (c n o p v k : Int) (s : ByteArray) (w : World) (hs : s.size ≤ 1000000000) :
    Calls Tryz.prog 62 #[.agg (refEv c n o p v k s).toArray] w fun e w' => e = .returned (.string (((strOfNums [69, c % 256] ++ strOfNums (fourN n)) ++ strOfNums [o % 256, p % 256, v % 256, k % 256]) ++ s)) ∧ Below w.heap.size w w' := by
  go_enter Tryz.func62, Tryz.ntmps62
  unfold refEv
  go_wp2_with fail
  refine (four_any _ _).mono ?_
  rintro e w1 ⟨rfl, hb1⟩
  rw [show (w.alloc (.cells [Value.int .i64 c, .int .i64 n, .int .i64 o, .int .i64 p, .int .i64 v, .int .i64 k, .string s].toArray 59)).heap.size = w.heap.size + 1 by simp] at hb1
  have c0 := box_cell hb1 0 _ rfl
  have c2 := box_cell hb1 2 _ rfl
  have c3 := box_cell hb1 3 _ rfl
  have c4 := box_cell hb1 4 _ rfl
  have c5 := box_cell hb1 5 _ rfl
  have c6 := box_cell hb1 6 _ rfl
  have hsz := hb1.size
  have hcv := convert_range (w := w1.alloc (.cells (bytesV [69, c % 256]).toArray 5)) (b := w1.heap.size) (cap := 2) (ns := [69, c % 256]) 2 rfl (range_new _ _ _)
  have hcv2 := convert_range (w := (w1.alloc (.cells (bytesV [69, c % 256]).toArray 5)).alloc (.cells (bytesV [o % 256, p % 256, v % 256, k % 256]).toArray 5)) (b := w1.heap.size + 1) (cap := 4) (ns := [o % 256, p % 256, v % 256, k % 256]) 4 rfl (by have h := range_new (w1.alloc (.cells (bytesV [69, c % 256]).toArray 5)) (bytesV [o % 256, p % 256, v % 256, k % 256]) 5; simpa using h)
  have hlt : w.heap.size < w1.heap.size := by simp at hsz; omega
  have d2 := (World.cell?_alloc_past (.cells (bytesV [69, c % 256]).toArray 5) w.heap.size 2 hlt).trans c2
  have d3 := (World.cell?_alloc_past (.cells (bytesV [69, c % 256]).toArray 5) w.heap.size 3 hlt).trans c3
  have d4 := (World.cell?_alloc_past (.cells (bytesV [69, c % 256]).toArray 5) w.heap.size 4 hlt).trans c4
  have d5 := (World.cell?_alloc_past (.cells (bytesV [69, c % 256]).toArray 5) w.heap.size 5 hlt).trans c5
  have d6 := (World.cell?_alloc_past (.cells (bytesV [69, c % 256]).toArray 5) w.heap.size 6 hlt).trans c6
  have f6 := (World.cell?_alloc_past (.cells (bytesV [o % 256, p % 256, v % 256, k % 256]).toArray 5) w.heap.size 6 (by simp; omega)).trans d6
  simp only [bytesV, List.map] at hcv hcv2 d2 d3 d4 d5 f6
  clear d6
  have z1 : (strOfNums [69, c % 256]).size = 2 := strOfNums_size _
  have z2 : (strOfNums (fourN n)).size = 4 := strOfNums_size _
  have z3 : (strOfNums [o % 256, p % 256, v % 256, k % 256]).size = 4 := strOfNums_size _
  have HB : Hid (Below (w.heap.size + 1) (w.alloc (.cells [Value.int .i64 c, .int .i64 n, .int .i64 o, .int .i64 p, .int .i64 v, .int .i64 k, .string s].toArray 59)) w1) := hb1
  clear hb1
  go_wp2_with fail
  go_ret
  refine ⟨rfl, ?_⟩
  exact (((Below.refl _ _).alloc (Nat.le_refl _) _).trans (HB.out.mono (by omega))).trans ((((Below.refl _ _).alloc (by omega) _)).alloc (by simp; omega) _)
end Go.Proofs.YtijdnpoenpjnlaaGreatDoor
