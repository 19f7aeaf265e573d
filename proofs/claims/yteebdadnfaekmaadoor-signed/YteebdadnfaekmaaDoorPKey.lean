import Derived.Test.YteebdadnfaekmaaDoorPDig
import Derived.Test.YteebdadnfaekmaaDoorGRoot
import Derived.Test.YteebdadnfaekmaaDoorTTexts
set_option linter.unusedVariables false
set_option linter.unusedSimpArgs false
namespace Go.Proofs.YteebdadnfaekmaaDoor
open Go.RowKit

/-- The bytes of a key's number and a chain's. -/
def two (k c : Nat) : ByteArray := strOfNums [(k : Int) % 256, (c : Int) % 256]
theorem two_size (k c : Nat) : (two k c).size = 2 := by unfold two; rw [strOfNums_size]; rfl
def beginF (H : ByteArray → ByteArray) (seed : ByteArray) (k c : Nat) : ByteArray := H (mK ++ seed ++ two k c)

set_option maxRecDepth 10000 in
set_option maxHeartbeats 1000000 in
theorem begin1_any (K : Nat → Int) (seed : ByteArray) (k c bs bk : Nat) (w : World) (hs : seed.size ≤ 100000) (c1 : w.cell? ⟨bs, 0, none⟩ = some (.string seed)) (c2 : w.cell? ⟨bk, 0, none⟩ = some (.int .i64 k)) (T : Tab K w) :
    Calls Tryd.prog 87 #[.int .i64 c, .pointer (some ⟨bs, 0, none⟩), .pointer (some ⟨bk, 0, none⟩)] w fun e w' => e = .returned (.agg (hV (beginF (sumOf K) seed k c)).toArray) ∧ Below w.heap.size w w' := by
  have l1 := World.block_lt_of_cell? w _ c1
  have l2 := World.block_lt_of_cell? w _ c2
  have c1' : (w.alloc (.cells z32.toArray 54)).cell? ⟨bs, 0, none⟩ = some (.string seed) := by rw [World.cell?_alloc_past _ _ _ l1]; exact c1
  have c2' : (w.alloc (.cells z32.toArray 54)).cell? ⟨bk, 0, none⟩ = some (.int .i64 k) := by rw [World.cell?_alloc_past _ _ _ l2]; exact c2
  obtain ⟨wB, hwB⟩ : ∃ wB, wB = (w.alloc (.cells z32.toArray 54)).alloc (.cells #[.int .u8 ((k : Int) % 256), .int .u8 ((c : Int) % 256)] 5) := ⟨_, rfl⟩
  have hcv := convert_range (w := wB) (b := w.heap.size + 1) (cap := 2) (ns := [(k : Int) % 256, (c : Int) % 256]) 2 rfl (by
    rw [hwB]
    have := range_new (w.alloc (.cells z32.toArray 54)) (bytesV [(k : Int) % 256, (c : Int) % 256]) 5
    rw [show (w.alloc (.cells z32.toArray 54)).heap.size = w.heap.size + 1 by simp] at this
    exact this)
  rw [hwB] at hcv
  rw [show strOfNums [(k : Int) % 256, (c : Int) % 256] = two k c from rfl] at hcv
  have hb0 : Below w.heap.size w (((w.alloc (.cells z32.toArray 54)).alloc (.cells #[.int .u8 ((k : Int) % 256), .int .u8 ((c : Int) % 256)] 5)).alloc (.cells #[.string ⟨#[75]⟩, .string seed, .string (two k c)] 9)) := (((Below.refl _ _).alloc (Nat.le_refl _) _).alloc (by simp) _).alloc (by simp; omega) _
  have T0 := T.below hb0
  have hof := of_any [mK, seed, two k c] (w.heap.size + 1 + 1) 3 K _ (by simp) (by simp)
    (by simp [joinN, numsOf_length, mK, numsOf, two_size]; omega)
    (fun j hj => by
      rw [World.cell?_alloc_at _ _ _ _ (by simp)]
      have hj2 : j < 3 := hj
      obtain rfl | rfl | rfl : j = 0 ∨ j = 1 ∨ j = 2 := by omega
      all_goals rfl) T0.lt T0.cells
  rw [hV_sum K (joinN [mK, seed, two k c]) (mK ++ seed ++ two k c) (by rw [nums_app, nums_app]; simp [joinN])] at hof
  rw [show [mK, seed, two k c].length = 3 from rfl] at hof
  have h32 := sumOf_size K (mK ++ seed ++ two k c)
  unfold beginF
  generalize sumOf K (mK ++ seed ++ two k c) = h at *
  generalize two k c = tw at *
  clear T0 T hwB
  go_enter Tryd.func87, Tryd.ntmps87
  go_wp2_with (first | (refine wpList_alloc_of rfl 54 rfl z32.toArray alloc_32 ?_))
  refine hof.mono ?_
  rintro e w1 ⟨rfl, hb1⟩
  have hb1' : Below w.heap.size w w1 := hb0.trans (hb1.mono (by simp; omega))
  have ht : w1.there w.heap.size 0 (hV h).length := by
    rw [hV_len h32]
    exact there_below (hb1.mono (B' := w.heap.size + 1) (by simp)) (Nat.lt_succ_self _) (there_below (((Below.refl _ _).alloc (by simp) _).alloc (by simp) _) (Nat.lt_succ_self _) (there_z32 w))
  clear hof hb1
  go_wp2_with (refine wpList_store_abs rfl 54 _ _ rfl w.heap.size 0 (hV h) rfl rfl ht (hV_info h32) (hV_one h) ?_; intro w2 _hw2 hr2 _ht2 hb2; clear _hw2 _ht2)
  exact ret_cell rfl w.heap.size 0 (hV h) _ rfl hr2 Tryd.underlying54 rfl (hV_info h32) rfl ⟨rfl, hb1'.trans (hb2 _ (Nat.le_refl _))⟩

set_option maxHeartbeats 400000 in
theorem leaves1_any (c : Int) (w : World) : Calls Tryd.prog 86 #[.int .i64 c] w fun e w' => e = .returned (.int .i64 ((15 : Nat) : Int)) ∧ Below w.heap.size w w' := by
  go_enter Tryd.func86, Tryd.ntmps86
  go_wp2_with fail
  go_ret
  exact ⟨rfl, Below.refl _ _⟩
set_option maxHeartbeats 400000 in
theorem sign1_any (h : ByteArray) (c bd : Nat) (w : World) (hc : c < 67) (hr : w.rangeAt bd 0 (digV h)) : Calls Tryd.prog 72 #[.int .i64 c, .pointer (some ⟨bd, 0, none⟩)] w fun e w' => e = .returned (.int .i64 ((dig h c : Nat) : Int)) ∧ Below w.heap.size w w' := by
  have cc : w.cell? ⟨bd, c, none⟩ = some (.int .i64 ((dig h c : Nat) : Int)) := by have := hr c _ (digV_get h c hc); rwa [Nat.zero_add] at this
  have c1 : (c : Int) < 67 := by omega
  generalize dig h c = d at *
  clear hr
  go_enter Tryd.func72, Tryd.ntmps72
  go_wp2_with fail
  go_ret
  exact ⟨rfl, Below.refl _ _⟩
set_option maxHeartbeats 400000 in
theorem finish2_any (h : ByteArray) (c bd : Nat) (w : World) (hc : c < 67) (hr : w.rangeAt bd 0 (digV h)) : Calls Tryd.prog 89 #[.int .i64 c, .pointer (some ⟨bd, 0, none⟩)] w fun e w' => e = .returned (.int .i64 ((15 - dig h c : Nat) : Int)) ∧ Below w.heap.size w w' := by
  have cc : w.cell? ⟨bd, c, none⟩ = some (.int .i64 ((dig h c : Nat) : Int)) := by have := hr c _ (digV_get h c hc); rwa [Nat.zero_add] at this
  have c1 : (c : Int) < 67 := by omega
  have d15 := dig_le h c
  generalize dig h c = d at *
  clear hr
  go_enter Tryd.func89, Tryd.ntmps89
  go_wp2_with fail
  go_ret
  refine ⟨?_, Below.refl _ _⟩
  show Ending.returned (Value.int .i64 (15 - (d : Int))) = _
  congr 2; omega

set_option maxHeartbeats 400000 in
theorem beginnings_any (seed : ByteArray) (k : Int) (w : World) : Calls Tryd.prog 71 #[.string seed, .int .i64 k] w fun e w' => e = .returned (.func (.func 87) #[] #[.pointer (some ⟨w.heap.size, 0, none⟩), .pointer (some ⟨w.heap.size + 1, 0, none⟩)]) ∧ w'.cell? ⟨w.heap.size, 0, none⟩ = some (.string seed) ∧ w'.cell? ⟨w.heap.size + 1, 0, none⟩ = some (.int .i64 k) ∧ Below w.heap.size w w' := by
  have hmf : ∀ (fn : Fn) (first cap : Array Value) (w : World), (Instr.makeFunc fn first cap).run Tryd.prog w = .ok (.func fn first cap) w := fun _ _ _ _ => rfl
  have hb : Below w.heap.size w ((w.alloc (.cells #[.string seed] 9)).alloc (.cells #[.int .i64 k] 3)) := ((Below.refl _ _).alloc (Nat.le_refl _) _).alloc (by simp) _
  go_enter Tryd.func71, Tryd.ntmps71
  go_wp2_with fail
  go_ret
  refine ⟨rfl, ?_, ?_, hb⟩
  · rw [World.cell?_alloc_past _ _ _ (by simp), World.cell?_alloc_at _ _ _ _ rfl]; rfl
  · rw [World.cell?_alloc_at _ _ _ _ (by simp)]; rfl

set_option maxHeartbeats 400000 in
theorem keyCount_any (h : Nat) (w : World) (hh : h ≤ 8) : Calls Tryd.prog 75 #[.int .i64 h] w fun e w' => e = .returned (.int .i64 ((2 ^ h : Nat) : Int)) ∧ w' = w := by
  obtain rfl | rfl | rfl | rfl | rfl | rfl | rfl | rfl | rfl : h = 0 ∨ h = 1 ∨ h = 2 ∨ h = 3 ∨ h = 4 ∨ h = 5 ∨ h = 6 ∨ h = 7 ∨ h = 8 := by omega
  all_goals
    go_enter Tryd.func75, Tryd.ntmps75
    go_wp2_with fail
    go_ret
    exact ⟨rfl, rfl⟩
set_option maxHeartbeats 400000 in
theorem size_any' (h : Nat) (w : World) (hh : h ≤ 8) : Calls Tryd.prog 73 #[.int .i64 h] w fun e w' => e = .returned (.int .i64 ((2145 + 32 * h : Nat) : Int)) ∧ w' = w := by
  go_enter Tryd.func73, Tryd.ntmps73
  go_wp2_with fail
  go_ret
  refine ⟨?_, rfl⟩
  show Ending.returned (Value.int .i64 (2145 + (h : Int) * 32)) = _
  congr 2; omega
end Go.Proofs.YteebdadnfaekmaaDoor
