import Derived.Test.YteebdadnfaekmaaDoorWLeaf
import Derived.Test.YteebdadnfaekmaaDoorMTree
import Derived.Lib.BitFns
import Derived.Lib.Walk
import Derived.Lib.ItoaNum
set_option linter.unusedVariables false
set_option linter.unusedSimpArgs false
namespace Go.Proofs.YteebdadnfaekmaaDoor
open Go.RowKit

set_option maxRecDepth 100000 in
theorem tab_size : (Lib.len8tab.size : Int) = 256 := by
  have : Lib.len8tab.size = 256 := by decide
  omega
theorem tab_get (y : Int) (h : y.toNat < Lib.len8tab.size) (h0 : 0 ≤ y) (h1 : y ≤ 255) : ((Lib.len8tab[y.toNat]'h).toNat : Int) = (Lib.bitLen y.toNat : Int) := by
  rw [← Lib.len8_of y h0 h1]
  unfold Lib.len8
  rw [getElem?_pos Lib.len8tab y.toNat h]
  rfl
theorem tab_sum (k a b : Nat) (hk : k ≤ 56) (ha : a ≤ 8) (hb : b = k + a) : wrap64 ((k : Int) + wrap64 (a : Int)) = (b : Int) := by
  rw [IntWalk.wrap64_in (a : Int) ⟨by omega, by omega⟩, IntWalk.wrap64_in _ ⟨by omega, by omega⟩]; omega

set_option maxRecDepth 100000 in
set_option maxHeartbeats 4000000 in
theorem len64_any (x : Int) (w : World) (h0 : 0 ≤ x) (h1 : x ≤ 4294967295) :
    Calls Tryd.prog 92 #[.int .u64 x] w fun e w' => e = .returned (.int .i64 (Lib.bitLen x.toNat)) ∧ w' = w := by
  have hx : ¬ (4294967296 : Int) ≤ x := by omega
  go_enter Tryd.func92, Tryd.ntmps92
  go_wp2
  all_goals first
    | (go_ret; refine ⟨congrArg Ending.returned (congrArg (Value.int IntKind.i64) ?_), rfl⟩)
    | (exfalso
       have hs := tab_size
       omega)
  all_goals first
    | (rw [tab_get (x / 65536 / 256) _ (by omega) (by omega)]
       have e : (x / 65536 / 256).toNat = x.toNat / 16777216 := by omega
       have l := Lib.bitLen_le8' (x / 65536 / 256) (by omega) (by omega)
       have s := Lib.bitLen_shift24 x.toNat (by omega) (by omega)
       rw [e] at l ⊢
       exact tab_sum 24 _ _ (by omega) l s)
    | (rw [tab_get (x / 65536) _ (by omega) (by omega)]
       have e : (x / 65536).toNat = x.toNat / 65536 := by omega
       have l := Lib.bitLen_le8' (x / 65536) (by omega) (by omega)
       have s := Lib.bitLen_shift16 x.toNat (by omega) (by omega)
       rw [e] at l ⊢
       exact tab_sum 16 _ _ (by omega) l s)
    | (rw [tab_get (x / 256) _ (by omega) (by omega)]
       have e : (x / 256).toNat = x.toNat / 256 := by omega
       have l := Lib.bitLen_le8' (x / 256) (by omega) (by omega)
       have s := Lib.bitLen_shift8 x.toNat (by omega) (by omega)
       rw [e] at l ⊢
       exact tab_sum 8 _ _ (by omega) l s)
    | (rw [tab_get x _ (by omega) (by omega)]
       have l := Lib.bitLen_le8' x (by omega) (by omega)
       have e := IntWalk.wrap64_in (Lib.bitLen x.toNat : Int) ⟨by omega, by omega⟩
       rw [e, e])

theorem bitLen_log (m : Nat) (h0 : m ≠ 0) (h : m < 4294967296) : Lib.bitLen m = Nat.log2 m + 1 := by
  obtain ⟨a, b, c⟩ := Lib.bitLenAux_bounds 64 m (by omega) h0
  have e : Nat.log2 m = Lib.bitLenAux 64 m - 1 := by
    have h1 : 2 ^ Nat.log2 m ≤ m := Nat.log2_self_le h0
    have h2 : m < 2 ^ (Nat.log2 m + 1) := Nat.lt_log2_self
    have h3 : Nat.log2 m < Lib.bitLenAux 64 m := (Nat.pow_lt_pow_iff_right (by omega)).1 (Nat.lt_of_le_of_lt h1 c)
    have h4 : Lib.bitLenAux 64 m - 1 < Nat.log2 m + 1 := (Nat.pow_lt_pow_iff_right (by omega)).1 (Nat.lt_of_le_of_lt b h2)
    omega
  unfold Lib.bitLen
  omega

set_option maxRecDepth 10000 in
set_option maxHeartbeats 400000 in
theorem len_any (x : Int) (w : World) (h0 : 0 ≤ x) (h1 : x ≤ 4294967295) :
    Calls Tryd.prog 84 #[.int .u64 x] w fun e w' => e = .returned (.int .i64 (Lib.bitLen x.toNat)) ∧ w' = w := by
  have hL := fun w => len64_any x w h0 h1
  generalize Lib.bitLen x.toNat = k at *
  go_enter Tryd.func84, Tryd.ntmps84
  go_wp2_with (go_at_call 92; refine (hL _).mono ?_; rintro e w' ⟨rfl, rfl⟩)
  go_ret
  exact ⟨rfl, rfl⟩

set_option maxRecDepth 10000 in
set_option maxHeartbeats 400000 in
theorem split_any (n : Nat) (w : World) (h0 : 2 ≤ n) (h1 : n ≤ 2147483647) :
    Calls Tryd.prog 58 #[.int .i64 n] w fun e w' => e = .returned (.int .i64 (halfN n)) ∧ w' = w := by
  have hb := bitLen_log (n - 1) (by omega) (by omega)
  have hl : Nat.log2 (n - 1) ≤ 30 := by
    have h3 : 2 ^ Nat.log2 (n - 1) ≤ n - 1 := Nat.log2_self_le (by omega)
    have h4 : 2 ^ Nat.log2 (n - 1) < 2 ^ 31 := by omega
    have := (Nat.pow_lt_pow_iff_right (a := 2) (by omega)).1 h4
    omega
  have e : ((n : Int) - 1).toNat = n - 1 := by omega
  have hL := len_any ((n : Int) - 1)
  rw [e, hb] at hL
  have hk : (halfN n : Int) = 2 ^ Nat.log2 (n - 1) := by unfold halfN; simp
  have hkb : halfN n < 2147483648 := by have := halfN_lt h0; omega
  generalize Nat.log2 (n - 1) = k at *
  have hL2 : ∀ w, Calls Tryd.prog 84 #[.int .u64 ((n : Int) - 1)] w fun e w' => e = .returned (.int .i64 ((k + 1 : Nat) : Int)) ∧ w' = w := fun w => hL w (by omega) (by omega)
  have HK : Hid ((halfN n : Int) = 2 ^ k) := hk
  clear hL hk hb e
  go_enter Tryd.func58, Tryd.ntmps58
  go_wp2_with (go_at_call 84; refine (hL2 _).mono ?_; rintro e w' ⟨rfl, rfl⟩)
  go_ret
  refine ⟨ret_int ?_, rfl⟩
  rw [← HK.out]
  exact IntWalk.wrap64_in _ ⟨by omega, by omega⟩
end Go.Proofs.YteebdadnfaekmaaDoor
