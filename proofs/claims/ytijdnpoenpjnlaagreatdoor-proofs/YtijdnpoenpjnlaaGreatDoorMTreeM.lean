import Derived.Test.YtijdnpoenpjnlaaGreatDoorSpec
import Derived.Test.YtijdnpoenpjnlaaGreatDoorWLeaf
import Derived.Lib.BitFns
import Derived.Lib.Walk
import Derived.Lib.ItoaNum
import Derived.Test.YtijdnpoenpjnlaaGreatDoorWCoded
import Derived.Deep.AppendLies
set_option linter.unusedVariables false
set_option linter.unusedSimpArgs false
namespace Go.Proofs.YtijdnpoenpjnlaaGreatDoor

/-- The greatest power of 2 below n. -/
def halfN (n : Nat) : Nat := 2 ^ Nat.log2 (n - 1)
theorem halfN_lt {n : Nat} (h : 2 ≤ n) : halfN n < n := by
  have h1 : n - 1 ≠ 0 := by omega
  have := Nat.log2_self_le h1
  unfold halfN; omega
theorem halfN_pos (n : Nat) : 0 < halfN n := Nat.pow_pos (by omega)
theorem halfN_two {n : Nat} (h : 2 ≤ n) : n ≤ 2 * halfN n := by
  have h2 : n - 1 < 2 ^ (Nat.log2 (n - 1) + 1) := Nat.lt_log2_self
  rw [Nat.pow_succ] at h2
  unfold halfN; omega

def m0 : ByteArray := ⟨#[0]⟩
def m1 : ByteArray := ⟨#[1]⟩

def rootF (H : ByteArray → ByteArray) : List ByteArray → ByteArray
  | [] => H ⟨#[]⟩
  | [x] => H (m0 ++ x)
  | a :: b :: r => H (m1 ++ rootF H ((a :: b :: r).take (halfN (r.length + 2))) ++ rootF H ((a :: b :: r).drop (halfN (r.length + 2))))
  termination_by l => l.length
  decreasing_by
    · have := halfN_lt (n := r.length + 2) (by omega); simp; omega
    · have := halfN_pos (r.length + 2); simp; omega
theorem rootF_more (H : ByteArray → ByteArray) {l : List ByteArray} (h : 2 ≤ l.length) : rootF H l = H (m1 ++ rootF H (l.take (halfN l.length)) ++ rootF H (l.drop (halfN l.length))) := by
  match l, h with
  | a :: b :: r, _ => rw [rootF]; rfl
theorem rootF_size (H : ByteArray → ByteArray) (hH : ∀ s, (H s).size = 32) (l : List ByteArray) : (rootF H l).size = 32 := by
  match l with
  | [] => rw [rootF]; exact hH _
  | [x] => rw [rootF]; exact hH _
  | a :: b :: r => rw [rootF]; exact hH _

def inclF (H : ByteArray → ByteArray) (l : List ByteArray) (i : Nat) : List ByteArray :=
  if h : l.length < 2 then [] else
    if i < halfN l.length then inclF H (l.take (halfN l.length)) i ++ [rootF H (l.drop (halfN l.length))]
    else inclF H (l.drop (halfN l.length)) (i - halfN l.length) ++ [rootF H (l.take (halfN l.length))]
  termination_by l.length
  decreasing_by
    · have := halfN_lt (n := l.length) (by omega); simp; omega
    · have := halfN_pos l.length; simp; omega
theorem inclF_one (H : ByteArray → ByteArray) {l : List ByteArray} {i : Nat} (h : l.length < 2) : inclF H l i = [] := by rw [inclF, dif_pos h]
theorem inclF_left (H : ByteArray → ByteArray) {l : List ByteArray} {i : Nat} (h : 2 ≤ l.length) (hi : i < halfN l.length) : inclF H l i = inclF H (l.take (halfN l.length)) i ++ [rootF H (l.drop (halfN l.length))] := by
  rw [inclF, dif_neg (by omega), if_pos hi]
theorem inclF_right (H : ByteArray → ByteArray) {l : List ByteArray} {i : Nat} (h : 2 ≤ l.length) (hi : ¬ i < halfN l.length) : inclF H l i = inclF H (l.drop (halfN l.length)) (i - halfN l.length) ++ [rootF H (l.take (halfN l.length))] := by
  rw [inclF, dif_neg (by omega), if_neg hi]

/-- What a proof makes of a leaf, and if it has the hashes that it needs. -/
def climbF (H : ByteArray → ByteArray) (leaf : ByteArray) (i n : Nat) (pf : List ByteArray) : ByteArray × Bool :=
  if n = 1 then (H (m0 ++ leaf), pf.isEmpty) else
  match h : pf.getLast? with
  | none => (strOfNums (List.replicate 32 0), false)
  | some b => if b.size = 32 then
      (if i < halfN n then (H (m1 ++ (climbF H leaf i (halfN n) pf.dropLast).1 ++ b), (climbF H leaf i (halfN n) pf.dropLast).2)
       else (H (m1 ++ b ++ (climbF H leaf (i - halfN n) (n - halfN n) pf.dropLast).1), (climbF H leaf (i - halfN n) (n - halfN n) pf.dropLast).2))
      else (strOfNums (List.replicate 32 0), false)
  termination_by pf.length
  decreasing_by all_goals (have : pf ≠ [] := by intro e; rw [e] at h; simp at h) <;> (have := List.length_pos_iff.2 this) <;> simp <;> omega
theorem climbF_one (H : ByteArray → ByteArray) (leaf : ByteArray) (i : Nat) (pf : List ByteArray) : climbF H leaf i 1 pf = (H (m0 ++ leaf), pf.isEmpty) := by rw [climbF, if_pos rfl]
theorem climbF_none (H : ByteArray → ByteArray) (leaf : ByteArray) (i n : Nat) (hn : n ≠ 1) : climbF H leaf i n [] = (strOfNums (List.replicate 32 0), false) := by rw [climbF, if_neg hn]; rfl
theorem climbF_bad (H : ByteArray → ByteArray) (leaf : ByteArray) (i n : Nat) (hn : n ≠ 1) (pf : List ByteArray) (b : ByteArray) (hb : b.size ≠ 32) : climbF H leaf i n (pf ++ [b]) = (strOfNums (List.replicate 32 0), false) := by
  rw [climbF, if_neg hn]
  split
  · rfl
  · rename_i b' h
    rw [List.getLast?_concat] at h
    obtain rfl := Option.some.inj h
    rw [if_neg hb]
theorem climbF_left (H : ByteArray → ByteArray) (leaf : ByteArray) (i n : Nat) (hn : n ≠ 1) (pf : List ByteArray) (b : ByteArray) (hb : b.size = 32) (hi : i < halfN n) :
    climbF H leaf i n (pf ++ [b]) = (H (m1 ++ (climbF H leaf i (halfN n) pf).1 ++ b), (climbF H leaf i (halfN n) pf).2) := by
  rw [climbF, if_neg hn]
  split
  · rename_i h; rw [List.getLast?_concat] at h; cases h
  · rename_i b' h
    rw [List.getLast?_concat] at h
    obtain rfl := Option.some.inj h
    rw [if_pos hb, if_pos hi, List.dropLast_concat]
theorem climbF_right (H : ByteArray → ByteArray) (leaf : ByteArray) (i n : Nat) (hn : n ≠ 1) (pf : List ByteArray) (b : ByteArray) (hb : b.size = 32) (hi : ¬ i < halfN n) :
    climbF H leaf i n (pf ++ [b]) = (H (m1 ++ b ++ (climbF H leaf (i - halfN n) (n - halfN n) pf).1), (climbF H leaf (i - halfN n) (n - halfN n) pf).2) := by
  rw [climbF, if_neg hn]
  split
  · rename_i h; rw [List.getLast?_concat] at h; cases h
  · rename_i b' h
    rw [List.getLast?_concat] at h
    obtain rfl := Option.some.inj h
    rw [if_pos hb, if_neg hi, List.dropLast_concat]
theorem climbF_size (H : ByteArray → ByteArray) (hH : ∀ s, (H s).size = 32) (leaf : ByteArray) (i n : Nat) (pf : List ByteArray) : (climbF H leaf i n pf).1.size = 32 := by
  rw [climbF]
  split
  · exact hH _
  · split
    · rfl
    · split
      · split <;> exact hH _
      · rfl
theorem three_inj {a b c d : ByteArray} (m : ByteArray) (hs : a.size = c.size) (h : m ++ a ++ b = m ++ c ++ d) : a = c ∧ b = d := by
  have e := congrArg (fun x : ByteArray => x.data.toList) h
  simp only [ByteArray.data_append, Array.toList_append, List.append_assoc] at e
  have e1 := List.append_cancel_left e
  have hl : a.data.toList.length = c.data.toList.length := by
    have h1 : a.data.size = c.data.size := hs
    simpa using h1
  obtain ⟨h1, h2⟩ := List.append_inj e1 hl
  exact ⟨ByteArray.ext (Array.toList_inj.1 h1), ByteArray.ext (Array.toList_inj.1 h2)⟩
theorem two_inj {a c : ByteArray} (m : ByteArray) (h : m ++ a = m ++ c) : a = c := by
  have e := congrArg (fun x : ByteArray => x.data.toList) h
  simp only [ByteArray.data_append, Array.toList_append] at e
  exact ByteArray.ext (Array.toList_inj.1 (List.append_cancel_left e))
theorem halfN_unique {n j : Nat} (h1 : 2 ^ j < n) (h2 : n ≤ 2 * 2 ^ j) : 2 ^ j = halfN n := by
  have : Nat.log2 (n - 1) = j := by
    rw [Nat.log2_eq_iff (by have := Nat.pos_of_ne_zero (show 2 ^ j ≠ 0 from Nat.pos_iff_ne_zero.1 (Nat.pow_pos (by omega))); omega)]
    exact ⟨by omega, by rw [Nat.pow_succ]; omega⟩
  unfold halfN; rw [this]
theorem m0_size : m0.size = 1 := rfl
theorem m1_size : m1.size = 1 := rfl
/-- The texts that are hashed for a root. -/
def rootT (H : ByteArray → ByteArray) (l : List ByteArray) : List ByteArray :=
  if h : l.length < 2 then (match l with | [] => [⟨#[]⟩] | x :: _ => [m0 ++ x]) else
    rootT H (l.take (halfN l.length)) ++ rootT H (l.drop (halfN l.length)) ++ [m1 ++ rootF H (l.take (halfN l.length)) ++ rootF H (l.drop (halfN l.length))]
  termination_by l.length
  decreasing_by
    · have := halfN_lt (n := l.length) (by omega); simp; omega
    · have := halfN_pos l.length; simp; omega
theorem rootT_one (H : ByteArray → ByteArray) (x : ByteArray) : rootT H [x] = [m0 ++ x] := by rw [rootT, dif_pos (by simp)]
theorem rootT_more (H : ByteArray → ByteArray) {l : List ByteArray} (h : 2 ≤ l.length) : rootT H l = rootT H (l.take (halfN l.length)) ++ rootT H (l.drop (halfN l.length)) ++ [m1 ++ rootF H (l.take (halfN l.length)) ++ rootF H (l.drop (halfN l.length))] := by
  rw [rootT, dif_neg (by omega)]
theorem rootT_len (H : ByteArray → ByteArray) : ∀ (n : Nat) (ls : List ByteArray), ls.length = n → 0 < n → (rootT H ls).length + 1 = 2 * n := by
  intro n
  induction n using Nat.strongRecOn with
  | _ n ih =>
  intro ls hn h0
  by_cases h2 : 2 ≤ ls.length
  · have hk0 := halfN_pos ls.length
    have hk1 := halfN_lt h2
    rw [rootT_more H h2]
    have a := ih (halfN ls.length) (by omega) (ls.take (halfN ls.length)) (by simp; omega) hk0
    have b := ih (ls.length - halfN ls.length) (by omega) (ls.drop (halfN ls.length)) (by simp) (by omega)
    simp; omega
  · obtain ⟨s, rfl⟩ : ∃ s, ls = [s] := List.length_eq_one_iff.1 (by omega)
    rw [rootT_one]; simp at hn; subst hn; rfl
end Go.Proofs.YtijdnpoenpjnlaaGreatDoor
set_option linter.unusedVariables false
set_option linter.unusedSimpArgs false
namespace Go.Proofs.YtijdnpoenpjnlaaGreatDoor
open Go.RowKit

set_option maxRecDepth 100000 in
theorem tab_size : (Lib.len8tab.size : Int) = 256 := by
  have : Lib.len8tab.size = 256 := by decide
  omega
theorem tab_get (y : Int) (h : y.toNat < Lib.len8tab.size) (h0 : 0 ≤ y) (h1 : y ≤ 255) : ((Lib.len8tab[y.toNat]'h).toNat : Int) = (Lib.bitLen y.toNat : Int) := by
  rw [← Lib.len8_of y h0 h1]
  unfold Lib.len8
  rw [getElem?_pos Lib.len8tab y.toNat h]
  rfl
theorem tab_sum (k a b : Nat) (hk : k ≤ 56) (ha : a ≤ 8) (hb : b = k + a) : wrap64 ((k : Int) + wrap64 (a : Int)) = (b : Int) := by
  rw [IntWalk.wrap64_in (a : Int) ⟨by omega, by omega⟩, IntWalk.wrap64_in _ ⟨by omega, by omega⟩]; omega

set_option maxRecDepth 100000 in
set_option maxHeartbeats 4000000 in
theorem len64_any (x : Int) (w : World) (h0 : 0 ≤ x) (h1 : x ≤ 4294967295) :
    Calls Tryz.prog 255 #[.int .u64 x] w fun e w' => e = .returned (.int .i64 (Lib.bitLen x.toNat)) ∧ w' = w := by
  have hx : ¬ (4294967296 : Int) ≤ x := by omega
  go_enter Tryz.func255, Tryz.ntmps255
  go_wp2
  all_goals first
    | (go_ret; refine ⟨congrArg Ending.returned (congrArg (Value.int IntKind.i64) ?_), rfl⟩)
    | (exfalso
       have hs := tab_size
       omega)
  all_goals first
    | (rw [tab_get (x / 65536 / 256) _ (by omega) (by omega)]
       have e : (x / 65536 / 256).toNat = x.toNat / 16777216 := by omega
       have l := Lib.bitLen_le8' (x / 65536 / 256) (by omega) (by omega)
       have s := Lib.bitLen_shift24 x.toNat (by omega) (by omega)
       rw [e] at l ⊢
       exact tab_sum 24 _ _ (by omega) l s)
    | (rw [tab_get (x / 65536) _ (by omega) (by omega)]
       have e : (x / 65536).toNat = x.toNat / 65536 := by omega
       have l := Lib.bitLen_le8' (x / 65536) (by omega) (by omega)
       have s := Lib.bitLen_shift16 x.toNat (by omega) (by omega)
       rw [e] at l ⊢
       exact tab_sum 16 _ _ (by omega) l s)
    | (rw [tab_get (x / 256) _ (by omega) (by omega)]
       have e : (x / 256).toNat = x.toNat / 256 := by omega
       have l := Lib.bitLen_le8' (x / 256) (by omega) (by omega)
       have s := Lib.bitLen_shift8 x.toNat (by omega) (by omega)
       rw [e] at l ⊢
       exact tab_sum 8 _ _ (by omega) l s)
    | (rw [tab_get x _ (by omega) (by omega)]
       have l := Lib.bitLen_le8' x (by omega) (by omega)
       have e := IntWalk.wrap64_in (Lib.bitLen x.toNat : Int) ⟨by omega, by omega⟩
       rw [e, e])

theorem bitLen_log (m : Nat) (h0 : m ≠ 0) (h : m < 4294967296) : Lib.bitLen m = Nat.log2 m + 1 := by
  obtain ⟨a, b, c⟩ := Lib.bitLenAux_bounds 64 m (by omega) h0
  have e : Nat.log2 m = Lib.bitLenAux 64 m - 1 := by
    have h1 : 2 ^ Nat.log2 m ≤ m := Nat.log2_self_le h0
    have h2 : m < 2 ^ (Nat.log2 m + 1) := Nat.lt_log2_self
    have h3 : Nat.log2 m < Lib.bitLenAux 64 m := (Nat.pow_lt_pow_iff_right (by omega)).1 (Nat.lt_of_le_of_lt h1 c)
    have h4 : Lib.bitLenAux 64 m - 1 < Nat.log2 m + 1 := (Nat.pow_lt_pow_iff_right (by omega)).1 (Nat.lt_of_le_of_lt b h2)
    omega
  unfold Lib.bitLen
  omega

set_option maxRecDepth 10000 in
set_option maxHeartbeats 400000 in
theorem len_any (x : Int) (w : World) (h0 : 0 ≤ x) (h1 : x ≤ 4294967295) :
    Calls Tryz.prog 213 #[.int .u64 x] w fun e w' => e = .returned (.int .i64 (Lib.bitLen x.toNat)) ∧ w' = w := by
  have hL := fun w => len64_any x w h0 h1
  generalize Lib.bitLen x.toNat = k at *
  go_enter Tryz.func213, Tryz.ntmps213
  go_wp2_with (go_at_call 255; refine (hL _).mono ?_; rintro e w' ⟨rfl, rfl⟩)
  go_ret
  exact ⟨rfl, rfl⟩

set_option maxRecDepth 10000 in
set_option maxHeartbeats 400000 in
theorem split_any (n : Nat) (w : World) (h0 : 2 ≤ n) (h1 : n ≤ 2147483647) :
    Calls Tryz.prog 163 #[.int .i64 n] w fun e w' => e = .returned (.int .i64 (halfN n)) ∧ w' = w := by
  have hb := bitLen_log (n - 1) (by omega) (by omega)
  have hl : Nat.log2 (n - 1) ≤ 30 := by
    have h3 : 2 ^ Nat.log2 (n - 1) ≤ n - 1 := Nat.log2_self_le (by omega)
    have h4 : 2 ^ Nat.log2 (n - 1) < 2 ^ 31 := by omega
    have := (Nat.pow_lt_pow_iff_right (a := 2) (by omega)).1 h4
    omega
  have e : ((n : Int) - 1).toNat = n - 1 := by omega
  have hL := len_any ((n : Int) - 1)
  rw [e, hb] at hL
  have hk : (halfN n : Int) = 2 ^ Nat.log2 (n - 1) := by unfold halfN; simp
  have hkb : halfN n < 2147483648 := by have := halfN_lt h0; omega
  generalize Nat.log2 (n - 1) = k at *
  have hL2 : ∀ w, Calls Tryz.prog 213 #[.int .u64 ((n : Int) - 1)] w fun e w' => e = .returned (.int .i64 ((k + 1 : Nat) : Int)) ∧ w' = w := fun w => hL w (by omega) (by omega)
  have HK : Hid ((halfN n : Int) = 2 ^ k) := hk
  clear hL hk hb e
  go_enter Tryz.func163, Tryz.ntmps163
  go_wp2_with (go_at_call 213; refine (hL2 _).mono ?_; rintro e w' ⟨rfl, rfl⟩)
  go_ret
  refine ⟨ret_int ?_, rfl⟩
  rw [← HK.out]
  exact IntWalk.wrap64_in _ ⟨by omega, by omega⟩
end Go.Proofs.YtijdnpoenpjnlaaGreatDoor
set_option linter.unusedVariables false
set_option linter.unusedSimpArgs false
namespace Go.Proofs.YtijdnpoenpjnlaaGreatDoor
open Go.RowKit



set_option maxRecDepth 10000 in
set_option maxHeartbeats 1000000 in
theorem rone_any (s : ByteArray) (K : Nat → Int) (w : World) (hs : s.size ≤ 140737488355000) (T : Tab K w) :
    Calls Tryz.prog 162 #[.string s] w fun e w' => e = .returned (.agg (hV (sumOf K (m0 ++ s))).toArray) ∧ Below w.heap.size w w' := by
  have hb0 : Below w.heap.size w ((w.alloc (.cells z32.toArray 90)).alloc (.cells #[.string ⟨#[0]⟩, .string s] 9)) := ((Below.refl _ _).alloc (Nat.le_refl _) _).alloc (by simp) _
  have T0 := T.below hb0
  have hof := of_any [m0, s] (w.heap.size + 1) 2 K ((w.alloc (.cells z32.toArray 90)).alloc (.cells #[.string ⟨#[0]⟩, .string s] 9)) (by simp) (by simp)
    (by simp [joinN, numsOf_length, m0, numsOf]; omega)
    (fun j hj => by
      rw [World.cell?_alloc_at _ _ _ _ (by simp)]
      have hj2 : j < 2 := hj
      obtain rfl | rfl : j = 0 ∨ j = 1 := by omega
      all_goals rfl) T0.lt T0.cells
  rw [hV_sum K (joinN [m0, s]) (m0 ++ s) (by rw [nums_app]; simp [joinN])] at hof
  rw [show [m0, s].length = 2 from rfl] at hof
  have h32 := sumOf_size K (m0 ++ s)
  generalize sumOf K (m0 ++ s) = h at *
  clear T0 T
  go_enter Tryz.func162, Tryz.ntmps162
  go_wp2_with (first | (refine wpList_alloc_of rfl 90 rfl z32.toArray alloc_32 ?_))
  refine hof.mono ?_
  rintro e w1 ⟨rfl, hb1⟩
  have hb1' : Below w.heap.size w w1 := hb0.trans (hb1.mono (by simp; omega))
  have ht : w1.there w.heap.size 0 (hV h).length := by
    rw [hV_len h32]
    exact there_below (hb1.mono (B' := w.heap.size + 1) (by simp)) (Nat.lt_succ_self _) (there_below ((Below.refl _ _).alloc (by simp) _) (Nat.lt_succ_self _) (there_z32 w))
  clear hof hb1
  go_wp2_with (refine wpList_store_abs rfl 90 _ _ rfl w.heap.size 0 (hV h) rfl rfl ht (hV_info h32) (hV_one h) ?_; intro w2 _hw2 hr2 _ht2 hb2; clear _hw2 _ht2)
  exact ret_cell rfl w.heap.size 0 (hV h) _ rfl hr2 Tryz.underlying90 rfl (hV_info h32) rfl ⟨rfl, hb1'.trans (hb2 _ (Nat.le_refl _))⟩
end Go.Proofs.YtijdnpoenpjnlaaGreatDoor
set_option linter.unusedVariables false
set_option linter.unusedSimpArgs false
namespace Go.Proofs.YtijdnpoenpjnlaaGreatDoor
open Go.RowKit

/-- Between the two boxes of join's arguments and its result's: what may turn. -/
structure JS (n : Nat) (wB w' : World) : Prop where
  b : Below (n + 2) wB w'
  t : w'.there (n + 2) 0 32
  z : n + 3 ≤ w'.heap.size
theorem JS.step {n : Nat} {wB w' w'' : World} (h : JS n wB w') (hb : Below w'.heap.size w' w'') : JS n wB w'' :=
  ⟨h.b.trans (hb.mono (by have := h.z; omega)), there_below hb (by have := h.z; omega) h.t, Nat.le_trans h.z hb.size⟩
theorem JS.store {n : Nat} {wB w' : World} (h : JS n wB w') (cs : List Value) : JS n wB (w'.setCells (n + 2) 0 cs) :=
  ⟨below_setCells (Nat.le_refl _) _ _ _ h.b, World.there_setCells h.t _ _ _, by rw [size_setCells]; exact h.z⟩

set_option maxRecDepth 10000 in
set_option maxHeartbeats 2000000 in
theorem join_any (l r : ByteArray) (K : Nat → Int) (w : World) (hl : l.size = 32) (hr : r.size = 32) (T : Tab K w) :
    Calls Tryz.prog 164 #[.agg (hV l).toArray, .agg (hV r).toArray] w fun e w' => e = .returned (.agg (hV (sumOf K (m1 ++ l ++ r))).toArray) ∧ Below w.heap.size w w' := by
  obtain ⟨wB, hwB⟩ : ∃ wB, wB = ((w.alloc (.cells (hV l).toArray 90)).alloc (.cells (hV r).toArray 90)).alloc (.cells z32.toArray 90) := ⟨_, rfl⟩
  have hbB : Below w.heap.size w wB := by rw [hwB]; exact (((Below.refl _ _).alloc (Nat.le_refl _) _).alloc (by simp) _).alloc (by simp; omega) _
  have hzB : wB.heap.size = w.heap.size + 3 := by rw [hwB]; simp
  have hrl : wB.rangeAt w.heap.size 0 (hV l) := by
    rw [hwB]; exact World.rangeAt_alloc (World.rangeAt_alloc (range_new w (hV l) 90) _) _
  have hrr : wB.rangeAt (w.heap.size + 1) 0 (hV r) := by
    rw [hwB]
    have := range_new (w.alloc (.cells (hV l).toArray 90)) (hV r) 90
    rw [show (w.alloc (.cells (hV l).toArray 90)).heap.size = w.heap.size + 1 by simp] at this
    exact World.rangeAt_alloc this _
  have htB : wB.there (w.heap.size + 2) 0 32 := by
    rw [hwB]
    have := there_z32 ((w.alloc (.cells (hV l).toArray 90)).alloc (.cells (hV r).toArray 90))
    simpa using this
  have J0 : JS w.heap.size wB wB.drew := ⟨(Below.refl _ _).drew, htB, by show _ ≤ wB.heap.size; omega⟩
  have htx : ∀ (s : ByteArray) (e : s.size = 32) (w1 : World), Calls Tryz.prog 55 #[.agg (hV s).toArray] w1 fun e w' => e = .returned (.string s) ∧ Below w1.heap.size w1 w' := fun s e w1 => by
    have := htext_any (numsOf s) w1 (by rw [numsOf_length, e])
    rw [str_nums] at this
    exact this
  have htx_l := htx l hl
  have htx_r := htx r hr
  have hof : ∀ w2, JS w.heap.size wB w2 → Calls Tryz.prog 54 #[.slice (some ⟨w2.heap.size, 0, none⟩) 3 3] (w2.alloc (.cells #[.string ⟨#[1]⟩, .string l, .string r] 9)) fun e w' => e = .returned (.agg (hV (sumOf K (m1 ++ l ++ r))).toArray) ∧ Below (w2.alloc (.cells #[.string ⟨#[1]⟩, .string l, .string r] 9)).heap.size (w2.alloc (.cells #[.string ⟨#[1]⟩, .string l, .string r] 9)) w' := fun w2 J => by
    have hT2 : Tab K w2 := ⟨by have := T.lt; have := J.z; omega, fun j hj => (J.b.cell (p := ⟨0, j, none⟩) (by have := T.lt; show 0 < _; omega)).trans ((hbB.cell (p := ⟨0, j, none⟩) T.lt).trans (T.cells j hj))⟩
    have T3 := hT2.below ((Below.refl _ w2).alloc (Nat.le_refl _) (.cells #[.string ⟨#[1]⟩, .string l, .string r] 9))
    have := of_any [m1, l, r] w2.heap.size 3 K (w2.alloc (.cells #[.string ⟨#[1]⟩, .string l, .string r] 9)) (by simp) (by simp) (by simp [joinN, numsOf_length, hl, hr, m1, numsOf])
      (fun j hj => by
        rw [World.cell?_alloc_at _ _ _ _ rfl]
        have hj2 : j < 3 := hj
        obtain rfl | rfl | rfl : j = 0 ∨ j = 1 ∨ j = 2 := by omega
        all_goals rfl) T3.lt T3.cells
    rw [hV_sum K (joinN [m1, l, r]) (m1 ++ l ++ r) (by rw [nums_app, nums_app]; simp [joinN])] at this
    exact this
  have h32 := sumOf_size K (m1 ++ l ++ r)
  generalize sumOf K (m1 ++ l ++ r) = h at *
  have hinf := hV_info h32
  have hl32 := hV_len h32
  have hil := hV_info hl
  have hir := hV_info hr
  clear T htx
  go_enter Tryz.func164, Tryz.ntmps164
  go_wp2_with (first | (refine wpList_alloc_of rfl 90 rfl z32.toArray alloc_32 ?_))
  rw [← hwB]
  clear hwB
  refine wp_region_noPanic ?_
  refine wp_region_held_drew (S := JS w.heap.size wB) (by kernel_rfl) J0 (fun _ => ?_)
  refine wpAnyH_take (i := 0) (v := .agg (hV l).toArray) rfl (by kernel_rfl) (by kernel_rfl) (by kernel_rfl) (fun _ _ _ h => h) (yieldsIf_load_mid (by rfl) 90 (.tmp 2) rfl w.heap.size 0 rfl (hV l) _ (fun w' hw' j u hu => (hw'.b.cell (p := ⟨w.heap.size, 0 + j, none⟩) (by show w.heap.size < _; omega)).trans (hrl j u hu)) Tryz.underlying90 rfl hil) J0 ?_
  simp only [List.getElem_toArray, List.getElem_cons_zero, List.getElem_cons_succ, Act.put, List.setIfInBounds_toArray, List.set_cons_zero, List.set_cons_succ]
  refine wpAnyH_take (i := 2) (v := .agg (hV r).toArray) rfl (by kernel_rfl) (by kernel_rfl) (by kernel_rfl) (fun _ _ _ h => h) (yieldsIf_load_mid (by rfl) 90 (.tmp 3) rfl (w.heap.size + 1) 0 rfl (hV r) _ (fun w' hw' j u hu => (hw'.b.cell (p := ⟨w.heap.size + 1, 0 + j, none⟩) (by show w.heap.size + 1 < _; omega)).trans (hrr j u hu)) Tryz.underlying90 rfl hir) J0 ?_
  simp only [List.getElem_toArray, List.getElem_cons_zero, List.getElem_cons_succ, Act.put, List.setIfInBounds_toArray, List.set_cons_zero, List.set_cons_succ]
  refine wpAnyH_ready (rs := [1]) (by kernel_rfl) (by simp) ?_
  refine AllReadyH.cons rfl (fun K hK => ?_) AllReadyH.nil
  rw [if_pos (by rfl)]
  go_simp
  refine (htx_l _).mono ?_
  rintro e w1 ⟨rfl, hb⟩
  have J1 : JS w.heap.size wB w1 := J0.step hb
  refine hK.out _ _ J1 (fun _ => ?_)
  clear hK K hb
  try simp only [List.getElem_toArray, List.getElem_cons_zero, List.getElem_cons_succ, Act.put, List.setIfInBounds_toArray, List.set_cons_zero, List.set_cons_succ]
  refine wpAnyH_ready (rs := [3]) (by kernel_rfl) (by simp) ?_
  refine AllReadyH.cons rfl (fun K hK => ?_) AllReadyH.nil
  rw [if_pos (by rfl)]
  go_simp
  refine (htx_r _).mono ?_
  rintro e w2 ⟨rfl, hb⟩
  have J2 : JS w.heap.size wB w2 := J1.step hb
  refine hK.out _ _ J2 (fun _ => ?_)
  clear hK K hb
  try simp only [List.getElem_toArray, List.getElem_cons_zero, List.getElem_cons_succ, Act.put, List.setIfInBounds_toArray, List.set_cons_zero, List.set_cons_succ]
  refine wpAnyH_ready (rs := [4]) (by kernel_rfl) (by simp) ?_
  refine AllReadyH.cons rfl (fun K hK => ?_) AllReadyH.nil
  rw [if_pos (by rfl)]
  go_simp
  have J3 : JS w.heap.size wB (w2.alloc (.cells #[.string ⟨#[1]⟩, .string l, .string r] 9)) := J2.step ((Below.refl _ _).alloc (Nat.le_refl _) _)
  refine hK.out _ _ J3 (fun _ => ?_)
  clear hK K
  try simp only [List.getElem_toArray, List.getElem_cons_zero, List.getElem_cons_succ, Act.put, List.setIfInBounds_toArray, List.set_cons_zero, List.set_cons_succ]
  refine wpAnyH_ready (rs := [5]) (by kernel_rfl) (by simp) ?_
  refine AllReadyH.cons rfl (fun K hK => ?_) AllReadyH.nil
  rw [if_pos (by rfl)]
  go_simp
  refine (hof w2 J2).mono ?_
  rintro e w4 ⟨rfl, hb⟩
  have J4 : JS w.heap.size wB w4 := J3.step hb
  refine hK.out _ _ J4 (fun _ => ?_)
  clear hK K hb
  try simp only [List.getElem_toArray, List.getElem_cons_zero, List.getElem_cons_succ, Act.put, List.setIfInBounds_toArray, List.set_cons_zero, List.set_cons_succ]
  refine wpAnyH_ready (rs := [6]) (by kernel_rfl) (by simp) ?_
  refine AllReadyH.cons rfl (fun K hK => ?_) AllReadyH.nil
  rw [if_pos (by rfl)]
  refine wp_store_mid 90 (.tmp 4) (.tmp 10) rfl (w.heap.size + 2) 0 (hV h).toArray rfl rfl (by show w4.there (w.heap.size + 2) 0 (hV h).length; rw [hl32]; exact J4.t) (by show _ = some (hV h).length; exact hinf) (all_oneCell_toArray (hV_one h)) ?_
  have J5 : JS w.heap.size wB (w4.setCells (w.heap.size + 2) 0 (hV h).toArray.toList) := J4.store _
  refine hK.out _ _ J5 (fun _ => ?_)
  clear hK K
  refine ⟨by kernel_rfl, ?_⟩
  refine NoPanic.normal ?_
  try simp only [List.getElem_toArray, List.getElem_cons_zero, List.getElem_cons_succ, Act.put, List.setIfInBounds_toArray, List.set_cons_zero, List.set_cons_succ]
  go_wp2_with fail
  exact ret_cell rfl (w.heap.size + 2) 0 (hV h) _ rfl (by have := World.rangeAt_setCells_same w4 (w.heap.size + 2) 0 (hV h) (by rw [hl32]; exact J4.t); simpa using this) Tryz.underlying90 rfl hinf rfl ⟨rfl, hbB.trans (J5.b.mono (by omega))⟩
end Go.Proofs.YtijdnpoenpjnlaaGreatDoor
set_option linter.unusedVariables false
set_option linter.unusedSimpArgs false
namespace Go.Proofs.YtijdnpoenpjnlaaGreatDoor
open Go.RowKit

/-- A slice of texts, wherever it lies. -/
def LeafAt (w : World) (v : Value) (ls : List ByteArray) : Prop :=
  (ls = [] ∧ ∃ ao cap, v = .slice ao 0 cap) ∨ ∃ g off cap, v = .slice (some ⟨g, off, none⟩) ls.length cap ∧ ls.length ≤ cap ∧ ∀ j (h : j < ls.length), w.cell? ⟨g, off + j, none⟩ = some (.string (ls[j]'h))
theorem LeafAt.below {w w' : World} {v : Value} {ls : List ByteArray} (h : LeafAt w v ls) (hb : Below w.heap.size w w') : LeafAt w' v ls := by
  rcases h with h | ⟨g, off, cap, e, hc, h⟩
  · exact Or.inl h
  · refine Or.inr ⟨g, off, cap, e, hc, fun j hj => ?_⟩
    have := h j hj
    rw [hb.cell (World.block_lt_of_cell? w _ this)]; exact this
theorem leaf_take {w : World} {g off cap : Nat} {ls : List ByteArray} (k : Nat) (hk : k ≤ ls.length) (hc : ls.length ≤ cap) (h : ∀ j (h : j < ls.length), w.cell? ⟨g, off + j, none⟩ = some (.string (ls[j]'h))) : LeafAt w (.slice (some ⟨g, off, none⟩) k cap) (ls.take k) := by
  refine Or.inr ⟨g, off, cap, by simp [Nat.min_eq_left hk], by simp; omega, fun j hj => ?_⟩
  have hj' : j < k := by simp at hj; omega
  rw [List.getElem_take]
  exact h j (by omega)
theorem leaf_drop {w : World} {g off cap : Nat} {ls : List ByteArray} (k : Nat) (hk : k ≤ ls.length) (hc : ls.length ≤ cap) (h : ∀ j (h : j < ls.length), w.cell? ⟨g, off + j, none⟩ = some (.string (ls[j]'h))) : LeafAt w (.slice (some ⟨g, off + k, none⟩) (ls.length - k) (cap - k)) (ls.drop k) := by
  refine Or.inr ⟨g, off + k, cap - k, by simp, by simp; omega, fun j hj => ?_⟩
  simp at hj
  rw [List.getElem_drop, Nat.add_assoc]
  exact h (k + j) (by omega)
/-- Behind a function's result variable, the first block that it makes. -/
structure RS (n : Nat) (w w' : World) : Prop where
  b : Below n w w'
  t : w'.there n 0 32
  z : n + 1 ≤ w'.heap.size
theorem RS.step {n : Nat} {w w' w'' : World} (h : RS n w w') (hb : Below w'.heap.size w' w'') : RS n w w'' :=
  ⟨h.b.trans (hb.mono (by have := h.z; omega)), there_below hb (by have := h.z; omega) h.t, Nat.le_trans h.z hb.size⟩
theorem RS.store {n : Nat} {w w' : World} (h : RS n w w') (cs : List Value) : RS n w (w'.setCells n 0 cs) :=
  ⟨below_setCells (Nat.le_refl _) _ _ _ h.b, World.there_setCells h.t _ _ _, by rw [size_setCells]; exact h.z⟩
theorem rs_new (w : World) : RS w.heap.size w (w.alloc (.cells z32.toArray 90)) := ⟨(Below.refl _ _).alloc (Nat.le_refl _) _, there_z32 w, by simp⟩

set_option maxRecDepth 10000 in
set_option maxHeartbeats 2000000 in
theorem root_any (K : Nat → Int) : ∀ (n : Nat) (ls : List ByteArray) (v : Value) (w : World), ls.length = n → 0 < n → n ≤ 2147483647 → LeafAt w v ls → (∀ s ∈ ls, s.size ≤ 140737488355000) → Tab K w →
    Calls Tryz.prog 115 #[v] w fun e w' => e = .returned (.agg (hV (rootF (sumOf K) ls)).toArray) ∧ Below w.heap.size w w' := by
  intro n
  induction n using Nat.strongRecOn with
  | _ n ih =>
  intro ls v w hn hn0 hn1 hl hs T
  obtain ⟨g, off, cap, rfl, hcap, hc⟩ : ∃ g off cap, v = .slice (some ⟨g, off, none⟩) ls.length cap ∧ ls.length ≤ cap ∧ ∀ j (h : j < ls.length), w.cell? ⟨g, off + j, none⟩ = some (.string (ls[j]'h)) := by
    rcases hl with ⟨rfl, _⟩ | h
    · simp at hn; omega
    · exact h
  have J0 := rs_new w
  have hszF : ∀ l, (rootF (sumOf K) l).size = 32 := rootF_size (sumOf K) (sumOf_size K)
  by_cases h1 : n = 1
  · have h1' : ls.length = 1 := by omega
    obtain ⟨s, rfl⟩ : ∃ s, ls = [s] := List.length_eq_one_iff.1 h1'
    have hc0 : (w.alloc (.cells z32.toArray 90)).cell? ⟨g, off, none⟩ = some (.string s) := by
      have := hc 0 (by simp)
      rw [World.cell?_alloc_past _ _ _ (World.block_lt_of_cell? w _ this)]
      exact this
    have hr1 := rone_any s K (w.alloc (.cells z32.toArray 90)) (hs s (by simp)) (T.below ((Below.refl _ _).alloc (Nat.le_refl _) _))
    rw [show sumOf K (m0 ++ s) = rootF (sumOf K) [s] by rw [rootF]] at hr1
    have h32 := hszF [s]
    generalize rootF (sumOf K) [s] = h at *
    rw [show [s].length = 1 from rfl]
    clear ih hc hs hl T hszF
    go_enter Tryz.func115, Tryz.ntmps115
    go_wp2_with (first | (refine wpList_alloc_of rfl 90 rfl z32.toArray alloc_32 ?_))
    refine hr1.mono ?_
    rintro e w1 ⟨rfl, hb1⟩
    have J1 := J0.step hb1
    have ht : w1.there w.heap.size 0 (hV h).length := by rw [hV_len h32]; exact J1.t
    go_wp2_with (refine wpList_store_abs rfl 90 _ _ rfl w.heap.size 0 (hV h) rfl rfl ht (hV_info h32) (hV_one h) ?_; intro w2 _hw2 hr2 _ht2 hb2; clear _hw2 _ht2)
    exact ret_cell rfl w.heap.size 0 (hV h) _ rfl hr2 Tryz.underlying90 rfl (hV_info h32) rfl ⟨rfl, J1.b.trans (hb2 _ (Nat.le_refl _))⟩
  · have h2 : 2 ≤ ls.length := by omega
    have hk0 := halfN_pos ls.length
    have hk1 := halfN_lt h2
    have hsp := split_any ls.length (w.alloc (.cells z32.toArray 90)) h2 (by omega)
    have hL : ∀ W, RS w.heap.size w W → Calls Tryz.prog 115 #[.slice (some ⟨g, off, none⟩) (halfN ls.length) cap] W fun e w' => e = .returned (.agg (hV (rootF (sumOf K) (ls.take (halfN ls.length)))).toArray) ∧ Below W.heap.size W w' := fun W J =>
      ih (halfN ls.length) (by omega) (ls.take (halfN ls.length)) _ W (by simp; omega) hk0 (by omega) ((leaf_take _ (by omega) hcap hc).below J.b) (fun s hs' => hs s (List.mem_of_mem_take hs')) (T.below J.b)
    have hR : ∀ W, RS w.heap.size w W → Calls Tryz.prog 115 #[.slice (some ⟨g, off + halfN ls.length, none⟩) (ls.length - halfN ls.length) (cap - halfN ls.length)] W fun e w' => e = .returned (.agg (hV (rootF (sumOf K) (ls.drop (halfN ls.length)))).toArray) ∧ Below W.heap.size W w' := fun W J =>
      ih (ls.length - halfN ls.length) (by omega) (ls.drop (halfN ls.length)) _ W (by simp) (by omega) (by omega) ((leaf_drop _ (by omega) hcap hc).below J.b) (fun s hs' => hs s (List.mem_of_mem_drop hs')) (T.below J.b)
    have hJ : ∀ W, RS w.heap.size w W → Calls Tryz.prog 164 #[.agg (hV (rootF (sumOf K) (ls.take (halfN ls.length)))).toArray, .agg (hV (rootF (sumOf K) (ls.drop (halfN ls.length)))).toArray] W fun e w' => e = .returned (.agg (hV (rootF (sumOf K) ls)).toArray) ∧ Below W.heap.size W w' := fun W J => by
      rw [rootF_more (sumOf K) h2]
      exact join_any _ _ K W (hszF _) (hszF _) (T.below J.b)
    have h32 := hszF ls
    have hinf := hV_info h32
    have hl32 := hV_len h32
    generalize rootF (sumOf K) ls = h at *
    generalize rootF (sumOf K) (ls.take (halfN ls.length)) = a at *
    generalize rootF (sumOf K) (ls.drop (halfN ls.length)) = b at *
    generalize halfN ls.length = k at *
    clear ih hc hs hl T hszF
    generalize ls.length = N at *
    have n0 : ((N : Int) == 0) = false := by rw [beq_eq_false_iff_ne]; omega
    have n1 : ((N : Int) == 1) = false := by rw [beq_eq_false_iff_ne]; omega
    have k1 : (k : Int) ≤ (N : Int) := by omega
    have k2 : (k : Int) ≤ (cap : Int) := by omega
    have k3 : ¬ cap = k := by omega
    clear hn h1 h2
    go_enter Tryz.func115, Tryz.ntmps115
    go_wp2_with (first | (refine wpList_alloc_of rfl 90 rfl z32.toArray alloc_32 ?_))
    refine hsp.mono ?_
    rintro e w0 ⟨rfl, hw0⟩
    obtain rfl : w.alloc (.cells z32.toArray 90) = w0 := hw0.symm
    clear hw0 hsp
    go_wp2_with fail
    have J0d : RS w.heap.size w (w.alloc (.cells z32.toArray 90)).drew := ⟨J0.b.drew, J0.t, J0.z⟩
    refine wp_region_noPanic ?_
    refine wp_region_held_drew (S := RS w.heap.size w) (by kernel_rfl) J0d (fun _ => ?_)
    refine wpAnyH_take (i := 0) (v := ?_) rfl (by kernel_rfl) (by kernel_rfl) (by kernel_rfl) (fun _ _ _ h => h) (Or.inl ⟨by rfl, ?_⟩) J0d ?_
    rotate_left 1
    · intro w hSw; clear hSw; go_simp; try with_reducible rfl
    simp only [List.getElem_toArray, List.getElem_cons_zero, List.getElem_cons_succ, Act.put, List.setIfInBounds_toArray, List.set_cons_zero, List.set_cons_succ]
    refine wpAnyH_take (i := 1) (v := ?_) rfl (by kernel_rfl) (by kernel_rfl) (by kernel_rfl) (fun _ _ _ h => h) (Or.inl ⟨by rfl, ?_⟩) J0d ?_
    rotate_left 1
    · intro w hSw; clear hSw; go_simp; try with_reducible rfl
    simp only [List.getElem_toArray, List.getElem_cons_zero, List.getElem_cons_succ, Act.put, List.setIfInBounds_toArray, List.set_cons_zero, List.set_cons_succ]
    refine wpAnyH_take (i := 2) (v := ?_) rfl (by kernel_rfl) (by kernel_rfl) (by kernel_rfl) (fun _ _ _ h => h) (Or.inl ⟨by rfl, ?_⟩) J0d ?_
    rotate_left 1
    · intro w hSw; clear hSw; go_simp; try with_reducible rfl
    simp only [List.getElem_toArray, List.getElem_cons_zero, List.getElem_cons_succ, Act.put, List.setIfInBounds_toArray, List.set_cons_zero, List.set_cons_succ]
    refine wpAnyH_take (i := 4) (v := ?_) rfl (by kernel_rfl) (by kernel_rfl) (by kernel_rfl) (fun _ _ _ h => h) (Or.inl ⟨by rfl, ?_⟩) J0d ?_
    rotate_left 1
    · intro w hSw; clear hSw; go_simp; try with_reducible rfl
    simp only [List.getElem_toArray, List.getElem_cons_zero, List.getElem_cons_succ, Act.put, List.setIfInBounds_toArray, List.set_cons_zero, List.set_cons_succ]
    refine wpAnyH_take (i := 5) (v := ?_) rfl (by kernel_rfl) (by kernel_rfl) (by kernel_rfl) (fun _ _ _ h => h) (Or.inl ⟨by rfl, ?_⟩) J0d ?_
    rotate_left 1
    · intro w hSw; clear hSw; go_simp; try with_reducible rfl
    simp only [List.getElem_toArray, List.getElem_cons_zero, List.getElem_cons_succ, Act.put, List.setIfInBounds_toArray, List.set_cons_zero, List.set_cons_succ]
    refine wpAnyH_take (i := 6) (v := ?_) rfl (by kernel_rfl) (by kernel_rfl) (by kernel_rfl) (fun _ _ _ h => h) (Or.inl ⟨by rfl, ?_⟩) J0d ?_
    rotate_left 1
    · intro w hSw; clear hSw; go_simp; try with_reducible rfl
    simp only [List.getElem_toArray, List.getElem_cons_zero, List.getElem_cons_succ, Act.put, List.setIfInBounds_toArray, List.set_cons_zero, List.set_cons_succ]
    refine wpAnyH_ready (rs := [3]) (by kernel_rfl) (by simp) ?_
    refine AllReadyH.cons rfl (fun K hK => ?_) AllReadyH.nil
    rw [if_pos (by rfl)]
    go_simp
    refine (hL _ J0d).mono ?_
    rintro e w1 ⟨rfl, hb⟩
    have J1 : RS w.heap.size w w1 := J0d.step hb
    refine hK.out _ _ J1 (fun _ => ?_)
    clear hK K hb
    try simp only [List.getElem_toArray, List.getElem_cons_zero, List.getElem_cons_succ, Act.put, List.setIfInBounds_toArray, List.set_cons_zero, List.set_cons_succ]
    refine wpAnyH_ready (rs := [7]) (by kernel_rfl) (by simp) ?_
    refine AllReadyH.cons rfl (fun K hK => ?_) AllReadyH.nil
    rw [if_pos (by rfl)]
    go_simp
    refine (hR _ J1).mono ?_
    rintro e w2 ⟨rfl, hb⟩
    have J2 : RS w.heap.size w w2 := J1.step hb
    refine hK.out _ _ J2 (fun _ => ?_)
    clear hK K hb
    try simp only [List.getElem_toArray, List.getElem_cons_zero, List.getElem_cons_succ, Act.put, List.setIfInBounds_toArray, List.set_cons_zero, List.set_cons_succ]
    refine wpAnyH_ready (rs := [8]) (by kernel_rfl) (by simp) ?_
    refine AllReadyH.cons rfl (fun K hK => ?_) AllReadyH.nil
    rw [if_pos (by rfl)]
    go_simp
    refine (hJ _ J2).mono ?_
    rintro e w3 ⟨rfl, hb⟩
    have J3 : RS w.heap.size w w3 := J2.step hb
    refine hK.out _ _ J3 (fun _ => ?_)
    clear hK K hb
    try simp only [List.getElem_toArray, List.getElem_cons_zero, List.getElem_cons_succ, Act.put, List.setIfInBounds_toArray, List.set_cons_zero, List.set_cons_succ]
    refine wpAnyH_ready (rs := [9]) (by kernel_rfl) (by simp) ?_
    refine AllReadyH.cons rfl (fun K hK => ?_) AllReadyH.nil
    rw [if_pos (by rfl)]
    refine wp_store_mid 90 (.tmp 2) (.tmp 26) rfl w.heap.size 0 (hV h).toArray rfl rfl (by show w3.there w.heap.size 0 (hV h).length; rw [hl32]; exact J3.t) (by show _ = some (hV h).length; exact hinf) (all_oneCell_toArray (hV_one h)) ?_
    have J5 : RS w.heap.size w (w3.setCells w.heap.size 0 (hV h).toArray.toList) := J3.store _
    refine hK.out _ _ J5 (fun _ => ?_)
    clear hK K
    refine ⟨by kernel_rfl, ?_⟩
    refine NoPanic.normal ?_
    try simp only [List.getElem_toArray, List.getElem_cons_zero, List.getElem_cons_succ, Act.put, List.setIfInBounds_toArray, List.set_cons_zero, List.set_cons_succ]
    go_wp2_with fail
    exact ret_cell rfl w.heap.size 0 (hV h) _ rfl (by have := World.rangeAt_setCells_same w3 w.heap.size 0 (hV h) (by rw [hl32]; exact J3.t); simpa using this) Tryz.underlying90 rfl hinf rfl ⟨rfl, J5.b⟩
end Go.Proofs.YtijdnpoenpjnlaaGreatDoor
set_option linter.unusedVariables false
set_option linter.unusedSimpArgs false
namespace Go.Proofs.YtijdnpoenpjnlaaGreatDoor
open Go.RowKit

def errIx : Value := .iface 138 (.int .i64 10)
/-- A list of texts that a call has made. -/
def madeL (w w' : World) (e : Ending) (l : List ByteArray) : Prop := ∃ ao cap, e = .returned (.slice ao l.length cap) ∧ w'.ownsRow w.heap.size 9 1 (.slice ao l.length cap) l.length (l.map .string) ∧ Below w.heap.size w w'

theorem leaf_form {w : World} {v : Value} {ls : List ByteArray} (h : LeafAt w v ls) : ∃ ao cap, v = .slice ao ls.length cap := by
  rcases h with ⟨rfl, ao, cap, rfl⟩ | ⟨g, off, cap, rfl, _⟩
  · exact ⟨ao, cap, rfl⟩
  · exact ⟨_, cap, rfl⟩

end Go.Proofs.YtijdnpoenpjnlaaGreatDoor
set_option linter.unusedVariables false
set_option linter.unusedSimpArgs false
namespace Go.Proofs.YtijdnpoenpjnlaaGreatDoor
open Go.RowKit

theorem inclF_len (H : ByteArray → ByteArray) : ∀ (n : Nat) (ls : List ByteArray) (i : Nat), ls.length = n → (inclF H ls i).length ≤ n := by
  intro n
  induction n using Nat.strongRecOn with
  | _ n ih =>
  intro ls i hn
  by_cases h2 : 2 ≤ ls.length
  · have hk0 := halfN_pos ls.length
    have hk1 := halfN_lt h2
    by_cases hi : i < halfN ls.length
    · rw [inclF_left H h2 hi]
      have := ih (halfN ls.length) (by omega) (ls.take (halfN ls.length)) i (by simp; omega)
      simp; omega
    · rw [inclF_right H h2 hi]
      have := ih (ls.length - halfN ls.length) (by omega) (ls.drop (halfN ls.length)) (i - halfN ls.length) (by simp)
      simp; omega
  · rw [inclF_one H (by omega)]; simp

set_option maxRecDepth 10000 in
set_option maxHeartbeats 400000 in
theorem path_one (g off cap i : Nat) (w : World) : Calls Tryz.prog 166 #[.slice (some ⟨g, off, none⟩) 1 cap, .int .i64 i] w fun e w' => madeL w w' e [] := by
  go_enter Tryz.func166, Tryz.ntmps166
  go_wp2_with fail
  go_ret
  exact ⟨none, 0, rfl, World.ownsRow_nil _ _ _ _, Below.refl _ _⟩

set_option maxRecDepth 10000 in
set_option maxHeartbeats 1000000 in
theorem path_left (g off cap N k i : Nat) (w : World) (F : List ByteArray) (R a : ByteArray) (hN : N ≤ 2147483647) (hk0 : 0 < k) (hk1 : k < N) (hcap : N ≤ cap) (hik : i < k) (hFl : F.length ≤ k)
    (hsp : Calls Tryz.prog 163 #[.int .i64 N] w fun e w' => e = .returned (.int .i64 k) ∧ w' = w)
    (hP : ∀ W, Below w.heap.size w W → Calls Tryz.prog 166 #[.slice (some ⟨g, off, none⟩) k cap, .int .i64 i] W fun e w' => madeL W w' e F)
    (hR : ∀ W, Below w.heap.size w W → Calls Tryz.prog 115 #[.slice (some ⟨g, off + k, none⟩) (N - k) (cap - k)] W fun e w' => e = .returned (.agg (hV R).toArray) ∧ Below W.heap.size W w')
    (htx : ∀ W, Calls Tryz.prog 55 #[.agg (hV R).toArray] W fun e w' => e = .returned (.string R) ∧ Below W.heap.size W w') :
    Calls Tryz.prog 166 #[.slice (some ⟨g, off, none⟩) N cap, .int .i64 i] w fun e w' => madeL w w' e (F ++ [R]) := by
  obtain ⟨i0, hi, hz, hsz, hby⟩ := info_strT
  have k1 : (k : Int) ≤ (N : Int) := by omega
  have k2 : (k : Int) ≤ (cap : Int) := by omega
  have k3 : ¬ cap = k := by omega
  have n1 : ((N : Int) == 1) = false := by rw [beq_eq_false_iff_ne]; omega
  have ik : (i : Int) < (k : Int) := by omega
  have HP : Hid (∀ W, Below w.heap.size w W → Calls Tryz.prog 166 #[.slice (some ⟨g, off, none⟩) k cap, .int .i64 i] W fun e w' => madeL W w' e F) := hP
  have HR : Hid (∀ W, Below w.heap.size w W → Calls Tryz.prog 115 #[.slice (some ⟨g, off + k, none⟩) (N - k) (cap - k)] W fun e w' => e = .returned (.agg (hV R).toArray) ∧ Below W.heap.size W w') := hR
  have HX : Hid (∀ W, Calls Tryz.prog 55 #[.agg (hV R).toArray] W fun e w' => e = .returned (.string R) ∧ Below W.heap.size W w') := htx
  clear hP hR htx
  go_enter Tryz.func166, Tryz.ntmps166
  go_wp2_with fail
  refine hsp.mono ?_
  rintro e w0 ⟨rfl, hw0⟩
  obtain rfl : w = w0 := hw0.symm
  clear hw0 hsp
  go_wp2_with fail
  have B0 : Below w.heap.size w w.drew := (Below.refl _ _).drew
  refine wp_region_noPanic ?_
  refine wp_region_held_drew (S := fun w' => Below w.heap.size w w') (by kernel_rfl) B0 (fun _ => ?_)
  refine wpAnyH_take (i := 0) (v := ?_) rfl (by kernel_rfl) (by kernel_rfl) (by kernel_rfl) (fun _ _ _ h => h) (Or.inl ⟨by rfl, ?_⟩) B0 ?_
  rotate_left 1
  · intro w hSw; clear hSw; go_simp; try with_reducible rfl
  simp only [List.getElem_toArray, List.getElem_cons_zero, List.getElem_cons_succ, Act.put, List.setIfInBounds_toArray, List.set_cons_zero, List.set_cons_succ]
  refine wpAnyH_take (i := 1) (v := ?_) rfl (by kernel_rfl) (by kernel_rfl) (by kernel_rfl) (fun _ _ _ h => h) (Or.inl ⟨by rfl, ?_⟩) B0 ?_
  rotate_left 1
  · intro w hSw; clear hSw; go_simp; try with_reducible rfl
  simp only [List.getElem_toArray, List.getElem_cons_zero, List.getElem_cons_succ, Act.put, List.setIfInBounds_toArray, List.set_cons_zero, List.set_cons_succ]
  refine wpAnyH_take (i := 2) (v := ?_) rfl (by kernel_rfl) (by kernel_rfl) (by kernel_rfl) (fun _ _ _ h => h) (Or.inl ⟨by rfl, ?_⟩) B0 ?_
  rotate_left 1
  · intro w hSw; clear hSw; go_simp; try with_reducible rfl
  simp only [List.getElem_toArray, List.getElem_cons_zero, List.getElem_cons_succ, Act.put, List.setIfInBounds_toArray, List.set_cons_zero, List.set_cons_succ]
  refine wpAnyH_take (i := 3) (v := ?_) rfl (by kernel_rfl) (by kernel_rfl) (by kernel_rfl) (fun _ _ _ h => h) (Or.inl ⟨by rfl, ?_⟩) B0 ?_
  rotate_left 1
  · intro w hSw; clear hSw; go_simp; try with_reducible rfl
  simp only [List.getElem_toArray, List.getElem_cons_zero, List.getElem_cons_succ, Act.put, List.setIfInBounds_toArray, List.set_cons_zero, List.set_cons_succ]
  refine wpAnyH_take (i := 5) (v := ?_) rfl (by kernel_rfl) (by kernel_rfl) (by kernel_rfl) (fun _ _ _ h => h) (Or.inl ⟨by rfl, ?_⟩) B0 ?_
  rotate_left 1
  · intro w hSw; clear hSw; go_simp; try with_reducible rfl
  simp only [List.getElem_toArray, List.getElem_cons_zero, List.getElem_cons_succ, Act.put, List.setIfInBounds_toArray, List.set_cons_zero, List.set_cons_succ]
  refine wpAnyH_take (i := 6) (v := ?_) rfl (by kernel_rfl) (by kernel_rfl) (by kernel_rfl) (fun _ _ _ h => h) (Or.inl ⟨by rfl, ?_⟩) B0 ?_
  rotate_left 1
  · intro w hSw; clear hSw; go_simp; try with_reducible rfl
  simp only [List.getElem_toArray, List.getElem_cons_zero, List.getElem_cons_succ, Act.put, List.setIfInBounds_toArray, List.set_cons_zero, List.set_cons_succ]
  refine wpAnyH_take (i := 7) (v := ?_) rfl (by kernel_rfl) (by kernel_rfl) (by kernel_rfl) (fun _ _ _ h => h) (Or.inl ⟨by rfl, ?_⟩) B0 ?_
  rotate_left 1
  · intro w hSw; clear hSw; go_simp; try with_reducible rfl
  simp only [List.getElem_toArray, List.getElem_cons_zero, List.getElem_cons_succ, Act.put, List.setIfInBounds_toArray, List.set_cons_zero, List.set_cons_succ]
  refine wpAnyH_ready (rs := [4]) (by kernel_rfl) (by simp) ?_
  refine AllReadyH.cons rfl (fun K hK => ?_) AllReadyH.nil
  rw [if_pos (by rfl)]
  go_simp
  refine (HP.out _ B0).mono ?_
  rintro e w1 ⟨ao, cp, rfl, ho1, hb1⟩
  have B1 : Below w.heap.size w w1 := B0.trans (hb1.mono (Nat.le_refl _))
  have ho1 : w1.ownsRow w.heap.size 9 1 (.slice ao F.length cp) F.length (F.map .string) := ho1
  refine hK.out _ _ B1 (fun _ => ?_)
  clear hK K
  try simp only [List.getElem_toArray, List.getElem_cons_zero, List.getElem_cons_succ, Act.put, List.setIfInBounds_toArray, List.set_cons_zero, List.set_cons_succ]
  refine wpAnyH_ready (rs := [8]) (by kernel_rfl) (by simp) ?_
  refine AllReadyH.cons rfl (fun K hK => ?_) AllReadyH.nil
  rw [if_pos (by rfl)]
  go_simp
  refine (HR.out _ B1).mono ?_
  rintro e w2 ⟨rfl, hb2⟩
  have B2 : Below w.heap.size w w2 := B1.trans (hb2.mono B1.size)
  have ho2 := own_below' ho1 hb2
  refine hK.out _ _ B2 (fun _ => ?_)
  clear hK K
  try simp only [List.getElem_toArray, List.getElem_cons_zero, List.getElem_cons_succ, Act.put, List.setIfInBounds_toArray, List.set_cons_zero, List.set_cons_succ]
  refine wpAnyH_ready (rs := [9]) (by kernel_rfl) (by simp) ?_
  refine AllReadyH.cons rfl (fun K hK => ?_) AllReadyH.nil
  rw [if_pos (by rfl)]
  go_simp
  refine (HX.out _).mono ?_
  rintro e w3 ⟨rfl, hb3⟩
  have B3 : Below w.heap.size w w3 := B2.trans (hb3.mono B2.size)
  have ho3 := own_below' ho2 hb3
  refine hK.out _ _ B3 (fun _ => ?_)
  clear hK K
  try simp only [List.getElem_toArray, List.getElem_cons_zero, List.getElem_cons_succ, Act.put, List.setIfInBounds_toArray, List.set_cons_zero, List.set_cons_succ]
  refine wpAnyH_ready (rs := [10]) (by kernel_rfl) (by simp) ?_
  refine AllReadyH.cons rfl (fun K hK => ?_) AllReadyH.nil
  rw [if_pos (by rfl)]
  go_simp
  have hb4 : Below w3.heap.size w3 (w3.alloc (.cells #[.string R] 9)) := (Below.refl _ _).alloc (Nat.le_refl _) _
  have B4 : Below w.heap.size w (w3.alloc (.cells #[.string R] 9)) := B3.trans (hb4.mono B3.size)
  have ho4 := own_below' ho3 hb4
  have hnews : ∀ j u, [Value.string R][j]? = some u → (w3.alloc (.cells #[.string R] 9)).cell? ((⟨w3.heap.size, 0, none⟩ : Addr).add j) = some u := World.news_of_block (heap_alloc_new w3 (.cells #[.string R] 9))
  refine hK.out _ _ B4 (fun _ => ?_)
  clear hK K
  try simp only [List.getElem_toArray, List.getElem_cons_zero, List.getElem_cons_succ, Act.put, List.setIfInBounds_toArray, List.set_cons_zero, List.set_cons_succ]
  refine wpAnyH_ready (rs := [11]) (by kernel_rfl) (by simp) ?_
  refine AllReadyH.cons rfl (fun K hK => ?_) AllReadyH.nil
  rw [if_pos (by rfl)]
  refine wp_append_lies _ (.tmp 19) (.tmp 25) 30 rfl w.heap.size 9 i0 _ 1 16 Tryz.underlying30 hi hz hsz hby rfl (by decide) (.slice ao F.length cp) F.length _ rfl ho4 ⟨w3.heap.size, 0, none⟩ 1 1 [.string R] rfl rfl hnews (by simp [Value.oneCell']) (by decide) (by unfold maxLen; omega) (by omega) B4.size _ rfl ?_
  intro g2 cap2 w5 ho5 hgr5 hat5 hlt5
  have B5 : Below w.heap.size w w5 := B4.trans ((Below.refl _ _).grown hgr5 B4.size (fun k hk => (ho4.lt k hk).1))
  refine hK.out _ _ B5 (fun _ => ?_)
  clear hK K
  try simp only [List.getElem_toArray, List.getElem_cons_zero, List.getElem_cons_succ, Act.put, List.setIfInBounds_toArray, List.set_cons_zero, List.set_cons_succ]
  refine wpAnyH_ready (rs := [12]) (by kernel_rfl) (by simp) ?_
  refine AllReadyH.cons rfl (fun K hK => ?_) AllReadyH.nil
  rw [if_pos (by rfl)]
  go_simp
  refine hK.out _ _ B5 (fun _ => ?_)
  clear hK K
  refine ⟨by kernel_rfl, ?_⟩
  refine NoPanic.normal ?_
  try simp only [List.getElem_toArray, List.getElem_cons_zero, List.getElem_cons_succ, Act.put, List.setIfInBounds_toArray, List.set_cons_zero, List.set_cons_succ]
  go_wp2_with fail
  go_ret
  refine ⟨some ⟨g2, 0, none⟩, cap2, by simp, by simpa using ho5, B5⟩
set_option maxRecDepth 10000 in
set_option maxHeartbeats 1000000 in
theorem path_right (g off cap N k i : Nat) (w : World) (F : List ByteArray) (R a : ByteArray) (hN : N ≤ 2147483647) (hk0 : 0 < k) (hk1 : k < N) (hcap : N ≤ cap) (hik : k ≤ i) (hiN : i < N) (hFl : F.length ≤ N - k)
    (hsp : Calls Tryz.prog 163 #[.int .i64 N] w fun e w' => e = .returned (.int .i64 k) ∧ w' = w)
    (hP : ∀ W, Below w.heap.size w W → Calls Tryz.prog 166 #[.slice (some ⟨g, off + k, none⟩) (N - k) (cap - k), .int .i64 ((i : Int) - (k : Int))] W fun e w' => madeL W w' e F)
    (hR : ∀ W, Below w.heap.size w W → Calls Tryz.prog 115 #[.slice (some ⟨g, off, none⟩) k cap] W fun e w' => e = .returned (.agg (hV R).toArray) ∧ Below W.heap.size W w')
    (htx : ∀ W, Calls Tryz.prog 55 #[.agg (hV R).toArray] W fun e w' => e = .returned (.string R) ∧ Below W.heap.size W w') :
    Calls Tryz.prog 166 #[.slice (some ⟨g, off, none⟩) N cap, .int .i64 i] w fun e w' => madeL w w' e (F ++ [R]) := by
  obtain ⟨i0, hi, hz, hsz, hby⟩ := info_strT
  have k1 : (k : Int) ≤ (N : Int) := by omega
  have k2 : (k : Int) ≤ (cap : Int) := by omega
  have k3 : ¬ cap = k := by omega
  have n1 : ((N : Int) == 1) = false := by rw [beq_eq_false_iff_ne]; omega
  have ik : ¬ (i : Int) < (k : Int) := by omega
  have ik2 : (i : Int) < (N : Int) := by omega
  have ik3 : (k : Int) ≤ (i : Int) := by omega
  have hwr : IntKind.i64.wrap ((i : Int) - (k : Int)) = (i : Int) - (k : Int) := wrap_small _ (by omega) (by omega)
  have HP : Hid (∀ W, Below w.heap.size w W → Calls Tryz.prog 166 #[.slice (some ⟨g, off + k, none⟩) (N - k) (cap - k), .int .i64 ((i : Int) - (k : Int))] W fun e w' => madeL W w' e F) := hP
  have HR : Hid (∀ W, Below w.heap.size w W → Calls Tryz.prog 115 #[.slice (some ⟨g, off, none⟩) k cap] W fun e w' => e = .returned (.agg (hV R).toArray) ∧ Below W.heap.size W w') := hR
  have HX : Hid (∀ W, Calls Tryz.prog 55 #[.agg (hV R).toArray] W fun e w' => e = .returned (.string R) ∧ Below W.heap.size W w') := htx
  clear hP hR htx
  go_enter Tryz.func166, Tryz.ntmps166
  go_wp2_with fail
  refine hsp.mono ?_
  rintro e w0 ⟨rfl, hw0⟩
  obtain rfl : w = w0 := hw0.symm
  clear hw0 hsp
  go_wp2_with fail
  have B0 : Below w.heap.size w w.drew := (Below.refl _ _).drew
  refine wp_region_noPanic ?_
  refine wp_region_held_drew (S := fun w' => Below w.heap.size w w') (by kernel_rfl) B0 (fun _ => ?_)
  refine wpAnyH_take (i := 0) (v := ?_) rfl (by kernel_rfl) (by kernel_rfl) (by kernel_rfl) (fun _ _ _ h => h) (Or.inl ⟨by rfl, ?_⟩) B0 ?_
  rotate_left 1
  · intro w hSw; clear hSw; go_simp; try with_reducible rfl
  simp only [List.getElem_toArray, List.getElem_cons_zero, List.getElem_cons_succ, Act.put, List.setIfInBounds_toArray, List.set_cons_zero, List.set_cons_succ]
  refine wpAnyH_take (i := 1) (v := ?_) rfl (by kernel_rfl) (by kernel_rfl) (by kernel_rfl) (fun _ _ _ h => h) (Or.inl ⟨by rfl, ?_⟩) B0 ?_
  rotate_left 1
  · intro w hSw; clear hSw; go_simp; try with_reducible rfl
  simp only [List.getElem_toArray, List.getElem_cons_zero, List.getElem_cons_succ, Act.put, List.setIfInBounds_toArray, List.set_cons_zero, List.set_cons_succ]
  refine wpAnyH_take (i := 2) (v := ?_) rfl (by kernel_rfl) (by kernel_rfl) (by kernel_rfl) (fun _ _ _ h => h) (Or.inl ⟨by rfl, ?_⟩) B0 ?_
  rotate_left 1
  · intro w hSw; clear hSw; go_simp; try with_reducible rfl
  simp only [List.getElem_toArray, List.getElem_cons_zero, List.getElem_cons_succ, Act.put, List.setIfInBounds_toArray, List.set_cons_zero, List.set_cons_succ]
  refine wpAnyH_take (i := 3) (v := ?_) rfl (by kernel_rfl) (by kernel_rfl) (by kernel_rfl) (fun _ _ _ h => h) (Or.inl ⟨by rfl, ?_⟩) B0 ?_
  rotate_left 1
  · intro w hSw; clear hSw; go_simp; try with_reducible rfl
  simp only [List.getElem_toArray, List.getElem_cons_zero, List.getElem_cons_succ, Act.put, List.setIfInBounds_toArray, List.set_cons_zero, List.set_cons_succ]
  refine wpAnyH_take (i := 4) (v := ?_) rfl (by kernel_rfl) (by kernel_rfl) (by kernel_rfl) (fun _ _ _ h => h) (Or.inl ⟨by rfl, ?_⟩) B0 ?_
  rotate_left 1
  · intro w hSw; clear hSw; go_simp; try with_reducible rfl
  simp only [List.getElem_toArray, List.getElem_cons_zero, List.getElem_cons_succ, Act.put, List.setIfInBounds_toArray, List.set_cons_zero, List.set_cons_succ]
  refine wpAnyH_take (i := 5) (v := ?_) rfl (by kernel_rfl) (by kernel_rfl) (by kernel_rfl) (fun _ _ _ h => h) (Or.inl ⟨by rfl, ?_⟩) B0 ?_
  rotate_left 1
  · intro w hSw; clear hSw; go_simp; try with_reducible rfl
  simp only [List.getElem_toArray, List.getElem_cons_zero, List.getElem_cons_succ, Act.put, List.setIfInBounds_toArray, List.set_cons_zero, List.set_cons_succ]
  refine wpAnyH_take (i := 7) (v := ?_) rfl (by kernel_rfl) (by kernel_rfl) (by kernel_rfl) (fun _ _ _ h => h) (Or.inl ⟨by rfl, ?_⟩) B0 ?_
  rotate_left 1
  · intro w hSw; clear hSw; go_simp; try with_reducible rfl
  simp only [List.getElem_toArray, List.getElem_cons_zero, List.getElem_cons_succ, Act.put, List.setIfInBounds_toArray, List.set_cons_zero, List.set_cons_succ]
  refine wpAnyH_take (i := 8) (v := ?_) rfl (by kernel_rfl) (by kernel_rfl) (by kernel_rfl) (fun _ _ _ h => h) (Or.inl ⟨by rfl, ?_⟩) B0 ?_
  rotate_left 1
  · intro w hSw; clear hSw; go_simp; try with_reducible rfl
  simp only [List.getElem_toArray, List.getElem_cons_zero, List.getElem_cons_succ, Act.put, List.setIfInBounds_toArray, List.set_cons_zero, List.set_cons_succ]
  refine wpAnyH_take (i := 9) (v := ?_) rfl (by kernel_rfl) (by kernel_rfl) (by kernel_rfl) (fun _ _ _ h => h) (Or.inl ⟨by rfl, ?_⟩) B0 ?_
  rotate_left 1
  · intro w hSw; clear hSw; go_simp; try with_reducible rfl
  simp only [List.getElem_toArray, List.getElem_cons_zero, List.getElem_cons_succ, Act.put, List.setIfInBounds_toArray, List.set_cons_zero, List.set_cons_succ]
  refine wpAnyH_ready (rs := [6]) (by kernel_rfl) (by simp) ?_
  refine AllReadyH.cons rfl (fun K hK => ?_) AllReadyH.nil
  rw [if_pos (by rfl)]
  go_simp
  refine (HP.out _ B0).mono ?_
  rintro e w1 ⟨ao, cp, rfl, ho1, hb1⟩
  have B1 : Below w.heap.size w w1 := B0.trans (hb1.mono (Nat.le_refl _))
  have ho1 : w1.ownsRow w.heap.size 9 1 (.slice ao F.length cp) F.length (F.map .string) := ho1
  refine hK.out _ _ B1 (fun _ => ?_)
  clear hK K
  try simp only [List.getElem_toArray, List.getElem_cons_zero, List.getElem_cons_succ, Act.put, List.setIfInBounds_toArray, List.set_cons_zero, List.set_cons_succ]
  refine wpAnyH_ready (rs := [10]) (by kernel_rfl) (by simp) ?_
  refine AllReadyH.cons rfl (fun K hK => ?_) AllReadyH.nil
  rw [if_pos (by rfl)]
  go_simp
  refine (HR.out _ B1).mono ?_
  rintro e w2 ⟨rfl, hb2⟩
  have B2 : Below w.heap.size w w2 := B1.trans (hb2.mono B1.size)
  have ho2 := own_below' ho1 hb2
  refine hK.out _ _ B2 (fun _ => ?_)
  clear hK K
  try simp only [List.getElem_toArray, List.getElem_cons_zero, List.getElem_cons_succ, Act.put, List.setIfInBounds_toArray, List.set_cons_zero, List.set_cons_succ]
  refine wpAnyH_ready (rs := [11]) (by kernel_rfl) (by simp) ?_
  refine AllReadyH.cons rfl (fun K hK => ?_) AllReadyH.nil
  rw [if_pos (by rfl)]
  go_simp
  refine (HX.out _).mono ?_
  rintro e w3 ⟨rfl, hb3⟩
  have B3 : Below w.heap.size w w3 := B2.trans (hb3.mono B2.size)
  have ho3 := own_below' ho2 hb3
  refine hK.out _ _ B3 (fun _ => ?_)
  clear hK K
  try simp only [List.getElem_toArray, List.getElem_cons_zero, List.getElem_cons_succ, Act.put, List.setIfInBounds_toArray, List.set_cons_zero, List.set_cons_succ]
  refine wpAnyH_ready (rs := [12]) (by kernel_rfl) (by simp) ?_
  refine AllReadyH.cons rfl (fun K hK => ?_) AllReadyH.nil
  rw [if_pos (by rfl)]
  go_simp
  have hb4 : Below w3.heap.size w3 (w3.alloc (.cells #[.string R] 9)) := (Below.refl _ _).alloc (Nat.le_refl _) _
  have B4 : Below w.heap.size w (w3.alloc (.cells #[.string R] 9)) := B3.trans (hb4.mono B3.size)
  have ho4 := own_below' ho3 hb4
  have hnews : ∀ j u, [Value.string R][j]? = some u → (w3.alloc (.cells #[.string R] 9)).cell? ((⟨w3.heap.size, 0, none⟩ : Addr).add j) = some u := World.news_of_block (heap_alloc_new w3 (.cells #[.string R] 9))
  refine hK.out _ _ B4 (fun _ => ?_)
  clear hK K
  try simp only [List.getElem_toArray, List.getElem_cons_zero, List.getElem_cons_succ, Act.put, List.setIfInBounds_toArray, List.set_cons_zero, List.set_cons_succ]
  refine wpAnyH_ready (rs := [13]) (by kernel_rfl) (by simp) ?_
  refine AllReadyH.cons rfl (fun K hK => ?_) AllReadyH.nil
  rw [if_pos (by rfl)]
  refine wp_append_lies _ (.tmp 33) (.tmp 39) 30 rfl w.heap.size 9 i0 _ 1 16 Tryz.underlying30 hi hz hsz hby rfl (by decide) (.slice ao F.length cp) F.length _ rfl ho4 ⟨w3.heap.size, 0, none⟩ 1 1 [.string R] rfl rfl hnews (by simp [Value.oneCell']) (by decide) (by unfold maxLen; omega) (by omega) B4.size _ rfl ?_
  intro g2 cap2 w5 ho5 hgr5 hat5 hlt5
  have B5 : Below w.heap.size w w5 := B4.trans ((Below.refl _ _).grown hgr5 B4.size (fun k hk => (ho4.lt k hk).1))
  refine hK.out _ _ B5 (fun _ => ?_)
  clear hK K
  try simp only [List.getElem_toArray, List.getElem_cons_zero, List.getElem_cons_succ, Act.put, List.setIfInBounds_toArray, List.set_cons_zero, List.set_cons_succ]
  refine wpAnyH_ready (rs := [14]) (by kernel_rfl) (by simp) ?_
  refine AllReadyH.cons rfl (fun K hK => ?_) AllReadyH.nil
  rw [if_pos (by rfl)]
  go_simp
  refine hK.out _ _ B5 (fun _ => ?_)
  clear hK K
  refine ⟨by kernel_rfl, ?_⟩
  refine NoPanic.normal ?_
  try simp only [List.getElem_toArray, List.getElem_cons_zero, List.getElem_cons_succ, Act.put, List.setIfInBounds_toArray, List.set_cons_zero, List.set_cons_succ]
  go_wp2_with fail
  go_ret
  refine ⟨some ⟨g2, 0, none⟩, cap2, by simp, by simpa using ho5, B5⟩
theorem path_any (K : Nat → Int) : ∀ (n : Nat) (ls : List ByteArray) (v : Value) (i : Nat) (w : World), ls.length = n → i < n → n ≤ 2147483647 → LeafAt w v ls → (∀ s ∈ ls, s.size ≤ 140737488355000) → Tab K w →
    Calls Tryz.prog 166 #[v, .int .i64 i] w fun e w' => madeL w w' e (inclF (sumOf K) ls i) := by
  intro n
  induction n using Nat.strongRecOn with
  | _ n ih =>
  intro ls v i w hn hin hn1 hl hs T
  obtain ⟨g, off, cap, rfl, hcap, hc⟩ : ∃ g off cap, v = .slice (some ⟨g, off, none⟩) ls.length cap ∧ ls.length ≤ cap ∧ ∀ j (h : j < ls.length), w.cell? ⟨g, off + j, none⟩ = some (.string (ls[j]'h)) := by
    rcases hl with ⟨rfl, _⟩ | h
    · simp at hn; omega
    · exact h
  have hszF : ∀ l, (rootF (sumOf K) l).size = 32 := rootF_size (sumOf K) (sumOf_size K)
  by_cases h1 : n = 1
  · have h1' : ls.length = 1 := by omega
    rw [inclF_one (sumOf K) (by omega), h1']
    exact path_one g off cap i w
  · have h2 : 2 ≤ ls.length := by omega
    have hk0 := halfN_pos ls.length
    have hk1 := halfN_lt h2
    have lT : ∀ W, Below w.heap.size w W → LeafAt W (.slice (some ⟨g, off, none⟩) (halfN ls.length) cap) (ls.take (halfN ls.length)) := fun W J => (leaf_take _ (by omega) hcap hc).below J
    have lD : ∀ W, Below w.heap.size w W → LeafAt W (.slice (some ⟨g, off + halfN ls.length, none⟩) (ls.length - halfN ls.length) (cap - halfN ls.length)) (ls.drop (halfN ls.length)) := fun W J => (leaf_drop _ (by omega) hcap hc).below J
    have sT : ∀ s ∈ ls.take (halfN ls.length), s.size ≤ 140737488355000 := fun s hs' => hs s (List.mem_of_mem_take hs')
    have sD : ∀ s ∈ ls.drop (halfN ls.length), s.size ≤ 140737488355000 := fun s hs' => hs s (List.mem_of_mem_drop hs')
    have nT : (ls.take (halfN ls.length)).length = halfN ls.length := by simp; omega
    have nD : (ls.drop (halfN ls.length)).length = ls.length - halfN ls.length := by simp
    by_cases hik : i < halfN ls.length
    · rw [inclF_left (sumOf K) h2 hik]
      exact path_left g off cap ls.length (halfN ls.length) i w _ _ ⟨#[]⟩ (by omega) hk0 hk1 hcap hik (inclF_len (sumOf K) _ _ i nT) (split_any ls.length w h2 (by omega))
        (fun W J => ih (halfN ls.length) (by omega) (ls.take (halfN ls.length)) _ i W nT hik (by omega) (lT W J) sT (T.below J))
        (fun W J => root_any K _ (ls.drop (halfN ls.length)) _ W nD (by omega) (by omega) (lD W J) sD (T.below J)) (htx_any _ (hszF _))
    · rw [inclF_right (sumOf K) h2 hik]
      exact path_right g off cap ls.length (halfN ls.length) i w _ _ ⟨#[]⟩ (by omega) hk0 hk1 hcap (by omega) (by omega) (inclF_len (sumOf K) _ _ _ nD) (split_any ls.length w h2 (by omega))
        (fun W J => by
          have := ih (ls.length - halfN ls.length) (by omega) (ls.drop (halfN ls.length)) _ (i - halfN ls.length) W nD (by omega) (by omega) (lD W J) sD (T.below J)
          rw [show ((i - halfN ls.length : Nat) : Int) = (i : Int) - (halfN ls.length : Int) by omega] at this
          exact this)
        (fun W J => root_any K _ (ls.take (halfN ls.length)) _ W nT hk0 (by omega) (lT W J) sT (T.below J)) (htx_any _ (hszF _))

set_option maxRecDepth 10000 in
set_option maxHeartbeats 400000 in
/-- The program's Inclusion, at a place of a leaf. -/
theorem incl_any (K : Nat → Int) (ls : List ByteArray) (v : Value) (i : Nat) (w : World) (hin : i < ls.length) (hn1 : ls.length ≤ 2147483647) (hl : LeafAt w v ls) (hs : ∀ s ∈ ls, s.size ≤ 140737488355000) (T : Tab K w) :
    Calls Tryz.prog 71 #[v, .int .i64 i] w fun e w' => ∃ ao cap, e = .returned (.tuple #[.slice ao (inclF (sumOf K) ls i).length cap, .nilIface]) ∧ w'.ownsRow w.heap.size 9 1 (.slice ao (inclF (sumOf K) ls i).length cap) (inclF (sumOf K) ls i).length ((inclF (sumOf K) ls i).map .string) ∧ Below w.heap.size w w' := by
  have hp := path_any K _ ls v i w rfl hin hn1 hl hs T
  obtain ⟨g, off, cap, rfl, hcap, hc⟩ : ∃ g off cap, v = .slice (some ⟨g, off, none⟩) ls.length cap ∧ ls.length ≤ cap ∧ ∀ j (h : j < ls.length), w.cell? ⟨g, off + j, none⟩ = some (.string (ls[j]'h)) := by
    rcases hl with ⟨rfl, _⟩ | h
    · simp at hin
    · exact h
  generalize inclF (sumOf K) ls i = F at *
  have HP : Hid (Calls Tryz.prog 166 #[.slice (some ⟨g, off, none⟩) ls.length cap, .int .i64 i] w fun e w' => madeL w w' e F) := hp
  clear hp hc hl hs T
  generalize ls.length = N at *
  have i0 : ¬ (i : Int) < 0 := by omega
  have i1 : ¬ (N : Int) ≤ (i : Int) := by omega
  have hin' : Calls Tryz.prog 119 #[.slice (some ⟨g, off, none⟩) N cap, .int .i64 i] w fun e w' => ∃ ao cap, e = .returned (.tuple #[.slice ao F.length cap, .nilIface]) ∧ w'.ownsRow w.heap.size 9 1 (.slice ao F.length cap) F.length (F.map .string) ∧ Below w.heap.size w w' := by
    go_enter Tryz.func119, Tryz.ntmps119
    go_wp2_with fail
    refine HP.out.mono ?_
    rintro e w1 ⟨ao, cp, rfl, ho, hb⟩
    go_wp2_with fail
    go_ret2
    exact ⟨ao, cp, rfl, ho, hb⟩
  have HI : Hid (Calls Tryz.prog 119 #[.slice (some ⟨g, off, none⟩) N cap, .int .i64 i] w fun e w' => ∃ ao cap, e = .returned (.tuple #[.slice ao F.length cap, .nilIface]) ∧ w'.ownsRow w.heap.size 9 1 (.slice ao F.length cap) F.length (F.map .string) ∧ Below w.heap.size w w') := hin'
  clear hin' HP i0 i1
  go_enter Tryz.func71, Tryz.ntmps71
  go_wp2_with fail
  refine HI.out.mono ?_
  rintro e w1 ⟨ao, cp, rfl, ho, hb⟩
  go_wp2_with fail
  go_ret2
  exact ⟨ao, cp, rfl, ho, hb⟩

set_option maxRecDepth 10000 in
set_option maxHeartbeats 400000 in
/-- The program's Root, of some leaves. -/
theorem aroot_any (K : Nat → Int) (ls : List ByteArray) (v : Value) (w : World) (hn0 : 0 < ls.length) (hn1 : ls.length ≤ 2147483647) (hl : LeafAt w v ls) (hs : ∀ s ∈ ls, s.size ≤ 140737488355000) (T : Tab K w) :
    Calls Tryz.prog 66 #[v] w fun e w' => e = .returned (.string (rootF (sumOf K) ls)) ∧ Below w.heap.size w w' := by
  have hr := root_any K _ ls v w rfl hn0 hn1 hl hs T
  have htx := htx_any (rootF (sumOf K) ls) (rootF_size (sumOf K) (sumOf_size K) ls)
  obtain ⟨g, off, cap, rfl, hcap, hc⟩ : ∃ g off cap, v = .slice (some ⟨g, off, none⟩) ls.length cap ∧ ls.length ≤ cap ∧ ∀ j (h : j < ls.length), w.cell? ⟨g, off + j, none⟩ = some (.string (ls[j]'h)) := by
    rcases hl with ⟨rfl, _⟩ | h
    · simp at hn0
    · exact h
  generalize rootF (sumOf K) ls = R at *
  clear hc hl hs T
  generalize ls.length = N at *
  go_enter Tryz.func66, Tryz.ntmps66
  go_wp2_with fail
  refine hr.mono ?_
  rintro e w1 ⟨rfl, hb1⟩
  clear hr
  go_wp2_with fail
  refine (htx w1).mono ?_
  rintro e w2 ⟨rfl, hb2⟩
  clear htx
  go_wp2_with fail
  go_ret
  exact ⟨rfl, hb1.trans (hb2.mono hb1.size)⟩
end Go.Proofs.YtijdnpoenpjnlaaGreatDoor
set_option linter.unusedVariables false
set_option linter.unusedSimpArgs false
namespace Go.Proofs.YtijdnpoenpjnlaaGreatDoor

theorem halfN_between {n m : Nat} (hn : 2 ≤ n) (h1 : halfN n < m) (h2 : m ≤ n) : halfN m = halfN n := by
  have h3 := halfN_two hn
  exact (halfN_unique (n := m) (j := Nat.log2 (n - 1)) h1 (by have : n ≤ 2 * 2 ^ Nat.log2 (n - 1) := h3; omega)).symm
/-- The hashes by which a tree is proved to have grown. -/
def grownF (H : ByteArray → ByteArray) (l : List ByteArray) (m : Nat) (whole : Bool) : List ByteArray :=
  if m = l.length then (if whole then [] else [rootF H l]) else
  if h : l.length < 2 then [] else
    if m ≤ halfN l.length then grownF H (l.take (halfN l.length)) m whole ++ [rootF H (l.drop (halfN l.length))]
    else grownF H (l.drop (halfN l.length)) (m - halfN l.length) false ++ [rootF H (l.take (halfN l.length))]
  termination_by l.length
  decreasing_by
    · have := halfN_lt (n := l.length) (by omega); simp; omega
    · have := halfN_pos l.length; simp; omega
theorem grownF_all (H : ByteArray → ByteArray) {l : List ByteArray} {m : Nat} (w : Bool) (h : m = l.length) : grownF H l m w = if w then [] else [rootF H l] := by rw [grownF, if_pos h]
theorem grownF_left (H : ByteArray → ByteArray) {l : List ByteArray} {m : Nat} (w : Bool) (h0 : 0 < m) (h : m < l.length) (hm : m ≤ halfN l.length) : grownF H l m w = grownF H (l.take (halfN l.length)) m w ++ [rootF H (l.drop (halfN l.length))] := by
  rw [grownF, if_neg (by omega), dif_neg (by omega), if_pos hm]
theorem grownF_right (H : ByteArray → ByteArray) {l : List ByteArray} {m : Nat} (w : Bool) (h0 : 0 < m) (h : m < l.length) (hm : ¬ m ≤ halfN l.length) : grownF H l m w = grownF H (l.drop (halfN l.length)) (m - halfN l.length) false ++ [rootF H (l.take (halfN l.length))] := by
  rw [grownF, if_neg (by omega), dif_neg (by omega), if_neg hm]
theorem grownF_len (H : ByteArray → ByteArray) : ∀ (n : Nat) (l : List ByteArray) (m : Nat) (w : Bool), l.length = n → 0 < m → m ≤ n → (grownF H l m w).length ≤ n := by
  intro n
  induction n using Nat.strongRecOn with
  | _ n ih =>
  intro l m w hn h0 hm
  by_cases h1 : m = l.length
  · rw [grownF_all H w h1]; cases w <;> simp <;> omega
  · have h2 : 2 ≤ l.length := by omega
    have hk0 := halfN_pos l.length
    have hk1 := halfN_lt h2
    by_cases hi : m ≤ halfN l.length
    · rw [grownF_left H w h0 (by omega) hi]
      have := ih (halfN l.length) (by omega) (l.take (halfN l.length)) m w (by simp; omega) h0 hi
      simp; omega
    · rw [grownF_right H w h0 (by omega) hi]
      have := ih (l.length - halfN l.length) (by omega) (l.drop (halfN l.length)) (m - halfN l.length) false (by simp) (by omega) (by omega)
      simp; omega
theorem grownF_sizes (H : ByteArray → ByteArray) (hH : ∀ s, (H s).size = 32) : ∀ (n : Nat) (l : List ByteArray) (m : Nat) (w : Bool), l.length = n → 0 < m → m ≤ n → ∀ b ∈ grownF H l m w, b.size = 32 := by
  intro n
  induction n using Nat.strongRecOn with
  | _ n ih =>
  intro l m w hn h0 hm b hb
  by_cases h1 : m = l.length
  · rw [grownF_all H w h1] at hb
    cases w
    · simp at hb; rw [hb]; exact rootF_size H hH _
    · simp at hb
  · have h2 : 2 ≤ l.length := by omega
    have hk0 := halfN_pos l.length
    have hk1 := halfN_lt h2
    by_cases hi : m ≤ halfN l.length
    · rw [grownF_left H w h0 (by omega) hi] at hb
      rcases List.mem_append.1 hb with hb | hb
      · exact ih (halfN l.length) (by omega) (l.take (halfN l.length)) m w (by simp; omega) h0 hi b hb
      · simp at hb; rw [hb]; exact rootF_size H hH _
    · rw [grownF_right H w h0 (by omega) hi] at hb
      rcases List.mem_append.1 hb with hb | hb
      · exact ih (l.length - halfN l.length) (by omega) (l.drop (halfN l.length)) (m - halfN l.length) false (by simp) (by omega) (by omega) b hb
      · simp at hb; rw [hb]; exact rootF_size H hH _

def zT : ByteArray := strOfNums (List.replicate 32 0)
theorem zT_size : zT.size = 32 := rfl
/-- The two roots to which a proof leads, and if it has the hashes that it needs. -/
def regF (H : ByteArray → ByteArray) (known : ByteArray) (m n : Nat) (whole : Bool) (pf : List ByteArray) : ByteArray × ByteArray × Bool :=
  if m = n ∧ whole = true then (known, known, pf.isEmpty) else
  match h : pf.getLast? with
  | none => (zT, zT, false)
  | some b => if b.size = 32 then
      (if m = n then (b, b, pf.dropLast.isEmpty) else
       if m ≤ halfN n then ((regF H known m (halfN n) whole pf.dropLast).1, H (m1 ++ (regF H known m (halfN n) whole pf.dropLast).2.1 ++ b), (regF H known m (halfN n) whole pf.dropLast).2.2)
       else (H (m1 ++ b ++ (regF H known (m - halfN n) (n - halfN n) false pf.dropLast).1), H (m1 ++ b ++ (regF H known (m - halfN n) (n - halfN n) false pf.dropLast).2.1), (regF H known (m - halfN n) (n - halfN n) false pf.dropLast).2.2))
      else (zT, zT, false)
  termination_by pf.length
  decreasing_by all_goals (have : pf ≠ [] := by intro e; rw [e] at h; simp at h) <;> (have := List.length_pos_iff.2 this) <;> simp <;> omega
theorem regF_whole (H : ByteArray → ByteArray) (known : ByteArray) (n : Nat) (pf : List ByteArray) : regF H known n n true pf = (known, known, pf.isEmpty) := by rw [regF, if_pos ⟨rfl, rfl⟩]
theorem regF_none (H : ByteArray → ByteArray) (known : ByteArray) (m n : Nat) (whole : Bool) (hn : ¬ (m = n ∧ whole = true)) : regF H known m n whole [] = (zT, zT, false) := by rw [regF, if_neg hn]; rfl
theorem regF_bad (H : ByteArray → ByteArray) (known : ByteArray) (m n : Nat) (whole : Bool) (hn : ¬ (m = n ∧ whole = true)) (pf : List ByteArray) (b : ByteArray) (hb : b.size ≠ 32) : regF H known m n whole (pf ++ [b]) = (zT, zT, false) := by
  rw [regF, if_neg hn]
  split
  · rfl
  · rename_i b' h
    rw [List.getLast?_concat] at h
    obtain rfl := Option.some.inj h
    rw [if_neg hb]
theorem regF_all (H : ByteArray → ByteArray) (known : ByteArray) (n : Nat) (pf : List ByteArray) (b : ByteArray) (hb : b.size = 32) : regF H known n n false (pf ++ [b]) = (b, b, pf.isEmpty) := by
  rw [regF, if_neg (by simp)]
  split
  · rename_i h; rw [List.getLast?_concat] at h; cases h
  · rename_i b' h
    rw [List.getLast?_concat] at h
    obtain rfl := Option.some.inj h
    rw [if_pos hb, if_pos rfl, List.dropLast_concat]
theorem regF_left (H : ByteArray → ByteArray) (known : ByteArray) (m n : Nat) (whole : Bool) (hn : m ≠ n) (pf : List ByteArray) (b : ByteArray) (hb : b.size = 32) (hi : m ≤ halfN n) :
    regF H known m n whole (pf ++ [b]) = ((regF H known m (halfN n) whole pf).1, H (m1 ++ (regF H known m (halfN n) whole pf).2.1 ++ b), (regF H known m (halfN n) whole pf).2.2) := by
  rw [regF, if_neg (fun h => hn h.1)]
  split
  · rename_i h; rw [List.getLast?_concat] at h; cases h
  · rename_i b' h
    rw [List.getLast?_concat] at h
    obtain rfl := Option.some.inj h
    rw [if_pos hb, if_neg hn, if_pos hi, List.dropLast_concat]
theorem regF_right (H : ByteArray → ByteArray) (known : ByteArray) (m n : Nat) (whole : Bool) (hn : m ≠ n) (pf : List ByteArray) (b : ByteArray) (hb : b.size = 32) (hi : ¬ m ≤ halfN n) :
    regF H known m n whole (pf ++ [b]) = (H (m1 ++ b ++ (regF H known (m - halfN n) (n - halfN n) false pf).1), H (m1 ++ b ++ (regF H known (m - halfN n) (n - halfN n) false pf).2.1), (regF H known (m - halfN n) (n - halfN n) false pf).2.2) := by
  rw [regF, if_neg (fun h => hn h.1)]
  split
  · rename_i h; rw [List.getLast?_concat] at h; cases h
  · rename_i b' h
    rw [List.getLast?_concat] at h
    obtain rfl := Option.some.inj h
    rw [if_pos hb, if_neg hn, if_neg hi, List.dropLast_concat]
theorem snoc_of {α : Type} {pf : List α} (h : pf ≠ []) : ∃ rest b, pf = rest ++ [b] := ⟨pf.dropLast, pf.getLast h, (List.dropLast_concat_getLast _).symm⟩
theorem regF_sizes (H : ByteArray → ByteArray) (hH : ∀ s, (H s).size = 32) (known : ByteArray) (hk : known.size = 32) : ∀ (q : Nat) (pf : List ByteArray) (m n : Nat) (whole : Bool), pf.length = q → (regF H known m n whole pf).1.size = 32 ∧ (regF H known m n whole pf).2.1.size = 32 := by
  intro q
  induction q with
  | zero =>
    intro pf m n whole hq
    obtain rfl := List.eq_nil_of_length_eq_zero hq
    by_cases h1 : m = n ∧ whole = true
    · obtain ⟨rfl, rfl⟩ := h1; rw [regF_whole]; exact ⟨hk, hk⟩
    · rw [regF_none H _ _ _ _ h1]; exact ⟨zT_size, zT_size⟩
  | succ q ih =>
    intro pf m n whole hq
    obtain ⟨rest, b, rfl⟩ := snoc_of (pf := pf) (by intro e; subst e; simp at hq)
    have hr : rest.length = q := by simp at hq; exact hq
    by_cases h1 : m = n ∧ whole = true
    · obtain ⟨rfl, rfl⟩ := h1; rw [regF_whole]; exact ⟨hk, hk⟩
    · by_cases hb : b.size = 32
      · by_cases h2 : m = n
        · have hw : whole = false := by cases whole <;> simp_all
          subst h2 hw
          rw [regF_all H _ _ _ _ hb]; exact ⟨hb, hb⟩
        · by_cases hi : m ≤ halfN n
          · rw [regF_left H _ _ _ _ h2 _ _ hb hi]; exact ⟨(ih rest m (halfN n) whole hr).1, hH _⟩
          · rw [regF_right H _ _ _ _ h2 _ _ hb hi]; exact ⟨hH _, hH _⟩
      · rw [regF_bad H _ _ _ _ h1 _ _ hb]; exact ⟨zT_size, zT_size⟩

/-- What known.both makes, and the texts that are hashed for it. -/
def bothF (H : ByteArray → ByteArray) (a : ByteArray) (m n : Nat) (whole : Bool) (pf : List ByteArray) : ByteArray × ByteArray × List ByteArray :=
  if m = n ∧ whole = true then (a, a, []) else
  match h : pf.getLast? with
  | none => (a, a, [])
  | some b =>
      if m = n then (b, b, []) else
       if m ≤ halfN n then ((bothF H a m (halfN n) whole pf.dropLast).1, H (m1 ++ (bothF H a m (halfN n) whole pf.dropLast).2.1 ++ b), (bothF H a m (halfN n) whole pf.dropLast).2.2 ++ [m1 ++ (bothF H a m (halfN n) whole pf.dropLast).2.1 ++ b])
       else (H (m1 ++ b ++ (bothF H a (m - halfN n) (n - halfN n) false pf.dropLast).1), H (m1 ++ b ++ (bothF H a (m - halfN n) (n - halfN n) false pf.dropLast).2.1), (bothF H a (m - halfN n) (n - halfN n) false pf.dropLast).2.2 ++ [m1 ++ b ++ (bothF H a (m - halfN n) (n - halfN n) false pf.dropLast).1] ++ [m1 ++ b ++ (bothF H a (m - halfN n) (n - halfN n) false pf.dropLast).2.1])
  termination_by pf.length
  decreasing_by all_goals (have : pf ≠ [] := by intro e; rw [e] at h; simp at h) <;> (have := List.length_pos_iff.2 this) <;> simp <;> omega
theorem bothF_whole (H : ByteArray → ByteArray) (a : ByteArray) (n : Nat) (pf : List ByteArray) : bothF H a n n true pf = (a, a, []) := by rw [bothF, if_pos ⟨rfl, rfl⟩]
theorem bothF_none (H : ByteArray → ByteArray) (a : ByteArray) (m n : Nat) (whole : Bool) : bothF H a m n whole [] = (a, a, []) := by
  rw [bothF]; split <;> rfl
theorem bothF_all (H : ByteArray → ByteArray) (a : ByteArray) (n : Nat) (pf : List ByteArray) (b : ByteArray) : bothF H a n n false (pf ++ [b]) = (b, b, []) := by
  rw [bothF, if_neg (by simp)]
  split
  · rename_i h; rw [List.getLast?_concat] at h; cases h
  · rename_i b' h
    rw [List.getLast?_concat] at h
    obtain rfl := Option.some.inj h
    rw [if_pos rfl]
theorem bothF_left (H : ByteArray → ByteArray) (a : ByteArray) (m n : Nat) (whole : Bool) (hn : m ≠ n) (pf : List ByteArray) (b : ByteArray) (hi : m ≤ halfN n) :
    bothF H a m n whole (pf ++ [b]) = ((bothF H a m (halfN n) whole pf).1, H (m1 ++ (bothF H a m (halfN n) whole pf).2.1 ++ b), (bothF H a m (halfN n) whole pf).2.2 ++ [m1 ++ (bothF H a m (halfN n) whole pf).2.1 ++ b]) := by
  rw [bothF, if_neg (fun h => hn h.1)]
  split
  · rename_i h; rw [List.getLast?_concat] at h; cases h
  · rename_i b' h
    rw [List.getLast?_concat] at h
    obtain rfl := Option.some.inj h
    rw [if_neg hn, if_pos hi, List.dropLast_concat]
theorem bothF_right (H : ByteArray → ByteArray) (a : ByteArray) (m n : Nat) (whole : Bool) (hn : m ≠ n) (pf : List ByteArray) (b : ByteArray) (hi : ¬ m ≤ halfN n) :
    bothF H a m n whole (pf ++ [b]) = (H (m1 ++ b ++ (bothF H a (m - halfN n) (n - halfN n) false pf).1), H (m1 ++ b ++ (bothF H a (m - halfN n) (n - halfN n) false pf).2.1), (bothF H a (m - halfN n) (n - halfN n) false pf).2.2 ++ [m1 ++ b ++ (bothF H a (m - halfN n) (n - halfN n) false pf).1] ++ [m1 ++ b ++ (bothF H a (m - halfN n) (n - halfN n) false pf).2.1]) := by
  rw [bothF, if_neg (fun h => hn h.1)]
  split
  · rename_i h; rw [List.getLast?_concat] at h; cases h
  · rename_i b' h
    rw [List.getLast?_concat] at h
    obtain rfl := Option.some.inj h
    rw [if_neg hn, if_neg hi, List.dropLast_concat]
theorem bothF_len (H : ByteArray → ByteArray) (a : ByteArray) : ∀ (q : Nat) (pf : List ByteArray) (m n : Nat) (whole : Bool), pf.length = q → (bothF H a m n whole pf).2.2.length ≤ 2 * q := by
  intro q
  induction q with
  | zero => intro pf m n whole hq; obtain rfl := List.eq_nil_of_length_eq_zero hq; rw [bothF_none]; simp
  | succ q ih =>
    intro pf m n whole hq
    obtain ⟨rest, b, rfl⟩ := snoc_of (pf := pf) (by intro e; subst e; simp at hq)
    have hr : rest.length = q := by simp at hq; exact hq
    by_cases h1 : m = n ∧ whole = true
    · obtain ⟨rfl, rfl⟩ := h1; rw [bothF_whole]; simp
    · by_cases h2 : m = n
      · have hw : whole = false := by cases whole <;> simp_all
        subst h2 hw
        rw [bothF_all]; simp
      · by_cases hi : m ≤ halfN n
        · rw [bothF_left H _ _ _ _ h2 _ _ hi]; have := ih rest m (halfN n) whole hr; simp; omega
        · rw [bothF_right H _ _ _ _ h2 _ _ hi]; have := ih rest (m - halfN n) (n - halfN n) false hr; simp; omega
theorem bothF_size (H : ByteArray → ByteArray) (hH : ∀ s, (H s).size = 32) (a : ByteArray) (ha : a.size = 32) : ∀ (q : Nat) (pf : List ByteArray) (m n : Nat) (whole : Bool), pf.length = q → (∀ b ∈ pf, b.size ≤ 100000) → (bothF H a m n whole pf).1.size ≤ 100000 ∧ (bothF H a m n whole pf).2.1.size ≤ 100000 := by
  intro q
  induction q with
  | zero => intro pf m n whole hq hb; obtain rfl := List.eq_nil_of_length_eq_zero hq; rw [bothF_none]; simp; omega
  | succ q ih =>
    intro pf m n whole hq hb
    obtain ⟨rest, b, rfl⟩ := snoc_of (pf := pf) (by intro e; subst e; simp at hq)
    have hr : rest.length = q := by simp at hq; exact hq
    have hb' := hb b (by simp)
    by_cases h1 : m = n ∧ whole = true
    · obtain ⟨rfl, rfl⟩ := h1; rw [bothF_whole]; simp; omega
    · by_cases h2 : m = n
      · have hw : whole = false := by cases whole <;> simp_all
        subst h2 hw
        rw [bothF_all]; simp; omega
      · by_cases hi : m ≤ halfN n
        · rw [bothF_left H _ _ _ _ h2 _ _ hi]; have := ih rest m (halfN n) whole hr (fun x hx => hb x (by simp [hx])); refine ⟨this.1, ?_⟩; show (H _).size ≤ _; rw [hH]; omega
        · rw [bothF_right H _ _ _ _ h2 _ _ hi]; constructor <;> show (H _).size ≤ _ <;> rw [hH] <;> omega

theorem take_root (H : ByteArray → ByteArray) {l : List ByteArray} {m : Nat} (h2 : 2 ≤ l.length) (hm : ¬ m ≤ halfN l.length) (hm2 : m ≤ l.length) :
    rootF H (l.take m) = H (m1 ++ rootF H (l.take (halfN l.length)) ++ rootF H ((l.drop (halfN l.length)).take (m - halfN l.length))) := by
  have hk0 := halfN_pos l.length
  have hl : (l.take m).length = m := by simp; omega
  have hh : halfN m = halfN l.length := halfN_between h2 (by omega) hm2
  rw [rootF_more H (l := l.take m) (by omega), hl, hh, List.take_take, Nat.min_eq_left (by omega), List.drop_take]
/-- A proof that was made leads to both roots. -/
theorem reg_good (H : ByteArray → ByteArray) (hH : ∀ s, (H s).size = 32) : ∀ (n : Nat) (l : List ByteArray) (m : Nat) (whole : Bool) (known : ByteArray), l.length = n → 0 < m → m ≤ n → (whole = true → known = rootF H (l.take m)) → regF H known m n whole (grownF H l m whole) = (rootF H (l.take m), rootF H l, true) := by
  intro n
  induction n using Nat.strongRecOn with
  | _ n ih =>
  intro l m whole known hl h0 hm hk
  by_cases h1 : m = n
  · subst h1
    rw [grownF_all H whole hl.symm]
    have e : l.take m = l := by rw [← hl]; exact List.take_length
    cases whole
    · rw [if_neg (by simp), show [rootF H l] = [] ++ [rootF H l] from rfl, regF_all H _ _ _ _ (rootF_size H hH _), e]; rfl
    · rw [if_pos rfl, regF_whole, hk rfl, e]; rfl
  · have h2 : 2 ≤ l.length := by omega
    have hk0 := halfN_pos l.length
    have hk1 := halfN_lt h2
    by_cases hi : m ≤ halfN l.length
    · rw [grownF_left H whole h0 (by omega) hi, ← hl, regF_left H _ _ _ _ (by omega) _ _ (rootF_size H hH _) hi]
      have et : (l.take (halfN l.length)).take m = l.take m := by rw [List.take_take, Nat.min_eq_left hi]
      rw [ih (halfN l.length) (by omega) (l.take (halfN l.length)) m whole known (by simp; omega) h0 hi (fun h => by rw [et]; exact hk h), et, rootF_more H h2]
    · rw [grownF_right H whole h0 (by omega) hi, ← hl, regF_right H _ _ _ _ (by omega) _ _ (rootF_size H hH _) hi]
      rw [ih (l.length - halfN l.length) (by omega) (l.drop (halfN l.length)) (m - halfN l.length) false known (by simp) (by omega) (by omega) (fun h => by cases h), rootF_more H h2, take_root H h2 hi (by omega)]

/-- A proof that fits has as many hashes. -/
theorem reg_len (H : ByteArray → ByteArray) : ∀ (n : Nat) (l : List ByteArray) (m : Nat) (whole : Bool) (known : ByteArray) (pf : List ByteArray), l.length = n → 0 < m → m ≤ n → (regF H known m n whole pf).2.2 = true → pf.length = (grownF H l m whole).length := by
  intro n
  induction n using Nat.strongRecOn with
  | _ n ih =>
  intro l m whole known pf hl h0 hm hf
  by_cases h1 : m = n ∧ whole = true
  · obtain ⟨rfl, rfl⟩ := h1
    rw [grownF_all H true hl.symm, if_pos rfl]
    rw [regF_whole] at hf
    simpa using hf
  · by_cases hp : pf = []
    · subst hp; rw [regF_none H _ _ _ _ h1] at hf; cases hf
    · obtain ⟨rest, b, rfl⟩ := snoc_of hp
      by_cases hb : b.size = 32
      · by_cases h2 : m = n
        · have hw : whole = false := by cases whole <;> simp_all
          subst h2 hw
          rw [regF_all H _ _ _ _ hb] at hf
          rw [grownF_all H false hl.symm]
          have : rest = [] := by simpa using hf
          simp [this]
        · have h3 : 2 ≤ l.length := by omega
          have hk0 := halfN_pos l.length
          have hk1 := halfN_lt h3
          rw [← hl] at hf
          by_cases hi : m ≤ halfN l.length
          · rw [regF_left H _ _ _ _ (by omega) _ _ hb hi] at hf
            rw [grownF_left H whole h0 (by omega) hi]
            have := ih (halfN l.length) (by omega) (l.take (halfN l.length)) m whole known rest (by simp; omega) h0 hi hf
            simp [this]
          · rw [regF_right H _ _ _ _ (by omega) _ _ hb hi] at hf
            rw [grownF_right H whole h0 (by omega) hi]
            have := ih (l.length - halfN l.length) (by omega) (l.drop (halfN l.length)) (m - halfN l.length) false known rest (by simp) (by omega) (by omega) hf
            simp [this]
      · rw [regF_bad H _ _ _ _ h1 _ _ hb] at hf; cases hf

/-- What known.both makes is what the check makes, where the proof fits. -/
theorem both_reg (H : ByteArray → ByteArray) (a : ByteArray) : ∀ (q : Nat) (pf : List ByteArray) (m n : Nat) (whole : Bool), pf.length = q → (regF H a m n whole pf).2.2 = true → (bothF H a m n whole pf).1 = (regF H a m n whole pf).1 ∧ (bothF H a m n whole pf).2.1 = (regF H a m n whole pf).2.1 := by
  intro q
  induction q with
  | zero =>
    intro pf m n whole hq hf
    obtain rfl := List.eq_nil_of_length_eq_zero hq
    by_cases h1 : m = n ∧ whole = true
    · obtain ⟨rfl, rfl⟩ := h1; rw [regF_whole, bothF_whole]; exact ⟨rfl, rfl⟩
    · rw [regF_none H _ _ _ _ h1] at hf; cases hf
  | succ q ih =>
    intro pf m n whole hq hf
    obtain ⟨rest, b, rfl⟩ := snoc_of (pf := pf) (by intro e; subst e; simp at hq)
    have hr : rest.length = q := by simp at hq; exact hq
    by_cases h1 : m = n ∧ whole = true
    · obtain ⟨rfl, rfl⟩ := h1; rw [regF_whole, bothF_whole]; exact ⟨rfl, rfl⟩
    · by_cases hb : b.size = 32
      · by_cases h2 : m = n
        · have hw : whole = false := by cases whole <;> simp_all
          subst h2 hw
          rw [regF_all H _ _ _ _ hb, bothF_all]; exact ⟨rfl, rfl⟩
        · by_cases hi : m ≤ halfN n
          · rw [regF_left H _ _ _ _ h2 _ _ hb hi] at hf ⊢
            rw [bothF_left H _ _ _ _ h2 _ _ hi]
            have := ih rest m (halfN n) whole hr hf
            exact ⟨this.1, by show H _ = H _; rw [this.2]⟩
          · rw [regF_right H _ _ _ _ h2 _ _ hb hi] at hf ⊢
            rw [bothF_right H _ _ _ _ h2 _ _ hi]
            have := ih rest (m - halfN n) (n - halfN n) false hr hf
            exact ⟨by show H _ = H _; rw [this.1], by show H _ = H _; rw [this.2]⟩
      · rw [regF_bad H _ _ _ _ h1 _ _ hb] at hf; cases hf

/-- A proof that leads to the root is the one that was made, and its old root the right one; or two texts of one hash are in hand. -/
theorem reg_clash (H : ByteArray → ByteArray) (hH : ∀ s, (H s).size = 32) (known : ByteArray) (hk : known.size = 32) : ∀ (n : Nat) (l : List ByteArray) (m : Nat) (whole : Bool) (pf : List ByteArray), l.length = n → 0 < m → m ≤ n → (regF H known m n whole pf).2 = (rootF H l, true) →
    ((regF H known m n whole pf).1 = rootF H (l.take m) ∧ pf = grownF H l m whole) ∨ ∃ a ∈ rootT H l, ∃ b ∈ (bothF H known m n whole pf).2.2, H a = H b ∧ a ≠ b := by
  intro n
  induction n using Nat.strongRecOn with
  | _ n ih =>
  intro l m whole pf hl h0 hm hc
  by_cases h1 : m = n ∧ whole = true
  · obtain ⟨rfl, rfl⟩ := h1
    rw [regF_whole] at hc ⊢
    obtain ⟨hc1, hc2⟩ := Prod.mk.inj hc
    left
    have e : l.take m = l := by rw [← hl]; exact List.take_length
    rw [e, grownF_all H true hl.symm, if_pos rfl]
    exact ⟨hc1, by simpa using hc2⟩
  · by_cases hp : pf = []
    · subst hp; rw [regF_none H _ _ _ _ h1] at hc; cases (Prod.mk.inj hc).2
    · obtain ⟨rest, b, rfl⟩ := snoc_of hp
      by_cases hb : b.size = 32
      · by_cases h2 : m = n
        · have hw : whole = false := by cases whole <;> simp_all
          subst h2 hw
          rw [regF_all H _ _ _ _ hb] at hc ⊢
          obtain ⟨hc1, hc2⟩ := Prod.mk.inj hc
          left
          have e : l.take m = l := by rw [← hl]; exact List.take_length
          have hr : rest = [] := by simpa using hc2
          rw [e, grownF_all H false hl.symm, hr]
          exact ⟨hc1, by rw [← hc1]; rfl⟩
        · have h3 : 2 ≤ l.length := by omega
          have hk0 := halfN_pos l.length
          have hk1 := halfN_lt h3
          have nT : (l.take (halfN l.length)).length = halfN l.length := by simp; omega
          have nD : (l.drop (halfN l.length)).length = l.length - halfN l.length := by simp
          rw [← hl] at hc ⊢
          by_cases hi : m ≤ halfN l.length
          · rw [regF_left H _ _ _ _ (by omega) _ _ hb hi] at hc ⊢
            obtain ⟨hc1, hc2⟩ := Prod.mk.inj hc
            rw [rootF_more H h3] at hc1
            have hbo := (both_reg H known _ rest m (halfN l.length) whole rfl hc2).2
            rw [bothF_left H _ _ _ _ (by omega) _ _ hi, rootT_more H h3, hbo]
            by_cases ht : m1 ++ (regF H known m (halfN l.length) whole rest).2.1 ++ b = m1 ++ rootF H (l.take (halfN l.length)) ++ rootF H (l.drop (halfN l.length))
            · obtain ⟨e1, e2⟩ := three_inj m1 (by rw [(regF_sizes H hH known hk _ rest _ _ _ rfl).2, rootF_size H hH]) ht
              rcases ih (halfN l.length) (by omega) (l.take (halfN l.length)) m whole rest nT h0 hi (Prod.ext e1 hc2) with ⟨h4, h5⟩ | ⟨a, ha, b', hb', h6⟩
              · left
                refine ⟨by show (regF H known m (halfN l.length) whole rest).1 = _; rw [h4, List.take_take, Nat.min_eq_left hi], ?_⟩
                rw [grownF_left H whole h0 (by omega) hi, h5, e2]
              · right
                exact ⟨a, by simp [ha], b', by simp [hb'], h6⟩
            · right
              exact ⟨_, by simp, _, by simp, hc1.symm, fun e => ht e.symm⟩
          · rw [regF_right H _ _ _ _ (by omega) _ _ hb hi] at hc ⊢
            obtain ⟨hc1, hc2⟩ := Prod.mk.inj hc
            rw [rootF_more H h3] at hc1
            have hbo := (both_reg H known _ rest (m - halfN l.length) (l.length - halfN l.length) false rfl hc2).2
            rw [bothF_right H _ _ _ _ (by omega) _ _ hi, rootT_more H h3, hbo]
            by_cases ht : m1 ++ b ++ (regF H known (m - halfN l.length) (l.length - halfN l.length) false rest).2.1 = m1 ++ rootF H (l.take (halfN l.length)) ++ rootF H (l.drop (halfN l.length))
            · obtain ⟨e1, e2⟩ := three_inj m1 (by rw [hb, rootF_size H hH]) ht
              rcases ih (l.length - halfN l.length) (by omega) (l.drop (halfN l.length)) (m - halfN l.length) false rest nD (by omega) (by omega) (Prod.ext e2 hc2) with ⟨h4, h5⟩ | ⟨a, ha, b', hb', h6⟩
              · left
                refine ⟨by show H _ = _; rw [h4, take_root H h3 hi (by omega), e1], ?_⟩
                rw [grownF_right H whole h0 (by omega) hi, ← h5, e1]
              · right
                exact ⟨a, by simp [ha], b', by simp [hb'], h6⟩
            · right
              exact ⟨_, by simp, _, by simp, hc1.symm, fun e => ht e.symm⟩
      · rw [regF_bad H _ _ _ _ h1 _ _ hb] at hc; cases (Prod.mk.inj hc).2
end Go.Proofs.YtijdnpoenpjnlaaGreatDoor
