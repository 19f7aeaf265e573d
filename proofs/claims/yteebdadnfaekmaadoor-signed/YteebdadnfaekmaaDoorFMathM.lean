import Derived.Test.YteebdadnfaekmaaDoorPSignM
import Derived.Test.YteebdadnfaekmaaDoorIFacts
set_option linter.unusedVariables false
set_option linter.unusedSimpArgs false
namespace Go.Proofs.YteebdadnfaekmaaDoor
open Go.RowKit

/-- The texts that are hashed along a chain. -/
def stepT (H : ByteArray → ByteArray) (x : ByteArray) : Nat → List ByteArray
  | 0 => []
  | n + 1 => stepT H x n ++ [m2 ++ stepF H x n]
theorem stepT_len (H : ByteArray → ByteArray) (x : ByteArray) : ∀ n, (stepT H x n).length = n
  | 0 => rfl
  | n + 1 => by rw [stepT, List.length_append, stepT_len H x n]; rfl
theorem mem_stepT (H : ByteArray → ByteArray) (x : ByteArray) : ∀ n j, j < n → m2 ++ stepF H x j ∈ stepT H x n
  | n + 1, j, h => by
    rw [stepT]
    by_cases e : j = n
    · subst e; simp
    · exact List.mem_append_left _ (mem_stepT H x n j (by omega))
def chainTx (H : ByteArray → ByteArray) (seed : ByteArray) (i c : Nat) : List ByteArray := [mK ++ seed ++ two i c] ++ stepT H (beginF H seed i c) 15
theorem chainTx_len (H : ByteArray → ByteArray) (seed : ByteArray) (i c : Nat) : (chainTx H seed i c).length = 16 := by unfold chainTx; rw [List.length_append, stepT_len]; rfl
/-- The texts of the first chains of a key. -/
def keyT (H : ByteArray → ByteArray) (seed : ByteArray) (i : Nat) : Nat → List ByteArray
  | 0 => []
  | c + 1 => keyT H seed i c ++ chainTx H seed i c
theorem keyT_len (H : ByteArray → ByteArray) (seed : ByteArray) (i : Nat) : ∀ c, (keyT H seed i c).length = 16 * c
  | 0 => rfl
  | c + 1 => by rw [keyT, List.length_append, keyT_len H seed i c, chainTx_len]; omega
theorem mem_keyT (H : ByteArray → ByteArray) (seed : ByteArray) (i : Nat) (x : ByteArray) : ∀ n c, c < n → x ∈ chainTx H seed i c → x ∈ keyT H seed i n
  | n + 1, c, h, hx => by
    rw [keyT]
    by_cases e : c = n
    · subst e; exact List.mem_append_right _ hx
    · exact List.mem_append_left _ (mem_keyT H seed i x n c (by omega) hx)
/-- The texts of the first keys. -/
def keysT (H : ByteArray → ByteArray) (seed : ByteArray) : Nat → List ByteArray
  | 0 => []
  | i + 1 => keysT H seed i ++ keyT H seed i 67
theorem keysT_len (H : ByteArray → ByteArray) (seed : ByteArray) : ∀ i, (keysT H seed i).length = 1072 * i
  | 0 => rfl
  | i + 1 => by rw [keysT, List.length_append, keysT_len H seed i, keyT_len]; omega
theorem mem_keysT (H : ByteArray → ByteArray) (seed : ByteArray) (x : ByteArray) (n i : Nat) (h : i < n) (hx : x ∈ keyT H seed i 67) : x ∈ keysT H seed n := by
  revert hx
  generalize hm : (67 : Nat) = m
  intro hx
  induction n with
  | zero => omega
  | succ n ih =>
    rw [keysT, hm]
    by_cases e : i = n
    · subst e; exact List.mem_append_right _ hx
    · exact List.mem_append_left _ (ih (by omega))
/-- The texts that a signature's values are gone on to by. -/
def finTs (H : ByteArray → ByteArray) (V : ByteArray) (D : Nat → Nat) : Nat → List ByteArray
  | 0 => []
  | c + 1 => finTs H V D c ++ stepT H (pieceF V c) (15 - D c)
theorem finTs_len (H : ByteArray → ByteArray) (V : ByteArray) (D : Nat → Nat) : ∀ c, (finTs H V D c).length ≤ 15 * c
  | 0 => Nat.le_refl _
  | c + 1 => by have := finTs_len H V D c; rw [finTs, List.length_append, stepT_len]; omega
theorem mem_finTs (H : ByteArray → ByteArray) (V : ByteArray) (D : Nat → Nat) (x : ByteArray) : ∀ n c, c < n → x ∈ stepT H (pieceF V c) (15 - D c) → x ∈ finTs H V D n
  | n + 1, c, h, hx => by
    rw [finTs]
    by_cases e : c = n
    · subst e; exact List.mem_append_right _ hx
    · exact List.mem_append_left _ (mem_finTs H V D x n c (by omega) hx)
/-- All texts that forged has in hand. -/
def forgedT (H : ByteArray → ByteArray) (seed : ByteArray) (h : Nat) (was msg sig : ByteArray) : List ByteArray :=
  keysT H seed (2 ^ h) ++ rootT H (leavesF H seed (2 ^ h)) ++ [was] ++ [msg] ++ finTs H (sig.extract 1 2145) (dig (H msg)) 67 ++ (upF H (finT H (sig.extract 1 2145) msg) (keyN sig) (2 ^ h) (besideF h sig)).2

theorem clash_mem (H : ByteArray → ByteArray) (T : List ByteArray) (x y : ByteArray) (hx : x ∈ T) (hy : y ∈ T) (h1 : H x = H y) (h2 : x ≠ y) : ∃ a b, b < a ∧ clashAt H T a b := by
  obtain ⟨i, hi, rfl⟩ := List.mem_iff_getElem.1 hx
  obtain ⟨j, hj, rfl⟩ := List.mem_iff_getElem.1 hy
  rcases Nat.lt_trichotomy i j with h | h | h
  · exact ⟨j, i, h, hj, hi, h1.symm, fun e => h2 e.symm⟩
  · subst h; exact absurd rfl h2
  · exact ⟨i, j, h, hi, hj, h1, h2⟩

theorem nums_inj {a b : ByteArray} (h : numsOf a = numsOf b) : a = b := by rw [← str_nums a, h, str_nums]
theorem app_inj {a b c d : ByteArray} (hs : a.size = c.size) (h : a ++ b = c ++ d) : a = c ∧ b = d :=
  three_inj m0 hs (by rw [ByteArray.append_assoc, h, ByteArray.append_assoc])

/-- Back along two chains that end at the same. -/
theorem back (H : ByteArray → ByteArray) (T : List ByteArray) (inj : ∀ x ∈ T, ∀ y ∈ T, H x = H y → x = y) : ∀ (a b : Nat) (x y : ByteArray), a ≤ b → (∀ i, i < a → m2 ++ stepF H x i ∈ T) → (∀ i, i < b → m2 ++ stepF H y i ∈ T) → stepF H x a = stepF H y b → x = stepF H y (b - a)
  | 0, b, x, y, _, _, _, h => h
  | a + 1, b, x, y, hab, hx, hy, h => by
    obtain ⟨b', rfl⟩ : ∃ b', b = b' + 1 := ⟨b - 1, by omega⟩
    have h1 := inj _ (hx a (by omega)) _ (hy b' (by omega)) h
    have h2 := two_inj m2 h1
    have := back H T inj a b' x y (by omega) (fun i hi => hx i (by omega)) (fun i hi => hy i (by omega)) h2
    rw [show b' + 1 - (a + 1) = b' - a by omega]
    exact this

theorem chains_at (H : ByteArray → ByteArray) (hH : ∀ s, (H s).size = 32) (B B' : Nat → ByteArray) (N N' : Nat → Nat) (hB : ∀ c, (B c).size = 32) (hB' : ∀ c, (B' c).size = 32) : ∀ n, chainsT H B N n = chainsT H B' N' n → ∀ c, c < n → stepF H (B c) (N c) = stepF H (B' c) (N' c)
  | n + 1, h, c, hc => by
    rw [chainsT, chainsT] at h
    obtain ⟨h1, h2⟩ := app_inj (by rw [chainsT_size H hH B N hB, chainsT_size H hH B' N' hB']) h
    by_cases e : c = n
    · subst e; exact h2
    · exact chains_at H hH B B' N N' hB hB' n h1 c (by omega)

theorem piece_app_left (a b : ByteArray) (c : Nat) (h : 32 * c + 32 ≤ a.size) : pieceF (a ++ b) c = pieceF a c := by
  apply nums_inj
  unfold pieceF
  rw [nums_extract, nums_extract, nums_app, List.drop_append_of_le_length (by rw [numsOf_length]; omega), List.take_append_of_le_length (by rw [List.length_drop, numsOf_length]; omega)]
theorem piece_app_at (a b : ByteArray) (c : Nat) (h : a.size = 32 * c) (hb : b.size = 32) : pieceF (a ++ b) c = b := by
  apply nums_inj
  unfold pieceF
  rw [nums_extract, nums_app, List.drop_left' (by rw [numsOf_length, h]), List.take_of_length_le (by rw [numsOf_length]; omega)]
theorem piece_chains (H : ByteArray → ByteArray) (hH : ∀ s, (H s).size = 32) (B : Nat → ByteArray) (N : Nat → Nat) (hB : ∀ c, (B c).size = 32) : ∀ n c, c < n → pieceF (chainsT H B N n) c = stepF H (B c) (N c)
  | n + 1, c, hc => by
    rw [chainsT]
    by_cases e : c = n
    · subst e
      exact piece_app_at _ _ _ (chainsT_size H hH B N hB c) (stepF_size H hH _ (hB c) _)
    · rw [piece_app_left _ _ _ (by rw [chainsT_size H hH B N hB]; omega)]
      exact piece_chains H hH B N hB n c (by omega)
theorem pieces_ext (X Y : ByteArray) (n : Nat) (hX : X.size = 32 * n) (hY : Y.size = 32 * n) (h : ∀ c, c < n → pieceF X c = pieceF Y c) : X = Y := by
  apply nums_inj
  apply List.ext_getElem?
  intro j
  by_cases hj : j < 32 * n
  · have h1 := congrArg numsOf (h (j / 32) (by omega))
    unfold pieceF at h1
    rw [nums_extract, nums_extract] at h1
    have h2 : (((numsOf X).drop (32 * (j / 32))).take (32 * (j / 32) + 32 - 32 * (j / 32)))[j % 32]? = (((numsOf Y).drop (32 * (j / 32))).take (32 * (j / 32) + 32 - 32 * (j / 32)))[j % 32]? := by rw [h1]
    rw [List.getElem?_take_of_lt (by omega), List.getElem?_take_of_lt (by omega), List.getElem?_drop, List.getElem?_drop, show 32 * (j / 32) + j % 32 = j by omega] at h2
    exact h2
  · rw [List.getElem?_eq_none (by rw [numsOf_length]; omega), List.getElem?_eq_none (by rw [numsOf_length]; omega)]
theorem piece_join : ∀ (ls : List ByteArray) (X : ByteArray) (q : Nat) (hq : q < ls.length), (∀ b ∈ ls, b.size = 32) → numsOf X = joinN ls → pieceF X q = ls[q]'hq
  | l :: ls, X, q, hq, hs, h => by
    have e : X = l ++ strOfNums (joinN ls) := by
      have hr : numsOf (strOfNums (joinN ls)) = joinN ls := by
        apply nums_str
        intro x hx
        unfold joinN at hx
        obtain ⟨y, hy, hx⟩ := List.mem_flatMap.1 hx
        exact nums_range y x hx
      apply nums_inj
      rw [h, nums_app, hr]
      simp [joinN]
    have hl : l.size = 32 := hs l (by simp)
    have hr : numsOf (strOfNums (joinN ls)) = joinN ls := by
      have := h
      rw [e, nums_app] at this
      have h3 : joinN (l :: ls) = numsOf l ++ joinN ls := by simp [joinN]
      rw [h3] at this
      exact List.append_cancel_left this
    cases q with
    | zero =>
      subst e
      apply nums_inj
      unfold pieceF
      rw [nums_extract, nums_app]
      simp [List.take_append_of_le_length, numsOf_length, hl, List.take_of_length_le]
    | succ q =>
      have := piece_join ls (strOfNums (joinN ls)) q (by simpa using hq) (fun b hb => hs b (by simp [hb])) hr
      rw [List.getElem_cons_succ, ← this]
      subst e
      apply nums_inj
      unfold pieceF
      rw [nums_extract, nums_extract, nums_app, show 32 * (q + 1) = (numsOf l).length + 32 * q by rw [numsOf_length, hl]; omega, List.drop_append]
      simp [List.drop_eq_nil_of_le]
theorem nums_head (s : ByteArray) (h : 0 < s.size) : numsOf s = (keyN s : Int) :: (numsOf s).drop 1 := by
  unfold keyN numsOf
  rcases s with ⟨⟨l⟩⟩
  cases l with
  | nil => exact absurd h (Nat.lt_irrefl 0)
  | cons a l => simp
theorem sig_ext (h : Nat) (s t : ByteArray) (hs : s.size = 2145 + 32 * h) (ht : t.size = 2145 + 32 * h) (h0 : keyN s = keyN t) (h1 : ∀ c, c < 67 → pieceF (s.extract 1 2145) c = pieceF (t.extract 1 2145) c) (h2 : besideF h s = besideF h t) : s = t := by
  have e1 : s.extract 1 2145 = t.extract 1 2145 := pieces_ext _ _ 67 (by rw [ByteArray.size_extract]; omega) (by rw [ByteArray.size_extract]; omega) h1
  have e2 : s.extract 2145 s.size = t.extract 2145 t.size := by
    refine pieces_ext _ _ h (by rw [ByteArray.size_extract]; omega) (by rw [ByteArray.size_extract]; omega) (fun c hc => ?_)
    have := congrArg (fun l : List ByteArray => l[c]?) h2
    unfold besideF at this
    simpa [hc] using this
  have n1 := congrArg numsOf e1
  have n2 := congrArg numsOf e2
  rw [nums_extract, nums_extract] at n1 n2
  have l1 := numsOf_length s
  have l2 := numsOf_length t
  apply nums_inj
  rw [nums_head s (by omega), nums_head t (by omega), h0]
  refine congrArg (List.cons _) ?_
  rw [← List.take_append_drop 2144 ((numsOf s).drop 1), ← List.take_append_drop 2144 ((numsOf t).drop 1)]
  rw [List.drop_drop, List.drop_drop]
  rw [List.take_of_length_le (by rw [List.length_drop]; omega), List.take_of_length_le (by rw [List.length_drop]; omega)] at n2
  rw [n1, n2]
theorem dig_inj (a b : ByteArray) (ha : a.size = 32) (hb : b.size = 32) (h : ∀ c, c < 67 → dig a c = dig b c) : a = b := by
  apply nums_inj
  have hB : ∀ i, i < 32 → bAt a i = bAt b i := fun i hi => by
    have h1 := h (2 * i) (by omega)
    have h2 := h (2 * i + 1) (by omega)
    unfold dig at h1 h2
    rw [if_pos (by omega), if_pos (by omega)] at h1 h2
    unfold nib at h1 h2
    rw [if_pos (by omega), if_pos (by omega), show 2 * i / 2 = i by omega] at h1
    rw [if_neg (by omega), if_neg (by omega), show (2 * i + 1) / 2 = i by omega] at h2
    have := bAt_lo a i
    have := bAt_lo b i
    omega
  apply List.ext_getElem
  · rw [numsOf_length, numsOf_length, ha, hb]
  · intro i h1 h2
    rw [numsOf_length] at h1 h2
    have := hB i (by omega)
    rw [bAt_nums, bAt_nums] at this
    rw [List.getD_eq_getElem?_getD, List.getD_eq_getElem?_getD, List.getElem?_eq_getElem (by rw [numsOf_length]; omega), List.getElem?_eq_getElem (by rw [numsOf_length]; omega)] at this
    exact this
theorem mK_ne (s t x : ByteArray) : mK ++ s ++ t ≠ m2 ++ x := fun e => by
  have := congrArg numsOf e
  rw [nums_app, nums_app, nums_app, show numsOf mK = [75] from rfl, show numsOf m2 = [2] from rfl] at this
  simp at this
theorem two_ne (k k' c : Nat) (hk : k < 256) (hk' : k' < 256) (h : two k c = two k' c) : k = k' := by
  have := congrArg numsOf h
  unfold two at this
  rw [nums_str _ (by intro x hx; simp at hx; omega), nums_str _ (by intro x hx; simp at hx; omega)] at this
  have := (List.cons.inj this).1
  omega
end Go.Proofs.YteebdadnfaekmaaDoor
set_option linter.unusedVariables false
set_option linter.unusedSimpArgs false
namespace Go.Proofs.YteebdadnfaekmaaDoor
open Go.RowKit

theorem stepF_add (H : ByteArray → ByteArray) (x : ByteArray) (a : Nat) : ∀ b, stepF H (stepF H x a) b = stepF H x (a + b)
  | 0 => rfl
  | b + 1 => by rw [stepF, stepF_add H x a b]; rfl
theorem chains_congr (H : ByteArray → ByteArray) (B B' : Nat → ByteArray) (N N' : Nat → Nat) : ∀ n, (∀ c, c < n → stepF H (B c) (N c) = stepF H (B' c) (N' c)) → chainsT H B N n = chainsT H B' N' n
  | 0, _ => rfl
  | n + 1, h => by rw [chainsT, chainsT, chains_congr H B B' N N' n (fun c hc => h c (by omega)), h n (by omega)]
theorem finB_size (V : ByteArray) (hV : V.size = 2144) (c : Nat) : (finB V c).size = 32 := by
  unfold finB
  split
  · exact pieceF_size V c (by omega)
  · unfold zT0; rw [strOfNums_size]; rfl
theorem beginF_size (K : Nat → Int) (seed : ByteArray) (k c : Nat) : (beginF (sumOf K) seed k c).size = 32 := sumOf_size K _
theorem leavesF_get (H : ByteArray → ByteArray) (seed : ByteArray) (n k : Nat) (hk : k < (leavesF H seed n).length) : (leavesF H seed n)[k]'hk = leafF H seed k := by
  simp only [leavesF, List.getElem_map, List.getElem_range]

theorem sigN_range (H : ByteArray → ByteArray) (seed : ByteArray) (h k : Nat) (msg : ByteArray) : ∀ x ∈ sigN H seed h k msg, 0 ≤ x ∧ x < 256 := by
  intro x hx
  unfold sigN at hx
  rcases List.mem_append.1 hx with hx | hx
  · rcases List.mem_append.1 hx with hx | hx
    · simp at hx; omega
    · exact nums_range _ x hx
  · unfold joinN at hx
    obtain ⟨y, hy, hx⟩ := List.mem_flatMap.1 hx
    exact nums_range y x hx
theorem valuesF_size (K : Nat → Int) (seed : ByteArray) (k : Nat) (msg : ByteArray) : (valuesF (sumOf K) seed k msg).size = 2144 := by
  unfold valuesF; rw [chainsT_size _ (sumOf_size K) _ _ (beginF_size K seed k)]
theorem nums_sigF (H : ByteArray → ByteArray) (seed : ByteArray) (h k : Nat) (msg : ByteArray) : numsOf (sigF H seed h k msg) = ((k : Int) % 256) :: (numsOf (valuesF H seed k msg) ++ joinN (inclF H (leavesF H seed (2 ^ h)) k)) := by
  unfold sigF; rw [nums_str _ (sigN_range H seed h k msg)]; unfold sigN; simp
theorem join_incl_len (K : Nat → Int) (seed : ByteArray) (h k : Nat) : (joinN (inclF (sumOf K) (leavesF (sumOf K) seed (2 ^ h)) k)).length = 32 * h := by
  rw [join_all _ (inclF_sizesP _ (sumOf_size K) _ _ k rfl), inclF_pow _ h _ k (leavesF_len _ _ _)]
theorem sigF_size (K : Nat → Int) (seed : ByteArray) (h k : Nat) (msg : ByteArray) : (sigF (sumOf K) seed h k msg).size = 2145 + 32 * h := by
  rw [← numsOf_length, nums_sigF, List.length_cons, List.length_append, numsOf_length, valuesF_size, join_incl_len]; omega
theorem sigF_key (K : Nat → Int) (seed : ByteArray) (h k : Nat) (msg : ByteArray) (hk : k < 256) : keyN (sigF (sumOf K) seed h k msg) = k := by
  have h1 := nums_head (sigF (sumOf K) seed h k msg) (by rw [sigF_size]; omega)
  rw [nums_sigF] at h1
  have := (List.cons.inj h1).1
  omega
theorem sigF_vals (K : Nat → Int) (seed : ByteArray) (h k : Nat) (msg : ByteArray) : (sigF (sumOf K) seed h k msg).extract 1 2145 = valuesF (sumOf K) seed k msg := by
  apply nums_inj
  rw [nums_extract, nums_sigF, List.drop_one, List.tail_cons, List.take_left' (by rw [numsOf_length, valuesF_size])]
theorem sigF_beside (K : Nat → Int) (seed : ByteArray) (h k : Nat) (msg : ByteArray) : besideF h (sigF (sumOf K) seed h k msg) = inclF (sumOf K) (leavesF (sumOf K) seed (2 ^ h)) k := by
  have hl := inclF_pow (sumOf K) h _ k (leavesF_len (sumOf K) seed (2 ^ h))
  have hn : numsOf ((sigF (sumOf K) seed h k msg).extract 2145 (sigF (sumOf K) seed h k msg).size) = joinN (inclF (sumOf K) (leavesF (sumOf K) seed (2 ^ h)) k) := by
    rw [nums_extract, nums_sigF, show (2145 : Nat) = 2144 + 1 from rfl, List.drop_succ_cons, List.drop_left' (by rw [numsOf_length, valuesF_size]), List.take_of_length_le (by rw [join_incl_len, sigF_size]; omega)]
  unfold besideF
  apply List.ext_getElem
  · simp [hl]
  · intro i h1 h2
    rw [List.getElem_map, List.getElem_range]
    exact piece_join _ _ i h2 (inclF_sizesP _ (sumOf_size K) _ _ k rfl) hn
/-- What is signed is verified. -/
theorem sig_good (K : Nat → Int) (seed : ByteArray) (h k : Nat) (msg : ByteArray) (hh : h ≤ 5) (hk : k < 2 ^ h) : sigOk K (pubF (sumOf K) seed h) h msg (sigF (sumOf K) seed h k msg) = true := by
  have hN : 2 ^ h ≤ 32 := Nat.pow_le_pow_right (n := 2) (by omega) hh
  unfold sigOk
  rw [sigF_size, sigF_key K seed h k msg (by omega), sigF_vals, sigF_beside]
  have e : finT (sumOf K) (valuesF (sumOf K) seed k msg) msg = leafF (sumOf K) seed k := by
    unfold finT leafF
    refine chains_congr _ _ _ _ _ 67 (fun c hc => ?_)
    have hd := dig_le (sumOf K msg) c
    unfold finB
    rw [if_pos hc]
    unfold valuesF
    rw [piece_chains _ (sumOf_size K) _ _ (beginF_size K seed k) 67 c hc, stepF_add, show dig (sumOf K msg) c + (15 - dig (sumOf K msg) c) = 15 by omega]
  have hl := leavesF_len (sumOf K) seed (2 ^ h)
  have := ok_good K (leavesF (sumOf K) seed (2 ^ h)) k (leafF (sumOf K) seed k) (by omega) (by rw [List.getElem?_eq_getElem (by omega), leavesF_get])
  rw [hl] at this
  rw [e]
  unfold pubF
  rw [this]
  simp [hk]

theorem mem_tree (H : ByteArray → ByteArray) (seed : ByteArray) (h : Nat) (was msg sig x : ByteArray) (hx : x ∈ rootT H (leavesF H seed (2 ^ h)) ++ (upF H (finT H (sig.extract 1 2145) msg) (keyN sig) (2 ^ h) (besideF h sig)).2) : x ∈ forgedT H seed h was msg sig := by
  unfold forgedT
  rcases List.mem_append.1 hx with hx | hx
  · exact List.mem_append_left _ (List.mem_append_left _ (List.mem_append_left _ (List.mem_append_left _ (List.mem_append_right _ hx))))
  · exact List.mem_append_right _ hx
theorem mem_keys (H : ByteArray → ByteArray) (seed : ByteArray) (h : Nat) (was msg sig x : ByteArray) (hx : x ∈ keysT H seed (2 ^ h)) : x ∈ forgedT H seed h was msg sig := by
  unfold forgedT
  exact List.mem_append_left _ (List.mem_append_left _ (List.mem_append_left _ (List.mem_append_left _ (List.mem_append_left _ hx))))
theorem mem_fin (H : ByteArray → ByteArray) (seed : ByteArray) (h : Nat) (was msg sig x : ByteArray) (hx : x ∈ finTs H (sig.extract 1 2145) (dig (H msg)) 67) : x ∈ forgedT H seed h was msg sig := by
  unfold forgedT
  exact List.mem_append_left _ (List.mem_append_right _ hx)
theorem mem_was (H : ByteArray → ByteArray) (seed : ByteArray) (h : Nat) (was msg sig : ByteArray) : was ∈ forgedT H seed h was msg sig := by
  unfold forgedT
  exact List.mem_append_left _ (List.mem_append_left _ (List.mem_append_left _ (List.mem_append_right _ (by simp))))
theorem mem_msg (H : ByteArray → ByteArray) (seed : ByteArray) (h : Nat) (was msg sig : ByteArray) : msg ∈ forgedT H seed h was msg sig := by
  unfold forgedT
  exact List.mem_append_left _ (List.mem_append_left _ (List.mem_append_right _ (by simp)))
theorem mem_begin (H : ByteArray → ByteArray) (seed : ByteArray) (h : Nat) (was msg sig : ByteArray) (i c : Nat) (hi : i < 2 ^ h) (hc : c < 67) : mK ++ seed ++ two i c ∈ forgedT H seed h was msg sig :=
  mem_keys H seed h was msg sig _ (mem_keysT H seed _ (2 ^ h) i hi (mem_keyT H seed i _ 67 c hc (List.mem_append_left _ (by simp))))
theorem mem_link (H : ByteArray → ByteArray) (seed : ByteArray) (h : Nat) (was msg sig : ByteArray) (i c j : Nat) (hi : i < 2 ^ h) (hc : c < 67) (hj : j < 15) : m2 ++ stepF H (beginF H seed i c) j ∈ forgedT H seed h was msg sig :=
  mem_keys H seed h was msg sig _ (mem_keysT H seed _ (2 ^ h) i hi (mem_keyT H seed i _ 67 c hc (List.mem_append_right _ (mem_stepT H (beginF H seed i c) 15 j hj))))
/-- A signature that is taken, while no two texts of one hash are in hand, is the one that Sign makes. -/
theorem sig_only (K : Nat → Int) (seed : ByteArray) (h : Nat) (was msg sig : ByteArray) (hok : sigOk K (pubF (sumOf K) seed h) h msg sig = true)
    (inj : ∀ x ∈ forgedT (sumOf K) seed h was msg sig, ∀ y ∈ forgedT (sumOf K) seed h was msg sig, sumOf K x = sumOf K y → x = y) :
    sig.size = 2145 + 32 * h ∧ keyN sig < 2 ^ h ∧ besideF h sig = inclF (sumOf K) (leavesF (sumOf K) seed (2 ^ h)) (keyN sig) ∧ ∀ c, c < 67 → pieceF (sig.extract 1 2145) c = stepF (sumOf K) (beginF (sumOf K) seed (keyN sig) c) (dig (sumOf K msg) c) := by
  unfold sigOk at hok
  simp only [Bool.and_eq_true, decide_eq_true_eq] at hok
  obtain ⟨hz, hk, hok⟩ := hok
  have hl := leavesF_len (sumOf K) seed (2 ^ h)
  have hkl : keyN sig < (leavesF (sumOf K) seed (2 ^ h)).length := by omega
  have hne : finT (sumOf K) (sig.extract 1 2145) msg = (leavesF (sumOf K) seed (2 ^ h))[keyN sig]'hkl ∧ besideF h sig = inclF (sumOf K) (leavesF (sumOf K) seed (2 ^ h)) (keyN sig) := by
    refine Classical.byContradiction fun hne => ?_
    obtain ⟨a, b, hab, ha, hb, h1, h2⟩ := ok_clash K (leavesF (sumOf K) seed (2 ^ h)) (keyN sig) _ _ hkl (by rw [hl]; exact hok) hne
    have hm : ∀ x ∈ rootT (sumOf K) (leavesF (sumOf K) seed (2 ^ h)) ++ (upF (sumOf K) (finT (sumOf K) (sig.extract 1 2145) msg) (keyN sig) (leavesF (sumOf K) seed (2 ^ h)).length (besideF h sig)).2, x ∈ forgedT (sumOf K) seed h was msg sig := fun x hx => by
      rw [hl] at hx
      exact mem_tree _ seed h was msg sig x hx
    exact h2 (inj _ (hm _ (List.getElem_mem ha)) _ (hm _ (List.getElem_mem hb)) h1)
  refine ⟨hz, hk, hne.2, fun c hc => ?_⟩
  have h1 := hne.1
  rw [leavesF_get] at h1
  unfold finT leafF at h1
  have h2 := chains_at (sumOf K) (sumOf_size K) _ _ _ _ (finB_size _ (by rw [ByteArray.size_extract]; omega)) (beginF_size K seed (keyN sig)) 67 h1 c hc
  unfold finB at h2
  rw [if_pos hc] at h2
  have hd := dig_le (sumOf K msg) c
  have := back (sumOf K) _ inj (15 - dig (sumOf K msg) c) 15 _ _ (by omega)
    (fun i hi => mem_fin _ seed h was msg sig _ (mem_finTs (sumOf K) (sig.extract 1 2145) (dig (sumOf K msg)) _ 67 c hc (mem_stepT (sumOf K) (pieceF (sig.extract 1 2145) c) _ i hi)))
    (fun i hi => mem_link (sumOf K) seed h was msg sig (keyN sig) c i hk hc hi) h2
  rw [this]
  congr 1
  omega

/-- Another message with the same signature: two texts of one hash are in hand. -/
theorem forged_msg (K : Nat → Int) (seed : ByteArray) (h k : Nat) (was msg : ByteArray) (hh : h ≤ 5) (hk : k < 2 ^ h) (hne : msg ≠ was) (hok : sigOk K (pubF (sumOf K) seed h) h msg (sigF (sumOf K) seed h k was) = true) :
    ∃ a b, b < a ∧ clashAt (sumOf K) (forgedT (sumOf K) seed h was msg (sigF (sumOf K) seed h k was)) a b := by
  refine Classical.byContradiction fun hno => ?_
  have inj : ∀ x ∈ forgedT (sumOf K) seed h was msg (sigF (sumOf K) seed h k was), ∀ y ∈ forgedT (sumOf K) seed h was msg (sigF (sumOf K) seed h k was), sumOf K x = sumOf K y → x = y := fun x hx y hy e =>
    Classical.byContradiction fun hxy => hno (clash_mem _ _ x y hx hy e hxy)
  have hN : 2 ^ h ≤ 32 := Nat.pow_le_pow_right (n := 2) (by omega) hh
  obtain ⟨hz, hk', hb, hp⟩ := sig_only K seed h was msg _ hok inj
  rw [sigF_key K seed h k was (by omega), sigF_vals] at hp
  have hd : ∀ c, c < 67 → dig (sumOf K was) c = dig (sumOf K msg) c := fun c hc => by
    have h1 := hp c hc
    unfold valuesF at h1
    rw [piece_chains _ (sumOf_size K) _ _ (beginF_size K seed k) 67 c hc] at h1
    have hm : ∀ i, i < 15 → m2 ++ stepF (sumOf K) (beginF (sumOf K) seed k c) i ∈ forgedT (sumOf K) seed h was msg (sigF (sumOf K) seed h k was) := fun i hi => mem_link _ seed h was msg _ k c i hk hc hi
    have hm0 : mK ++ seed ++ two k c ∈ forgedT (sumOf K) seed h was msg (sigF (sumOf K) seed h k was) := mem_begin _ seed h was msg _ k c hk hc
    have key : ∀ a b, a < b → b ≤ 15 → stepF (sumOf K) (beginF (sumOf K) seed k c) a = stepF (sumOf K) (beginF (sumOf K) seed k c) b → False := fun a b hab hb15 e => by
      have h2 := back (sumOf K) _ inj a b _ _ (by omega) (fun i hi => hm i (by omega)) (fun i hi => hm i (by omega)) e
      obtain ⟨d, hd⟩ : ∃ d, b - a = d + 1 := ⟨b - a - 1, by omega⟩
      rw [hd] at h2
      have h3 := inj _ hm0 _ (hm d (by omega)) h2
      exact mK_ne _ _ _ h3
    have d1 := dig_le (sumOf K was) c
    have d2 := dig_le (sumOf K msg) c
    rcases Nat.lt_trichotomy (dig (sumOf K was) c) (dig (sumOf K msg) c) with h2 | h2 | h2
    · exact absurd h1 (key _ _ h2 d2)
    · exact h2
    · exact absurd h1.symm (key _ _ h2 d1)
  have he := dig_inj _ _ (sumOf_size K was) (sumOf_size K msg) hd
  exact hne (inj was (mem_was _ _ _ _ _ _) msg (mem_msg _ _ _ _ _ _) he).symm

/-- A signature of which a byte is another one: two texts of one hash are in hand. -/
theorem forged_bit (K : Nat → Int) (seed : ByteArray) (h k : Nat) (msg sig : ByteArray) (q : Nat) (y : Int) (hh : h ≤ 5) (hk : k < 2 ^ h) (hs : numsOf sig = (numsOf (sigF (sumOf K) seed h k msg)).set q y) (hne : sig ≠ sigF (sumOf K) seed h k msg)
    (hok : sigOk K (pubF (sumOf K) seed h) h msg sig = true) : ∃ a b, b < a ∧ clashAt (sumOf K) (forgedT (sumOf K) seed h msg msg sig) a b := by
  refine Classical.byContradiction fun hno => ?_
  have inj : ∀ x ∈ forgedT (sumOf K) seed h msg msg sig, ∀ y ∈ forgedT (sumOf K) seed h msg msg sig, sumOf K x = sumOf K y → x = y := fun x hx y hy e =>
    Classical.byContradiction fun hxy => hno (clash_mem _ _ x y hx hy e hxy)
  have hN : 2 ^ h ≤ 32 := Nat.pow_le_pow_right (n := 2) (by omega) hh
  obtain ⟨hz, hk', hb, hp⟩ := sig_only K seed h msg msg _ hok inj
  have hsame : keyN sig = k := by
    by_cases hq : q = 0
    · subst hq
      have hv : sig.extract 1 2145 = valuesF (sumOf K) seed k msg := by
        rw [← sigF_vals K seed h k msg]
        apply nums_inj
        rw [nums_extract, nums_extract, hs, List.drop_set]
        simp
      have h1 := hp 0 (by omega)
      rw [hv] at h1
      unfold valuesF at h1
      rw [piece_chains _ (sumOf_size K) _ _ (beginF_size K seed k) 67 0 (by omega)] at h1
      have hm : ∀ i j, i < 2 ^ h → j < 15 → m2 ++ stepF (sumOf K) (beginF (sumOf K) seed i 0) j ∈ forgedT (sumOf K) seed h msg msg sig := fun i j hi hj => mem_link _ seed h msg msg sig i 0 j hi (by omega) hj
      have hm0 : ∀ i, i < 2 ^ h → mK ++ seed ++ two i 0 ∈ forgedT (sumOf K) seed h msg msg sig := fun i hi => mem_begin _ seed h msg msg sig i 0 hi (by omega)
      have hd := dig_le (sumOf K msg) 0
      have h2 := back (sumOf K) _ inj _ _ _ _ (Nat.le_refl _) (fun i hi => hm k i hk (by omega)) (fun i hi => hm (keyN sig) i hk' (by omega)) h1
      rw [Nat.sub_self] at h2
      have h3 := inj _ (hm0 k hk) _ (hm0 (keyN sig) hk') h2
      have h4 := (app_inj (by rfl) h3).2
      exact (two_ne k (keyN sig) 0 (by omega) (by omega) h4).symm
    · have e1 := nums_head sig (by omega)
      have e2 := nums_head (sigF (sumOf K) seed h k msg) (by rw [sigF_size]; omega)
      rw [hs] at e1
      obtain ⟨q', rfl⟩ : ∃ q', q = q' + 1 := ⟨q - 1, by omega⟩
      rw [e2, List.set_cons_succ] at e1
      have := (List.cons.inj e1).1
      rw [sigF_key K seed h k msg (by omega)] at this
      omega
  refine hne (sig_ext h _ _ hz (sigF_size K seed h k msg) (by rw [hsame, sigF_key K seed h k msg (by omega)]) (fun c hc => ?_) ?_)
  · rw [hp c hc, hsame, sigF_vals]
    unfold valuesF
    rw [piece_chains _ (sumOf_size K) _ _ (beginF_size K seed k) 67 c hc]
  · rw [hb, hsame, sigF_beside]
end Go.Proofs.YteebdadnfaekmaaDoor
