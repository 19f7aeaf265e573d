import Derived.Test.YteglimjonofdeaaGreatDoorIClashM
import Derived.Test.YteglimjonofdeaaGreatDoorAHeadM
import Derived.Test.YteglimjonofdeaaGreatDoorGGrownM
import Derived.Test.YteglimjonofdeaaGreatDoorNPktM
set_option linter.unusedVariables false
set_option linter.unusedSimpArgs false
namespace Go.Proofs.YteglimjonofdeaaGreatDoor
open Go.RowKit

theorem stepF_add (H : ByteArray → ByteArray) (x : ByteArray) (a : Nat) : ∀ b, stepF H (stepF H x a) b = stepF H x (a + b)
  | 0 => rfl
  | b + 1 => by rw [stepF, stepF_add H x a b]; rfl
theorem chains_congr (H : ByteArray → ByteArray) (B B' : Nat → ByteArray) (N N' : Nat → Nat) : ∀ n, (∀ c, c < n → stepF H (B c) (N c) = stepF H (B' c) (N' c)) → chainsT H B N n = chainsT H B' N' n
  | 0, _ => rfl
  | n + 1, h => by rw [chainsT, chainsT, chains_congr H B B' N N' n (fun c hc => h c (by omega)), h n (by omega)]
theorem finB_size (V : ByteArray) (hV : V.size = 2144) (c : Nat) : (finB V c).size = 32 := by
  unfold finB
  split
  · exact pieceF_size V c (by omega)
  · unfold zT0; rw [strOfNums_size]; rfl
theorem beginF_size (K : Nat → Int) (seed : ByteArray) (k c : Nat) : (beginF (sumOf K) seed k c).size = 32 := sumOf_size K _
theorem leavesF_get (H : ByteArray → ByteArray) (seed : ByteArray) (n k : Nat) (hk : k < (leavesF H seed n).length) : (leavesF H seed n)[k]'hk = leafF H seed k := by
  simp only [leavesF, List.getElem_map, List.getElem_range]

theorem sigN_range (H : ByteArray → ByteArray) (seed : ByteArray) (h k : Nat) (msg : ByteArray) : ∀ x ∈ sigN H seed h k msg, 0 ≤ x ∧ x < 256 := by
  intro x hx
  unfold sigN at hx
  rcases List.mem_append.1 hx with hx | hx
  · rcases List.mem_append.1 hx with hx | hx
    · simp at hx; omega
    · exact nums_range _ x hx
  · unfold joinN at hx
    obtain ⟨y, hy, hx⟩ := List.mem_flatMap.1 hx
    exact nums_range y x hx
theorem valuesF_size (K : Nat → Int) (seed : ByteArray) (k : Nat) (msg : ByteArray) : (valuesF (sumOf K) seed k msg).size = 2144 := by
  unfold valuesF; rw [chainsT_size _ (sumOf_size K) _ _ (beginF_size K seed k)]
theorem nums_sigF (H : ByteArray → ByteArray) (seed : ByteArray) (h k : Nat) (msg : ByteArray) : numsOf (sigF H seed h k msg) = ((k : Int) % 256) :: (numsOf (valuesF H seed k msg) ++ joinN (inclF H (leavesF H seed (2 ^ h)) k)) := by
  unfold sigF; rw [nums_str _ (sigN_range H seed h k msg)]; unfold sigN; simp
theorem join_incl_len (K : Nat → Int) (seed : ByteArray) (h k : Nat) : (joinN (inclF (sumOf K) (leavesF (sumOf K) seed (2 ^ h)) k)).length = 32 * h := by
  rw [join_all _ (inclF_sizesP _ (sumOf_size K) _ _ k rfl), inclF_pow _ h _ k (leavesF_len _ _ _)]
theorem sigF_size (K : Nat → Int) (seed : ByteArray) (h k : Nat) (msg : ByteArray) : (sigF (sumOf K) seed h k msg).size = 2145 + 32 * h := by
  rw [← numsOf_length, nums_sigF, List.length_cons, List.length_append, numsOf_length, valuesF_size, join_incl_len]; omega
theorem sigF_key (K : Nat → Int) (seed : ByteArray) (h k : Nat) (msg : ByteArray) (hk : k < 256) : keyN (sigF (sumOf K) seed h k msg) = k := by
  have h1 := nums_head (sigF (sumOf K) seed h k msg) (by rw [sigF_size]; omega)
  rw [nums_sigF] at h1
  have := (List.cons.inj h1).1
  omega
theorem sigF_vals (K : Nat → Int) (seed : ByteArray) (h k : Nat) (msg : ByteArray) : (sigF (sumOf K) seed h k msg).extract 1 2145 = valuesF (sumOf K) seed k msg := by
  apply nums_inj
  rw [nums_extract, nums_sigF, List.drop_one, List.tail_cons, List.take_left' (by rw [numsOf_length, valuesF_size])]
theorem sigF_beside (K : Nat → Int) (seed : ByteArray) (h k : Nat) (msg : ByteArray) : besideF h (sigF (sumOf K) seed h k msg) = inclF (sumOf K) (leavesF (sumOf K) seed (2 ^ h)) k := by
  have hl := inclF_pow (sumOf K) h _ k (leavesF_len (sumOf K) seed (2 ^ h))
  have hn : numsOf ((sigF (sumOf K) seed h k msg).extract 2145 (sigF (sumOf K) seed h k msg).size) = joinN (inclF (sumOf K) (leavesF (sumOf K) seed (2 ^ h)) k) := by
    rw [nums_extract, nums_sigF, show (2145 : Nat) = 2144 + 1 from rfl, List.drop_succ_cons, List.drop_left' (by rw [numsOf_length, valuesF_size]), List.take_of_length_le (by rw [join_incl_len, sigF_size]; omega)]
  unfold besideF
  apply List.ext_getElem
  · simp [hl]
  · intro i h1 h2
    rw [List.getElem_map, List.getElem_range]
    exact piece_join _ _ i h2 (inclF_sizesP _ (sumOf_size K) _ _ k rfl) hn
/-- What is signed is verified. -/
theorem sig_good (K : Nat → Int) (seed : ByteArray) (h k : Nat) (msg : ByteArray) (hh : h ≤ 5) (hk : k < 2 ^ h) : sigOk K (pubF (sumOf K) seed h) h msg (sigF (sumOf K) seed h k msg) = true := by
  have hN : 2 ^ h ≤ 32 := Nat.pow_le_pow_right (n := 2) (by omega) hh
  unfold sigOk
  rw [sigF_size, sigF_key K seed h k msg (by omega), sigF_vals, sigF_beside]
  have e : finT (sumOf K) (valuesF (sumOf K) seed k msg) msg = leafF (sumOf K) seed k := by
    unfold finT leafF
    refine chains_congr _ _ _ _ _ 67 (fun c hc => ?_)
    have hd := dig_le (sumOf K msg) c
    unfold finB
    rw [if_pos hc]
    unfold valuesF
    rw [piece_chains _ (sumOf_size K) _ _ (beginF_size K seed k) 67 c hc, stepF_add, show dig (sumOf K msg) c + (15 - dig (sumOf K msg) c) = 15 by omega]
  have hl := leavesF_len (sumOf K) seed (2 ^ h)
  have := ok_good K (leavesF (sumOf K) seed (2 ^ h)) k (leafF (sumOf K) seed k) (by omega) (by rw [List.getElem?_eq_getElem (by omega), leavesF_get])
  rw [hl] at this
  rw [e]
  unfold pubF
  rw [this]
  simp [hk]

theorem mem_tree (H : ByteArray → ByteArray) (seed : ByteArray) (h : Nat) (was msg sig x : ByteArray) (hx : x ∈ rootT H (leavesF H seed (2 ^ h)) ++ (upF H (finT H (sig.extract 1 2145) msg) (keyN sig) (2 ^ h) (besideF h sig)).2) : x ∈ forgedT H seed h was msg sig := by
  unfold forgedT
  rcases List.mem_append.1 hx with hx | hx
  · exact List.mem_append_left _ (List.mem_append_left _ (List.mem_append_left _ (List.mem_append_left _ (List.mem_append_right _ hx))))
  · exact List.mem_append_right _ hx
theorem mem_keys (H : ByteArray → ByteArray) (seed : ByteArray) (h : Nat) (was msg sig x : ByteArray) (hx : x ∈ keysT H seed (2 ^ h)) : x ∈ forgedT H seed h was msg sig := by
  unfold forgedT
  exact List.mem_append_left _ (List.mem_append_left _ (List.mem_append_left _ (List.mem_append_left _ (List.mem_append_left _ hx))))
theorem mem_fin (H : ByteArray → ByteArray) (seed : ByteArray) (h : Nat) (was msg sig x : ByteArray) (hx : x ∈ finTs H (sig.extract 1 2145) (dig (H msg)) 67) : x ∈ forgedT H seed h was msg sig := by
  unfold forgedT
  exact List.mem_append_left _ (List.mem_append_right _ hx)
theorem mem_was (H : ByteArray → ByteArray) (seed : ByteArray) (h : Nat) (was msg sig : ByteArray) : was ∈ forgedT H seed h was msg sig := by
  unfold forgedT
  exact List.mem_append_left _ (List.mem_append_left _ (List.mem_append_left _ (List.mem_append_right _ (by simp))))
theorem mem_msg (H : ByteArray → ByteArray) (seed : ByteArray) (h : Nat) (was msg sig : ByteArray) : msg ∈ forgedT H seed h was msg sig := by
  unfold forgedT
  exact List.mem_append_left _ (List.mem_append_left _ (List.mem_append_right _ (by simp)))
theorem mem_begin (H : ByteArray → ByteArray) (seed : ByteArray) (h : Nat) (was msg sig : ByteArray) (i c : Nat) (hi : i < 2 ^ h) (hc : c < 67) : mK ++ seed ++ two i c ∈ forgedT H seed h was msg sig :=
  mem_keys H seed h was msg sig _ (mem_keysT H seed _ (2 ^ h) i hi (mem_keyT H seed i _ 67 c hc (List.mem_append_left _ (by simp))))
theorem mem_link (H : ByteArray → ByteArray) (seed : ByteArray) (h : Nat) (was msg sig : ByteArray) (i c j : Nat) (hi : i < 2 ^ h) (hc : c < 67) (hj : j < 15) : m2 ++ stepF H (beginF H seed i c) j ∈ forgedT H seed h was msg sig :=
  mem_keys H seed h was msg sig _ (mem_keysT H seed _ (2 ^ h) i hi (mem_keyT H seed i _ 67 c hc (List.mem_append_right _ (mem_stepT H (beginF H seed i c) 15 j hj))))
/-- A signature that is taken, while no two texts of one hash are in hand, is the one that Sign makes. -/
theorem sig_only (K : Nat → Int) (seed : ByteArray) (h : Nat) (was msg sig : ByteArray) (hok : sigOk K (pubF (sumOf K) seed h) h msg sig = true)
    (inj : ∀ x ∈ forgedT (sumOf K) seed h was msg sig, ∀ y ∈ forgedT (sumOf K) seed h was msg sig, sumOf K x = sumOf K y → x = y) :
    sig.size = 2145 + 32 * h ∧ keyN sig < 2 ^ h ∧ besideF h sig = inclF (sumOf K) (leavesF (sumOf K) seed (2 ^ h)) (keyN sig) ∧ ∀ c, c < 67 → pieceF (sig.extract 1 2145) c = stepF (sumOf K) (beginF (sumOf K) seed (keyN sig) c) (dig (sumOf K msg) c) := by
  unfold sigOk at hok
  simp only [Bool.and_eq_true, decide_eq_true_eq] at hok
  obtain ⟨hz, hk, hok⟩ := hok
  have hl := leavesF_len (sumOf K) seed (2 ^ h)
  have hkl : keyN sig < (leavesF (sumOf K) seed (2 ^ h)).length := by omega
  have hne : finT (sumOf K) (sig.extract 1 2145) msg = (leavesF (sumOf K) seed (2 ^ h))[keyN sig]'hkl ∧ besideF h sig = inclF (sumOf K) (leavesF (sumOf K) seed (2 ^ h)) (keyN sig) := by
    refine Classical.byContradiction fun hne => ?_
    obtain ⟨a, b, hab, ha, hb, h1, h2⟩ := ok_clash K (leavesF (sumOf K) seed (2 ^ h)) (keyN sig) _ _ hkl (by rw [hl]; exact hok) hne
    have hm : ∀ x ∈ rootT (sumOf K) (leavesF (sumOf K) seed (2 ^ h)) ++ (upF (sumOf K) (finT (sumOf K) (sig.extract 1 2145) msg) (keyN sig) (leavesF (sumOf K) seed (2 ^ h)).length (besideF h sig)).2, x ∈ forgedT (sumOf K) seed h was msg sig := fun x hx => by
      rw [hl] at hx
      exact mem_tree _ seed h was msg sig x hx
    exact h2 (inj _ (hm _ (List.getElem_mem ha)) _ (hm _ (List.getElem_mem hb)) h1)
  refine ⟨hz, hk, hne.2, fun c hc => ?_⟩
  have h1 := hne.1
  rw [leavesF_get] at h1
  unfold finT leafF at h1
  have h2 := chains_at (sumOf K) (sumOf_size K) _ _ _ _ (finB_size _ (by rw [ByteArray.size_extract]; omega)) (beginF_size K seed (keyN sig)) 67 h1 c hc
  unfold finB at h2
  rw [if_pos hc] at h2
  have hd := dig_le (sumOf K msg) c
  have := back (sumOf K) _ inj (15 - dig (sumOf K msg) c) 15 _ _ (by omega)
    (fun i hi => mem_fin _ seed h was msg sig _ (mem_finTs (sumOf K) (sig.extract 1 2145) (dig (sumOf K msg)) _ 67 c hc (mem_stepT (sumOf K) (pieceF (sig.extract 1 2145) c) _ i hi)))
    (fun i hi => mem_link (sumOf K) seed h was msg sig (keyN sig) c i hk hc hi) h2
  rw [this]
  congr 1
  omega

/-- Another message with the same signature: two texts of one hash are in hand. -/
theorem forged_msg (K : Nat → Int) (seed : ByteArray) (h k : Nat) (was msg : ByteArray) (hh : h ≤ 5) (hk : k < 2 ^ h) (hne : msg ≠ was) (hok : sigOk K (pubF (sumOf K) seed h) h msg (sigF (sumOf K) seed h k was) = true) :
    ∃ a b, b < a ∧ clashAt (sumOf K) (forgedT (sumOf K) seed h was msg (sigF (sumOf K) seed h k was)) a b := by
  refine Classical.byContradiction fun hno => ?_
  have inj : ∀ x ∈ forgedT (sumOf K) seed h was msg (sigF (sumOf K) seed h k was), ∀ y ∈ forgedT (sumOf K) seed h was msg (sigF (sumOf K) seed h k was), sumOf K x = sumOf K y → x = y := fun x hx y hy e =>
    Classical.byContradiction fun hxy => hno (clash_mem _ _ x y hx hy e hxy)
  have hN : 2 ^ h ≤ 32 := Nat.pow_le_pow_right (n := 2) (by omega) hh
  obtain ⟨hz, hk', hb, hp⟩ := sig_only K seed h was msg _ hok inj
  rw [sigF_key K seed h k was (by omega), sigF_vals] at hp
  have hd : ∀ c, c < 67 → dig (sumOf K was) c = dig (sumOf K msg) c := fun c hc => by
    have h1 := hp c hc
    unfold valuesF at h1
    rw [piece_chains _ (sumOf_size K) _ _ (beginF_size K seed k) 67 c hc] at h1
    have hm : ∀ i, i < 15 → m2 ++ stepF (sumOf K) (beginF (sumOf K) seed k c) i ∈ forgedT (sumOf K) seed h was msg (sigF (sumOf K) seed h k was) := fun i hi => mem_link _ seed h was msg _ k c i hk hc hi
    have hm0 : mK ++ seed ++ two k c ∈ forgedT (sumOf K) seed h was msg (sigF (sumOf K) seed h k was) := mem_begin _ seed h was msg _ k c hk hc
    have key : ∀ a b, a < b → b ≤ 15 → stepF (sumOf K) (beginF (sumOf K) seed k c) a = stepF (sumOf K) (beginF (sumOf K) seed k c) b → False := fun a b hab hb15 e => by
      have h2 := back (sumOf K) _ inj a b _ _ (by omega) (fun i hi => hm i (by omega)) (fun i hi => hm i (by omega)) e
      obtain ⟨d, hd⟩ : ∃ d, b - a = d + 1 := ⟨b - a - 1, by omega⟩
      rw [hd] at h2
      have h3 := inj _ hm0 _ (hm d (by omega)) h2
      exact mK_ne _ _ _ h3
    have d1 := dig_le (sumOf K was) c
    have d2 := dig_le (sumOf K msg) c
    rcases Nat.lt_trichotomy (dig (sumOf K was) c) (dig (sumOf K msg) c) with h2 | h2 | h2
    · exact absurd h1 (key _ _ h2 d2)
    · exact h2
    · exact absurd h1.symm (key _ _ h2 d1)
  have he := dig_inj _ _ (sumOf_size K was) (sumOf_size K msg) hd
  exact hne (inj was (mem_was _ _ _ _ _ _) msg (mem_msg _ _ _ _ _ _) he).symm

/-- A signature of which a byte is another one: two texts of one hash are in hand. -/
theorem forged_bit (K : Nat → Int) (seed : ByteArray) (h k : Nat) (msg sig : ByteArray) (q : Nat) (y : Int) (hh : h ≤ 5) (hk : k < 2 ^ h) (hs : numsOf sig = (numsOf (sigF (sumOf K) seed h k msg)).set q y) (hne : sig ≠ sigF (sumOf K) seed h k msg)
    (hok : sigOk K (pubF (sumOf K) seed h) h msg sig = true) : ∃ a b, b < a ∧ clashAt (sumOf K) (forgedT (sumOf K) seed h msg msg sig) a b := by
  refine Classical.byContradiction fun hno => ?_
  have inj : ∀ x ∈ forgedT (sumOf K) seed h msg msg sig, ∀ y ∈ forgedT (sumOf K) seed h msg msg sig, sumOf K x = sumOf K y → x = y := fun x hx y hy e =>
    Classical.byContradiction fun hxy => hno (clash_mem _ _ x y hx hy e hxy)
  have hN : 2 ^ h ≤ 32 := Nat.pow_le_pow_right (n := 2) (by omega) hh
  obtain ⟨hz, hk', hb, hp⟩ := sig_only K seed h msg msg _ hok inj
  have hsame : keyN sig = k := by
    by_cases hq : q = 0
    · subst hq
      have hv : sig.extract 1 2145 = valuesF (sumOf K) seed k msg := by
        rw [← sigF_vals K seed h k msg]
        apply nums_inj
        rw [nums_extract, nums_extract, hs, List.drop_set]
        simp
      have h1 := hp 0 (by omega)
      rw [hv] at h1
      unfold valuesF at h1
      rw [piece_chains _ (sumOf_size K) _ _ (beginF_size K seed k) 67 0 (by omega)] at h1
      have hm : ∀ i j, i < 2 ^ h → j < 15 → m2 ++ stepF (sumOf K) (beginF (sumOf K) seed i 0) j ∈ forgedT (sumOf K) seed h msg msg sig := fun i j hi hj => mem_link _ seed h msg msg sig i 0 j hi (by omega) hj
      have hm0 : ∀ i, i < 2 ^ h → mK ++ seed ++ two i 0 ∈ forgedT (sumOf K) seed h msg msg sig := fun i hi => mem_begin _ seed h msg msg sig i 0 hi (by omega)
      have hd := dig_le (sumOf K msg) 0
      have h2 := back (sumOf K) _ inj _ _ _ _ (Nat.le_refl _) (fun i hi => hm k i hk (by omega)) (fun i hi => hm (keyN sig) i hk' (by omega)) h1
      rw [Nat.sub_self] at h2
      have h3 := inj _ (hm0 k hk) _ (hm0 (keyN sig) hk') h2
      have h4 := (app_inj (by rfl) h3).2
      exact (two_ne k (keyN sig) 0 (by omega) (by omega) h4).symm
    · have e1 := nums_head sig (by omega)
      have e2 := nums_head (sigF (sumOf K) seed h k msg) (by rw [sigF_size]; omega)
      rw [hs] at e1
      obtain ⟨q', rfl⟩ : ∃ q', q = q' + 1 := ⟨q - 1, by omega⟩
      rw [e2, List.set_cons_succ] at e1
      have := (List.cons.inj e1).1
      rw [sigF_key K seed h k msg (by omega)] at this
      omega
  refine hne (sig_ext h _ _ hz (sigF_size K seed h k msg) (by rw [hsame, sigF_key K seed h k msg (by omega)]) (fun c hc => ?_) ?_)
  · rw [hp c hc, hsame, sigF_vals]
    unfold valuesF
    rw [piece_chains _ (sumOf_size K) _ _ (beginF_size K seed k) 67 c hc]
  · rw [hb, hsame, sigF_beside]
/-- A new head is kept. -/
theorem Al.headed {K : Nat → Int} {w : World} {z : Nv} {nd q bb N j u : Nat} {C : Nat → List Int} {l : ByteArray} {bk lm m cc ky : Nat} {lv : Value} {L : List En} {G F : Nat → Prop} {D : DataW Unit} (h : Al K w z nd q bb N j u C l bk lm m cc ky lv L G F D) (t : ByteArray) (n : Int) (hT : 1 ≠ nd) : Al K ((w.setCell ⟨nd, 8, none⟩ (.string t)).setCell ⟨nd, 9, none⟩ (.int .i64 n)) { z with he := t, hz := n } nd q bb N j u C l bk lm m cc ky lv L G F D := by
  have k1 : Kept (· = nd) w (w.setCell ⟨nd, 8, none⟩ (.string t)) := Kept.setCell _ _ _ (Or.inl rfl)
  have k2 : Kept (· = nd) (w.setCell ⟨nd, 8, none⟩ (.string t)) ((w.setCell ⟨nd, 8, none⟩ (.string t)).setCell ⟨nd, 9, none⟩ (.int .i64 n)) := Kept.setCell _ _ _ (Or.inl rfl)
  have k := k1.trans k2 (fun _ _ h => h)
  have c9 : (w.setCell ⟨nd, 8, none⟩ (.string t)).cell? ⟨nd, 9, none⟩ = some (.int .i64 z.hz) := by
    rw [World.cell?_setCell_other _ _ _ _ (by intro e; have := congrArg Addr.off e; simp at this)]; exact h.node 9 _ rfl
  have c8 : ((w.setCell ⟨nd, 8, none⟩ (.string t)).setCell ⟨nd, 9, none⟩ (.int .i64 n)).cell? ⟨nd, 8, none⟩ = some (.string t) := by
    rw [World.cell?_setCell_other _ _ _ _ (by intro e; have := congrArg Addr.off e; simp at this)]; exact World.cell?_setCell_same _ ⟨nd, 8, none⟩ _ (u := .string z.he) (h.node 8 _ rfl)
  have low : ∀ i, i < 8 → ((w.setCell ⟨nd, 8, none⟩ (.string t)).setCell ⟨nd, 9, none⟩ (.int .i64 n)).cell? ⟨nd, i, none⟩ = w.cell? ⟨nd, i, none⟩ := fun i hi => by
    rw [World.cell?_setCell_other _ _ _ _ (by intro e; have := congrArg Addr.off e; simp at this; omega), World.cell?_setCell_other _ _ _ _ (by intro e; have := congrArg Addr.off e; simp at this; omega)]
  refine ⟨fun i x hx => ?_, World.there_setCells (World.there_setCells h.room nd 8 [_]) nd 9 [_], by simpa using h.nlt, h.jat.kept k (fun g hg e => h.nap.2 (by rw [← e]; exact hg)), h.book.kept k (fun g hg e => h.nap.1 (by rw [← e]; exact hg)), h.ap, h.nap, h.tab.kept k hT, h.tap⟩
  rw [Nat.zero_add]
  match i, hx with
  | 0, hx => exact (low 0 (by omega)).trans (h.node 0 _ hx)
  | 1, hx => exact (low 1 (by omega)).trans (h.node 1 _ hx)
  | 2, hx => exact (low 2 (by omega)).trans (h.node 2 _ hx)
  | 3, hx => exact (low 3 (by omega)).trans (h.node 3 _ hx)
  | 4, hx => exact (low 4 (by omega)).trans (h.node 4 _ hx)
  | 5, hx => exact (low 5 (by omega)).trans (h.node 5 _ hx)
  | 6, hx => exact (low 6 (by omega)).trans (h.node 6 _ hx)
  | 7, hx => exact (low 7 (by omega)).trans (h.node 7 _ hx)
  | 8, hx => exact c8.trans hx
  | 9, hx => exact (World.cell?_setCell_same _ ⟨nd, 9, none⟩ _ c9).trans hx
  | n + 10, hx => cases hx
/-- What is signed: a head over all entries. -/
def msgF (K : Nat → Int) (L : List En) : ByteArray := hdT (L.length : Nat) (rootF (sumOf K) (evs K L))
/-- A signed head, with key ky. -/
def headF (K : Nat → Int) (sd : ByteArray) (h ky : Nat) (L : List En) : ByteArray := msgF K L ++ sigF (sumOf K) sd h ky (msgF K L)
theorem msgF_size (K : Nat → Int) (L : List En) : (msgF K L).size = 37 := by
  unfold msgF hdT
  rw [ByteArray.size_append, strOfNums_size, rootF_size _ (sumOf_size K)]
  simp [fourN]
def sgnPost (K : Nat → Int) (z : Nv) (nd q bb N j u : Nat) (bk lm m cc ky h : Nat) (lv : Value) (L : List En) (G F : Nat → Prop) (D : DataW Unit) (w : World) (e : Ending) (w' : World) : Prop :=
  e = .returned .nilIface ∧ ∃ C' l', Al K w' { z with he := headF K z.sd h ky L, hz := (L.length : Nat) } nd q bb N j (u + 1) C' l' bk lm m cc (ky + 1) lv L G F D ∧ Kept (fun g => alOwn q bb j bk lm lv G g ∨ g = nd) w w'

set_option maxRecDepth 10000 in
set_option maxHeartbeats 4000000 in
theorem nsign_any (K : Nat → Int) (z : Nv) (nd q bb N j u : Nat) (C : Nat → List Int) (l : ByteArray) (bk lm m cc ky h : Nat) (lv : Value) (L : List En) (G F : Nat → Prop) (D : DataW Unit) (w : World) (hA : Al K w z nd q bb N j u C l bk lm m cc ky lv L G F D) (hh : z.hg = (h : Nat)) (hh5 : h ≤ 5) (hsd : z.sd.size = 32) (hky : ky < 2 ^ h) (hN : N ≤ 1000) (hu : u < N) (hL0 : 0 < L.length) (hL : L.length ≤ 1000) (hw : ∀ e ∈ L, e.whole) (hT : 1 ≠ nd) :
    Calls Tryz.prog 78 #[.pointer (some ⟨nd, 0, none⟩)] w (sgnPost K z nd q bb N j u bk lm m cc ky h lv L G F D w) := by
  obtain ⟨a, cap, hlv⟩ := hA.book.slice
  have hN32 : 2 ^ h ≤ 32 := Nat.pow_le_pow_right (n := 2) (by omega) hh5
  have hkeys := bkeys_any bk (ky : Nat) w (hA.book.cells 4 _ rfl)
  have hkc := keyCount_any h
  have c2 : w.cell? ⟨nd, 2, none⟩ = some (.pointer (some ⟨bk, 0, none⟩)) := hA.node 2 _ rfl
  have c4 : w.cell? ⟨nd, 4, none⟩ = some (.int .i64 (h : Nat)) := by rw [← hh]; exact hA.node 4 _ rfl
  have hwr := fun V (A : Al K V z nd q bb N j u C l bk lm m cc ky lv L G F D) => nkey_any K z nd q bb N j u C l bk lm m cc ky lv L G F D V A hN hu (by omega)
  have hmf : ∀ (fn : Fn) (first cap : Array Value) (w : World), (Instr.makeFunc fn first cap).run Tryz.prog w = .ok (.func fn first cap) w := fun _ _ _ _ => rfl
  have HA : Hid (Al K w z nd q bb N j u C l bk lm m cc ky lv L G F D) := hA
  have HW : Hid (∀ e ∈ L, e.whole) := hw
  have HWR : Hid (∀ V, Al K V z nd q bb N j u C l bk lm m cc ky lv L G F D → Calls Tryz.prog 97 #[.pointer (some ⟨nd, 0, none⟩), .func (.func 119) #[.pointer (some ⟨bk, 0, none⟩)] #[]] V fun e w' => e = .returned .nilIface ∧ ∃ C' l', Al K w' z nd q bb N j (u + 1) C' l' bk lm m cc (ky + 1) lv L G F D ∧ Kept (alOwn q bb j bk lm lv G) V w') := hwr
  have HH : Hid (z.hg = (h : Nat)) := hh
  have y1 : ¬ ((2 ^ h : Nat) : Int) ≤ (ky : Int) := by omega
  have HKY : Hid (ky < 2 ^ h ∧ 2 ^ h ≤ 32) := ⟨hky, hN32⟩
  have HKC : Hid (∀ w, Calls Tryz.prog 114 #[.int .i64 (h : Nat)] w fun e w' => e = .returned (.int .i64 ((2 ^ h : Nat) : Int)) ∧ w' = w) := fun w => hkc w (by omega)
  clear hA hw hwr hh hky hN32 hkc
  generalize hP : 2 ^ h = P2 at *
  go_enter Tryz.func78, Tryz.ntmps78
  go_wp2_with fail
  refine hkeys.mono ?_
  rintro e w1 ⟨rfl, hww1⟩
  have hb1 : Below w.heap.size w w1 := by rw [hww1]; exact Below.refl _ _
  clear hww1
  have A1 := HA.out.fresh hb1
  have d2 : w1.cell? ⟨nd, 2, none⟩ = some (.pointer (some ⟨bk, 0, none⟩)) := A1.node 2 _ rfl
  have d4 : w1.cell? ⟨nd, 4, none⟩ = some (.int .i64 (h : Nat)) := by rw [← HH.out]; exact A1.node 4 _ rfl
  have hkc1 := HKC.out w1
  have hwr1 := HWR.out w1 A1
  have K1 : Hid (Kept (fun g => alOwn q bb j bk lm lv G g ∨ g = nd) w w1) := (Kept.fresh (S := fun g => alOwn q bb j bk lm lv G g ∨ g = nd) hb1)
  clear hkeys c2 c4 hb1 A1
  go_wp2_with fail
  refine hkc1.mono ?_
  rintro e w1' ⟨rfl, hww⟩
  obtain rfl : w1 = w1' := hww.symm
  clear hww hkc1
  go_wp2_with fail
  refine hwr1.mono ?_
  rintro e W2 ⟨rfl, C', l', A2, k2⟩
  have HA2 : Hid (Al K W2 z nd q bb N j (u + 1) C' l' bk lm m cc (ky + 1) lv L G F D) := A2
  have K2 : Hid (Kept (fun g => alOwn q bb j bk lm lv G g ∨ g = nd) w W2) := K1.out.trans (k2.mono (fun g _ h => Or.inl h)) (fun _ _ h => h)
  have e2 : W2.cell? ⟨nd, 2, none⟩ = some (.pointer (some ⟨bk, 0, none⟩)) := A2.node 2 _ rfl
  have hen := bentries_any bk a L.length cap W2 (by rw [← hlv]; exact A2.book.cells 1 _ rfl)
  have hev := bevents_any K bk j lm m cc (ky + 1) lv L G F D L.length W2 A2.book (Nat.le_refl _) hL HW.out A2.tab
  clear hwr1 d2 d4 k2 A2 K1
  go_wp2_with fail
  refine hen.mono ?_
  rintro e W2' ⟨rfl, hww⟩
  obtain rfl : W2 = W2' := hww.symm
  clear hww hen
  go_wp2_with fail
  refine hev.mono ?_
  rintro e W3 ⟨rfl, P3⟩
  have b3 : Below W2.heap.size W2 W3 := P3.b
  have hl3 := P3.evs (Nat.le_refl _)
  rw [List.take_of_length_le (by rw [evs_len]; exact Nat.le_refl _)] at hl3
  have hrt := root_any K L.length (evs K L) (.slice (some ⟨W2.heap.size, 0, none⟩) L.length L.length) W3 (evs_len K L) hL0 (by omega) hl3 (by have := evs_small K L L.length; rwa [List.take_of_length_le (by rw [evs_len]; exact Nat.le_refl _)] at this) (HA2.out.tab.below b3)
  have HB3 : Hid (Below W2.heap.size W2 W3) := b3
  obtain ⟨r, hr⟩ : ∃ r, r = rootF (sumOf K) (evs K L) := ⟨_, rfl⟩
  have hr32 : r.size = 32 := by rw [hr]; exact rootF_size _ (sumOf_size K) _
  rw [← hr] at hrt
  have HR : Hid (r = rootF (sumOf K) (evs K L)) := hr
  have hbu := hd_built (L.length : Nat) r hr32
  have hby := fun W => hbytes_any (L.length : Nat) r W ⟨by omega, by omega⟩ hr32
  clear hev P3 b3 hl3 hr e2
  generalize hhr : (hdC (L.length : Nat) r).toArray = hha at *
  have HBU : Hid (Tryz.prog.built 132 [(0, .int .i64 (L.length : Nat)), (1, .agg (hV r).toArray)] = some hha) := hbu
  have HBY : Hid (∀ W, Calls Tryz.prog 121 #[.agg hha] W fun e w' => e = .returned (.string (hdT (L.length : Nat) r)) ∧ Below W.heap.size W w') := hby
  clear hbu hby hhr
  go_wp2_with fail
  refine hrt.mono ?_
  rintro e W4 ⟨rfl, b4⟩
  have HB4 : Hid (Below W2.heap.size W2 W4) := HB3.out.trans (b4.mono HB3.out.size)
  have hby4 := HBY.out W4
  clear hrt b4
  generalize hvr : (hV r).toArray = hva at *
  go_wp2_with (first
    | (refine wpList_build_tm rfl 132 _ rfl hha (Eq.trans (congrArg (Tryz.prog.built _) (by simp [Act.eval, Act.put])) HBU.out) ?_))
  refine hby4.mono ?_
  rintro e W5 ⟨rfl, b5⟩
  have HB5 : Hid (Below W2.heap.size W2 W5) := HB4.out.trans (b5.mono HB4.out.size)
  have A5 := HA2.out.fresh HB5.out
  obtain ⟨msg, hmsg⟩ : ∃ msg, msg = hdT (L.length : Nat) r := ⟨_, rfl⟩
  have HM : Hid (msg = msgF K L) := by show _ = _; rw [hmsg, HR.out]; rfl
  have hm37 : msg.size = 37 := by rw [HM.out]; exact msgF_size K L
  rw [← hmsg]
  have HND : Hid (nd < W5.heap.size) := A5.nlt
  have J0 : W5.drew.cell? ⟨nd, 3, none⟩ = some (.string z.sd) ∧ W5.drew.cell? ⟨nd, 4, none⟩ = some (.int .i64 (h : Nat)) := ⟨A5.node 3 _ rfl, by rw [← HH.out]; exact A5.node 4 _ rfl⟩
  have hsg0 := psign_any K z.sd h ky msg W5.drew hsd hh5 (by rw [hP]; exact HKY.out.1) (by omega) A5.tab.drew
  obtain ⟨sg, hsgE⟩ : ∃ s, s = sigF (sumOf K) z.sd h ky msg := ⟨_, rfl⟩
  have HSG : Hid (sg = sigF (sumOf K) z.sd h ky msg) := hsgE
  have hsg : Calls Tryz.prog 122 #[.string z.sd, .int .i64 (h : Nat), .int .i64 (ky : Nat), .string msg] W5.drew fun e w' => e = .returned (.tuple #[.string sg, .nilIface]) ∧ Below W5.drew.heap.size W5.drew w' := by rw [hsgE]; exact hsg0
  have hs6 : sg.size ≤ 100000 := by rw [hsgE, sigF_size]; omega
  clear hby4 b5 A5 hsg0 hsgE hmsg
  go_wp2_with fail
  refine wp_region_noPanic ?_
  refine wp_region_held_drew (S := fun W => W.cell? ⟨nd, 3, none⟩ = some (.string z.sd) ∧ W.cell? ⟨nd, 4, none⟩ = some (.int .i64 (h : Nat))) (by kernel_rfl) J0 (fun _ => ?_)
  refine tk 0 J0 ?_
  refine tk 1 J0 ?_
  refine tk 2 J0 ?_
  refine tq (i := 3) (v := ?_) rfl J0 ?_ ?_
  rotate_left 1
  · intro W hSW; have q3 := hSW.1; clear hSW; go_simp; try with_reducible rfl
  simp only [qA, qB, qC, Act.put, qD, qE, qF]
  refine tk 4 J0 ?_
  refine tk 5 J0 ?_
  refine tk 6 J0 ?_
  refine tq (i := 7) (v := ?_) rfl J0 ?_ ?_
  rotate_left 1
  · intro W hSW; have q4 := hSW.2; clear hSW; go_simp; try with_reducible rfl
  simp only [qA, qB, qC, Act.put, qD, qE, qF]
  refine tk 8 J0 ?_
  refine tk 9 J0 ?_
  refine rk 10 (fun K' hK' => ?_)
  go_simp
  refine hsg.mono ?_
  rintro e W6 ⟨rfl, b6⟩
  have s6 := b6.size
  have b6' : Below W5.heap.size W5 W6 := ((Below.refl _ _).drew).trans b6
  have J6 : W6.cell? ⟨nd, 3, none⟩ = some (.string z.sd) ∧ W6.cell? ⟨nd, 4, none⟩ = some (.int .i64 (h : Nat)) := ⟨(b6'.cell (p := ⟨nd, 3, none⟩) HND.out).trans J0.1, (b6'.cell (p := ⟨nd, 4, none⟩) HND.out).trans J0.2⟩
  have HB6 : Hid (Below W5.heap.size W5 W6) := b6'
  clear hsg b6 b6'
  refine hK'.out _ _ J6 (fun _ => ?_)
  clear hK' K'
  try simp only [qA, qB, qC, Act.put, qD, qE, qF]
  refine tk 11 J6 ?_
  refine tk 12 J6 ?_
  refine tk 13 J6 ?_
  refine tk 14 J6 ?_
  refine tk 15 J6 ?_
  refine ⟨by kernel_rfl, ?_⟩
  refine NoPanic.normal ?_
  try simp only [qA, qB, qC, Act.put, qD, qE, qF]
  have A6 := HA2.out.fresh (HB5.out.trans (HB6.out.mono HB5.out.size))
  have HAL : Hid (∀ t n, Al K ((W6.setCell ⟨nd, 8, none⟩ (.string t)).setCell ⟨nd, 9, none⟩ (.int .i64 n)) { z with he := t, hz := n } nd q bb N j (u + 1) C' l' bk lm m cc (ky + 1) lv L G F D) := fun t n => A6.headed t n hT
  have c8 : W6.cell? ⟨nd, 8, none⟩ = some (.string z.he) := A6.node 8 _ rfl
  have f8 : W6.frozen? ⟨nd, 8, none⟩ = false := (A6.room 8 (by omega)).2
  obtain ⟨W7, h7⟩ : ∃ X, X = W6.setCell ⟨nd, 8, none⟩ (.string (msg ++ sg)) := ⟨_, rfl⟩
  have c9 : W7.cell? ⟨nd, 9, none⟩ = some (.int .i64 z.hz) := by
    rw [h7, World.cell?_setCell_other _ _ _ _ (by intro e; have := congrArg Addr.off e; simp at this)]; exact A6.node 9 _ rfl
  have f9 : W7.frozen? ⟨nd, 9, none⟩ = false := by
    have := World.there_setCells A6.room nd 8 [.string (msg ++ sg)]
    rw [h7]; exact (this 9 (by omega)).2
  obtain ⟨W8, h8⟩ : ∃ X, X = W7.setCell ⟨nd, 9, none⟩ (.int .i64 (L.length : Nat)) := ⟨_, rfl⟩
  have HE8 : Hid (W8 = (W6.setCell ⟨nd, 8, none⟩ (.string (msg ++ sg))).setCell ⟨nd, 9, none⟩ (.int .i64 (L.length : Nat))) := by show _ = _; rw [h8, h7]
  have z1 : ¬ (9223372036854775807 < 37 + sg.size) := by omega
  have z2 : ¬ (9223372036854775807 < msg.size + sg.size) := by omega
  clear A6 J0 J6
  go_wp2_with (first | (rw [← h7]; clear h7) | (rw [← h8]; clear h8))
  go_ret
  try rw [← h8]
  have ha := HAL.out (msg ++ sg) (L.length : Nat)
  rw [← HE8.out] at ha
  have hhead : msg ++ sg = headF K z.sd h ky L := by unfold headF; rw [HSG.out, HM.out]
  rw [hhead] at ha
  refine ⟨rfl, C', l', ha, ?_⟩
  have k6 : Kept (fun g => alOwn q bb j bk lm lv G g ∨ g = nd) W2 W6 := Kept.fresh (HB5.out.trans (HB6.out.mono HB5.out.size))
  have k8 : Kept (fun g => alOwn q bb j bk lm lv G g ∨ g = nd) W6 W8 := by
    rw [HE8.out]
    exact (Kept.setCell _ _ _ (Or.inl (Or.inr rfl))).trans (Kept.setCell _ _ _ (Or.inl (Or.inr rfl))) (fun _ _ h => h)
  exact (K2.out.trans k6 (fun _ _ h => h)).trans k8 (fun _ _ h => h)
set_option maxHeartbeats 1000000 in
/-- No key is left. -/
theorem nsign_none (K : Nat → Int) (z : Nv) (nd q bb N j u : Nat) (C : Nat → List Int) (l : ByteArray) (bk lm m cc ky h : Nat) (lv : Value) (L : List En) (G F : Nat → Prop) (D : DataW Unit) (w : World) (hA : Al K w z nd q bb N j u C l bk lm m cc ky lv L G F D) (hh : z.hg = (h : Nat)) (hh5 : h ≤ 5) (hky : 2 ^ h ≤ ky) :
    Calls Tryz.prog 78 #[.pointer (some ⟨nd, 0, none⟩)] w fun e w' => e = .returned (.iface 41 (.int .i64 12)) ∧ Below w.heap.size w w' := by
  have hkeys := bkeys_any bk (ky : Nat) w (hA.book.cells 4 _ rfl)
  have hkc := keyCount_any h w (by omega)
  have c2 : w.cell? ⟨nd, 2, none⟩ = some (.pointer (some ⟨bk, 0, none⟩)) := hA.node 2 _ rfl
  have c4 : w.cell? ⟨nd, 4, none⟩ = some (.int .i64 (h : Nat)) := by rw [← hh]; exact hA.node 4 _ rfl
  have y1 : ((2 ^ h : Nat) : Int) ≤ (ky : Int) := by omega
  clear hA hh hky
  generalize 2 ^ h = P2 at *
  go_enter Tryz.func78, Tryz.ntmps78
  go_wp2_with fail
  refine hkeys.mono ?_
  rintro e w1 ⟨rfl, hww⟩
  obtain rfl : w = w1 := hww.symm
  clear hww hkeys
  go_wp2_with fail
  refine hkc.mono ?_
  rintro e w1 ⟨rfl, hww⟩
  obtain rfl : w = w1 := hww.symm
  clear hww hkc
  go_wp2_with fail
  go_ret
  exact ⟨rfl, Below.refl _ _⟩
/-- Is a new head wanted? -/
def wants (z : Nv) (n : Nat) : Prop := z.he = ⟨#[]⟩ ∨ (z.he.toList.isEmpty = false ∧ z.hz ≠ (n : Nat))

def hdGen (w : World) (R : World → World → Prop) (hd : ByteArray) (ev : Value) (e : Ending) (w' : World) : Prop :=
  ∃ W W', Below w.heap.size w W ∧ R W W' ∧ Below W'.heap.size W' w' ∧ ((ev = .nilIface ∧ e = .returned (.tuple #[.string hd, .nilIface])) ∨ (ev ≠ .nilIface ∧ e = .returned (.tuple #[.string ⟨#[]⟩, ev])))
set_option maxRecDepth 10000 in
set_option maxHeartbeats 4000000 in
/-- Head, where a new one is wanted: it is as signHead says. -/
theorem nhead_gen (K : Nat → Int) (z : Nv) (nd q bb N j u : Nat) (C : Nat → List Int) (l : ByteArray) (bk lm m cc ky h : Nat) (lv : Value) (L : List En) (G F : Nat → Prop) (D : DataW Unit) (w : World) (hA : Al K w z nd q bb N j u C l bk lm m cc ky lv L G F D) (hz : z.r = z.last) (hwt : wants z L.length) (ev : Value) (R : World → World → Prop) (hev : ev = .nilIface ∨ ev = .iface 41 (.int .i64 12)) (hd : ByteArray) (hd5 : hd.size ≤ 100000)
    (hsg : ∀ W, Below w.heap.size w W → Calls Tryz.prog 78 #[.pointer (some ⟨nd, 0, none⟩)] W fun e w' => e = .returned ev ∧ R W w' ∧ (ev = .nilIface → w'.cell? ⟨nd, 8, none⟩ = some (.string hd))) :
    Calls Tryz.prog 40 #[.pointer (some ⟨nd, 0, none⟩)] w (hdGen w R hd ev) := by
  obtain ⟨a, cap, hlv⟩ := hA.book.slice
  have hp := nd_place hA.node
  have hpl := info_pl z
  have hl := last_any z
  simp only [decide_eq_true hz] at hl
  have c7 : w.cell? ⟨nd, 7, none⟩ = some (.bool false) := hA.node 7 _ rfl
  have HA : Hid (Al K w z nd q bb N j u C l bk lm m cc ky lv L G F D) := hA
  clear hA hz
  go_enter Tryz.func40, Tryz.ntmps40
  go_wp2_with (first
    | (refine wpList_load_mid rfl 108 _ rfl nd 0 rfl (plL z) _ hp Tryz.underlying108 rfl hpl ?_))
  refine (hl w).mono ?_
  rintro e w1 ⟨rfl, hb1⟩
  have A1 := HA.out.fresh hb1
  have HA1 : Hid (Al K w1 z nd q bb N j u C l bk lm m cc ky lv L G F D) := A1
  have HB1 : Hid (Below w.heap.size w w1) := hb1
  have hen := bentries_any bk a L.length cap w1.drew (by rw [← hlv]; exact A1.book.cells 1 _ rfl)
  have hsg1 := hsg w1.drew (hb1.drew)
  have hcl := fun W => sclone_any hd W hd5
  clear hp hb1 hl c7 hsg
  rcases hwt with hE | ⟨hE, hZ⟩
  case' inl =>
    have J0 : w1.drew.cell? ⟨nd, 8, none⟩ = some (.string ⟨#[]⟩) ∧ w1.drew.cell? ⟨nd, 9, none⟩ = some (.int .i64 z.hz) ∧ w1.drew.cell? ⟨nd, 2, none⟩ = some (.pointer (some ⟨bk, 0, none⟩)) := ⟨by rw [← hE]; exact A1.node 8 _ rfl, A1.node 9 _ rfl, A1.node 2 _ rfl⟩
    clear A1 hE hen
    go_wp2_with fail
    refine wp_region_noPanic ?_
    refine wp_region_held_drew (S := fun W => W.cell? ⟨nd, 8, none⟩ = some (.string ⟨#[]⟩) ∧ W.cell? ⟨nd, 9, none⟩ = some (.int .i64 z.hz) ∧ W.cell? ⟨nd, 2, none⟩ = some (.pointer (some ⟨bk, 0, none⟩))) (by kernel_rfl) J0 (fun _ => ?_)
    refine tk 0 J0 ?_
    refine tk 1 J0 ?_
    refine tk 2 J0 ?_
    refine tq (i := 3) (v := ?_) rfl J0 ?_ ?_
    rotate_left 1
    · intro W hSW; have q8 := hSW.1; clear hSW; go_simp; try with_reducible rfl
    simp only [qA, qB, qC, Act.put, qD, qE, qF]
    refine tk 4 J0 ?_
    refine tk 5 J0 ?_
    refine wpAnyH_take (i := 6) (v := undef) rfl (by kernel_rfl) (by kernel_rfl) (by kernel_rfl) (fun _ _ _ h => h) (Or.inr ⟨by rfl, rfl⟩) J0 ?_
    simp only [qA, qB, qC, Act.put, qD, qE, qF]
    refine wpAnyH_take (i := 7) (v := undef) rfl (by kernel_rfl) (by kernel_rfl) (by kernel_rfl) (fun _ _ _ h => h) (Or.inr ⟨by rfl, rfl⟩) J0 ?_
    simp only [qA, qB, qC, Act.put, qD, qE, qF]
    refine wpAnyH_take (i := 8) (v := undef) rfl (by kernel_rfl) (by kernel_rfl) (by kernel_rfl) (fun _ _ _ h => h) (Or.inr ⟨by rfl, rfl⟩) J0 ?_
    simp only [qA, qB, qC, Act.put, qD, qE, qF]
    refine wpAnyH_take (i := 9) (v := undef) rfl (by kernel_rfl) (by kernel_rfl) (by kernel_rfl) (fun _ _ _ h => h) (Or.inr ⟨by rfl, rfl⟩) J0 ?_
    simp only [qA, qB, qC, Act.put, qD, qE, qF]
    refine wpAnyH_take (i := 10) (v := undef) rfl (by kernel_rfl) (by kernel_rfl) (by kernel_rfl) (fun _ _ _ h => h) (Or.inr ⟨by rfl, rfl⟩) J0 ?_
    simp only [qA, qB, qC, Act.put, qD, qE, qF]
    refine wpAnyH_take (i := 11) (v := undef) rfl (by kernel_rfl) (by kernel_rfl) (by kernel_rfl) (fun _ _ _ h => h) (Or.inr ⟨by rfl, rfl⟩) J0 ?_
    simp only [qA, qB, qC, Act.put, qD, qE, qF]
    refine wpAnyH_take (i := 12) (v := undef) rfl (by kernel_rfl) (by kernel_rfl) (by kernel_rfl) (fun _ _ _ h => h) (Or.inr ⟨by rfl, rfl⟩) J0 ?_
    simp only [qA, qB, qC, Act.put, qD, qE, qF]
    refine wpAnyH_take (i := 13) (v := undef) rfl (by kernel_rfl) (by kernel_rfl) (by kernel_rfl) (fun _ _ _ h => h) (Or.inr ⟨by rfl, rfl⟩) J0 ?_
    simp only [qA, qB, qC, Act.put, qD, qE, qF]
    refine wpAnyH_take (i := 14) (v := undef) rfl (by kernel_rfl) (by kernel_rfl) (by kernel_rfl) (fun _ _ _ h => h) (Or.inr ⟨by rfl, rfl⟩) J0 ?_
    simp only [qA, qB, qC, Act.put, qD, qE, qF]
    refine wpAnyH_take (i := 15) (v := undef) rfl (by kernel_rfl) (by kernel_rfl) (by kernel_rfl) (fun _ _ _ h => h) (Or.inr ⟨by rfl, rfl⟩) J0 ?_
    simp only [qA, qB, qC, Act.put, qD, qE, qF]
    refine tk 16 J0 ?_
    refine ⟨by kernel_rfl, ?_⟩
    refine NoPanic.normal ?_
    try simp only [qA, qB, qC, Act.put, qD, qE, qF]
    go_wp2_with fail
  case' inr =>
    have J0 : w1.drew.cell? ⟨nd, 8, none⟩ = some (.string z.he) ∧ w1.drew.cell? ⟨nd, 9, none⟩ = some (.int .i64 z.hz) ∧ w1.drew.cell? ⟨nd, 2, none⟩ = some (.pointer (some ⟨bk, 0, none⟩)) := ⟨A1.node 8 _ rfl, A1.node 9 _ rfl, A1.node 2 _ rfl⟩
    have hzz : (z.hz == (L.length : Int)) = false := by rw [beq_eq_false_iff_ne]; exact hZ
    have hzz2 : (z.hz != (L.length : Int)) = true := by rw [bne_iff_ne]; exact hZ
    clear A1
    go_wp2_with fail
    refine wp_region_noPanic ?_
    refine wp_region_held_drew (S := fun W => W.cell? ⟨nd, 8, none⟩ = some (.string z.he) ∧ W.cell? ⟨nd, 9, none⟩ = some (.int .i64 z.hz) ∧ W.cell? ⟨nd, 2, none⟩ = some (.pointer (some ⟨bk, 0, none⟩))) (by kernel_rfl) J0 (fun _ => ?_)
    refine tk 0 J0 ?_
    refine tk 1 J0 ?_
    refine tk 2 J0 ?_
    refine tq (i := 3) (v := ?_) rfl J0 ?_ ?_
    rotate_left 1
    · intro W hSW; have q8 := hSW.1; clear hSW; go_simp; try with_reducible rfl
    simp only [qA, qB, qC, Act.put, qD, qE, qF]
    refine tk 4 J0 ?_
    refine tk 5 J0 ?_
    refine tk 6 J0 ?_
    refine tk 7 J0 ?_
    refine tk 8 J0 ?_
    refine tq (i := 9) (v := ?_) rfl J0 ?_ ?_
    rotate_left 1
    · intro W hSW; have q9 := hSW.2.1; clear hSW; go_simp; try with_reducible rfl
    simp only [qA, qB, qC, Act.put, qD, qE, qF]
    refine tk 10 J0 ?_
    refine tk 11 J0 ?_
    refine tk 12 J0 ?_
    refine tq (i := 13) (v := ?_) rfl J0 ?_ ?_
    rotate_left 1
    · intro W hSW; have q2 := hSW.2.2; clear hSW; go_simp; try with_reducible rfl
    simp only [qA, qB, qC, Act.put, qD, qE, qF]
    refine rk 14 (fun K' hK' => ?_)
    go_simp
    refine hen.mono ?_
    rintro e Wx ⟨rfl, hwx⟩
    rw [hwx]
    clear hen
    refine hK'.out _ _ J0 (fun _ => ?_)
    clear hK' K'
    try simp only [qA, qB, qC, Act.put, qD, qE, qF]
    refine tk 15 J0 ?_
    refine tk 16 J0 ?_
    refine ⟨by kernel_rfl, ?_⟩
    refine NoPanic.normal ?_
    try simp only [qA, qB, qC, Act.put, qD, qE, qF]
    clear hZ hE
    go_wp2_with fail
  all_goals
    refine hsg1.mono ?_
    rintro e W2 ⟨rfl, hR, hc8⟩
    clear hsg1
    rcases hev with rfl | rfl
    · have c8 : W2.cell? ⟨nd, 8, none⟩ = some (.string hd) := hc8 rfl
      have hcl2 := hcl W2
      clear hc8 hcl J0
      go_wp2_with fail
      refine hcl2.mono ?_
      rintro e W3 ⟨rfl, b3⟩
      clear hcl2
      go_wp2_with fail
      go_ret2
      exact ⟨w1.drew, W2, HB1.out.drew, hR, b3, Or.inl ⟨rfl, rfl⟩⟩
    · clear hc8 hcl J0
      go_wp2_with fail
      go_ret2
      exact ⟨w1.drew, W2, HB1.out.drew, hR, Below.refl _ _, Or.inr ⟨(fun e => by cases e), rfl⟩⟩

set_option maxRecDepth 10000 in
set_option maxHeartbeats 4000000 in
/-- Head, where the old one serves. -/
theorem nhead_same (K : Nat → Int) (z : Nv) (nd q bb N j u : Nat) (C : Nat → List Int) (l : ByteArray) (bk lm m cc ky h : Nat) (lv : Value) (L : List En) (G F : Nat → Prop) (D : DataW Unit) (w : World) (hA : Al K w z nd q bb N j u C l bk lm m cc ky lv L G F D) (hz : z.r = z.last) (hE : z.he.toList.isEmpty = false) (h5 : z.he.size ≤ 100000) (hZ : z.hz = (L.length : Nat)) :
    Calls Tryz.prog 40 #[.pointer (some ⟨nd, 0, none⟩)] w fun e w' => e = .returned (.tuple #[.string z.he, .nilIface]) ∧ Below w.heap.size w w' := by
  obtain ⟨a, cap, hlv⟩ := hA.book.slice
  have hp := nd_place hA.node
  have hpl := info_pl z
  have hl := last_any z
  simp only [decide_eq_true hz] at hl
  have c7 : w.cell? ⟨nd, 7, none⟩ = some (.bool false) := hA.node 7 _ rfl
  have HA : Hid (Al K w z nd q bb N j u C l bk lm m cc ky lv L G F D) := hA
  clear hA hz
  go_enter Tryz.func40, Tryz.ntmps40
  go_wp2_with (first
    | (refine wpList_load_mid rfl 108 _ rfl nd 0 rfl (plL z) _ hp Tryz.underlying108 rfl hpl ?_))
  refine (hl w).mono ?_
  rintro e w1 ⟨rfl, hb1⟩
  have A1 := HA.out.fresh hb1
  have HA1 : Hid (Al K w1 z nd q bb N j u C l bk lm m cc ky lv L G F D) := A1
  have HB1 : Hid (Below w.heap.size w w1) := hb1
  have hen := bentries_any bk a L.length cap w1.drew (by rw [← hlv]; exact A1.book.cells 1 _ rfl)
  have hcl := sclone_any z.he w1.drew h5
  have c8 : w1.drew.cell? ⟨nd, 8, none⟩ = some (.string z.he) := A1.node 8 _ rfl
  have J0 : w1.drew.cell? ⟨nd, 8, none⟩ = some (.string z.he) ∧ w1.drew.cell? ⟨nd, 9, none⟩ = some (.int .i64 z.hz) ∧ w1.drew.cell? ⟨nd, 2, none⟩ = some (.pointer (some ⟨bk, 0, none⟩)) := ⟨A1.node 8 _ rfl, A1.node 9 _ rfl, A1.node 2 _ rfl⟩
  clear hp hb1 hl c7 A1
  go_wp2_with fail
  refine wp_region_noPanic ?_
  refine wp_region_held_drew (S := fun W => W.cell? ⟨nd, 8, none⟩ = some (.string z.he) ∧ W.cell? ⟨nd, 9, none⟩ = some (.int .i64 z.hz) ∧ W.cell? ⟨nd, 2, none⟩ = some (.pointer (some ⟨bk, 0, none⟩))) (by kernel_rfl) J0 (fun _ => ?_)
  refine tk 0 J0 ?_
  refine tk 1 J0 ?_
  refine tk 2 J0 ?_
  refine tq (i := 3) (v := ?_) rfl J0 ?_ ?_
  rotate_left 1
  · intro W hSW; have q8 := hSW.1; clear hSW; go_simp; try with_reducible rfl
  simp only [qA, qB, qC, Act.put, qD, qE, qF]
  refine tk 4 J0 ?_
  refine tk 5 J0 ?_
  refine tk 6 J0 ?_
  refine tk 7 J0 ?_
  refine tk 8 J0 ?_
  refine tq (i := 9) (v := ?_) rfl J0 ?_ ?_
  rotate_left 1
  · intro W hSW; have q9 := hSW.2.1; clear hSW; go_simp; try with_reducible rfl
  simp only [qA, qB, qC, Act.put, qD, qE, qF]
  refine tk 10 J0 ?_
  refine tk 11 J0 ?_
  refine tk 12 J0 ?_
  refine tq (i := 13) (v := ?_) rfl J0 ?_ ?_
  rotate_left 1
  · intro W hSW; have q2 := hSW.2.2; clear hSW; go_simp; try with_reducible rfl
  simp only [qA, qB, qC, Act.put, qD, qE, qF]
  refine rk 14 (fun K' hK' => ?_)
  go_simp
  refine hen.mono ?_
  rintro e Wx ⟨rfl, hwx⟩
  rw [hwx]
  clear hen
  refine hK'.out _ _ J0 (fun _ => ?_)
  clear hK' K'
  try simp only [qA, qB, qC, Act.put, qD, qE, qF]
  refine tk 15 J0 ?_
  refine tk 16 J0 ?_
  refine ⟨by kernel_rfl, ?_⟩
  refine NoPanic.normal ?_
  try simp only [qA, qB, qC, Act.put, qD, qE, qF]
  clear hE
  go_wp2_with fail
  refine hcl.mono ?_
  rintro e W3 ⟨rfl, b3⟩
  clear hcl
  go_wp2_with fail
  go_ret2
  exact ⟨rfl, HB1.out.drew.trans (b3.mono HB1.out.size)⟩
end Go.Proofs.YteglimjonofdeaaGreatDoor
