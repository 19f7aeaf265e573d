import Derived.Test.YteebdadnfaekmaaDoorIMet
set_option linter.unusedVariables false
set_option linter.unusedSimpArgs false
namespace Go.Proofs.YteebdadnfaekmaaDoor

/-- A proof leads to the root. -/
theorem climb_good (H : ByteArray → ByteArray) (hH : ∀ s, (H s).size = 32) : ∀ (n : Nat) (l : List ByteArray) (i : Nat) (leaf : ByteArray), l.length = n → i < n → l[i]? = some leaf → climbF H leaf i n (inclF H l i) = (rootF H l, true) := by
  intro n
  induction n using Nat.strongRecOn with
  | _ n ih =>
  intro l i leaf hl hi hx
  by_cases h2 : 2 ≤ l.length
  · have hk0 := halfN_pos l.length
    have hk1 := halfN_lt h2
    by_cases hik : i < halfN l.length
    · rw [inclF_left H h2 hik, ← hl, climbF_left H _ _ _ (by omega) _ _ (rootF_size H hH _) hik, rootF_more H h2]
      rw [ih (halfN l.length) (by omega) (l.take (halfN l.length)) i leaf (by simp; omega) hik (by rw [List.getElem?_take_of_lt hik]; exact hx)]
    · rw [inclF_right H h2 hik, ← hl, climbF_right H _ _ _ (by omega) _ _ (rootF_size H hH _) hik, rootF_more H h2]
      rw [ih (l.length - halfN l.length) (by omega) (l.drop (halfN l.length)) (i - halfN l.length) leaf (by simp) (by omega) (by rw [List.getElem?_drop, show halfN l.length + (i - halfN l.length) = i by omega]; exact hx)]
  · obtain ⟨s, rfl⟩ : ∃ s, l = [s] := List.length_eq_one_iff.1 (by omega)
    obtain rfl : i = 0 := by simp at hl; omega
    simp at hx hl
    subst hx hl
    rw [inclF_one H (by simp), climbF_one, rootF]; rfl

/-- A proof that fits has as many hashes. -/
theorem climb_len (H : ByteArray → ByteArray) : ∀ (n : Nat) (l : List ByteArray) (i : Nat) (leaf : ByteArray) (pf : List ByteArray), l.length = n → i < l.length → (climbF H leaf i l.length pf).2 = true → pf.length = (inclF H l i).length := by
  intro n
  induction n using Nat.strongRecOn with
  | _ n ih =>
  intro l i leaf pf hl hi hf
  by_cases h2 : 2 ≤ l.length
  · have hk0 := halfN_pos l.length
    have hk1 := halfN_lt h2
    by_cases hp : pf = []
    · subst hp; rw [climbF_none H _ _ _ (by omega)] at hf; cases hf
    · obtain ⟨rest, b, rfl⟩ : ∃ rest b, pf = rest ++ [b] := ⟨pf.dropLast, pf.getLast hp, (List.dropLast_concat_getLast _).symm⟩
      by_cases hb : b.size = 32
      · by_cases hik : i < halfN l.length
        · rw [climbF_left H _ _ _ (by omega) _ _ hb hik] at hf
          rw [inclF_left H h2 hik]
          have := ih (halfN l.length) (by omega) (l.take (halfN l.length)) i leaf rest (by simp; omega) (by simp; omega) (by rw [show (l.take (halfN l.length)).length = halfN l.length by simp; omega]; exact hf)
          simp [this]
        · rw [climbF_right H _ _ _ (by omega) _ _ hb hik] at hf
          rw [inclF_right H h2 hik]
          have := ih (l.length - halfN l.length) (by omega) (l.drop (halfN l.length)) (i - halfN l.length) leaf rest (by simp) (by simp; omega) (by rw [show (l.drop (halfN l.length)).length = l.length - halfN l.length by simp]; exact hf)
          simp [this]
      · rw [climbF_bad H _ _ _ (by omega) _ _ hb] at hf; cases hf
  · have h1 : l.length = 1 := by omega
    rw [h1, climbF_one] at hf
    rw [inclF_one H (by omega)]
    simpa using hf

/-- What known.up makes is what the check makes, where the proof fits. -/
theorem up_climb (H : ByteArray → ByteArray) : ∀ (m : Nat) (pf : List ByteArray) (i n : Nat) (leaf : ByteArray), pf.length = m → (climbF H leaf i n pf).2 = true → (upF H leaf i n pf).1 = (climbF H leaf i n pf).1 := by
  intro m
  induction m with
  | zero =>
    intro pf i n leaf hm hf
    obtain rfl := List.eq_nil_of_length_eq_zero hm
    by_cases h1 : n = 1
    · subst h1; rw [climbF_one, upF_one]
    · rw [climbF_none H _ _ _ h1] at hf; cases hf
  | succ m ih =>
    intro pf i n leaf hm hf
    obtain ⟨rest, b, rfl⟩ : ∃ rest b, pf = rest ++ [b] := ⟨pf.dropLast, pf.getLast (by intro e; subst e; simp at hm), (List.dropLast_concat_getLast _).symm⟩
    have hr : rest.length = m := by simp at hm; exact hm
    by_cases h1 : n = 1
    · subst h1; rw [climbF_one, upF_one]
    · by_cases hb : b.size = 32
      · by_cases hik : i < halfN n
        · rw [climbF_left H _ _ _ h1 _ _ hb hik] at hf ⊢
          rw [upF_left H _ _ _ h1 _ _ hik]
          show H _ = H _
          rw [ih rest i (halfN n) leaf hr hf]
        · rw [climbF_right H _ _ _ h1 _ _ hb hik] at hf ⊢
          rw [upF_right H _ _ _ h1 _ _ hik]
          show H _ = H _
          rw [ih rest (i - halfN n) (n - halfN n) leaf hr hf]
      · rw [climbF_bad H _ _ _ h1 _ _ hb] at hf; cases hf
/-- Another leaf or proof that leads to the root: two texts of one hash are in hand. -/
theorem climb_clash (H : ByteArray → ByteArray) (hH : ∀ s, (H s).size = 32) : ∀ (n : Nat) (l : List ByteArray) (i : Nat) (leaf : ByteArray) (pf : List ByteArray) (hl : l.length = n) (hi : i < l.length), climbF H leaf i l.length pf = (rootF H l, true) →
    (leaf = l[i]'hi ∧ pf = inclF H l i) ∨ ∃ a ∈ rootT H l, ∃ b ∈ (upF H leaf i l.length pf).2, H a = H b ∧ a ≠ b := by
  intro n
  induction n using Nat.strongRecOn with
  | _ n ih =>
  intro l i leaf pf hl hi hc
  by_cases h2 : 2 ≤ l.length
  · have hk0 := halfN_pos l.length
    have hk1 := halfN_lt h2
    have nT : (l.take (halfN l.length)).length = halfN l.length := by simp; omega
    have nD : (l.drop (halfN l.length)).length = l.length - halfN l.length := by simp
    by_cases hp : pf = []
    · subst hp; rw [climbF_none H _ _ _ (by omega)] at hc; cases (Prod.mk.inj hc).2
    · obtain ⟨rest, b, rfl⟩ : ∃ rest b, pf = rest ++ [b] := ⟨pf.dropLast, pf.getLast hp, (List.dropLast_concat_getLast _).symm⟩
      by_cases hb : b.size = 32
      · by_cases hik : i < halfN l.length
        · rw [climbF_left H _ _ _ (by omega) _ _ hb hik] at hc
          obtain ⟨hc1, hc2⟩ := Prod.mk.inj hc
          rw [rootF_more H h2] at hc1
          have hup := up_climb H _ rest i (halfN l.length) leaf rfl hc2
          rw [upF_left H _ _ _ (by omega) _ _ hik, hup, rootT_more H h2]
          by_cases ht : m1 ++ (climbF H leaf i (halfN l.length) rest).1 ++ b = m1 ++ rootF H (l.take (halfN l.length)) ++ rootF H (l.drop (halfN l.length))
          · obtain ⟨e1, e2⟩ := three_inj m1 (by rw [climbF_size H hH, rootF_size H hH]) ht
            have := ih (halfN l.length) (by omega) (l.take (halfN l.length)) i leaf rest nT (by omega) (by rw [nT]; exact Prod.ext e1 hc2)
            rcases this with ⟨h3, h4⟩ | ⟨a, ha, b', hb', h5⟩
            · left
              rw [List.getElem_take] at h3
              exact ⟨h3, by rw [inclF_left H h2 hik, h4, e2]⟩
            · right
              rw [nT] at hb'
              exact ⟨a, by simp [ha], b', by simp [hb'], h5⟩
          · right
            exact ⟨_, by simp, _, by simp, hc1.symm, fun e => ht e.symm⟩
        · rw [climbF_right H _ _ _ (by omega) _ _ hb hik] at hc
          obtain ⟨hc1, hc2⟩ := Prod.mk.inj hc
          rw [rootF_more H h2] at hc1
          have hup := up_climb H _ rest (i - halfN l.length) (l.length - halfN l.length) leaf rfl hc2
          rw [upF_right H _ _ _ (by omega) _ _ hik, hup, rootT_more H h2]
          by_cases ht : m1 ++ b ++ (climbF H leaf (i - halfN l.length) (l.length - halfN l.length) rest).1 = m1 ++ rootF H (l.take (halfN l.length)) ++ rootF H (l.drop (halfN l.length))
          · obtain ⟨e1, e2⟩ := three_inj m1 (by rw [hb, rootF_size H hH]) ht
            have := ih (l.length - halfN l.length) (by omega) (l.drop (halfN l.length)) (i - halfN l.length) leaf rest nD (by omega) (by rw [nD]; exact Prod.ext e2 hc2)
            rcases this with ⟨h3, h4⟩ | ⟨a, ha, b', hb', h5⟩
            · left
              rw [List.getElem_drop] at h3
              simp only [show halfN l.length + (i - halfN l.length) = i by omega] at h3
              exact ⟨h3, by rw [inclF_right H h2 hik, h4, e1]⟩
            · right
              rw [nD] at hb'
              exact ⟨a, by simp [ha], b', by simp [hb'], h5⟩
          · right
            exact ⟨_, by simp, _, by simp, hc1.symm, fun e => ht e.symm⟩
      · rw [climbF_bad H _ _ _ (by omega) _ _ hb] at hc; cases (Prod.mk.inj hc).2
  · obtain ⟨s, rfl⟩ : ∃ s, l = [s] := List.length_eq_one_iff.1 (by omega)
    obtain rfl : i = 0 := by simp at hi; exact hi
    rw [show [s].length = 1 from rfl, climbF_one] at hc
    obtain ⟨hc1, hc2⟩ := Prod.mk.inj hc
    rw [rootF] at hc1
    rw [inclF_one H (by simp), show [s].length = 1 from rfl, upF_one, rootT_one]
    by_cases e : leaf = s
    · left; exact ⟨e, by simpa using hc2⟩
    · right
      exact ⟨_, by simp, _, by simp, hc1.symm, fun h => e (two_inj m0 h).symm⟩

theorem clash_of (H : ByteArray → ByteArray) (hH : ∀ s, (H s).size = 32) (l : List ByteArray) (i : Nat) (leaf : ByteArray) (pf : List ByteArray) (hi : i < l.length) (hc : climbF H leaf i l.length pf = (rootF H l, true)) (hne : ¬ (leaf = l[i]'hi ∧ pf = inclF H l i)) :
    ∃ a b, b < a ∧ clashAt H (rootT H l ++ (upF H leaf i l.length pf).2) a b := by
  rcases climb_clash H hH _ l i leaf pf rfl hi hc with h | ⟨x, hx, y, hy, h1, h2⟩
  · exact absurd h hne
  · obtain ⟨j, hj, rfl⟩ := List.mem_iff_getElem.1 hx
    obtain ⟨q, hq, rfl⟩ := List.mem_iff_getElem.1 hy
    refine ⟨(rootT H l).length + q, j, by omega, by simp; omega, by simp; omega, ?_⟩
    rw [List.getElem_append_right (by omega), List.getElem_append_left hj]
    simp only [show (rootT H l).length + q - (rootT H l).length = q by omega]
    exact ⟨h1.symm, fun e => h2 e.symm⟩
end Go.Proofs.YteebdadnfaekmaaDoor
