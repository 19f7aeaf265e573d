import Derived.Test.YteebdadnfaekmaaDoorIMath
import Derived.Test.YteebdadnfaekmaaDoorTPath
import Derived.Test.YteebdadnfaekmaaDoorTCheck
import Derived.Test.YteebdadnfaekmaaDoorITexts
set_option linter.unusedVariables false
set_option linter.unusedSimpArgs false
namespace Go.Proofs.YteebdadnfaekmaaDoor
open Go.RowKit

theorem ok_good (K : Nat → Int) (l : List ByteArray) (i : Nat) (leaf : ByteArray) (hi : i < l.length) (hx : l[i]? = some leaf) : inclOk K leaf i l.length (rootF (sumOf K) l) (inclF (sumOf K) l i) = true := by
  unfold inclOk
  rw [climb_good (sumOf K) (sumOf_size K) _ l i leaf rfl hi hx, rootF_size _ (sumOf_size K)]
  simp
theorem ok_root (K : Nat → Int) (l : List ByteArray) (i : Nat) (leaf r : ByteArray) (hi : i < l.length) (hx : l[i]? = some leaf) (hr : r ≠ rootF (sumOf K) l) : inclOk K leaf i l.length r (inclF (sumOf K) l i) = false := by
  unfold inclOk
  rw [climb_good (sumOf K) (sumOf_size K) _ l i leaf rfl hi hx]
  simp [Ne.symm hr]
theorem ok_len (K : Nat → Int) (l : List ByteArray) (i : Nat) (leaf r : ByteArray) (pf : List ByteArray) (hi : i < l.length) (hp : pf.length ≠ (inclF (sumOf K) l i).length) : inclOk K leaf i l.length r pf = false := by
  unfold inclOk
  have : (climbF (sumOf K) leaf i l.length pf).2 = false := by
    cases h : (climbF (sumOf K) leaf i l.length pf).2
    · rfl
    · exact absurd (climb_len (sumOf K) _ l i leaf pf rfl hi h) hp
  rw [this]; simp
theorem ok_clash (K : Nat → Int) (l : List ByteArray) (i : Nat) (leaf : ByteArray) (pf : List ByteArray) (hi : i < l.length) (ho : inclOk K leaf i l.length (rootF (sumOf K) l) pf = true) (hne : ¬ (leaf = l[i]'hi ∧ pf = inclF (sumOf K) l i)) :
    ∃ a b, b < a ∧ clashAt (sumOf K) (rootT (sumOf K) l ++ (upF (sumOf K) leaf i l.length pf).2) a b := by
  unfold inclOk at ho
  simp only [Bool.and_eq_true, decide_eq_true_eq] at ho
  exact clash_of (sumOf K) (sumOf_size K) l i leaf pf hi (Prod.ext ho.2.2 ho.2.1) hne
theorem leafx_ne (s : ByteArray) : s ++ ⟨#[120]⟩ ≠ s := fun e => by
  have := congrArg ByteArray.size e
  rw [ByteArray.size_append, show (⟨#[120]⟩ : ByteArray).size = 1 from rfl] at this
  omega
theorem inclF_sizes (H : ByteArray → ByteArray) (hH : ∀ s, (H s).size = 32) : ∀ (n : Nat) (l : List ByteArray) (i : Nat), l.length = n → ∀ b ∈ inclF H l i, b.size = 32 := by
  intro n
  induction n using Nat.strongRecOn with
  | _ n ih =>
  intro l i hl b hb
  by_cases h2 : 2 ≤ l.length
  · have hk0 := halfN_pos l.length
    have hk1 := halfN_lt h2
    by_cases hik : i < halfN l.length
    · rw [inclF_left H h2 hik] at hb
      rcases List.mem_append.1 hb with hb | hb
      · exact ih (halfN l.length) (by omega) (l.take (halfN l.length)) i (by simp; omega) b hb
      · simp at hb; rw [hb]; exact rootF_size H hH _
    · rw [inclF_right H h2 hik] at hb
      rcases List.mem_append.1 hb with hb | hb
      · exact ih (l.length - halfN l.length) (by omega) (l.drop (halfN l.length)) (i - halfN l.length) (by simp) b hb
      · simp at hb; rw [hb]; exact rootF_size H hH _
  · rw [inclF_one H (by omega)] at hb; cases hb

end Go.Proofs.YteebdadnfaekmaaDoor
