import Derived.Test.YteebdadnfaekmaaDoorGCheck
import Derived.Test.YteebdadnfaekmaaDoorGBoth
import Derived.Test.YteebdadnfaekmaaDoorITexts
set_option linter.unusedVariables false
set_option linter.unusedSimpArgs false
namespace Go.Proofs.YteebdadnfaekmaaDoor
open Go.RowKit

theorem gok_good (K : Nat → Int) (l : List ByteArray) (m : Nat) (h0 : 0 < m) (hm : m ≤ l.length) : consOk K m l.length (rootF (sumOf K) (l.take m)) (rootF (sumOf K) l) (grownF (sumOf K) l m true) = true := by
  unfold consOk
  rw [if_neg (by omega), reg_good (sumOf K) (sumOf_size K) _ l m true _ rfl h0 hm (fun _ => rfl), rootF_size _ (sumOf_size K), rootF_size _ (sumOf_size K)]
  simp
theorem gok_zero (K : Nat → Int) (l : List ByteArray) : consOk K 0 l.length (rootF (sumOf K) []) (rootF (sumOf K) l) [] = true := by
  unfold consOk
  rw [if_pos rfl, rootF_size _ (sumOf_size K)]
  cases l with
  | nil => simp
  | cons x r => simp
theorem gok_first0 (K : Nat → Int) (n : Nat) (first second : ByteArray) (pf : List ByteArray) (h : first ≠ rootF (sumOf K) []) : consOk K 0 n first second pf = false := by
  unfold consOk
  rw [if_pos rfl]
  simp [h]
theorem gok_firstAll (K : Nat → Int) (m : Nat) (first second : ByteArray) (pf : List ByteArray) (h0 : 0 < m) (h : first ≠ second) : consOk K m m first second pf = false := by
  unfold consOk
  rw [if_neg (by omega), regF_whole]
  simp [h]
theorem gok_second (K : Nat → Int) (l : List ByteArray) (m : Nat) (second : ByteArray) (h0 : 0 < m) (hm : m ≤ l.length) (hs : second ≠ rootF (sumOf K) l) : consOk K m l.length (rootF (sumOf K) (l.take m)) second (grownF (sumOf K) l m true) = false := by
  unfold consOk
  rw [if_neg (by omega), reg_good (sumOf K) (sumOf_size K) _ l m true _ rfl h0 hm (fun _ => rfl)]
  simp [Ne.symm hs]
theorem gok_len (K : Nat → Int) (l : List ByteArray) (m : Nat) (first second : ByteArray) (pf : List ByteArray) (h0 : 0 < m) (hm : m ≤ l.length) (hp : pf.length ≠ (grownF (sumOf K) l m true).length) : consOk K m l.length first second pf = false := by
  unfold consOk
  have : (regF (sumOf K) first m l.length true pf).2.2 = false := by
    cases h : (regF (sumOf K) first m l.length true pf).2.2
    · rfl
    · exact absurd (reg_len (sumOf K) _ l m true first pf rfl h0 hm h) hp
  rw [if_neg (by omega), this]; simp
theorem gok_clash (K : Nat → Int) (l : List ByteArray) (m : Nat) (first : ByteArray) (pf : List ByteArray) (h0 : 0 < m) (hm : m ≤ l.length) (ho : consOk K m l.length first (rootF (sumOf K) l) pf = true) (hne : ¬ (first = rootF (sumOf K) (l.take m) ∧ pf = grownF (sumOf K) l m true)) :
    ∃ a b, b < a ∧ clashAt (sumOf K) (rootT (sumOf K) (l.take m) ++ rootT (sumOf K) l ++ (bothF (sumOf K) first m l.length true pf).2.2) a b := by
  unfold consOk at ho
  rw [if_neg (by omega)] at ho
  simp only [Bool.and_eq_true, decide_eq_true_eq] at ho
  obtain ⟨h1, h2, h3, h4, h5⟩ := ho
  rcases reg_clash (sumOf K) (sumOf_size K) first h1 _ l m true pf rfl h0 hm (Prod.ext h5 h3) with ⟨h6, h7⟩ | ⟨x, hx, y, hy, h6, h7⟩
  · exact absurd ⟨h4.symm.trans h6, h7⟩ hne
  · obtain ⟨j, hj, rfl⟩ := List.mem_iff_getElem.1 hx
    obtain ⟨q, hq, rfl⟩ := List.mem_iff_getElem.1 hy
    refine ⟨(rootT (sumOf K) (l.take m)).length + (rootT (sumOf K) l).length + q, (rootT (sumOf K) (l.take m)).length + j, by omega, by simp; omega, by simp; omega, ?_⟩
    rw [List.getElem_append_right (by simp), List.getElem_append_left (by simp; omega), List.getElem_append_right (by omega)]
    simp only [List.length_append, show (rootT (sumOf K) (l.take m)).length + (rootT (sumOf K) l).length + q - ((rootT (sumOf K) (l.take m)).length + (rootT (sumOf K) l).length) = q by omega, show (rootT (sumOf K) (l.take m)).length + j - (rootT (sumOf K) (l.take m)).length = j by omega]
    exact ⟨h6.symm, fun e => h7 e.symm⟩
end Go.Proofs.YteebdadnfaekmaaDoor
