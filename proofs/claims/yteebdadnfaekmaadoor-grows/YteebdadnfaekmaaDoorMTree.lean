import Derived.Test.YteebdadnfaekmaaDoorSpec
set_option linter.unusedVariables false
set_option linter.unusedSimpArgs false
namespace Go.Proofs.YteebdadnfaekmaaDoor

/-- The greatest power of 2 below n. -/
def halfN (n : Nat) : Nat := 2 ^ Nat.log2 (n - 1)
theorem halfN_lt {n : Nat} (h : 2 ≤ n) : halfN n < n := by
  have h1 : n - 1 ≠ 0 := by omega
  have := Nat.log2_self_le h1
  unfold halfN; omega
theorem halfN_pos (n : Nat) : 0 < halfN n := Nat.pow_pos (by omega)
theorem halfN_two {n : Nat} (h : 2 ≤ n) : n ≤ 2 * halfN n := by
  have h2 : n - 1 < 2 ^ (Nat.log2 (n - 1) + 1) := Nat.lt_log2_self
  rw [Nat.pow_succ] at h2
  unfold halfN; omega

def m0 : ByteArray := ⟨#[0]⟩
def m1 : ByteArray := ⟨#[1]⟩

def rootF (H : ByteArray → ByteArray) : List ByteArray → ByteArray
  | [] => H ⟨#[]⟩
  | [x] => H (m0 ++ x)
  | a :: b :: r => H (m1 ++ rootF H ((a :: b :: r).take (halfN (r.length + 2))) ++ rootF H ((a :: b :: r).drop (halfN (r.length + 2))))
  termination_by l => l.length
  decreasing_by
    · have := halfN_lt (n := r.length + 2) (by omega); simp; omega
    · have := halfN_pos (r.length + 2); simp; omega
theorem rootF_more (H : ByteArray → ByteArray) {l : List ByteArray} (h : 2 ≤ l.length) : rootF H l = H (m1 ++ rootF H (l.take (halfN l.length)) ++ rootF H (l.drop (halfN l.length))) := by
  match l, h with
  | a :: b :: r, _ => rw [rootF]; rfl
theorem rootF_size (H : ByteArray → ByteArray) (hH : ∀ s, (H s).size = 32) (l : List ByteArray) : (rootF H l).size = 32 := by
  match l with
  | [] => rw [rootF]; exact hH _
  | [x] => rw [rootF]; exact hH _
  | a :: b :: r => rw [rootF]; exact hH _

def inclF (H : ByteArray → ByteArray) (l : List ByteArray) (i : Nat) : List ByteArray :=
  if h : l.length < 2 then [] else
    if i < halfN l.length then inclF H (l.take (halfN l.length)) i ++ [rootF H (l.drop (halfN l.length))]
    else inclF H (l.drop (halfN l.length)) (i - halfN l.length) ++ [rootF H (l.take (halfN l.length))]
  termination_by l.length
  decreasing_by
    · have := halfN_lt (n := l.length) (by omega); simp; omega
    · have := halfN_pos l.length; simp; omega
theorem inclF_one (H : ByteArray → ByteArray) {l : List ByteArray} {i : Nat} (h : l.length < 2) : inclF H l i = [] := by rw [inclF, dif_pos h]
theorem inclF_left (H : ByteArray → ByteArray) {l : List ByteArray} {i : Nat} (h : 2 ≤ l.length) (hi : i < halfN l.length) : inclF H l i = inclF H (l.take (halfN l.length)) i ++ [rootF H (l.drop (halfN l.length))] := by
  rw [inclF, dif_neg (by omega), if_pos hi]
theorem inclF_right (H : ByteArray → ByteArray) {l : List ByteArray} {i : Nat} (h : 2 ≤ l.length) (hi : ¬ i < halfN l.length) : inclF H l i = inclF H (l.drop (halfN l.length)) (i - halfN l.length) ++ [rootF H (l.take (halfN l.length))] := by
  rw [inclF, dif_neg (by omega), if_neg hi]

/-- What a proof makes of a leaf, and if it has the hashes that it needs. -/
def climbF (H : ByteArray → ByteArray) (leaf : ByteArray) (i n : Nat) (pf : List ByteArray) : ByteArray × Bool :=
  if n = 1 then (H (m0 ++ leaf), pf.isEmpty) else
  match h : pf.getLast? with
  | none => (strOfNums (List.replicate 32 0), false)
  | some b => if b.size = 32 then
      (if i < halfN n then (H (m1 ++ (climbF H leaf i (halfN n) pf.dropLast).1 ++ b), (climbF H leaf i (halfN n) pf.dropLast).2)
       else (H (m1 ++ b ++ (climbF H leaf (i - halfN n) (n - halfN n) pf.dropLast).1), (climbF H leaf (i - halfN n) (n - halfN n) pf.dropLast).2))
      else (strOfNums (List.replicate 32 0), false)
  termination_by pf.length
  decreasing_by all_goals (have : pf ≠ [] := by intro e; rw [e] at h; simp at h) <;> (have := List.length_pos_iff.2 this) <;> simp <;> omega
theorem climbF_one (H : ByteArray → ByteArray) (leaf : ByteArray) (i : Nat) (pf : List ByteArray) : climbF H leaf i 1 pf = (H (m0 ++ leaf), pf.isEmpty) := by rw [climbF, if_pos rfl]
theorem climbF_none (H : ByteArray → ByteArray) (leaf : ByteArray) (i n : Nat) (hn : n ≠ 1) : climbF H leaf i n [] = (strOfNums (List.replicate 32 0), false) := by rw [climbF, if_neg hn]; rfl
theorem climbF_bad (H : ByteArray → ByteArray) (leaf : ByteArray) (i n : Nat) (hn : n ≠ 1) (pf : List ByteArray) (b : ByteArray) (hb : b.size ≠ 32) : climbF H leaf i n (pf ++ [b]) = (strOfNums (List.replicate 32 0), false) := by
  rw [climbF, if_neg hn]
  split
  · rfl
  · rename_i b' h
    rw [List.getLast?_concat] at h
    obtain rfl := Option.some.inj h
    rw [if_neg hb]
theorem climbF_left (H : ByteArray → ByteArray) (leaf : ByteArray) (i n : Nat) (hn : n ≠ 1) (pf : List ByteArray) (b : ByteArray) (hb : b.size = 32) (hi : i < halfN n) :
    climbF H leaf i n (pf ++ [b]) = (H (m1 ++ (climbF H leaf i (halfN n) pf).1 ++ b), (climbF H leaf i (halfN n) pf).2) := by
  rw [climbF, if_neg hn]
  split
  · rename_i h; rw [List.getLast?_concat] at h; cases h
  · rename_i b' h
    rw [List.getLast?_concat] at h
    obtain rfl := Option.some.inj h
    rw [if_pos hb, if_pos hi, List.dropLast_concat]
theorem climbF_right (H : ByteArray → ByteArray) (leaf : ByteArray) (i n : Nat) (hn : n ≠ 1) (pf : List ByteArray) (b : ByteArray) (hb : b.size = 32) (hi : ¬ i < halfN n) :
    climbF H leaf i n (pf ++ [b]) = (H (m1 ++ b ++ (climbF H leaf (i - halfN n) (n - halfN n) pf).1), (climbF H leaf (i - halfN n) (n - halfN n) pf).2) := by
  rw [climbF, if_neg hn]
  split
  · rename_i h; rw [List.getLast?_concat] at h; cases h
  · rename_i b' h
    rw [List.getLast?_concat] at h
    obtain rfl := Option.some.inj h
    rw [if_pos hb, if_neg hi, List.dropLast_concat]
theorem climbF_size (H : ByteArray → ByteArray) (hH : ∀ s, (H s).size = 32) (leaf : ByteArray) (i n : Nat) (pf : List ByteArray) : (climbF H leaf i n pf).1.size = 32 := by
  rw [climbF]
  split
  · exact hH _
  · split
    · rfl
    · split
      · split <;> exact hH _
      · rfl
theorem three_inj {a b c d : ByteArray} (m : ByteArray) (hs : a.size = c.size) (h : m ++ a ++ b = m ++ c ++ d) : a = c ∧ b = d := by
  have e := congrArg (fun x : ByteArray => x.data.toList) h
  simp only [ByteArray.data_append, Array.toList_append, List.append_assoc] at e
  have e1 := List.append_cancel_left e
  have hl : a.data.toList.length = c.data.toList.length := by
    have h1 : a.data.size = c.data.size := hs
    simpa using h1
  obtain ⟨h1, h2⟩ := List.append_inj e1 hl
  exact ⟨ByteArray.ext (Array.toList_inj.1 h1), ByteArray.ext (Array.toList_inj.1 h2)⟩
theorem two_inj {a c : ByteArray} (m : ByteArray) (h : m ++ a = m ++ c) : a = c := by
  have e := congrArg (fun x : ByteArray => x.data.toList) h
  simp only [ByteArray.data_append, Array.toList_append] at e
  exact ByteArray.ext (Array.toList_inj.1 (List.append_cancel_left e))
theorem halfN_unique {n j : Nat} (h1 : 2 ^ j < n) (h2 : n ≤ 2 * 2 ^ j) : 2 ^ j = halfN n := by
  have : Nat.log2 (n - 1) = j := by
    rw [Nat.log2_eq_iff (by have := Nat.pos_of_ne_zero (show 2 ^ j ≠ 0 from Nat.pos_iff_ne_zero.1 (Nat.pow_pos (by omega))); omega)]
    exact ⟨by omega, by rw [Nat.pow_succ]; omega⟩
  unfold halfN; rw [this]
theorem m0_size : m0.size = 1 := rfl
theorem m1_size : m1.size = 1 := rfl
/-- The texts that are hashed for a root. -/
def rootT (H : ByteArray → ByteArray) (l : List ByteArray) : List ByteArray :=
  if h : l.length < 2 then (match l with | [] => [⟨#[]⟩] | x :: _ => [m0 ++ x]) else
    rootT H (l.take (halfN l.length)) ++ rootT H (l.drop (halfN l.length)) ++ [m1 ++ rootF H (l.take (halfN l.length)) ++ rootF H (l.drop (halfN l.length))]
  termination_by l.length
  decreasing_by
    · have := halfN_lt (n := l.length) (by omega); simp; omega
    · have := halfN_pos l.length; simp; omega
theorem rootT_one (H : ByteArray → ByteArray) (x : ByteArray) : rootT H [x] = [m0 ++ x] := by rw [rootT, dif_pos (by simp)]
theorem rootT_more (H : ByteArray → ByteArray) {l : List ByteArray} (h : 2 ≤ l.length) : rootT H l = rootT H (l.take (halfN l.length)) ++ rootT H (l.drop (halfN l.length)) ++ [m1 ++ rootF H (l.take (halfN l.length)) ++ rootF H (l.drop (halfN l.length))] := by
  rw [rootT, dif_neg (by omega)]
theorem rootT_len (H : ByteArray → ByteArray) : ∀ (n : Nat) (ls : List ByteArray), ls.length = n → 0 < n → (rootT H ls).length + 1 = 2 * n := by
  intro n
  induction n using Nat.strongRecOn with
  | _ n ih =>
  intro ls hn h0
  by_cases h2 : 2 ≤ ls.length
  · have hk0 := halfN_pos ls.length
    have hk1 := halfN_lt h2
    rw [rootT_more H h2]
    have a := ih (halfN ls.length) (by omega) (ls.take (halfN ls.length)) (by simp; omega) hk0
    have b := ih (ls.length - halfN ls.length) (by omega) (ls.drop (halfN ls.length)) (by simp) (by omega)
    simp; omega
  · obtain ⟨s, rfl⟩ : ∃ s, ls = [s] := List.length_eq_one_iff.1 (by omega)
    rw [rootT_one]; simp at hn; subst hn; rfl
end Go.Proofs.YteebdadnfaekmaaDoor
