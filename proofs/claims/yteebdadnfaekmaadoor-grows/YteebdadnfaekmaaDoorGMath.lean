import Derived.Test.YteebdadnfaekmaaDoorMTree
set_option linter.unusedVariables false
set_option linter.unusedSimpArgs false
namespace Go.Proofs.YteebdadnfaekmaaDoor

theorem halfN_between {n m : Nat} (hn : 2 ≤ n) (h1 : halfN n < m) (h2 : m ≤ n) : halfN m = halfN n := by
  have h3 := halfN_two hn
  exact (halfN_unique (n := m) (j := Nat.log2 (n - 1)) h1 (by have : n ≤ 2 * 2 ^ Nat.log2 (n - 1) := h3; omega)).symm
/-- The hashes by which a tree is proved to have grown. -/
def grownF (H : ByteArray → ByteArray) (l : List ByteArray) (m : Nat) (whole : Bool) : List ByteArray :=
  if m = l.length then (if whole then [] else [rootF H l]) else
  if h : l.length < 2 then [] else
    if m ≤ halfN l.length then grownF H (l.take (halfN l.length)) m whole ++ [rootF H (l.drop (halfN l.length))]
    else grownF H (l.drop (halfN l.length)) (m - halfN l.length) false ++ [rootF H (l.take (halfN l.length))]
  termination_by l.length
  decreasing_by
    · have := halfN_lt (n := l.length) (by omega); simp; omega
    · have := halfN_pos l.length; simp; omega
theorem grownF_all (H : ByteArray → ByteArray) {l : List ByteArray} {m : Nat} (w : Bool) (h : m = l.length) : grownF H l m w = if w then [] else [rootF H l] := by rw [grownF, if_pos h]
theorem grownF_left (H : ByteArray → ByteArray) {l : List ByteArray} {m : Nat} (w : Bool) (h0 : 0 < m) (h : m < l.length) (hm : m ≤ halfN l.length) : grownF H l m w = grownF H (l.take (halfN l.length)) m w ++ [rootF H (l.drop (halfN l.length))] := by
  rw [grownF, if_neg (by omega), dif_neg (by omega), if_pos hm]
theorem grownF_right (H : ByteArray → ByteArray) {l : List ByteArray} {m : Nat} (w : Bool) (h0 : 0 < m) (h : m < l.length) (hm : ¬ m ≤ halfN l.length) : grownF H l m w = grownF H (l.drop (halfN l.length)) (m - halfN l.length) false ++ [rootF H (l.take (halfN l.length))] := by
  rw [grownF, if_neg (by omega), dif_neg (by omega), if_neg hm]
theorem grownF_len (H : ByteArray → ByteArray) : ∀ (n : Nat) (l : List ByteArray) (m : Nat) (w : Bool), l.length = n → 0 < m → m ≤ n → (grownF H l m w).length ≤ n := by
  intro n
  induction n using Nat.strongRecOn with
  | _ n ih =>
  intro l m w hn h0 hm
  by_cases h1 : m = l.length
  · rw [grownF_all H w h1]; cases w <;> simp <;> omega
  · have h2 : 2 ≤ l.length := by omega
    have hk0 := halfN_pos l.length
    have hk1 := halfN_lt h2
    by_cases hi : m ≤ halfN l.length
    · rw [grownF_left H w h0 (by omega) hi]
      have := ih (halfN l.length) (by omega) (l.take (halfN l.length)) m w (by simp; omega) h0 hi
      simp; omega
    · rw [grownF_right H w h0 (by omega) hi]
      have := ih (l.length - halfN l.length) (by omega) (l.drop (halfN l.length)) (m - halfN l.length) false (by simp) (by omega) (by omega)
      simp; omega
theorem grownF_sizes (H : ByteArray → ByteArray) (hH : ∀ s, (H s).size = 32) : ∀ (n : Nat) (l : List ByteArray) (m : Nat) (w : Bool), l.length = n → 0 < m → m ≤ n → ∀ b ∈ grownF H l m w, b.size = 32 := by
  intro n
  induction n using Nat.strongRecOn with
  | _ n ih =>
  intro l m w hn h0 hm b hb
  by_cases h1 : m = l.length
  · rw [grownF_all H w h1] at hb
    cases w
    · simp at hb; rw [hb]; exact rootF_size H hH _
    · simp at hb
  · have h2 : 2 ≤ l.length := by omega
    have hk0 := halfN_pos l.length
    have hk1 := halfN_lt h2
    by_cases hi : m ≤ halfN l.length
    · rw [grownF_left H w h0 (by omega) hi] at hb
      rcases List.mem_append.1 hb with hb | hb
      · exact ih (halfN l.length) (by omega) (l.take (halfN l.length)) m w (by simp; omega) h0 hi b hb
      · simp at hb; rw [hb]; exact rootF_size H hH _
    · rw [grownF_right H w h0 (by omega) hi] at hb
      rcases List.mem_append.1 hb with hb | hb
      · exact ih (l.length - halfN l.length) (by omega) (l.drop (halfN l.length)) (m - halfN l.length) false (by simp) (by omega) (by omega) b hb
      · simp at hb; rw [hb]; exact rootF_size H hH _

def zT : ByteArray := strOfNums (List.replicate 32 0)
theorem zT_size : zT.size = 32 := rfl
/-- The two roots to which a proof leads, and if it has the hashes that it needs. -/
def regF (H : ByteArray → ByteArray) (known : ByteArray) (m n : Nat) (whole : Bool) (pf : List ByteArray) : ByteArray × ByteArray × Bool :=
  if m = n ∧ whole = true then (known, known, pf.isEmpty) else
  match h : pf.getLast? with
  | none => (zT, zT, false)
  | some b => if b.size = 32 then
      (if m = n then (b, b, pf.dropLast.isEmpty) else
       if m ≤ halfN n then ((regF H known m (halfN n) whole pf.dropLast).1, H (m1 ++ (regF H known m (halfN n) whole pf.dropLast).2.1 ++ b), (regF H known m (halfN n) whole pf.dropLast).2.2)
       else (H (m1 ++ b ++ (regF H known (m - halfN n) (n - halfN n) false pf.dropLast).1), H (m1 ++ b ++ (regF H known (m - halfN n) (n - halfN n) false pf.dropLast).2.1), (regF H known (m - halfN n) (n - halfN n) false pf.dropLast).2.2))
      else (zT, zT, false)
  termination_by pf.length
  decreasing_by all_goals (have : pf ≠ [] := by intro e; rw [e] at h; simp at h) <;> (have := List.length_pos_iff.2 this) <;> simp <;> omega
theorem regF_whole (H : ByteArray → ByteArray) (known : ByteArray) (n : Nat) (pf : List ByteArray) : regF H known n n true pf = (known, known, pf.isEmpty) := by rw [regF, if_pos ⟨rfl, rfl⟩]
theorem regF_none (H : ByteArray → ByteArray) (known : ByteArray) (m n : Nat) (whole : Bool) (hn : ¬ (m = n ∧ whole = true)) : regF H known m n whole [] = (zT, zT, false) := by rw [regF, if_neg hn]; rfl
theorem regF_bad (H : ByteArray → ByteArray) (known : ByteArray) (m n : Nat) (whole : Bool) (hn : ¬ (m = n ∧ whole = true)) (pf : List ByteArray) (b : ByteArray) (hb : b.size ≠ 32) : regF H known m n whole (pf ++ [b]) = (zT, zT, false) := by
  rw [regF, if_neg hn]
  split
  · rfl
  · rename_i b' h
    rw [List.getLast?_concat] at h
    obtain rfl := Option.some.inj h
    rw [if_neg hb]
theorem regF_all (H : ByteArray → ByteArray) (known : ByteArray) (n : Nat) (pf : List ByteArray) (b : ByteArray) (hb : b.size = 32) : regF H known n n false (pf ++ [b]) = (b, b, pf.isEmpty) := by
  rw [regF, if_neg (by simp)]
  split
  · rename_i h; rw [List.getLast?_concat] at h; cases h
  · rename_i b' h
    rw [List.getLast?_concat] at h
    obtain rfl := Option.some.inj h
    rw [if_pos hb, if_pos rfl, List.dropLast_concat]
theorem regF_left (H : ByteArray → ByteArray) (known : ByteArray) (m n : Nat) (whole : Bool) (hn : m ≠ n) (pf : List ByteArray) (b : ByteArray) (hb : b.size = 32) (hi : m ≤ halfN n) :
    regF H known m n whole (pf ++ [b]) = ((regF H known m (halfN n) whole pf).1, H (m1 ++ (regF H known m (halfN n) whole pf).2.1 ++ b), (regF H known m (halfN n) whole pf).2.2) := by
  rw [regF, if_neg (fun h => hn h.1)]
  split
  · rename_i h; rw [List.getLast?_concat] at h; cases h
  · rename_i b' h
    rw [List.getLast?_concat] at h
    obtain rfl := Option.some.inj h
    rw [if_pos hb, if_neg hn, if_pos hi, List.dropLast_concat]
theorem regF_right (H : ByteArray → ByteArray) (known : ByteArray) (m n : Nat) (whole : Bool) (hn : m ≠ n) (pf : List ByteArray) (b : ByteArray) (hb : b.size = 32) (hi : ¬ m ≤ halfN n) :
    regF H known m n whole (pf ++ [b]) = (H (m1 ++ b ++ (regF H known (m - halfN n) (n - halfN n) false pf).1), H (m1 ++ b ++ (regF H known (m - halfN n) (n - halfN n) false pf).2.1), (regF H known (m - halfN n) (n - halfN n) false pf).2.2) := by
  rw [regF, if_neg (fun h => hn h.1)]
  split
  · rename_i h; rw [List.getLast?_concat] at h; cases h
  · rename_i b' h
    rw [List.getLast?_concat] at h
    obtain rfl := Option.some.inj h
    rw [if_pos hb, if_neg hn, if_neg hi, List.dropLast_concat]
theorem snoc_of {α : Type} {pf : List α} (h : pf ≠ []) : ∃ rest b, pf = rest ++ [b] := ⟨pf.dropLast, pf.getLast h, (List.dropLast_concat_getLast _).symm⟩
theorem regF_sizes (H : ByteArray → ByteArray) (hH : ∀ s, (H s).size = 32) (known : ByteArray) (hk : known.size = 32) : ∀ (q : Nat) (pf : List ByteArray) (m n : Nat) (whole : Bool), pf.length = q → (regF H known m n whole pf).1.size = 32 ∧ (regF H known m n whole pf).2.1.size = 32 := by
  intro q
  induction q with
  | zero =>
    intro pf m n whole hq
    obtain rfl := List.eq_nil_of_length_eq_zero hq
    by_cases h1 : m = n ∧ whole = true
    · obtain ⟨rfl, rfl⟩ := h1; rw [regF_whole]; exact ⟨hk, hk⟩
    · rw [regF_none H _ _ _ _ h1]; exact ⟨zT_size, zT_size⟩
  | succ q ih =>
    intro pf m n whole hq
    obtain ⟨rest, b, rfl⟩ := snoc_of (pf := pf) (by intro e; subst e; simp at hq)
    have hr : rest.length = q := by simp at hq; exact hq
    by_cases h1 : m = n ∧ whole = true
    · obtain ⟨rfl, rfl⟩ := h1; rw [regF_whole]; exact ⟨hk, hk⟩
    · by_cases hb : b.size = 32
      · by_cases h2 : m = n
        · have hw : whole = false := by cases whole <;> simp_all
          subst h2 hw
          rw [regF_all H _ _ _ _ hb]; exact ⟨hb, hb⟩
        · by_cases hi : m ≤ halfN n
          · rw [regF_left H _ _ _ _ h2 _ _ hb hi]; exact ⟨(ih rest m (halfN n) whole hr).1, hH _⟩
          · rw [regF_right H _ _ _ _ h2 _ _ hb hi]; exact ⟨hH _, hH _⟩
      · rw [regF_bad H _ _ _ _ h1 _ _ hb]; exact ⟨zT_size, zT_size⟩

/-- What known.both makes, and the texts that are hashed for it. -/
def bothF (H : ByteArray → ByteArray) (a : ByteArray) (m n : Nat) (whole : Bool) (pf : List ByteArray) : ByteArray × ByteArray × List ByteArray :=
  if m = n ∧ whole = true then (a, a, []) else
  match h : pf.getLast? with
  | none => (a, a, [])
  | some b =>
      if m = n then (b, b, []) else
       if m ≤ halfN n then ((bothF H a m (halfN n) whole pf.dropLast).1, H (m1 ++ (bothF H a m (halfN n) whole pf.dropLast).2.1 ++ b), (bothF H a m (halfN n) whole pf.dropLast).2.2 ++ [m1 ++ (bothF H a m (halfN n) whole pf.dropLast).2.1 ++ b])
       else (H (m1 ++ b ++ (bothF H a (m - halfN n) (n - halfN n) false pf.dropLast).1), H (m1 ++ b ++ (bothF H a (m - halfN n) (n - halfN n) false pf.dropLast).2.1), (bothF H a (m - halfN n) (n - halfN n) false pf.dropLast).2.2 ++ [m1 ++ b ++ (bothF H a (m - halfN n) (n - halfN n) false pf.dropLast).1] ++ [m1 ++ b ++ (bothF H a (m - halfN n) (n - halfN n) false pf.dropLast).2.1])
  termination_by pf.length
  decreasing_by all_goals (have : pf ≠ [] := by intro e; rw [e] at h; simp at h) <;> (have := List.length_pos_iff.2 this) <;> simp <;> omega
theorem bothF_whole (H : ByteArray → ByteArray) (a : ByteArray) (n : Nat) (pf : List ByteArray) : bothF H a n n true pf = (a, a, []) := by rw [bothF, if_pos ⟨rfl, rfl⟩]
theorem bothF_none (H : ByteArray → ByteArray) (a : ByteArray) (m n : Nat) (whole : Bool) : bothF H a m n whole [] = (a, a, []) := by
  rw [bothF]; split <;> rfl
theorem bothF_all (H : ByteArray → ByteArray) (a : ByteArray) (n : Nat) (pf : List ByteArray) (b : ByteArray) : bothF H a n n false (pf ++ [b]) = (b, b, []) := by
  rw [bothF, if_neg (by simp)]
  split
  · rename_i h; rw [List.getLast?_concat] at h; cases h
  · rename_i b' h
    rw [List.getLast?_concat] at h
    obtain rfl := Option.some.inj h
    rw [if_pos rfl]
theorem bothF_left (H : ByteArray → ByteArray) (a : ByteArray) (m n : Nat) (whole : Bool) (hn : m ≠ n) (pf : List ByteArray) (b : ByteArray) (hi : m ≤ halfN n) :
    bothF H a m n whole (pf ++ [b]) = ((bothF H a m (halfN n) whole pf).1, H (m1 ++ (bothF H a m (halfN n) whole pf).2.1 ++ b), (bothF H a m (halfN n) whole pf).2.2 ++ [m1 ++ (bothF H a m (halfN n) whole pf).2.1 ++ b]) := by
  rw [bothF, if_neg (fun h => hn h.1)]
  split
  · rename_i h; rw [List.getLast?_concat] at h; cases h
  · rename_i b' h
    rw [List.getLast?_concat] at h
    obtain rfl := Option.some.inj h
    rw [if_neg hn, if_pos hi, List.dropLast_concat]
theorem bothF_right (H : ByteArray → ByteArray) (a : ByteArray) (m n : Nat) (whole : Bool) (hn : m ≠ n) (pf : List ByteArray) (b : ByteArray) (hi : ¬ m ≤ halfN n) :
    bothF H a m n whole (pf ++ [b]) = (H (m1 ++ b ++ (bothF H a (m - halfN n) (n - halfN n) false pf).1), H (m1 ++ b ++ (bothF H a (m - halfN n) (n - halfN n) false pf).2.1), (bothF H a (m - halfN n) (n - halfN n) false pf).2.2 ++ [m1 ++ b ++ (bothF H a (m - halfN n) (n - halfN n) false pf).1] ++ [m1 ++ b ++ (bothF H a (m - halfN n) (n - halfN n) false pf).2.1]) := by
  rw [bothF, if_neg (fun h => hn h.1)]
  split
  · rename_i h; rw [List.getLast?_concat] at h; cases h
  · rename_i b' h
    rw [List.getLast?_concat] at h
    obtain rfl := Option.some.inj h
    rw [if_neg hn, if_neg hi, List.dropLast_concat]
theorem bothF_len (H : ByteArray → ByteArray) (a : ByteArray) : ∀ (q : Nat) (pf : List ByteArray) (m n : Nat) (whole : Bool), pf.length = q → (bothF H a m n whole pf).2.2.length ≤ 2 * q := by
  intro q
  induction q with
  | zero => intro pf m n whole hq; obtain rfl := List.eq_nil_of_length_eq_zero hq; rw [bothF_none]; simp
  | succ q ih =>
    intro pf m n whole hq
    obtain ⟨rest, b, rfl⟩ := snoc_of (pf := pf) (by intro e; subst e; simp at hq)
    have hr : rest.length = q := by simp at hq; exact hq
    by_cases h1 : m = n ∧ whole = true
    · obtain ⟨rfl, rfl⟩ := h1; rw [bothF_whole]; simp
    · by_cases h2 : m = n
      · have hw : whole = false := by cases whole <;> simp_all
        subst h2 hw
        rw [bothF_all]; simp
      · by_cases hi : m ≤ halfN n
        · rw [bothF_left H _ _ _ _ h2 _ _ hi]; have := ih rest m (halfN n) whole hr; simp; omega
        · rw [bothF_right H _ _ _ _ h2 _ _ hi]; have := ih rest (m - halfN n) (n - halfN n) false hr; simp; omega
theorem bothF_size (H : ByteArray → ByteArray) (hH : ∀ s, (H s).size = 32) (a : ByteArray) (ha : a.size = 32) : ∀ (q : Nat) (pf : List ByteArray) (m n : Nat) (whole : Bool), pf.length = q → (∀ b ∈ pf, b.size ≤ 100000) → (bothF H a m n whole pf).1.size ≤ 100000 ∧ (bothF H a m n whole pf).2.1.size ≤ 100000 := by
  intro q
  induction q with
  | zero => intro pf m n whole hq hb; obtain rfl := List.eq_nil_of_length_eq_zero hq; rw [bothF_none]; simp; omega
  | succ q ih =>
    intro pf m n whole hq hb
    obtain ⟨rest, b, rfl⟩ := snoc_of (pf := pf) (by intro e; subst e; simp at hq)
    have hr : rest.length = q := by simp at hq; exact hq
    have hb' := hb b (by simp)
    by_cases h1 : m = n ∧ whole = true
    · obtain ⟨rfl, rfl⟩ := h1; rw [bothF_whole]; simp; omega
    · by_cases h2 : m = n
      · have hw : whole = false := by cases whole <;> simp_all
        subst h2 hw
        rw [bothF_all]; simp; omega
      · by_cases hi : m ≤ halfN n
        · rw [bothF_left H _ _ _ _ h2 _ _ hi]; have := ih rest m (halfN n) whole hr (fun x hx => hb x (by simp [hx])); refine ⟨this.1, ?_⟩; show (H _).size ≤ _; rw [hH]; omega
        · rw [bothF_right H _ _ _ _ h2 _ _ hi]; constructor <;> show (H _).size ≤ _ <;> rw [hH] <;> omega

theorem take_root (H : ByteArray → ByteArray) {l : List ByteArray} {m : Nat} (h2 : 2 ≤ l.length) (hm : ¬ m ≤ halfN l.length) (hm2 : m ≤ l.length) :
    rootF H (l.take m) = H (m1 ++ rootF H (l.take (halfN l.length)) ++ rootF H ((l.drop (halfN l.length)).take (m - halfN l.length))) := by
  have hk0 := halfN_pos l.length
  have hl : (l.take m).length = m := by simp; omega
  have hh : halfN m = halfN l.length := halfN_between h2 (by omega) hm2
  rw [rootF_more H (l := l.take m) (by omega), hl, hh, List.take_take, Nat.min_eq_left (by omega), List.drop_take]
/-- A proof that was made leads to both roots. -/
theorem reg_good (H : ByteArray → ByteArray) (hH : ∀ s, (H s).size = 32) : ∀ (n : Nat) (l : List ByteArray) (m : Nat) (whole : Bool) (known : ByteArray), l.length = n → 0 < m → m ≤ n → (whole = true → known = rootF H (l.take m)) → regF H known m n whole (grownF H l m whole) = (rootF H (l.take m), rootF H l, true) := by
  intro n
  induction n using Nat.strongRecOn with
  | _ n ih =>
  intro l m whole known hl h0 hm hk
  by_cases h1 : m = n
  · subst h1
    rw [grownF_all H whole hl.symm]
    have e : l.take m = l := by rw [← hl]; exact List.take_length
    cases whole
    · rw [if_neg (by simp), show [rootF H l] = [] ++ [rootF H l] from rfl, regF_all H _ _ _ _ (rootF_size H hH _), e]; rfl
    · rw [if_pos rfl, regF_whole, hk rfl, e]; rfl
  · have h2 : 2 ≤ l.length := by omega
    have hk0 := halfN_pos l.length
    have hk1 := halfN_lt h2
    by_cases hi : m ≤ halfN l.length
    · rw [grownF_left H whole h0 (by omega) hi, ← hl, regF_left H _ _ _ _ (by omega) _ _ (rootF_size H hH _) hi]
      have et : (l.take (halfN l.length)).take m = l.take m := by rw [List.take_take, Nat.min_eq_left hi]
      rw [ih (halfN l.length) (by omega) (l.take (halfN l.length)) m whole known (by simp; omega) h0 hi (fun h => by rw [et]; exact hk h), et, rootF_more H h2]
    · rw [grownF_right H whole h0 (by omega) hi, ← hl, regF_right H _ _ _ _ (by omega) _ _ (rootF_size H hH _) hi]
      rw [ih (l.length - halfN l.length) (by omega) (l.drop (halfN l.length)) (m - halfN l.length) false known (by simp) (by omega) (by omega) (fun h => by cases h), rootF_more H h2, take_root H h2 hi (by omega)]

/-- A proof that fits has as many hashes. -/
theorem reg_len (H : ByteArray → ByteArray) : ∀ (n : Nat) (l : List ByteArray) (m : Nat) (whole : Bool) (known : ByteArray) (pf : List ByteArray), l.length = n → 0 < m → m ≤ n → (regF H known m n whole pf).2.2 = true → pf.length = (grownF H l m whole).length := by
  intro n
  induction n using Nat.strongRecOn with
  | _ n ih =>
  intro l m whole known pf hl h0 hm hf
  by_cases h1 : m = n ∧ whole = true
  · obtain ⟨rfl, rfl⟩ := h1
    rw [grownF_all H true hl.symm, if_pos rfl]
    rw [regF_whole] at hf
    simpa using hf
  · by_cases hp : pf = []
    · subst hp; rw [regF_none H _ _ _ _ h1] at hf; cases hf
    · obtain ⟨rest, b, rfl⟩ := snoc_of hp
      by_cases hb : b.size = 32
      · by_cases h2 : m = n
        · have hw : whole = false := by cases whole <;> simp_all
          subst h2 hw
          rw [regF_all H _ _ _ _ hb] at hf
          rw [grownF_all H false hl.symm]
          have : rest = [] := by simpa using hf
          simp [this]
        · have h3 : 2 ≤ l.length := by omega
          have hk0 := halfN_pos l.length
          have hk1 := halfN_lt h3
          rw [← hl] at hf
          by_cases hi : m ≤ halfN l.length
          · rw [regF_left H _ _ _ _ (by omega) _ _ hb hi] at hf
            rw [grownF_left H whole h0 (by omega) hi]
            have := ih (halfN l.length) (by omega) (l.take (halfN l.length)) m whole known rest (by simp; omega) h0 hi hf
            simp [this]
          · rw [regF_right H _ _ _ _ (by omega) _ _ hb hi] at hf
            rw [grownF_right H whole h0 (by omega) hi]
            have := ih (l.length - halfN l.length) (by omega) (l.drop (halfN l.length)) (m - halfN l.length) false known rest (by simp) (by omega) (by omega) hf
            simp [this]
      · rw [regF_bad H _ _ _ _ h1 _ _ hb] at hf; cases hf

/-- What known.both makes is what the check makes, where the proof fits. -/
theorem both_reg (H : ByteArray → ByteArray) (a : ByteArray) : ∀ (q : Nat) (pf : List ByteArray) (m n : Nat) (whole : Bool), pf.length = q → (regF H a m n whole pf).2.2 = true → (bothF H a m n whole pf).1 = (regF H a m n whole pf).1 ∧ (bothF H a m n whole pf).2.1 = (regF H a m n whole pf).2.1 := by
  intro q
  induction q with
  | zero =>
    intro pf m n whole hq hf
    obtain rfl := List.eq_nil_of_length_eq_zero hq
    by_cases h1 : m = n ∧ whole = true
    · obtain ⟨rfl, rfl⟩ := h1; rw [regF_whole, bothF_whole]; exact ⟨rfl, rfl⟩
    · rw [regF_none H _ _ _ _ h1] at hf; cases hf
  | succ q ih =>
    intro pf m n whole hq hf
    obtain ⟨rest, b, rfl⟩ := snoc_of (pf := pf) (by intro e; subst e; simp at hq)
    have hr : rest.length = q := by simp at hq; exact hq
    by_cases h1 : m = n ∧ whole = true
    · obtain ⟨rfl, rfl⟩ := h1; rw [regF_whole, bothF_whole]; exact ⟨rfl, rfl⟩
    · by_cases hb : b.size = 32
      · by_cases h2 : m = n
        · have hw : whole = false := by cases whole <;> simp_all
          subst h2 hw
          rw [regF_all H _ _ _ _ hb, bothF_all]; exact ⟨rfl, rfl⟩
        · by_cases hi : m ≤ halfN n
          · rw [regF_left H _ _ _ _ h2 _ _ hb hi] at hf ⊢
            rw [bothF_left H _ _ _ _ h2 _ _ hi]
            have := ih rest m (halfN n) whole hr hf
            exact ⟨this.1, by show H _ = H _; rw [this.2]⟩
          · rw [regF_right H _ _ _ _ h2 _ _ hb hi] at hf ⊢
            rw [bothF_right H _ _ _ _ h2 _ _ hi]
            have := ih rest (m - halfN n) (n - halfN n) false hr hf
            exact ⟨by show H _ = H _; rw [this.1], by show H _ = H _; rw [this.2]⟩
      · rw [regF_bad H _ _ _ _ h1 _ _ hb] at hf; cases hf

/-- A proof that leads to the root is the one that was made, and its old root the right one; or two texts of one hash are in hand. -/
theorem reg_clash (H : ByteArray → ByteArray) (hH : ∀ s, (H s).size = 32) (known : ByteArray) (hk : known.size = 32) : ∀ (n : Nat) (l : List ByteArray) (m : Nat) (whole : Bool) (pf : List ByteArray), l.length = n → 0 < m → m ≤ n → (regF H known m n whole pf).2 = (rootF H l, true) →
    ((regF H known m n whole pf).1 = rootF H (l.take m) ∧ pf = grownF H l m whole) ∨ ∃ a ∈ rootT H l, ∃ b ∈ (bothF H known m n whole pf).2.2, H a = H b ∧ a ≠ b := by
  intro n
  induction n using Nat.strongRecOn with
  | _ n ih =>
  intro l m whole pf hl h0 hm hc
  by_cases h1 : m = n ∧ whole = true
  · obtain ⟨rfl, rfl⟩ := h1
    rw [regF_whole] at hc ⊢
    obtain ⟨hc1, hc2⟩ := Prod.mk.inj hc
    left
    have e : l.take m = l := by rw [← hl]; exact List.take_length
    rw [e, grownF_all H true hl.symm, if_pos rfl]
    exact ⟨hc1, by simpa using hc2⟩
  · by_cases hp : pf = []
    · subst hp; rw [regF_none H _ _ _ _ h1] at hc; cases (Prod.mk.inj hc).2
    · obtain ⟨rest, b, rfl⟩ := snoc_of hp
      by_cases hb : b.size = 32
      · by_cases h2 : m = n
        · have hw : whole = false := by cases whole <;> simp_all
          subst h2 hw
          rw [regF_all H _ _ _ _ hb] at hc ⊢
          obtain ⟨hc1, hc2⟩ := Prod.mk.inj hc
          left
          have e : l.take m = l := by rw [← hl]; exact List.take_length
          have hr : rest = [] := by simpa using hc2
          rw [e, grownF_all H false hl.symm, hr]
          exact ⟨hc1, by rw [← hc1]; rfl⟩
        · have h3 : 2 ≤ l.length := by omega
          have hk0 := halfN_pos l.length
          have hk1 := halfN_lt h3
          have nT : (l.take (halfN l.length)).length = halfN l.length := by simp; omega
          have nD : (l.drop (halfN l.length)).length = l.length - halfN l.length := by simp
          rw [← hl] at hc ⊢
          by_cases hi : m ≤ halfN l.length
          · rw [regF_left H _ _ _ _ (by omega) _ _ hb hi] at hc ⊢
            obtain ⟨hc1, hc2⟩ := Prod.mk.inj hc
            rw [rootF_more H h3] at hc1
            have hbo := (both_reg H known _ rest m (halfN l.length) whole rfl hc2).2
            rw [bothF_left H _ _ _ _ (by omega) _ _ hi, rootT_more H h3, hbo]
            by_cases ht : m1 ++ (regF H known m (halfN l.length) whole rest).2.1 ++ b = m1 ++ rootF H (l.take (halfN l.length)) ++ rootF H (l.drop (halfN l.length))
            · obtain ⟨e1, e2⟩ := three_inj m1 (by rw [(regF_sizes H hH known hk _ rest _ _ _ rfl).2, rootF_size H hH]) ht
              rcases ih (halfN l.length) (by omega) (l.take (halfN l.length)) m whole rest nT h0 hi (Prod.ext e1 hc2) with ⟨h4, h5⟩ | ⟨a, ha, b', hb', h6⟩
              · left
                refine ⟨by show (regF H known m (halfN l.length) whole rest).1 = _; rw [h4, List.take_take, Nat.min_eq_left hi], ?_⟩
                rw [grownF_left H whole h0 (by omega) hi, h5, e2]
              · right
                exact ⟨a, by simp [ha], b', by simp [hb'], h6⟩
            · right
              exact ⟨_, by simp, _, by simp, hc1.symm, fun e => ht e.symm⟩
          · rw [regF_right H _ _ _ _ (by omega) _ _ hb hi] at hc ⊢
            obtain ⟨hc1, hc2⟩ := Prod.mk.inj hc
            rw [rootF_more H h3] at hc1
            have hbo := (both_reg H known _ rest (m - halfN l.length) (l.length - halfN l.length) false rfl hc2).2
            rw [bothF_right H _ _ _ _ (by omega) _ _ hi, rootT_more H h3, hbo]
            by_cases ht : m1 ++ b ++ (regF H known (m - halfN l.length) (l.length - halfN l.length) false rest).2.1 = m1 ++ rootF H (l.take (halfN l.length)) ++ rootF H (l.drop (halfN l.length))
            · obtain ⟨e1, e2⟩ := three_inj m1 (by rw [hb, rootF_size H hH]) ht
              rcases ih (l.length - halfN l.length) (by omega) (l.drop (halfN l.length)) (m - halfN l.length) false rest nD (by omega) (by omega) (Prod.ext e2 hc2) with ⟨h4, h5⟩ | ⟨a, ha, b', hb', h6⟩
              · left
                refine ⟨by show H _ = _; rw [h4, take_root H h3 hi (by omega), e1], ?_⟩
                rw [grownF_right H whole h0 (by omega) hi, ← h5, e1]
              · right
                exact ⟨a, by simp [ha], b', by simp [hb'], h6⟩
            · right
              exact ⟨_, by simp, _, by simp, hc1.symm, fun e => ht e.symm⟩
      · rw [regF_bad H _ _ _ _ h1 _ _ hb] at hc; cases (Prod.mk.inj hc).2
end Go.Proofs.YteebdadnfaekmaaDoor
