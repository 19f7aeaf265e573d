import Derived.Test.YtijdnpoenpjnlaaGreatDoorGRegM
import Derived.Test.YtijdnpoenpjnlaaGreatDoorTReadM
import Derived.Test.YtijdnpoenpjnlaaGreatDoorXRefM
import Derived.Test.YtijdnpoenpjnlaaGreatDoorXRootedM
set_option linter.unusedVariables false
set_option linter.unusedSimpArgs false
namespace Go.Proofs.YtijdnpoenpjnlaaGreatDoor

/-- What the reference makes of a leaf's hash by a proof. -/
def inR (H : ByteArray → ByteArray) (h : ByteArray) (i n : Nat) (pf : List ByteArray) : ByteArray × Bool :=
  if n = 1 then (h, pf.isEmpty) else
  match hh : pf.getLast? with
  | none => (⟨#[]⟩, false)
  | some b => if i < halfN n then (H (m1 ++ (inR H h i (halfN n) pf.dropLast).1 ++ b), (inR H h i (halfN n) pf.dropLast).2)
      else (H (m1 ++ b ++ (inR H h (i - halfN n) (n - halfN n) pf.dropLast).1), (inR H h (i - halfN n) (n - halfN n) pf.dropLast).2)
  termination_by pf.length
  decreasing_by all_goals (have : pf ≠ [] := by intro e; rw [e] at hh; simp at hh) <;> (have := List.length_pos_iff.2 this) <;> simp <;> omega
theorem inR_one (H : ByteArray → ByteArray) (h : ByteArray) (i : Nat) (pf : List ByteArray) : inR H h i 1 pf = (h, pf.isEmpty) := by rw [inR, if_pos rfl]
theorem inR_none (H : ByteArray → ByteArray) (h : ByteArray) (i n : Nat) (hn : n ≠ 1) : inR H h i n [] = (⟨#[]⟩, false) := by rw [inR, if_neg hn]; rfl
theorem inR_left (H : ByteArray → ByteArray) (h : ByteArray) (i n : Nat) (hn : n ≠ 1) (pf : List ByteArray) (b : ByteArray) (hi : i < halfN n) :
    inR H h i n (pf ++ [b]) = (H (m1 ++ (inR H h i (halfN n) pf).1 ++ b), (inR H h i (halfN n) pf).2) := by
  rw [inR, if_neg hn]
  split
  · rename_i h; rw [List.getLast?_concat] at h; cases h
  · rename_i b' h
    rw [List.getLast?_concat] at h
    obtain rfl := Option.some.inj h
    rw [if_pos hi, List.dropLast_concat]
theorem inR_right (H : ByteArray → ByteArray) (h : ByteArray) (i n : Nat) (hn : n ≠ 1) (pf : List ByteArray) (b : ByteArray) (hi : ¬ i < halfN n) :
    inR H h i n (pf ++ [b]) = (H (m1 ++ b ++ (inR H h (i - halfN n) (n - halfN n) pf).1), (inR H h (i - halfN n) (n - halfN n) pf).2) := by
  rw [inR, if_neg hn]
  split
  · rename_i h; rw [List.getLast?_concat] at h; cases h
  · rename_i b' h
    rw [List.getLast?_concat] at h
    obtain rfl := Option.some.inj h
    rw [if_neg hi, List.dropLast_concat]
theorem inR_size (H : ByteArray → ByteArray) (hH : ∀ s, (H s).size = 32) (h : ByteArray) (hh : h.size = 32) (i n : Nat) (pf : List ByteArray) : (inR H h i n pf).1.size ≤ 32 := by
  rw [inR]
  split
  · show h.size ≤ 32; omega
  · split
    · show (0 : Nat) ≤ 32; omega
    · split
      · show (H _).size ≤ 32; rw [hH]; omega
      · show (H _).size ≤ 32; rw [hH]; omega
theorem in_climb (H : ByteArray → ByteArray) (leaf : ByteArray) : ∀ (q : Nat) (pf : List ByteArray) (i n : Nat), pf.length = q → (∀ b ∈ pf, b.size = 32) → (climbF H leaf i n pf).2 = (inR H (H (m0 ++ leaf)) i n pf).2 ∧ ((inR H (H (m0 ++ leaf)) i n pf).2 = true → (climbF H leaf i n pf).1 = (inR H (H (m0 ++ leaf)) i n pf).1) := by
  intro q
  induction q with
  | zero =>
    intro pf i n hq hb
    obtain rfl := List.eq_nil_of_length_eq_zero hq
    by_cases h1 : n = 1
    · subst h1; rw [climbF_one, inR_one]; exact ⟨rfl, fun _ => rfl⟩
    · rw [climbF_none H _ _ _ h1, inR_none H _ _ _ h1]; exact ⟨rfl, fun h => by cases h⟩
  | succ q ih =>
    intro pf i n hq hb
    obtain ⟨rest, b, rfl⟩ := snoc_of (pf := pf) (by intro e; subst e; simp at hq)
    have hr : rest.length = q := by simp at hq; exact hq
    by_cases h1 : n = 1
    · subst h1; rw [climbF_one, inR_one]; exact ⟨rfl, fun _ => rfl⟩
    · have hb32 := hb b (by simp)
      have hbr : ∀ x ∈ rest, x.size = 32 := fun x hx => hb x (by simp [hx])
      by_cases hik : i < halfN n
      · rw [climbF_left H _ _ _ h1 _ _ hb32 hik, inR_left H _ _ _ h1 _ _ hik]
        have := ih rest i (halfN n) hr hbr
        exact ⟨this.1, fun h => by show H _ = H _; rw [this.2 h]⟩
      · rw [climbF_right H _ _ _ h1 _ _ hb32 hik, inR_right H _ _ _ h1 _ _ hik]
        have := ih rest (i - halfN n) (n - halfN n) hr hbr
        exact ⟨this.1, fun h => by show H _ = H _; rw [this.2 h]⟩
theorem climb_hashes (H : ByteArray → ByteArray) (leaf : ByteArray) : ∀ (q : Nat) (pf : List ByteArray) (i n : Nat), pf.length = q → (climbF H leaf i n pf).2 = true → ∀ b ∈ pf, b.size = 32 := by
  intro q
  induction q with
  | zero => intro pf i n hq _ b hb; obtain rfl := List.eq_nil_of_length_eq_zero hq; cases hb
  | succ q ih =>
    intro pf i n hq hf x hx
    obtain ⟨rest, b, rfl⟩ := snoc_of (pf := pf) (by intro e; subst e; simp at hq)
    have hr : rest.length = q := by simp at hq; exact hq
    by_cases h1 : n = 1
    · subst h1; rw [climbF_one] at hf; simp at hf
    · by_cases hb : b.size = 32
      · have hrest : ∀ y ∈ rest, y.size = 32 := by
          by_cases hik : i < halfN n
          · rw [climbF_left H _ _ _ h1 _ _ hb hik] at hf; exact ih rest _ _ hr hf
          · rw [climbF_right H _ _ _ h1 _ _ hb hik] at hf; exact ih rest _ _ hr hf
        rcases List.mem_append.1 hx with hx | hx
        · exact hrest x hx
        · simp at hx; rw [hx]; exact hb
      · rw [climbF_bad H _ _ _ h1 _ _ hb] at hf; cases hf
def hashesB (pf : List ByteArray) : Bool := pf.all fun b => decide (b.size = 32)
theorem hashesB_iff (pf : List ByteArray) : hashesB pf = true ↔ ∀ b ∈ pf, b.size = 32 := by unfold hashesB; simp
/-- The reference's answer is the check's. -/
theorem incl_same (K : Nat → Int) (s r : ByteArray) (i n : Nat) (pf : List ByteArray) : inclOk K s i n r pf = (hashesB pf && ((inR (sumOf K) (sumOf K (m0 ++ s)) i n pf).2 && decide ((inR (sumOf K) (sumOf K (m0 ++ s)) i n pf).1 = r))) := by
  rw [Bool.eq_iff_iff]
  unfold inclOk
  simp only [Bool.and_eq_true, decide_eq_true_eq]
  constructor
  · rintro ⟨h1, h2, h3⟩
    have hh := climb_hashes (sumOf K) s _ pf i n rfl h2
    have := in_climb (sumOf K) s _ pf i n rfl hh
    refine ⟨(hashesB_iff pf).2 hh, by rw [← this.1]; exact h2, ?_⟩
    rw [← this.2 (by rw [← this.1]; exact h2)]; exact h3
  · rintro ⟨h1, h2, h3⟩
    have hh := (hashesB_iff pf).1 h1
    have := in_climb (sumOf K) s _ pf i n rfl hh
    have e := this.2 h2
    refine ⟨by rw [← h3, ← e]; exact climbF_size _ (sumOf_size K) _ _ _ _, by rw [this.1]; exact h2, by rw [e]; exact h3⟩

/-- Both roots that the reference makes of a proof. -/
def grR (H : ByteArray → ByteArray) (first : ByteArray) (m n : Nat) (top : Bool) (pf : List ByteArray) : ByteArray × ByteArray × Bool :=
  if m = n then (if top then (first, first, pf.isEmpty) else if pf.length = 1 then (pf.headD ⟨#[]⟩, pf.headD ⟨#[]⟩, true) else (⟨#[]⟩, ⟨#[]⟩, false)) else
  match hh : pf.getLast? with
  | none => (⟨#[]⟩, ⟨#[]⟩, false)
  | some b => if m ≤ halfN n then ((grR H first m (halfN n) top pf.dropLast).1, H (m1 ++ (grR H first m (halfN n) top pf.dropLast).2.1 ++ b), (grR H first m (halfN n) top pf.dropLast).2.2)
      else (H (m1 ++ b ++ (grR H first (m - halfN n) (n - halfN n) false pf.dropLast).1), H (m1 ++ b ++ (grR H first (m - halfN n) (n - halfN n) false pf.dropLast).2.1), (grR H first (m - halfN n) (n - halfN n) false pf.dropLast).2.2)
  termination_by pf.length
  decreasing_by all_goals (have : pf ≠ [] := by intro e; rw [e] at hh; simp at hh) <;> (have := List.length_pos_iff.2 this) <;> simp <;> omega
theorem grR_top (H : ByteArray → ByteArray) (first : ByteArray) (n : Nat) (pf : List ByteArray) : grR H first n n true pf = (first, first, pf.isEmpty) := by rw [grR, if_pos rfl, if_pos rfl]
theorem grR_all (H : ByteArray → ByteArray) (first : ByteArray) (n : Nat) (pf : List ByteArray) : grR H first n n false pf = if pf.length = 1 then (pf.headD ⟨#[]⟩, pf.headD ⟨#[]⟩, true) else (⟨#[]⟩, ⟨#[]⟩, false) := by rw [grR, if_pos rfl, if_neg (by simp)]
theorem grR_none (H : ByteArray → ByteArray) (first : ByteArray) (m n : Nat) (top : Bool) (hn : m ≠ n) : grR H first m n top [] = (⟨#[]⟩, ⟨#[]⟩, false) := by rw [grR, if_neg hn]; rfl
theorem grR_left (H : ByteArray → ByteArray) (first : ByteArray) (m n : Nat) (top : Bool) (hn : m ≠ n) (pf : List ByteArray) (b : ByteArray) (hi : m ≤ halfN n) :
    grR H first m n top (pf ++ [b]) = ((grR H first m (halfN n) top pf).1, H (m1 ++ (grR H first m (halfN n) top pf).2.1 ++ b), (grR H first m (halfN n) top pf).2.2) := by
  rw [grR, if_neg hn]
  split
  · rename_i h; rw [List.getLast?_concat] at h; cases h
  · rename_i b' h
    rw [List.getLast?_concat] at h
    obtain rfl := Option.some.inj h
    rw [if_pos hi, List.dropLast_concat]
theorem grR_right (H : ByteArray → ByteArray) (first : ByteArray) (m n : Nat) (top : Bool) (hn : m ≠ n) (pf : List ByteArray) (b : ByteArray) (hi : ¬ m ≤ halfN n) :
    grR H first m n top (pf ++ [b]) = (H (m1 ++ b ++ (grR H first (m - halfN n) (n - halfN n) false pf).1), H (m1 ++ b ++ (grR H first (m - halfN n) (n - halfN n) false pf).2.1), (grR H first (m - halfN n) (n - halfN n) false pf).2.2) := by
  rw [grR, if_neg hn]
  split
  · rename_i h; rw [List.getLast?_concat] at h; cases h
  · rename_i b' h
    rw [List.getLast?_concat] at h
    obtain rfl := Option.some.inj h
    rw [if_neg hi, List.dropLast_concat]
theorem empty_le : (⟨#[]⟩ : ByteArray).size ≤ 20000 := Nat.zero_le _
theorem grR_size (H : ByteArray → ByteArray) (hH : ∀ s, (H s).size = 32) (first : ByteArray) (hf : first.size ≤ 20000) : ∀ (q : Nat) (pf : List ByteArray) (m n : Nat) (top : Bool), pf.length = q → (∀ b ∈ pf, b.size = 32) → (grR H first m n top pf).1.size ≤ 20000 ∧ (grR H first m n top pf).2.1.size ≤ 20000 := by
  intro q
  induction q with
  | zero =>
    intro pf m n top hq hb
    obtain rfl := List.eq_nil_of_length_eq_zero hq
    by_cases h1 : m = n
    · subst h1
      cases top
      · rw [grR_all]; exact ⟨empty_le, empty_le⟩
      · rw [grR_top]; exact ⟨hf, hf⟩
    · rw [grR_none H _ _ _ _ h1]; exact ⟨empty_le, empty_le⟩
  | succ q ih =>
    intro pf m n top hq hb
    obtain ⟨rest, b, rfl⟩ := snoc_of (pf := pf) (by intro e; subst e; simp at hq)
    have hr : rest.length = q := by simp at hq; exact hq
    by_cases h1 : m = n
    · subst h1
      cases top
      · rw [grR_all]
        split
        · have hh : ((rest ++ [b]).headD ⟨#[]⟩).size = 32 := by
            cases rest with
            | nil => exact hb b (by simp)
            | cons x r => exact hb x (by simp)
          exact ⟨by show ((rest ++ [b]).headD ⟨#[]⟩).size ≤ 20000; omega, by show ((rest ++ [b]).headD ⟨#[]⟩).size ≤ 20000; omega⟩
        · exact ⟨empty_le, empty_le⟩
      · rw [grR_top]; exact ⟨hf, hf⟩
    · by_cases hi : m ≤ halfN n
      · rw [grR_left H _ _ _ _ h1 _ _ hi]
        exact ⟨(ih rest m (halfN n) top hr (fun x hx => hb x (by simp [hx]))).1, by show (H _).size ≤ _; rw [hH]; omega⟩
      · rw [grR_right H _ _ _ _ h1 _ _ hi]
        constructor <;> show (H _).size ≤ _ <;> rw [hH] <;> omega
theorem gr_reg (H : ByteArray → ByteArray) (first : ByteArray) : ∀ (q : Nat) (pf : List ByteArray) (m n : Nat) (top : Bool), pf.length = q → (∀ b ∈ pf, b.size = 32) → (regF H first m n top pf).2.2 = (grR H first m n top pf).2.2 ∧ ((grR H first m n top pf).2.2 = true → (regF H first m n top pf).1 = (grR H first m n top pf).1 ∧ (regF H first m n top pf).2.1 = (grR H first m n top pf).2.1) := by
  intro q
  induction q with
  | zero =>
    intro pf m n top hq hb
    obtain rfl := List.eq_nil_of_length_eq_zero hq
    by_cases h1 : m = n
    · subst h1
      cases top
      · rw [grR_all, regF_none H _ _ _ _ (by simp)]; exact ⟨rfl, fun h => by cases h⟩
      · rw [grR_top, regF_whole]; exact ⟨rfl, fun _ => ⟨rfl, rfl⟩⟩
    · rw [grR_none H _ _ _ _ h1, regF_none H _ _ _ _ (fun h => h1 h.1)]; exact ⟨rfl, fun h => by cases h⟩
  | succ q ih =>
    intro pf m n top hq hb
    obtain ⟨rest, b, rfl⟩ := snoc_of (pf := pf) (by intro e; subst e; simp at hq)
    have hr : rest.length = q := by simp at hq; exact hq
    have hb32 := hb b (by simp)
    have hbr : ∀ x ∈ rest, x.size = 32 := fun x hx => hb x (by simp [hx])
    by_cases h1 : m = n
    · subst h1
      cases top
      · rw [grR_all, regF_all H _ _ _ _ hb32]
        cases rest with
        | nil => exact ⟨rfl, fun _ => ⟨rfl, rfl⟩⟩
        | cons x r =>
          rw [if_neg (by simp)]
          exact ⟨rfl, fun h => by cases h⟩
      · rw [grR_top, regF_whole]; exact ⟨rfl, fun _ => ⟨rfl, rfl⟩⟩
    · by_cases hi : m ≤ halfN n
      · rw [grR_left H _ _ _ _ h1 _ _ hi, regF_left H _ _ _ _ h1 _ _ hb32 hi]
        have := ih rest m (halfN n) top hr hbr
        exact ⟨this.1, fun h => ⟨(this.2 h).1, by show H _ = H _; rw [(this.2 h).2]⟩⟩
      · rw [grR_right H _ _ _ _ h1 _ _ hi, regF_right H _ _ _ _ h1 _ _ hb32 hi]
        have := ih rest (m - halfN n) (n - halfN n) false hr hbr
        exact ⟨this.1, fun h => ⟨by show H _ = H _; rw [(this.2 h).1], by show H _ = H _; rw [(this.2 h).2]⟩⟩
theorem reg_hashes (H : ByteArray → ByteArray) (first : ByteArray) : ∀ (q : Nat) (pf : List ByteArray) (m n : Nat) (top : Bool), pf.length = q → (regF H first m n top pf).2.2 = true → ∀ b ∈ pf, b.size = 32 := by
  intro q
  induction q with
  | zero => intro pf m n top hq _ b hb; obtain rfl := List.eq_nil_of_length_eq_zero hq; cases hb
  | succ q ih =>
    intro pf m n top hq hf x hx
    obtain ⟨rest, b, rfl⟩ := snoc_of (pf := pf) (by intro e; subst e; simp at hq)
    have hr : rest.length = q := by simp at hq; exact hq
    by_cases h1 : m = n ∧ top = true
    · obtain ⟨rfl, rfl⟩ := h1; rw [regF_whole] at hf; simp at hf
    · by_cases hb : b.size = 32
      · have hrest : ∀ y ∈ rest, y.size = 32 := by
          by_cases h2 : m = n
          · have hw : top = false := by cases top <;> simp_all
            subst h2 hw
            rw [regF_all H _ _ _ _ hb] at hf
            have : rest = [] := by simpa using hf
            subst this; intro y hy; cases hy
          · by_cases hi : m ≤ halfN n
            · rw [regF_left H _ _ _ _ h2 _ _ hb hi] at hf; exact ih rest _ _ _ hr hf
            · rw [regF_right H _ _ _ _ h2 _ _ hb hi] at hf; exact ih rest _ _ _ hr hf
        rcases List.mem_append.1 hx with hx | hx
        · exact hrest x hx
        · simp at hx; rw [hx]; exact hb
      · rw [regF_bad H _ _ _ _ h1 _ _ hb] at hf; cases hf
/-- What the reference's CheckConsistency says, behind its look at the numbers. -/
def allR (H : ByteArray → ByteArray) (m n : Nat) (first second : ByteArray) (pf : List ByteArray) : Bool :=
  hashesB pf && (if m = 0 then (decide (pf.length = 0) && (decide (first = H ⟨#[]⟩) && (decide (n ≠ 0) || decide (second = H ⟨#[]⟩))))
    else ((grR H first m n true pf).2.2 && (decide ((grR H first m n true pf).1 = first) && (decide ((grR H first m n true pf).2.1 = second) && decide (first.size = 32)))))
theorem cons_same (K : Nat → Int) (m n : Nat) (first second : ByteArray) (pf : List ByteArray) : consOk K m n first second pf = allR (sumOf K) m n first second pf := by
  rw [Bool.eq_iff_iff]
  unfold consOk allR
  by_cases hm : m = 0
  · rw [if_pos hm, if_pos hm, show rootF (sumOf K) [] = sumOf K ⟨#[]⟩ by rw [rootF]]
    simp only [Bool.and_eq_true, Bool.or_eq_true, decide_eq_true_eq]
    constructor
    · rintro ⟨h1, ⟨h2, h3⟩, h4⟩
      refine ⟨(hashesB_iff pf).2 (by have := List.eq_nil_of_length_eq_zero h3; subst this; intro b hb; cases hb), h3, h2, ?_⟩
      rcases h4 with h4 | h4
      · exact Or.inl h4
      · exact Or.inr (by rw [h4, h2])
    · rintro ⟨h1, h2, h3, h4⟩
      refine ⟨by rw [h3]; exact sumOf_size K _, ⟨h3, h2⟩, ?_⟩
      rcases h4 with h4 | h4
      · exact Or.inl h4
      · exact Or.inr (by rw [h4, h3])
  · rw [if_neg hm, if_neg hm]
    simp only [Bool.and_eq_true, decide_eq_true_eq]
    constructor
    · rintro ⟨h1, h2, h3, h4, h5⟩
      have hh := reg_hashes (sumOf K) first _ pf m n true rfl h3
      have := gr_reg (sumOf K) first _ pf m n true rfl hh
      have h6 : (grR (sumOf K) first m n true pf).2.2 = true := by rw [← this.1]; exact h3
      exact ⟨(hashesB_iff pf).2 hh, h6, by rw [← (this.2 h6).1]; exact h4, by rw [← (this.2 h6).2]; exact h5, h1⟩
    · rintro ⟨h1, h2, h3, h4, h5⟩
      have hh := (hashesB_iff pf).1 h1
      have := gr_reg (sumOf K) first _ pf m n true rfl hh
      have e := this.2 h2
      refine ⟨h5, ?_, by rw [this.1]; exact h2, by rw [e.1]; exact h3, by rw [e.2]; exact h4⟩
      rw [← h4, ← e.2]
      exact (regF_sizes (sumOf K) (sumOf_size K) first h5 _ pf m n true rfl).2
end Go.Proofs.YtijdnpoenpjnlaaGreatDoor
set_option linter.unusedVariables false
set_option linter.unusedSimpArgs false
namespace Go.Proofs.YtijdnpoenpjnlaaGreatDoor
open Go.RowKit

def boolPost (b : Bool) (w : World) (e : Ending) (w' : World) : Prop := e = .returned (.bool b) ∧ Below w.heap.size w w'
theorem eqB (a b : ByteArray) : (a.toList == b.toList) = decide (a = b) := by
  rw [← beq_toListBytes]
  show (a.data == b.data) = decide (a = b)
  rw [Bool.eq_iff_iff]
  simp only [beq_iff_eq, decide_eq_true_eq]
  exact ⟨fun h => ByteArray.ext h, fun h => by rw [h]⟩

set_option maxRecDepth 10000 in
set_option maxHeartbeats 400000 in
theorem rhashes_any (v : Value) (pf : List ByteArray) (w : World) (hl : LeafAt w v pf) (hn : pf.length ≤ 1000000) (hs : ∀ s ∈ pf, s.size ≤ 20000) :
    Calls Tryz.prog 121 #[v] w (boolPost (hashesB pf) w) := by
  have HL : Hid (LeafAt w v pf) := hl
  obtain ⟨ao, cap, rfl⟩ := leaf_form hl
  have HS : Hid (∀ s ∈ pf, s.size ≤ 20000) := hs
  clear hl hs
  obtain ⟨N, hN⟩ : ∃ N, N = pf.length := ⟨_, rfl⟩
  have HN : Hid (N = pf.length) := hN
  rw [← hN] at hn HL ⊢
  clear hN
  go_enter Tryz.func121, Tryz.ntmps121
  go_wp2_with fail
  go_loopw [3] (fun i wr => ∃ q : Nat, i = .int .i64 q ∧ q ≤ N ∧ Hid (∀ j (h : j < pf.length), j < q → (pf[j]'h).size = 32) ∧ Below w.heap.size w wr) (fun i _ => N - (intOf i).toNat)
  case atStart => exact ⟨0, rfl, Nat.zero_le _, (fun j h h2 => by omega), Below.refl _ _⟩
  case round =>
    obtain ⟨q, rfl, hq, hI, hB⟩ := hrel
    by_cases hlt : q < N
    · have q1 : (q : Int) < (N : Int) := by omega
      have q0 : (0 : Int) ≤ (q : Int) := by omega
      have hql : q < pf.length := by have := HN.out; omega
      obtain ⟨s, hs⟩ : ∃ s, s = pf[q]'hql := ⟨_, rfl⟩
      have hsz : s.size ≤ 20000 := by rw [hs]; exact HS.out _ (List.getElem_mem hql)
      obtain ⟨g, off, ea, ca⟩ : ∃ g off, ao = some ⟨g, off, none⟩ ∧ wr.cell? ⟨g, off + q, none⟩ = some (.string s) := by
        rcases HL.out.below hB with ⟨e, _⟩ | ⟨g, off, cap', e, _, h⟩
        · rw [e] at hql; simp at hql
        · injection e with e1 _ _
          exact ⟨g, off, e1, by rw [h q hql, hs]⟩
      subst ea
      have HSQ : Hid (s = pf[q]'hql) := hs
      clear hs
      by_cases h32 : s.size = 32
      · have b1 : ((s.size : Int) != 32) = false := by rw [h32]; rfl
        go_wp2_with fail
        refine ⟨⟨q + 1, by go_num, by omega, (fun j h h2 => ?_), hB⟩, ?_⟩
        · by_cases e : j < q
          · exact hI.out j h e
          · obtain rfl : j = q := by omega
            rw [← HSQ.out]; exact h32
        · simp [intOf]; omega
      · have b1 : ((s.size : Int) != 32) = true := by rw [bne_iff_ne]; omega
        have hf : Hid (hashesB pf = false) := by
          show hashesB pf = false
          rw [Bool.eq_false_iff]
          intro h
          exact h32 (by rw [HSQ.out]; exact (hashesB_iff pf).1 h _ (List.getElem_mem hql))
        go_wp2_with fail
        go_ret
        exact ⟨by rw [hf.out]; rfl, hB⟩
    · have q1 : ¬ (q : Int) < (N : Int) := by omega
      have hf : Hid (hashesB pf = true) := by
        show hashesB pf = true
        refine (hashesB_iff pf).2 fun b hb => ?_
        obtain ⟨j, hj, rfl⟩ := List.mem_iff_getElem.1 hb
        exact hI.out j hj (by have := HN.out; omega)
      go_wp2_with fail
      go_ret
      exact ⟨by rw [hf.out]; rfl, hB⟩

def pairPost (h : ByteArray) (b : Bool) (w : World) (e : Ending) (w' : World) : Prop := e = .returned (.tuple #[.string h, .bool b]) ∧ Below w.heap.size w w'
set_option maxRecDepth 10000 in
set_option maxHeartbeats 400000 in
theorem rin_one (h : ByteArray) (i : Int) (ao : Option Addr) (M cap : Nat) (w : World) : Calls Tryz.prog 122 #[.string h, .int .i64 i, .int .i64 1, .slice ao M cap] w (pairPost h ((M : Int) == 0) w) := by
  go_enter Tryz.func122, Tryz.ntmps122
  go_wp2_with fail
  go_ret2
  exact ⟨rfl, Below.refl _ _⟩
set_option maxRecDepth 10000 in
set_option maxHeartbeats 400000 in
theorem rin_none (h : ByteArray) (i n : Int) (ao : Option Addr) (cap : Nat) (w : World) (hn : (n == 1) = false) : Calls Tryz.prog 122 #[.string h, .int .i64 i, .int .i64 n, .slice ao 0 cap] w (pairPost ⟨#[]⟩ false w) := by
  go_enter Tryz.func122, Tryz.ntmps122
  go_wp2_with fail
  go_ret2
  exact ⟨rfl, Below.refl _ _⟩

set_option maxRecDepth 10000 in
set_option maxHeartbeats 1000000 in
theorem rin_left (h b x y : ByteArray) (f : Bool) (i n k q g off cap : Nat) (w : World) (hn : 2 ≤ n) (hn1 : n ≤ 2147483647) (hk1 : k < n) (hin : i < n) (hik : i < k) (hq : q ≤ 1000000) (hcap : q + 1 ≤ cap) (hc : w.cell? ⟨g, off + q, none⟩ = some (.string b))
    (hsp : ∀ W, Calls Tryz.prog 116 #[.int .i64 n] W fun e w' => e = .returned (.int .i64 k) ∧ w' = W)
    (hrec : ∀ W, Below w.heap.size w W → Calls Tryz.prog 122 #[.string h, .int .i64 i, .int .i64 k, .slice (some ⟨g, off, none⟩) q cap] W (pairPost x f W))
    (hj : ∀ W, Calls Tryz.prog 117 #[.string x, .string b] W (strPost y W)) :
    Calls Tryz.prog 122 #[.string h, .int .i64 i, .int .i64 n, .slice (some ⟨g, off, none⟩) (q + 1) cap] w (pairPost y f w) := by
  have n1 : ((n : Int) == 1) = false := by rw [beq_eq_false_iff_ne]; omega
  have m0' : ((q + 1 : Nat) : Int) = (q : Int) + 1 := by omega
  have m1' : ((q : Int) + 1 == 0) = false := by rw [beq_eq_false_iff_ne]; omega
  have m2' : (q : Int) < (q : Int) + 1 := by omega
  have m3' : (q : Int) ≤ (cap : Int) := by omega
  have ik : (i : Int) < (k : Int) := by omega
  have HREC : Hid (∀ W, Below w.heap.size w W → Calls Tryz.prog 122 #[.string h, .int .i64 i, .int .i64 k, .slice (some ⟨g, off, none⟩) q cap] W (pairPost x f W)) := hrec
  have HJ : Hid (∀ W, Calls Tryz.prog 117 #[.string x, .string b] W (strPost y W)) := hj
  clear hrec hj
  go_enter Tryz.func122, Tryz.ntmps122
  go_wp2_with (go_at_call 116; refine (hsp _).mono ?_; rintro e wx ⟨rfl, hwx⟩; obtain rfl : w = wx := hwx.symm; clear hwx)
  refine (HREC.out w (Below.refl _ _)).mono ?_
  rintro e w1 ⟨rfl, hb1⟩
  go_wp2_with fail
  refine (HJ.out w1).mono ?_
  rintro e w2 ⟨rfl, hb2⟩
  go_wp2_with fail
  go_ret2
  exact ⟨rfl, hb1.trans (hb2.mono hb1.size)⟩

set_option maxRecDepth 10000 in
set_option maxHeartbeats 1000000 in
theorem rin_right (h b x y : ByteArray) (f : Bool) (i n k q g off cap : Nat) (w : World) (hn : 2 ≤ n) (hn1 : n ≤ 2147483647) (hk1 : k < n) (hin : i < n) (hik : k ≤ i) (hq : q ≤ 1000000) (hcap : q + 1 ≤ cap) (hc : w.cell? ⟨g, off + q, none⟩ = some (.string b))
    (hsp : ∀ W, Calls Tryz.prog 116 #[.int .i64 n] W fun e w' => e = .returned (.int .i64 k) ∧ w' = W)
    (hrec : ∀ W, Below w.heap.size w W → Calls Tryz.prog 122 #[.string h, .int .i64 ((i : Int) - (k : Int)), .int .i64 ((n : Int) - (k : Int)), .slice (some ⟨g, off, none⟩) q cap] W (pairPost x f W))
    (hj : ∀ W, Calls Tryz.prog 117 #[.string b, .string x] W (strPost y W)) :
    Calls Tryz.prog 122 #[.string h, .int .i64 i, .int .i64 n, .slice (some ⟨g, off, none⟩) (q + 1) cap] w (pairPost y f w) := by
  have n1 : ((n : Int) == 1) = false := by rw [beq_eq_false_iff_ne]; omega
  have m0' : ((q + 1 : Nat) : Int) = (q : Int) + 1 := by omega
  have m1' : ((q : Int) + 1 == 0) = false := by rw [beq_eq_false_iff_ne]; omega
  have m2' : (q : Int) < (q : Int) + 1 := by omega
  have m3' : (q : Int) ≤ (cap : Int) := by omega
  have ik : ¬ (i : Int) < (k : Int) := by omega
  have ik2 : (k : Int) ≤ (i : Int) := by omega
  have ik3 : (i : Int) < (n : Int) := by omega
  have HREC : Hid (∀ W, Below w.heap.size w W → Calls Tryz.prog 122 #[.string h, .int .i64 ((i : Int) - (k : Int)), .int .i64 ((n : Int) - (k : Int)), .slice (some ⟨g, off, none⟩) q cap] W (pairPost x f W)) := hrec
  have HJ : Hid (∀ W, Calls Tryz.prog 117 #[.string b, .string x] W (strPost y W)) := hj
  clear hrec hj
  go_enter Tryz.func122, Tryz.ntmps122
  go_wp2_with (go_at_call 116; refine (hsp _).mono ?_; rintro e wx ⟨rfl, hwx⟩; obtain rfl : w = wx := hwx.symm; clear hwx)
  refine (HREC.out w (Below.refl _ _)).mono ?_
  rintro e w1 ⟨rfl, hb1⟩
  go_wp2_with fail
  refine (HJ.out w1).mono ?_
  rintro e w2 ⟨rfl, hb2⟩
  go_wp2_with fail
  go_ret2
  exact ⟨rfl, hb1.trans (hb2.mono hb1.size)⟩

theorem rin_any (h : ByteArray) (hh : h.size = 32) : ∀ (q : Nat) (pf : List ByteArray) (v : Value) (i n : Nat) (w : World), pf.length = q → q ≤ 1000000 → i < n → n ≤ 2147483647 → LeafAt w v pf → (∀ b ∈ pf, b.size = 32) →
    Calls Tryz.prog 122 #[.string h, .int .i64 i, .int .i64 n, v] w (pairPost (inR HR h i n pf).1 (inR HR h i n pf).2 w) := by
  intro q
  induction q with
  | zero =>
    intro pf v i n w hq _ hin hn1 hl hb
    obtain rfl : pf = [] := List.eq_nil_of_length_eq_zero hq
    obtain ⟨ao, cap, rfl⟩ := leaf_form hl
    by_cases h1 : n = 1
    · subst h1; rw [inR_one]; exact rin_one h i ao 0 cap w
    · rw [inR_none HR _ _ _ h1]; exact rin_none h i n ao cap w (by rw [beq_eq_false_iff_ne]; omega)
  | succ q ih =>
    intro pf v i n w hq hq1 hin hn1 hl hb
    obtain ⟨rest, b, rfl⟩ := snoc_of (pf := pf) (by intro e; subst e; simp at hq)
    have hrl : rest.length = q := by simp at hq; exact hq
    obtain ⟨g, off, cap, rfl, hcap, hc⟩ : ∃ g off cap, v = .slice (some ⟨g, off, none⟩) (rest ++ [b]).length cap ∧ (rest ++ [b]).length ≤ cap ∧ ∀ j (h : j < (rest ++ [b]).length), w.cell? ⟨g, off + j, none⟩ = some (.string ((rest ++ [b])[j]'h)) := by
      rcases hl with ⟨e, _⟩ | h
      · simp at e
      · exact h
    have hlen : (rest ++ [b]).length = q + 1 := hq
    have hbr : ∀ x ∈ rest, x.size = 32 := fun x hx => hb x (by simp [hx])
    have hb32 := hb b (by simp)
    by_cases h1 : n = 1
    · subst h1
      rw [inR_one]
      have := rin_one h i (some ⟨g, off, none⟩) (rest ++ [b]).length cap w
      rw [show (((rest ++ [b]).length : Int) == 0) = (rest ++ [b]).isEmpty by rw [show (rest ++ [b]).isEmpty = false by simp]; rw [beq_eq_false_iff_ne]; simp; omega] at this
      exact this
    · have h2 : 2 ≤ n := by omega
      have hk0 := halfN_pos n
      have hk1 := halfN_lt h2
      rw [hlen]
      have hcm : w.cell? ⟨g, off + q, none⟩ = some (.string b) := by
        have := hc q (by omega)
        rw [this]; simp [← hrl]
      have lR : ∀ W, Below w.heap.size w W → LeafAt W (.slice (some ⟨g, off, none⟩) q cap) rest := fun W hb => by
        refine LeafAt.below (w := w) ?_ hb
        refine Or.inr ⟨g, off, cap, by rw [hrl], by omega, fun j hj => ?_⟩
        rw [hc j (by simp; omega), List.getElem_append_left hj]
      have hsz := fun i n => inR_size HR HR_size h hh i n rest
      by_cases hik : i < halfN n
      · rw [inR_left HR _ _ _ h1 _ _ hik]
        exact rin_left h b _ _ _ i n (halfN n) q g off cap w h2 hn1 hk1 hin hik (by omega) (by omega) hcm (fun W => rsplit_any n W h2 hn1)
          (fun W hb => ih rest _ i (halfN n) W hrl (by omega) hik (by omega) (lR W hb) hbr)
          (fun W => rjoined_any _ _ W (by have := hsz i (halfN n); omega) (by omega))
      · rw [inR_right HR _ _ _ h1 _ _ hik]
        exact rin_right h b _ _ _ i n (halfN n) q g off cap w h2 hn1 hk1 hin (by omega) (by omega) (by omega) hcm (fun W => rsplit_any n W h2 hn1)
          (fun W hb => by
            have := ih rest (.slice (some ⟨g, off, none⟩) q cap) (i - halfN n) (n - halfN n) W hrl (by omega) (by omega) (by omega) (lR W hb) hbr
            rw [show ((i - halfN n : Nat) : Int) = (i : Int) - (halfN n : Int) by omega, show ((n - halfN n : Nat) : Int) = (n : Int) - (halfN n : Int) by omega] at this
            exact this)
          (fun W => rjoined_any _ _ W (by omega) (by have := hsz (i - halfN n) (n - halfN n); omega))

def tripPost (x y : ByteArray) (b : Bool) (w : World) (e : Ending) (w' : World) : Prop := e = .returned (.tuple #[.string x, .string y, .bool b]) ∧ Below w.heap.size w w'
theorem ret_three {P : Program} {fn : Func} {R : Ending → World → Prop} {a : Act} {w : World} {t p u : Tmp} (h : fn.results = #[.tmp t, .tmp p, .tmp u]) (x y z : Value)
    (ht : a.tmps.getD t undef = x) (hp : a.tmps.getD p undef = y) (hu : a.tmps.getD u undef = z) (hdf : a.defers = []) (hR : R (.returned (.tuple #[x, y, z])) w) : bodyPost P fn R .ret a w := by
  refine bodyPost_ret (v := .tuple #[x, y, z]) ?_ hdf hR
  have ht' : a.tmps[t]?.getD undef = x := by simpa using ht
  have hp' : a.tmps[p]?.getD undef = y := by simpa using hp
  have hu' : a.tmps[u]?.getD undef = z := by simpa using hu
  simp only [results, h]
  simp [Sem.run_bind, ht', hp', hu']
set_option maxRecDepth 10000 in
set_option maxHeartbeats 400000 in
theorem rgr_top (first : ByteArray) (n : Int) (ao : Option Addr) (M cap : Nat) (w : World) : Calls Tryz.prog 124 #[.int .i64 n, .int .i64 n, .bool true, .string first, .slice ao M cap] w (tripPost first first ((M : Int) == 0) w) := by
  go_enter Tryz.func124, Tryz.ntmps124
  go_wp2_with fail
  exact ret_three rfl _ _ _ rfl rfl rfl rfl ⟨rfl, Below.refl _ _⟩
set_option maxRecDepth 10000 in
set_option maxHeartbeats 400000 in
theorem rgr_notone (first : ByteArray) (n : Int) (ao : Option Addr) (M cap : Nat) (w : World) (hM : M ≠ 1) : Calls Tryz.prog 124 #[.int .i64 n, .int .i64 n, .bool false, .string first, .slice ao M cap] w (tripPost ⟨#[]⟩ ⟨#[]⟩ false w) := by
  have m1 : ((M : Int) != 1) = true := by rw [bne_iff_ne]; omega
  go_enter Tryz.func124, Tryz.ntmps124
  go_wp2_with fail
  exact ret_three rfl _ _ _ rfl rfl rfl rfl ⟨rfl, Below.refl _ _⟩
set_option maxRecDepth 10000 in
set_option maxHeartbeats 400000 in
theorem rgr_one (first b : ByteArray) (n : Int) (g off cap : Nat) (w : World) (hc : w.cell? ⟨g, off, none⟩ = some (.string b)) : Calls Tryz.prog 124 #[.int .i64 n, .int .i64 n, .bool false, .string first, .slice (some ⟨g, off, none⟩) 1 cap] w (tripPost b b true w) := by
  have hB : Below w.heap.size w w := Below.refl _ _
  go_enter Tryz.func124, Tryz.ntmps124
  go_wp2_with fail
  go_quiet (fail)
  go_wp2_with fail
  exact ret_three rfl _ _ _ rfl rfl rfl rfl ⟨rfl, below_draws hB _⟩
set_option maxRecDepth 10000 in
set_option maxHeartbeats 400000 in
theorem rgr_none (first : ByteArray) (m n : Int) (top : Bool) (ao : Option Addr) (cap : Nat) (w : World) (hmn : (m == n) = false) : Calls Tryz.prog 124 #[.int .i64 m, .int .i64 n, .bool top, .string first, .slice ao 0 cap] w (tripPost ⟨#[]⟩ ⟨#[]⟩ false w) := by
  go_enter Tryz.func124, Tryz.ntmps124
  go_wp2_with fail
  exact ret_three rfl _ _ _ rfl rfl rfl rfl ⟨rfl, Below.refl _ _⟩

set_option maxRecDepth 10000 in
set_option maxHeartbeats 1000000 in
theorem rgr_left (first b x y h : ByteArray) (f top : Bool) (m n k q g off cap : Nat) (w : World) (hn : 2 ≤ n) (hn1 : n ≤ 2147483647) (hk1 : k < n) (hmn : m < n) (hmk : m ≤ k) (hq : q ≤ 1000000) (hcap : q + 1 ≤ cap) (hc : w.cell? ⟨g, off + q, none⟩ = some (.string b))
    (hsp : ∀ W, Calls Tryz.prog 116 #[.int .i64 n] W fun e w' => e = .returned (.int .i64 k) ∧ w' = W)
    (hrec : ∀ W, Below w.heap.size w W → Calls Tryz.prog 124 #[.int .i64 m, .int .i64 k, .bool top, .string first, .slice (some ⟨g, off, none⟩) q cap] W (tripPost x y f W))
    (hj0 : ∀ W, Calls Tryz.prog 117 #[.string y, .string b] W (strPost h W)) :
    Calls Tryz.prog 124 #[.int .i64 m, .int .i64 n, .bool top, .string first, .slice (some ⟨g, off, none⟩) (q + 1) cap] w (tripPost x h f w) := by
  have n1 : ((m : Int) == (n : Int)) = false := by rw [beq_eq_false_iff_ne]; omega
  have m0' : ((q + 1 : Nat) : Int) = (q : Int) + 1 := by omega
  have m1' : ((q : Int) + 1 == 0) = false := by rw [beq_eq_false_iff_ne]; omega
  have m2' : (q : Int) < (q : Int) + 1 := by omega
  have m3' : (q : Int) ≤ (cap : Int) := by omega
  have mk : (m : Int) ≤ (k : Int) := by omega
  have HREC : Hid (∀ W, Below w.heap.size w W → Calls Tryz.prog 124 #[.int .i64 m, .int .i64 k, .bool top, .string first, .slice (some ⟨g, off, none⟩) q cap] W (tripPost x y f W)) := hrec
  have HJ0 : Hid (∀ W, Calls Tryz.prog 117 #[.string y, .string b] W (strPost h W)) := hj0
  clear hrec hj0
  go_enter Tryz.func124, Tryz.ntmps124
  go_wp2_with (go_at_call 116; refine (hsp _).mono ?_; rintro e wx ⟨rfl, hwx⟩; obtain rfl : w = wx := hwx.symm; clear hwx)
  refine (HREC.out w (Below.refl _ _)).mono ?_
  rintro e w1 ⟨rfl, hb1⟩
  go_wp2_with fail
  refine (HJ0.out w1).mono ?_
  rintro e w2 ⟨rfl, hbx0⟩
  have hb2 : Below w.heap.size w w2 := hb1.trans (hbx0.mono hb1.size)
  go_wp2_with fail
  exact ret_three rfl _ _ _ rfl rfl rfl rfl ⟨rfl, hb2⟩

set_option maxRecDepth 10000 in
set_option maxHeartbeats 1000000 in
theorem rgr_right (first b x y h h2 : ByteArray) (f top : Bool) (m n k q g off cap : Nat) (w : World) (hn : 2 ≤ n) (hn1 : n ≤ 2147483647) (hk1 : k < n) (hmn : m < n) (hmk : k < m) (hq : q ≤ 1000000) (hcap : q + 1 ≤ cap) (hc : w.cell? ⟨g, off + q, none⟩ = some (.string b))
    (hsp : ∀ W, Calls Tryz.prog 116 #[.int .i64 n] W fun e w' => e = .returned (.int .i64 k) ∧ w' = W)
    (hrec : ∀ W, Below w.heap.size w W → Calls Tryz.prog 124 #[.int .i64 ((m : Int) - (k : Int)), .int .i64 ((n : Int) - (k : Int)), .bool false, .string first, .slice (some ⟨g, off, none⟩) q cap] W (tripPost x y f W))
    (hj0 : ∀ W, Calls Tryz.prog 117 #[.string b, .string x] W (strPost h W))
    (hj1 : ∀ W, Calls Tryz.prog 117 #[.string b, .string y] W (strPost h2 W)) :
    Calls Tryz.prog 124 #[.int .i64 m, .int .i64 n, .bool top, .string first, .slice (some ⟨g, off, none⟩) (q + 1) cap] w (tripPost h h2 f w) := by
  have n1 : ((m : Int) == (n : Int)) = false := by rw [beq_eq_false_iff_ne]; omega
  have m0' : ((q + 1 : Nat) : Int) = (q : Int) + 1 := by omega
  have m1' : ((q : Int) + 1 == 0) = false := by rw [beq_eq_false_iff_ne]; omega
  have m2' : (q : Int) < (q : Int) + 1 := by omega
  have m3' : (q : Int) ≤ (cap : Int) := by omega
  have mk : ¬ (m : Int) ≤ (k : Int) := by omega
  have mk2 : (k : Int) < (m : Int) := by omega
  have mk3 : (m : Int) < (n : Int) := by omega
  have HREC : Hid (∀ W, Below w.heap.size w W → Calls Tryz.prog 124 #[.int .i64 ((m : Int) - (k : Int)), .int .i64 ((n : Int) - (k : Int)), .bool false, .string first, .slice (some ⟨g, off, none⟩) q cap] W (tripPost x y f W)) := hrec
  have HJ0 : Hid (∀ W, Calls Tryz.prog 117 #[.string b, .string x] W (strPost h W)) := hj0
  have HJ1 : Hid (∀ W, Calls Tryz.prog 117 #[.string b, .string y] W (strPost h2 W)) := hj1
  clear hrec hj0 hj1
  go_enter Tryz.func124, Tryz.ntmps124
  go_wp2_with (go_at_call 116; refine (hsp _).mono ?_; rintro e wx ⟨rfl, hwx⟩; obtain rfl : w = wx := hwx.symm; clear hwx)
  refine (HREC.out w (Below.refl _ _)).mono ?_
  rintro e w1 ⟨rfl, hb1⟩
  go_wp2_with fail
  refine (HJ0.out w1).mono ?_
  rintro e w2 ⟨rfl, hbx0⟩
  have hb2 : Below w.heap.size w w2 := hb1.trans (hbx0.mono hb1.size)
  go_wp2_with fail
  refine (HJ1.out w2).mono ?_
  rintro e w3 ⟨rfl, hbx1⟩
  have hb3 : Below w.heap.size w w3 := hb2.trans (hbx1.mono hb2.size)
  go_wp2_with fail
  exact ret_three rfl _ _ _ rfl rfl rfl rfl ⟨rfl, hb3⟩

theorem rgr_any (first : ByteArray) (hf : first.size ≤ 20000) : ∀ (q : Nat) (pf : List ByteArray) (v : Value) (m n : Nat) (top : Bool) (w : World), pf.length = q → q ≤ 1000000 → 0 < m → m ≤ n → n ≤ 2147483647 → LeafAt w v pf → (∀ b ∈ pf, b.size = 32) →
    Calls Tryz.prog 124 #[.int .i64 m, .int .i64 n, .bool top, .string first, v] w (tripPost (grR HR first m n top pf).1 (grR HR first m n top pf).2.1 (grR HR first m n top pf).2.2 w) := by
  intro q
  induction q with
  | zero =>
    intro pf v m n top w hq _ hm0 hmn hn1 hl hb
    obtain rfl : pf = [] := List.eq_nil_of_length_eq_zero hq
    obtain ⟨ao, cap, rfl⟩ := leaf_form hl
    by_cases h1 : m = n
    · subst h1
      cases top
      · rw [grR_all]; exact rgr_notone first m ao 0 cap w (by omega)
      · rw [grR_top]; exact rgr_top first m ao 0 cap w
    · rw [grR_none HR _ _ _ _ h1]; exact rgr_none first m n top ao cap w (by rw [beq_eq_false_iff_ne]; omega)
  | succ q ih =>
    intro pf v m n top w hq hq1 hm0 hmn hn1 hl hb
    obtain ⟨rest, b, rfl⟩ := snoc_of (pf := pf) (by intro e; subst e; simp at hq)
    have hrl : rest.length = q := by simp at hq; exact hq
    obtain ⟨g, off, cap, rfl, hcap, hc⟩ : ∃ g off cap, v = .slice (some ⟨g, off, none⟩) (rest ++ [b]).length cap ∧ (rest ++ [b]).length ≤ cap ∧ ∀ j (h : j < (rest ++ [b]).length), w.cell? ⟨g, off + j, none⟩ = some (.string ((rest ++ [b])[j]'h)) := by
      rcases hl with ⟨e, _⟩ | h
      · simp at e
      · exact h
    have hlen : (rest ++ [b]).length = q + 1 := hq
    have hbr : ∀ x ∈ rest, x.size = 32 := fun x hx => hb x (by simp [hx])
    have hb32 := hb b (by simp)
    by_cases h1 : m = n
    · subst h1
      cases top
      · rw [grR_all]
        by_cases h0 : (rest ++ [b]).length = 1
        · rw [if_pos h0]
          have hr0 : rest = [] := List.eq_nil_of_length_eq_zero (by omega)
          subst hr0
          exact rgr_one first b m g off cap w (by have := hc 0 (by simp); simpa using this)
        · rw [if_neg h0]; exact rgr_notone first m _ _ cap w h0
      · rw [grR_top]
        have := rgr_top first m (some ⟨g, off, none⟩) (rest ++ [b]).length cap w
        rw [show (((rest ++ [b]).length : Int) == 0) = (rest ++ [b]).isEmpty by rw [show (rest ++ [b]).isEmpty = false by simp]; rw [beq_eq_false_iff_ne]; simp; omega] at this
        exact this
    · have h2 : 2 ≤ n := by omega
      have hk0 := halfN_pos n
      have hk1 := halfN_lt h2
      rw [hlen]
      have hcm : w.cell? ⟨g, off + q, none⟩ = some (.string b) := by
        have := hc q (by omega)
        rw [this]; simp [← hrl]
      have lR : ∀ W, Below w.heap.size w W → LeafAt W (.slice (some ⟨g, off, none⟩) q cap) rest := fun W hb => by
        refine LeafAt.below (w := w) ?_ hb
        refine Or.inr ⟨g, off, cap, by rw [hrl], by omega, fun j hj => ?_⟩
        rw [hc j (by simp; omega), List.getElem_append_left hj]
      have hsz := fun m n top => grR_size HR HR_size first hf _ rest m n top rfl hbr
      by_cases hik : m ≤ halfN n
      · rw [grR_left HR _ _ _ _ h1 _ _ hik]
        exact rgr_left first b _ _ _ _ top m n (halfN n) q g off cap w h2 hn1 hk1 (by omega) hik (by omega) (by omega) hcm (fun W => rsplit_any n W h2 hn1)
          (fun W hb => ih rest _ m (halfN n) top W hrl (by omega) hm0 hik (by omega) (lR W hb) hbr)
          (fun W => rjoined_any _ _ W (hsz m (halfN n) top).2 (by omega))
      · rw [grR_right HR _ _ _ _ h1 _ _ hik]
        exact rgr_right first b _ _ _ _ _ top m n (halfN n) q g off cap w h2 hn1 hk1 (by omega) (by omega) (by omega) (by omega) hcm (fun W => rsplit_any n W h2 hn1)
          (fun W hb => by
            have := ih rest (.slice (some ⟨g, off, none⟩) q cap) (m - halfN n) (n - halfN n) false W hrl (by omega) (by omega) (by omega) (by omega) (lR W hb) hbr
            rw [show ((m - halfN n : Nat) : Int) = (m : Int) - (halfN n : Int) by omega, show ((n - halfN n : Nat) : Int) = (n : Int) - (halfN n : Int) by omega] at this
            exact this)
          (fun W => rjoined_any _ _ W (by omega) (hsz (m - halfN n) (n - halfN n) false).1) (fun W => rjoined_any _ _ W (by omega) (hsz (m - halfN n) (n - halfN n) false).2)

def codeV (b : Bool) : Value := .int .i64 (if b then 0 else 14)
def codePost (v : Value) (w : World) (e : Ending) (w' : World) : Prop := e = .returned v ∧ Below w.heap.size w w'
set_option maxRecDepth 10000 in
set_option maxHeartbeats 400000 in
theorem rci_err (s r : ByteArray) (i n : Int) (v : Value) (w : World) (h : i < 0 ∨ n ≤ i ∨ 2147483647 < n) : Calls Tryz.prog 76 #[.string s, .int .i64 i, .int .i64 n, .string r, v] w (codePost (.int .i64 10) w) := by
  by_cases h0 : i < 0
  · clear h
    go_enter Tryz.func76, Tryz.ntmps76
    go_wp2_with fail
    go_ret
    exact ⟨rfl, Below.refl _ _⟩
  · by_cases h1 : n ≤ i
    · clear h
      go_enter Tryz.func76, Tryz.ntmps76
      go_wp2_with fail
      go_ret
      exact ⟨rfl, Below.refl _ _⟩
    · have h2 : 2147483647 < n := by omega
      clear h
      go_enter Tryz.func76, Tryz.ntmps76
      go_wp2_with fail
      go_ret
      exact ⟨rfl, Below.refl _ _⟩
set_option maxRecDepth 10000 in
set_option maxHeartbeats 400000 in
theorem rcc_err (s r : ByteArray) (i n : Int) (v : Value) (w : World) (h : i < 0 ∨ n < i ∨ 2147483647 < n) : Calls Tryz.prog 78 #[.int .i64 i, .int .i64 n, .string s, .string r, v] w (codePost (.int .i64 10) w) := by
  by_cases h0 : i < 0
  · clear h
    go_enter Tryz.func78, Tryz.ntmps78
    go_wp2_with fail
    go_ret
    exact ⟨rfl, Below.refl _ _⟩
  · by_cases h1 : n < i
    · clear h
      go_enter Tryz.func78, Tryz.ntmps78
      go_wp2_with fail
      go_ret
      exact ⟨rfl, Below.refl _ _⟩
    · have h2 : 2147483647 < n := by omega
      clear h
      go_enter Tryz.func78, Tryz.ntmps78
      go_wp2_with fail
      go_ret
      exact ⟨rfl, Below.refl _ _⟩

set_option maxRecDepth 10000 in
set_option maxHeartbeats 1000000 in
theorem rci_any (s r : ByteArray) (i n : Nat) (pf : List ByteArray) (v : Value) (w : World) (hs : s.size ≤ 20000) (hr : r.size ≤ 20000) (hin : i < n) (hn1 : n ≤ 2147483647) (hl : LeafAt w v pf) (hpl : pf.length ≤ 1000000) (hps : ∀ b ∈ pf, b.size ≤ 20000) :
    Calls Tryz.prog 76 #[.string s, .int .i64 i, .int .i64 n, .string r, v] w (codePost (codeV (hashesB pf && ((inR HR (HR (m0 ++ s)) i n pf).2 && decide ((inR HR (HR (m0 ++ s)) i n pf).1 = r)))) w) := by
  have h1 := rhashes_any v pf w hl hpl hps
  have h2 := fun W => rsum (m0 ++ s) W (by rw [ByteArray.size_append, m0_size]; omega)
  have h3 : hashesB pf = true → ∀ W, Below w.heap.size w W → Calls Tryz.prog 122 #[.string (HR (m0 ++ s)), .int .i64 i, .int .i64 n, v] W (pairPost (inR HR (HR (m0 ++ s)) i n pf).1 (inR HR (HR (m0 ++ s)) i n pf).2 W) := fun hh W hb =>
    rin_any (HR (m0 ++ s)) (HR_size _) _ pf v i n W rfl hpl hin hn1 (hl.below hb) ((hashesB_iff pf).1 hh)
  rw [show m0 = ⟨#[0]⟩ from rfl] at h2 h3 ⊢
  obtain ⟨ao, cap, rfl⟩ := leaf_form hl
  generalize hX : inR HR (HR (⟨#[0]⟩ ++ s)) i n pf = X at *
  clear hX
  generalize HR (⟨#[0]⟩ ++ s) = hs0 at *
  obtain ⟨x, ok⟩ := X
  generalize hashesB pf = hh at *
  have H2 : Hid (∀ W, Calls Tryz.prog 30 #[.string (⟨#[0]⟩ ++ s)] W fun e w' => e = .returned (.string hs0) ∧ Below W.heap.size W w') := h2
  have H3 : Hid (hh = true → ∀ W, Below w.heap.size w W → Calls Tryz.prog 122 #[.string hs0, .int .i64 i, .int .i64 n, .slice ao pf.length cap] W (pairPost x ok W)) := h3
  clear h2 h3 hl hps
  generalize pf.length = M at *
  have i0 : ¬ (i : Int) < 0 := by omega
  have i1 : ¬ (n : Int) ≤ (i : Int) := by omega
  have i2 : ¬ (2147483647 : Int) < (n : Int) := by omega
  obtain ⟨c, hc⟩ : ∃ c, c = codeV (hh && ((x, ok).2 && decide ((x, ok).1 = r))) := ⟨_, rfl⟩
  rw [← hc]
  have HC : Hid (c = codeV (hh && (ok && decide (x = r)))) := hc
  clear hc
  cases hh
  · go_enter Tryz.func76, Tryz.ntmps76
    go_wp2_with fail
    refine h1.mono ?_
    rintro e w1 ⟨rfl, hb1⟩
    go_wp2_with fail
    go_ret
    exact ⟨by show Ending.returned (Value.int .i64 14) = _; rw [HC.out]; rfl, hb1⟩
  · go_enter Tryz.func76, Tryz.ntmps76
    go_wp2_with fail
    refine h1.mono ?_
    rintro e w1 ⟨rfl, hb1⟩
    go_wp2_with fail
    refine (H2.out w1).mono ?_
    rintro e w2 ⟨rfl, hb2⟩
    have hB2 : Below w.heap.size w w2 := hb1.trans (hb2.mono hb1.size)
    go_wp2_with fail
    refine (H3.out (by trivial) w2 hB2).mono ?_
    rintro e w3 ⟨rfl, hb3⟩
    have hB3 : Below w.heap.size w w3 := hB2.trans (hb3.mono hB2.size)
    clear h1 H2 H3
    cases ok
    · go_wp2_with fail
      go_ret
      exact ⟨by show Ending.returned (Value.int .i64 14) = _; rw [HC.out]; rfl, hB3⟩
    · by_cases hxr : x = r
      · have HD : Hid (c = .int .i64 0) := by show c = _; rw [HC.out]; simp [codeV, hxr]
        have eb : (x.toList == r.toList) = true := by rw [eqB]; simp [hxr]
        clear hxr HC
        go_wp2_with fail
        go_ret
        exact ⟨by rw [HD.out]; rfl, hB3⟩
      · have HD : Hid (c = .int .i64 14) := by show c = _; rw [HC.out]; simp [codeV, hxr]
        have eb : (x.toList == r.toList) = false := by rw [eqB]; simp [hxr]
        clear hxr HC
        go_wp2_with fail
        go_ret
        exact ⟨by rw [HD.out]; rfl, hB3⟩

set_option maxRecDepth 10000 in
set_option maxHeartbeats 2000000 in
theorem rcc_any (s r : ByteArray) (i n : Nat) (pf : List ByteArray) (v : Value) (w : World) (hs : s.size ≤ 20000) (hr : r.size ≤ 20000) (hin : i ≤ n) (hn1 : n ≤ 2147483647) (hl : LeafAt w v pf) (hpl : pf.length ≤ 1000000) (hps : ∀ b ∈ pf, b.size ≤ 20000) :
    Calls Tryz.prog 78 #[.int .i64 i, .int .i64 n, .string s, .string r, v] w (codePost (codeV (allR HR i n s r pf)) w) := by
  unfold allR
  have h1 := rhashes_any v pf w hl hpl hps
  have h2 := fun W => rsum ⟨#[]⟩ W (by decide)
  have h3 : hashesB pf = true → 0 < i → ∀ W, Below w.heap.size w W → Calls Tryz.prog 124 #[.int .i64 i, .int .i64 n, .bool true, .string s, v] W (tripPost (grR HR s i n true pf).1 (grR HR s i n true pf).2.1 (grR HR s i n true pf).2.2 W) := fun hh h0 W hb =>
    rgr_any s hs _ pf v i n true W rfl hpl h0 hin hn1 (hl.below hb) ((hashesB_iff pf).1 hh)
  obtain ⟨ao, cap, rfl⟩ := leaf_form hl
  generalize grR HR s i n true pf = X at *
  obtain ⟨x, y, ok⟩ := X
  generalize hashesB pf = hh at *
  generalize HR ⟨#[]⟩ = z at *
  have H2 : Hid (∀ W, Calls Tryz.prog 30 #[.string ⟨#[]⟩] W fun e w' => e = .returned (.string z) ∧ Below W.heap.size W w') := h2
  have H3 : Hid (hh = true → 0 < i → ∀ W, Below w.heap.size w W → Calls Tryz.prog 124 #[.int .i64 i, .int .i64 n, .bool true, .string s, .slice ao pf.length cap] W (tripPost x y ok W)) := h3
  clear h2 h3 hl hps
  generalize pf.length = M at *
  have i0 : ¬ (i : Int) < 0 := by omega
  have i1 : ¬ (n : Int) < (i : Int) := by omega
  have i2 : ¬ (2147483647 : Int) < (n : Int) := by omega
  obtain ⟨c, hc⟩ : ∃ c, c = codeV (hh && (if i = 0 then (decide (M = 0) && (decide (s = z) && (decide (n ≠ 0) || decide (r = z)))) else ((x, y, ok).2.2 && (decide ((x, y, ok).1 = s) && (decide ((x, y, ok).2.1 = r) && decide (s.size = 32)))))) := ⟨_, rfl⟩
  rw [← hc]
  have HC : Hid (c = codeV (hh && (if i = 0 then (decide (M = 0) && (decide (s = z) && (decide (n ≠ 0) || decide (r = z)))) else (ok && (decide (x = s) && (decide (y = r) && decide (s.size = 32))))))) := hc
  clear hc
  cases hh
  · have HD : Hid (c = .int .i64 14) := by show c = _; rw [HC.out]; rfl
    clear HC H3 H2
    go_enter Tryz.func78, Tryz.ntmps78
    go_wp2_with fail
    refine h1.mono ?_
    rintro e w1 ⟨rfl, hb1⟩
    go_wp2_with fail
    go_ret
    exact ⟨by rw [HD.out]; rfl, hb1⟩
  · by_cases hi0 : i = 0
    · have z0 : ((i : Int) == 0) = true := by rw [hi0]; rfl
      rw [if_pos hi0] at HC
      clear hi0 H3
      go_enter Tryz.func78, Tryz.ntmps78
      go_wp2_with fail
      refine h1.mono ?_
      rintro e w1 ⟨rfl, hb1⟩
      clear h1
      go_wp2_with fail
      refine (H2.out w1).mono ?_
      rintro e w2 ⟨rfl, hb2⟩
      have hB2 : Below w.heap.size w w2 := hb1.trans (hb2.mono hb1.size)
      clear H2
      by_cases hM : M = 0
      · have m0' : ¬ (0 : Int) < (M : Int) := by omega
        by_cases hsz : s = z
        · have e1 : (s.toList == z.toList) = true := by rw [eqB]; simp [hsz]
          by_cases hn0 : n = 0
          · have n0' : ((n : Int) == 0) = true := by rw [hn0]; rfl
            by_cases hrz : r = z
            · have e2 : (r.toList == z.toList) = true := by rw [eqB]; simp [hrz]
              have HD : Hid (c = .int .i64 0) := by show c = _; rw [HC.out]; simp [codeV, hM, hsz, hrz]
              clear hM hsz hn0 hrz HC
              go_wp2_with fail
              go_ret
              exact ⟨by rw [HD.out]; rfl, hB2⟩
            · have e2 : (r.toList == z.toList) = false := by rw [eqB]; simp [hrz]
              have HD : Hid (c = .int .i64 14) := by show c = _; rw [HC.out]; simp [codeV, hM, hsz, hrz, hn0]
              clear hM hsz hn0 hrz HC
              go_wp2_with fail
              go_ret
              exact ⟨by rw [HD.out]; rfl, hB2⟩
          · have n0' : ((n : Int) == 0) = false := by rw [beq_eq_false_iff_ne]; omega
            have HD : Hid (c = .int .i64 0) := by show c = _; rw [HC.out]; simp [codeV, hM, hsz, hn0]
            clear hM hsz hn0 HC
            go_wp2_with fail
            go_ret
            exact ⟨by rw [HD.out]; rfl, hB2⟩
        · have e1 : (s.toList == z.toList) = false := by rw [eqB]; simp [hsz]
          have HD : Hid (c = .int .i64 14) := by show c = _; rw [HC.out]; simp [codeV, hsz]
          clear hM hsz HC
          go_wp2_with fail
          go_ret
          exact ⟨by rw [HD.out]; rfl, hB2⟩
      · have m0' : (0 : Int) < (M : Int) := by omega
        have HD : Hid (c = .int .i64 14) := by show c = _; rw [HC.out]; simp [codeV, hM]
        clear hM HC
        go_wp2_with fail
        go_ret
        exact ⟨by rw [HD.out]; rfl, hB2⟩
    · have z0 : ((i : Int) == 0) = false := by rw [beq_eq_false_iff_ne]; omega
      have ipos : 0 < i := by omega
      rw [if_neg hi0] at HC
      clear hi0 H2
      go_enter Tryz.func78, Tryz.ntmps78
      go_wp2_with fail
      refine h1.mono ?_
      rintro e w1 ⟨rfl, hb1⟩
      clear h1
      go_wp2_with fail
      refine (H3.out (by trivial) ipos w1 hb1).mono ?_
      rintro e w2 ⟨rfl, hb2⟩
      have hB2 : Below w.heap.size w w2 := hb1.trans (hb2.mono hb1.size)
      clear H3
      cases ok
      · have HD : Hid (c = .int .i64 14) := by show c = _; rw [HC.out]; rfl
        clear HC
        go_wp2_with fail
        go_ret
        exact ⟨by rw [HD.out]; rfl, hB2⟩
      · by_cases hxs : x = s
        · have e1 : (x.toList == s.toList) = true := by rw [eqB]; simp [hxs]
          by_cases hyr : y = r
          · have e2 : (y.toList == r.toList) = true := by rw [eqB]; simp [hyr]
            by_cases h32 : s.size = 32
            · have s32 : ((s.size : Int) != 32) = false := by rw [h32]; rfl
              have HD : Hid (c = .int .i64 0) := by show c = _; rw [HC.out]; simp [codeV, hxs, hyr, h32]
              clear hxs hyr h32 HC
              go_wp2_with fail
              go_ret
              exact ⟨by rw [HD.out]; rfl, hB2⟩
            · have s32 : ((s.size : Int) != 32) = true := by rw [bne_iff_ne]; omega
              have HD : Hid (c = .int .i64 14) := by show c = _; rw [HC.out]; simp [codeV, h32]
              clear hxs hyr h32 HC
              go_wp2_with fail
              go_ret
              exact ⟨by rw [HD.out]; rfl, hB2⟩
          · have e2 : (y.toList == r.toList) = false := by rw [eqB]; simp [hyr]
            have HD : Hid (c = .int .i64 14) := by show c = _; rw [HC.out]; simp [codeV, hyr]
            clear hxs hyr HC
            go_wp2_with fail
            go_ret
            exact ⟨by rw [HD.out]; rfl, hB2⟩
        · have e1 : (x.toList == s.toList) = false := by rw [eqB]; simp [hxs]
          have HD : Hid (c = .int .i64 14) := by show c = _; rw [HC.out]; simp [codeV, hxs]
          clear hxs HC
          go_wp2_with fail
          go_ret
          exact ⟨by rw [HD.out]; rfl, hB2⟩
end Go.Proofs.YtijdnpoenpjnlaaGreatDoor
set_option linter.unusedVariables false
set_option linter.unusedSimpArgs false
namespace Go.Proofs.YtijdnpoenpjnlaaGreatDoor
open Go.RowKit


set_option maxRecDepth 10000 in
set_option maxHeartbeats 400000 in
theorem cin_gen (s r : ByteArray) (i n : Int) (v : Value) (ls : List ByteArray) (ev : Value) (cv : Int) (w : World) (hl : LeafAt w v ls) (hn : ls.length ≤ 1000000)
    (hP : ∀ W (H : HandAt w.heap.size W ls) (hb : Below w.heap.size w W), Calls Tryz.prog 75 #[.string s, .int .i64 i, .int .i64 n, .string r, .slice (some ⟨w.heap.size, 0, none⟩) ls.length (ls.length + 2)] W fun e w' => e = .returned ev ∧ Below W.heap.size W w')
    (hR : ∀ W (hb : Below w.heap.size w W), Calls Tryz.prog 76 #[.string s, .int .i64 i, .int .i64 n, .string r, v] W (codePost (.int .i64 cv) W))
    (hT : ∀ W (hb : Below w.heap.size w W), Calls Tryz.prog 61 #[ev, .int .i64 cv] W fun e w' => e = .returned (.bool true) ∧ Below W.heap.size W w') :
    Calls Tryz.prog 36 #[.string s, .int .i64 i, .int .i64 n, .string r, v] w fun e w' => e = .returned (.bool true) ∧ Below w.heap.size w w' := by
  have h1 := handed_any v ls w hl hn
  have h3 := fun W (H : HandAt w.heap.size W ls) (hb : Below w.heap.size w W) => still_any w.heap.size v ls W H (hl.below hb) hn
  obtain ⟨ao, cap, rfl⟩ := leaf_form hl
  have HP : Hid (∀ W (H : HandAt w.heap.size W ls) (hb : Below w.heap.size w W), Calls Tryz.prog 75 #[.string s, .int .i64 i, .int .i64 n, .string r, .slice (some ⟨w.heap.size, 0, none⟩) ls.length (ls.length + 2)] W fun e w' => e = .returned ev ∧ Below W.heap.size W w') := hP
  have HRR : Hid (∀ W (hb : Below w.heap.size w W), Calls Tryz.prog 76 #[.string s, .int .i64 i, .int .i64 n, .string r, .slice ao ls.length cap] W (codePost (.int .i64 cv) W)) := hR
  have HT : Hid (∀ W (hb : Below w.heap.size w W), Calls Tryz.prog 61 #[ev, .int .i64 cv] W fun e w' => e = .returned (.bool true) ∧ Below W.heap.size W w') := hT
  have H3 : Hid (∀ W (H : HandAt w.heap.size W ls) (hb : Below w.heap.size w W), Calls Tryz.prog 67 #[.slice (some ⟨w.heap.size, 0, none⟩) ls.length (ls.length + 2), .slice ao ls.length cap] W fun e w' => e = .returned (.bool true) ∧ W.grownBy w' (some w.heap.size)) := h3
  clear hP hR hT h3 hl
  go_enter Tryz.func36, Tryz.ntmps36
  go_wp2_with fail
  refine h1.mono ?_
  rintro e w1 ⟨rfl, K1, hb1⟩
  clear h1
  go_wp2_with fail
  refine (HP.out w1 K1 hb1).mono ?_
  rintro e w2 ⟨rfl, hb2⟩
  have hB2 : Below w.heap.size w w2 := hb1.trans (hb2.mono hb1.size)
  go_wp2_with fail
  refine (H3.out w2 (K1.below hb2) hB2).mono ?_
  rintro e w3 ⟨rfl, ho3⟩
  have hB3 : Below w.heap.size w w3 := below_off hB2 ho3 (Nat.le_refl _) hB2.size
  go_wp2_with fail
  refine (HRR.out w3 hB3).mono ?_
  rintro e w4 ⟨rfl, hb4⟩
  have hB4 : Below w.heap.size w w4 := hB3.trans (hb4.mono hB3.size)
  go_wp2_with fail
  refine (HT.out w4 hB4).mono ?_
  rintro e w5 ⟨rfl, hb5⟩
  go_wp2_with fail
  go_ret
  exact ⟨rfl, hB4.trans (hb5.mono hB4.size)⟩

set_option maxRecDepth 10000 in
set_option maxHeartbeats 400000 in
theorem cin_err (s r : ByteArray) (i n : Int) (v : Value) (w : World) (h : i < 0 ∨ n ≤ i ∨ 2147483647 < n) : Calls Tryz.prog 75 #[.string s, .int .i64 i, .int .i64 n, .string r, v] w fun e w' => e = .returned errIx ∧ Below w.heap.size w w' := by
  have ht : Calls Tryz.prog 120 #[.string s, .int .i64 i, .int .i64 n, .string r, v] w fun e w' => e = .returned errIx ∧ Below w.heap.size w w' := by
    by_cases h0 : i < 0
    · clear h
      go_enter Tryz.func120, Tryz.ntmps120
      go_wp2_with fail
      go_ret
      exact ⟨rfl, Below.refl _ _⟩
    · by_cases h1 : n ≤ i
      · clear h
        go_enter Tryz.func120, Tryz.ntmps120
        go_wp2_with fail
        go_ret
        exact ⟨rfl, Below.refl _ _⟩
      · have h2 : 2147483647 < n := by omega
        clear h
        go_enter Tryz.func120, Tryz.ntmps120
        go_wp2_with fail
        go_ret
        exact ⟨rfl, Below.refl _ _⟩
  clear h
  generalize errIx = ev at *
  go_enter Tryz.func75, Tryz.ntmps75
  go_wp2_with fail
  refine ht.mono ?_
  rintro e w1 ⟨rfl, hb1⟩
  clear ht
  go_wp2_with fail
  go_ret
  exact ⟨rfl, hb1⟩

set_option maxRecDepth 10000 in
set_option maxHeartbeats 400000 in
theorem call_gen (s r : ByteArray) (i n : Int) (v : Value) (ls : List ByteArray) (ev : Value) (cv : Int) (w : World) (hl : LeafAt w v ls) (hn : ls.length ≤ 1000000)
    (hP : ∀ W (H : HandAt w.heap.size W ls) (hb : Below w.heap.size w W), Calls Tryz.prog 77 #[.int .i64 i, .int .i64 n, .string s, .string r, .slice (some ⟨w.heap.size, 0, none⟩) ls.length (ls.length + 2)] W fun e w' => e = .returned ev ∧ Below W.heap.size W w')
    (hR : ∀ W (hb : Below w.heap.size w W), Calls Tryz.prog 78 #[.int .i64 i, .int .i64 n, .string s, .string r, v] W (codePost (.int .i64 cv) W))
    (hT : ∀ W (hb : Below w.heap.size w W), Calls Tryz.prog 61 #[ev, .int .i64 cv] W fun e w' => e = .returned (.bool true) ∧ Below W.heap.size W w') :
    Calls Tryz.prog 37 #[.int .i64 i, .int .i64 n, .string s, .string r, v] w fun e w' => e = .returned (.bool true) ∧ Below w.heap.size w w' := by
  have h1 := handed_any v ls w hl hn
  have h3 := fun W (H : HandAt w.heap.size W ls) (hb : Below w.heap.size w W) => still_any w.heap.size v ls W H (hl.below hb) hn
  obtain ⟨ao, cap, rfl⟩ := leaf_form hl
  have HP : Hid (∀ W (H : HandAt w.heap.size W ls) (hb : Below w.heap.size w W), Calls Tryz.prog 77 #[.int .i64 i, .int .i64 n, .string s, .string r, .slice (some ⟨w.heap.size, 0, none⟩) ls.length (ls.length + 2)] W fun e w' => e = .returned ev ∧ Below W.heap.size W w') := hP
  have HRR : Hid (∀ W (hb : Below w.heap.size w W), Calls Tryz.prog 78 #[.int .i64 i, .int .i64 n, .string s, .string r, .slice ao ls.length cap] W (codePost (.int .i64 cv) W)) := hR
  have HT : Hid (∀ W (hb : Below w.heap.size w W), Calls Tryz.prog 61 #[ev, .int .i64 cv] W fun e w' => e = .returned (.bool true) ∧ Below W.heap.size W w') := hT
  have H3 : Hid (∀ W (H : HandAt w.heap.size W ls) (hb : Below w.heap.size w W), Calls Tryz.prog 67 #[.slice (some ⟨w.heap.size, 0, none⟩) ls.length (ls.length + 2), .slice ao ls.length cap] W fun e w' => e = .returned (.bool true) ∧ W.grownBy w' (some w.heap.size)) := h3
  clear hP hR hT h3 hl
  go_enter Tryz.func37, Tryz.ntmps37
  go_wp2_with fail
  refine h1.mono ?_
  rintro e w1 ⟨rfl, K1, hb1⟩
  clear h1
  go_wp2_with fail
  refine (HP.out w1 K1 hb1).mono ?_
  rintro e w2 ⟨rfl, hb2⟩
  have hB2 : Below w.heap.size w w2 := hb1.trans (hb2.mono hb1.size)
  go_wp2_with fail
  refine (H3.out w2 (K1.below hb2) hB2).mono ?_
  rintro e w3 ⟨rfl, ho3⟩
  have hB3 : Below w.heap.size w w3 := below_off hB2 ho3 (Nat.le_refl _) hB2.size
  go_wp2_with fail
  refine (HRR.out w3 hB3).mono ?_
  rintro e w4 ⟨rfl, hb4⟩
  have hB4 : Below w.heap.size w w4 := hB3.trans (hb4.mono hB3.size)
  go_wp2_with fail
  refine (HT.out w4 hB4).mono ?_
  rintro e w5 ⟨rfl, hb5⟩
  go_wp2_with fail
  go_ret
  exact ⟨rfl, hB4.trans (hb5.mono hB4.size)⟩

set_option maxRecDepth 10000 in
set_option maxHeartbeats 400000 in
theorem call_err (s r : ByteArray) (i n : Int) (v : Value) (w : World) (h : i < 0 ∨ n < i ∨ 2147483647 < n) : Calls Tryz.prog 77 #[.int .i64 i, .int .i64 n, .string s, .string r, v] w fun e w' => e = .returned errIx ∧ Below w.heap.size w w' := by
  have ht : Calls Tryz.prog 123 #[.int .i64 i, .int .i64 n, .string s, .string r, v] w fun e w' => e = .returned errIx ∧ Below w.heap.size w w' := by
    by_cases h0 : i < 0
    · clear h
      go_enter Tryz.func123, Tryz.ntmps123
      go_wp2_with fail
      go_ret
      exact ⟨rfl, Below.refl _ _⟩
    · by_cases h1 : n < i
      · clear h
        go_enter Tryz.func123, Tryz.ntmps123
        go_wp2_with fail
        go_ret
        exact ⟨rfl, Below.refl _ _⟩
      · have h2 : 2147483647 < n := by omega
        clear h
        go_enter Tryz.func123, Tryz.ntmps123
        go_wp2_with fail
        go_ret
        exact ⟨rfl, Below.refl _ _⟩
  clear h
  generalize errIx = ev at *
  go_enter Tryz.func77, Tryz.ntmps77
  go_wp2_with fail
  refine ht.mono ?_
  rintro e w1 ⟨rfl, hb1⟩
  clear ht
  go_wp2_with fail
  go_ret
  exact ⟨rfl, hb1⟩

/-- What the law's told says of the two answers. -/
theorem told_err (p : Nat) (c : Int) (w W : World) (hc : c ≠ 0) (G : Glob p w) (hp : p < w.heap.size) (hb : Below w.heap.size w W) : Calls Tryz.prog 61 #[.iface 138 (.int .i64 c), .int .i64 c] W fun e w' => e = .returned (.bool true) ∧ Below W.heap.size W w' := by
  have GW := G.below (hb.mono (Nat.le_of_lt hp))
  refine (ltold_hit c c W GW.err (by have := GW.le; have := hb.size; omega)).mono fun e w' ⟨h1, h2⟩ => ⟨?_, h2⟩
  rw [h1]; simp [hc]
theorem told_ok (W : World) : Calls Tryz.prog 61 #[.nilIface, .int .i64 0] W fun e w' => e = .returned (.bool true) ∧ Below W.heap.size W w' :=
  (ltold_nil 0 W).mono fun e w' ⟨h1, h2⟩ => ⟨by rw [h1]; rfl, by rw [h2]; exact Below.refl _ _⟩
theorem told_chk (p : Nat) (ok : Bool) (w W : World) (G : Glob p w) (hp : p < w.heap.size) (hb : Below w.heap.size w W) : Calls Tryz.prog 61 #[chkV ok, .int .i64 (if ok then 0 else 14)] W fun e w' => e = .returned (.bool true) ∧ Below W.heap.size W w' := by
  cases ok
  · exact told_err p 14 w W (by decide) G hp hb
  · exact told_ok W

theorem checkedIn_any (p : Nat) (s r : ByteArray) (i n : Int) (v : Value) (ls : List ByteArray) (w : World) (G : Glob p w) (hp : p < w.heap.size) (hl : LeafAt w v ls) (hn : ls.length ≤ 1000000) (hs : ∀ b ∈ ls, b.size ≤ 20000) (h1 : s.size ≤ 20000) (h2 : r.size ≤ 20000) :
    Calls Tryz.prog 36 #[.string s, .int .i64 i, .int .i64 n, .string r, v] w fun e w' => e = .returned (.bool true) ∧ Below w.heap.size w w' := by
  by_cases hc : i < 0 ∨ n ≤ i ∨ 2147483647 < n
  · exact cin_gen s r i n v ls errIx 10 w hl hn (fun W H hb => cin_err s r i n _ W hc) (fun W hb => rci_err s r i n v W hc) (fun W hb => told_err p 10 w W (by decide) G hp hb)
  · obtain ⟨i', rfl⟩ : ∃ q : Nat, i = q := ⟨i.toNat, by omega⟩
    obtain ⟨n', rfl⟩ : ∃ q : Nat, n = q := ⟨n.toNat, by omega⟩
    refine cin_gen s r i' n' v ls (chkV (inclOk kT s i' n' r ls)) (if inclOk kT s i' n' r ls then 0 else 14) w hl hn (fun W H hb => achk_any kT s r i' n' ls _ W (by omega) (by omega) (by omega) H.leaf (by omega) ((G.tab hp).below hb)) (fun W hb => ?_) (fun W hb => told_chk p _ w W G hp hb)
    have := rci_any s r i' n' ls v W h1 h2 (by omega) (by omega) (hl.below hb) hn hs
    rw [incl_same]
    exact this
theorem checkedAll_any (p : Nat) (s r : ByteArray) (i n : Int) (v : Value) (ls : List ByteArray) (w : World) (G : Glob p w) (hp : p < w.heap.size) (hl : LeafAt w v ls) (hn : ls.length ≤ 1000000) (hs : ∀ b ∈ ls, b.size ≤ 20000) (h1 : s.size ≤ 20000) (h2 : r.size ≤ 20000) :
    Calls Tryz.prog 37 #[.int .i64 i, .int .i64 n, .string s, .string r, v] w fun e w' => e = .returned (.bool true) ∧ Below w.heap.size w w' := by
  by_cases hc : i < 0 ∨ n < i ∨ 2147483647 < n
  · exact call_gen s r i n v ls errIx 10 w hl hn (fun W H hb => call_err s r i n _ W hc) (fun W hb => rcc_err s r i n v W hc) (fun W hb => told_err p 10 w W (by decide) G hp hb)
  · obtain ⟨i', rfl⟩ : ∃ q : Nat, i = q := ⟨i.toNat, by omega⟩
    obtain ⟨n', rfl⟩ : ∃ q : Nat, n = q := ⟨n.toNat, by omega⟩
    refine call_gen s r i' n' v ls (chkV (consOk kT i' n' s r ls)) (if consOk kT i' n' s r ls then 0 else 14) w hl hn (fun W H hb => ccon_all kT s r i' n' ls _ W (by omega) (by omega) H.leaf (by omega) ((G.tab hp).below hb)) (fun W hb => ?_) (fun W hb => told_chk p _ w W G hp hb)
    have := rcc_any s r i' n' ls v W h1 h2 (by omega) (by omega) (hl.below hb) hn hs
    rw [cons_same]
    exact this
end Go.Proofs.YtijdnpoenpjnlaaGreatDoor
