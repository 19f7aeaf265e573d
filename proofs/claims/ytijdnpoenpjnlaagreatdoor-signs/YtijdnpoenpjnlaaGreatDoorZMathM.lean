import Derived.Test.YtijdnpoenpjnlaaGreatDoorGRegM
import Derived.Test.YtijdnpoenpjnlaaGreatDoorTReadM
import Derived.Test.YtijdnpoenpjnlaaGreatDoorTPathM
import Derived.Test.YtijdnpoenpjnlaaGreatDoorQChainM
import Derived.Test.YtijdnpoenpjnlaaGreatDoorROwner3
set_option linter.unusedVariables false
set_option linter.unusedSimpArgs false
namespace Go.Proofs.YtijdnpoenpjnlaaGreatDoor

/-- What the reference makes of a leaf's hash by a proof. -/
def inR (H : ByteArray → ByteArray) (h : ByteArray) (i n : Nat) (pf : List ByteArray) : ByteArray × Bool :=
  if n = 1 then (h, pf.isEmpty) else
  match hh : pf.getLast? with
  | none => (⟨#[]⟩, false)
  | some b => if i < halfN n then (H (m1 ++ (inR H h i (halfN n) pf.dropLast).1 ++ b), (inR H h i (halfN n) pf.dropLast).2)
      else (H (m1 ++ b ++ (inR H h (i - halfN n) (n - halfN n) pf.dropLast).1), (inR H h (i - halfN n) (n - halfN n) pf.dropLast).2)
  termination_by pf.length
  decreasing_by all_goals (have : pf ≠ [] := by intro e; rw [e] at hh; simp at hh) <;> (have := List.length_pos_iff.2 this) <;> simp <;> omega
theorem inR_one (H : ByteArray → ByteArray) (h : ByteArray) (i : Nat) (pf : List ByteArray) : inR H h i 1 pf = (h, pf.isEmpty) := by rw [inR, if_pos rfl]
theorem inR_none (H : ByteArray → ByteArray) (h : ByteArray) (i n : Nat) (hn : n ≠ 1) : inR H h i n [] = (⟨#[]⟩, false) := by rw [inR, if_neg hn]; rfl
theorem inR_left (H : ByteArray → ByteArray) (h : ByteArray) (i n : Nat) (hn : n ≠ 1) (pf : List ByteArray) (b : ByteArray) (hi : i < halfN n) :
    inR H h i n (pf ++ [b]) = (H (m1 ++ (inR H h i (halfN n) pf).1 ++ b), (inR H h i (halfN n) pf).2) := by
  rw [inR, if_neg hn]
  split
  · rename_i h; rw [List.getLast?_concat] at h; cases h
  · rename_i b' h
    rw [List.getLast?_concat] at h
    obtain rfl := Option.some.inj h
    rw [if_pos hi, List.dropLast_concat]
theorem inR_right (H : ByteArray → ByteArray) (h : ByteArray) (i n : Nat) (hn : n ≠ 1) (pf : List ByteArray) (b : ByteArray) (hi : ¬ i < halfN n) :
    inR H h i n (pf ++ [b]) = (H (m1 ++ b ++ (inR H h (i - halfN n) (n - halfN n) pf).1), (inR H h (i - halfN n) (n - halfN n) pf).2) := by
  rw [inR, if_neg hn]
  split
  · rename_i h; rw [List.getLast?_concat] at h; cases h
  · rename_i b' h
    rw [List.getLast?_concat] at h
    obtain rfl := Option.some.inj h
    rw [if_neg hi, List.dropLast_concat]
theorem inR_size (H : ByteArray → ByteArray) (hH : ∀ s, (H s).size = 32) (h : ByteArray) (hh : h.size = 32) (i n : Nat) (pf : List ByteArray) : (inR H h i n pf).1.size ≤ 32 := by
  rw [inR]
  split
  · show h.size ≤ 32; omega
  · split
    · show (0 : Nat) ≤ 32; omega
    · split
      · show (H _).size ≤ 32; rw [hH]; omega
      · show (H _).size ≤ 32; rw [hH]; omega
theorem in_climb (H : ByteArray → ByteArray) (leaf : ByteArray) : ∀ (q : Nat) (pf : List ByteArray) (i n : Nat), pf.length = q → (∀ b ∈ pf, b.size = 32) → (climbF H leaf i n pf).2 = (inR H (H (m0 ++ leaf)) i n pf).2 ∧ ((inR H (H (m0 ++ leaf)) i n pf).2 = true → (climbF H leaf i n pf).1 = (inR H (H (m0 ++ leaf)) i n pf).1) := by
  intro q
  induction q with
  | zero =>
    intro pf i n hq hb
    obtain rfl := List.eq_nil_of_length_eq_zero hq
    by_cases h1 : n = 1
    · subst h1; rw [climbF_one, inR_one]; exact ⟨rfl, fun _ => rfl⟩
    · rw [climbF_none H _ _ _ h1, inR_none H _ _ _ h1]; exact ⟨rfl, fun h => by cases h⟩
  | succ q ih =>
    intro pf i n hq hb
    obtain ⟨rest, b, rfl⟩ := snoc_of (pf := pf) (by intro e; subst e; simp at hq)
    have hr : rest.length = q := by simp at hq; exact hq
    by_cases h1 : n = 1
    · subst h1; rw [climbF_one, inR_one]; exact ⟨rfl, fun _ => rfl⟩
    · have hb32 := hb b (by simp)
      have hbr : ∀ x ∈ rest, x.size = 32 := fun x hx => hb x (by simp [hx])
      by_cases hik : i < halfN n
      · rw [climbF_left H _ _ _ h1 _ _ hb32 hik, inR_left H _ _ _ h1 _ _ hik]
        have := ih rest i (halfN n) hr hbr
        exact ⟨this.1, fun h => by show H _ = H _; rw [this.2 h]⟩
      · rw [climbF_right H _ _ _ h1 _ _ hb32 hik, inR_right H _ _ _ h1 _ _ hik]
        have := ih rest (i - halfN n) (n - halfN n) hr hbr
        exact ⟨this.1, fun h => by show H _ = H _; rw [this.2 h]⟩
theorem climb_hashes (H : ByteArray → ByteArray) (leaf : ByteArray) : ∀ (q : Nat) (pf : List ByteArray) (i n : Nat), pf.length = q → (climbF H leaf i n pf).2 = true → ∀ b ∈ pf, b.size = 32 := by
  intro q
  induction q with
  | zero => intro pf i n hq _ b hb; obtain rfl := List.eq_nil_of_length_eq_zero hq; cases hb
  | succ q ih =>
    intro pf i n hq hf x hx
    obtain ⟨rest, b, rfl⟩ := snoc_of (pf := pf) (by intro e; subst e; simp at hq)
    have hr : rest.length = q := by simp at hq; exact hq
    by_cases h1 : n = 1
    · subst h1; rw [climbF_one] at hf; simp at hf
    · by_cases hb : b.size = 32
      · have hrest : ∀ y ∈ rest, y.size = 32 := by
          by_cases hik : i < halfN n
          · rw [climbF_left H _ _ _ h1 _ _ hb hik] at hf; exact ih rest _ _ hr hf
          · rw [climbF_right H _ _ _ h1 _ _ hb hik] at hf; exact ih rest _ _ hr hf
        rcases List.mem_append.1 hx with hx | hx
        · exact hrest x hx
        · simp at hx; rw [hx]; exact hb
      · rw [climbF_bad H _ _ _ h1 _ _ hb] at hf; cases hf
def hashesB (pf : List ByteArray) : Bool := pf.all fun b => decide (b.size = 32)
theorem hashesB_iff (pf : List ByteArray) : hashesB pf = true ↔ ∀ b ∈ pf, b.size = 32 := by unfold hashesB; simp
/-- The reference's answer is the check's. -/
theorem incl_same (K : Nat → Int) (s r : ByteArray) (i n : Nat) (pf : List ByteArray) : inclOk K s i n r pf = (hashesB pf && ((inR (sumOf K) (sumOf K (m0 ++ s)) i n pf).2 && decide ((inR (sumOf K) (sumOf K (m0 ++ s)) i n pf).1 = r))) := by
  rw [Bool.eq_iff_iff]
  unfold inclOk
  simp only [Bool.and_eq_true, decide_eq_true_eq]
  constructor
  · rintro ⟨h1, h2, h3⟩
    have hh := climb_hashes (sumOf K) s _ pf i n rfl h2
    have := in_climb (sumOf K) s _ pf i n rfl hh
    refine ⟨(hashesB_iff pf).2 hh, by rw [← this.1]; exact h2, ?_⟩
    rw [← this.2 (by rw [← this.1]; exact h2)]; exact h3
  · rintro ⟨h1, h2, h3⟩
    have hh := (hashesB_iff pf).1 h1
    have := in_climb (sumOf K) s _ pf i n rfl hh
    have e := this.2 h2
    refine ⟨by rw [← h3, ← e]; exact climbF_size _ (sumOf_size K) _ _ _ _, by rw [this.1]; exact h2, by rw [e]; exact h3⟩

/-- Both roots that the reference makes of a proof. -/
def grR (H : ByteArray → ByteArray) (first : ByteArray) (m n : Nat) (top : Bool) (pf : List ByteArray) : ByteArray × ByteArray × Bool :=
  if m = n then (if top then (first, first, pf.isEmpty) else if pf.length = 1 then (pf.headD ⟨#[]⟩, pf.headD ⟨#[]⟩, true) else (⟨#[]⟩, ⟨#[]⟩, false)) else
  match hh : pf.getLast? with
  | none => (⟨#[]⟩, ⟨#[]⟩, false)
  | some b => if m ≤ halfN n then ((grR H first m (halfN n) top pf.dropLast).1, H (m1 ++ (grR H first m (halfN n) top pf.dropLast).2.1 ++ b), (grR H first m (halfN n) top pf.dropLast).2.2)
      else (H (m1 ++ b ++ (grR H first (m - halfN n) (n - halfN n) false pf.dropLast).1), H (m1 ++ b ++ (grR H first (m - halfN n) (n - halfN n) false pf.dropLast).2.1), (grR H first (m - halfN n) (n - halfN n) false pf.dropLast).2.2)
  termination_by pf.length
  decreasing_by all_goals (have : pf ≠ [] := by intro e; rw [e] at hh; simp at hh) <;> (have := List.length_pos_iff.2 this) <;> simp <;> omega
theorem grR_top (H : ByteArray → ByteArray) (first : ByteArray) (n : Nat) (pf : List ByteArray) : grR H first n n true pf = (first, first, pf.isEmpty) := by rw [grR, if_pos rfl, if_pos rfl]
theorem grR_all (H : ByteArray → ByteArray) (first : ByteArray) (n : Nat) (pf : List ByteArray) : grR H first n n false pf = if pf.length = 1 then (pf.headD ⟨#[]⟩, pf.headD ⟨#[]⟩, true) else (⟨#[]⟩, ⟨#[]⟩, false) := by rw [grR, if_pos rfl, if_neg (by simp)]
theorem grR_none (H : ByteArray → ByteArray) (first : ByteArray) (m n : Nat) (top : Bool) (hn : m ≠ n) : grR H first m n top [] = (⟨#[]⟩, ⟨#[]⟩, false) := by rw [grR, if_neg hn]; rfl
theorem grR_left (H : ByteArray → ByteArray) (first : ByteArray) (m n : Nat) (top : Bool) (hn : m ≠ n) (pf : List ByteArray) (b : ByteArray) (hi : m ≤ halfN n) :
    grR H first m n top (pf ++ [b]) = ((grR H first m (halfN n) top pf).1, H (m1 ++ (grR H first m (halfN n) top pf).2.1 ++ b), (grR H first m (halfN n) top pf).2.2) := by
  rw [grR, if_neg hn]
  split
  · rename_i h; rw [List.getLast?_concat] at h; cases h
  · rename_i b' h
    rw [List.getLast?_concat] at h
    obtain rfl := Option.some.inj h
    rw [if_pos hi, List.dropLast_concat]
theorem grR_right (H : ByteArray → ByteArray) (first : ByteArray) (m n : Nat) (top : Bool) (hn : m ≠ n) (pf : List ByteArray) (b : ByteArray) (hi : ¬ m ≤ halfN n) :
    grR H first m n top (pf ++ [b]) = (H (m1 ++ b ++ (grR H first (m - halfN n) (n - halfN n) false pf).1), H (m1 ++ b ++ (grR H first (m - halfN n) (n - halfN n) false pf).2.1), (grR H first (m - halfN n) (n - halfN n) false pf).2.2) := by
  rw [grR, if_neg hn]
  split
  · rename_i h; rw [List.getLast?_concat] at h; cases h
  · rename_i b' h
    rw [List.getLast?_concat] at h
    obtain rfl := Option.some.inj h
    rw [if_neg hi, List.dropLast_concat]
theorem empty_le : (⟨#[]⟩ : ByteArray).size ≤ 20000 := Nat.zero_le _
theorem grR_size (H : ByteArray → ByteArray) (hH : ∀ s, (H s).size = 32) (first : ByteArray) (hf : first.size ≤ 20000) : ∀ (q : Nat) (pf : List ByteArray) (m n : Nat) (top : Bool), pf.length = q → (∀ b ∈ pf, b.size = 32) → (grR H first m n top pf).1.size ≤ 20000 ∧ (grR H first m n top pf).2.1.size ≤ 20000 := by
  intro q
  induction q with
  | zero =>
    intro pf m n top hq hb
    obtain rfl := List.eq_nil_of_length_eq_zero hq
    by_cases h1 : m = n
    · subst h1
      cases top
      · rw [grR_all]; exact ⟨empty_le, empty_le⟩
      · rw [grR_top]; exact ⟨hf, hf⟩
    · rw [grR_none H _ _ _ _ h1]; exact ⟨empty_le, empty_le⟩
  | succ q ih =>
    intro pf m n top hq hb
    obtain ⟨rest, b, rfl⟩ := snoc_of (pf := pf) (by intro e; subst e; simp at hq)
    have hr : rest.length = q := by simp at hq; exact hq
    by_cases h1 : m = n
    · subst h1
      cases top
      · rw [grR_all]
        split
        · have hh : ((rest ++ [b]).headD ⟨#[]⟩).size = 32 := by
            cases rest with
            | nil => exact hb b (by simp)
            | cons x r => exact hb x (by simp)
          exact ⟨by show ((rest ++ [b]).headD ⟨#[]⟩).size ≤ 20000; omega, by show ((rest ++ [b]).headD ⟨#[]⟩).size ≤ 20000; omega⟩
        · exact ⟨empty_le, empty_le⟩
      · rw [grR_top]; exact ⟨hf, hf⟩
    · by_cases hi : m ≤ halfN n
      · rw [grR_left H _ _ _ _ h1 _ _ hi]
        exact ⟨(ih rest m (halfN n) top hr (fun x hx => hb x (by simp [hx]))).1, by show (H _).size ≤ _; rw [hH]; omega⟩
      · rw [grR_right H _ _ _ _ h1 _ _ hi]
        constructor <;> show (H _).size ≤ _ <;> rw [hH] <;> omega
theorem gr_reg (H : ByteArray → ByteArray) (first : ByteArray) : ∀ (q : Nat) (pf : List ByteArray) (m n : Nat) (top : Bool), pf.length = q → (∀ b ∈ pf, b.size = 32) → (regF H first m n top pf).2.2 = (grR H first m n top pf).2.2 ∧ ((grR H first m n top pf).2.2 = true → (regF H first m n top pf).1 = (grR H first m n top pf).1 ∧ (regF H first m n top pf).2.1 = (grR H first m n top pf).2.1) := by
  intro q
  induction q with
  | zero =>
    intro pf m n top hq hb
    obtain rfl := List.eq_nil_of_length_eq_zero hq
    by_cases h1 : m = n
    · subst h1
      cases top
      · rw [grR_all, regF_none H _ _ _ _ (by simp)]; exact ⟨rfl, fun h => by cases h⟩
      · rw [grR_top, regF_whole]; exact ⟨rfl, fun _ => ⟨rfl, rfl⟩⟩
    · rw [grR_none H _ _ _ _ h1, regF_none H _ _ _ _ (fun h => h1 h.1)]; exact ⟨rfl, fun h => by cases h⟩
  | succ q ih =>
    intro pf m n top hq hb
    obtain ⟨rest, b, rfl⟩ := snoc_of (pf := pf) (by intro e; subst e; simp at hq)
    have hr : rest.length = q := by simp at hq; exact hq
    have hb32 := hb b (by simp)
    have hbr : ∀ x ∈ rest, x.size = 32 := fun x hx => hb x (by simp [hx])
    by_cases h1 : m = n
    · subst h1
      cases top
      · rw [grR_all, regF_all H _ _ _ _ hb32]
        cases rest with
        | nil => exact ⟨rfl, fun _ => ⟨rfl, rfl⟩⟩
        | cons x r =>
          rw [if_neg (by simp)]
          exact ⟨rfl, fun h => by cases h⟩
      · rw [grR_top, regF_whole]; exact ⟨rfl, fun _ => ⟨rfl, rfl⟩⟩
    · by_cases hi : m ≤ halfN n
      · rw [grR_left H _ _ _ _ h1 _ _ hi, regF_left H _ _ _ _ h1 _ _ hb32 hi]
        have := ih rest m (halfN n) top hr hbr
        exact ⟨this.1, fun h => ⟨(this.2 h).1, by show H _ = H _; rw [(this.2 h).2]⟩⟩
      · rw [grR_right H _ _ _ _ h1 _ _ hi, regF_right H _ _ _ _ h1 _ _ hb32 hi]
        have := ih rest (m - halfN n) (n - halfN n) false hr hbr
        exact ⟨this.1, fun h => ⟨by show H _ = H _; rw [(this.2 h).1], by show H _ = H _; rw [(this.2 h).2]⟩⟩
theorem reg_hashes (H : ByteArray → ByteArray) (first : ByteArray) : ∀ (q : Nat) (pf : List ByteArray) (m n : Nat) (top : Bool), pf.length = q → (regF H first m n top pf).2.2 = true → ∀ b ∈ pf, b.size = 32 := by
  intro q
  induction q with
  | zero => intro pf m n top hq _ b hb; obtain rfl := List.eq_nil_of_length_eq_zero hq; cases hb
  | succ q ih =>
    intro pf m n top hq hf x hx
    obtain ⟨rest, b, rfl⟩ := snoc_of (pf := pf) (by intro e; subst e; simp at hq)
    have hr : rest.length = q := by simp at hq; exact hq
    by_cases h1 : m = n ∧ top = true
    · obtain ⟨rfl, rfl⟩ := h1; rw [regF_whole] at hf; simp at hf
    · by_cases hb : b.size = 32
      · have hrest : ∀ y ∈ rest, y.size = 32 := by
          by_cases h2 : m = n
          · have hw : top = false := by cases top <;> simp_all
            subst h2 hw
            rw [regF_all H _ _ _ _ hb] at hf
            have : rest = [] := by simpa using hf
            subst this; intro y hy; cases hy
          · by_cases hi : m ≤ halfN n
            · rw [regF_left H _ _ _ _ h2 _ _ hb hi] at hf; exact ih rest _ _ _ hr hf
            · rw [regF_right H _ _ _ _ h2 _ _ hb hi] at hf; exact ih rest _ _ _ hr hf
        rcases List.mem_append.1 hx with hx | hx
        · exact hrest x hx
        · simp at hx; rw [hx]; exact hb
      · rw [regF_bad H _ _ _ _ h1 _ _ hb] at hf; cases hf
/-- What the reference's CheckConsistency says, behind its look at the numbers. -/
def allR (H : ByteArray → ByteArray) (m n : Nat) (first second : ByteArray) (pf : List ByteArray) : Bool :=
  hashesB pf && (if m = 0 then (decide (pf.length = 0) && (decide (first = H ⟨#[]⟩) && (decide (n ≠ 0) || decide (second = H ⟨#[]⟩))))
    else ((grR H first m n true pf).2.2 && (decide ((grR H first m n true pf).1 = first) && (decide ((grR H first m n true pf).2.1 = second) && decide (first.size = 32)))))
theorem cons_same (K : Nat → Int) (m n : Nat) (first second : ByteArray) (pf : List ByteArray) : consOk K m n first second pf = allR (sumOf K) m n first second pf := by
  rw [Bool.eq_iff_iff]
  unfold consOk allR
  by_cases hm : m = 0
  · rw [if_pos hm, if_pos hm, show rootF (sumOf K) [] = sumOf K ⟨#[]⟩ by rw [rootF]]
    simp only [Bool.and_eq_true, Bool.or_eq_true, decide_eq_true_eq]
    constructor
    · rintro ⟨h1, ⟨h2, h3⟩, h4⟩
      refine ⟨(hashesB_iff pf).2 (by have := List.eq_nil_of_length_eq_zero h3; subst this; intro b hb; cases hb), h3, h2, ?_⟩
      rcases h4 with h4 | h4
      · exact Or.inl h4
      · exact Or.inr (by rw [h4, h2])
    · rintro ⟨h1, h2, h3, h4⟩
      refine ⟨by rw [h3]; exact sumOf_size K _, ⟨h3, h2⟩, ?_⟩
      rcases h4 with h4 | h4
      · exact Or.inl h4
      · exact Or.inr (by rw [h4, h3])
  · rw [if_neg hm, if_neg hm]
    simp only [Bool.and_eq_true, decide_eq_true_eq]
    constructor
    · rintro ⟨h1, h2, h3, h4, h5⟩
      have hh := reg_hashes (sumOf K) first _ pf m n true rfl h3
      have := gr_reg (sumOf K) first _ pf m n true rfl hh
      have h6 : (grR (sumOf K) first m n true pf).2.2 = true := by rw [← this.1]; exact h3
      exact ⟨(hashesB_iff pf).2 hh, h6, by rw [← (this.2 h6).1]; exact h4, by rw [← (this.2 h6).2]; exact h5, h1⟩
    · rintro ⟨h1, h2, h3, h4, h5⟩
      have hh := (hashesB_iff pf).1 h1
      have := gr_reg (sumOf K) first _ pf m n true rfl hh
      have e := this.2 h2
      refine ⟨h5, ?_, by rw [this.1]; exact h2, by rw [e.1]; exact h3, by rw [e.2]; exact h4⟩
      rw [← h4, ← e.2]
      exact (regF_sizes (sumOf K) (sumOf_size K) first h5 _ pf m n true rfl).2
end Go.Proofs.YtijdnpoenpjnlaaGreatDoor
set_option linter.unusedVariables false
set_option linter.unusedSimpArgs false
namespace Go.Proofs.YtijdnpoenpjnlaaGreatDoor
open Go.RowKit

def boolPost (b : Bool) (w : World) (e : Ending) (w' : World) : Prop := e = .returned (.bool b) ∧ Below w.heap.size w w'
theorem eqB (a b : ByteArray) : (a.toList == b.toList) = decide (a = b) := by
  rw [← beq_toListBytes]
  show (a.data == b.data) = decide (a = b)
  rw [Bool.eq_iff_iff]
  simp only [beq_iff_eq, decide_eq_true_eq]
  exact ⟨fun h => ByteArray.ext h, fun h => by rw [h]⟩

set_option maxRecDepth 10000 in
set_option maxHeartbeats 400000 in
theorem rhashes_any (v : Value) (pf : List ByteArray) (w : World) (hl : LeafAt w v pf) (hn : pf.length ≤ 1000000) (hs : ∀ s ∈ pf, s.size ≤ 20000) :
    Calls Tryz.prog 121 #[v] w (boolPost (hashesB pf) w) := by
  have HL : Hid (LeafAt w v pf) := hl
  obtain ⟨ao, cap, rfl⟩ := leaf_form hl
  have HS : Hid (∀ s ∈ pf, s.size ≤ 20000) := hs
  clear hl hs
  obtain ⟨N, hN⟩ : ∃ N, N = pf.length := ⟨_, rfl⟩
  have HN : Hid (N = pf.length) := hN
  rw [← hN] at hn HL ⊢
  clear hN
  go_enter Tryz.func121, Tryz.ntmps121
  go_wp2_with fail
  go_loopw [3] (fun i wr => ∃ q : Nat, i = .int .i64 q ∧ q ≤ N ∧ Hid (∀ j (h : j < pf.length), j < q → (pf[j]'h).size = 32) ∧ Below w.heap.size w wr) (fun i _ => N - (intOf i).toNat)
  case atStart => exact ⟨0, rfl, Nat.zero_le _, (fun j h h2 => by omega), Below.refl _ _⟩
  case round =>
    obtain ⟨q, rfl, hq, hI, hB⟩ := hrel
    by_cases hlt : q < N
    · have q1 : (q : Int) < (N : Int) := by omega
      have q0 : (0 : Int) ≤ (q : Int) := by omega
      have hql : q < pf.length := by have := HN.out; omega
      obtain ⟨s, hs⟩ : ∃ s, s = pf[q]'hql := ⟨_, rfl⟩
      have hsz : s.size ≤ 20000 := by rw [hs]; exact HS.out _ (List.getElem_mem hql)
      obtain ⟨g, off, ea, ca⟩ : ∃ g off, ao = some ⟨g, off, none⟩ ∧ wr.cell? ⟨g, off + q, none⟩ = some (.string s) := by
        rcases HL.out.below hB with ⟨e, _⟩ | ⟨g, off, cap', e, _, h⟩
        · rw [e] at hql; simp at hql
        · injection e with e1 _ _
          exact ⟨g, off, e1, by rw [h q hql, hs]⟩
      subst ea
      have HSQ : Hid (s = pf[q]'hql) := hs
      clear hs
      by_cases h32 : s.size = 32
      · have b1 : ((s.size : Int) != 32) = false := by rw [h32]; rfl
        go_wp2_with fail
        refine ⟨⟨q + 1, by go_num, by omega, (fun j h h2 => ?_), hB⟩, ?_⟩
        · by_cases e : j < q
          · exact hI.out j h e
          · obtain rfl : j = q := by omega
            rw [← HSQ.out]; exact h32
        · simp [intOf]; omega
      · have b1 : ((s.size : Int) != 32) = true := by rw [bne_iff_ne]; omega
        have hf : Hid (hashesB pf = false) := by
          show hashesB pf = false
          rw [Bool.eq_false_iff]
          intro h
          exact h32 (by rw [HSQ.out]; exact (hashesB_iff pf).1 h _ (List.getElem_mem hql))
        go_wp2_with fail
        go_ret
        exact ⟨by rw [hf.out]; rfl, hB⟩
    · have q1 : ¬ (q : Int) < (N : Int) := by omega
      have hf : Hid (hashesB pf = true) := by
        show hashesB pf = true
        refine (hashesB_iff pf).2 fun b hb => ?_
        obtain ⟨j, hj, rfl⟩ := List.mem_iff_getElem.1 hb
        exact hI.out j hj (by have := HN.out; omega)
      go_wp2_with fail
      go_ret
      exact ⟨by rw [hf.out]; rfl, hB⟩

def pairPost (h : ByteArray) (b : Bool) (w : World) (e : Ending) (w' : World) : Prop := e = .returned (.tuple #[.string h, .bool b]) ∧ Below w.heap.size w w'
set_option maxRecDepth 10000 in
set_option maxHeartbeats 400000 in
theorem rin_one (h : ByteArray) (i : Int) (ao : Option Addr) (M cap : Nat) (w : World) : Calls Tryz.prog 122 #[.string h, .int .i64 i, .int .i64 1, .slice ao M cap] w (pairPost h ((M : Int) == 0) w) := by
  go_enter Tryz.func122, Tryz.ntmps122
  go_wp2_with fail
  go_ret2
  exact ⟨rfl, Below.refl _ _⟩
set_option maxRecDepth 10000 in
set_option maxHeartbeats 400000 in
theorem rin_none (h : ByteArray) (i n : Int) (ao : Option Addr) (cap : Nat) (w : World) (hn : (n == 1) = false) : Calls Tryz.prog 122 #[.string h, .int .i64 i, .int .i64 n, .slice ao 0 cap] w (pairPost ⟨#[]⟩ false w) := by
  go_enter Tryz.func122, Tryz.ntmps122
  go_wp2_with fail
  go_ret2
  exact ⟨rfl, Below.refl _ _⟩

set_option maxRecDepth 10000 in
set_option maxHeartbeats 1000000 in
theorem rin_left (h b x y : ByteArray) (f : Bool) (i n k q g off cap : Nat) (w : World) (hn : 2 ≤ n) (hn1 : n ≤ 2147483647) (hk1 : k < n) (hin : i < n) (hik : i < k) (hq : q ≤ 1000000) (hcap : q + 1 ≤ cap) (hc : w.cell? ⟨g, off + q, none⟩ = some (.string b))
    (hsp : ∀ W, Calls Tryz.prog 116 #[.int .i64 n] W fun e w' => e = .returned (.int .i64 k) ∧ w' = W)
    (hrec : ∀ W, Below w.heap.size w W → Calls Tryz.prog 122 #[.string h, .int .i64 i, .int .i64 k, .slice (some ⟨g, off, none⟩) q cap] W (pairPost x f W))
    (hj : ∀ W, Calls Tryz.prog 117 #[.string x, .string b] W (strPost y W)) :
    Calls Tryz.prog 122 #[.string h, .int .i64 i, .int .i64 n, .slice (some ⟨g, off, none⟩) (q + 1) cap] w (pairPost y f w) := by
  have n1 : ((n : Int) == 1) = false := by rw [beq_eq_false_iff_ne]; omega
  have m0' : ((q + 1 : Nat) : Int) = (q : Int) + 1 := by omega
  have m1' : ((q : Int) + 1 == 0) = false := by rw [beq_eq_false_iff_ne]; omega
  have m2' : (q : Int) < (q : Int) + 1 := by omega
  have m3' : (q : Int) ≤ (cap : Int) := by omega
  have ik : (i : Int) < (k : Int) := by omega
  have HREC : Hid (∀ W, Below w.heap.size w W → Calls Tryz.prog 122 #[.string h, .int .i64 i, .int .i64 k, .slice (some ⟨g, off, none⟩) q cap] W (pairPost x f W)) := hrec
  have HJ : Hid (∀ W, Calls Tryz.prog 117 #[.string x, .string b] W (strPost y W)) := hj
  clear hrec hj
  go_enter Tryz.func122, Tryz.ntmps122
  go_wp2_with (go_at_call 116; refine (hsp _).mono ?_; rintro e wx ⟨rfl, hwx⟩; obtain rfl : w = wx := hwx.symm; clear hwx)
  refine (HREC.out w (Below.refl _ _)).mono ?_
  rintro e w1 ⟨rfl, hb1⟩
  go_wp2_with fail
  refine (HJ.out w1).mono ?_
  rintro e w2 ⟨rfl, hb2⟩
  go_wp2_with fail
  go_ret2
  exact ⟨rfl, hb1.trans (hb2.mono hb1.size)⟩

set_option maxRecDepth 10000 in
set_option maxHeartbeats 1000000 in
theorem rin_right (h b x y : ByteArray) (f : Bool) (i n k q g off cap : Nat) (w : World) (hn : 2 ≤ n) (hn1 : n ≤ 2147483647) (hk1 : k < n) (hin : i < n) (hik : k ≤ i) (hq : q ≤ 1000000) (hcap : q + 1 ≤ cap) (hc : w.cell? ⟨g, off + q, none⟩ = some (.string b))
    (hsp : ∀ W, Calls Tryz.prog 116 #[.int .i64 n] W fun e w' => e = .returned (.int .i64 k) ∧ w' = W)
    (hrec : ∀ W, Below w.heap.size w W → Calls Tryz.prog 122 #[.string h, .int .i64 ((i : Int) - (k : Int)), .int .i64 ((n : Int) - (k : Int)), .slice (some ⟨g, off, none⟩) q cap] W (pairPost x f W))
    (hj : ∀ W, Calls Tryz.prog 117 #[.string b, .string x] W (strPost y W)) :
    Calls Tryz.prog 122 #[.string h, .int .i64 i, .int .i64 n, .slice (some ⟨g, off, none⟩) (q + 1) cap] w (pairPost y f w) := by
  have n1 : ((n : Int) == 1) = false := by rw [beq_eq_false_iff_ne]; omega
  have m0' : ((q + 1 : Nat) : Int) = (q : Int) + 1 := by omega
  have m1' : ((q : Int) + 1 == 0) = false := by rw [beq_eq_false_iff_ne]; omega
  have m2' : (q : Int) < (q : Int) + 1 := by omega
  have m3' : (q : Int) ≤ (cap : Int) := by omega
  have ik : ¬ (i : Int) < (k : Int) := by omega
  have ik2 : (k : Int) ≤ (i : Int) := by omega
  have ik3 : (i : Int) < (n : Int) := by omega
  have HREC : Hid (∀ W, Below w.heap.size w W → Calls Tryz.prog 122 #[.string h, .int .i64 ((i : Int) - (k : Int)), .int .i64 ((n : Int) - (k : Int)), .slice (some ⟨g, off, none⟩) q cap] W (pairPost x f W)) := hrec
  have HJ : Hid (∀ W, Calls Tryz.prog 117 #[.string b, .string x] W (strPost y W)) := hj
  clear hrec hj
  go_enter Tryz.func122, Tryz.ntmps122
  go_wp2_with (go_at_call 116; refine (hsp _).mono ?_; rintro e wx ⟨rfl, hwx⟩; obtain rfl : w = wx := hwx.symm; clear hwx)
  refine (HREC.out w (Below.refl _ _)).mono ?_
  rintro e w1 ⟨rfl, hb1⟩
  go_wp2_with fail
  refine (HJ.out w1).mono ?_
  rintro e w2 ⟨rfl, hb2⟩
  go_wp2_with fail
  go_ret2
  exact ⟨rfl, hb1.trans (hb2.mono hb1.size)⟩

theorem rin_any (h : ByteArray) (hh : h.size = 32) : ∀ (q : Nat) (pf : List ByteArray) (v : Value) (i n : Nat) (w : World), pf.length = q → q ≤ 1000000 → i < n → n ≤ 2147483647 → LeafAt w v pf → (∀ b ∈ pf, b.size = 32) →
    Calls Tryz.prog 122 #[.string h, .int .i64 i, .int .i64 n, v] w (pairPost (inR HR h i n pf).1 (inR HR h i n pf).2 w) := by
  intro q
  induction q with
  | zero =>
    intro pf v i n w hq _ hin hn1 hl hb
    obtain rfl : pf = [] := List.eq_nil_of_length_eq_zero hq
    obtain ⟨ao, cap, rfl⟩ := leaf_form hl
    by_cases h1 : n = 1
    · subst h1; rw [inR_one]; exact rin_one h i ao 0 cap w
    · rw [inR_none HR _ _ _ h1]; exact rin_none h i n ao cap w (by rw [beq_eq_false_iff_ne]; omega)
  | succ q ih =>
    intro pf v i n w hq hq1 hin hn1 hl hb
    obtain ⟨rest, b, rfl⟩ := snoc_of (pf := pf) (by intro e; subst e; simp at hq)
    have hrl : rest.length = q := by simp at hq; exact hq
    obtain ⟨g, off, cap, rfl, hcap, hc⟩ : ∃ g off cap, v = .slice (some ⟨g, off, none⟩) (rest ++ [b]).length cap ∧ (rest ++ [b]).length ≤ cap ∧ ∀ j (h : j < (rest ++ [b]).length), w.cell? ⟨g, off + j, none⟩ = some (.string ((rest ++ [b])[j]'h)) := by
      rcases hl with ⟨e, _⟩ | h
      · simp at e
      · exact h
    have hlen : (rest ++ [b]).length = q + 1 := hq
    have hbr : ∀ x ∈ rest, x.size = 32 := fun x hx => hb x (by simp [hx])
    have hb32 := hb b (by simp)
    by_cases h1 : n = 1
    · subst h1
      rw [inR_one]
      have := rin_one h i (some ⟨g, off, none⟩) (rest ++ [b]).length cap w
      rw [show (((rest ++ [b]).length : Int) == 0) = (rest ++ [b]).isEmpty by rw [show (rest ++ [b]).isEmpty = false by simp]; rw [beq_eq_false_iff_ne]; simp; omega] at this
      exact this
    · have h2 : 2 ≤ n := by omega
      have hk0 := halfN_pos n
      have hk1 := halfN_lt h2
      rw [hlen]
      have hcm : w.cell? ⟨g, off + q, none⟩ = some (.string b) := by
        have := hc q (by omega)
        rw [this]; simp [← hrl]
      have lR : ∀ W, Below w.heap.size w W → LeafAt W (.slice (some ⟨g, off, none⟩) q cap) rest := fun W hb => by
        refine LeafAt.below (w := w) ?_ hb
        refine Or.inr ⟨g, off, cap, by rw [hrl], by omega, fun j hj => ?_⟩
        rw [hc j (by simp; omega), List.getElem_append_left hj]
      have hsz := fun i n => inR_size HR HR_size h hh i n rest
      by_cases hik : i < halfN n
      · rw [inR_left HR _ _ _ h1 _ _ hik]
        exact rin_left h b _ _ _ i n (halfN n) q g off cap w h2 hn1 hk1 hin hik (by omega) (by omega) hcm (fun W => rsplit_any n W h2 hn1)
          (fun W hb => ih rest _ i (halfN n) W hrl (by omega) hik (by omega) (lR W hb) hbr)
          (fun W => rjoined_any _ _ W (by have := hsz i (halfN n); omega) (by omega))
      · rw [inR_right HR _ _ _ h1 _ _ hik]
        exact rin_right h b _ _ _ i n (halfN n) q g off cap w h2 hn1 hk1 hin (by omega) (by omega) (by omega) hcm (fun W => rsplit_any n W h2 hn1)
          (fun W hb => by
            have := ih rest (.slice (some ⟨g, off, none⟩) q cap) (i - halfN n) (n - halfN n) W hrl (by omega) (by omega) (by omega) (lR W hb) hbr
            rw [show ((i - halfN n : Nat) : Int) = (i : Int) - (halfN n : Int) by omega, show ((n - halfN n : Nat) : Int) = (n : Int) - (halfN n : Int) by omega] at this
            exact this)
          (fun W => rjoined_any _ _ W (by omega) (by have := hsz (i - halfN n) (n - halfN n); omega))

def tripPost (x y : ByteArray) (b : Bool) (w : World) (e : Ending) (w' : World) : Prop := e = .returned (.tuple #[.string x, .string y, .bool b]) ∧ Below w.heap.size w w'
theorem ret_three {P : Program} {fn : Func} {R : Ending → World → Prop} {a : Act} {w : World} {t p u : Tmp} (h : fn.results = #[.tmp t, .tmp p, .tmp u]) (x y z : Value)
    (ht : a.tmps.getD t undef = x) (hp : a.tmps.getD p undef = y) (hu : a.tmps.getD u undef = z) (hdf : a.defers = []) (hR : R (.returned (.tuple #[x, y, z])) w) : bodyPost P fn R .ret a w := by
  refine bodyPost_ret (v := .tuple #[x, y, z]) ?_ hdf hR
  have ht' : a.tmps[t]?.getD undef = x := by simpa using ht
  have hp' : a.tmps[p]?.getD undef = y := by simpa using hp
  have hu' : a.tmps[u]?.getD undef = z := by simpa using hu
  simp only [results, h]
  simp [Sem.run_bind, ht', hp', hu']
set_option maxRecDepth 10000 in
set_option maxHeartbeats 400000 in
theorem rgr_top (first : ByteArray) (n : Int) (ao : Option Addr) (M cap : Nat) (w : World) : Calls Tryz.prog 124 #[.int .i64 n, .int .i64 n, .bool true, .string first, .slice ao M cap] w (tripPost first first ((M : Int) == 0) w) := by
  go_enter Tryz.func124, Tryz.ntmps124
  go_wp2_with fail
  exact ret_three rfl _ _ _ rfl rfl rfl rfl ⟨rfl, Below.refl _ _⟩
set_option maxRecDepth 10000 in
set_option maxHeartbeats 400000 in
theorem rgr_notone (first : ByteArray) (n : Int) (ao : Option Addr) (M cap : Nat) (w : World) (hM : M ≠ 1) : Calls Tryz.prog 124 #[.int .i64 n, .int .i64 n, .bool false, .string first, .slice ao M cap] w (tripPost ⟨#[]⟩ ⟨#[]⟩ false w) := by
  have m1 : ((M : Int) != 1) = true := by rw [bne_iff_ne]; omega
  go_enter Tryz.func124, Tryz.ntmps124
  go_wp2_with fail
  exact ret_three rfl _ _ _ rfl rfl rfl rfl ⟨rfl, Below.refl _ _⟩
set_option maxRecDepth 10000 in
set_option maxHeartbeats 400000 in
theorem rgr_one (first b : ByteArray) (n : Int) (g off cap : Nat) (w : World) (hc : w.cell? ⟨g, off, none⟩ = some (.string b)) : Calls Tryz.prog 124 #[.int .i64 n, .int .i64 n, .bool false, .string first, .slice (some ⟨g, off, none⟩) 1 cap] w (tripPost b b true w) := by
  have hB : Below w.heap.size w w := Below.refl _ _
  go_enter Tryz.func124, Tryz.ntmps124
  go_wp2_with fail
  go_quiet (fail)
  go_wp2_with fail
  exact ret_three rfl _ _ _ rfl rfl rfl rfl ⟨rfl, below_draws hB _⟩
set_option maxRecDepth 10000 in
set_option maxHeartbeats 400000 in
theorem rgr_none (first : ByteArray) (m n : Int) (top : Bool) (ao : Option Addr) (cap : Nat) (w : World) (hmn : (m == n) = false) : Calls Tryz.prog 124 #[.int .i64 m, .int .i64 n, .bool top, .string first, .slice ao 0 cap] w (tripPost ⟨#[]⟩ ⟨#[]⟩ false w) := by
  go_enter Tryz.func124, Tryz.ntmps124
  go_wp2_with fail
  exact ret_three rfl _ _ _ rfl rfl rfl rfl ⟨rfl, Below.refl _ _⟩

set_option maxRecDepth 10000 in
set_option maxHeartbeats 1000000 in
theorem rgr_left (first b x y h : ByteArray) (f top : Bool) (m n k q g off cap : Nat) (w : World) (hn : 2 ≤ n) (hn1 : n ≤ 2147483647) (hk1 : k < n) (hmn : m < n) (hmk : m ≤ k) (hq : q ≤ 1000000) (hcap : q + 1 ≤ cap) (hc : w.cell? ⟨g, off + q, none⟩ = some (.string b))
    (hsp : ∀ W, Calls Tryz.prog 116 #[.int .i64 n] W fun e w' => e = .returned (.int .i64 k) ∧ w' = W)
    (hrec : ∀ W, Below w.heap.size w W → Calls Tryz.prog 124 #[.int .i64 m, .int .i64 k, .bool top, .string first, .slice (some ⟨g, off, none⟩) q cap] W (tripPost x y f W))
    (hj0 : ∀ W, Calls Tryz.prog 117 #[.string y, .string b] W (strPost h W)) :
    Calls Tryz.prog 124 #[.int .i64 m, .int .i64 n, .bool top, .string first, .slice (some ⟨g, off, none⟩) (q + 1) cap] w (tripPost x h f w) := by
  have n1 : ((m : Int) == (n : Int)) = false := by rw [beq_eq_false_iff_ne]; omega
  have m0' : ((q + 1 : Nat) : Int) = (q : Int) + 1 := by omega
  have m1' : ((q : Int) + 1 == 0) = false := by rw [beq_eq_false_iff_ne]; omega
  have m2' : (q : Int) < (q : Int) + 1 := by omega
  have m3' : (q : Int) ≤ (cap : Int) := by omega
  have mk : (m : Int) ≤ (k : Int) := by omega
  have HREC : Hid (∀ W, Below w.heap.size w W → Calls Tryz.prog 124 #[.int .i64 m, .int .i64 k, .bool top, .string first, .slice (some ⟨g, off, none⟩) q cap] W (tripPost x y f W)) := hrec
  have HJ0 : Hid (∀ W, Calls Tryz.prog 117 #[.string y, .string b] W (strPost h W)) := hj0
  clear hrec hj0
  go_enter Tryz.func124, Tryz.ntmps124
  go_wp2_with (go_at_call 116; refine (hsp _).mono ?_; rintro e wx ⟨rfl, hwx⟩; obtain rfl : w = wx := hwx.symm; clear hwx)
  refine (HREC.out w (Below.refl _ _)).mono ?_
  rintro e w1 ⟨rfl, hb1⟩
  go_wp2_with fail
  refine (HJ0.out w1).mono ?_
  rintro e w2 ⟨rfl, hbx0⟩
  have hb2 : Below w.heap.size w w2 := hb1.trans (hbx0.mono hb1.size)
  go_wp2_with fail
  exact ret_three rfl _ _ _ rfl rfl rfl rfl ⟨rfl, hb2⟩

set_option maxRecDepth 10000 in
set_option maxHeartbeats 1000000 in
theorem rgr_right (first b x y h h2 : ByteArray) (f top : Bool) (m n k q g off cap : Nat) (w : World) (hn : 2 ≤ n) (hn1 : n ≤ 2147483647) (hk1 : k < n) (hmn : m < n) (hmk : k < m) (hq : q ≤ 1000000) (hcap : q + 1 ≤ cap) (hc : w.cell? ⟨g, off + q, none⟩ = some (.string b))
    (hsp : ∀ W, Calls Tryz.prog 116 #[.int .i64 n] W fun e w' => e = .returned (.int .i64 k) ∧ w' = W)
    (hrec : ∀ W, Below w.heap.size w W → Calls Tryz.prog 124 #[.int .i64 ((m : Int) - (k : Int)), .int .i64 ((n : Int) - (k : Int)), .bool false, .string first, .slice (some ⟨g, off, none⟩) q cap] W (tripPost x y f W))
    (hj0 : ∀ W, Calls Tryz.prog 117 #[.string b, .string x] W (strPost h W))
    (hj1 : ∀ W, Calls Tryz.prog 117 #[.string b, .string y] W (strPost h2 W)) :
    Calls Tryz.prog 124 #[.int .i64 m, .int .i64 n, .bool top, .string first, .slice (some ⟨g, off, none⟩) (q + 1) cap] w (tripPost h h2 f w) := by
  have n1 : ((m : Int) == (n : Int)) = false := by rw [beq_eq_false_iff_ne]; omega
  have m0' : ((q + 1 : Nat) : Int) = (q : Int) + 1 := by omega
  have m1' : ((q : Int) + 1 == 0) = false := by rw [beq_eq_false_iff_ne]; omega
  have m2' : (q : Int) < (q : Int) + 1 := by omega
  have m3' : (q : Int) ≤ (cap : Int) := by omega
  have mk : ¬ (m : Int) ≤ (k : Int) := by omega
  have mk2 : (k : Int) < (m : Int) := by omega
  have mk3 : (m : Int) < (n : Int) := by omega
  have HREC : Hid (∀ W, Below w.heap.size w W → Calls Tryz.prog 124 #[.int .i64 ((m : Int) - (k : Int)), .int .i64 ((n : Int) - (k : Int)), .bool false, .string first, .slice (some ⟨g, off, none⟩) q cap] W (tripPost x y f W)) := hrec
  have HJ0 : Hid (∀ W, Calls Tryz.prog 117 #[.string b, .string x] W (strPost h W)) := hj0
  have HJ1 : Hid (∀ W, Calls Tryz.prog 117 #[.string b, .string y] W (strPost h2 W)) := hj1
  clear hrec hj0 hj1
  go_enter Tryz.func124, Tryz.ntmps124
  go_wp2_with (go_at_call 116; refine (hsp _).mono ?_; rintro e wx ⟨rfl, hwx⟩; obtain rfl : w = wx := hwx.symm; clear hwx)
  refine (HREC.out w (Below.refl _ _)).mono ?_
  rintro e w1 ⟨rfl, hb1⟩
  go_wp2_with fail
  refine (HJ0.out w1).mono ?_
  rintro e w2 ⟨rfl, hbx0⟩
  have hb2 : Below w.heap.size w w2 := hb1.trans (hbx0.mono hb1.size)
  go_wp2_with fail
  refine (HJ1.out w2).mono ?_
  rintro e w3 ⟨rfl, hbx1⟩
  have hb3 : Below w.heap.size w w3 := hb2.trans (hbx1.mono hb2.size)
  go_wp2_with fail
  exact ret_three rfl _ _ _ rfl rfl rfl rfl ⟨rfl, hb3⟩

theorem rgr_any (first : ByteArray) (hf : first.size ≤ 20000) : ∀ (q : Nat) (pf : List ByteArray) (v : Value) (m n : Nat) (top : Bool) (w : World), pf.length = q → q ≤ 1000000 → 0 < m → m ≤ n → n ≤ 2147483647 → LeafAt w v pf → (∀ b ∈ pf, b.size = 32) →
    Calls Tryz.prog 124 #[.int .i64 m, .int .i64 n, .bool top, .string first, v] w (tripPost (grR HR first m n top pf).1 (grR HR first m n top pf).2.1 (grR HR first m n top pf).2.2 w) := by
  intro q
  induction q with
  | zero =>
    intro pf v m n top w hq _ hm0 hmn hn1 hl hb
    obtain rfl : pf = [] := List.eq_nil_of_length_eq_zero hq
    obtain ⟨ao, cap, rfl⟩ := leaf_form hl
    by_cases h1 : m = n
    · subst h1
      cases top
      · rw [grR_all]; exact rgr_notone first m ao 0 cap w (by omega)
      · rw [grR_top]; exact rgr_top first m ao 0 cap w
    · rw [grR_none HR _ _ _ _ h1]; exact rgr_none first m n top ao cap w (by rw [beq_eq_false_iff_ne]; omega)
  | succ q ih =>
    intro pf v m n top w hq hq1 hm0 hmn hn1 hl hb
    obtain ⟨rest, b, rfl⟩ := snoc_of (pf := pf) (by intro e; subst e; simp at hq)
    have hrl : rest.length = q := by simp at hq; exact hq
    obtain ⟨g, off, cap, rfl, hcap, hc⟩ : ∃ g off cap, v = .slice (some ⟨g, off, none⟩) (rest ++ [b]).length cap ∧ (rest ++ [b]).length ≤ cap ∧ ∀ j (h : j < (rest ++ [b]).length), w.cell? ⟨g, off + j, none⟩ = some (.string ((rest ++ [b])[j]'h)) := by
      rcases hl with ⟨e, _⟩ | h
      · simp at e
      · exact h
    have hlen : (rest ++ [b]).length = q + 1 := hq
    have hbr : ∀ x ∈ rest, x.size = 32 := fun x hx => hb x (by simp [hx])
    have hb32 := hb b (by simp)
    by_cases h1 : m = n
    · subst h1
      cases top
      · rw [grR_all]
        by_cases h0 : (rest ++ [b]).length = 1
        · rw [if_pos h0]
          have hr0 : rest = [] := List.eq_nil_of_length_eq_zero (by omega)
          subst hr0
          exact rgr_one first b m g off cap w (by have := hc 0 (by simp); simpa using this)
        · rw [if_neg h0]; exact rgr_notone first m _ _ cap w h0
      · rw [grR_top]
        have := rgr_top first m (some ⟨g, off, none⟩) (rest ++ [b]).length cap w
        rw [show (((rest ++ [b]).length : Int) == 0) = (rest ++ [b]).isEmpty by rw [show (rest ++ [b]).isEmpty = false by simp]; rw [beq_eq_false_iff_ne]; simp; omega] at this
        exact this
    · have h2 : 2 ≤ n := by omega
      have hk0 := halfN_pos n
      have hk1 := halfN_lt h2
      rw [hlen]
      have hcm : w.cell? ⟨g, off + q, none⟩ = some (.string b) := by
        have := hc q (by omega)
        rw [this]; simp [← hrl]
      have lR : ∀ W, Below w.heap.size w W → LeafAt W (.slice (some ⟨g, off, none⟩) q cap) rest := fun W hb => by
        refine LeafAt.below (w := w) ?_ hb
        refine Or.inr ⟨g, off, cap, by rw [hrl], by omega, fun j hj => ?_⟩
        rw [hc j (by simp; omega), List.getElem_append_left hj]
      have hsz := fun m n top => grR_size HR HR_size first hf _ rest m n top rfl hbr
      by_cases hik : m ≤ halfN n
      · rw [grR_left HR _ _ _ _ h1 _ _ hik]
        exact rgr_left first b _ _ _ _ top m n (halfN n) q g off cap w h2 hn1 hk1 (by omega) hik (by omega) (by omega) hcm (fun W => rsplit_any n W h2 hn1)
          (fun W hb => ih rest _ m (halfN n) top W hrl (by omega) hm0 hik (by omega) (lR W hb) hbr)
          (fun W => rjoined_any _ _ W (hsz m (halfN n) top).2 (by omega))
      · rw [grR_right HR _ _ _ _ h1 _ _ hik]
        exact rgr_right first b _ _ _ _ _ top m n (halfN n) q g off cap w h2 hn1 hk1 (by omega) (by omega) (by omega) (by omega) hcm (fun W => rsplit_any n W h2 hn1)
          (fun W hb => by
            have := ih rest (.slice (some ⟨g, off, none⟩) q cap) (m - halfN n) (n - halfN n) false W hrl (by omega) (by omega) (by omega) (by omega) (lR W hb) hbr
            rw [show ((m - halfN n : Nat) : Int) = (m : Int) - (halfN n : Int) by omega, show ((n - halfN n : Nat) : Int) = (n : Int) - (halfN n : Int) by omega] at this
            exact this)
          (fun W => rjoined_any _ _ W (by omega) (hsz (m - halfN n) (n - halfN n) false).1) (fun W => rjoined_any _ _ W (by omega) (hsz (m - halfN n) (n - halfN n) false).2)

def codeV (b : Bool) : Value := .int .i64 (if b then 0 else 14)
def codePost (v : Value) (w : World) (e : Ending) (w' : World) : Prop := e = .returned v ∧ Below w.heap.size w w'
set_option maxRecDepth 10000 in
set_option maxHeartbeats 400000 in
theorem rci_err (s r : ByteArray) (i n : Int) (v : Value) (w : World) (h : i < 0 ∨ n ≤ i ∨ 2147483647 < n) : Calls Tryz.prog 76 #[.string s, .int .i64 i, .int .i64 n, .string r, v] w (codePost (.int .i64 10) w) := by
  by_cases h0 : i < 0
  · clear h
    go_enter Tryz.func76, Tryz.ntmps76
    go_wp2_with fail
    go_ret
    exact ⟨rfl, Below.refl _ _⟩
  · by_cases h1 : n ≤ i
    · clear h
      go_enter Tryz.func76, Tryz.ntmps76
      go_wp2_with fail
      go_ret
      exact ⟨rfl, Below.refl _ _⟩
    · have h2 : 2147483647 < n := by omega
      clear h
      go_enter Tryz.func76, Tryz.ntmps76
      go_wp2_with fail
      go_ret
      exact ⟨rfl, Below.refl _ _⟩
set_option maxRecDepth 10000 in
set_option maxHeartbeats 400000 in
theorem rcc_err (s r : ByteArray) (i n : Int) (v : Value) (w : World) (h : i < 0 ∨ n < i ∨ 2147483647 < n) : Calls Tryz.prog 78 #[.int .i64 i, .int .i64 n, .string s, .string r, v] w (codePost (.int .i64 10) w) := by
  by_cases h0 : i < 0
  · clear h
    go_enter Tryz.func78, Tryz.ntmps78
    go_wp2_with fail
    go_ret
    exact ⟨rfl, Below.refl _ _⟩
  · by_cases h1 : n < i
    · clear h
      go_enter Tryz.func78, Tryz.ntmps78
      go_wp2_with fail
      go_ret
      exact ⟨rfl, Below.refl _ _⟩
    · have h2 : 2147483647 < n := by omega
      clear h
      go_enter Tryz.func78, Tryz.ntmps78
      go_wp2_with fail
      go_ret
      exact ⟨rfl, Below.refl _ _⟩

set_option maxRecDepth 10000 in
set_option maxHeartbeats 1000000 in
theorem rci_any (s r : ByteArray) (i n : Nat) (pf : List ByteArray) (v : Value) (w : World) (hs : s.size ≤ 20000) (hr : r.size ≤ 20000) (hin : i < n) (hn1 : n ≤ 2147483647) (hl : LeafAt w v pf) (hpl : pf.length ≤ 1000000) (hps : ∀ b ∈ pf, b.size ≤ 20000) :
    Calls Tryz.prog 76 #[.string s, .int .i64 i, .int .i64 n, .string r, v] w (codePost (codeV (hashesB pf && ((inR HR (HR (m0 ++ s)) i n pf).2 && decide ((inR HR (HR (m0 ++ s)) i n pf).1 = r)))) w) := by
  have h1 := rhashes_any v pf w hl hpl hps
  have h2 := fun W => rsum (m0 ++ s) W (by rw [ByteArray.size_append, m0_size]; omega)
  have h3 : hashesB pf = true → ∀ W, Below w.heap.size w W → Calls Tryz.prog 122 #[.string (HR (m0 ++ s)), .int .i64 i, .int .i64 n, v] W (pairPost (inR HR (HR (m0 ++ s)) i n pf).1 (inR HR (HR (m0 ++ s)) i n pf).2 W) := fun hh W hb =>
    rin_any (HR (m0 ++ s)) (HR_size _) _ pf v i n W rfl hpl hin hn1 (hl.below hb) ((hashesB_iff pf).1 hh)
  rw [show m0 = ⟨#[0]⟩ from rfl] at h2 h3 ⊢
  obtain ⟨ao, cap, rfl⟩ := leaf_form hl
  generalize hX : inR HR (HR (⟨#[0]⟩ ++ s)) i n pf = X at *
  clear hX
  generalize HR (⟨#[0]⟩ ++ s) = hs0 at *
  obtain ⟨x, ok⟩ := X
  generalize hashesB pf = hh at *
  have H2 : Hid (∀ W, Calls Tryz.prog 30 #[.string (⟨#[0]⟩ ++ s)] W fun e w' => e = .returned (.string hs0) ∧ Below W.heap.size W w') := h2
  have H3 : Hid (hh = true → ∀ W, Below w.heap.size w W → Calls Tryz.prog 122 #[.string hs0, .int .i64 i, .int .i64 n, .slice ao pf.length cap] W (pairPost x ok W)) := h3
  clear h2 h3 hl hps
  generalize pf.length = M at *
  have i0 : ¬ (i : Int) < 0 := by omega
  have i1 : ¬ (n : Int) ≤ (i : Int) := by omega
  have i2 : ¬ (2147483647 : Int) < (n : Int) := by omega
  obtain ⟨c, hc⟩ : ∃ c, c = codeV (hh && ((x, ok).2 && decide ((x, ok).1 = r))) := ⟨_, rfl⟩
  rw [← hc]
  have HC : Hid (c = codeV (hh && (ok && decide (x = r)))) := hc
  clear hc
  cases hh
  · go_enter Tryz.func76, Tryz.ntmps76
    go_wp2_with fail
    refine h1.mono ?_
    rintro e w1 ⟨rfl, hb1⟩
    go_wp2_with fail
    go_ret
    exact ⟨by show Ending.returned (Value.int .i64 14) = _; rw [HC.out]; rfl, hb1⟩
  · go_enter Tryz.func76, Tryz.ntmps76
    go_wp2_with fail
    refine h1.mono ?_
    rintro e w1 ⟨rfl, hb1⟩
    go_wp2_with fail
    refine (H2.out w1).mono ?_
    rintro e w2 ⟨rfl, hb2⟩
    have hB2 : Below w.heap.size w w2 := hb1.trans (hb2.mono hb1.size)
    go_wp2_with fail
    refine (H3.out (by trivial) w2 hB2).mono ?_
    rintro e w3 ⟨rfl, hb3⟩
    have hB3 : Below w.heap.size w w3 := hB2.trans (hb3.mono hB2.size)
    clear h1 H2 H3
    cases ok
    · go_wp2_with fail
      go_ret
      exact ⟨by show Ending.returned (Value.int .i64 14) = _; rw [HC.out]; rfl, hB3⟩
    · by_cases hxr : x = r
      · have HD : Hid (c = .int .i64 0) := by show c = _; rw [HC.out]; simp [codeV, hxr]
        have eb : (x.toList == r.toList) = true := by rw [eqB]; simp [hxr]
        clear hxr HC
        go_wp2_with fail
        go_ret
        exact ⟨by rw [HD.out]; rfl, hB3⟩
      · have HD : Hid (c = .int .i64 14) := by show c = _; rw [HC.out]; simp [codeV, hxr]
        have eb : (x.toList == r.toList) = false := by rw [eqB]; simp [hxr]
        clear hxr HC
        go_wp2_with fail
        go_ret
        exact ⟨by rw [HD.out]; rfl, hB3⟩

set_option maxRecDepth 10000 in
set_option maxHeartbeats 2000000 in
theorem rcc_any (s r : ByteArray) (i n : Nat) (pf : List ByteArray) (v : Value) (w : World) (hs : s.size ≤ 20000) (hr : r.size ≤ 20000) (hin : i ≤ n) (hn1 : n ≤ 2147483647) (hl : LeafAt w v pf) (hpl : pf.length ≤ 1000000) (hps : ∀ b ∈ pf, b.size ≤ 20000) :
    Calls Tryz.prog 78 #[.int .i64 i, .int .i64 n, .string s, .string r, v] w (codePost (codeV (allR HR i n s r pf)) w) := by
  unfold allR
  have h1 := rhashes_any v pf w hl hpl hps
  have h2 := fun W => rsum ⟨#[]⟩ W (by decide)
  have h3 : hashesB pf = true → 0 < i → ∀ W, Below w.heap.size w W → Calls Tryz.prog 124 #[.int .i64 i, .int .i64 n, .bool true, .string s, v] W (tripPost (grR HR s i n true pf).1 (grR HR s i n true pf).2.1 (grR HR s i n true pf).2.2 W) := fun hh h0 W hb =>
    rgr_any s hs _ pf v i n true W rfl hpl h0 hin hn1 (hl.below hb) ((hashesB_iff pf).1 hh)
  obtain ⟨ao, cap, rfl⟩ := leaf_form hl
  generalize grR HR s i n true pf = X at *
  obtain ⟨x, y, ok⟩ := X
  generalize hashesB pf = hh at *
  generalize HR ⟨#[]⟩ = z at *
  have H2 : Hid (∀ W, Calls Tryz.prog 30 #[.string ⟨#[]⟩] W fun e w' => e = .returned (.string z) ∧ Below W.heap.size W w') := h2
  have H3 : Hid (hh = true → 0 < i → ∀ W, Below w.heap.size w W → Calls Tryz.prog 124 #[.int .i64 i, .int .i64 n, .bool true, .string s, .slice ao pf.length cap] W (tripPost x y ok W)) := h3
  clear h2 h3 hl hps
  generalize pf.length = M at *
  have i0 : ¬ (i : Int) < 0 := by omega
  have i1 : ¬ (n : Int) < (i : Int) := by omega
  have i2 : ¬ (2147483647 : Int) < (n : Int) := by omega
  obtain ⟨c, hc⟩ : ∃ c, c = codeV (hh && (if i = 0 then (decide (M = 0) && (decide (s = z) && (decide (n ≠ 0) || decide (r = z)))) else ((x, y, ok).2.2 && (decide ((x, y, ok).1 = s) && (decide ((x, y, ok).2.1 = r) && decide (s.size = 32)))))) := ⟨_, rfl⟩
  rw [← hc]
  have HC : Hid (c = codeV (hh && (if i = 0 then (decide (M = 0) && (decide (s = z) && (decide (n ≠ 0) || decide (r = z)))) else (ok && (decide (x = s) && (decide (y = r) && decide (s.size = 32))))))) := hc
  clear hc
  cases hh
  · have HD : Hid (c = .int .i64 14) := by show c = _; rw [HC.out]; rfl
    clear HC H3 H2
    go_enter Tryz.func78, Tryz.ntmps78
    go_wp2_with fail
    refine h1.mono ?_
    rintro e w1 ⟨rfl, hb1⟩
    go_wp2_with fail
    go_ret
    exact ⟨by rw [HD.out]; rfl, hb1⟩
  · by_cases hi0 : i = 0
    · have z0 : ((i : Int) == 0) = true := by rw [hi0]; rfl
      rw [if_pos hi0] at HC
      clear hi0 H3
      go_enter Tryz.func78, Tryz.ntmps78
      go_wp2_with fail
      refine h1.mono ?_
      rintro e w1 ⟨rfl, hb1⟩
      clear h1
      go_wp2_with fail
      refine (H2.out w1).mono ?_
      rintro e w2 ⟨rfl, hb2⟩
      have hB2 : Below w.heap.size w w2 := hb1.trans (hb2.mono hb1.size)
      clear H2
      by_cases hM : M = 0
      · have m0' : ¬ (0 : Int) < (M : Int) := by omega
        by_cases hsz : s = z
        · have e1 : (s.toList == z.toList) = true := by rw [eqB]; simp [hsz]
          by_cases hn0 : n = 0
          · have n0' : ((n : Int) == 0) = true := by rw [hn0]; rfl
            by_cases hrz : r = z
            · have e2 : (r.toList == z.toList) = true := by rw [eqB]; simp [hrz]
              have HD : Hid (c = .int .i64 0) := by show c = _; rw [HC.out]; simp [codeV, hM, hsz, hrz]
              clear hM hsz hn0 hrz HC
              go_wp2_with fail
              go_ret
              exact ⟨by rw [HD.out]; rfl, hB2⟩
            · have e2 : (r.toList == z.toList) = false := by rw [eqB]; simp [hrz]
              have HD : Hid (c = .int .i64 14) := by show c = _; rw [HC.out]; simp [codeV, hM, hsz, hrz, hn0]
              clear hM hsz hn0 hrz HC
              go_wp2_with fail
              go_ret
              exact ⟨by rw [HD.out]; rfl, hB2⟩
          · have n0' : ((n : Int) == 0) = false := by rw [beq_eq_false_iff_ne]; omega
            have HD : Hid (c = .int .i64 0) := by show c = _; rw [HC.out]; simp [codeV, hM, hsz, hn0]
            clear hM hsz hn0 HC
            go_wp2_with fail
            go_ret
            exact ⟨by rw [HD.out]; rfl, hB2⟩
        · have e1 : (s.toList == z.toList) = false := by rw [eqB]; simp [hsz]
          have HD : Hid (c = .int .i64 14) := by show c = _; rw [HC.out]; simp [codeV, hsz]
          clear hM hsz HC
          go_wp2_with fail
          go_ret
          exact ⟨by rw [HD.out]; rfl, hB2⟩
      · have m0' : (0 : Int) < (M : Int) := by omega
        have HD : Hid (c = .int .i64 14) := by show c = _; rw [HC.out]; simp [codeV, hM]
        clear hM HC
        go_wp2_with fail
        go_ret
        exact ⟨by rw [HD.out]; rfl, hB2⟩
    · have z0 : ((i : Int) == 0) = false := by rw [beq_eq_false_iff_ne]; omega
      have ipos : 0 < i := by omega
      rw [if_neg hi0] at HC
      clear hi0 H2
      go_enter Tryz.func78, Tryz.ntmps78
      go_wp2_with fail
      refine h1.mono ?_
      rintro e w1 ⟨rfl, hb1⟩
      clear h1
      go_wp2_with fail
      refine (H3.out (by trivial) ipos w1 hb1).mono ?_
      rintro e w2 ⟨rfl, hb2⟩
      have hB2 : Below w.heap.size w w2 := hb1.trans (hb2.mono hb1.size)
      clear H3
      cases ok
      · have HD : Hid (c = .int .i64 14) := by show c = _; rw [HC.out]; rfl
        clear HC
        go_wp2_with fail
        go_ret
        exact ⟨by rw [HD.out]; rfl, hB2⟩
      · by_cases hxs : x = s
        · have e1 : (x.toList == s.toList) = true := by rw [eqB]; simp [hxs]
          by_cases hyr : y = r
          · have e2 : (y.toList == r.toList) = true := by rw [eqB]; simp [hyr]
            by_cases h32 : s.size = 32
            · have s32 : ((s.size : Int) != 32) = false := by rw [h32]; rfl
              have HD : Hid (c = .int .i64 0) := by show c = _; rw [HC.out]; simp [codeV, hxs, hyr, h32]
              clear hxs hyr h32 HC
              go_wp2_with fail
              go_ret
              exact ⟨by rw [HD.out]; rfl, hB2⟩
            · have s32 : ((s.size : Int) != 32) = true := by rw [bne_iff_ne]; omega
              have HD : Hid (c = .int .i64 14) := by show c = _; rw [HC.out]; simp [codeV, h32]
              clear hxs hyr h32 HC
              go_wp2_with fail
              go_ret
              exact ⟨by rw [HD.out]; rfl, hB2⟩
          · have e2 : (y.toList == r.toList) = false := by rw [eqB]; simp [hyr]
            have HD : Hid (c = .int .i64 14) := by show c = _; rw [HC.out]; simp [codeV, hyr]
            clear hxs hyr HC
            go_wp2_with fail
            go_ret
            exact ⟨by rw [HD.out]; rfl, hB2⟩
        · have e1 : (x.toList == s.toList) = false := by rw [eqB]; simp [hxs]
          have HD : Hid (c = .int .i64 14) := by show c = _; rw [HC.out]; simp [codeV, hxs]
          clear hxs HC
          go_wp2_with fail
          go_ret
          exact ⟨by rw [HD.out]; rfl, hB2⟩
end Go.Proofs.YtijdnpoenpjnlaaGreatDoor
set_option linter.unusedVariables false
set_option linter.unusedSimpArgs false
namespace Go.Proofs.YtijdnpoenpjnlaaGreatDoor
open Go.RowKit

theorem piece_cut (sig : ByteArray) (c : Nat) (hc : c < 67) : sig.extract (1 + 32 * c) (33 + 32 * c) = pieceF (sig.extract 1 2145) c := by
  unfold pieceF
  rw [ByteArray.extract_extract, show 1 + (32 * c + 32) = 33 + 32 * c by omega, Nat.min_eq_left (by omega)]
theorem beside_cut (sig : ByteArray) (h q : Nat) (hs : sig.size = 2145 + 32 * h) (hq : q < h) : sig.extract (2145 + 32 * q) (2145 + 32 * q + 32) = pieceF (sig.extract 2145 sig.size) q := by
  unfold pieceF
  rw [ByteArray.extract_extract, show 2145 + (32 * q + 32) = 2145 + 32 * q + 32 by omega, Nat.min_eq_left (by omega)]
theorem beside_snoc (sig : ByteArray) (q : Nat) : besideF (q + 1) sig = besideF q sig ++ [pieceF (sig.extract 2145 sig.size) q] := by
  unfold besideF; rw [List.range_succ, List.map_append]; rfl
theorem beside_len (sig : ByteArray) (q : Nat) : (besideF q sig).length = q := by unfold besideF; simp
theorem beside_small (sig : ByteArray) (h : Nat) (hs : sig.size = 2145 + 32 * h) : ∀ b ∈ besideF h sig, b.size ≤ 20000 := by
  intro b hb
  unfold besideF at hb
  rw [List.mem_map] at hb
  obtain ⟨q, hq, rfl⟩ := hb
  have : q < h := by simpa using hq
  rw [pieceF_size _ _ (by rw [ByteArray.size_extract]; omega)]; omega
theorem sigsize_any (h : Nat) (w : World) (hh : h ≤ 5) : Calls Tryz.prog 132 #[.int .i64 h] w fun e w' => e = .returned (.int .i64 ((2145 + 32 * h : Nat) : Int)) ∧ w' = w := by
  go_enter Tryz.func132, Tryz.ntmps132
  go_wp2_with fail
  go_ret
  refine ⟨?_, rfl⟩
  show Ending.returned (Value.int .i64 (2145 + 32 * (h : Int))) = _
  congr 2
theorem pow_intW (h : Nat) (hh : h ≤ 5) : IntKind.i64.wrap ((2 : Int) ^ h) = ((2 ^ h : Nat) : Int) := by
  obtain rfl | rfl | rfl | rfl | rfl | rfl : h = 0 ∨ h = 1 ∨ h = 2 ∨ h = 3 ∨ h = 4 ∨ h = 5 := by omega
  all_goals decide
theorem finB_size (V : ByteArray) (hV1 : V.size = 2144) (c : Nat) : (finB V c).size = 32 := by unfold finB; split; exact pieceF_size V c (by omega); rfl

set_option maxRecDepth 10000 in
set_option maxHeartbeats 400000 in
theorem rcheck_core (key : ByteArray) (h : Nat) (msg sig : ByteArray) (ok : Bool) (w : World) (hh : h ≤ 5) (hk : key.size = 32) (hm : msg.size ≤ 1000000) (hsig : sig.size = 2145 + 32 * h) (hkn : keyN sig < 2 ^ h)
    (hok : inclOk kT (finT HR (sig.extract 1 2145) msg) (keyN sig) (2 ^ h) key (besideF h sig) = ok) :
    Calls Tryz.prog 84 #[.string key, .int .i64 h, .string msg, .string sig] w fun e w' => e = .returned (if ok then .tuple #[.int .i64 (keyN sig), .int .i64 0] else .tuple #[.int .i64 0, .int .i64 13]) ∧ Below w.heap.size w w' := by
  have hf := seeded_any key h w (by omega)
  rw [show decide (key.size = 32 ∧ 0 ≤ (h : Int) ∧ (h : Int) ≤ 5) = true from decide_eq_true ⟨hk, by omega, by omega⟩] at hf
  have hpw := pow_int h hh
  have hN32 : 2 ^ h ≤ 32 := Nat.pow_le_pow_right (n := 2) (by omega) hh
  have hV1 : (sig.extract 1 2145).size = 2144 := by rw [ByteArray.size_extract]; omega
  have hsz := fun W => sigsize_any h W hh
  rw [← hsig] at hsz
  have HSZ : Hid (∀ W, Calls Tryz.prog 132 #[.int .i64 h] W fun e w' => e = .returned (.int .i64 ((sig.size : Nat) : Int)) ∧ w' = W) := hsz
  have HDG : Hid (∀ W, Calls Tryz.prog 128 #[.string msg] W fun e w' => e = .returned (.agg (digV (HR msg)).toArray) ∧ Below W.heap.size W w') := fun W => rdigits_any msg W hm
  have HCH : Hid (∀ (c : Nat) W, c < 67 → Calls Tryz.prog 130 #[.string (pieceF (sig.extract 1 2145) c), .int .i64 ((15 - dig (HR msg) c : Nat) : Int)] W (strPost (stepF HR (finB (sig.extract 1 2145) c) (15 - dig (HR msg) c)) W)) := fun c W hc => by
    rw [show finB (sig.extract 1 2145) c = pieceF (sig.extract 1 2145) c by unfold finB; rw [if_pos hc]]
    exact rchained_any _ _ W (pieceF_size _ c (by omega)) (by omega)
  have HSL : Hid (∀ (c : Nat) W, c < 67 → (Instr.slice 9 (.string sig) (some (.int .i64 (1 + 32 * (c : Int)))) (some (.int .i64 (33 + 32 * (c : Int)))) none).run Tryz.prog W = .ok (.string (pieceF (sig.extract 1 2145) c)) W) := fun c W hc => by
    have := run_cut_str sig (1 + 32 * c) (33 + 32 * c) W (by omega) (by omega)
    rw [piece_cut sig c hc, show ((1 + 32 * c : Nat) : Int) = 1 + 32 * (c : Int) by omega, show ((33 + 32 * c : Nat) : Int) = 33 + 32 * (c : Int) by omega] at this
    exact this
  have HSB : Hid (∀ (q : Nat) W, q < h → (Instr.slice 9 (.string sig) (some (.int .i64 ((2145 + 32 * q : Nat) : Int))) (some (.int .i64 (((2145 + 32 * q : Nat) : Int) + 32))) none).run Tryz.prog W = .ok (.string (pieceF (sig.extract 2145 sig.size) q)) W) := fun q W hq => by
    have := run_cut_str sig (2145 + 32 * q) (2145 + 32 * q + 32) W (by omega) (by omega)
    rw [beside_cut sig h q hsig hq, show ((2145 + 32 * q + 32 : Nat) : Int) = ((2145 + 32 * q : Nat) : Int) + 32 by omega] at this
    exact this
  have HCI : Hid (∀ W v, LeafAt W v (besideF h sig) → Calls Tryz.prog 76 #[.string (finT HR (sig.extract 1 2145) msg), .int .i64 (keyN sig), .int .i64 ((2 ^ h : Nat) : Int), .string key, v] W (codePost (codeV ok) W)) := fun W v hl => by
    have := rci_any (finT HR (sig.extract 1 2145) msg) key (keyN sig) (2 ^ h) (besideF h sig) v W (by have := finT_size kT (sig.extract 1 2145) msg hV1; show (finT (sumOf kT) (sig.extract 1 2145) msg).size ≤ 20000; omega) (by omega) hkn (by omega) hl (by rw [beside_len]; omega) (beside_small sig h hsig)
    have e := incl_same kT (finT HR (sig.extract 1 2145) msg) key (keyN sig) (2 ^ h) (besideF h sig)
    rw [hok] at e
    rw [show HR = sumOf kT from rfl] at this ⊢
    rw [show HR = sumOf kT from rfl] at e
    rw [← e] at this
    exact this
  have HST : Hid (∀ c, (stepF HR (finB (sig.extract 1 2145) c) (15 - dig (HR msg) c)).size = 32) := fun c => stepF_size HR HR_size _ (finB_size _ hV1 c) _
  have HCS : Hid (∀ c, (chainsT HR (finB (sig.extract 1 2145)) (fun c => 15 - dig (HR msg) c) c).size = 32 * c) := chainsT_size HR HR_size (finB (sig.extract 1 2145)) (fun c => 15 - dig (HR msg) c) (finB_size _ hV1)
  have HCE : Hid (∀ c, chainsT HR (finB (sig.extract 1 2145)) (fun c => 15 - dig (HR msg) c) (c + 1) = chainsT HR (finB (sig.extract 1 2145)) (fun c => 15 - dig (HR msg) c) c ++ stepF HR (finB (sig.extract 1 2145) c) (15 - dig (HR msg) c)) := fun c => rfl
  have HC0 : Hid (chainsT HR (finB (sig.extract 1 2145)) (fun c => 15 - dig (HR msg) c) 0 = ⟨#[]⟩) := rfl
  have HBS : Hid (∀ q, besideF (q + 1) sig = besideF q sig ++ [pieceF (sig.extract 2145 sig.size) q]) := beside_snoc sig
  have HB0 : Hid (besideF 0 sig = []) := rfl
  have HBL : Hid ((besideF h sig).length = h) := beside_len sig h
  have HDV : Hid (∀ (c : Nat), c < 67 → (digV (HR msg))[c]? = some (.int .i64 (dig (HR msg) c : Nat))) := fun c hc => digV_get (HR msg) c hc
  have HDL : Hid (∀ c, dig (HR msg) c ≤ 15) := dig_le (HR msg)
  have idv := digV_info (HR msg)
  have odv := digV_one (HR msg)
  have ldv := digV_len (HR msg)
  have hpos : 0 < sig.size := by omega
  have b0 : (0 : Int) < (sig.size : Int) := by omega
  have hw : wrap64 ((sig[0]'hpos).toNat : Int) = ((keyN sig : Nat) : Int) := by
    have e : (sig[0]'hpos).toNat = keyN sig := by
      unfold keyN; rw [Array.getD_eq_getD_getElem?, Array.getElem?_eq_getElem (by exact hpos)]; rfl
    rw [e]
    have : keyN sig < 256 := by unfold keyN; exact UInt8.toNat_lt _
    unfold wrap64; omega
  have hwW : IntKind.i64.wrap ((sig[0]'hpos).toNat : Int) = ((keyN sig : Nat) : Int) := by
    have e : (sig[0]'hpos).toNat = keyN sig := by
      unfold keyN; rw [Array.getD_eq_getD_getElem?, Array.getElem?_eq_getElem (by exact hpos)]; rfl
    rw [e]
    have : keyN sig < 256 := by unfold keyN; exact UInt8.toNat_lt _
    exact wrap_small ((keyN sig : Nat) : Int) (by omega) (by omega)
  have hpwW : IntKind.i64.wrap ((2 : Int) ^ h) = ((2 ^ h : Nat) : Int) := pow_intW h hh
  have HS : Hid (sig.size = 2145 + 32 * h) := hsig
  have HKN : ¬ ((2 ^ h : Nat) : Int) ≤ ((keyN sig : Nat) : Int) := by omega
  have HCTE : Hid (finT HR (sig.extract 1 2145) msg = chainsT HR (finB (sig.extract 1 2145)) (fun c => 15 - dig (HR msg) c) 67) := rfl
  have hsb : sig.size ≤ 3000 := by omega
  generalize finT HR (sig.extract 1 2145) msg = FT at *
  generalize chainsT HR (finB (sig.extract 1 2145)) (fun c => 15 - dig (HR msg) c) = CT at *
  generalize pieceF (sig.extract 1 2145) = PV at *
  generalize pieceF (sig.extract 2145 sig.size) = PB at *
  generalize finB (sig.extract 1 2145) = FB at *
  generalize digV (HR msg) = D at *
  generalize dig (HR msg) = dg at *
  generalize keyN sig = kn at *
  generalize 2 ^ h = N at *
  obtain ⟨BS, hBS⟩ : ∃ BS : Nat → List ByteArray, BS = fun q => besideF q sig := ⟨_, rfl⟩
  rw [show besideF h sig = BS h by rw [hBS]] at HCI HBL
  rw [show besideF 0 sig = BS 0 by rw [hBS]] at HB0
  rw [show (∀ q, besideF (q + 1) sig = besideF q sig ++ [PB q]) = (∀ q, BS (q + 1) = BS q ++ [PB q]) by rw [hBS]] at HBS
  clear hok hm hsig hkn hN32 hV1 hsz hBS
  obtain ⟨i0, hi, hz, hszz, hby⟩ := info_strT
  go_enter Tryz.func84, Tryz.ntmps84
  go_wp2_with fail
  refine hf.mono ?_
  rintro e w1 ⟨rfl, hw1⟩
  obtain rfl : w = w1 := hw1.symm
  clear hf hw1
  go_wp2_with fail
  refine (HSZ.out w).mono ?_
  rintro e w1 ⟨rfl, hw1⟩
  obtain rfl : w = w1 := hw1.symm
  clear hw1
  go_wp2_with fail
  go_quiet (fail)
  go_wp2_with fail
  refine (HDG.out _).mono ?_
  rintro e w2 ⟨rfl, hb2⟩
  have hBd := below_draws (Below.refl w.heap.size w) nq
  have hB2 : Below w.heap.size w w2 := hBd.trans (hb2.mono hBd.size)
  clear hBd hb2
  have ht2 : (w2.alloc (.cells z67.toArray 180)).there w2.heap.size 0 D.length := by rw [ldv]; exact there_z67 w2
  go_wp2_with (first | (refine wpList_alloc_of rfl 180 rfl z67.toArray alloc_67 ?_) | (refine wpList_store_abs rfl 180 _ _ rfl w2.heap.size 0 D rfl rfl ht2 idv odv ?_; intro w3 _hw3 hr3 _ht3 hb3; clear _hw3 _ht3))
  have hb23 : Below w2.heap.size w2 w3 := ((Below.refl _ _).alloc (Nat.le_refl _) _).trans (hb3 _ (Nat.le_refl _))
  have hq3 : w2.heap.size < w3.heap.size := by have := (hb3 _ (Nat.le_refl _)).size; simp at this; omega
  have HB3 : Hid (Below w.heap.size w w3) := hB2.trans (hb23.mono hB2.size)
  have HR3 : Hid (w3.rangeAt w2.heap.size 0 D ∧ w2.heap.size < w3.heap.size) := ⟨hr3, hq3⟩
  clear hb23 hb3 hr3 ht2 hB2 hq3
  go_loopw [13, 14] (fun t i wr => ∃ c : Nat, c ≤ 67 ∧ t = .string (CT c) ∧ i = .int .i64 c ∧ Hid (Below w3.heap.size w3 wr)) (fun _ i _ => 67 - (intOf i).toNat)
  case atStart => exact ⟨0, by omega, by rw [HC0.out], rfl, Below.refl _ _⟩
  case round =>
    obtain ⟨c, hc, rfl, rfl, hJ⟩ := hrel
    by_cases hlt : c < 67
    · have c1 : (c : Int) < 67 := by omega
      have c0 : (0 : Int) ≤ (c : Int) := by omega
      have hch := fun W => HCH.out c W hlt
      have hsl := fun W => HSL.out c W hlt
      have s1 : (CT c).size ≤ 10000 := by rw [HCS.out c]; omega
      have s2 := HST.out c
      have HE : Hid (CT c ++ stepF HR (FB c) (15 - dg c) = CT (c + 1)) := (HCE.out c).symm
      have HCC : Hid (∀ W, Below w3.heap.size w3 W → W.cell? ⟨w2.heap.size, c, none⟩ = some (.int .i64 (dg c : Nat))) := fun W hb => by
        have := HR3.out.1 c _ (HDV.out c hlt)
        rw [Nat.zero_add] at this
        exact (hb.cell (p := ⟨w2.heap.size, c, none⟩) HR3.out.2).trans this
      have d15 := HDL.out c
      have hd15 : (15 : Int) - (dg c : Int) = ((15 - dg c : Nat) : Int) := by omega
      generalize stepF HR (FB c) (15 - dg c) = y at *
      generalize PV c = x at *
      generalize CT c = s at *
      obtain ⟨dc, hdc⟩ : ∃ dc, dc = 15 - dg c := ⟨_, rfl⟩
      rw [← hdc] at hch hd15
      generalize dg c = d at *
      simp only [← hd15] at hch
      clear hdc hd15
      have hm1 : IntKind.i64.wrap (32 * (c : Int)) = 32 * (c : Int) := wrap_small _ (by omega) (by omega)
      have hm2 : IntKind.i64.wrap (1 + 32 * (c : Int)) = 1 + 32 * (c : Int) := wrap_small _ (by omega) (by omega)
      have hm3 : IntKind.i64.wrap (33 + 32 * (c : Int)) = 33 + 32 * (c : Int) := wrap_small _ (by omega) (by omega)
      have hm4 : IntKind.i64.wrap (15 - (d : Int)) = 15 - (d : Int) := wrap_small _ (by omega) (by omega)
      go_wp2_with fail
      have hBr : Below w3.heap.size w3 wr.drew := hJ.out.drew
      have J0 : wr.drew.cell? ⟨w2.heap.size, c, none⟩ = some (.int .i64 (d : Nat)) := HCC.out _ hBr
      refine wp_region_noPanic ?_
      refine wp_region_held_drew (S := fun W => W.cell? ⟨w2.heap.size, c, none⟩ = some (.int .i64 (d : Nat))) (by kernel_rfl) J0 (fun _ => ?_)
      refine wpAnyH_take (i := 0) (v := ?_) rfl (by kernel_rfl) (by kernel_rfl) (by kernel_rfl) (fun _ _ _ h => h) (Or.inl ⟨by rfl, ?_⟩) J0 ?_
      rotate_left 1
      · intro w hSw; go_simp; try with_reducible rfl
      simp only [List.getElem_toArray, List.getElem_cons_zero, List.getElem_cons_succ, Act.put, List.setIfInBounds_toArray, List.set_cons_zero, List.set_cons_succ]
      refine wpAnyH_take (i := 1) (v := ?_) rfl (by kernel_rfl) (by kernel_rfl) (by kernel_rfl) (fun _ _ _ h => h) (Or.inl ⟨by rfl, ?_⟩) J0 ?_
      rotate_left 1
      · intro w hSw; go_simp; try with_reducible rfl
      simp only [List.getElem_toArray, List.getElem_cons_zero, List.getElem_cons_succ, Act.put, List.setIfInBounds_toArray, List.set_cons_zero, List.set_cons_succ]
      refine wpAnyH_take (i := 2) (v := ?_) rfl (by kernel_rfl) (by kernel_rfl) (by kernel_rfl) (fun _ _ _ h => h) (Or.inl ⟨by rfl, ?_⟩) J0 ?_
      rotate_left 1
      · intro w hSw; go_simp; try with_reducible rfl
      simp only [List.getElem_toArray, List.getElem_cons_zero, List.getElem_cons_succ, Act.put, List.setIfInBounds_toArray, List.set_cons_zero, List.set_cons_succ]
      refine wpAnyH_take (i := 3) (v := ?_) rfl (by kernel_rfl) (by kernel_rfl) (by kernel_rfl) (fun _ _ _ h => h) (Or.inl ⟨by rfl, ?_⟩) J0 ?_
      rotate_left 1
      · intro w hSw; go_simp; try with_reducible rfl
      simp only [List.getElem_toArray, List.getElem_cons_zero, List.getElem_cons_succ, Act.put, List.setIfInBounds_toArray, List.set_cons_zero, List.set_cons_succ]
      refine wpAnyH_take (i := 4) (v := ?_) rfl (by kernel_rfl) (by kernel_rfl) (by kernel_rfl) (fun _ _ _ h => h) (Or.inl ⟨by rfl, ?_⟩) J0 ?_
      rotate_left 1
      · intro w hSw; go_simp; try with_reducible rfl
      simp only [List.getElem_toArray, List.getElem_cons_zero, List.getElem_cons_succ, Act.put, List.setIfInBounds_toArray, List.set_cons_zero, List.set_cons_succ]
      refine wpAnyH_take (i := 5) (v := ?_) rfl (by kernel_rfl) (by kernel_rfl) (by kernel_rfl) (fun _ _ _ h => h) (Or.inl ⟨by rfl, ?_⟩) J0 ?_
      rotate_left 1
      · intro w hSw; go_simp; try with_reducible rfl
      simp only [List.getElem_toArray, List.getElem_cons_zero, List.getElem_cons_succ, Act.put, List.setIfInBounds_toArray, List.set_cons_zero, List.set_cons_succ]
      refine wpAnyH_take (i := 6) (v := ?_) rfl (by kernel_rfl) (by kernel_rfl) (by kernel_rfl) (fun _ _ _ h => h) (Or.inl ⟨by rfl, ?_⟩) J0 ?_
      rotate_left 1
      · intro w hSw; go_simp; try with_reducible rfl
      simp only [List.getElem_toArray, List.getElem_cons_zero, List.getElem_cons_succ, Act.put, List.setIfInBounds_toArray, List.set_cons_zero, List.set_cons_succ]
      refine wpAnyH_take (i := 7) (v := ?_) rfl (by kernel_rfl) (by kernel_rfl) (by kernel_rfl) (fun _ _ _ h => h) (Or.inl ⟨by rfl, ?_⟩) J0 ?_
      rotate_left 1
      · intro w hSw; go_simp; try with_reducible rfl
      simp only [List.getElem_toArray, List.getElem_cons_zero, List.getElem_cons_succ, Act.put, List.setIfInBounds_toArray, List.set_cons_zero, List.set_cons_succ]
      refine wpAnyH_take (i := 8) (v := ?_) rfl (by kernel_rfl) (by kernel_rfl) (by kernel_rfl) (fun _ _ _ h => h) (Or.inl ⟨by rfl, ?_⟩) J0 ?_
      rotate_left 1
      · intro w hSw; go_simp; try with_reducible rfl
      simp only [List.getElem_toArray, List.getElem_cons_zero, List.getElem_cons_succ, Act.put, List.setIfInBounds_toArray, List.set_cons_zero, List.set_cons_succ]
      refine wpAnyH_take (i := 9) (v := ?_) rfl (by kernel_rfl) (by kernel_rfl) (by kernel_rfl) (fun _ _ _ h => h) (Or.inl ⟨by rfl, ?_⟩) J0 ?_
      rotate_left 1
      · intro w hSw; go_simp; try with_reducible rfl
      simp only [List.getElem_toArray, List.getElem_cons_zero, List.getElem_cons_succ, Act.put, List.setIfInBounds_toArray, List.set_cons_zero, List.set_cons_succ]
      refine wpAnyH_take (i := 10) (v := ?_) rfl (by kernel_rfl) (by kernel_rfl) (by kernel_rfl) (fun _ _ _ h => h) (Or.inl ⟨by rfl, ?_⟩) J0 ?_
      rotate_left 1
      · intro w hSw; go_simp; try with_reducible rfl
      simp only [List.getElem_toArray, List.getElem_cons_zero, List.getElem_cons_succ, Act.put, List.setIfInBounds_toArray, List.set_cons_zero, List.set_cons_succ]
      refine wpAnyH_take (i := 11) (v := ?_) rfl (by kernel_rfl) (by kernel_rfl) (by kernel_rfl) (fun _ _ _ h => h) (Or.inl ⟨by rfl, ?_⟩) J0 ?_
      rotate_left 1
      · intro w hSw; go_simp; try with_reducible rfl
      simp only [List.getElem_toArray, List.getElem_cons_zero, List.getElem_cons_succ, Act.put, List.setIfInBounds_toArray, List.set_cons_zero, List.set_cons_succ]
      refine wpAnyH_ready (rs := [12]) (by kernel_rfl) (by simp) ?_
      refine AllReadyH.cons rfl (fun K hK => ?_) AllReadyH.nil
      rw [if_pos (by rfl)]
      go_simp
      refine (hch wr.drew).mono ?_
      rintro e w5 ⟨rfl, hb5⟩
      have hB5 : Below w3.heap.size w3 w5 := hBr.trans (hb5.mono hBr.size)
      have J5 := HCC.out _ hB5
      refine hK.out _ _ J5 (fun _ => ?_)
      clear hK K
      try simp only [List.getElem_toArray, List.getElem_cons_zero, List.getElem_cons_succ, Act.put, List.setIfInBounds_toArray, List.set_cons_zero, List.set_cons_succ]
      refine wpAnyH_take (i := 13) (v := ?_) rfl (by kernel_rfl) (by kernel_rfl) (by kernel_rfl) (fun _ _ _ h => h) (Or.inl ⟨by rfl, ?_⟩) J5 ?_
      rotate_left 1
      · intro w hSw; go_simp; try with_reducible rfl
      simp only [List.getElem_toArray, List.getElem_cons_zero, List.getElem_cons_succ, Act.put, List.setIfInBounds_toArray, List.set_cons_zero, List.set_cons_succ]
      refine ⟨by kernel_rfl, ?_⟩
      refine NoPanic.normal ?_
      go_wp2_with fail
      refine ⟨⟨c + 1, by omega, by rw [← HE.out], by go_num, hB5⟩, ?_⟩
      simp [intOf]; omega
    · have hc67 : c = 67 := by omega
      have c1 : ¬ (c : Int) < 67 := by omega
      have e67 : CT c = FT := by rw [hc67]; exact HCTE.out.symm
      rw [e67]
      clear hc67 e67 hlt hc
      have HB7 : Hid (Below w.heap.size w wr) := HB3.out.trans (hJ.out.mono HB3.out.size)
      have HOWN : Hid (wr.ownsRow wr.heap.size 9 1 (.slice none 0 0) 0 ((BS 0).map .string)) := by
        show wr.ownsRow _ _ _ _ _ _
        rw [HB0.out]; exact World.ownsRow_nil _ _ _ _
      clear hJ
      go_wp2_with fail
      go_loopw [16, 17] (fun v i w9 => ∃ (q : Nat) (u : Value), u = v ∧ q ≤ h ∧ i = .int .i64 ((2145 + 32 * q : Nat) : Int) ∧ Hid (w9.ownsRow wr.heap.size 9 1 u q ((BS q).map .string) ∧ Below wr.heap.size wr w9)) (fun _ i _ => 2145 + 32 * h - (intOf i).toNat)
      case atStart => exact ⟨0, _, rfl, by omega, rfl, HOWN.out, Below.refl _ _⟩
      case round =>
        obtain ⟨q, v, hvu, hq, rfl, hI⟩ := hrel
        subst hvu
        obtain ⟨m, hm⟩ : ∃ m : Nat, m = 2145 + 32 * q := ⟨_, rfl⟩
        have HM : Hid (m = 2145 + 32 * q) := hm
        have m3 : m ≤ 3000 := by omega
        have hsg := HS.out
        by_cases hlt : q < h
        · have q1 : (m : Int) < (sig.size : Int) := by omega
          have hsb2 := fun W => HSB.out q W hlt
          rw [← hm] at hsb2 ⊢
          have HBX := HBS.out q
          obtain ⟨x, hx⟩ : ∃ x, x = PB q := ⟨_, rfl⟩
          rw [← hx] at hsb2 HBX
          have HBY : Hid (BS (q + 1) = BS q ++ [x]) := HBX
          clear hm hsg hx HBX
          have ho2 : (wr.alloc (.cells #[.string x] 9)).ownsRow _ 9 1 v q ((BS q).map .string) := own_below' hI.out.1 ((Below.refl _ _).alloc (Nat.le_refl _) _)
          have hnews : ∀ j u, ([.string x] : List Value)[j]? = some u → (wr.alloc (.cells #[.string x] 9)).cell? ((⟨wr.heap.size, 0, none⟩ : Addr).add j) = some u := fun j u hu => by
            rw [Addr.add_mid, World.cell?_alloc_at _ _ _ _ rfl]
            simpa using hu
          have hs2 := (hI.out.2.alloc hI.out.2.size (.cells #[.string x] 9)).size
          have hBa := hI.out.2.alloc hI.out.2.size (.cells #[.string x] 9)
          have HBa : Hid (Below _ _ (wr.alloc (.cells #[.string x] 9))) := hBa
          clear hBa
          go_wp2_with (refine wpList_append_lies _ rfl _ _ 30 rfl _ 9 i0 _ 1 16 Tryz.underlying30 hi hz hszz hby rfl (by decide) v q _ rfl ho2 ⟨wr.heap.size, 0, none⟩ 1 1 [.string x] rfl rfl hnews (by simp [Value.oneCell']) (by decide) (by unfold maxLen; omega) (by omega) hs2 _ rfl ?_; intro g5 cap5 w5 ho5 hgr5 hat5 hlt5)
          refine ⟨⟨q + 1, _, rfl, by omega, ?_, ?_, ?_⟩, ?_⟩
          · congr 1; have := HM.out; omega
          · rw [HBY.out, List.map_append]; exact ho5
          · exact HBa.out.trans ((Below.refl _ _).grown hgr5 hs2 (fun g e => (ho2.lt g e).1))
          · simp [intOf]; have := HM.out; omega
        · obtain rfl : q = h := by omega
          have q1 : ¬ (m : Int) < (sig.size : Int) := by omega
          rw [← hm]
          clear hm hsg
          obtain ⟨ao, cap, rfl⟩ := own_form hI.out.1
          have HBE : Hid (Below w.heap.size w wr) := HB7.out.trans (hI.out.2.mono HB7.out.size)
          have hbd : Below wr.heap.size wr wr.drew := (Below.refl _ _).drew
          have hci := HCI.out wr.drew (.slice ao q cap) (leaf_own (by rw [HBL.out]; exact own_below' hI.out.1 hbd))
          go_wp2_with fail
          have J0 : Hid (Below w.heap.size w wr.drew) := HBE.out.drew
          refine wp_region_noPanic ?_
          refine wp_region_held_drew (S := fun W => Hid (Below w.heap.size w W)) (by kernel_rfl) J0 (fun _ => ?_)
          refine wpAnyH_take (i := 0) (v := ?_) rfl (by kernel_rfl) (by kernel_rfl) (by kernel_rfl) (fun _ _ _ h => h) (Or.inl ⟨by rfl, ?_⟩) J0 ?_
          rotate_left 1
          · intro w hSw; go_simp; try with_reducible rfl
          simp only [List.getElem_toArray, List.getElem_cons_zero, List.getElem_cons_succ, Act.put, List.setIfInBounds_toArray, List.set_cons_zero, List.set_cons_succ]
          refine wpAnyH_take (i := 1) (v := ?_) rfl (by kernel_rfl) (by kernel_rfl) (by kernel_rfl) (fun _ _ _ h => h) (Or.inl ⟨by rfl, ?_⟩) J0 ?_
          rotate_left 1
          · intro w hSw; go_simp; try with_reducible rfl
          simp only [List.getElem_toArray, List.getElem_cons_zero, List.getElem_cons_succ, Act.put, List.setIfInBounds_toArray, List.set_cons_zero, List.set_cons_succ]
          refine wpAnyH_take (i := 2) (v := ?_) rfl (by kernel_rfl) (by kernel_rfl) (by kernel_rfl) (fun _ _ _ h => h) (Or.inl ⟨by rfl, ?_⟩) J0 ?_
          rotate_left 1
          · intro w hSw; go_simp; try with_reducible rfl
          simp only [List.getElem_toArray, List.getElem_cons_zero, List.getElem_cons_succ, Act.put, List.setIfInBounds_toArray, List.set_cons_zero, List.set_cons_succ]
          refine wpAnyH_take (i := 3) (v := ?_) rfl (by kernel_rfl) (by kernel_rfl) (by kernel_rfl) (fun _ _ _ h => h) (Or.inl ⟨by rfl, ?_⟩) J0 ?_
          rotate_left 1
          · intro w hSw; go_simp; try with_reducible rfl
          simp only [List.getElem_toArray, List.getElem_cons_zero, List.getElem_cons_succ, Act.put, List.setIfInBounds_toArray, List.set_cons_zero, List.set_cons_succ]
          refine wpAnyH_take (i := 4) (v := ?_) rfl (by kernel_rfl) (by kernel_rfl) (by kernel_rfl) (fun _ _ _ h => h) (Or.inl ⟨by rfl, ?_⟩) J0 ?_
          rotate_left 1
          · intro w hSw; go_simp; try with_reducible rfl
          simp only [List.getElem_toArray, List.getElem_cons_zero, List.getElem_cons_succ, Act.put, List.setIfInBounds_toArray, List.set_cons_zero, List.set_cons_succ]
          refine wpAnyH_take (i := 5) (v := ?_) rfl (by kernel_rfl) (by kernel_rfl) (by kernel_rfl) (fun _ _ _ h => h) (Or.inl ⟨by rfl, ?_⟩) J0 ?_
          rotate_left 1
          · intro w hSw; go_simp; try with_reducible rfl
          simp only [List.getElem_toArray, List.getElem_cons_zero, List.getElem_cons_succ, Act.put, List.setIfInBounds_toArray, List.set_cons_zero, List.set_cons_succ]
          refine wpAnyH_take (i := 6) (v := ?_) rfl (by kernel_rfl) (by kernel_rfl) (by kernel_rfl) (fun _ _ _ h => h) (Or.inl ⟨by rfl, ?_⟩) J0 ?_
          rotate_left 1
          · intro w hSw; go_simp; try with_reducible rfl
          simp only [List.getElem_toArray, List.getElem_cons_zero, List.getElem_cons_succ, Act.put, List.setIfInBounds_toArray, List.set_cons_zero, List.set_cons_succ]
          refine wpAnyH_take (i := 7) (v := ?_) rfl (by kernel_rfl) (by kernel_rfl) (by kernel_rfl) (fun _ _ _ h => h) (Or.inl ⟨by rfl, ?_⟩) J0 ?_
          rotate_left 1
          · intro w hSw; go_simp; try with_reducible rfl
          simp only [List.getElem_toArray, List.getElem_cons_zero, List.getElem_cons_succ, Act.put, List.setIfInBounds_toArray, List.set_cons_zero, List.set_cons_succ]
          refine wpAnyH_ready (rs := [8]) (by kernel_rfl) (by simp) ?_
          refine AllReadyH.cons rfl (fun K hK => ?_) AllReadyH.nil
          rw [if_pos (by rfl)]
          go_simp
          refine (hci).mono ?_
          rintro e w5 ⟨rfl, hb5⟩
          have J5 : Hid (Below w.heap.size w w5) := J0.out.trans (hb5.mono J0.out.size)
          refine hK.out _ _ J5 (fun _ => ?_)
          clear hK K
          try simp only [List.getElem_toArray, List.getElem_cons_zero, List.getElem_cons_succ, Act.put, List.setIfInBounds_toArray, List.set_cons_zero, List.set_cons_succ]
          refine wpAnyH_take (i := 9) (v := ?_) rfl (by kernel_rfl) (by kernel_rfl) (by kernel_rfl) (fun _ _ _ h => h) (Or.inl ⟨by rfl, ?_⟩) J5 ?_
          rotate_left 1
          · intro w hSw; go_simp; try with_reducible rfl
          simp only [List.getElem_toArray, List.getElem_cons_zero, List.getElem_cons_succ, Act.put, List.setIfInBounds_toArray, List.set_cons_zero, List.set_cons_succ]
          refine ⟨by kernel_rfl, ?_⟩
          refine NoPanic.normal ?_
          have hBF := J5.out
          cases ok
          · rw [show codeV false = .int .i64 14 from rfl]
            go_wp2_with fail
            go_ret2
            exact ⟨rfl, hBF⟩
          · rw [show codeV true = .int .i64 0 from rfl]
            go_wp2_with fail
            go_ret2
            exact ⟨rfl, hBF⟩
end Go.Proofs.YtijdnpoenpjnlaaGreatDoor
set_option linter.unusedVariables false
set_option linter.unusedSimpArgs false
namespace Go.Proofs.YtijdnpoenpjnlaaGreatDoor
open Go.RowKit

set_option maxRecDepth 10000 in
set_option maxHeartbeats 400000 in
theorem rsign_seed (seed : ByteArray) (h k : Int) (msg : ByteArray) (w : World) (hs : seed.size ≤ 140737488355000) (hc : ¬ (seed.size = 32 ∧ 0 ≤ h ∧ h ≤ 5)) :
    Calls Tryz.prog 82 #[.string seed, .int .i64 h, .int .i64 k, .string msg] w fun e w' => e = .returned (.tuple #[.string ⟨#[]⟩, .int .i64 11]) ∧ Below w.heap.size w w' := by
  have hf := seeded_any seed h w hs
  rw [show decide (seed.size = 32 ∧ 0 ≤ h ∧ h ≤ 5) = false from decide_eq_false hc] at hf
  clear hc hs
  go_enter Tryz.func82, Tryz.ntmps82
  go_wp2_with fail
  refine hf.mono ?_
  rintro e w1 ⟨rfl, hw1⟩
  obtain rfl : w = w1 := hw1.symm
  clear hf hw1
  go_wp2_with fail
  go_ret2
  exact ⟨rfl, Below.refl _ _⟩
set_option maxRecDepth 10000 in
set_option maxHeartbeats 400000 in
theorem rsign_ix (seed : ByteArray) (h : Nat) (k : Int) (msg : ByteArray) (w : World) (hs : seed.size = 32) (hh : h ≤ 5) (hk : k < 0 ∨ ((2 ^ h : Nat) : Int) ≤ k) :
    Calls Tryz.prog 82 #[.string seed, .int .i64 h, .int .i64 k, .string msg] w fun e w' => e = .returned (.tuple #[.string ⟨#[]⟩, .int .i64 10]) ∧ Below w.heap.size w w' := by
  have hf := seeded_any seed h w (by omega)
  rw [show decide (seed.size = 32 ∧ 0 ≤ (h : Int) ∧ (h : Int) ≤ 5) = true from decide_eq_true ⟨hs, by omega, by omega⟩] at hf
  have hpw := pow_int h hh
  generalize 2 ^ h = N at *
  by_cases k0 : k < 0
  · clear hk
    go_enter Tryz.func82, Tryz.ntmps82
    go_wp2_with fail
    refine hf.mono ?_
    rintro e w1 ⟨rfl, hw1⟩
    obtain rfl : w = w1 := hw1.symm
    clear hf hw1
    go_wp2_with fail
    go_ret2
    exact ⟨rfl, Below.refl _ _⟩
  · have k1 : (N : Int) ≤ k := by omega
    clear hk
    go_enter Tryz.func82, Tryz.ntmps82
    go_wp2_with fail
    refine hf.mono ?_
    rintro e w1 ⟨rfl, hw1⟩
    obtain rfl : w = w1 := hw1.symm
    clear hf hw1
    go_wp2_with fail
    go_ret2
    exact ⟨rfl, Below.refl _ _⟩
/-- What the reference's Sign answers. -/
def rsignV (seed : ByteArray) (h k : Int) (msg : ByteArray) : Value :=
  if seed.size = 32 ∧ 0 ≤ h ∧ h ≤ 5 then
    if 0 ≤ k ∧ k < ((2 ^ h.toNat : Nat) : Int) then .tuple #[.string (sigF HR seed h.toNat k.toNat msg), .int .i64 0] else .tuple #[.string ⟨#[]⟩, .int .i64 10]
  else .tuple #[.string ⟨#[]⟩, .int .i64 11]
theorem rsign_all (seed : ByteArray) (h k : Int) (msg : ByteArray) (w : World) (hs : seed.size ≤ 140737488355000) (hm : msg.size ≤ 1000000) :
    Calls Tryz.prog 82 #[.string seed, .int .i64 h, .int .i64 k, .string msg] w fun e w' => e = .returned (rsignV seed h k msg) ∧ Below w.heap.size w w' := by
  by_cases hc : seed.size = 32 ∧ 0 ≤ h ∧ h ≤ 5
  · obtain ⟨n, rfl⟩ : ∃ n : Nat, h = n := ⟨h.toNat, by omega⟩
    by_cases hk : 0 ≤ k ∧ k < ((2 ^ n : Nat) : Int)
    · obtain ⟨i, rfl⟩ : ∃ i : Nat, k = i := ⟨k.toNat, by omega⟩
      rw [show rsignV seed (n : Int) (i : Int) msg = .tuple #[.string (sigF HR seed n i msg), .int .i64 0] by unfold rsignV; rw [if_pos hc, if_pos (by simpa using hk)]; simp]
      exact rsign_any seed n i msg w hc.1 (by omega) (by have := hk.2; omega) hm
    · rw [show rsignV seed (n : Int) k msg = .tuple #[.string ⟨#[]⟩, .int .i64 10] by unfold rsignV; rw [if_pos hc, if_neg (by simpa using hk)]]
      exact rsign_ix seed n k msg w hc.1 (by omega) (by omega)
  · rw [show rsignV seed h k msg = .tuple #[.string ⟨#[]⟩, .int .i64 11] by unfold rsignV; rw [if_neg hc]]
    exact rsign_seed seed h k msg w hs hc
set_option maxRecDepth 10000 in
set_option maxHeartbeats 400000 in
theorem rcheck_seed (key : ByteArray) (h : Int) (msg sig : ByteArray) (w : World) (hs : key.size ≤ 140737488355000) (hc : ¬ (key.size = 32 ∧ 0 ≤ h ∧ h ≤ 5)) :
    Calls Tryz.prog 84 #[.string key, .int .i64 h, .string msg, .string sig] w fun e w' => e = .returned (.tuple #[.int .i64 0, .int .i64 11]) ∧ Below w.heap.size w w' := by
  have hf := seeded_any key h w hs
  rw [show decide (key.size = 32 ∧ 0 ≤ h ∧ h ≤ 5) = false from decide_eq_false hc] at hf
  clear hc hs
  go_enter Tryz.func84, Tryz.ntmps84
  go_wp2_with fail
  refine hf.mono ?_
  rintro e w1 ⟨rfl, hw1⟩
  obtain rfl : w = w1 := hw1.symm
  clear hf hw1
  go_wp2_with fail
  go_ret2
  exact ⟨rfl, Below.refl _ _⟩
set_option maxRecDepth 10000 in
set_option maxHeartbeats 400000 in
theorem rcheck_bad (key : ByteArray) (h : Nat) (msg sig : ByteArray) (w : World) (hk : key.size = 32) (hh : h ≤ 5) (hc : ¬ sig.size = 2145 + 32 * h ∨ sig.size = 2145 + 32 * h ∧ 2 ^ h ≤ keyN sig) (hsz0 : sig.size ≤ 1000000) :
    Calls Tryz.prog 84 #[.string key, .int .i64 h, .string msg, .string sig] w fun e w' => e = .returned (.tuple #[.int .i64 0, .int .i64 13]) ∧ Below w.heap.size w w' := by
  have hf := seeded_any key h w (by omega)
  rw [show decide (key.size = 32 ∧ 0 ≤ (h : Int) ∧ (h : Int) ≤ 5) = true from decide_eq_true ⟨hk, by omega, by omega⟩] at hf
  have hsz := fun W => sigsize_any h W hh
  have hpw := pow_int h hh
  have hpwW := pow_intW h hh
  rcases hc with hc | ⟨hc, hkn⟩
  · obtain ⟨M, hM⟩ : ∃ M : Nat, M = 2145 + 32 * h := ⟨_, rfl⟩
    rw [← hM] at hsz hc
    have hne : ((sig.size : Int) == (M : Int)) = false := by rw [beq_eq_false_iff_ne]; omega
    have hne2 : ((sig.size : Int) != (M : Int)) = true := by simp [bne, hne]
    clear hM hc
    go_enter Tryz.func84, Tryz.ntmps84
    go_wp2_with fail
    refine hf.mono ?_
    rintro e w1 ⟨rfl, hw1⟩
    obtain rfl : w = w1 := hw1.symm
    clear hf hw1
    go_wp2_with fail
    refine (hsz w).mono ?_
    rintro e w1 ⟨rfl, hw1⟩
    obtain rfl : w = w1 := hw1.symm
    clear hsz hw1
    go_wp2_with fail
    go_quiet (fail)
    go_wp2_with fail
    go_ret2
    exact ⟨rfl, below_draws (Below.refl _ _) _⟩
  · rw [← hc] at hsz
    have hpos : 0 < sig.size := by omega
    have b0 : (0 : Int) < (sig.size : Int) := by omega
    have hw : wrap64 ((sig[0]'hpos).toNat : Int) = ((keyN sig : Nat) : Int) := by
      have e : (sig[0]'hpos).toNat = keyN sig := by
        unfold keyN; rw [Array.getD_eq_getD_getElem?, Array.getElem?_eq_getElem (by exact hpos)]; rfl
      rw [e]
      have : keyN sig < 256 := by unfold keyN; exact UInt8.toNat_lt _
      unfold wrap64; omega
    clear hc
    generalize keyN sig = kn at *
    generalize 2 ^ h = N at *
    have hkn2 : (N : Int) ≤ (kn : Int) := by omega
    go_enter Tryz.func84, Tryz.ntmps84
    go_wp2_with fail
    refine hf.mono ?_
    rintro e w1 ⟨rfl, hw1⟩
    obtain rfl : w = w1 := hw1.symm
    clear hf hw1
    go_wp2_with fail
    refine (hsz w).mono ?_
    rintro e w1 ⟨rfl, hw1⟩
    obtain rfl : w = w1 := hw1.symm
    clear hsz hw1
    go_wp2_with fail
    go_quiet (fail)
    go_wp2_with fail
    go_ret2
    exact ⟨rfl, below_draws (Below.refl _ _) _⟩
def rcheckV (key : ByteArray) (h : Int) (msg sig : ByteArray) : Value :=
  if key.size = 32 ∧ 0 ≤ h ∧ h ≤ 5 then
    if sigOk kT key h.toNat msg sig then .tuple #[.int .i64 (keyN sig), .int .i64 0] else .tuple #[.int .i64 0, .int .i64 13]
  else .tuple #[.int .i64 0, .int .i64 11]
theorem rcheck_all (key : ByteArray) (h : Int) (msg sig : ByteArray) (w : World) (hs : key.size ≤ 140737488355000) (hm : msg.size ≤ 1000000) (hg : sig.size ≤ 1000000) :
    Calls Tryz.prog 84 #[.string key, .int .i64 h, .string msg, .string sig] w fun e w' => e = .returned (rcheckV key h msg sig) ∧ Below w.heap.size w w' := by
  by_cases hc : key.size = 32 ∧ 0 ≤ h ∧ h ≤ 5
  · obtain ⟨n, rfl⟩ : ∃ n : Nat, h = n := ⟨h.toNat, by omega⟩
    have hn : n ≤ 5 := by omega
    have e1 : rcheckV key (n : Int) msg sig = if sigOk kT key n msg sig then .tuple #[.int .i64 (keyN sig), .int .i64 0] else .tuple #[.int .i64 0, .int .i64 13] := by unfold rcheckV; rw [if_pos hc]; simp
    rw [e1]
    by_cases hz : sig.size = 2145 + 32 * n
    · by_cases hk : keyN sig < 2 ^ n
      · have e2 : sigOk kT key n msg sig = inclOk kT (finT HR (sig.extract 1 2145) msg) (keyN sig) (2 ^ n) key (besideF n sig) := by unfold sigOk; simp [hz, hk]; rfl
        rw [e2]
        exact rcheck_core key n msg sig _ w hn hc.1 hm hz hk rfl
      · have e2 : sigOk kT key n msg sig = false := by unfold sigOk; simp [hk]
        rw [e2]
        exact rcheck_bad key n msg sig w hc.1 hn (Or.inr ⟨hz, by omega⟩) hg
    · have e2 : sigOk kT key n msg sig = false := by unfold sigOk; simp [hz]
      rw [e2]
      exact rcheck_bad key n msg sig w hc.1 hn (Or.inl hz) hg
  · rw [show rcheckV key h msg sig = .tuple #[.int .i64 0, .int .i64 11] by unfold rcheckV; rw [if_neg hc]]
    exact rcheck_seed key h msg sig w hs hc
end Go.Proofs.YtijdnpoenpjnlaaGreatDoor
