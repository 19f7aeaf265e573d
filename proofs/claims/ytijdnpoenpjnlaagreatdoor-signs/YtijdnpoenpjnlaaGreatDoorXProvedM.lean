import Derived.Test.YtijdnpoenpjnlaaGreatDoorTPathM
import Derived.Test.YtijdnpoenpjnlaaGreatDoorRTold
import Derived.Test.YtijdnpoenpjnlaaGreatDoorZMathM
set_option linter.unusedVariables false
set_option linter.unusedSimpArgs false
namespace Go.Proofs.YtijdnpoenpjnlaaGreatDoor
open Go.RowKit

/-- What proved leaves: a list of its own, and true. -/
def provPost (w : World) (ls : List ByteArray) (e : Ending) (w' : World) : Prop := ∃ (F : List ByteArray) (ao : Option Addr) (cap M : Nat), e = .returned (.tuple #[.slice ao M cap, .bool true]) ∧ M = F.length ∧ w'.ownsRow w.heap.size 9 1 (.slice ao M cap) M (F.map .string) ∧ F.length ≤ ls.length ∧ (∀ b ∈ F, b.size ≤ 20000) ∧ Below w.heap.size w w'

theorem xincl_sizes (H : ByteArray → ByteArray) (hH : ∀ s, (H s).size = 32) : ∀ (n : Nat) (l : List ByteArray) (i : Nat), l.length = n → ∀ b ∈ inclF H l i, b.size = 32 := by
  intro n
  induction n using Nat.strongRecOn with
  | _ n ih =>
  intro l i hl b hb
  by_cases h2 : 2 ≤ l.length
  · have hk0 := halfN_pos l.length
    have hk1 := halfN_lt h2
    by_cases hik : i < halfN l.length
    · rw [inclF_left H h2 hik] at hb
      rcases List.mem_append.1 hb with hb | hb
      · exact ih (halfN l.length) (by omega) (l.take (halfN l.length)) i (by simp; omega) b hb
      · simp at hb; rw [hb]; exact rootF_size H hH _
    · rw [inclF_right H h2 hik] at hb
      rcases List.mem_append.1 hb with hb | hb
      · exact ih (l.length - halfN l.length) (by omega) (l.drop (halfN l.length)) (i - halfN l.length) (by simp) b hb
      · simp at hb; rw [hb]; exact rootF_size H hH _
  · rw [inclF_one H (by omega)] at hb; cases hb

set_option maxRecDepth 10000 in
set_option maxHeartbeats 1000000 in
theorem proved_cons_err (p : Nat) (v : Value) (ls : List ByteArray) (i : Int) (w : World) (G : Glob p w) (hp : p < w.heap.size) (hl : LeafAt w v ls) (hn : ls.length ≤ 1000000) (hs : ∀ s ∈ ls, s.size ≤ 20000) (hi : i < 0 ∨ (ls.length : Int) < i) :
    Calls Tryz.prog 34 #[v, .int .i64 i, .bool true] w (provPost w ls) := by
  have h1 := handed_any v ls w hl hn
  have h3 := fun W (H : HandAt w.heap.size W ls) (hb : Below w.heap.size w W) => still_any w.heap.size v ls W H (hl.below hb) hn
  have HG : Hid (Glob p w) := G
  obtain ⟨ao, cap, rfl⟩ := leaf_form hl
  have H3 : Hid (∀ W (H : HandAt w.heap.size W ls) (hb : Below w.heap.size w W), Calls Tryz.prog 67 #[.slice (some ⟨w.heap.size, 0, none⟩) ls.length (ls.length + 2), .slice ao ls.length cap] W fun e w' => e = .returned (.bool true) ∧ W.grownBy w' (some w.heap.size)) := h3
  clear h3 hl hs G
  obtain ⟨N, hN⟩ : ∃ N, N = ls.length := ⟨_, rfl⟩
  have HN : Hid (N = ls.length) := hN
  rw [← hN] at hn hi ⊢ h1 H3
  clear hN
  have HI := hi
  rcases hi with hi | hi
  all_goals
    try (have h0 : ¬ i < 0 := by omega)
    go_enter Tryz.func34, Tryz.ntmps34
    go_wp2_with fail
    refine h1.mono ?_
    rintro e w1 ⟨rfl, K1, hb1⟩
    clear h1
    have hz1 := K1.lt
    go_wp2_with fail
    refine (cons_err (some ⟨w.heap.size, 0, none⟩) N (N + 2) i w1 HI).mono ?_
    rintro e w2 ⟨rfl, hw2⟩
    obtain rfl : w1 = w2 := hw2.symm
    clear hw2
    rw [show errIx = .iface 138 (.int .i64 10) from rfl]
    go_wp2_with fail
    refine (H3.out w1 K1 hb1).mono ?_
    rintro e w4 ⟨rfl, ho4⟩
    have hB4 : Below w.heap.size w w4 := below_off hb1 ho4 (Nat.le_refl _) hb1.size
    have G4 : Glob p w4 := HG.out.below (hB4.mono (Nat.le_of_lt hp))
    have hs4 := hB4.size
    go_wp2_with fail
    refine (ltold_hit 10 10 w4 G4.err (by have := G4.le; omega)).mono ?_
    rintro e w5 ⟨rfl, hb5⟩
    have hB5 : Below w.heap.size w w5 := hB4.trans (hb5.mono hs4)
    rw [show (decide ((10 : Int) = 10) && decide ((10 : Int) ≠ 0)) = true from rfl]
    go_wp2_with fail
    refine (same_eq (.slice none 0 0) (.slice none 0 0) [] w5 (Or.inl ⟨rfl, _, _, rfl⟩) (Or.inl ⟨rfl, _, _, rfl⟩) (by simp)).mono ?_
    rintro e w6 ⟨rfl, hb6⟩
    go_wp2_with fail
    go_ret2
    exact ⟨[], none, 0, 0, rfl, rfl, World.ownsRow_nil _ _ _ _, Nat.zero_le _, (fun b h => by cases h), hB5.trans (hb6.mono hB5.size)⟩

set_option maxRecDepth 10000 in
set_option maxHeartbeats 1000000 in
theorem proved_incl_err (p : Nat) (v : Value) (ls : List ByteArray) (i : Int) (w : World) (G : Glob p w) (hp : p < w.heap.size) (hl : LeafAt w v ls) (hn : ls.length ≤ 1000000) (hs : ∀ s ∈ ls, s.size ≤ 20000) (hi : i < 0 ∨ (ls.length : Int) ≤ i) :
    Calls Tryz.prog 34 #[v, .int .i64 i, .bool false] w (provPost w ls) := by
  have h1 := handed_any v ls w hl hn
  have h3 := fun W (H : HandAt w.heap.size W ls) (hb : Below w.heap.size w W) => still_any w.heap.size v ls W H (hl.below hb) hn
  have HG : Hid (Glob p w) := G
  obtain ⟨ao, cap, rfl⟩ := leaf_form hl
  have H3 : Hid (∀ W (H : HandAt w.heap.size W ls) (hb : Below w.heap.size w W), Calls Tryz.prog 67 #[.slice (some ⟨w.heap.size, 0, none⟩) ls.length (ls.length + 2), .slice ao ls.length cap] W fun e w' => e = .returned (.bool true) ∧ W.grownBy w' (some w.heap.size)) := h3
  clear h3 hl hs G
  obtain ⟨N, hN⟩ : ∃ N, N = ls.length := ⟨_, rfl⟩
  have HN : Hid (N = ls.length) := hN
  rw [← hN] at hn hi ⊢ h1 H3
  clear hN
  have HI := hi
  rcases hi with hi | hi
  all_goals
    try (have h0 : ¬ i < 0 := by omega)
    go_enter Tryz.func34, Tryz.ntmps34
    go_wp2_with fail
    refine h1.mono ?_
    rintro e w1 ⟨rfl, K1, hb1⟩
    clear h1
    have hz1 := K1.lt
    go_wp2_with fail
    refine (incl_err (some ⟨w.heap.size, 0, none⟩) N (N + 2) i w1 HI).mono ?_
    rintro e w2 ⟨rfl, hw2⟩
    obtain rfl : w1 = w2 := hw2.symm
    clear hw2
    rw [show errIx = .iface 138 (.int .i64 10) from rfl]
    go_wp2_with fail
    refine (H3.out w1 K1 hb1).mono ?_
    rintro e w4 ⟨rfl, ho4⟩
    have hB4 : Below w.heap.size w w4 := below_off hb1 ho4 (Nat.le_refl _) hb1.size
    have G4 : Glob p w4 := HG.out.below (hB4.mono (Nat.le_of_lt hp))
    have hs4 := hB4.size
    go_wp2_with fail
    refine (ltold_hit 10 10 w4 G4.err (by have := G4.le; omega)).mono ?_
    rintro e w5 ⟨rfl, hb5⟩
    have hB5 : Below w.heap.size w w5 := hB4.trans (hb5.mono hs4)
    rw [show (decide ((10 : Int) = 10) && decide ((10 : Int) ≠ 0)) = true from rfl]
    go_wp2_with fail
    refine (same_eq (.slice none 0 0) (.slice none 0 0) [] w5 (Or.inl ⟨rfl, _, _, rfl⟩) (Or.inl ⟨rfl, _, _, rfl⟩) (by simp)).mono ?_
    rintro e w6 ⟨rfl, hb6⟩
    go_wp2_with fail
    go_ret2
    exact ⟨[], none, 0, 0, rfl, rfl, World.ownsRow_nil _ _ _ _, Nat.zero_le _, (fun b h => by cases h), hB5.trans (hb6.mono hB5.size)⟩

set_option maxRecDepth 10000 in
set_option maxHeartbeats 1000000 in
theorem proved_cons_zero (p : Nat) (v : Value) (ls : List ByteArray) (i : Nat) (w : World) (G : Glob p w) (hp : p < w.heap.size) (hl : LeafAt w v ls) (hn : ls.length ≤ 1000000) (hs : ∀ s ∈ ls, s.size ≤ 20000) (hi : i = 0) :
    Calls Tryz.prog 34 #[v, .int .i64 i, .bool true] w (provPost w ls) := by
  have h1 := handed_any v ls w hl hn
  have h3 := fun W (H : HandAt w.heap.size W ls) (hb : Below w.heap.size w W) => still_any w.heap.size v ls W H (hl.below hb) hn
  have HG : Hid (Glob p w) := G
  obtain ⟨F, hF⟩ : ∃ F, F = consF (sumOf kT) ls i := ⟨_, rfl⟩
  have HF0 : Hid (F = []) := by show F = []; rw [hF]; unfold consF; rw [if_pos hi]
  have hFl : Hid (F.length ≤ ls.length) := by rw [HF0.out]; exact Nat.zero_le _
  have hFs : Hid (∀ b ∈ F, b.size ≤ 20000) := by rw [HF0.out]; intro b h; cases h
  have h2 : ∀ W (H : HandAt w.heap.size W ls) (hb : Below w.heap.size w W), Calls Tryz.prog 69 #[.slice (some ⟨w.heap.size, 0, none⟩) ls.length (ls.length + 2), .int .i64 i] W (consPost W F) := fun W H hb => by
    rw [hF]; exact cons_any kT ls _ i W (by omega) (by omega) H.leaf (fun s h => by have := hs s h; omega) ((G.tab hp).below hb)
  have H2 : Hid (∀ W (H : HandAt w.heap.size W ls) (hb : Below w.heap.size w W), Calls Tryz.prog 69 #[.slice (some ⟨w.heap.size, 0, none⟩) ls.length (ls.length + 2), .int .i64 i] W (consPost W F)) := h2
  clear h2
  obtain ⟨ao, cap, rfl⟩ := leaf_form hl
  have H3 : Hid (∀ W (H : HandAt w.heap.size W ls) (hb : Below w.heap.size w W), Calls Tryz.prog 67 #[.slice (some ⟨w.heap.size, 0, none⟩) ls.length (ls.length + 2), .slice ao ls.length cap] W fun e w' => e = .returned (.bool true) ∧ W.grownBy w' (some w.heap.size)) := h3
  clear h3 hl hs G
  clear hF
  obtain ⟨N, hN⟩ : ∃ N, N = ls.length := ⟨_, rfl⟩
  have HN : Hid (N = ls.length) := hN
  rw [← hN] at hn ⊢ h1 H3
  rw [← hN] at H2
  clear hN
  obtain ⟨z, hz⟩ : ∃ z : Int, z = (i : Int) := ⟨_, rfl⟩
  have i0 : ¬ z < 0 := by omega
  have i1 : ¬ (N : Int) < z := by omega
  have i2 : ¬ (0 : Int) < z := by omega
  rw [← hz] at H2 ⊢
  clear hi hz
  go_enter Tryz.func34, Tryz.ntmps34
  go_wp2_with fail
  refine h1.mono ?_
  rintro e w1 ⟨rfl, K1, hb1⟩
  clear h1
  have hz1 := K1.lt
  go_wp2_with fail
  refine (H2.out w1 K1 hb1).mono ?_
  rintro e w2 ⟨ao2, cap2, rfl, ho2, hb2⟩
  have hB2 : Below w.heap.size w w2 := hb1.trans (hb2.mono hb1.size)
  have K2 := K1.below hb2
  obtain ⟨M, hM⟩ : ∃ M, M = F.length := ⟨_, rfl⟩
  have HM : Hid (M = F.length) := hM
  have hos2 : Hid (w2.ownsRow w1.heap.size 9 1 (.slice ao2 F.length cap2) F.length (F.map .string)) := ho2
  rw [← hM]
  clear hM ho2
  go_wp2_with fail
  have hB3 : Below w.heap.size w w2 := hB2
  have K3 : HandAt w.heap.size w2 ls := K2
  have hp3 : w2.ownsRow w1.heap.size 9 1 (.slice ao2 F.length cap2) F.length (F.map .string) := hos2.out
  have HP : Hid (w2.ownsRow w1.heap.size 9 1 (.slice ao2 F.length cap2) F.length (F.map .string)) := hp3
  clear hp3
  refine (H3.out w2 K3 hB3).mono ?_
  rintro e w4 ⟨rfl, ho4⟩
  have hB4 : Below w.heap.size w w4 := below_off hB3 ho4 (Nat.le_refl _) hB3.size
  have HP4 : Hid (w4.ownsRow w1.heap.size 9 1 (.slice ao2 F.length cap2) F.length (F.map .string)) := HP.out.kept ho4 (Or.inr fun e => by have := (HP.out.lt _ e).1; omega)
  go_wp2_with (go_at_call 61; refine (ltold_nil 0 _).mono ?_; rintro e wx ⟨rfl, hwx⟩; obtain rfl : w4 = wx := hwx.symm; clear hwx; rw [show decide ((0 : Int) = 0) = true from rfl])
  have hsm := same_eq (.slice ao2 F.length cap2) (.slice none 0 0) F w4 (leaf_own HP4.out) (Or.inl ⟨HF0.out, _, _, rfl⟩) (by have := hFl.out; have := HN.out; omega)
  rw [← HM.out] at hsm
  refine hsm.mono ?_
  rintro e w6 ⟨rfl, hb6⟩
  clear hsm
  have HP6 := own_mono (own_below' HP4.out hb6) hb1.size
  rw [← HM.out] at HP6
  have HP7 : Hid (w6.ownsRow w.heap.size 9 1 (.slice ao2 M cap2) M (F.map .string)) := HP6
  clear HP6
  go_wp2_with fail
  go_ret2
  exact ⟨F, ao2, cap2, M, rfl, HM.out, HP7.out, hFl.out, hFs.out, hB4.trans (hb6.mono hB4.size)⟩

set_option maxRecDepth 10000 in
set_option maxHeartbeats 1000000 in
theorem proved_cons (p : Nat) (v : Value) (ls : List ByteArray) (i : Nat) (w : World) (G : Glob p w) (hp : p < w.heap.size) (hl : LeafAt w v ls) (hn : ls.length ≤ 1000000) (hs : ∀ s ∈ ls, s.size ≤ 20000) (hi : 0 < i) (hiN : i ≤ ls.length) :
    Calls Tryz.prog 34 #[v, .int .i64 i, .bool true] w (provPost w ls) := by
  have h1 := handed_any v ls w hl hn
  have h3 := fun W (H : HandAt w.heap.size W ls) (hb : Below w.heap.size w W) => still_any w.heap.size v ls W H (hl.below hb) hn
  have HG : Hid (Glob p w) := G
  obtain ⟨F, hF⟩ : ∃ F, F = grownF HR ls i true := ⟨_, rfl⟩
  have hFl : Hid (F.length ≤ ls.length) := by rw [hF]; exact grownF_len HR _ ls i true rfl hi hiN
  have hFs : Hid (∀ b ∈ F, b.size ≤ 20000) := by rw [hF]; intro b h; have := grownF_sizes HR HR_size _ ls i true rfl hi hiN b h; omega
  have h2 : ∀ W (H : HandAt w.heap.size W ls) (hb : Below w.heap.size w W), Calls Tryz.prog 69 #[.slice (some ⟨w.heap.size, 0, none⟩) ls.length (ls.length + 2), .int .i64 i] W (consPost W F) := fun W H hb => by
    rw [hF]; exact by have := cons_any kT ls _ i W (by omega) (by omega) H.leaf (fun s h => by have := hs s h; omega) ((G.tab hp).below hb); rw [show consF (sumOf kT) ls i = grownF HR ls i true by unfold consF; rw [if_neg (by omega)]; rfl] at this; exact this
  have H2 : Hid (∀ W (H : HandAt w.heap.size W ls) (hb : Below w.heap.size w W), Calls Tryz.prog 69 #[.slice (some ⟨w.heap.size, 0, none⟩) ls.length (ls.length + 2), .int .i64 i] W (consPost W F)) := h2
  clear h2
  have h4 : ∀ W (hb : Below w.heap.size w W), Calls Tryz.prog 70 #[v, .int .i64 i, .bool true] W fun e w' => madeL W w' e F := fun W hb => by
    rw [hF]; exact rcons_any _ ls v i true W rfl hi hiN hn (hl.below hb) hs
  obtain ⟨ao, cap, rfl⟩ := leaf_form hl
  have H4 : Hid (∀ W (hb : Below w.heap.size w W), Calls Tryz.prog 70 #[.slice ao ls.length cap, .int .i64 i, .bool true] W fun e w' => madeL W w' e F) := h4
  clear h4
  have H3 : Hid (∀ W (H : HandAt w.heap.size W ls) (hb : Below w.heap.size w W), Calls Tryz.prog 67 #[.slice (some ⟨w.heap.size, 0, none⟩) ls.length (ls.length + 2), .slice ao ls.length cap] W fun e w' => e = .returned (.bool true) ∧ W.grownBy w' (some w.heap.size)) := h3
  clear h3 hl hs G
  clear hF
  obtain ⟨N, hN⟩ : ∃ N, N = ls.length := ⟨_, rfl⟩
  have HN : Hid (N = ls.length) := hN
  rw [← hN] at hn ⊢ h1 H3
  rw [← hN] at H2
  rw [← hN] at H4
  clear hN
  have hiN2 : i ≤ N := by have := HN.out; omega
  have i0 : ¬ (i : Int) < 0 := by omega
  have i1 : ¬ (N : Int) < (i : Int) := by omega
  have i2 : (0 : Int) < (i : Int) := by omega
  go_enter Tryz.func34, Tryz.ntmps34
  go_wp2_with fail
  refine h1.mono ?_
  rintro e w1 ⟨rfl, K1, hb1⟩
  clear h1
  have hz1 := K1.lt
  go_wp2_with fail
  refine (H2.out w1 K1 hb1).mono ?_
  rintro e w2 ⟨ao2, cap2, rfl, ho2, hb2⟩
  have hB2 : Below w.heap.size w w2 := hb1.trans (hb2.mono hb1.size)
  have K2 := K1.below hb2
  obtain ⟨M, hM⟩ : ∃ M, M = F.length := ⟨_, rfl⟩
  have HM : Hid (M = F.length) := hM
  have hos2 : Hid (w2.ownsRow w1.heap.size 9 1 (.slice ao2 F.length cap2) F.length (F.map .string)) := ho2
  rw [← hM]
  clear hM ho2
  go_wp2_with fail
  refine (H4.out w2 hB2).mono ?_
  rintro e w3 ⟨ao3, cap3, rfl, ho3, hb3⟩
  have hB3 : Below w.heap.size w w3 := hB2.trans (hb3.mono hB2.size)
  have K3 := K2.below hb3
  have hp3 : w3.ownsRow w1.heap.size 9 1 (.slice ao2 F.length cap2) F.length (F.map .string) := own_below' hos2.out hb3
  have hq3 : w3.ownsRow w1.heap.size 9 1 (.slice ao3 F.length cap3) F.length (F.map .string) := own_mono ho3 hb2.size
  have HQ : Hid (w3.ownsRow w1.heap.size 9 1 (.slice ao3 F.length cap3) F.length (F.map .string)) := hq3
  rw [← HM.out]
  clear ho3 hq3
  go_wp2_with fail
  have HP : Hid (w3.ownsRow w1.heap.size 9 1 (.slice ao2 F.length cap2) F.length (F.map .string)) := hp3
  clear hp3
  refine (H3.out w3 K3 hB3).mono ?_
  rintro e w4 ⟨rfl, ho4⟩
  have hB4 : Below w.heap.size w w4 := below_off hB3 ho4 (Nat.le_refl _) hB3.size
  have HP4 : Hid (w4.ownsRow w1.heap.size 9 1 (.slice ao2 F.length cap2) F.length (F.map .string)) := HP.out.kept ho4 (Or.inr fun e => by have := (HP.out.lt _ e).1; omega)
  have HQ4 : Hid (w4.ownsRow w1.heap.size 9 1 (.slice ao3 F.length cap3) F.length (F.map .string)) := HQ.out.kept ho4 (Or.inr fun e => by have := (HQ.out.lt _ e).1; omega)
  go_wp2_with (go_at_call 61; refine (ltold_nil 0 _).mono ?_; rintro e wx ⟨rfl, hwx⟩; obtain rfl : w4 = wx := hwx.symm; clear hwx; rw [show decide ((0 : Int) = 0) = true from rfl])
  have hsm := same_eq (.slice ao2 F.length cap2) (.slice ao3 F.length cap3) F w4 (leaf_own HP4.out) (leaf_own HQ4.out) (by have := hFl.out; have := HN.out; omega)
  rw [← HM.out] at hsm
  refine hsm.mono ?_
  rintro e w6 ⟨rfl, hb6⟩
  clear hsm
  have HP6 := own_mono (own_below' HP4.out hb6) hb1.size
  rw [← HM.out] at HP6
  have HP7 : Hid (w6.ownsRow w.heap.size 9 1 (.slice ao2 M cap2) M (F.map .string)) := HP6
  clear HP6
  go_wp2_with fail
  go_ret2
  exact ⟨F, ao2, cap2, M, rfl, HM.out, HP7.out, hFl.out, hFs.out, hB4.trans (hb6.mono hB4.size)⟩

set_option maxRecDepth 10000 in
set_option maxHeartbeats 1000000 in
theorem proved_incl (p : Nat) (v : Value) (ls : List ByteArray) (i : Nat) (w : World) (G : Glob p w) (hp : p < w.heap.size) (hl : LeafAt w v ls) (hn : ls.length ≤ 1000000) (hs : ∀ s ∈ ls, s.size ≤ 20000) (hiN : i < ls.length) :
    Calls Tryz.prog 34 #[v, .int .i64 i, .bool false] w (provPost w ls) := by
  have h1 := handed_any v ls w hl hn
  have h3 := fun W (H : HandAt w.heap.size W ls) (hb : Below w.heap.size w W) => still_any w.heap.size v ls W H (hl.below hb) hn
  have HG : Hid (Glob p w) := G
  obtain ⟨F, hF⟩ : ∃ F, F = inclF HR ls i := ⟨_, rfl⟩
  have hFl : Hid (F.length ≤ ls.length) := by rw [hF]; exact inclF_len HR _ ls i rfl
  have hFs : Hid (∀ b ∈ F, b.size ≤ 20000) := by rw [hF]; intro b h; have := xincl_sizes HR HR_size _ ls i rfl b h; omega
  have h2 : ∀ W (H : HandAt w.heap.size W ls) (hb : Below w.heap.size w W), Calls Tryz.prog 71 #[.slice (some ⟨w.heap.size, 0, none⟩) ls.length (ls.length + 2), .int .i64 i] W (consPost W F) := fun W H hb => by
    rw [hF]; exact incl_any kT ls _ i W hiN (by omega) H.leaf (fun s h => by have := hs s h; omega) ((G.tab hp).below hb)
  have H2 : Hid (∀ W (H : HandAt w.heap.size W ls) (hb : Below w.heap.size w W), Calls Tryz.prog 71 #[.slice (some ⟨w.heap.size, 0, none⟩) ls.length (ls.length + 2), .int .i64 i] W (consPost W F)) := h2
  clear h2
  have h4 : ∀ W (hb : Below w.heap.size w W), Calls Tryz.prog 72 #[v, .int .i64 i] W fun e w' => madeL W w' e F := fun W hb => by
    rw [hF]; exact rincl_any _ ls v i W rfl hiN hn (hl.below hb) hs
  obtain ⟨ao, cap, rfl⟩ := leaf_form hl
  have H4 : Hid (∀ W (hb : Below w.heap.size w W), Calls Tryz.prog 72 #[.slice ao ls.length cap, .int .i64 i] W fun e w' => madeL W w' e F) := h4
  clear h4
  have H3 : Hid (∀ W (H : HandAt w.heap.size W ls) (hb : Below w.heap.size w W), Calls Tryz.prog 67 #[.slice (some ⟨w.heap.size, 0, none⟩) ls.length (ls.length + 2), .slice ao ls.length cap] W fun e w' => e = .returned (.bool true) ∧ W.grownBy w' (some w.heap.size)) := h3
  clear h3 hl hs G
  clear hF
  obtain ⟨N, hN⟩ : ∃ N, N = ls.length := ⟨_, rfl⟩
  have HN : Hid (N = ls.length) := hN
  rw [← hN] at hn ⊢ h1 H3
  rw [← hN] at H2
  rw [← hN] at H4
  clear hN
  have hiN2 : i < N := by have := HN.out; omega
  have i0 : ¬ (i : Int) < 0 := by omega
  have i1 : ¬ (N : Int) ≤ (i : Int) := by omega
  go_enter Tryz.func34, Tryz.ntmps34
  go_wp2_with fail
  refine h1.mono ?_
  rintro e w1 ⟨rfl, K1, hb1⟩
  clear h1
  have hz1 := K1.lt
  go_wp2_with fail
  refine (H2.out w1 K1 hb1).mono ?_
  rintro e w2 ⟨ao2, cap2, rfl, ho2, hb2⟩
  have hB2 : Below w.heap.size w w2 := hb1.trans (hb2.mono hb1.size)
  have K2 := K1.below hb2
  obtain ⟨M, hM⟩ : ∃ M, M = F.length := ⟨_, rfl⟩
  have HM : Hid (M = F.length) := hM
  have hos2 : Hid (w2.ownsRow w1.heap.size 9 1 (.slice ao2 F.length cap2) F.length (F.map .string)) := ho2
  rw [← hM]
  clear hM ho2
  go_wp2_with fail
  refine (H4.out w2 hB2).mono ?_
  rintro e w3 ⟨ao3, cap3, rfl, ho3, hb3⟩
  have hB3 : Below w.heap.size w w3 := hB2.trans (hb3.mono hB2.size)
  have K3 := K2.below hb3
  have hp3 : w3.ownsRow w1.heap.size 9 1 (.slice ao2 F.length cap2) F.length (F.map .string) := own_below' hos2.out hb3
  have hq3 : w3.ownsRow w1.heap.size 9 1 (.slice ao3 F.length cap3) F.length (F.map .string) := own_mono ho3 hb2.size
  have HQ : Hid (w3.ownsRow w1.heap.size 9 1 (.slice ao3 F.length cap3) F.length (F.map .string)) := hq3
  rw [← HM.out]
  clear ho3 hq3
  go_wp2_with fail
  have HP : Hid (w3.ownsRow w1.heap.size 9 1 (.slice ao2 F.length cap2) F.length (F.map .string)) := hp3
  clear hp3
  refine (H3.out w3 K3 hB3).mono ?_
  rintro e w4 ⟨rfl, ho4⟩
  have hB4 : Below w.heap.size w w4 := below_off hB3 ho4 (Nat.le_refl _) hB3.size
  have HP4 : Hid (w4.ownsRow w1.heap.size 9 1 (.slice ao2 F.length cap2) F.length (F.map .string)) := HP.out.kept ho4 (Or.inr fun e => by have := (HP.out.lt _ e).1; omega)
  have HQ4 : Hid (w4.ownsRow w1.heap.size 9 1 (.slice ao3 F.length cap3) F.length (F.map .string)) := HQ.out.kept ho4 (Or.inr fun e => by have := (HQ.out.lt _ e).1; omega)
  go_wp2_with (go_at_call 61; refine (ltold_nil 0 _).mono ?_; rintro e wx ⟨rfl, hwx⟩; obtain rfl : w4 = wx := hwx.symm; clear hwx; rw [show decide ((0 : Int) = 0) = true from rfl])
  have hsm := same_eq (.slice ao2 F.length cap2) (.slice ao3 F.length cap3) F w4 (leaf_own HP4.out) (leaf_own HQ4.out) (by have := hFl.out; have := HN.out; omega)
  rw [← HM.out] at hsm
  refine hsm.mono ?_
  rintro e w6 ⟨rfl, hb6⟩
  clear hsm
  have HP6 := own_mono (own_below' HP4.out hb6) hb1.size
  rw [← HM.out] at HP6
  have HP7 : Hid (w6.ownsRow w.heap.size 9 1 (.slice ao2 M cap2) M (F.map .string)) := HP6
  clear HP6
  go_wp2_with fail
  go_ret2
  exact ⟨F, ao2, cap2, M, rfl, HM.out, HP7.out, hFl.out, hFs.out, hB4.trans (hb6.mono hB4.size)⟩

/-- proved, at any number. -/
theorem proved_any (p : Nat) (v : Value) (ls : List ByteArray) (i : Int) (all : Bool) (w : World) (G : Glob p w) (hp : p < w.heap.size) (hl : LeafAt w v ls) (hn : ls.length ≤ 1000000) (hs : ∀ s ∈ ls, s.size ≤ 20000) :
    Calls Tryz.prog 34 #[v, .int .i64 i, .bool all] w (provPost w ls) := by
  cases all
  · by_cases h : i < 0 ∨ (ls.length : Int) ≤ i
    · exact proved_incl_err p v ls i w G hp hl hn hs h
    · obtain ⟨q, rfl⟩ : ∃ q : Nat, i = q := ⟨i.toNat, by omega⟩
      exact proved_incl p v ls q w G hp hl hn hs (by omega)
  · by_cases h : i < 0 ∨ (ls.length : Int) < i
    · exact proved_cons_err p v ls i w G hp hl hn hs h
    · obtain ⟨q, rfl⟩ : ∃ q : Nat, i = q := ⟨i.toNat, by omega⟩
      by_cases h0 : q = 0
      · exact proved_cons_zero p v ls q w G hp hl hn hs h0
      · exact proved_cons p v ls q w G hp hl hn hs (by omega) (by omega)
end Go.Proofs.YtijdnpoenpjnlaaGreatDoor
set_option linter.unusedVariables false
set_option linter.unusedSimpArgs false
namespace Go.Proofs.YtijdnpoenpjnlaaGreatDoor
open Go.RowKit


set_option maxRecDepth 10000 in
set_option maxHeartbeats 400000 in
theorem cin_gen (s r : ByteArray) (i n : Int) (v : Value) (ls : List ByteArray) (ev : Value) (cv : Int) (w : World) (hl : LeafAt w v ls) (hn : ls.length ≤ 1000000)
    (hP : ∀ W (H : HandAt w.heap.size W ls) (hb : Below w.heap.size w W), Calls Tryz.prog 75 #[.string s, .int .i64 i, .int .i64 n, .string r, .slice (some ⟨w.heap.size, 0, none⟩) ls.length (ls.length + 2)] W fun e w' => e = .returned ev ∧ Below W.heap.size W w')
    (hR : ∀ W (hb : Below w.heap.size w W), Calls Tryz.prog 76 #[.string s, .int .i64 i, .int .i64 n, .string r, v] W (codePost (.int .i64 cv) W))
    (hT : ∀ W (hb : Below w.heap.size w W), Calls Tryz.prog 61 #[ev, .int .i64 cv] W fun e w' => e = .returned (.bool true) ∧ Below W.heap.size W w') :
    Calls Tryz.prog 36 #[.string s, .int .i64 i, .int .i64 n, .string r, v] w fun e w' => e = .returned (.bool true) ∧ Below w.heap.size w w' := by
  have h1 := handed_any v ls w hl hn
  have h3 := fun W (H : HandAt w.heap.size W ls) (hb : Below w.heap.size w W) => still_any w.heap.size v ls W H (hl.below hb) hn
  obtain ⟨ao, cap, rfl⟩ := leaf_form hl
  have HP : Hid (∀ W (H : HandAt w.heap.size W ls) (hb : Below w.heap.size w W), Calls Tryz.prog 75 #[.string s, .int .i64 i, .int .i64 n, .string r, .slice (some ⟨w.heap.size, 0, none⟩) ls.length (ls.length + 2)] W fun e w' => e = .returned ev ∧ Below W.heap.size W w') := hP
  have HRR : Hid (∀ W (hb : Below w.heap.size w W), Calls Tryz.prog 76 #[.string s, .int .i64 i, .int .i64 n, .string r, .slice ao ls.length cap] W (codePost (.int .i64 cv) W)) := hR
  have HT : Hid (∀ W (hb : Below w.heap.size w W), Calls Tryz.prog 61 #[ev, .int .i64 cv] W fun e w' => e = .returned (.bool true) ∧ Below W.heap.size W w') := hT
  have H3 : Hid (∀ W (H : HandAt w.heap.size W ls) (hb : Below w.heap.size w W), Calls Tryz.prog 67 #[.slice (some ⟨w.heap.size, 0, none⟩) ls.length (ls.length + 2), .slice ao ls.length cap] W fun e w' => e = .returned (.bool true) ∧ W.grownBy w' (some w.heap.size)) := h3
  clear hP hR hT h3 hl
  go_enter Tryz.func36, Tryz.ntmps36
  go_wp2_with fail
  refine h1.mono ?_
  rintro e w1 ⟨rfl, K1, hb1⟩
  clear h1
  go_wp2_with fail
  refine (HP.out w1 K1 hb1).mono ?_
  rintro e w2 ⟨rfl, hb2⟩
  have hB2 : Below w.heap.size w w2 := hb1.trans (hb2.mono hb1.size)
  go_wp2_with fail
  refine (H3.out w2 (K1.below hb2) hB2).mono ?_
  rintro e w3 ⟨rfl, ho3⟩
  have hB3 : Below w.heap.size w w3 := below_off hB2 ho3 (Nat.le_refl _) hB2.size
  go_wp2_with fail
  refine (HRR.out w3 hB3).mono ?_
  rintro e w4 ⟨rfl, hb4⟩
  have hB4 : Below w.heap.size w w4 := hB3.trans (hb4.mono hB3.size)
  go_wp2_with fail
  refine (HT.out w4 hB4).mono ?_
  rintro e w5 ⟨rfl, hb5⟩
  go_wp2_with fail
  go_ret
  exact ⟨rfl, hB4.trans (hb5.mono hB4.size)⟩

set_option maxRecDepth 10000 in
set_option maxHeartbeats 400000 in
theorem cin_err (s r : ByteArray) (i n : Int) (v : Value) (w : World) (h : i < 0 ∨ n ≤ i ∨ 2147483647 < n) : Calls Tryz.prog 75 #[.string s, .int .i64 i, .int .i64 n, .string r, v] w fun e w' => e = .returned errIx ∧ Below w.heap.size w w' := by
  have ht : Calls Tryz.prog 120 #[.string s, .int .i64 i, .int .i64 n, .string r, v] w fun e w' => e = .returned errIx ∧ Below w.heap.size w w' := by
    by_cases h0 : i < 0
    · clear h
      go_enter Tryz.func120, Tryz.ntmps120
      go_wp2_with fail
      go_ret
      exact ⟨rfl, Below.refl _ _⟩
    · by_cases h1 : n ≤ i
      · clear h
        go_enter Tryz.func120, Tryz.ntmps120
        go_wp2_with fail
        go_ret
        exact ⟨rfl, Below.refl _ _⟩
      · have h2 : 2147483647 < n := by omega
        clear h
        go_enter Tryz.func120, Tryz.ntmps120
        go_wp2_with fail
        go_ret
        exact ⟨rfl, Below.refl _ _⟩
  clear h
  generalize errIx = ev at *
  go_enter Tryz.func75, Tryz.ntmps75
  go_wp2_with fail
  refine ht.mono ?_
  rintro e w1 ⟨rfl, hb1⟩
  clear ht
  go_wp2_with fail
  go_ret
  exact ⟨rfl, hb1⟩

set_option maxRecDepth 10000 in
set_option maxHeartbeats 400000 in
theorem call_gen (s r : ByteArray) (i n : Int) (v : Value) (ls : List ByteArray) (ev : Value) (cv : Int) (w : World) (hl : LeafAt w v ls) (hn : ls.length ≤ 1000000)
    (hP : ∀ W (H : HandAt w.heap.size W ls) (hb : Below w.heap.size w W), Calls Tryz.prog 77 #[.int .i64 i, .int .i64 n, .string s, .string r, .slice (some ⟨w.heap.size, 0, none⟩) ls.length (ls.length + 2)] W fun e w' => e = .returned ev ∧ Below W.heap.size W w')
    (hR : ∀ W (hb : Below w.heap.size w W), Calls Tryz.prog 78 #[.int .i64 i, .int .i64 n, .string s, .string r, v] W (codePost (.int .i64 cv) W))
    (hT : ∀ W (hb : Below w.heap.size w W), Calls Tryz.prog 61 #[ev, .int .i64 cv] W fun e w' => e = .returned (.bool true) ∧ Below W.heap.size W w') :
    Calls Tryz.prog 37 #[.int .i64 i, .int .i64 n, .string s, .string r, v] w fun e w' => e = .returned (.bool true) ∧ Below w.heap.size w w' := by
  have h1 := handed_any v ls w hl hn
  have h3 := fun W (H : HandAt w.heap.size W ls) (hb : Below w.heap.size w W) => still_any w.heap.size v ls W H (hl.below hb) hn
  obtain ⟨ao, cap, rfl⟩ := leaf_form hl
  have HP : Hid (∀ W (H : HandAt w.heap.size W ls) (hb : Below w.heap.size w W), Calls Tryz.prog 77 #[.int .i64 i, .int .i64 n, .string s, .string r, .slice (some ⟨w.heap.size, 0, none⟩) ls.length (ls.length + 2)] W fun e w' => e = .returned ev ∧ Below W.heap.size W w') := hP
  have HRR : Hid (∀ W (hb : Below w.heap.size w W), Calls Tryz.prog 78 #[.int .i64 i, .int .i64 n, .string s, .string r, .slice ao ls.length cap] W (codePost (.int .i64 cv) W)) := hR
  have HT : Hid (∀ W (hb : Below w.heap.size w W), Calls Tryz.prog 61 #[ev, .int .i64 cv] W fun e w' => e = .returned (.bool true) ∧ Below W.heap.size W w') := hT
  have H3 : Hid (∀ W (H : HandAt w.heap.size W ls) (hb : Below w.heap.size w W), Calls Tryz.prog 67 #[.slice (some ⟨w.heap.size, 0, none⟩) ls.length (ls.length + 2), .slice ao ls.length cap] W fun e w' => e = .returned (.bool true) ∧ W.grownBy w' (some w.heap.size)) := h3
  clear hP hR hT h3 hl
  go_enter Tryz.func37, Tryz.ntmps37
  go_wp2_with fail
  refine h1.mono ?_
  rintro e w1 ⟨rfl, K1, hb1⟩
  clear h1
  go_wp2_with fail
  refine (HP.out w1 K1 hb1).mono ?_
  rintro e w2 ⟨rfl, hb2⟩
  have hB2 : Below w.heap.size w w2 := hb1.trans (hb2.mono hb1.size)
  go_wp2_with fail
  refine (H3.out w2 (K1.below hb2) hB2).mono ?_
  rintro e w3 ⟨rfl, ho3⟩
  have hB3 : Below w.heap.size w w3 := below_off hB2 ho3 (Nat.le_refl _) hB2.size
  go_wp2_with fail
  refine (HRR.out w3 hB3).mono ?_
  rintro e w4 ⟨rfl, hb4⟩
  have hB4 : Below w.heap.size w w4 := hB3.trans (hb4.mono hB3.size)
  go_wp2_with fail
  refine (HT.out w4 hB4).mono ?_
  rintro e w5 ⟨rfl, hb5⟩
  go_wp2_with fail
  go_ret
  exact ⟨rfl, hB4.trans (hb5.mono hB4.size)⟩

set_option maxRecDepth 10000 in
set_option maxHeartbeats 400000 in
theorem call_err (s r : ByteArray) (i n : Int) (v : Value) (w : World) (h : i < 0 ∨ n < i ∨ 2147483647 < n) : Calls Tryz.prog 77 #[.int .i64 i, .int .i64 n, .string s, .string r, v] w fun e w' => e = .returned errIx ∧ Below w.heap.size w w' := by
  have ht : Calls Tryz.prog 123 #[.int .i64 i, .int .i64 n, .string s, .string r, v] w fun e w' => e = .returned errIx ∧ Below w.heap.size w w' := by
    by_cases h0 : i < 0
    · clear h
      go_enter Tryz.func123, Tryz.ntmps123
      go_wp2_with fail
      go_ret
      exact ⟨rfl, Below.refl _ _⟩
    · by_cases h1 : n < i
      · clear h
        go_enter Tryz.func123, Tryz.ntmps123
        go_wp2_with fail
        go_ret
        exact ⟨rfl, Below.refl _ _⟩
      · have h2 : 2147483647 < n := by omega
        clear h
        go_enter Tryz.func123, Tryz.ntmps123
        go_wp2_with fail
        go_ret
        exact ⟨rfl, Below.refl _ _⟩
  clear h
  generalize errIx = ev at *
  go_enter Tryz.func77, Tryz.ntmps77
  go_wp2_with fail
  refine ht.mono ?_
  rintro e w1 ⟨rfl, hb1⟩
  clear ht
  go_wp2_with fail
  go_ret
  exact ⟨rfl, hb1⟩

/-- What the law's told says of the two answers. -/
theorem told_err (p : Nat) (c : Int) (w W : World) (hc : c ≠ 0) (G : Glob p w) (hp : p < w.heap.size) (hb : Below w.heap.size w W) : Calls Tryz.prog 61 #[.iface 138 (.int .i64 c), .int .i64 c] W fun e w' => e = .returned (.bool true) ∧ Below W.heap.size W w' := by
  have GW := G.below (hb.mono (Nat.le_of_lt hp))
  refine (ltold_hit c c W GW.err (by have := GW.le; have := hb.size; omega)).mono fun e w' ⟨h1, h2⟩ => ⟨?_, h2⟩
  rw [h1]; simp [hc]
theorem told_ok (W : World) : Calls Tryz.prog 61 #[.nilIface, .int .i64 0] W fun e w' => e = .returned (.bool true) ∧ Below W.heap.size W w' :=
  (ltold_nil 0 W).mono fun e w' ⟨h1, h2⟩ => ⟨by rw [h1]; rfl, by rw [h2]; exact Below.refl _ _⟩
theorem told_chk (p : Nat) (ok : Bool) (w W : World) (G : Glob p w) (hp : p < w.heap.size) (hb : Below w.heap.size w W) : Calls Tryz.prog 61 #[chkV ok, .int .i64 (if ok then 0 else 14)] W fun e w' => e = .returned (.bool true) ∧ Below W.heap.size W w' := by
  cases ok
  · exact told_err p 14 w W (by decide) G hp hb
  · exact told_ok W

theorem checkedIn_any (p : Nat) (s r : ByteArray) (i n : Int) (v : Value) (ls : List ByteArray) (w : World) (G : Glob p w) (hp : p < w.heap.size) (hl : LeafAt w v ls) (hn : ls.length ≤ 1000000) (hs : ∀ b ∈ ls, b.size ≤ 20000) (h1 : s.size ≤ 20000) (h2 : r.size ≤ 20000) :
    Calls Tryz.prog 36 #[.string s, .int .i64 i, .int .i64 n, .string r, v] w fun e w' => e = .returned (.bool true) ∧ Below w.heap.size w w' := by
  by_cases hc : i < 0 ∨ n ≤ i ∨ 2147483647 < n
  · exact cin_gen s r i n v ls errIx 10 w hl hn (fun W H hb => cin_err s r i n _ W hc) (fun W hb => rci_err s r i n v W hc) (fun W hb => told_err p 10 w W (by decide) G hp hb)
  · obtain ⟨i', rfl⟩ : ∃ q : Nat, i = q := ⟨i.toNat, by omega⟩
    obtain ⟨n', rfl⟩ : ∃ q : Nat, n = q := ⟨n.toNat, by omega⟩
    refine cin_gen s r i' n' v ls (chkV (inclOk kT s i' n' r ls)) (if inclOk kT s i' n' r ls then 0 else 14) w hl hn (fun W H hb => achk_any kT s r i' n' ls _ W (by omega) (by omega) (by omega) H.leaf (by omega) ((G.tab hp).below hb)) (fun W hb => ?_) (fun W hb => told_chk p _ w W G hp hb)
    have := rci_any s r i' n' ls v W h1 h2 (by omega) (by omega) (hl.below hb) hn hs
    rw [incl_same]
    exact this
theorem checkedAll_any (p : Nat) (s r : ByteArray) (i n : Int) (v : Value) (ls : List ByteArray) (w : World) (G : Glob p w) (hp : p < w.heap.size) (hl : LeafAt w v ls) (hn : ls.length ≤ 1000000) (hs : ∀ b ∈ ls, b.size ≤ 20000) (h1 : s.size ≤ 20000) (h2 : r.size ≤ 20000) :
    Calls Tryz.prog 37 #[.int .i64 i, .int .i64 n, .string s, .string r, v] w fun e w' => e = .returned (.bool true) ∧ Below w.heap.size w w' := by
  by_cases hc : i < 0 ∨ n < i ∨ 2147483647 < n
  · exact call_gen s r i n v ls errIx 10 w hl hn (fun W H hb => call_err s r i n _ W hc) (fun W hb => rcc_err s r i n v W hc) (fun W hb => told_err p 10 w W (by decide) G hp hb)
  · obtain ⟨i', rfl⟩ : ∃ q : Nat, i = q := ⟨i.toNat, by omega⟩
    obtain ⟨n', rfl⟩ : ∃ q : Nat, n = q := ⟨n.toNat, by omega⟩
    refine call_gen s r i' n' v ls (chkV (consOk kT i' n' s r ls)) (if consOk kT i' n' s r ls then 0 else 14) w hl hn (fun W H hb => ccon_all kT s r i' n' ls _ W (by omega) (by omega) H.leaf (by omega) ((G.tab hp).below hb)) (fun W hb => ?_) (fun W hb => told_chk p _ w W G hp hb)
    have := rcc_any s r i' n' ls v W h1 h2 (by omega) (by omega) (hl.below hb) hn hs
    rw [cons_same]
    exact this
end Go.Proofs.YtijdnpoenpjnlaaGreatDoor
