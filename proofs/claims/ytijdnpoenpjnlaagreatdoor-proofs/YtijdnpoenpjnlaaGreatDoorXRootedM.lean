import Derived.Test.YtijdnpoenpjnlaaGreatDoorXRefM
import Derived.Test.YtijdnpoenpjnlaaGreatDoorRTree
import Derived.Test.YtijdnpoenpjnlaaGreatDoorRTold
set_option linter.unusedVariables false
set_option linter.unusedSimpArgs false
namespace Go.Proofs.YtijdnpoenpjnlaaGreatDoor
open Go.RowKit

theorem Glob.tab {p : Nat} {w : World} (G : Glob p w) (hp : p < w.heap.size) : Tab kT w := ⟨by have := G.le; omega, G.rounds⟩

set_option maxRecDepth 10000 in
set_option maxHeartbeats 1000000 in
theorem rooted_any (p : Nat) (v : Value) (ls : List ByteArray) (w : World) (G : Glob p w) (hp : p < w.heap.size) (hl : LeafAt w v ls) (hn : ls.length ≤ 1000000) (hs : ∀ s ∈ ls, s.size ≤ 20000) :
    Calls Tryz.prog 33 #[v] w fun e w' => e = .returned (.tuple #[.string (rootF HR ls), .bool true]) ∧ Below w.heap.size w w' := by
  have h1 := handed_any v ls w hl hn
  have h2 := fun W (H : HandAt w.heap.size W ls) (hb : Below w.heap.size w W) => aroot_all kT ls _ W (by omega) H.leaf (fun s h => by have := hs s h; omega) ((G.tab hp).below hb)
  have h3 := fun W (H : HandAt w.heap.size W ls) (hb : Below w.heap.size w W) => still_any w.heap.size v ls W H (hl.below hb) hn
  have h4 := fun W (hb : Below w.heap.size w W) => rroot_any _ ls v W rfl hn (hl.below hb) hs
  rw [show rootF (sumOf kT) ls = rootF HR ls from rfl] at h2
  obtain ⟨ao, cap, rfl⟩ := leaf_form hl
  generalize rootF HR ls = R at *
  have H2 : Hid (∀ W (H : HandAt w.heap.size W ls) (hb : Below w.heap.size w W), Calls Tryz.prog 66 #[.slice (some ⟨w.heap.size, 0, none⟩) ls.length (ls.length + 2)] W fun e w' => e = .returned (.string R) ∧ Below W.heap.size W w') := h2
  have H3 : Hid (∀ W (H : HandAt w.heap.size W ls) (hb : Below w.heap.size w W), Calls Tryz.prog 67 #[.slice (some ⟨w.heap.size, 0, none⟩) ls.length (ls.length + 2), .slice ao ls.length cap] W fun e w' => e = .returned (.bool true) ∧ W.grownBy w' (some w.heap.size)) := h3
  have H4 : Hid (∀ W (hb : Below w.heap.size w W), Calls Tryz.prog 68 #[.slice ao ls.length cap] W (strPost R W)) := h4
  clear h2 h3 h4 hl hs G
  have bz : (R.toList == R.toList) = true := by rw [← beq_toListBytes]; show (R.data == R.data) = true; simp
  go_enter Tryz.func33, Tryz.ntmps33
  go_wp2_with fail
  refine h1.mono ?_
  rintro e w1 ⟨rfl, K1, hb1⟩
  clear h1
  go_wp2_with fail
  refine (H2.out w1 K1 hb1).mono ?_
  rintro e w2 ⟨rfl, hb2⟩
  have hB2 : Below w.heap.size w w2 := hb1.trans (hb2.mono hb1.size)
  go_wp2_with fail
  refine (H3.out w2 (K1.below hb2) hB2).mono ?_
  rintro e w3 ⟨rfl, ho3⟩
  have hB3 : Below w.heap.size w w3 := below_off hB2 ho3 (Nat.le_refl _) hB2.size
  go_wp2_with fail
  refine (H4.out w3 hB3).mono ?_
  rintro e w4 ⟨rfl, hb4⟩
  have hB4 : Below w.heap.size w w4 := hB3.trans (hb4.mono hB3.size)
  go_wp2_with fail
  go_ret2
  exact ⟨rfl, hB4⟩

set_option maxRecDepth 10000 in
set_option maxHeartbeats 400000 in
theorem incl_err (ao : Option Addr) (N cap : Nat) (i : Int) (w : World) (h : i < 0 ∨ (N : Int) ≤ i) :
    Calls Tryz.prog 71 #[.slice ao N cap, .int .i64 i] w fun e w' => e = .returned (.tuple #[.slice none 0 0, errIx]) ∧ w' = w := by
  have ht : Calls Tryz.prog 119 #[.slice ao N cap, .int .i64 i] w fun e w' => e = .returned (.tuple #[.slice none 0 0, errIx]) ∧ w' = w := by
    rcases h with h | h
    · go_enter Tryz.func119, Tryz.ntmps119
      go_wp2_with fail
      go_ret2
      exact ⟨rfl, rfl⟩
    · have h0 : ¬ i < 0 := by omega
      go_enter Tryz.func119, Tryz.ntmps119
      go_wp2_with fail
      go_ret2
      exact ⟨rfl, rfl⟩
  clear h
  generalize errIx = ev at *
  go_enter Tryz.func71, Tryz.ntmps71
  go_wp2_with fail
  refine ht.mono ?_
  rintro e w1 ⟨rfl, hw⟩
  obtain rfl : w = w1 := hw.symm
  clear hw ht
  go_wp2_with fail
  go_ret2
  exact ⟨rfl, rfl⟩
set_option maxRecDepth 10000 in
set_option maxHeartbeats 400000 in
theorem cons_err (ao : Option Addr) (N cap : Nat) (i : Int) (w : World) (h : i < 0 ∨ (N : Int) < i) :
    Calls Tryz.prog 69 #[.slice ao N cap, .int .i64 i] w fun e w' => e = .returned (.tuple #[.slice none 0 0, errIx]) ∧ w' = w := by
  have ht : Calls Tryz.prog 118 #[.slice ao N cap, .int .i64 i] w fun e w' => e = .returned (.tuple #[.slice none 0 0, errIx]) ∧ w' = w := by
    rcases h with h | h
    · go_enter Tryz.func118, Tryz.ntmps118
      go_wp2_with fail
      go_ret2
      exact ⟨rfl, rfl⟩
    · have h0 : ¬ i < 0 := by omega
      go_enter Tryz.func118, Tryz.ntmps118
      go_wp2_with fail
      go_ret2
      exact ⟨rfl, rfl⟩
  clear h
  generalize errIx = ev at *
  go_enter Tryz.func69, Tryz.ntmps69
  go_wp2_with fail
  refine ht.mono ?_
  rintro e w1 ⟨rfl, hw⟩
  obtain rfl : w = w1 := hw.symm
  clear hw ht
  go_wp2_with fail
  go_ret2
  exact ⟨rfl, rfl⟩
end Go.Proofs.YtijdnpoenpjnlaaGreatDoor
set_option linter.unusedVariables false
set_option linter.unusedSimpArgs false
namespace Go.Proofs.YtijdnpoenpjnlaaGreatDoor
open Go.RowKit

/-- What proved leaves: a list of its own, and true. -/
def provPost (w : World) (ls : List ByteArray) (e : Ending) (w' : World) : Prop := ∃ (F : List ByteArray) (ao : Option Addr) (cap M : Nat), e = .returned (.tuple #[.slice ao M cap, .bool true]) ∧ M = F.length ∧ w'.ownsRow w.heap.size 9 1 (.slice ao M cap) M (F.map .string) ∧ F.length ≤ ls.length ∧ (∀ b ∈ F, b.size ≤ 20000) ∧ Below w.heap.size w w'

theorem xincl_sizes (H : ByteArray → ByteArray) (hH : ∀ s, (H s).size = 32) : ∀ (n : Nat) (l : List ByteArray) (i : Nat), l.length = n → ∀ b ∈ inclF H l i, b.size = 32 := by
  intro n
  induction n using Nat.strongRecOn with
  | _ n ih =>
  intro l i hl b hb
  by_cases h2 : 2 ≤ l.length
  · have hk0 := halfN_pos l.length
    have hk1 := halfN_lt h2
    by_cases hik : i < halfN l.length
    · rw [inclF_left H h2 hik] at hb
      rcases List.mem_append.1 hb with hb | hb
      · exact ih (halfN l.length) (by omega) (l.take (halfN l.length)) i (by simp; omega) b hb
      · simp at hb; rw [hb]; exact rootF_size H hH _
    · rw [inclF_right H h2 hik] at hb
      rcases List.mem_append.1 hb with hb | hb
      · exact ih (l.length - halfN l.length) (by omega) (l.drop (halfN l.length)) (i - halfN l.length) (by simp) b hb
      · simp at hb; rw [hb]; exact rootF_size H hH _
  · rw [inclF_one H (by omega)] at hb; cases hb

set_option maxRecDepth 10000 in
set_option maxHeartbeats 1000000 in
theorem proved_cons_err (p : Nat) (v : Value) (ls : List ByteArray) (i : Int) (w : World) (G : Glob p w) (hp : p < w.heap.size) (hl : LeafAt w v ls) (hn : ls.length ≤ 1000000) (hs : ∀ s ∈ ls, s.size ≤ 20000) (hi : i < 0 ∨ (ls.length : Int) < i) :
    Calls Tryz.prog 34 #[v, .int .i64 i, .bool true] w (provPost w ls) := by
  have h1 := handed_any v ls w hl hn
  have h3 := fun W (H : HandAt w.heap.size W ls) (hb : Below w.heap.size w W) => still_any w.heap.size v ls W H (hl.below hb) hn
  have HG : Hid (Glob p w) := G
  obtain ⟨ao, cap, rfl⟩ := leaf_form hl
  have H3 : Hid (∀ W (H : HandAt w.heap.size W ls) (hb : Below w.heap.size w W), Calls Tryz.prog 67 #[.slice (some ⟨w.heap.size, 0, none⟩) ls.length (ls.length + 2), .slice ao ls.length cap] W fun e w' => e = .returned (.bool true) ∧ W.grownBy w' (some w.heap.size)) := h3
  clear h3 hl hs G
  obtain ⟨N, hN⟩ : ∃ N, N = ls.length := ⟨_, rfl⟩
  have HN : Hid (N = ls.length) := hN
  rw [← hN] at hn hi ⊢ h1 H3
  clear hN
  have HI := hi
  rcases hi with hi | hi
  all_goals
    try (have h0 : ¬ i < 0 := by omega)
    go_enter Tryz.func34, Tryz.ntmps34
    go_wp2_with fail
    refine h1.mono ?_
    rintro e w1 ⟨rfl, K1, hb1⟩
    clear h1
    have hz1 := K1.lt
    go_wp2_with fail
    refine (cons_err (some ⟨w.heap.size, 0, none⟩) N (N + 2) i w1 HI).mono ?_
    rintro e w2 ⟨rfl, hw2⟩
    obtain rfl : w1 = w2 := hw2.symm
    clear hw2
    rw [show errIx = .iface 138 (.int .i64 10) from rfl]
    go_wp2_with fail
    refine (H3.out w1 K1 hb1).mono ?_
    rintro e w4 ⟨rfl, ho4⟩
    have hB4 : Below w.heap.size w w4 := below_off hb1 ho4 (Nat.le_refl _) hb1.size
    have G4 : Glob p w4 := HG.out.below (hB4.mono (Nat.le_of_lt hp))
    have hs4 := hB4.size
    go_wp2_with fail
    refine (ltold_hit 10 10 w4 G4.err (by have := G4.le; omega)).mono ?_
    rintro e w5 ⟨rfl, hb5⟩
    have hB5 : Below w.heap.size w w5 := hB4.trans (hb5.mono hs4)
    rw [show (decide ((10 : Int) = 10) && decide ((10 : Int) ≠ 0)) = true from rfl]
    go_wp2_with fail
    refine (same_eq (.slice none 0 0) (.slice none 0 0) [] w5 (Or.inl ⟨rfl, _, _, rfl⟩) (Or.inl ⟨rfl, _, _, rfl⟩) (by simp)).mono ?_
    rintro e w6 ⟨rfl, hb6⟩
    go_wp2_with fail
    go_ret2
    exact ⟨[], none, 0, 0, rfl, rfl, World.ownsRow_nil _ _ _ _, Nat.zero_le _, (fun b h => by cases h), hB5.trans (hb6.mono hB5.size)⟩

set_option maxRecDepth 10000 in
set_option maxHeartbeats 1000000 in
theorem proved_incl_err (p : Nat) (v : Value) (ls : List ByteArray) (i : Int) (w : World) (G : Glob p w) (hp : p < w.heap.size) (hl : LeafAt w v ls) (hn : ls.length ≤ 1000000) (hs : ∀ s ∈ ls, s.size ≤ 20000) (hi : i < 0 ∨ (ls.length : Int) ≤ i) :
    Calls Tryz.prog 34 #[v, .int .i64 i, .bool false] w (provPost w ls) := by
  have h1 := handed_any v ls w hl hn
  have h3 := fun W (H : HandAt w.heap.size W ls) (hb : Below w.heap.size w W) => still_any w.heap.size v ls W H (hl.below hb) hn
  have HG : Hid (Glob p w) := G
  obtain ⟨ao, cap, rfl⟩ := leaf_form hl
  have H3 : Hid (∀ W (H : HandAt w.heap.size W ls) (hb : Below w.heap.size w W), Calls Tryz.prog 67 #[.slice (some ⟨w.heap.size, 0, none⟩) ls.length (ls.length + 2), .slice ao ls.length cap] W fun e w' => e = .returned (.bool true) ∧ W.grownBy w' (some w.heap.size)) := h3
  clear h3 hl hs G
  obtain ⟨N, hN⟩ : ∃ N, N = ls.length := ⟨_, rfl⟩
  have HN : Hid (N = ls.length) := hN
  rw [← hN] at hn hi ⊢ h1 H3
  clear hN
  have HI := hi
  rcases hi with hi | hi
  all_goals
    try (have h0 : ¬ i < 0 := by omega)
    go_enter Tryz.func34, Tryz.ntmps34
    go_wp2_with fail
    refine h1.mono ?_
    rintro e w1 ⟨rfl, K1, hb1⟩
    clear h1
    have hz1 := K1.lt
    go_wp2_with fail
    refine (incl_err (some ⟨w.heap.size, 0, none⟩) N (N + 2) i w1 HI).mono ?_
    rintro e w2 ⟨rfl, hw2⟩
    obtain rfl : w1 = w2 := hw2.symm
    clear hw2
    rw [show errIx = .iface 138 (.int .i64 10) from rfl]
    go_wp2_with fail
    refine (H3.out w1 K1 hb1).mono ?_
    rintro e w4 ⟨rfl, ho4⟩
    have hB4 : Below w.heap.size w w4 := below_off hb1 ho4 (Nat.le_refl _) hb1.size
    have G4 : Glob p w4 := HG.out.below (hB4.mono (Nat.le_of_lt hp))
    have hs4 := hB4.size
    go_wp2_with fail
    refine (ltold_hit 10 10 w4 G4.err (by have := G4.le; omega)).mono ?_
    rintro e w5 ⟨rfl, hb5⟩
    have hB5 : Below w.heap.size w w5 := hB4.trans (hb5.mono hs4)
    rw [show (decide ((10 : Int) = 10) && decide ((10 : Int) ≠ 0)) = true from rfl]
    go_wp2_with fail
    refine (same_eq (.slice none 0 0) (.slice none 0 0) [] w5 (Or.inl ⟨rfl, _, _, rfl⟩) (Or.inl ⟨rfl, _, _, rfl⟩) (by simp)).mono ?_
    rintro e w6 ⟨rfl, hb6⟩
    go_wp2_with fail
    go_ret2
    exact ⟨[], none, 0, 0, rfl, rfl, World.ownsRow_nil _ _ _ _, Nat.zero_le _, (fun b h => by cases h), hB5.trans (hb6.mono hB5.size)⟩

set_option maxRecDepth 10000 in
set_option maxHeartbeats 1000000 in
theorem proved_cons_zero (p : Nat) (v : Value) (ls : List ByteArray) (i : Nat) (w : World) (G : Glob p w) (hp : p < w.heap.size) (hl : LeafAt w v ls) (hn : ls.length ≤ 1000000) (hs : ∀ s ∈ ls, s.size ≤ 20000) (hi : i = 0) :
    Calls Tryz.prog 34 #[v, .int .i64 i, .bool true] w (provPost w ls) := by
  have h1 := handed_any v ls w hl hn
  have h3 := fun W (H : HandAt w.heap.size W ls) (hb : Below w.heap.size w W) => still_any w.heap.size v ls W H (hl.below hb) hn
  have HG : Hid (Glob p w) := G
  obtain ⟨F, hF⟩ : ∃ F, F = consF (sumOf kT) ls i := ⟨_, rfl⟩
  have HF0 : Hid (F = []) := by show F = []; rw [hF]; unfold consF; rw [if_pos hi]
  have hFl : Hid (F.length ≤ ls.length) := by rw [HF0.out]; exact Nat.zero_le _
  have hFs : Hid (∀ b ∈ F, b.size ≤ 20000) := by rw [HF0.out]; intro b h; cases h
  have h2 : ∀ W (H : HandAt w.heap.size W ls) (hb : Below w.heap.size w W), Calls Tryz.prog 69 #[.slice (some ⟨w.heap.size, 0, none⟩) ls.length (ls.length + 2), .int .i64 i] W (consPost W F) := fun W H hb => by
    rw [hF]; exact cons_any kT ls _ i W (by omega) (by omega) H.leaf (fun s h => by have := hs s h; omega) ((G.tab hp).below hb)
  have H2 : Hid (∀ W (H : HandAt w.heap.size W ls) (hb : Below w.heap.size w W), Calls Tryz.prog 69 #[.slice (some ⟨w.heap.size, 0, none⟩) ls.length (ls.length + 2), .int .i64 i] W (consPost W F)) := h2
  clear h2
  obtain ⟨ao, cap, rfl⟩ := leaf_form hl
  have H3 : Hid (∀ W (H : HandAt w.heap.size W ls) (hb : Below w.heap.size w W), Calls Tryz.prog 67 #[.slice (some ⟨w.heap.size, 0, none⟩) ls.length (ls.length + 2), .slice ao ls.length cap] W fun e w' => e = .returned (.bool true) ∧ W.grownBy w' (some w.heap.size)) := h3
  clear h3 hl hs G
  clear hF
  obtain ⟨N, hN⟩ : ∃ N, N = ls.length := ⟨_, rfl⟩
  have HN : Hid (N = ls.length) := hN
  rw [← hN] at hn ⊢ h1 H3
  rw [← hN] at H2
  clear hN
  obtain ⟨z, hz⟩ : ∃ z : Int, z = (i : Int) := ⟨_, rfl⟩
  have i0 : ¬ z < 0 := by omega
  have i1 : ¬ (N : Int) < z := by omega
  have i2 : ¬ (0 : Int) < z := by omega
  rw [← hz] at H2 ⊢
  clear hi hz
  go_enter Tryz.func34, Tryz.ntmps34
  go_wp2_with fail
  refine h1.mono ?_
  rintro e w1 ⟨rfl, K1, hb1⟩
  clear h1
  have hz1 := K1.lt
  go_wp2_with fail
  refine (H2.out w1 K1 hb1).mono ?_
  rintro e w2 ⟨ao2, cap2, rfl, ho2, hb2⟩
  have hB2 : Below w.heap.size w w2 := hb1.trans (hb2.mono hb1.size)
  have K2 := K1.below hb2
  obtain ⟨M, hM⟩ : ∃ M, M = F.length := ⟨_, rfl⟩
  have HM : Hid (M = F.length) := hM
  have hos2 : Hid (w2.ownsRow w1.heap.size 9 1 (.slice ao2 F.length cap2) F.length (F.map .string)) := ho2
  rw [← hM]
  clear hM ho2
  go_wp2_with fail
  have hB3 : Below w.heap.size w w2 := hB2
  have K3 : HandAt w.heap.size w2 ls := K2
  have hp3 : w2.ownsRow w1.heap.size 9 1 (.slice ao2 F.length cap2) F.length (F.map .string) := hos2.out
  have HP : Hid (w2.ownsRow w1.heap.size 9 1 (.slice ao2 F.length cap2) F.length (F.map .string)) := hp3
  clear hp3
  refine (H3.out w2 K3 hB3).mono ?_
  rintro e w4 ⟨rfl, ho4⟩
  have hB4 : Below w.heap.size w w4 := below_off hB3 ho4 (Nat.le_refl _) hB3.size
  have HP4 : Hid (w4.ownsRow w1.heap.size 9 1 (.slice ao2 F.length cap2) F.length (F.map .string)) := HP.out.kept ho4 (Or.inr fun e => by have := (HP.out.lt _ e).1; omega)
  go_wp2_with (go_at_call 61; refine (ltold_nil 0 _).mono ?_; rintro e wx ⟨rfl, hwx⟩; obtain rfl : w4 = wx := hwx.symm; clear hwx; rw [show decide ((0 : Int) = 0) = true from rfl])
  have hsm := same_eq (.slice ao2 F.length cap2) (.slice none 0 0) F w4 (leaf_own HP4.out) (Or.inl ⟨HF0.out, _, _, rfl⟩) (by have := hFl.out; have := HN.out; omega)
  rw [← HM.out] at hsm
  refine hsm.mono ?_
  rintro e w6 ⟨rfl, hb6⟩
  clear hsm
  have HP6 := own_mono (own_below' HP4.out hb6) hb1.size
  rw [← HM.out] at HP6
  have HP7 : Hid (w6.ownsRow w.heap.size 9 1 (.slice ao2 M cap2) M (F.map .string)) := HP6
  clear HP6
  go_wp2_with fail
  go_ret2
  exact ⟨F, ao2, cap2, M, rfl, HM.out, HP7.out, hFl.out, hFs.out, hB4.trans (hb6.mono hB4.size)⟩

set_option maxRecDepth 10000 in
set_option maxHeartbeats 1000000 in
theorem proved_cons (p : Nat) (v : Value) (ls : List ByteArray) (i : Nat) (w : World) (G : Glob p w) (hp : p < w.heap.size) (hl : LeafAt w v ls) (hn : ls.length ≤ 1000000) (hs : ∀ s ∈ ls, s.size ≤ 20000) (hi : 0 < i) (hiN : i ≤ ls.length) :
    Calls Tryz.prog 34 #[v, .int .i64 i, .bool true] w (provPost w ls) := by
  have h1 := handed_any v ls w hl hn
  have h3 := fun W (H : HandAt w.heap.size W ls) (hb : Below w.heap.size w W) => still_any w.heap.size v ls W H (hl.below hb) hn
  have HG : Hid (Glob p w) := G
  obtain ⟨F, hF⟩ : ∃ F, F = grownF HR ls i true := ⟨_, rfl⟩
  have hFl : Hid (F.length ≤ ls.length) := by rw [hF]; exact grownF_len HR _ ls i true rfl hi hiN
  have hFs : Hid (∀ b ∈ F, b.size ≤ 20000) := by rw [hF]; intro b h; have := grownF_sizes HR HR_size _ ls i true rfl hi hiN b h; omega
  have h2 : ∀ W (H : HandAt w.heap.size W ls) (hb : Below w.heap.size w W), Calls Tryz.prog 69 #[.slice (some ⟨w.heap.size, 0, none⟩) ls.length (ls.length + 2), .int .i64 i] W (consPost W F) := fun W H hb => by
    rw [hF]; exact by have := cons_any kT ls _ i W (by omega) (by omega) H.leaf (fun s h => by have := hs s h; omega) ((G.tab hp).below hb); rw [show consF (sumOf kT) ls i = grownF HR ls i true by unfold consF; rw [if_neg (by omega)]; rfl] at this; exact this
  have H2 : Hid (∀ W (H : HandAt w.heap.size W ls) (hb : Below w.heap.size w W), Calls Tryz.prog 69 #[.slice (some ⟨w.heap.size, 0, none⟩) ls.length (ls.length + 2), .int .i64 i] W (consPost W F)) := h2
  clear h2
  have h4 : ∀ W (hb : Below w.heap.size w W), Calls Tryz.prog 70 #[v, .int .i64 i, .bool true] W fun e w' => madeL W w' e F := fun W hb => by
    rw [hF]; exact rcons_any _ ls v i true W rfl hi hiN hn (hl.below hb) hs
  obtain ⟨ao, cap, rfl⟩ := leaf_form hl
  have H4 : Hid (∀ W (hb : Below w.heap.size w W), Calls Tryz.prog 70 #[.slice ao ls.length cap, .int .i64 i, .bool true] W fun e w' => madeL W w' e F) := h4
  clear h4
  have H3 : Hid (∀ W (H : HandAt w.heap.size W ls) (hb : Below w.heap.size w W), Calls Tryz.prog 67 #[.slice (some ⟨w.heap.size, 0, none⟩) ls.length (ls.length + 2), .slice ao ls.length cap] W fun e w' => e = .returned (.bool true) ∧ W.grownBy w' (some w.heap.size)) := h3
  clear h3 hl hs G
  clear hF
  obtain ⟨N, hN⟩ : ∃ N, N = ls.length := ⟨_, rfl⟩
  have HN : Hid (N = ls.length) := hN
  rw [← hN] at hn ⊢ h1 H3
  rw [← hN] at H2
  rw [← hN] at H4
  clear hN
  have hiN2 : i ≤ N := by have := HN.out; omega
  have i0 : ¬ (i : Int) < 0 := by omega
  have i1 : ¬ (N : Int) < (i : Int) := by omega
  have i2 : (0 : Int) < (i : Int) := by omega
  go_enter Tryz.func34, Tryz.ntmps34
  go_wp2_with fail
  refine h1.mono ?_
  rintro e w1 ⟨rfl, K1, hb1⟩
  clear h1
  have hz1 := K1.lt
  go_wp2_with fail
  refine (H2.out w1 K1 hb1).mono ?_
  rintro e w2 ⟨ao2, cap2, rfl, ho2, hb2⟩
  have hB2 : Below w.heap.size w w2 := hb1.trans (hb2.mono hb1.size)
  have K2 := K1.below hb2
  obtain ⟨M, hM⟩ : ∃ M, M = F.length := ⟨_, rfl⟩
  have HM : Hid (M = F.length) := hM
  have hos2 : Hid (w2.ownsRow w1.heap.size 9 1 (.slice ao2 F.length cap2) F.length (F.map .string)) := ho2
  rw [← hM]
  clear hM ho2
  go_wp2_with fail
  refine (H4.out w2 hB2).mono ?_
  rintro e w3 ⟨ao3, cap3, rfl, ho3, hb3⟩
  have hB3 : Below w.heap.size w w3 := hB2.trans (hb3.mono hB2.size)
  have K3 := K2.below hb3
  have hp3 : w3.ownsRow w1.heap.size 9 1 (.slice ao2 F.length cap2) F.length (F.map .string) := own_below' hos2.out hb3
  have hq3 : w3.ownsRow w1.heap.size 9 1 (.slice ao3 F.length cap3) F.length (F.map .string) := own_mono ho3 hb2.size
  have HQ : Hid (w3.ownsRow w1.heap.size 9 1 (.slice ao3 F.length cap3) F.length (F.map .string)) := hq3
  rw [← HM.out]
  clear ho3 hq3
  go_wp2_with fail
  have HP : Hid (w3.ownsRow w1.heap.size 9 1 (.slice ao2 F.length cap2) F.length (F.map .string)) := hp3
  clear hp3
  refine (H3.out w3 K3 hB3).mono ?_
  rintro e w4 ⟨rfl, ho4⟩
  have hB4 : Below w.heap.size w w4 := below_off hB3 ho4 (Nat.le_refl _) hB3.size
  have HP4 : Hid (w4.ownsRow w1.heap.size 9 1 (.slice ao2 F.length cap2) F.length (F.map .string)) := HP.out.kept ho4 (Or.inr fun e => by have := (HP.out.lt _ e).1; omega)
  have HQ4 : Hid (w4.ownsRow w1.heap.size 9 1 (.slice ao3 F.length cap3) F.length (F.map .string)) := HQ.out.kept ho4 (Or.inr fun e => by have := (HQ.out.lt _ e).1; omega)
  go_wp2_with (go_at_call 61; refine (ltold_nil 0 _).mono ?_; rintro e wx ⟨rfl, hwx⟩; obtain rfl : w4 = wx := hwx.symm; clear hwx; rw [show decide ((0 : Int) = 0) = true from rfl])
  have hsm := same_eq (.slice ao2 F.length cap2) (.slice ao3 F.length cap3) F w4 (leaf_own HP4.out) (leaf_own HQ4.out) (by have := hFl.out; have := HN.out; omega)
  rw [← HM.out] at hsm
  refine hsm.mono ?_
  rintro e w6 ⟨rfl, hb6⟩
  clear hsm
  have HP6 := own_mono (own_below' HP4.out hb6) hb1.size
  rw [← HM.out] at HP6
  have HP7 : Hid (w6.ownsRow w.heap.size 9 1 (.slice ao2 M cap2) M (F.map .string)) := HP6
  clear HP6
  go_wp2_with fail
  go_ret2
  exact ⟨F, ao2, cap2, M, rfl, HM.out, HP7.out, hFl.out, hFs.out, hB4.trans (hb6.mono hB4.size)⟩

set_option maxRecDepth 10000 in
set_option maxHeartbeats 1000000 in
theorem proved_incl (p : Nat) (v : Value) (ls : List ByteArray) (i : Nat) (w : World) (G : Glob p w) (hp : p < w.heap.size) (hl : LeafAt w v ls) (hn : ls.length ≤ 1000000) (hs : ∀ s ∈ ls, s.size ≤ 20000) (hiN : i < ls.length) :
    Calls Tryz.prog 34 #[v, .int .i64 i, .bool false] w (provPost w ls) := by
  have h1 := handed_any v ls w hl hn
  have h3 := fun W (H : HandAt w.heap.size W ls) (hb : Below w.heap.size w W) => still_any w.heap.size v ls W H (hl.below hb) hn
  have HG : Hid (Glob p w) := G
  obtain ⟨F, hF⟩ : ∃ F, F = inclF HR ls i := ⟨_, rfl⟩
  have hFl : Hid (F.length ≤ ls.length) := by rw [hF]; exact inclF_len HR _ ls i rfl
  have hFs : Hid (∀ b ∈ F, b.size ≤ 20000) := by rw [hF]; intro b h; have := xincl_sizes HR HR_size _ ls i rfl b h; omega
  have h2 : ∀ W (H : HandAt w.heap.size W ls) (hb : Below w.heap.size w W), Calls Tryz.prog 71 #[.slice (some ⟨w.heap.size, 0, none⟩) ls.length (ls.length + 2), .int .i64 i] W (consPost W F) := fun W H hb => by
    rw [hF]; exact incl_any kT ls _ i W hiN (by omega) H.leaf (fun s h => by have := hs s h; omega) ((G.tab hp).below hb)
  have H2 : Hid (∀ W (H : HandAt w.heap.size W ls) (hb : Below w.heap.size w W), Calls Tryz.prog 71 #[.slice (some ⟨w.heap.size, 0, none⟩) ls.length (ls.length + 2), .int .i64 i] W (consPost W F)) := h2
  clear h2
  have h4 : ∀ W (hb : Below w.heap.size w W), Calls Tryz.prog 72 #[v, .int .i64 i] W fun e w' => madeL W w' e F := fun W hb => by
    rw [hF]; exact rincl_any _ ls v i W rfl hiN hn (hl.below hb) hs
  obtain ⟨ao, cap, rfl⟩ := leaf_form hl
  have H4 : Hid (∀ W (hb : Below w.heap.size w W), Calls Tryz.prog 72 #[.slice ao ls.length cap, .int .i64 i] W fun e w' => madeL W w' e F) := h4
  clear h4
  have H3 : Hid (∀ W (H : HandAt w.heap.size W ls) (hb : Below w.heap.size w W), Calls Tryz.prog 67 #[.slice (some ⟨w.heap.size, 0, none⟩) ls.length (ls.length + 2), .slice ao ls.length cap] W fun e w' => e = .returned (.bool true) ∧ W.grownBy w' (some w.heap.size)) := h3
  clear h3 hl hs G
  clear hF
  obtain ⟨N, hN⟩ : ∃ N, N = ls.length := ⟨_, rfl⟩
  have HN : Hid (N = ls.length) := hN
  rw [← hN] at hn ⊢ h1 H3
  rw [← hN] at H2
  rw [← hN] at H4
  clear hN
  have hiN2 : i < N := by have := HN.out; omega
  have i0 : ¬ (i : Int) < 0 := by omega
  have i1 : ¬ (N : Int) ≤ (i : Int) := by omega
  go_enter Tryz.func34, Tryz.ntmps34
  go_wp2_with fail
  refine h1.mono ?_
  rintro e w1 ⟨rfl, K1, hb1⟩
  clear h1
  have hz1 := K1.lt
  go_wp2_with fail
  refine (H2.out w1 K1 hb1).mono ?_
  rintro e w2 ⟨ao2, cap2, rfl, ho2, hb2⟩
  have hB2 : Below w.heap.size w w2 := hb1.trans (hb2.mono hb1.size)
  have K2 := K1.below hb2
  obtain ⟨M, hM⟩ : ∃ M, M = F.length := ⟨_, rfl⟩
  have HM : Hid (M = F.length) := hM
  have hos2 : Hid (w2.ownsRow w1.heap.size 9 1 (.slice ao2 F.length cap2) F.length (F.map .string)) := ho2
  rw [← hM]
  clear hM ho2
  go_wp2_with fail
  refine (H4.out w2 hB2).mono ?_
  rintro e w3 ⟨ao3, cap3, rfl, ho3, hb3⟩
  have hB3 : Below w.heap.size w w3 := hB2.trans (hb3.mono hB2.size)
  have K3 := K2.below hb3
  have hp3 : w3.ownsRow w1.heap.size 9 1 (.slice ao2 F.length cap2) F.length (F.map .string) := own_below' hos2.out hb3
  have hq3 : w3.ownsRow w1.heap.size 9 1 (.slice ao3 F.length cap3) F.length (F.map .string) := own_mono ho3 hb2.size
  have HQ : Hid (w3.ownsRow w1.heap.size 9 1 (.slice ao3 F.length cap3) F.length (F.map .string)) := hq3
  rw [← HM.out]
  clear ho3 hq3
  go_wp2_with fail
  have HP : Hid (w3.ownsRow w1.heap.size 9 1 (.slice ao2 F.length cap2) F.length (F.map .string)) := hp3
  clear hp3
  refine (H3.out w3 K3 hB3).mono ?_
  rintro e w4 ⟨rfl, ho4⟩
  have hB4 : Below w.heap.size w w4 := below_off hB3 ho4 (Nat.le_refl _) hB3.size
  have HP4 : Hid (w4.ownsRow w1.heap.size 9 1 (.slice ao2 F.length cap2) F.length (F.map .string)) := HP.out.kept ho4 (Or.inr fun e => by have := (HP.out.lt _ e).1; omega)
  have HQ4 : Hid (w4.ownsRow w1.heap.size 9 1 (.slice ao3 F.length cap3) F.length (F.map .string)) := HQ.out.kept ho4 (Or.inr fun e => by have := (HQ.out.lt _ e).1; omega)
  go_wp2_with (go_at_call 61; refine (ltold_nil 0 _).mono ?_; rintro e wx ⟨rfl, hwx⟩; obtain rfl : w4 = wx := hwx.symm; clear hwx; rw [show decide ((0 : Int) = 0) = true from rfl])
  have hsm := same_eq (.slice ao2 F.length cap2) (.slice ao3 F.length cap3) F w4 (leaf_own HP4.out) (leaf_own HQ4.out) (by have := hFl.out; have := HN.out; omega)
  rw [← HM.out] at hsm
  refine hsm.mono ?_
  rintro e w6 ⟨rfl, hb6⟩
  clear hsm
  have HP6 := own_mono (own_below' HP4.out hb6) hb1.size
  rw [← HM.out] at HP6
  have HP7 : Hid (w6.ownsRow w.heap.size 9 1 (.slice ao2 M cap2) M (F.map .string)) := HP6
  clear HP6
  go_wp2_with fail
  go_ret2
  exact ⟨F, ao2, cap2, M, rfl, HM.out, HP7.out, hFl.out, hFs.out, hB4.trans (hb6.mono hB4.size)⟩

/-- proved, at any number. -/
theorem proved_any (p : Nat) (v : Value) (ls : List ByteArray) (i : Int) (all : Bool) (w : World) (G : Glob p w) (hp : p < w.heap.size) (hl : LeafAt w v ls) (hn : ls.length ≤ 1000000) (hs : ∀ s ∈ ls, s.size ≤ 20000) :
    Calls Tryz.prog 34 #[v, .int .i64 i, .bool all] w (provPost w ls) := by
  cases all
  · by_cases h : i < 0 ∨ (ls.length : Int) ≤ i
    · exact proved_incl_err p v ls i w G hp hl hn hs h
    · obtain ⟨q, rfl⟩ : ∃ q : Nat, i = q := ⟨i.toNat, by omega⟩
      exact proved_incl p v ls q w G hp hl hn hs (by omega)
  · by_cases h : i < 0 ∨ (ls.length : Int) < i
    · exact proved_cons_err p v ls i w G hp hl hn hs h
    · obtain ⟨q, rfl⟩ : ∃ q : Nat, i = q := ⟨i.toNat, by omega⟩
      by_cases h0 : q = 0
      · exact proved_cons_zero p v ls q w G hp hl hn hs h0
      · exact proved_cons p v ls q w G hp hl hn hs (by omega) (by omega)
end Go.Proofs.YtijdnpoenpjnlaaGreatDoor
set_option linter.unusedVariables false
set_option linter.unusedSimpArgs false
namespace Go.Proofs.YtijdnpoenpjnlaaGreatDoor
open Go.RowKit

theorem cell_of_block {w w' : World} {g : Nat} (h : w'.heap[g]? = w.heap[g]?) (j : Nat) : w'.cell? ⟨g, j, none⟩ = w.cell? ⟨g, j, none⟩ := by simp [World.cell?, h]
theorem own_same {w w' : World} {B : Nat} {e : TypeId} {k : Nat} {v : Value} {n : Nat} {xs : List Value} (h : w.ownsRow B e k v n xs) (hb : ∀ g, v.ownBlock = some g → w'.heap[g]? = w.heap[g]?) : w'.ownsRow B e k v n xs := by
  refine ⟨h.1, ?_⟩
  rcases h.2 with hn | ⟨g, cap, cur, rfl, h1, h2, rest⟩
  · exact Or.inl hn
  · exact Or.inr ⟨g, cap, cur, rfl, h1, (hb g rfl).trans h2, rest⟩
theorem own_fieldX {w : World} {p i : Nat} {u : Value} {e : TypeId} {x : Value} {n : Nat} {xs : List Value} (hx : w.ownsRow (p + 1) e 1 x n xs) : (w.setCell ⟨p, i, none⟩ u).ownsRow (p + 1) e 1 x n xs :=
  own_same hx fun g hg => heap_setCell_other w ⟨p, i, none⟩ g u (by have := (hx.lt g hg).1; show g ≠ p; omega)
/-- A list that came out, as it must read: in a block that the world does not own. -/
def HeldL (p : Nat) (w : World) (S : WS) (v : Value) (t : List ByteArray) : Prop :=
  (t = [] ∧ ∃ ao cap, v = .slice ao 0 cap) ∨ ∃ g cap, v = .slice (some ⟨g, 0, none⟩) t.length cap ∧ t.length ≤ cap ∧ g < w.heap.size ∧ p < g ∧ ¬ S.own g ∧ S.gv.ownBlock ≠ some g ∧ S.hv.ownBlock ≠ some g ∧ ∀ j (h : j < t.length), w.cell? ⟨g, j, none⟩ = some (.string (t[j]'h))
theorem HeldL.leaf {p : Nat} {w : World} {S : WS} {v : Value} {t : List ByteArray} (h : HeldL p w S v t) : LeafAt w v t := by
  rcases h with h | ⟨g, cap, rfl, hc, _, _, _, _, _, h⟩
  · exact Or.inl h
  · exact Or.inr ⟨g, 0, cap, rfl, hc, fun j hj => by rw [Nat.zero_add]; exact h j hj⟩
/-- It is so in every world that leaves its block alone. -/
theorem HeldL.move {p : Nat} {w w' : World} {S S' : WS} {v : Value} {t : List ByteArray} (h : HeldL p w S v t) (hz : w.heap.size ≤ w'.heap.size)
    (hb : ∀ g, g < w.heap.size → p < g → ¬ S.own g → S.gv.ownBlock ≠ some g → S.hv.ownBlock ≠ some g → w'.heap[g]? = w.heap[g]? ∧ ¬ S'.own g ∧ S'.gv.ownBlock ≠ some g ∧ S'.hv.ownBlock ≠ some g) : HeldL p w' S' v t := by
  rcases h with h | ⟨g, cap, rfl, hc, h1, h2, h3, h4, h5, h⟩
  · exact Or.inl h
  · obtain ⟨e1, e2, e3, e4⟩ := hb g h1 h2 h3 h4 h5
    exact Or.inr ⟨g, cap, rfl, hc, Nat.lt_of_lt_of_le h1 hz, h2, e2, e3, e4, fun j hj => (cell_of_block e1 j).trans (h j hj)⟩
theorem HeldL.below {p : Nat} {w w' : World} {S : WS} {v : Value} {t : List ByteArray} (h : HeldL p w S v t) (hb : Below w.heap.size w w') : HeldL p w' S v t :=
  h.move hb.size fun g h1 _ h3 h4 h5 => ⟨hb.block g h1, h3, h4, h5⟩
theorem HeldL.far {p : Nat} {w w' : World} {S S' : WS} {v : Value} {t : List ByteArray} (h : HeldL p w S v t) (F : Far p S S' w w') : HeldL p w' S' v t :=
  h.move F.size fun g h1 h2 h3 h4 h5 => ⟨F.block g h1 (by omega) h3, fun o => by rcases F.fresh g o with o | o; exact h3 o; omega, by rw [F.gv]; exact h4, by rw [F.hv]; exact h5⟩
/-- The lists that came out, and what they must read as. -/
structure HAt (p : Nat) (w : World) (S : WS) (A B : List Value) (Ts : List (List ByteArray)) : Prop where
  rowA : w.ownsRow (p + 1) 30 1 S.gv A.length A
  rowB : w.ownsRow (p + 1) 30 1 S.hv B.length B
  nA : A.length = Ts.length
  nB : B.length = Ts.length
  heldA : ∀ (i : Nat) (v : Value) (t : List ByteArray), A[i]? = some v → Ts[i]? = some t → HeldL p w S v t
  heldB : ∀ (i : Nat) (v : Value) (t : List ByteArray), B[i]? = some v → Ts[i]? = some t → HeldL p w S v t
  short : ∀ t ∈ Ts, t.length ≤ 1000000
  ga : ∀ g, S.gv.ownBlock = some g → ¬ S.own g
  hb : ∀ g, S.hv.ownBlock = some g → ¬ S.own g
  gh : ∀ g, S.gv.ownBlock = some g → S.hv.ownBlock ≠ some g
  m0 : -9223372036854775808 ≤ S.mrk
  m1 : S.mrk ≤ 9223372036854775807
theorem HAt.far {p k : Nat} {w w' : World} {S S' : WS} {A B : List Value} {Ts : List (List ByteArray)} (h : HAt p w S A B Ts) (F : Far p S S' w w') : HAt p w' S' A B Ts := by
  have sA : ∀ g, S.gv.ownBlock = some g → w'.heap[g]? = w.heap[g]? := fun g e => F.block g (h.rowA.lt g e).2 (by have := (h.rowA.lt g e).1; omega) (h.ga g e)
  have sB : ∀ g, S.hv.ownBlock = some g → w'.heap[g]? = w.heap[g]? := fun g e => F.block g (h.rowB.lt g e).2 (by have := (h.rowB.lt g e).1; omega) (h.hb g e)
  refine ⟨by rw [F.gv]; exact own_same h.rowA sA, by rw [F.hv]; exact own_same h.rowB sB, h.nA, h.nB, fun i v t h1 h2 => (h.heldA i v t h1 h2).far F, fun i v t h1 h2 => (h.heldB i v t h1 h2).far F, h.short, fun g e o => ?_, fun g e o => ?_, by rw [F.gv, F.hv]; exact h.gh, by rw [F.mrk]; exact h.m0, by rw [F.mrk]; exact h.m1⟩
  · rw [F.gv] at e
    rcases F.fresh g o with o | o
    · exact h.ga g e o
    · have := (h.rowA.lt g e).2; omega
  · rw [F.hv] at e
    rcases F.fresh g o with o | o
    · exact h.hb g e o
    · have := (h.rowB.lt g e).2; omega
theorem HAt.below {p : Nat} {w w' : World} {S : WS} {A B : List Value} {Ts : List (List ByteArray)} (h : HAt p w S A B Ts) (hb : Below w.heap.size w w') : HAt p w' S A B Ts := h.far (k := 0) (Far.of_below S hb)

/-- The world's block with another field, its rows as they were. -/
theorem WAt.setG {p k : Nat} {w : World} {S : WS} (h : WAt p k w S) (v : Value) : WAt p k (w.setCell ⟨p, 6, none⟩ v) { S with gv := v } :=
  { h with block := by rw [heap_setCell_same w p 6 _ _ v h.block]; simp [WS.cells], texts := own_fieldX h.texts, list := own_fieldX h.list, keep := own_fieldX h.keep, disks := own_fieldX h.disks }
theorem WAt.setH {p k : Nat} {w : World} {S : WS} (h : WAt p k w S) (v : Value) : WAt p k (w.setCell ⟨p, 7, none⟩ v) { S with hv := v } :=
  { h with block := by rw [heap_setCell_same w p 7 _ _ v h.block]; simp [WS.cells], texts := own_fieldX h.texts, list := own_fieldX h.list, keep := own_fieldX h.keep, disks := own_fieldX h.disks }
theorem WAt.setM {p k : Nat} {w : World} {S : WS} (h : WAt p k w S) (m : Int) : WAt p k (w.setCell ⟨p, 10, none⟩ (.int .i64 m)) { S with mrk := m } :=
  { h with block := by rw [heap_setCell_same w p 10 _ _ _ h.block]; simp [WS.cells], texts := own_fieldX h.texts, list := own_fieldX h.list, keep := own_fieldX h.keep, disks := own_fieldX h.disks }
theorem WAt.grown {p k : Nat} {w w' : World} {S : WS} {row : Option Nat} (h : WAt p k w S) (hg : w.grownBy w' row) (hp : some p ≠ row) (ho : ∀ b, S.own b → some b ≠ row) : WAt p k w' S :=
  { h with
    block := (hg.block p h.lt hp).trans h.block
    texts := own_same h.texts fun g e => hg.block g (h.texts.lt g e).2 (ho g (Or.inl e))
    list := own_same h.list fun g e => hg.block g (h.list.lt g e).2 (ho g (Or.inr (Or.inl e)))
    keep := own_same h.keep fun g e => hg.block g (h.keep.lt g e).2 (ho g (Or.inr (Or.inr (Or.inl e))))
    disks := own_same h.disks fun g e => hg.block g (h.disks.lt g e).2 (ho g (Or.inr (Or.inr (Or.inr e)))) }
theorem HeldL.grown {p : Nat} {w w' : World} {S : WS} {v : Value} {t : List ByteArray} {row : Option Nat} (h : HeldL p w S v t) (hg : w.grownBy w' row) (hr : ∀ g, row = some g → v.ownBlock ≠ some g) : HeldL p w' S v t := by
  rcases h with h | ⟨g, cap, rfl, hc, h1, h2, h3, h4, h5, h⟩
  · exact Or.inl h
  · exact Or.inr ⟨g, cap, rfl, hc, Nat.lt_of_lt_of_le h1 hg.size, h2, h3, h4, h5, fun j hj => (cell_of_block (hg.block g h1 (fun e => hr g e.symm rfl)) j).trans (h j hj)⟩

/-- append to a row of the call's own, which lies there as before. -/
theorem run_append_both (w : World) (ty : TypeId) (base : Nat) (v : Value) (n : Nat) (xs : List Value) (hown : w.ownsRow base 9 1 v n xs) (ad : Addr) (m c : Nat) (news : List Value) (hl : news.length = m) (hnews : ∀ j u, news[j]? = some u → w.cell? (ad.add j) = some u) (h1 : ∀ u ∈ news, u.oneCell' = true)
    (hm : 0 < m) (hnm : n + m ≤ 10000000) (hbase : base ≤ w.heap.size) :
    ∃ g cap w', (Builtin.append_ #[30, 30] ty #[v, .slice (some ad) m c]).run Tryz.prog w = .ok (.slice (some ⟨g, 0, none⟩) (n + m) cap) w' ∧ w'.ownsRow base 9 1 (.slice (some ⟨g, 0, none⟩) (n + m) cap) (n + m) (xs ++ news) ∧ w.grownBy w' v.ownBlock ∧ (v.ownBlock = some g ∨ w.heap.size ≤ g) ∧ w'.ownsRow base 9 1 v n xs := by
  obtain ⟨i, hi, hz, hsz, hby⟩ := info_strT
  rcases hown.2 with ⟨rfl, rfl⟩ | ⟨g, cap, cur, rfl, hb, hg, hnc, hcm, hcs, ht⟩
  · obtain ⟨g, cap, w', hr, h2, h3, h4, h5⟩ := run_append_lies (P := Tryz.prog) w 30 ty base 9 i _ 1 16 Tryz.underlying30 hi hz hsz hby rfl (by decide) (.slice none 0 0) 0 xs hown ad m c news (by omega) hnews h1 hm (by unfold maxLen; omega) (by omega) hbase _ rfl
    refine ⟨g, cap, w', hr, h2, h3, Or.inr (by rcases h4 with h4 | h4; cases h4; omega), ?_⟩
    have : xs = [] := List.eq_nil_of_length_eq_zero (by simpa using hown.1)
    subst this
    exact World.ownsRow_nil _ _ _ _
  · by_cases hroom : n + m ≤ cap
    · obtain ⟨w', hr, h2, h3⟩ := run_append_fits (P := Tryz.prog) w base 30 ty 9 i 1 Tryz.underlying30 hi hsz g n cap xs hown ad m c news (by omega) hnews h1 hroom
      refine ⟨g, cap, w', hr, h2, h3, Or.inl rfl, hown.1, ?_⟩
      rcases h2.2 with ⟨e, _⟩ | ⟨g', cap', cur', e, hb', hg', _, hcm', hcs', ht'⟩
      · cases e
      · injection e with e1 e2 e3
        injection e1 with e1
        injection e1 with e1 _ _
        subst e1 e3
        refine Or.inr ⟨g, cap, cur', rfl, hb, hg', hnc, hcm', hcs', ?_⟩
        have h5 := congrArg (List.take (n * 1)) ht'
        rw [List.take_take, Nat.min_eq_left (by omega)] at h5
        rw [h5, List.take_append_of_le_length (by rw [hown.1]; exact Nat.le_refl _), List.take_of_length_le (by rw [hown.1]; exact Nat.le_refl _)]
    · obtain ⟨v', w', hr, h2, h3⟩ := run_append_arg_grows (P := Tryz.prog) w 30 ty 9 i _ 1 16 Tryz.underlying30 hi hz hsz hby rfl (by decide) ⟨g, 0, none⟩ n cap xs hown.1 (hown.cells rfl) ad m c news (by omega) hnews (by omega) (by unfold maxLen; omega) (by omega)
      have hk : w'.ownsRow base 9 1 (.slice (some ⟨g, 0, none⟩) n cap) n xs := hown.kept h3 (Or.inr (by simp [Value.ownBlock]))
      rcases h2.2 with ⟨_, e⟩ | ⟨g', cap', cur', rfl, hb', rest⟩
      · omega
      · exact ⟨g', cap', w', hr, ⟨h2.1, Or.inr ⟨g', cap', cur', rfl, by omega, rest⟩⟩, ⟨h3.os, h3.tape, h3.output, h3.size, fun k hk _ => h3.block k hk (by simp)⟩, Or.inr hb', hk⟩
theorem wp_append_both {o : Oper} {a : Act} {w : World} {C : Act → World → Prop} {Q : Exit → Act → World → Prop} (s x : Operand)
    (hop : o.op = Op.call { callee := Callee.builtin Builtin.append, args := #[s, x], argTypes := #[30, 30] })
    (base : Nat) (v : Value) (n : Nat) (xs : List Value) (hs : a.eval s = v) (hown : w.ownsRow base 9 1 v n xs) (ad : Addr) (m c : Nat) (news : List Value) (hx : a.eval x = .slice (some ad) m c) (hl : news.length = m) (hnews : ∀ j u, news[j]? = some u → w.cell? (ad.add j) = some u) (h1 : ∀ u ∈ news, u.oneCell' = true)
    (hm : 0 < m) (hnm : n + m ≤ 10000000) (hbase : base ≤ w.heap.size)
    (hK : ∀ g cap w', w'.ownsRow base 9 1 (.slice (some ⟨g, 0, none⟩) (n + m) cap) (n + m) (xs ++ news) → w.grownBy w' v.ownBlock → (v.ownBlock = some g ∨ w.heap.size ≤ g) → w'.ownsRow base 9 1 v n xs → C (a.put o.dst (.slice (some ⟨g, 0, none⟩) (n + m) cap)) w') :
    o.wp Tryz.prog a w C Q := by
  obtain ⟨g, cap, w', hr, h2, h3, h4, h5⟩ := run_append_both w o.type base v n xs hown ad m c news hl hnews h1 hm hnm hbase
  unfold Oper.wp execOp
  simp only [hop, resolve, invoke, builtin, Sem.run_bind, Sem.run_pure, Result.andThen_ok, List.map_toArray, List.map_cons, List.map_nil, hs, hx, hr]
  exact hK g cap w' h2 h3 h4 h5
theorem wpList_append_both {ops : Array Oper} {rest : List Oper} {o : Oper} {a : Act} {w : World} {Q : Exit → Act → World → Prop} (hg : o.guard = none) (s x : Operand)
    (hop : o.op = Op.call { callee := Callee.builtin Builtin.append, args := #[s, x], argTypes := #[30, 30] })
    (base : Nat) (v : Value) (n : Nat) (xs : List Value) (hs : a.eval s = v) (hown : w.ownsRow base 9 1 v n xs) (ad : Addr) (m c : Nat) (news : List Value) (hx : a.eval x = .slice (some ad) m c) (hl : news.length = m) (hnews : ∀ j u, news[j]? = some u → w.cell? (ad.add j) = some u) (h1 : ∀ u ∈ news, u.oneCell' = true)
    (hm : 0 < m) (hnm : n + m ≤ 10000000) (hbase : base ≤ w.heap.size)
    (hK : ∀ g cap w', w'.ownsRow base 9 1 (.slice (some ⟨g, 0, none⟩) (n + m) cap) (n + m) (xs ++ news) → w.grownBy w' v.ownBlock → (v.ownBlock = some g ∨ w.heap.size ≤ g) → w'.ownsRow base 9 1 v n xs → wpList Tryz.prog ops Q rest (a.put o.dst (.slice (some ⟨g, 0, none⟩) (n + m) cap)) w') :
    wpList Tryz.prog ops Q (o :: rest) a w :=
  wpList_plain hg fun _ hK' => wp_append_both s x hop base v n xs hs hown ad m c news hx hl hnews h1 hm hnm hbase fun g cap w' h1 h2 h3 h4 => hK' _ _ (hK g cap w' h1 h2 h3 h4)
end Go.Proofs.YtijdnpoenpjnlaaGreatDoor
set_option linter.unusedVariables false
set_option linter.unusedSimpArgs false
namespace Go.Proofs.YtijdnpoenpjnlaaGreatDoor
open Go.RowKit

def markN (n : Int) : List Int := [109, n / 65536 % 256, n / 256 % 256, n % 256]
set_option maxHeartbeats 400000 in
theorem mark_any (n : Int) (w : World) :
    Calls Tryz.prog 73 #[.int .i64 n] w fun e w' => e = .returned (.string (strOfNums (markN n))) ∧ Below w.heap.size w w' := by
  have hcv := convert_range (w := w.alloc (.cells (bytesV (markN n)).toArray 5)) (b := w.heap.size) (cap := 4) (ns := markN n) 4 rfl (range_new _ _ _)
  simp only [markN, bytesV, List.map] at hcv
  go_enter Tryz.func73, Tryz.ntmps73
  go_wp2_with fail
  go_ret
  exact ⟨rfl, (Below.refl _ _).alloc (Nat.le_refl _) _⟩
theorem mark_size (n : Int) : (strOfNums (markN n)).size = 4 := by rw [strOfNums_size]; rfl

theorem info_slT : ∃ i, Tryz.prog.info? 30 = some i ∧ i.zero = some (.slice none 0 0) ∧ i.size = 1 ∧ i.bytes = 24 := by
  obtain ⟨i, hi⟩ : ∃ i, Tryz.prog.info? 30 = some i := Option.isSome_iff_exists.1 (by kernel_rfl)
  refine ⟨i, hi, ?_, ?_, ?_⟩
  · have : (Tryz.prog.info? 30).bind (·.zero) = some (.slice none 0 0) := by kernel_rfl
    rw [hi] at this; exact this
  · have : (Tryz.prog.info? 30).map (·.size) = some 1 := by kernel_rfl
    rw [hi] at this; exact Option.some.inj this
  · have : (Tryz.prog.info? 30).map (·.bytes) = some 24 := by kernel_rfl
    rw [hi] at this; exact Option.some.inj this

/-- What hold leaves. -/
def holdPost (p k : Nat) (S : WS) (A B : List Value) (Ts : List (List ByteArray)) (v : Value) (t : List ByteArray) (w : World) (e : Ending) (w' : World) : Prop :=
  e = .returned (.tuple #[]) ∧ ∃ (S' : WS) (c : Value), WAt p k w' S' ∧ HAt p w' S' (A ++ [v]) (B ++ [c]) (Ts ++ [t]) ∧ (∀ u s, HeldL p w S u s → HeldL p w' S' u s) ∧ Below p w w'

theorem get_snoc {α : Type} {l : List α} {x y : α} {i : Nat} (h : (l ++ [x])[i]? = some y) : (i < l.length ∧ l[i]? = some y) ∨ (i = l.length ∧ y = x) := by
  rcases Nat.lt_or_ge i l.length with h1 | h1
  · rw [List.getElem?_append_left h1] at h; exact Or.inl ⟨h1, h⟩
  · rw [List.getElem?_append_right h1] at h
    by_cases e : i = l.length
    · subst e; simp at h; exact Or.inr ⟨rfl, h.symm⟩
    · rw [List.getElem?_eq_none (by simp; omega)] at h; cases h

/-- What the six steps of hold come to. -/
theorem hold_math (p k : Nat) (S : WS) (A B : List Value) (Ts : List (List ByteArray)) (v : Value) (t : List ByteArray) (w w2 w3 w5 : World) (q g3 cap3 g5 cap5 : Nat) (h : WAt p k w S) (H : HAt p w S A B Ts) (hv : HeldL p w S v t) (ht : t.length ≤ 1000000)
    (hq : q = w.heap.size) (hb2 : Below w.heap.size w w2) (hz2 : q < w2.heap.size) (hr2 : ∀ j (h : j < t.length), w2.cell? ⟨q, j, none⟩ = some (.string (t[j]'h)))
    (ho3 : w3.ownsRow (p + 1) 30 1 (.slice (some ⟨g3, 0, none⟩) (A.length + 1) cap3) (A.length + 1) (A ++ [v])) (hgr3 : w2.grownBy w3 S.gv.ownBlock) (hat3 : S.gv.ownBlock = some g3 ∨ w2.heap.size ≤ g3)
    (ho5 : w5.ownsRow (p + 1) 30 1 (.slice (some ⟨g5, 0, none⟩) (B.length + 1) cap5) (B.length + 1) (B ++ [.slice (some ⟨q, 0, none⟩) t.length t.length])) (hgr5 : (w3.setCell ⟨p, 6, none⟩ (.slice (some ⟨g3, 0, none⟩) (A.length + 1) cap3)).grownBy w5 S.hv.ownBlock) (hat5 : S.hv.ownBlock = some g5 ∨ w3.heap.size ≤ g5) :
    holdPost p k S A B Ts v t w (.returned (.tuple #[])) (w5.setCell ⟨p, 7, none⟩ (.slice (some ⟨g5, 0, none⟩) (B.length + 1) cap5)) := by
  have hpw := h.lt
  have hlA := H.rowA.lt
  have hlB := H.rowB.lt
  have hz3 := hgr3.size
  have hz5 := hgr5.size
  simp at hz5
  have hpA : some p ≠ S.gv.ownBlock := fun e => by have := hlA p e.symm; omega
  have hpB : some p ≠ S.hv.ownBlock := fun e => by have := hlB p e.symm; omega
  have W2 : WAt p k w2 S := h.below hb2
  have W3 : WAt p k w3 S := W2.grown hgr3 hpA (fun b o e => H.ga b e.symm o)
  have W4 := W3.setG (.slice (some ⟨g3, 0, none⟩) (A.length + 1) cap3)
  have W5 : WAt p k w5 { S with gv := .slice (some ⟨g3, 0, none⟩) (A.length + 1) cap3 } := W4.grown hgr5 hpB (fun b o e => H.hb b e.symm o)
  have W6 := W5.setH (.slice (some ⟨g5, 0, none⟩) (B.length + 1) cap5)
  have fr : ∀ g, g < w2.heap.size → g ≠ p → S.gv.ownBlock ≠ some g → S.hv.ownBlock ≠ some g → (w5.setCell ⟨p, 7, none⟩ (.slice (some ⟨g5, 0, none⟩) (B.length + 1) cap5)).heap[g]? = w2.heap[g]? := fun g h1 h2 h3 h4 => by
    rw [heap_setCell_other w5 ⟨p, 7, none⟩ g _ h2, hgr5.block g (by simp; omega) (fun e => h4 e.symm), heap_setCell_other w3 ⟨p, 6, none⟩ g _ h2]
    exact hgr3.block g h1 (fun e => h3 e.symm)
  have mv : ∀ u s, HeldL p w S u s → HeldL p (w5.setCell ⟨p, 7, none⟩ (.slice (some ⟨g5, 0, none⟩) (B.length + 1) cap5)) { S with gv := .slice (some ⟨g3, 0, none⟩) (A.length + 1) cap3, hv := .slice (some ⟨g5, 0, none⟩) (B.length + 1) cap5 } u s := fun u s hu => by
    refine hu.move (by simp; have := hb2.size; omega) fun g h1 h2 h3 h4 h5 => ⟨(fr g (by omega) (by omega) h4 h5).trans (hb2.block g h1), h3, fun e => ?_, fun e => ?_⟩
    · have e' : g3 = g := by simpa [Value.ownBlock] using e
      rcases hat3 with e2 | e2
      · exact h4 (by rw [e2, e'])
      · omega
    · have e' : g5 = g := by simpa [Value.ownBlock] using e
      rcases hat5 with e2 | e2
      · exact h5 (by rw [e2, e'])
      · omega
  have hc : HeldL p (w5.setCell ⟨p, 7, none⟩ (.slice (some ⟨g5, 0, none⟩) (B.length + 1) cap5)) { S with gv := .slice (some ⟨g3, 0, none⟩) (A.length + 1) cap3, hv := .slice (some ⟨g5, 0, none⟩) (B.length + 1) cap5 } (.slice (some ⟨q, 0, none⟩) t.length t.length) t := by
    have n1 : S.gv.ownBlock ≠ some q := fun e => by have := hlA q e; omega
    have n2 : S.hv.ownBlock ≠ some q := fun e => by have := hlB q e; omega
    refine Or.inr ⟨q, t.length, rfl, Nat.le_refl _, by simp; omega, by omega, fun o => by have := h.own_lt (b := q) o; omega, fun e => ?_, fun e => ?_, fun j hj => ?_⟩
    · have e' : g3 = q := by simpa [Value.ownBlock] using e
      rcases hat3 with e2 | e2
      · exact n1 (by rw [e2, e'])
      · omega
    · have e' : g5 = q := by simpa [Value.ownBlock] using e
      rcases hat5 with e2 | e2
      · exact n2 (by rw [e2, e'])
      · omega
    · rw [cell_of_block (fr q hz2 (by omega) n1 n2) j]; exact hr2 j hj
  refine ⟨rfl, _, .slice (some ⟨q, 0, none⟩) t.length t.length, W6, ⟨?_, ?_, by simp [H.nA], by simp [H.nB], fun i u s h1 h2 => ?_, fun i u s h1 h2 => ?_, fun s hs => ?_, fun g e o => ?_, fun g e o => ?_, fun g e e2 => ?_, H.m0, H.m1⟩, mv, ?_⟩
  · have r4 : (w3.setCell ⟨p, 6, none⟩ (.slice (some ⟨g3, 0, none⟩) (A.length + 1) cap3)).ownsRow (p + 1) 30 1 (.slice (some ⟨g3, 0, none⟩) (A.length + 1) cap3) (A.length + 1) (A ++ [v]) := own_fieldX ho3
    have r5 := r4.kept hgr5 (Or.inr fun e => by
      have e' : S.hv.ownBlock = some g3 := e.symm
      rcases hat3 with e2 | e2
      · exact H.gh g3 e2 e'
      · have := hlB g3 e'; have := hb2.size; omega)
    simpa using own_fieldX r5
  · simpa using own_fieldX (i := 7) (u := .slice (some ⟨g5, 0, none⟩) (B.length + 1) cap5) ho5
  · rcases get_snoc h1 with ⟨h3, h4⟩ | ⟨h3, rfl⟩
    · rcases get_snoc h2 with ⟨h5, h6⟩ | ⟨h5, _⟩
      · exact mv u s (H.heldA i u s h4 h6)
      · have := H.nA; omega
    · rcases get_snoc h2 with ⟨h5, _⟩ | ⟨_, rfl⟩
      · have := H.nA; omega
      · exact mv _ _ hv
  · rcases get_snoc h1 with ⟨h3, h4⟩ | ⟨h3, rfl⟩
    · rcases get_snoc h2 with ⟨h5, h6⟩ | ⟨h5, _⟩
      · exact mv u s (H.heldB i u s h4 h6)
      · have := H.nB; omega
    · rcases get_snoc h2 with ⟨h5, _⟩ | ⟨_, rfl⟩
      · have := H.nB; omega
      · exact hc
  · rcases List.mem_append.1 hs with hs | hs
    · exact H.short s hs
    · simp at hs; rw [hs]; exact ht
  · have e' : g3 = g := by simpa [Value.ownBlock] using e
    have o' : S.own g := o
    rcases hat3 with e2 | e2
    · exact H.ga g (by rw [e2, e']) o'
    · have := h.own_lt o'; have := hb2.size; omega
  · have e' : g5 = g := by simpa [Value.ownBlock] using e
    have o' : S.own g := o
    rcases hat5 with e2 | e2
    · exact H.hb g (by rw [e2, e']) o'
    · have := h.own_lt o'; have := hb2.size; omega
  · have e' : g3 = g := by simpa [Value.ownBlock] using e
    have e2' : g5 = g := by simpa [Value.ownBlock] using e2
    subst e'
    rcases hat5 with e4 | e4
    · rw [e2'] at e4
      rcases hat3 with e5 | e5
      · exact H.gh g3 e5 e4
      · have := hlB g3 e4; have := hb2.size; omega
    · have := (ho3.lt g3 rfl).2; omega
  · have b3 : Below p w2 w3 := (Below.refl _ _).grown hgr3 (by omega) (fun g e => by have := hlA g e; omega)
    have b5 : Below p (w3.setCell ⟨p, 6, none⟩ (.slice (some ⟨g3, 0, none⟩) (A.length + 1) cap3)) w5 := (Below.refl _ _).grown hgr5 (by simp; omega) (fun g e => by have := hlB g e; omega)
    exact (hb2.mono (by omega)).trans ((b3.setCell (p := ⟨p, 6, none⟩) (Nat.le_refl _) _).trans (b5.setCell (p := ⟨p, 7, none⟩) (Nat.le_refl _) _))

set_option maxRecDepth 10000 in
set_option maxHeartbeats 1000000 in
theorem hold_any (p k : Nat) (S : WS) (A B : List Value) (Ts : List (List ByteArray)) (v : Value) (t : List ByteArray) (w : World) (h : WAt p k w S) (H : HAt p w S A B Ts) (hv : HeldL p w S v t) (ht : t.length ≤ 1000000) (hn : Ts.length ≤ 1000000) :
    Calls Tryz.prog 74 #[.pointer (some ⟨p, 0, none⟩), v] w (holdPost p k S A B Ts v t w) := by
  have HW : Hid (WAt p k w S) := h
  have HH : Hid (HAt p w S A B Ts) := H
  have HV : Hid (HeldL p w S v t) := hv
  have HL : Hid (LeafAt w v t) := hv.leaf
  obtain ⟨ao, cap, rfl⟩ := leaf_form hv.leaf
  have hpw := h.lt
  have hnA : A.length ≤ 1000000 := by rw [H.nA]; exact hn
  have hnB : B.length ≤ 1000000 := by rw [H.nB]; exact hn
  clear h H hv
  obtain ⟨N, hN⟩ : ∃ N, N = t.length := ⟨_, rfl⟩
  have HN : Hid (N = t.length) := hN
  rw [← hN] at ht HV HL ⊢
  clear hN
  obtain ⟨i0, hi, hz, hsz, hby⟩ := info_strT
  obtain ⟨i1, hi1, hz1, hsz1, hby1⟩ := info_slT
  go_enter Tryz.func74, Tryz.ntmps74
  go_wp2_with (at_make; refine wpList_make_full _ rfl _ _ 30 rfl w.heap.size 9 i0 (.string ⟨#[]⟩) 1 Tryz.underlying30 hi hz hsz .i64 .i64 _ _ N rfl rfl ?L ?C ?b2 ?b3 (Nat.le_refl _) ?_)
  case L => rfl
  case C => rfl
  case b2 => rw [hby]; omega
  case b3 => unfold maxLen; omega
  intro w1 ho1 hg1
  have hB1 : Below w.heap.size w w1 := (Below.refl _ _).grown hg1 (Nat.le_refl _) (fun k hk => by cases hk)
  have hq1 := (ho1.lt w.heap.size rfl).2
  have ht1 : w1.there w.heap.size 0 N := own_there ho1
  clear ho1 hg1
  have hrun := run_copy_leaf w1 w.heap.size N N _ t (HL.out.below hB1) (by have := HN.out; omega) ht1
  obtain ⟨w2, hw2⟩ : ∃ w2, w2 = w1.setCells w.heap.size 0 (t.map .string) := ⟨_, rfl⟩
  rw [← hw2] at hrun
  have hr2 : w2.rangeAt w.heap.size 0 (t.map .string) := by rw [hw2]; exact World.rangeAt_setCells_same _ _ _ _ (fun j hj => ht1 j (by simp at hj; have := HN.out; omega))
  have hB2 : Below w.heap.size w w2 := by rw [hw2]; exact below_setCells (Nat.le_refl _) _ _ _ hB1
  have hz2 : w.heap.size < w2.heap.size := by rw [hw2, size_setCells]; exact hq1
  have HR2 : Hid (∀ j (h : j < t.length), w2.cell? ⟨w.heap.size, j, none⟩ = some (.string (t[j]'h))) := fun j hj => by
    have := hr2 j (.string (t[j]'hj)) (by rw [List.getElem?_map, List.getElem?_eq_getElem hj]; rfl)
    rwa [Nat.zero_add] at this
  clear hw2 hr2 ht1 hB1 hq1
  have W2 := HW.out.below hB2
  have c0 : w2.cell? ⟨p, 6, none⟩ = some S.gv := W2.cell 6
  have f0 : w2.frozen? ⟨p, 6, none⟩ = false := W2.frozen 6
  have hA2 := HH.out.below hB2
  have ho2 : (w2.alloc (.cells #[.slice ao N cap] 30)).ownsRow (p + 1) 30 1 S.gv A.length A := hA2.rowA.alloc _
  have hnp1 : some p ≠ S.gv.ownBlock := fun e => by have := hA2.rowA.lt p e.symm; omega
  have hnp2 : some p ≠ S.hv.ownBlock := fun e => by have := hA2.rowB.lt p e.symm; omega
  have hn2 : ∀ j u, [Value.slice ao N cap][j]? = some u → (w2.alloc (.cells #[.slice ao N cap] 30)).cell? ((⟨w2.heap.size, 0, none⟩ : Addr).add j) = some u := World.news_of_block (heap_alloc_new w2 (.cells #[.slice ao N cap] 30))
  have HW2 : Hid (WAt p k w2 S) := W2
  have HA2 : Hid (HAt p w2 S A B Ts) := hA2
  clear W2 hA2
  go_wp2_with (first
    | (at_builtin; refine Lib.wpList_copy_run _ rfl _ _ 30 30 rfl _ _ rfl rfl hrun ?_)
    | (refine wpList_append_lies _ rfl _ _ 34 rfl (p + 1) 30 i1 _ 1 24 Tryz.underlying34 hi1 hz1 hsz1 hby1 rfl (by decide) S.hv B.length _ rfl hoB ⟨w3.heap.size, 0, none⟩ 1 1 [.slice (some ⟨w.heap.size, 0, none⟩) N N] rfl rfl hnB' (by simp [Value.oneCell']) (by decide) (by unfold maxLen; omega) (by omega) (by simp; omega) _ rfl ?_
       intro g5 cap5 w5 ho5 hgr5 hat5 hlt5
       have hgr5' : (w3.setCell ⟨p, 6, none⟩ (.slice (some ⟨g3, 0, none⟩) (A.length + 1) cap3)).grownBy w5 S.hv.ownBlock := grown_trans (World.grownBy_alloc _ _ _) hgr5
       have c5 : w5.cell? ⟨p, 7, none⟩ = some S.hv := (hgr5'.cell_far ⟨p, 7, none⟩ (by simp; omega) hnp2).trans c4
       have f5 : w5.frozen? ⟨p, 7, none⟩ = false := (hgr5'.frozen_far ⟨p, 7, none⟩ (by simp; omega) hnp2).trans f4)
    | (refine wpList_append_lies _ rfl _ _ 34 rfl (p + 1) 30 i1 _ 1 24 Tryz.underlying34 hi1 hz1 hsz1 hby1 rfl (by decide) S.gv A.length _ rfl ho2 ⟨w2.heap.size, 0, none⟩ 1 1 [.slice ao N cap] rfl rfl hn2 (by simp [Value.oneCell']) (by decide) (by unfold maxLen; omega) (by omega) (by simp; omega) _ rfl ?_
       intro g3 cap3 w3 ho3 hgr3 hat3 hlt3
       have hgr3' : w2.grownBy w3 S.gv.ownBlock := grown_trans (World.grownBy_alloc _ _ _) hgr3
       have hs3 := hgr3'.size
       have c3 : w3.cell? ⟨p, 6, none⟩ = some S.gv := (hgr3'.cell_far ⟨p, 6, none⟩ (by simp; omega) hnp1).trans c0
       have f3 : w3.frozen? ⟨p, 6, none⟩ = false := (hgr3'.frozen_far ⟨p, 6, none⟩ (by simp; omega) hnp1).trans f0
       have W3 : WAt p k w3 S := HW2.out.grown hgr3' hnp1 (fun b o e => HA2.out.ga b e.symm o)
       have W4 := W3.setG (.slice (some ⟨g3, 0, none⟩) (A.length + 1) cap3)
       have c4 : (w3.setCell ⟨p, 6, none⟩ (.slice (some ⟨g3, 0, none⟩) (A.length + 1) cap3)).cell? ⟨p, 7, none⟩ = some S.hv := W4.cell 7
       have f4 : (w3.setCell ⟨p, 6, none⟩ (.slice (some ⟨g3, 0, none⟩) (A.length + 1) cap3)).frozen? ⟨p, 7, none⟩ = false := W4.frozen 7
       have hoB : ((w3.setCell ⟨p, 6, none⟩ (.slice (some ⟨g3, 0, none⟩) (A.length + 1) cap3)).alloc (.cells #[.slice (some ⟨w.heap.size, 0, none⟩) N N] 30)).ownsRow (p + 1) 30 1 S.hv B.length B := (own_fieldX (HA2.out.rowB.kept hgr3' (by
         cases hh : S.hv.ownBlock with
         | none => exact Or.inl rfl
         | some g => exact Or.inr fun e => HA2.out.gh g e.symm hh))).alloc _
       have hnB' : ∀ j u, [Value.slice (some ⟨w.heap.size, 0, none⟩) N N][j]? = some u → ((w3.setCell ⟨p, 6, none⟩ (.slice (some ⟨g3, 0, none⟩) (A.length + 1) cap3)).alloc (.cells #[.slice (some ⟨w.heap.size, 0, none⟩) N N] 30)).cell? ((⟨w3.heap.size, 0, none⟩ : Addr).add j) = some u := fun j u hu => by
         have := World.news_of_block (heap_alloc_new (w3.setCell ⟨p, 6, none⟩ (.slice (some ⟨g3, 0, none⟩) (A.length + 1) cap3)) (.cells #[.slice (some ⟨w.heap.size, 0, none⟩) N N] 30)) j u hu
         rw [show (w3.setCell ⟨p, 6, none⟩ (.slice (some ⟨g3, 0, none⟩) (A.length + 1) cap3)).heap.size = w3.heap.size by simp] at this
         exact this
       clear W3 W4))
  go_end0
  have e := HN.out
  subst e
  exact hold_math p k S A B Ts _ t w w2 w3 w5 w.heap.size g3 cap3 g5 cap5 HW.out HH.out HV.out ht rfl hB2 hz2 HR2.out ho3 hgr3' (by rcases hat3 with e | e; exact Or.inl e; right; simp at e; omega) ho5 hgr5' (by rcases hat5 with e | e; exact Or.inl e; right; simp at e; omega)
end Go.Proofs.YtijdnpoenpjnlaaGreatDoor
set_option linter.unusedVariables false
set_option linter.unusedSimpArgs false
namespace Go.Proofs.YtijdnpoenpjnlaaGreatDoor
open Go.RowKit

/-- What came out stays so where nothing below has turned but the world's own block. -/
theorem HAt.frame {p : Nat} {w0 w : World} {S S' : WS} {A B : List Value} {Ts : List (List ByteArray)} (H : HAt p w0 S A B Ts) (hg : w0.grownBy w (some p)) (e1 : S'.gv = S.gv) (e2 : S'.hv = S.hv) (ho : ∀ b, S'.own b → S.own b ∨ w0.heap.size ≤ b) (m0 : -9223372036854775808 ≤ S'.mrk) (m1 : S'.mrk ≤ 9223372036854775807) : HAt p w S' A B Ts := by
  have hlA := H.rowA.lt
  have hlB := H.rowB.lt
  have mv : ∀ u s, HeldL p w0 S u s → HeldL p w S' u s := fun u s hu => hu.move hg.size fun g h1 h2 h3 h4 h5 => ⟨hg.block g h1 (fun e => by injection e with e; omega), fun o => by rcases ho g o with o | o; exact h3 o; omega, by rw [e1]; exact h4, by rw [e2]; exact h5⟩
  refine ⟨by rw [e1]; exact own_same H.rowA fun g e => hg.block g (hlA g e).2 (fun e' => by injection e' with e'; have := hlA g e; omega), by rw [e2]; exact own_same H.rowB fun g e => hg.block g (hlB g e).2 (fun e' => by injection e' with e'; have := hlB g e; omega), H.nA, H.nB, fun i u s h1 h2 => mv u s (H.heldA i u s h1 h2), fun i u s h1 h2 => mv u s (H.heldB i u s h1 h2), H.short, fun g e o => ?_, fun g e o => ?_, by rw [e1, e2]; exact H.gh, m0, m1⟩
  · rw [e1] at e
    rcases ho g o with o | o
    · exact H.ga g e o
    · have := hlA g e; omega
  · rw [e2] at e
    rcases ho g o with o | o
    · exact H.hb g e o
    · have := hlB g e; omega
/-- A row that is not the world's, held. -/
theorem held_own {p : Nat} {w w0 : World} {S : WS} {v : Value} {X : List ByteArray} {A B : List Value} {Ts : List (List ByteArray)} (hp : p < w0.heap.size) (hg : ∀ g, S.gv.ownBlock = some g → g < w0.heap.size) (hh : ∀ g, S.hv.ownBlock = some g → g < w0.heap.size) (ho : w.ownsRow w0.heap.size 9 1 v X.length (X.map .string)) (hno : ∀ g, v.ownBlock = some g → ¬ S.own g) : HeldL p w S v X := by
  rcases ho.2 with ⟨rfl, h0⟩ | ⟨g, cap, cur, rfl, hb, _, hc, _⟩
  · exact Or.inl ⟨List.eq_nil_of_length_eq_zero h0, _, _, rfl⟩
  · refine Or.inr ⟨g, cap, rfl, hc, (ho.lt g rfl).2, by omega, hno g rfl, fun e => by have := hg g e; omega, fun e => by have := hh g e; omega, fun j hj => ?_⟩
    rw [ho.cellAt j (by omega), List.getElem?_map, List.getElem?_eq_getElem hj]; rfl

def ownPost (p k : Nat) (Ts : List (List ByteArray)) (w : World) (e : Ending) (w' : World) : Prop :=
  e = .returned (.tuple #[]) ∧ ∃ (S' : WS) (A' B' : List Value) (Ts' : List (List ByteArray)), WAt p (k + 1) w' S' ∧ HAt p w' S' A' B' Ts' ∧ Ts'.length = Ts.length + 2 ∧ Below p w w'

theorem wrap_lo (x : Int) : -9223372036854775808 ≤ wrap64 x := by unfold wrap64; omega
theorem wrap_hi (x : Int) : wrap64 x ≤ 9223372036854775807 := by unfold wrap64; omega

set_option maxRecDepth 10000 in
set_option maxHeartbeats 4000000 in
theorem own_any (p k : Nat) (S : WS) (A B : List Value) (Ts : List (List ByteArray)) (ao : Option Addr) (M cap : Nat) (F : List ByteArray) (w0 w : World) (h0 : WAt p k w0 S) (H : HAt p w0 S A B Ts) (hb : Below w0.heap.size w0 w) (hown : w.ownsRow w0.heap.size 9 1 (.slice ao M cap) M (F.map .string)) (hM : M = F.length) (hk : M ≤ k + 1) (hk2 : k ≤ 900000) (hF : ∀ b ∈ F, b.size ≤ 20000) (hn : Ts.length ≤ 900000) :
    Calls Tryz.prog 35 #[.pointer (some ⟨p, 0, none⟩), .slice ao M cap] w (ownPost p k Ts w) := by
  have hp0 := h0.lt
  have hpw : p < w.heap.size := Nat.lt_of_lt_of_le hp0 hb.size
  have HW : Hid (WAt p k w S) := h0.below hb
  have HO0 : Hid (∀ b, S.own b → b < w0.heap.size) := fun b o => (h0.own_lt o).2
  have HH : Hid (HAt p w0 S A B Ts) := H
  have HB : Hid (Below w0.heap.size w0 w) := hb
  have HOW : Hid (w.ownsRow w0.heap.size 9 1 (.slice ao M cap) M (F.map .string)) := hown
  have hown' : w.ownsRow w0.heap.size 9 1 (.slice ao M cap) F.length (F.map .string) := by rw [← hM]; exact hown
  have HM : Hid (M = F.length) := hM
  have HF : Hid (∀ b ∈ F, b.size ≤ 20000) := hF
  have hz0 := hb.size
  clear h0 H hb hown hM hF
  go_enter Tryz.func35, Tryz.ntmps35
  have W := HW.out
  have c1 : w.cell? ⟨p, 1, none⟩ = some S.lv := W.cell 1
  have f1 : w.frozen? ⟨p, 1, none⟩ = false := W.frozen 1
  clear W
  go_wp2_with (refine wpList_append_texts rfl _ _ rfl w.heap.size (.slice none 0 0) 0 [] rfl (World.ownsRow_nil _ _ _ _) _ F rfl w0.heap.size hown' (by have := HM.out; omega) (Nat.le_refl _) ?_
               intro ao1 m1 cap1 w1 hm1 ho1 hgr1
               have hs1 := hgr1.size
               have c1' : w1.cell? ⟨p, 1, none⟩ = some S.lv := (hgr1.cell_far ⟨p, 1, none⟩ (by simp; omega) (by simp [Value.ownBlock])).trans c1
               have f1' : w1.frozen? ⟨p, 1, none⟩ = false := (hgr1.frozen_far ⟨p, 1, none⟩ (by simp; omega) (by simp [Value.ownBlock])).trans f1)
  have hb1 : Below w.heap.size w w1 := (Below.refl _ _).grown hgr1 (Nat.le_refl _) (fun g hg => by cases hg)
  obtain rfl : m1 = F.length := by have := hm1.out; omega
  obtain ⟨W2, F2⟩ := HW.out.setL (L := F) hb1 (by simpa using ho1) (by have := HM.out; omega) HF.out
  have hlv : ∀ g, (Value.slice ao1 F.length cap1).ownBlock = some g → w.heap.size ≤ g := fun g e => (ho1.lt g e).1
  have HG2 : Hid (w0.grownBy (w1.setCell ⟨p, 1, none⟩ (.slice ao1 F.length cap1)) (some p)) := by
    have hb := HB.out
    refine ⟨hb1.os.trans hb.os, hb1.tape.trans hb.tape, hb1.output.trans hb.output, by simp; omega, fun b h1 h2 => ?_⟩
    rw [heap_setCell_other w1 ⟨p, 1, none⟩ b _ (fun e => h2 (by simp [e])), hb1.block b (by omega)]
    exact hb.block b h1
  have HR2 : Hid ((w1.setCell ⟨p, 1, none⟩ (.slice ao1 F.length cap1)).ownsRow w0.heap.size 9 1 (.slice ao M cap) M (F.map .string)) := own_same HOW.out fun g e => by
    have := HOW.out.lt g e
    rw [heap_setCell_other w1 ⟨p, 1, none⟩ g _ (by show g ≠ p; omega)]
    exact hb1.block g this.2
  have HNO : Hid (∀ g, (Value.slice ao M cap).ownBlock = some g → ¬ ({ S with lv := .slice ao1 F.length cap1, L := F } : WS).own g) := fun g e o => by
    have h1 := HOW.out.lt g e
    rcases o with o | o | o | o
    · have := HO0.out g (Or.inl o); omega
    · have := hlv g o; omega
    · have := HO0.out g (Or.inr (Or.inr (Or.inl o))); omega
    · have := HO0.out g (Or.inr (Or.inr (Or.inr o))); omega
  have HFR : Hid (∀ b, ({ S with lv := .slice ao1 F.length cap1, L := F } : WS).own b → S.own b ∨ w0.heap.size ≤ b) := fun b o => by
    rcases o with o | o | o | o
    · exact Or.inl (Or.inl o)
    · have := hlv b o; exact Or.inr (by omega)
    · exact Or.inl (Or.inr (Or.inr (Or.inl o)))
    · exact Or.inl (Or.inr (Or.inr (Or.inr o)))
  have HW2 : Hid (WAt p (k + 1) (w1.setCell ⟨p, 1, none⟩ (.slice ao1 F.length cap1)) { S with lv := .slice ao1 F.length cap1, L := F }) := W2
  obtain ⟨S1, hS1⟩ : ∃ S1 : WS, S1 = { S with lv := .slice ao1 F.length cap1, L := F } := ⟨_, rfl⟩
  have eg : S1.gv = S.gv := by rw [hS1]
  have eh : S1.hv = S.hv := by rw [hS1]
  have em : S1.mrk = S.mrk := by rw [hS1]
  rw [← hS1] at HW2 HNO HFR
  have HEG : Hid (S1.gv = S.gv ∧ S1.hv = S.hv ∧ S1.mrk = S.mrk) := ⟨eg, eh, em⟩
  clear W2 F2 hS1 eg eh em ho1 hgr1 hown' hlv hm1 c1 f1
  have hz2 : w.heap.size ≤ (w1.setCell ⟨p, 1, none⟩ (.slice ao1 F.length cap1)).heap.size := by simp; exact hs1
  have hMk : M ≤ 1000000 := by omega
  generalize hw2 : w1.setCell ⟨p, 1, none⟩ (.slice ao1 F.length cap1) = w2 at *
  clear hw2
  go_wp2_with fail
  go_loopw [5] (fun i wr => ∃ (q : Nat) (m : Int) (X : List ByteArray), i = .int .i64 q ∧ q ≤ M ∧ Hid (WAt p (k + 1) wr { S1 with mrk := m } ∧ w0.grownBy wr (some p) ∧ wr.ownsRow w0.heap.size 9 1 (.slice ao M cap) M (X.map .string) ∧ -9223372036854775808 ≤ m ∧ m ≤ 9223372036854775807 ∧ w.heap.size ≤ wr.heap.size)) (fun i _ => M - (intOf i).toNat)
  case atStart => exact ⟨0, S1.mrk, F, rfl, Nat.zero_le _, ⟨HW2.out, HG2.out, HR2.out, by rw [HEG.out.2.2]; exact HH.out.m0, by rw [HEG.out.2.2]; exact HH.out.m1, hz2⟩⟩
  case round =>
    obtain ⟨q, m, X, rfl, hq, hI⟩ := hrel
    have Wr := hI.out.1
    have c10 : wr.cell? ⟨p, 10, none⟩ = some (.int .i64 m) := Wr.cell 10
    have f10 : wr.frozen? ⟨p, 10, none⟩ = false := Wr.frozen 10
    by_cases hlt : q < M
    · have q1 : (q : Int) < (M : Int) := by omega
      have q0 : (0 : Int) ≤ (q : Int) := by omega
      obtain ⟨m', hm'⟩ : ∃ m', m' = wrap64 (m + 1) := ⟨_, rfl⟩
      have Ws := Wr.setM m'
      have c10' : (wr.setCell ⟨p, 10, none⟩ (.int .i64 m')).cell? ⟨p, 10, none⟩ = some (.int .i64 m') := Ws.cell 10
      rw [hm'] at c10'
      have HWs : Hid (WAt p (k + 1) (wr.setCell ⟨p, 10, none⟩ (.int .i64 m')) { S1 with mrk := m' }) := Ws
      have HM' : Hid (m' = wrap64 (m + 1)) := hm'
      have hro := hI.out.2.2.1
      obtain ⟨g, hg⟩ : ∃ g, ao = some ⟨g, 0, none⟩ := by
        rcases hro.2 with ⟨_, e⟩ | ⟨g, cap', cur, e, _⟩
        · omega
        · exact ⟨g, by injection e⟩
      subst hg
      have hgl := hro.lt g rfl
      have HRS : Hid ((wr.setCell ⟨p, 10, none⟩ (.int .i64 m')).ownsRow w0.heap.size 9 1 (.slice (some ⟨g, 0, none⟩) M cap) M (X.map .string)) := own_same hro fun g' e => by
        have := hro.lt g' e
        exact heap_setCell_other wr ⟨p, 10, none⟩ g' _ (by show g' ≠ p; omega)
      have HGS : Hid (w0.grownBy (wr.setCell ⟨p, 10, none⟩ (.int .i64 m')) (some p)) := off_set hI.out.2.1
      clear Ws hm' Wr hro
      go_wp2_with fail
      refine (mark_any _ _).mono ?_
      rintro e w5 ⟨rfl, hb5⟩
      rw [← HM'.out] at hb5
      obtain ⟨s, hs⟩ : ∃ s, s = strOfNums (markN (wrap64 (m + 1))) := ⟨_, rfl⟩
      rw [← hs]
      have W5 := HWs.out.below hb5
      have ho5 := own_below' HRS.out hb5
      have cq : ∃ u, w5.cell? ⟨g, q, none⟩ = some u := by
        rw [ho5.cellAt q (by omega)]
        exact ⟨_, List.getElem?_eq_getElem (by have := ho5.1; omega)⟩
      obtain ⟨u, cq⟩ := cq
      have fq : w5.frozen? ⟨g, q, none⟩ = false := ho5.frozenAt q
      have hst := ho5.stored q (.string s)
      have HW6 : Hid (WAt p (k + 1) (w5.setCell ⟨g, q, none⟩ (.string s)) { S1 with mrk := m' }) := W5.grown hst.2 (fun e => by injection e with e; omega) (fun b o e => by injection e with e; exact HNO.out g rfl (by rw [← e]; exact o))
      have HR6 : Hid ((w5.setCell ⟨g, q, none⟩ (.string s)).ownsRow w0.heap.size 9 1 (.slice (some ⟨g, 0, none⟩) M cap) M ((X.set q s).map .string)) := by
        have := hst.1
        rw [← List.map_set] at this
        exact this
      have HG6 : Hid (w0.grownBy (w5.setCell ⟨g, q, none⟩ (.string s)) (some p)) := by
        have hgs := HGS.out
        refine ⟨hb5.os.trans hgs.os, hb5.tape.trans hgs.tape, hb5.output.trans hgs.output, by have := hgs.size; have := hb5.size; simp at *; omega, fun b h1 h2 => ?_⟩
        rw [heap_setCell_other w5 ⟨g, q, none⟩ b _ (by show b ≠ g; omega), hb5.block b (Nat.lt_of_lt_of_le h1 hgs.size)]
        exact hgs.block b h1 h2
      have Hm0 : Hid (-9223372036854775808 ≤ m' ∧ m' ≤ 9223372036854775807) := by rw [HM'.out]; exact ⟨wrap_lo _, wrap_hi _⟩
      clear W5 ho5 hst hs
      go_wp2_with fail
      refine ⟨⟨q + 1, m', X.set q s, by go_num, by omega, ⟨HW6.out, HG6.out, HR6.out, Hm0.out.1, Hm0.out.2, by have := hI.out.2.2.2.2.2; have := hb5.size; simp at *; omega⟩⟩, ?_⟩
      simp [intOf]; omega
    · have q1 : ¬ (q : Int) < (M : Int) := by omega
      obtain ⟨m', hm'⟩ : ∃ m', m' = wrap64 (m + 2) := ⟨_, rfl⟩
      have Ws := Wr.setM m'
      have c10' : (wr.setCell ⟨p, 10, none⟩ (.int .i64 m')).cell? ⟨p, 10, none⟩ = some (.int .i64 m') := Ws.cell 10
      rw [hm'] at c10'
      have HWs : Hid (WAt p (k + 1) (wr.setCell ⟨p, 10, none⟩ (.int .i64 m')) { S1 with mrk := m' }) := Ws
      have HM' : Hid (m' = wrap64 (m + 2)) := hm'
      have HRS : Hid ((wr.setCell ⟨p, 10, none⟩ (.int .i64 m')).ownsRow w0.heap.size 9 1 (.slice ao M cap) M (X.map .string)) := own_same hI.out.2.2.1 fun g' e => by
        have := hI.out.2.2.1.lt g' e
        exact heap_setCell_other wr ⟨p, 10, none⟩ g' _ (by show g' ≠ p; omega)
      have HGS : Hid (w0.grownBy (wr.setCell ⟨p, 10, none⟩ (.int .i64 m')) (some p)) := off_set hI.out.2.1
      clear Ws hm' Wr
      go_wp2_with fail
      refine (mark_any _ _).mono ?_
      rintro e w5 ⟨rfl, hb5⟩
      rw [← HM'.out] at hb5
      have W5 := HWs.out.below hb5
      have c5 : w5.cell? ⟨p, 10, none⟩ = some (.int .i64 m') := W5.cell 10
      have HW5 : Hid (WAt p (k + 1) w5 { S1 with mrk := m' }) := W5
      clear W5
      go_wp2_with fail
      refine (mark_any _ _).mono ?_
      rintro e w6 ⟨rfl, hb6⟩
      obtain ⟨s1, hs1'⟩ : ∃ s1, s1 = strOfNums (markN (wrap64 (wrap64 (m + 2) - 1))) := ⟨_, rfl⟩
      obtain ⟨s2, hs2'⟩ : ∃ s2, s2 = strOfNums (markN m') := ⟨_, rfl⟩
      rw [← hs1', ← hs2']
      clear hs1' hs2' c5 c10' c10 f10
      have ho6 := own_below' (own_below' HRS.out hb5) hb6
      have W6 := HW5.out.below hb6
      have hs6 := hb6.size
      have hs5 := hb5.size
      simp at hs5
      have hsr := hI.out.2.1.size
      have hsw := hI.out.2.2.2.2.2
      have HO6 : Hid (∀ g, (Value.slice ao M cap).ownBlock = some g → w0.heap.size ≤ g ∧ g < w6.heap.size) := ho6.lt
      have HX : Hid (X.length = M) := by show X.length = M; have := ho6.1; simpa using this
      have hoA : (w6.alloc (.cells #[.string s1, .string s2] 9)).ownsRow w0.heap.size 9 1 (.slice ao M cap) M (X.map .string) := ho6.alloc _
      have hnews : ∀ j u, [Value.string s1, Value.string s2][j]? = some u → (w6.alloc (.cells #[.string s1, .string s2] 9)).cell? ((⟨w6.heap.size, 0, none⟩ : Addr).add j) = some u := World.news_of_block (heap_alloc_new w6 (.cells #[.string s1, .string s2] 9))
      have hone : ∀ u ∈ [Value.string s1, Value.string s2], u.oneCell' = true := by intro u hu; simp at hu; rcases hu with rfl | rfl <;> rfl
      have HW6 : Hid (WAt p (k + 1) w6 { S1 with mrk := m' }) := W6
      have hG6 : Hid (w0.grownBy w6 (some p)) := by
        have hgs := HGS.out
        refine ⟨hb6.os.trans (hb5.os.trans hgs.os), hb6.tape.trans (hb5.tape.trans hgs.tape), hb6.output.trans (hb5.output.trans hgs.output), by omega, fun b h1 h2 => ?_⟩
        rw [hb6.block b (by omega), hb5.block b (by simp; omega)]
        exact hgs.block b h1 h2
      have Hm0 : Hid (-9223372036854775808 ≤ m' ∧ m' ≤ 9223372036854775807) := by rw [HM'.out]; exact ⟨wrap_lo _, wrap_hi _⟩
      have HB6 : Hid (Below p w w6) := by
        have hg6 := hG6.out
        have hb := HB.out
        exact ⟨hg6.os.trans hb.os.symm, hg6.tape.trans hb.tape.symm, hg6.output.trans hb.output.symm, by omega, fun b h1 => (hg6.block b (by omega) (by simp; omega)).trans (hb.block b (by omega)).symm⟩
      clear ho6 W6 hb5 hb6
      go_wp2_with (refine wpList_append_both rfl _ _ rfl w0.heap.size (.slice ao M cap) M _ rfl hoA ⟨w6.heap.size, 0, none⟩ 2 2 [.string s1, .string s2] rfl rfl hnews hone (by decide) (by omega) (by simp; omega) ?_; intro g2 cap2 w7 ho7 hgr7 hat7 hold7)
      have hs7 := hgr7.size
      simp at hs7
      have W7 : WAt p (k + 1) w7 { S1 with mrk := m' } := (HW6.out.below ((Below.refl _ _).alloc (Nat.le_refl _) _)).grown hgr7 (fun e => by have := HO6.out p e.symm; omega) (fun b o e => HNO.out b e.symm o)
      have hG7 : w0.grownBy w7 (some p) := by
        have hg6 := hG6.out
        refine ⟨hgr7.os.trans hg6.os, hgr7.tape.trans hg6.tape, hgr7.output.trans hg6.output, by omega, fun b h1 h2 => ?_⟩
        rw [hgr7.block b (by simp; omega) (fun e => by have := HO6.out b e.symm; omega), heap_alloc_old _ _ (by omega)]
        exact hg6.block b h1 h2
      have HA7 : HAt p w7 { S1 with mrk := m' } A B Ts := HH.out.frame hG7 HEG.out.1 HEG.out.2.1 HFR.out Hm0.out.1 Hm0.out.2
      have hgl : ∀ g, S1.gv.ownBlock = some g → g < w0.heap.size := fun g e => by rw [HEG.out.1] at e; exact (HH.out.rowA.lt g e).2
      have hhl : ∀ g, S1.hv.ownBlock = some g → g < w0.heap.size := fun g e => by rw [HEG.out.2.1] at e; exact (HH.out.rowB.lt g e).2
      have L7 : HeldL p w7 { S1 with mrk := m' } (.slice ao M cap) X := held_own (A := A) (B := B) (Ts := Ts) hp0 hgl hhl (by rw [HX.out]; exact hold7) HNO.out
      have G7 : HeldL p w7 { S1 with mrk := m' } (.slice (some ⟨g2, 0, none⟩) (M + 2) cap2) (X ++ [s1, s2]) := by
        have e : (X ++ [s1, s2]).length = M + 2 := by rw [List.length_append, HX.out]; rfl
        refine held_own (A := A) (B := B) (Ts := Ts) hp0 hgl hhl (by rw [e]; simpa using ho7) (fun g e o => ?_)
        have e' : g2 = g := by simpa [Value.ownBlock] using e
        rcases hat7 with h1 | h1
        · exact HNO.out g (by rw [h1, e']) o
        · have := HW6.out.own_lt (b := g) o; simp at h1; omega
      have hd1 := hold_any p (k + 1) { S1 with mrk := m' } A B Ts (.slice ao M cap) X w7 W7 HA7 L7 (by rw [HX.out]; omega) (by omega)
      have HG7' : Hid (HeldL p w7 { S1 with mrk := m' } (.slice (some ⟨g2, 0, none⟩) (M + 2) cap2) (X ++ [s1, s2])) := G7
      have HB7 : Hid (Below p w w7) := by
        have hb := HB.out
        exact ⟨hG7.os.trans hb.os.symm, hG7.tape.trans hb.tape.symm, hG7.output.trans hb.output.symm, by omega, fun b h1 => (hG7.block b (by omega) (by simp; omega)).trans (hb.block b (by omega)).symm⟩
      clear W7 HA7 L7 G7 ho7 hold7 hgr7 hoA hG7 hgl hhl
      refine hd1.mono ?_
      rintro e w8 ⟨rfl, S8, c8, W8, HA8, mv8, hb8⟩
      clear hd1
      go_wp2_with fail
      have hd2 := hold_any p (k + 1) S8 _ _ _ _ _ w8 W8 HA8 (mv8 _ _ HG7'.out) (by rw [List.length_append, HX.out]; show M + 2 ≤ _; omega) (by simp; omega)
      refine hd2.mono ?_
      rintro e w9 ⟨rfl, S9, c9, W9, HA9, _, hb9⟩
      have HE : Hid (ownPost p k Ts w (.returned (.tuple #[])) w9) := ⟨rfl, S9, _, _, _, W9, HA9, by simp, HB7.out.trans (hb8.trans hb9)⟩
      clear hd2 W8 HA8 W9 HA9 mv8 hb8 hb9
      go_wp2_with fail
      go_end0
      exact HE.out
end Go.Proofs.YtijdnpoenpjnlaaGreatDoor
set_option linter.unusedVariables false
set_option linter.unusedSimpArgs false
namespace Go.Proofs.YtijdnpoenpjnlaaGreatDoor
open Go.RowKit

theorem row_form {w : World} {B : Nat} {e : TypeId} {v : Value} {n : Nat} {xs : List Value} (h : w.ownsRow B e 1 v n xs) : ∃ ao cap, v = .slice ao n cap := by
  rcases h.2 with ⟨rfl, rfl⟩ | ⟨g, cap, cur, rfl, _⟩
  · exact ⟨none, 0, rfl⟩
  · exact ⟨_, cap, rfl⟩

set_option maxRecDepth 10000 in
set_option maxHeartbeats 1000000 in
theorem looks_held (p k : Nat) (S : WS) (A B : List Value) (Ts : List (List ByteArray)) (w : World) (h : WAt p k w S) (H : HAt p w S A B Ts) (hn : Ts.length ≤ 1000000) :
    Calls Tryz.prog 22 #[.pointer (some ⟨p, 0, none⟩)] w fun e w' => e = .returned (.bool true) ∧ Below w.heap.size w w' := by
  have HW : Hid (WAt p k w S) := h
  have HH : Hid (HAt p w S A B Ts) := H
  obtain ⟨ga, ca, ega⟩ := row_form H.rowA
  obtain ⟨gb, cb, egb⟩ := row_form H.rowB
  obtain ⟨n, en⟩ : ∃ n, n = Ts.length := ⟨_, rfl⟩
  rw [H.nA, ← en] at ega
  rw [H.nB, ← en] at egb
  rw [← en] at hn
  have HEN : Hid (n = Ts.length) := en
  have HGA : Hid (S.gv = .slice ga n ca) := ega
  have HGB : Hid (S.hv = .slice gb n cb) := egb
  have hpw := h.lt
  clear h H ega egb en
  go_enter Tryz.func22, Tryz.ntmps22
  go_wp2_with fail
  go_loopw [3] (fun i wr => ∃ q : Nat, i = .int .i64 q ∧ q ≤ n ∧ Below w.heap.size w wr) (fun i _ => n - (intOf i).toNat)
  case atStart => exact ⟨0, rfl, Nat.zero_le _, Below.refl _ _⟩
  case round =>
    obtain ⟨q, rfl, hq, hB⟩ := hrel
    have Wr := HW.out.below hB
    have c6 : wr.cell? ⟨p, 6, none⟩ = some (.slice ga n ca) := by rw [Wr.cell 6, ← HGA.out]; rfl
    have c8 : wr.cell? ⟨p, 8, none⟩ = some (.slice none 0 0) := Wr.cell 8
    by_cases hlt : q < n
    · have q1 : (q : Int) < (n : Int) := by omega
      have q0 : (0 : Int) ≤ (q : Int) := by omega
      have hqT : q < Ts.length := by have := HEN.out; omega
      have hqA : q < A.length := by have := HH.out.nA; omega
      have hqB : q < B.length := by have := HH.out.nB; omega
      obtain ⟨va, hva⟩ : ∃ va, A[q]? = some va := ⟨_, List.getElem?_eq_getElem hqA⟩
      obtain ⟨vb, hvb⟩ : ∃ vb, B[q]? = some vb := ⟨_, List.getElem?_eq_getElem hqB⟩
      obtain ⟨t, ht⟩ : ∃ t, Ts[q]? = some t := ⟨_, List.getElem?_eq_getElem hqT⟩
      obtain ⟨g1, e1⟩ : ∃ g1, ga = some ⟨g1, 0, none⟩ := by
        have hr := HH.out.rowA
        rw [HGA.out] at hr
        rcases hr.2 with ⟨_, e⟩ | ⟨g, cap, cur, e, _⟩
        · omega
        · exact ⟨g, by injection e⟩
      obtain ⟨g2, e2⟩ : ∃ g2, gb = some ⟨g2, 0, none⟩ := by
        have hr := HH.out.rowB
        rw [HGB.out] at hr
        rcases hr.2 with ⟨_, e⟩ | ⟨g, cap, cur, e, _⟩
        · omega
        · exact ⟨g, by injection e⟩
      subst e1 e2
      have HJ : Hid (∀ W, Below w.heap.size w W → W.cell? ⟨p, 6, none⟩ = some (.slice (some ⟨g1, 0, none⟩) n ca) ∧ W.cell? ⟨p, 7, none⟩ = some (.slice (some ⟨g2, 0, none⟩) n cb) ∧ W.cell? ⟨g1, q, none⟩ = some va ∧ W.cell? ⟨g2, q, none⟩ = some vb ∧ Below w.heap.size w W) := fun W hb => by
        have WW := HW.out.below hb
        have HHW := HH.out.below hb
        have rA := HHW.rowA
        have rB := HHW.rowB
        have eN := HEN.out
        rw [HGA.out, HHW.nA, ← eN] at rA
        rw [HGB.out, HHW.nB, ← eN] at rB
        refine ⟨by rw [WW.cell 6, ← HGA.out]; rfl, by rw [WW.cell 7, ← HGB.out]; rfl, ?_, ?_, hb⟩
        · rw [rA.cellAt q (by omega)]; exact hva
        · rw [rB.cellAt q (by omega)]; exact hvb
      have HS : Hid (∀ W, Below w.heap.size w W → Calls Tryz.prog 49 #[va, vb] W fun e w' => e = .returned (.bool true) ∧ Below W.heap.size W w') := fun W hb => by
        have HHW := HH.out.below hb
        exact same_eq va vb t W (HHW.heldA q va t hva ht).leaf (HHW.heldB q vb t hvb ht).leaf (HHW.short t (List.mem_of_getElem? ht))
      obtain ⟨ao1, k1, ea⟩ := leaf_form (HH.out.heldA q va t hva ht).leaf
      obtain ⟨ao2, k2, eb⟩ := leaf_form (HH.out.heldB q vb t hvb ht).leaf
      clear hva hvb ht Wr
      subst ea eb
      generalize t.length = N at *
      go_wp2_with fail
      clear c6 c8
      have J0 := HJ.out _ hB.drew
      refine wp_region_noPanic ?_
      refine wp_region_held_drew (S := fun W => W.cell? ⟨p, 6, none⟩ = some (.slice (some ⟨g1, 0, none⟩) n ca) ∧ W.cell? ⟨p, 7, none⟩ = some (.slice (some ⟨g2, 0, none⟩) n cb) ∧ W.cell? ⟨g1, q, none⟩ = some (.slice ao1 N k1) ∧ W.cell? ⟨g2, q, none⟩ = some (.slice ao2 N k2) ∧ Below w.heap.size w W) (by kernel_rfl) J0 (fun _ => ?_)
      refine wpAnyH_take (i := 0) (v := ?_) rfl (by kernel_rfl) (by kernel_rfl) (by kernel_rfl) (fun _ _ _ h => h) (Or.inl ⟨by rfl, ?_⟩) J0 ?_
      rotate_left 1
      · intro W hSW; obtain ⟨c1, c2, c3, c4, _⟩ := hSW; go_simp; try with_reducible rfl
      simp only [List.getElem_toArray, List.getElem_cons_zero, List.getElem_cons_succ, Act.put, List.setIfInBounds_toArray, List.set_cons_zero, List.set_cons_succ]
      refine wpAnyH_take (i := 1) (v := ?_) rfl (by kernel_rfl) (by kernel_rfl) (by kernel_rfl) (fun _ _ _ h => h) (Or.inl ⟨by rfl, ?_⟩) J0 ?_
      rotate_left 1
      · intro W hSW; obtain ⟨c1, c2, c3, c4, _⟩ := hSW; go_simp; try with_reducible rfl
      simp only [List.getElem_toArray, List.getElem_cons_zero, List.getElem_cons_succ, Act.put, List.setIfInBounds_toArray, List.set_cons_zero, List.set_cons_succ]
      refine wpAnyH_take (i := 2) (v := ?_) rfl (by kernel_rfl) (by kernel_rfl) (by kernel_rfl) (fun _ _ _ h => h) (Or.inl ⟨by rfl, ?_⟩) J0 ?_
      rotate_left 1
      · intro W hSW; obtain ⟨c1, c2, c3, c4, _⟩ := hSW; go_simp; try with_reducible rfl
      simp only [List.getElem_toArray, List.getElem_cons_zero, List.getElem_cons_succ, Act.put, List.setIfInBounds_toArray, List.set_cons_zero, List.set_cons_succ]
      refine wpAnyH_take (i := 3) (v := ?_) rfl (by kernel_rfl) (by kernel_rfl) (by kernel_rfl) (fun _ _ _ h => h) (Or.inl ⟨by rfl, ?_⟩) J0 ?_
      rotate_left 1
      · intro W hSW; obtain ⟨c1, c2, c3, c4, _⟩ := hSW; go_simp; try with_reducible rfl
      simp only [List.getElem_toArray, List.getElem_cons_zero, List.getElem_cons_succ, Act.put, List.setIfInBounds_toArray, List.set_cons_zero, List.set_cons_succ]
      refine wpAnyH_take (i := 4) (v := ?_) rfl (by kernel_rfl) (by kernel_rfl) (by kernel_rfl) (fun _ _ _ h => h) (Or.inl ⟨by rfl, ?_⟩) J0 ?_
      rotate_left 1
      · intro W hSW; obtain ⟨c1, c2, c3, c4, _⟩ := hSW; go_simp; try with_reducible rfl
      simp only [List.getElem_toArray, List.getElem_cons_zero, List.getElem_cons_succ, Act.put, List.setIfInBounds_toArray, List.set_cons_zero, List.set_cons_succ]
      refine wpAnyH_take (i := 5) (v := ?_) rfl (by kernel_rfl) (by kernel_rfl) (by kernel_rfl) (fun _ _ _ h => h) (Or.inl ⟨by rfl, ?_⟩) J0 ?_
      rotate_left 1
      · intro W hSW; obtain ⟨c1, c2, c3, c4, _⟩ := hSW; go_simp; try with_reducible rfl
      simp only [List.getElem_toArray, List.getElem_cons_zero, List.getElem_cons_succ, Act.put, List.setIfInBounds_toArray, List.set_cons_zero, List.set_cons_succ]
      refine wpAnyH_take (i := 6) (v := ?_) rfl (by kernel_rfl) (by kernel_rfl) (by kernel_rfl) (fun _ _ _ h => h) (Or.inl ⟨by rfl, ?_⟩) J0 ?_
      rotate_left 1
      · intro W hSW; obtain ⟨c1, c2, c3, c4, _⟩ := hSW; go_simp; try with_reducible rfl
      simp only [List.getElem_toArray, List.getElem_cons_zero, List.getElem_cons_succ, Act.put, List.setIfInBounds_toArray, List.set_cons_zero, List.set_cons_succ]
      refine wpAnyH_take (i := 7) (v := ?_) rfl (by kernel_rfl) (by kernel_rfl) (by kernel_rfl) (fun _ _ _ h => h) (Or.inl ⟨by rfl, ?_⟩) J0 ?_
      rotate_left 1
      · intro W hSW; obtain ⟨c1, c2, c3, c4, _⟩ := hSW; go_simp; try with_reducible rfl
      simp only [List.getElem_toArray, List.getElem_cons_zero, List.getElem_cons_succ, Act.put, List.setIfInBounds_toArray, List.set_cons_zero, List.set_cons_succ]
      refine wpAnyH_take (i := 8) (v := ?_) rfl (by kernel_rfl) (by kernel_rfl) (by kernel_rfl) (fun _ _ _ h => h) (Or.inl ⟨by rfl, ?_⟩) J0 ?_
      rotate_left 1
      · intro W hSW; obtain ⟨c1, c2, c3, c4, _⟩ := hSW; go_simp; try with_reducible rfl
      simp only [List.getElem_toArray, List.getElem_cons_zero, List.getElem_cons_succ, Act.put, List.setIfInBounds_toArray, List.set_cons_zero, List.set_cons_succ]
      refine wpAnyH_take (i := 9) (v := ?_) rfl (by kernel_rfl) (by kernel_rfl) (by kernel_rfl) (fun _ _ _ h => h) (Or.inl ⟨by rfl, ?_⟩) J0 ?_
      rotate_left 1
      · intro W hSW; obtain ⟨c1, c2, c3, c4, _⟩ := hSW; go_simp; try with_reducible rfl
      simp only [List.getElem_toArray, List.getElem_cons_zero, List.getElem_cons_succ, Act.put, List.setIfInBounds_toArray, List.set_cons_zero, List.set_cons_succ]
      refine wpAnyH_take (i := 10) (v := ?_) rfl (by kernel_rfl) (by kernel_rfl) (by kernel_rfl) (fun _ _ _ h => h) (Or.inl ⟨by rfl, ?_⟩) J0 ?_
      rotate_left 1
      · intro W hSW; obtain ⟨c1, c2, c3, c4, _⟩ := hSW; go_simp; try with_reducible rfl
      simp only [List.getElem_toArray, List.getElem_cons_zero, List.getElem_cons_succ, Act.put, List.setIfInBounds_toArray, List.set_cons_zero, List.set_cons_succ]
      refine wpAnyH_take (i := 11) (v := ?_) rfl (by kernel_rfl) (by kernel_rfl) (by kernel_rfl) (fun _ _ _ h => h) (Or.inl ⟨by rfl, ?_⟩) J0 ?_
      rotate_left 1
      · intro W hSW; obtain ⟨c1, c2, c3, c4, _⟩ := hSW; go_simp; try with_reducible rfl
      simp only [List.getElem_toArray, List.getElem_cons_zero, List.getElem_cons_succ, Act.put, List.setIfInBounds_toArray, List.set_cons_zero, List.set_cons_succ]
      refine wpAnyH_take (i := 12) (v := ?_) rfl (by kernel_rfl) (by kernel_rfl) (by kernel_rfl) (fun _ _ _ h => h) (Or.inl ⟨by rfl, ?_⟩) J0 ?_
      rotate_left 1
      · intro W hSW; obtain ⟨c1, c2, c3, c4, _⟩ := hSW; go_simp; try with_reducible rfl
      simp only [List.getElem_toArray, List.getElem_cons_zero, List.getElem_cons_succ, Act.put, List.setIfInBounds_toArray, List.set_cons_zero, List.set_cons_succ]
      refine wpAnyH_take (i := 13) (v := ?_) rfl (by kernel_rfl) (by kernel_rfl) (by kernel_rfl) (fun _ _ _ h => h) (Or.inl ⟨by rfl, ?_⟩) J0 ?_
      rotate_left 1
      · intro W hSW; obtain ⟨c1, c2, c3, c4, _⟩ := hSW; go_simp; try with_reducible rfl
      simp only [List.getElem_toArray, List.getElem_cons_zero, List.getElem_cons_succ, Act.put, List.setIfInBounds_toArray, List.set_cons_zero, List.set_cons_succ]
      refine wpAnyH_ready (rs := [14]) (by kernel_rfl) (by simp) ?_
      refine AllReadyH.cons rfl (fun K hK => ?_) AllReadyH.nil
      rw [if_pos (by rfl)]
      go_simp
      refine (HS.out _ J0.2.2.2.2).mono ?_
      rintro e w1 ⟨rfl, hb1⟩
      have B1 : Below w.heap.size w w1 := J0.2.2.2.2.trans (hb1.mono J0.2.2.2.2.size)
      have J1 := HJ.out w1 B1
      refine hK.out _ _ J1 (fun _ => ?_)
      clear hK K
      try simp only [List.getElem_toArray, List.getElem_cons_zero, List.getElem_cons_succ, Act.put, List.setIfInBounds_toArray, List.set_cons_zero, List.set_cons_succ]
      refine wpAnyH_ready (rs := [15]) (by kernel_rfl) (by simp) ?_
      refine AllReadyH.cons rfl (fun K hK => ?_) AllReadyH.nil
      rw [if_pos (by rfl)]
      go_simp
      refine hK.out _ _ J1 (fun _ => ?_)
      clear hK K
      refine ⟨by kernel_rfl, ?_⟩
      refine NoPanic.normal ?_
      try simp only [List.getElem_toArray, List.getElem_cons_zero, List.getElem_cons_succ, Act.put, List.setIfInBounds_toArray, List.set_cons_zero, List.set_cons_succ]
      go_wp2_with fail
      refine ⟨⟨q + 1, by go_num, by omega, B1⟩, ?_⟩
      simp [intOf]; omega
    · have q1 : ¬ (q : Int) < (n : Int) := by omega
      clear Wr
      go_wp2_with fail
      go_loopw [5] (fun i wr' => i = .int .i64 0 ∧ wr' = wr) (fun _ _ => 0)
      case atStart => exact ⟨rfl, rfl⟩
      case round =>
        obtain ⟨rfl, hwr⟩ := hrel
        subst hwr
        go_wp2_with fail
        go_ret
        exact ⟨rfl, hB⟩
end Go.Proofs.YtijdnpoenpjnlaaGreatDoor
