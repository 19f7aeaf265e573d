import Derived.Test.YteebdadnfaekmaaDoorIClash
import Derived.Test.YteebdadnfaekmaaDoorIUp
set_option linter.unusedVariables false
set_option linter.unusedSimpArgs false
namespace Go.Proofs.YteebdadnfaekmaaDoor
open Go.RowKit

set_option maxRecDepth 10000 in
set_option maxHeartbeats 1000000 in
/-- met: where two texts of one hash are in hand, it says so. -/
theorem met_any (K : Nat → Int) (ls pf : List ByteArray) (s : ByteArray) (v v' : Value) (i : Nat) (w : World) (hn0 : i < ls.length) (hn1 : ls.length ≤ 1000) (hp1 : pf.length ≤ 1000) (hl : LeafAt w v ls) (hp : LeafAt w v' pf) (hs : ∀ t ∈ ls, t.size ≤ 100000) (hs2 : s.size ≤ 100000) (hs3 : ∀ t ∈ pf, t.size ≤ 100000) (T : Tab K w)
    (hcl : ∃ a b, b < a ∧ clashAt (sumOf K) (rootT (sumOf K) ls ++ (upF (sumOf K) s i ls.length pf).2) a b) :
    Calls Tryd.prog 17 #[v, .int .i64 i, .string s, v'] w fun e w' => e = .returned (.bool true) ∧ Below w.heap.size w w' := by
  obtain ⟨g, off, cap, rfl, hcap, hc⟩ : ∃ g off cap, v = .slice (some ⟨g, off, none⟩) ls.length cap ∧ ls.length ≤ cap ∧ ∀ j (h : j < ls.length), w.cell? ⟨g, off + j, none⟩ = some (.string (ls[j]'h)) := by
    rcases hl with ⟨rfl, _⟩ | h
    · simp at hn0
    · exact h
  have hg : g < w.heap.size := World.block_lt_of_cell? w _ (hc 0 (by omega))
  have hb0 : Below w.heap.size w (w.alloc (.cells #[.slice none 0 0, .slice none 0 0] 62)) := (Below.refl _ _).alloc (Nat.le_refl _) _
  have hv' : ∀ W, Below w.heap.size w W → (pf = [] ∧ (∃ ao cap, v' = .slice ao 0 cap) ∨ ∃ g off cap, v' = .slice (some ⟨g, off, none⟩) pf.length cap ∧ pf.length ≤ cap ∧ ∀ j (h : j < pf.length), W.cell? ⟨g, off + j, none⟩ = some (.string (pf[j]'h))) := fun W hb => by
    rcases hp with h | ⟨g', off', cap', rfl, hc', h⟩
    · exact Or.inl h
    · by_cases h0 : pf = []
      · subst h0; exact Or.inl ⟨rfl, _, _, rfl⟩
      · have hlt : 0 < pf.length := List.length_pos_iff.2 h0
        have hg' : g' < w.heap.size := World.block_lt_of_cell? w _ (h 0 hlt)
        exact Or.inr ⟨g', off', cap', rfl, hc', fun j hj => (hb.cell (p := ⟨g', off' + j, none⟩) hg').trans (h j hj)⟩
  obtain ⟨ao, cap2, hv2⟩ := leaf_form hp
  subst hv2
  have hrl := rootT_len (sumOf K) _ ls rfl (by omega)
  have hR := kroot_any K w.heap.size T.lt ls.length ls g off cap _ [] rfl (by omega) (by omega) hcap hg (fun j hj => (hb0.cell (p := ⟨g, off + j, none⟩) hg).trans (hc j hj)) hs ⟨_, _, known_new (sumOf K) w⟩ (by simp; omega) (T.below hb0)
  have hU : ∀ W, (∃ tv hv, KAt (sumOf K) w.heap.size W tv hv ([] ++ rootT (sumOf K) ls)) → Below w.heap.size w W → Calls Tryd.prog 35 #[.pointer (some ⟨w.heap.size, 0, none⟩), .int .i64 ls.length, .int .i64 i, .string s, .slice ao pf.length cap2] W (kPost K w.heap.size W ([] ++ rootT (sumOf K) ls ++ (upF (sumOf K) s i ls.length pf).2) (upF (sumOf K) s i ls.length pf).1) := fun W hk hb =>
    kup_any K w.heap.size T.lt s hs2 pf.length pf i ls.length _ W _ rfl (by omega) hn0 (by omega) (hv' W hb) hs3 hk (by simp; omega) (T.belowp T.lt hb)
  have hul : (upF (sumOf K) s i ls.length pf).2.length ≤ 900000 := by
    have : ∀ (q : Nat) (pf : List ByteArray) (i n : Nat), pf.length = q → (upF (sumOf K) s i n pf).2.length ≤ q + 1 := by
      intro q
      induction q with
      | zero => intro pf i n hq; obtain rfl := List.eq_nil_of_length_eq_zero hq; rw [upF_none]; simp
      | succ q ihq =>
        intro pf i n hq
        obtain ⟨rest', b', rfl⟩ : ∃ rest' b', pf = rest' ++ [b'] := ⟨pf.dropLast, pf.getLast (by intro e; subst e; simp at hq), (List.dropLast_concat_getLast _).symm⟩
        have hq' : rest'.length = q := by simp at hq; exact hq
        by_cases hn : n = 1
        · subst hn; rw [upF_one]; simp
        · by_cases hi : i < halfN n
          · rw [upF_left _ _ _ _ hn _ _ hi]; have := ihq rest' i (halfN n) hq'; simp; omega
          · rw [upF_right _ _ _ _ hn _ _ hi]; have := ihq rest' (i - halfN n) (n - halfN n) hq'; simp; omega
    have := this pf.length pf i ls.length rfl
    omega
  have hC : ∀ W, (∃ tv hv, KAt (sumOf K) w.heap.size W tv hv ([] ++ rootT (sumOf K) ls ++ (upF (sumOf K) s i ls.length pf).2)) → Calls Tryd.prog 36 #[.pointer (some ⟨w.heap.size, 0, none⟩)] W fun e w' => e = .returned (.bool true) ∧ Below W.heap.size W w' := fun W ⟨tv, hv, hk⟩ =>
    (clash_any (sumOf K) w.heap.size W tv hv _ hk (by simp; omega)).mono fun e w' ⟨r, h1, h2, h3⟩ => ⟨by rw [h1, h2 (by simpa using hcl)], h3⟩
  have HU : Hid (∀ W, (∃ tv hv, KAt (sumOf K) w.heap.size W tv hv ([] ++ rootT (sumOf K) ls)) → Below w.heap.size w W → Calls Tryd.prog 35 #[.pointer (some ⟨w.heap.size, 0, none⟩), .int .i64 ls.length, .int .i64 i, .string s, .slice ao pf.length cap2] W (kPost K w.heap.size W ([] ++ rootT (sumOf K) ls ++ (upF (sumOf K) s i ls.length pf).2) (upF (sumOf K) s i ls.length pf).1)) := hU
  have HC : Hid (∀ W, (∃ tv hv, KAt (sumOf K) w.heap.size W tv hv ([] ++ rootT (sumOf K) ls ++ (upF (sumOf K) s i ls.length pf).2)) → Calls Tryd.prog 36 #[.pointer (some ⟨w.heap.size, 0, none⟩)] W fun e w' => e = .returned (.bool true) ∧ Below W.heap.size W w') := hC
  clear hU hC hcl hv' hc hs hs3 hl hp hul hrl T
  generalize ([] ++ rootT (sumOf K) ls ++ (upF (sumOf K) s i ls.length pf).2) = t2 at *
  generalize ([] ++ rootT (sumOf K) ls) = t1 at *
  generalize (upF (sumOf K) s i ls.length pf).1 = x at *
  generalize rootF (sumOf K) ls = y at *
  generalize ls.length = N at *
  generalize pf.length = M at *
  go_enter Tryd.func17, Tryd.ntmps17
  go_wp2_with fail
  refine hR.mono ?_
  rintro e w1 ⟨rfl, hk1, hb1⟩
  have hB1 : Below w.heap.size w w1 := hb0.trans hb1
  go_wp2_with fail
  refine (HU.out w1 hk1 hB1).mono ?_
  rintro e w2 ⟨rfl, hk2, hb2⟩
  go_wp2_with fail
  refine (HC.out w2 hk2).mono ?_
  rintro e w3 ⟨rfl, hb3⟩
  go_wp2_with fail
  go_ret
  have hB2 := hB1.trans hb2
  exact ⟨rfl, hB2.trans (hb3.mono hB2.size)⟩
end Go.Proofs.YteebdadnfaekmaaDoor
