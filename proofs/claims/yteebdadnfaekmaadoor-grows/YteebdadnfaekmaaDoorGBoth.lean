import Derived.Test.YteebdadnfaekmaaDoorIClash
import Derived.Test.YteebdadnfaekmaaDoorGMath
set_option linter.unusedVariables false
set_option linter.unusedSimpArgs false
namespace Go.Proofs.YteebdadnfaekmaaDoor
open Go.RowKit

/-- What known.both leaves. -/
def kPost2 (K : Nat → Int) (p : Nat) (w : World) (ts : List ByteArray) (x y : ByteArray) (e : Ending) (w' : World) : Prop :=
  e = .returned (.tuple #[.string x, .string y]) ∧ (∃ tv hv, KAt (sumOf K) p w' tv hv ts) ∧ Below p w w'

set_option maxRecDepth 10000 in
set_option maxHeartbeats 400000 in
theorem kboth_known (K : Nat → Int) (p : Nat) (w : World) (a : ByteArray) (n : Int) (v : Value) (ts : List ByteArray) (hk : ∃ tv hv, KAt (sumOf K) p w tv hv ts) :
    Calls Tryd.prog 39 #[.pointer (some ⟨p, 0, none⟩), .int .i64 n, .int .i64 n, .string a, v, .bool true] w (kPost2 K p w ts a a) := by
  have HK : Hid (∃ tv hv, KAt (sumOf K) p w tv hv ts) := hk
  clear hk
  go_enter Tryd.func39, Tryd.ntmps39
  go_wp2_with fail
  go_ret2
  exact ⟨rfl, HK.out, Below.refl _ _⟩

set_option maxRecDepth 10000 in
set_option maxHeartbeats 400000 in
theorem kboth_none (K : Nat → Int) (p : Nat) (w : World) (a : ByteArray) (m n : Int) (ao : Option Addr) (cap : Nat) (whole : Bool) (ts : List ByteArray) (hk : ∃ tv hv, KAt (sumOf K) p w tv hv ts) :
    Calls Tryd.prog 39 #[.pointer (some ⟨p, 0, none⟩), .int .i64 m, .int .i64 n, .string a, .slice ao 0 cap, .bool whole] w (kPost2 K p w ts a a) := by
  have HK : Hid (∃ tv hv, KAt (sumOf K) p w tv hv ts) := hk
  clear hk
  cases hmn : (m == n) <;> cases whole
  all_goals
    go_enter Tryd.func39, Tryd.ntmps39
    go_wp2_with fail
    go_ret2
    exact ⟨rfl, HK.out, Below.refl _ _⟩

set_option maxRecDepth 10000 in
set_option maxHeartbeats 400000 in
theorem kboth_all (K : Nat → Int) (p : Nat) (w : World) (a b : ByteArray) (n : Int) (g off cap q : Nat) (ts : List ByteArray) (hq : q ≤ 1000000) (hcap : q + 1 ≤ cap) (hk : ∃ tv hv, KAt (sumOf K) p w tv hv ts) (hc : w.cell? ⟨g, off + q, none⟩ = some (.string b)) :
    Calls Tryd.prog 39 #[.pointer (some ⟨p, 0, none⟩), .int .i64 n, .int .i64 n, .string a, .slice (some ⟨g, off, none⟩) (q + 1) cap, .bool false] w (kPost2 K p w ts b b) := by
  have HK : Hid (∃ tv hv, KAt (sumOf K) p w tv hv ts) := hk
  clear hk
  have m0' : ((q + 1 : Nat) : Int) = (q : Int) + 1 := by omega
  have m1' : ((q : Int) + 1 == 0) = false := by rw [beq_eq_false_iff_ne]; omega
  have m2' : (q : Int) < (q : Int) + 1 := by omega
  have m3' : (q : Int) ≤ (cap : Int) := by omega
  go_enter Tryd.func39, Tryd.ntmps39
  go_wp2_with fail
  go_ret2
  exact ⟨rfl, HK.out, Below.refl _ _⟩

set_option maxRecDepth 10000 in
set_option maxHeartbeats 1000000 in
theorem kboth_left (K : Nat → Int) (p : Nat) (w : World) (a b x y h : ByteArray) (m n k q g off cap : Nat) (whole : Bool) (t1 t2 : List ByteArray) (hn : 2 ≤ n) (hn1 : n ≤ 2147483647) (hk1 : k < n) (hm1 : m < n) (hmk : m ≤ k) (hq : q ≤ 1000000) (hcap : q + 1 ≤ cap) (hb : b.size ≤ 100000) (hx : x.size ≤ 100000) (hy : y.size ≤ 100000)
    (hc : w.cell? ⟨g, off + q, none⟩ = some (.string b))
    (hh : ∀ W, Calls Tryd.prog 63 #[.int .i64 n] W fun e w' => e = .returned (.int .i64 k) ∧ w' = W)
    (hrec : Calls Tryd.prog 39 #[.pointer (some ⟨p, 0, none⟩), .int .i64 m, .int .i64 k, .string a, .slice (some ⟨g, off, none⟩) q cap, .bool whole] w (kPost2 K p w t1 x y))
    (ho0 : ∀ W, (∃ tv hv, KAt (sumOf K) p W tv hv t1) → Below p w W → Calls Tryd.prog 43 #[.pointer (some ⟨p, 0, none⟩), .string (⟨#[1]⟩ ++ y ++ b)] W (kPost K p W t2 h)) :
    Calls Tryd.prog 39 #[.pointer (some ⟨p, 0, none⟩), .int .i64 m, .int .i64 n, .string a, .slice (some ⟨g, off, none⟩) (q + 1) cap, .bool whole] w (kPost2 K p w t2 x h) := by
  have n1 : ((m : Int) == (n : Int)) = false := by rw [beq_eq_false_iff_ne]; omega
  have m0' : ((q + 1 : Nat) : Int) = (q : Int) + 1 := by omega
  have m1' : ((q : Int) + 1 == 0) = false := by rw [beq_eq_false_iff_ne]; omega
  have m2' : (q : Int) < (q : Int) + 1 := by omega
  have m3' : (q : Int) ≤ (cap : Int) := by omega
  have mk : (m : Int) ≤ (k : Int) := by omega
  have HO0 : Hid (∀ W, (∃ tv hv, KAt (sumOf K) p W tv hv t1) → Below p w W → Calls Tryd.prog 43 #[.pointer (some ⟨p, 0, none⟩), .string (⟨#[1]⟩ ++ y ++ b)] W (kPost K p W t2 h)) := ho0
  clear ho0
  go_enter Tryd.func39, Tryd.ntmps39
  go_wp2_with (go_at_call 63; refine (hh _).mono ?_; rintro e wx ⟨rfl, hwx⟩; obtain rfl : w = wx := hwx.symm; clear hwx)
  refine hrec.mono ?_
  rintro e w1 ⟨rfl, k1', b1'⟩
  clear hrec
  go_wp2_with fail
  refine (HO0.out w1 k1' b1').mono ?_
  rintro e w2 ⟨rfl, k2', b2x⟩
  have b2' := Below.trans b1' b2x
  go_wp2_with fail
  go_ret2
  exact ⟨rfl, k2', b2'⟩

set_option maxRecDepth 10000 in
set_option maxHeartbeats 1000000 in
theorem kboth_right (K : Nat → Int) (p : Nat) (w : World) (a b x y h h2 : ByteArray) (m n k q g off cap : Nat) (whole : Bool) (t1 t2 t3 : List ByteArray) (hn : 2 ≤ n) (hn1 : n ≤ 2147483647) (hk1 : k < n) (hm1 : m < n) (hmk : k < m) (hq : q ≤ 1000000) (hcap : q + 1 ≤ cap) (hb : b.size ≤ 100000) (hx : x.size ≤ 100000) (hy : y.size ≤ 100000)
    (hc : w.cell? ⟨g, off + q, none⟩ = some (.string b))
    (hh : ∀ W, Calls Tryd.prog 63 #[.int .i64 n] W fun e w' => e = .returned (.int .i64 k) ∧ w' = W)
    (hrec : Calls Tryd.prog 39 #[.pointer (some ⟨p, 0, none⟩), .int .i64 ((m : Int) - (k : Int)), .int .i64 ((n : Int) - (k : Int)), .string a, .slice (some ⟨g, off, none⟩) q cap, .bool false] w (kPost2 K p w t1 x y))
    (ho0 : ∀ W, (∃ tv hv, KAt (sumOf K) p W tv hv t1) → Below p w W → Calls Tryd.prog 43 #[.pointer (some ⟨p, 0, none⟩), .string (⟨#[1]⟩ ++ b ++ x)] W (kPost K p W t2 h))
    (ho1 : ∀ W, (∃ tv hv, KAt (sumOf K) p W tv hv t2) → Below p w W → Calls Tryd.prog 43 #[.pointer (some ⟨p, 0, none⟩), .string (⟨#[1]⟩ ++ b ++ y)] W (kPost K p W t3 h2)) :
    Calls Tryd.prog 39 #[.pointer (some ⟨p, 0, none⟩), .int .i64 m, .int .i64 n, .string a, .slice (some ⟨g, off, none⟩) (q + 1) cap, .bool whole] w (kPost2 K p w t3 h h2) := by
  have n1 : ((m : Int) == (n : Int)) = false := by rw [beq_eq_false_iff_ne]; omega
  have m0' : ((q + 1 : Nat) : Int) = (q : Int) + 1 := by omega
  have m1' : ((q : Int) + 1 == 0) = false := by rw [beq_eq_false_iff_ne]; omega
  have m2' : (q : Int) < (q : Int) + 1 := by omega
  have m3' : (q : Int) ≤ (cap : Int) := by omega
  have mk : ¬ (m : Int) ≤ (k : Int) := by omega
  have mk2 : (k : Int) < (m : Int) := by omega
  have mk3 : (m : Int) < (n : Int) := by omega
  have HO0 : Hid (∀ W, (∃ tv hv, KAt (sumOf K) p W tv hv t1) → Below p w W → Calls Tryd.prog 43 #[.pointer (some ⟨p, 0, none⟩), .string (⟨#[1]⟩ ++ b ++ x)] W (kPost K p W t2 h)) := ho0
  have HO1 : Hid (∀ W, (∃ tv hv, KAt (sumOf K) p W tv hv t2) → Below p w W → Calls Tryd.prog 43 #[.pointer (some ⟨p, 0, none⟩), .string (⟨#[1]⟩ ++ b ++ y)] W (kPost K p W t3 h2)) := ho1
  clear ho0 ho1
  go_enter Tryd.func39, Tryd.ntmps39
  go_wp2_with (go_at_call 63; refine (hh _).mono ?_; rintro e wx ⟨rfl, hwx⟩; obtain rfl : w = wx := hwx.symm; clear hwx)
  refine hrec.mono ?_
  rintro e w1 ⟨rfl, k1', b1'⟩
  clear hrec
  go_wp2_with fail
  refine (HO0.out w1 k1' b1').mono ?_
  rintro e w2 ⟨rfl, k2', b2x⟩
  have b2' := Below.trans b1' b2x
  go_wp2_with fail
  refine (HO1.out w2 k2' b2').mono ?_
  rintro e w3 ⟨rfl, k3', b3x⟩
  have b3' := Below.trans b2' b3x
  go_wp2_with fail
  go_ret2
  exact ⟨rfl, k3', b3'⟩

theorem kboth_any (K : Nat → Int) (p : Nat) (hp : 1 < p) (a : ByteArray) (ha : a.size = 32) : ∀ (q : Nat) (pf : List ByteArray) (m n : Nat) (whole : Bool) (v : Value) (w : World) (ts : List ByteArray), pf.length = q → q ≤ 100000 → 0 < m → m ≤ n → n ≤ 2147483647 →
    (pf = [] ∧ (∃ ao cap, v = .slice ao 0 cap) ∨ ∃ g off cap, v = .slice (some ⟨g, off, none⟩) q cap ∧ g < p ∧ q ≤ cap ∧ ∀ j (h : j < pf.length), w.cell? ⟨g, off + j, none⟩ = some (.string (pf[j]'h))) →
    (∀ b ∈ pf, b.size ≤ 100000) → (∃ tv hv, KAt (sumOf K) p w tv hv ts) → ts.length + 2 * q + 1 ≤ 1000000 → Tab K w →
    Calls Tryd.prog 39 #[.pointer (some ⟨p, 0, none⟩), .int .i64 m, .int .i64 n, .string a, v, .bool whole] w (kPost2 K p w (ts ++ (bothF (sumOf K) a m n whole pf).2.2) (bothF (sumOf K) a m n whole pf).1 (bothF (sumOf K) a m n whole pf).2.1) := by
  intro q
  induction q with
  | zero =>
    intro pf m n whole v w ts hq _ hm0 hmn hn1 hv _ hk ht T
    obtain rfl : pf = [] := List.eq_nil_of_length_eq_zero hq
    rw [bothF_none, List.append_nil]
    obtain ⟨ao, cap, rfl⟩ : ∃ ao cap, v = .slice ao 0 cap := by
      rcases hv with ⟨_, h⟩ | ⟨g, off, cap, rfl, _⟩
      · exact h
      · exact ⟨_, _, rfl⟩
    exact kboth_none K p w a m n ao cap whole ts hk
  | succ q ih =>
    intro pf m n whole v w ts hq hq1 hm0 hmn hn1 hv hb hk ht T
    obtain ⟨rest, b, rfl⟩ := snoc_of (pf := pf) (by intro e; subst e; simp at hq)
    have hrl : rest.length = q := by simp at hq; exact hq
    obtain ⟨g, off, cap, rfl, hg, hcap, hc⟩ : ∃ g off cap, v = .slice (some ⟨g, off, none⟩) (q + 1) cap ∧ g < p ∧ q + 1 ≤ cap ∧ ∀ j (h : j < (rest ++ [b]).length), w.cell? ⟨g, off + j, none⟩ = some (.string ((rest ++ [b])[j]'h)) := by
      rcases hv with ⟨e, _⟩ | h
      · simp at e
      · exact h
    by_cases h1 : m = n ∧ whole = true
    · obtain ⟨rfl, rfl⟩ := h1
      rw [bothF_whole, List.append_nil]
      exact kboth_known K p w a m _ ts hk
    · have hcm : w.cell? ⟨g, off + q, none⟩ = some (.string b) := by
        have := hc q (by simp; omega)
        rw [this]; simp [← hrl]
      have hbs := hb b (by simp)
      by_cases h2 : m = n
      · have hw : whole = false := by cases whole <;> simp_all
        subst h2 hw
        rw [bothF_all, List.append_nil]
        exact kboth_all K p w a b m g off cap q ts (by omega) hcap hk hcm
      · have h3 : 2 ≤ n := by omega
        have hk0 := halfN_pos n
        have hk1 := halfN_lt h3
        have hvr : ∀ W, Below p w W → (rest = [] ∧ (∃ ao cap', (Value.slice (some ⟨g, off, none⟩) q cap) = .slice ao 0 cap') ∨ ∃ g' off' cap', (Value.slice (some ⟨g, off, none⟩) q cap) = .slice (some ⟨g', off', none⟩) q cap' ∧ g' < p ∧ q ≤ cap' ∧ ∀ j (h : j < rest.length), W.cell? ⟨g', off' + j, none⟩ = some (.string (rest[j]'h))) := fun W hbW =>
          Or.inr ⟨g, off, cap, rfl, hg, by omega, fun j hj => by
            rw [hbW.cell (p := ⟨g, off + j, none⟩) hg, hc j (by simp; omega), List.getElem_append_left hj]⟩
        have hbr : ∀ b' ∈ rest, b'.size ≤ 100000 := fun b' hb' => hb b' (by simp [hb'])
        have hlen := fun m n whole => bothF_len (sumOf K) a _ rest m n whole hrl
        have hsz := fun m n whole => bothF_size (sumOf K) (sumOf_size K) a ha _ rest m n whole hrl hbr
        have hof : ∀ (us : List ByteArray) (t : ByteArray), us.length ≤ 1000000 → t.size ≤ 1000000 → ∀ W, (∃ tv hv, KAt (sumOf K) p W tv hv us) → Below p w W → Calls Tryd.prog 43 #[.pointer (some ⟨p, 0, none⟩), .string t] W (kPost K p W (us ++ [t]) (sumOf K t)) := fun us t hu ht' W hkW hbW => by
          obtain ⟨tv, hv', hA⟩ := hkW
          exact kof_any K p W tv hv' us t hA hu (by omega) (T.belowp hp hbW)
        by_cases hik : m ≤ halfN n
        · rw [bothF_left _ _ _ _ _ h2 _ _ hik, ← List.append_assoc]
          refine kboth_left K p w a b _ _ _ m n (halfN n) q g off cap whole _ _ h3 hn1 hk1 (by omega) hik (by omega) hcap hbs (hsz m (halfN n) whole).1 (hsz m (halfN n) whole).2 hcm (fun W => half_any n W h3 hn1) (ih rest m (halfN n) whole _ w ts hrl (by omega) hm0 hik (by omega) (hvr w (Below.refl _ _)) hbr hk (by omega) T) ?_
          refine hof _ _ (by have := hlen m (halfN n) whole; simp; omega) ?_
          rw [ByteArray.size_append, ByteArray.size_append, show (⟨#[1]⟩ : ByteArray).size = 1 from rfl]; have := (hsz m (halfN n) whole).2; omega
        · rw [bothF_right _ _ _ _ _ h2 _ _ hik, ← List.append_assoc, ← List.append_assoc]
          refine kboth_right K p w a b _ _ _ _ m n (halfN n) q g off cap whole _ (ts ++ (bothF (sumOf K) a (m - halfN n) (n - halfN n) false rest).2.2 ++ [⟨#[1]⟩ ++ b ++ (bothF (sumOf K) a (m - halfN n) (n - halfN n) false rest).1]) _ h3 hn1 hk1 (by omega) (by omega) (by omega) hcap hbs (hsz (m - halfN n) (n - halfN n) false).1 (hsz (m - halfN n) (n - halfN n) false).2 hcm (fun W => half_any n W h3 hn1) (by
            have := ih rest (m - halfN n) (n - halfN n) false _ w ts hrl (by omega) (by omega) (by omega) (by omega) (hvr w (Below.refl _ _)) hbr hk (by omega) T
            rw [show ((m - halfN n : Nat) : Int) = (m : Int) - (halfN n : Int) by omega, show ((n - halfN n : Nat) : Int) = (n : Int) - (halfN n : Int) by omega] at this
            exact this) ?_ ?_
          · refine hof _ _ (by have := hlen (m - halfN n) (n - halfN n) false; simp; omega) ?_
            rw [ByteArray.size_append, ByteArray.size_append, show (⟨#[1]⟩ : ByteArray).size = 1 from rfl]; have := (hsz (m - halfN n) (n - halfN n) false).1; omega
          · refine hof _ _ (by have := hlen (m - halfN n) (n - halfN n) false; simp; omega) ?_
            rw [ByteArray.size_append, ByteArray.size_append, show (⟨#[1]⟩ : ByteArray).size = 1 from rfl]; have := (hsz (m - halfN n) (n - halfN n) false).2; omega

set_option maxRecDepth 10000 in
set_option maxHeartbeats 1000000 in
/-- grew: where two texts of one hash are in hand, it says so. -/
theorem grew_any (K : Nat → Int) (ls pf : List ByteArray) (s : ByteArray) (g cap : Nat) (v' : Value) (m : Nat) (w : World) (hm0 : 0 < m) (hmn : m < ls.length) (hn1 : ls.length ≤ 1000) (hp1 : pf.length ≤ 1000) (hcap : ls.length ≤ cap) (hc : ∀ j (h : j < ls.length), w.cell? ⟨g, j, none⟩ = some (.string (ls[j]'h))) (hp : LeafAt w v' pf) (hs : ∀ t ∈ ls, t.size ≤ 100000) (hs2 : s.size = 32) (hs3 : ∀ t ∈ pf, t.size ≤ 100000) (T : Tab K w)
    (hcl : ∃ a b, b < a ∧ clashAt (sumOf K) (rootT (sumOf K) (ls.take m) ++ rootT (sumOf K) ls ++ (bothF (sumOf K) s m ls.length true pf).2.2) a b) :
    Calls Tryd.prog 20 #[.slice (some ⟨g, 0, none⟩) ls.length cap, .int .i64 m, .string s, v'] w fun e w' => e = .returned (.bool true) ∧ Below w.heap.size w w' := by
  have hg : g < w.heap.size := World.block_lt_of_cell? w _ (hc 0 (by omega))
  have hb0 : Below w.heap.size w (w.alloc (.cells #[.slice none 0 0, .slice none 0 0] 62)) := (Below.refl _ _).alloc (Nat.le_refl _) _
  have hv' : ∀ W, Below w.heap.size w W → (pf = [] ∧ (∃ ao cap, v' = .slice ao 0 cap) ∨ ∃ g off cap, v' = .slice (some ⟨g, off, none⟩) pf.length cap ∧ g < w.heap.size ∧ pf.length ≤ cap ∧ ∀ j (h : j < pf.length), W.cell? ⟨g, off + j, none⟩ = some (.string (pf[j]'h))) := fun W hb => by
    rcases hp with h | ⟨g', off', cap', rfl, hc', h⟩
    · exact Or.inl h
    · by_cases h0 : pf = []
      · subst h0; exact Or.inl ⟨rfl, _, _, rfl⟩
      · have hlt : 0 < pf.length := List.length_pos_iff.2 h0
        have hg' : g' < w.heap.size := World.block_lt_of_cell? w _ (h 0 hlt)
        exact Or.inr ⟨g', off', cap', rfl, hg', hc', fun j hj => (hb.cell (p := ⟨g', off' + j, none⟩) hg').trans (h j hj)⟩
  obtain ⟨ao, cap2, hv2⟩ := leaf_form hp
  subst hv2
  have hlm : (ls.take m).length = m := by simp; omega
  have hrl := rootT_len (sumOf K) _ ls rfl (by omega)
  have hrm := rootT_len (sumOf K) _ (ls.take m) rfl (by omega)
  have hbl := bothF_len (sumOf K) s _ pf m ls.length true rfl
  have hR0 := kroot_any K w.heap.size T.lt m (ls.take m) g 0 cap _ [] hlm hm0 (by omega) (by omega) hg (fun j hj => by rw [Nat.zero_add, List.getElem_take]; exact (hb0.cell (p := ⟨g, j, none⟩) hg).trans (hc j (by simp at hj; omega))) (fun t ht => hs t (List.mem_of_mem_take ht)) ⟨_, _, known_new (sumOf K) w⟩ (by simp; omega) (T.below hb0)
  have hR1 : ∀ W, (∃ tv hv, KAt (sumOf K) w.heap.size W tv hv ([] ++ rootT (sumOf K) (ls.take m))) → Below w.heap.size w W → Calls Tryd.prog 34 #[.pointer (some ⟨w.heap.size, 0, none⟩), .slice (some ⟨g, 0, none⟩) ls.length cap] W (kPost K w.heap.size W ([] ++ rootT (sumOf K) (ls.take m) ++ rootT (sumOf K) ls) (rootF (sumOf K) ls)) := fun W hk hb =>
    kroot_any K w.heap.size T.lt ls.length ls g 0 cap W _ rfl (by omega) (by omega) hcap hg (fun j hj => by rw [Nat.zero_add]; exact (hb.cell (p := ⟨g, j, none⟩) hg).trans (hc j hj)) hs hk (by simp; omega) (T.belowp T.lt hb)
  have hU : ∀ W, (∃ tv hv, KAt (sumOf K) w.heap.size W tv hv ([] ++ rootT (sumOf K) (ls.take m) ++ rootT (sumOf K) ls)) → Below w.heap.size w W → Calls Tryd.prog 39 #[.pointer (some ⟨w.heap.size, 0, none⟩), .int .i64 m, .int .i64 ls.length, .string s, .slice ao pf.length cap2, .bool true] W (kPost2 K w.heap.size W ([] ++ rootT (sumOf K) (ls.take m) ++ rootT (sumOf K) ls ++ (bothF (sumOf K) s m ls.length true pf).2.2) (bothF (sumOf K) s m ls.length true pf).1 (bothF (sumOf K) s m ls.length true pf).2.1) := fun W hk hb =>
    kboth_any K w.heap.size T.lt s hs2 pf.length pf m ls.length true _ W _ rfl (by omega) hm0 (by omega) (by omega) (hv' W hb) hs3 hk (by simp; omega) (T.belowp T.lt hb)
  have hC : ∀ W, (∃ tv hv, KAt (sumOf K) w.heap.size W tv hv ([] ++ rootT (sumOf K) (ls.take m) ++ rootT (sumOf K) ls ++ (bothF (sumOf K) s m ls.length true pf).2.2)) → Calls Tryd.prog 36 #[.pointer (some ⟨w.heap.size, 0, none⟩)] W fun e w' => e = .returned (.bool true) ∧ Below W.heap.size W w' := fun W ⟨tv, hv, hk⟩ =>
    (clash_any (sumOf K) w.heap.size W tv hv _ hk (by simp; omega)).mono fun e w' ⟨r, h1, h2, h3⟩ => ⟨by rw [h1, h2 (by simpa using hcl)], h3⟩
  generalize ([] ++ rootT (sumOf K) (ls.take m) ++ rootT (sumOf K) ls ++ (bothF (sumOf K) s m ls.length true pf).2.2) = t3 at *
  generalize ([] ++ rootT (sumOf K) (ls.take m) ++ rootT (sumOf K) ls) = t2 at *
  generalize ([] ++ rootT (sumOf K) (ls.take m)) = t1 at *
  generalize (bothF (sumOf K) s m ls.length true pf).1 = x at *
  generalize (bothF (sumOf K) s m ls.length true pf).2.1 = y at *
  generalize rootF (sumOf K) ls = r at *
  generalize rootF (sumOf K) (ls.take m) = r0 at *
  have HR1 : Hid (∀ W, (∃ tv hv, KAt (sumOf K) w.heap.size W tv hv t1) → Below w.heap.size w W → Calls Tryd.prog 34 #[.pointer (some ⟨w.heap.size, 0, none⟩), .slice (some ⟨g, 0, none⟩) ls.length cap] W (kPost K w.heap.size W t2 r)) := hR1
  have HU : Hid (∀ W, (∃ tv hv, KAt (sumOf K) w.heap.size W tv hv t2) → Below w.heap.size w W → Calls Tryd.prog 39 #[.pointer (some ⟨w.heap.size, 0, none⟩), .int .i64 m, .int .i64 ls.length, .string s, .slice ao pf.length cap2, .bool true] W (kPost2 K w.heap.size W t3 x y)) := hU
  have HC : Hid (∀ W, (∃ tv hv, KAt (sumOf K) w.heap.size W tv hv t3) → Calls Tryd.prog 36 #[.pointer (some ⟨w.heap.size, 0, none⟩)] W fun e w' => e = .returned (.bool true) ∧ Below W.heap.size W w') := hC
  clear hR1 hU hC hcl hv' hc hs hs3 hp hrl hrm hbl T hlm
  generalize ls.length = N at *
  generalize pf.length = M at *
  have mN : (m : Int) ≤ (N : Int) := by omega
  have mc : (m : Int) ≤ (cap : Int) := by omega
  go_enter Tryd.func20, Tryd.ntmps20
  go_wp2_with fail
  refine hR0.mono ?_
  rintro e w1 ⟨rfl, hk1, hb1⟩
  have hB1 : Below w.heap.size w w1 := hb0.trans hb1
  clear hR0
  go_wp2_with fail
  refine (HR1.out w1 hk1 hB1).mono ?_
  rintro e w2 ⟨rfl, hk2, hb2⟩
  have hB2 := hB1.trans hb2
  go_wp2_with fail
  refine (HU.out w2 hk2 hB2).mono ?_
  rintro e w3 ⟨rfl, hk3, hb3⟩
  have hB3 := hB2.trans hb3
  go_wp2_with fail
  refine (HC.out w3 hk3).mono ?_
  rintro e w4 ⟨rfl, hb4⟩
  go_wp2_with fail
  go_ret
  exact ⟨rfl, hB3.trans (hb4.mono hB3.size)⟩
end Go.Proofs.YteebdadnfaekmaaDoor
