import Derived.Test.YteebdadnfaekmaaDoorIRoot
set_option linter.unusedVariables false
set_option linter.unusedSimpArgs false
namespace Go.Proofs.YteebdadnfaekmaaDoor
open Go.RowKit

/-- What a proof makes of a leaf, and the texts that are hashed for it. -/
def upF (H : ByteArray → ByteArray) (leaf : ByteArray) (i n : Nat) (pf : List ByteArray) : ByteArray × List ByteArray :=
  if n = 1 then (H (m0 ++ leaf), [m0 ++ leaf]) else
  match h : pf.getLast? with
  | none => (H (m0 ++ leaf), [m0 ++ leaf])
  | some b =>
      if i < halfN n then (H (m1 ++ (upF H leaf i (halfN n) pf.dropLast).1 ++ b), (upF H leaf i (halfN n) pf.dropLast).2 ++ [m1 ++ (upF H leaf i (halfN n) pf.dropLast).1 ++ b])
      else (H (m1 ++ b ++ (upF H leaf (i - halfN n) (n - halfN n) pf.dropLast).1), (upF H leaf (i - halfN n) (n - halfN n) pf.dropLast).2 ++ [m1 ++ b ++ (upF H leaf (i - halfN n) (n - halfN n) pf.dropLast).1])
  termination_by pf.length
  decreasing_by all_goals (have : pf ≠ [] := by intro e; rw [e] at h; simp at h) <;> (have := List.length_pos_iff.2 this) <;> simp <;> omega
theorem upF_one (H : ByteArray → ByteArray) (leaf : ByteArray) (i : Nat) (pf : List ByteArray) : upF H leaf i 1 pf = (H (m0 ++ leaf), [m0 ++ leaf]) := by rw [upF, if_pos rfl]
theorem upF_none (H : ByteArray → ByteArray) (leaf : ByteArray) (i n : Nat) : upF H leaf i n [] = (H (m0 ++ leaf), [m0 ++ leaf]) := by
  rw [upF]; split <;> rfl
theorem upF_left (H : ByteArray → ByteArray) (leaf : ByteArray) (i n : Nat) (hn : n ≠ 1) (pf : List ByteArray) (b : ByteArray) (hi : i < halfN n) :
    upF H leaf i n (pf ++ [b]) = (H (m1 ++ (upF H leaf i (halfN n) pf).1 ++ b), (upF H leaf i (halfN n) pf).2 ++ [m1 ++ (upF H leaf i (halfN n) pf).1 ++ b]) := by
  rw [upF, if_neg hn]
  split
  · rename_i h; rw [List.getLast?_concat] at h; cases h
  · rename_i b' h
    rw [List.getLast?_concat] at h
    obtain rfl := Option.some.inj h
    rw [if_pos hi, List.dropLast_concat]
theorem upF_right (H : ByteArray → ByteArray) (leaf : ByteArray) (i n : Nat) (hn : n ≠ 1) (pf : List ByteArray) (b : ByteArray) (hi : ¬ i < halfN n) :
    upF H leaf i n (pf ++ [b]) = (H (m1 ++ b ++ (upF H leaf (i - halfN n) (n - halfN n) pf).1), (upF H leaf (i - halfN n) (n - halfN n) pf).2 ++ [m1 ++ b ++ (upF H leaf (i - halfN n) (n - halfN n) pf).1]) := by
  rw [upF, if_neg hn]
  split
  · rename_i h; rw [List.getLast?_concat] at h; cases h
  · rename_i b' h
    rw [List.getLast?_concat] at h
    obtain rfl := Option.some.inj h
    rw [if_neg hi, List.dropLast_concat]
theorem upF_size (H : ByteArray → ByteArray) (hH : ∀ s, (H s).size = 32) (leaf : ByteArray) (i n : Nat) (pf : List ByteArray) : (upF H leaf i n pf).1.size = 32 := by
  rw [upF]
  split
  · exact hH _
  · split
    · exact hH _
    · split <;> exact hH _

set_option maxRecDepth 10000 in
set_option maxHeartbeats 1000000 in
theorem kup_end (K : Nat → Int) (p : Nat) (w : World) (s h : ByteArray) (i n m : Nat) (ao : Option Addr) (cap : Nat) (ts : List ByteArray) (hs : s.size ≤ 100000) (he : n = 1 ∨ m = 0)
    (hof : Calls Tryd.prog 43 #[.pointer (some ⟨p, 0, none⟩), .string (⟨#[0]⟩ ++ s)] w (kPost K p w ts h)) :
    Calls Tryd.prog 35 #[.pointer (some ⟨p, 0, none⟩), .int .i64 n, .int .i64 i, .string s, .slice ao m cap] w (kPost K p w ts h) := by
  by_cases h1 : n = 1
  · subst h1
    go_enter Tryd.func35, Tryd.ntmps35
    go_wp2_with fail
    refine hof.mono ?_
    rintro e w1 ⟨rfl, hk, hb⟩
    go_wp2_with fail
    go_ret
    exact ⟨rfl, hk, hb⟩
  · obtain rfl : m = 0 := by omega
    have n1 : ((n : Int) == 1) = false := by rw [beq_eq_false_iff_ne]; omega
    clear he h1
    go_enter Tryd.func35, Tryd.ntmps35
    go_wp2_with fail
    refine hof.mono ?_
    rintro e w1 ⟨rfl, hk, hb⟩
    go_wp2_with fail
    go_ret
    exact ⟨rfl, hk, hb⟩

set_option maxRecDepth 10000 in
set_option maxHeartbeats 1000000 in
theorem kup_left (K : Nat → Int) (p : Nat) (w : World) (s b x h : ByteArray) (i n k m g off cap : Nat) (t1 t2 : List ByteArray) (hn : 2 ≤ n) (hn1 : n ≤ 2147483647) (hk1 : k < n) (hi1 : i < n) (hik : i < k) (hm : m ≤ 1000000) (hcap : m + 1 ≤ cap) (hb : b.size ≤ 100000) (hx : x.size = 32)
    (hc : w.cell? ⟨g, off + m, none⟩ = some (.string b))
    (hh : ∀ W, Calls Tryd.prog 63 #[.int .i64 n] W fun e w' => e = .returned (.int .i64 k) ∧ w' = W)
    (hrec : Calls Tryd.prog 35 #[.pointer (some ⟨p, 0, none⟩), .int .i64 k, .int .i64 i, .string s, .slice (some ⟨g, off, none⟩) m cap] w (kPost K p w t1 x))
    (hof : ∀ W, (∃ tv hv, KAt (sumOf K) p W tv hv t1) → Below p w W → Calls Tryd.prog 43 #[.pointer (some ⟨p, 0, none⟩), .string (⟨#[1]⟩ ++ x ++ b)] W (kPost K p W t2 h)) :
    Calls Tryd.prog 35 #[.pointer (some ⟨p, 0, none⟩), .int .i64 n, .int .i64 i, .string s, .slice (some ⟨g, off, none⟩) (m + 1) cap] w (kPost K p w t2 h) := by
  have n1 : ((n : Int) == 1) = false := by rw [beq_eq_false_iff_ne]; omega
  have m0' : ((m + 1 : Nat) : Int) = (m : Int) + 1 := by omega
  have m1' : ((m : Int) + 1 == 0) = false := by rw [beq_eq_false_iff_ne]; omega
  have m2' : (m : Int) < (m : Int) + 1 := by omega
  have m3' : (m : Int) ≤ (cap : Int) := by omega
  have ik : (i : Int) < (k : Int) := by omega
  have HOF : Hid (∀ W, (∃ tv hv, KAt (sumOf K) p W tv hv t1) → Below p w W → Calls Tryd.prog 43 #[.pointer (some ⟨p, 0, none⟩), .string (⟨#[1]⟩ ++ x ++ b)] W (kPost K p W t2 h)) := hof
  clear hof
  go_enter Tryd.func35, Tryd.ntmps35
  go_wp2_with (go_at_call 63; refine (hh _).mono ?_; rintro e wx ⟨rfl, hwx⟩; obtain rfl : w = wx := hwx.symm; clear hwx)
  refine hrec.mono ?_
  rintro e w1 ⟨rfl, hk1', hb1⟩
  clear hrec
  go_wp2_with fail
  refine (HOF.out w1 hk1' hb1).mono ?_
  rintro e w2 ⟨rfl, hk2', hb2⟩
  go_wp2_with fail
  go_ret
  exact ⟨rfl, hk2', hb1.trans hb2⟩

set_option maxRecDepth 10000 in
set_option maxHeartbeats 1000000 in
theorem kup_right (K : Nat → Int) (p : Nat) (w : World) (s b x h : ByteArray) (i n k m g off cap : Nat) (t1 t2 : List ByteArray) (hn : 2 ≤ n) (hn1 : n ≤ 2147483647) (hk1 : k < n) (hi1 : i < n) (hik : k ≤ i) (hm : m ≤ 1000000) (hcap : m + 1 ≤ cap) (hb : b.size ≤ 100000) (hx : x.size = 32)
    (hc : w.cell? ⟨g, off + m, none⟩ = some (.string b))
    (hh : ∀ W, Calls Tryd.prog 63 #[.int .i64 n] W fun e w' => e = .returned (.int .i64 k) ∧ w' = W)
    (hrec : Calls Tryd.prog 35 #[.pointer (some ⟨p, 0, none⟩), .int .i64 ((n : Int) - (k : Int)), .int .i64 ((i : Int) - (k : Int)), .string s, .slice (some ⟨g, off, none⟩) m cap] w (kPost K p w t1 x))
    (hof : ∀ W, (∃ tv hv, KAt (sumOf K) p W tv hv t1) → Below p w W → Calls Tryd.prog 43 #[.pointer (some ⟨p, 0, none⟩), .string (⟨#[1]⟩ ++ b ++ x)] W (kPost K p W t2 h)) :
    Calls Tryd.prog 35 #[.pointer (some ⟨p, 0, none⟩), .int .i64 n, .int .i64 i, .string s, .slice (some ⟨g, off, none⟩) (m + 1) cap] w (kPost K p w t2 h) := by
  have n1 : ((n : Int) == 1) = false := by rw [beq_eq_false_iff_ne]; omega
  have m0' : ((m + 1 : Nat) : Int) = (m : Int) + 1 := by omega
  have m1' : ((m : Int) + 1 == 0) = false := by rw [beq_eq_false_iff_ne]; omega
  have m2' : (m : Int) < (m : Int) + 1 := by omega
  have m3' : (m : Int) ≤ (cap : Int) := by omega
  have ik : ¬ (i : Int) < (k : Int) := by omega
  have ik2 : (k : Int) ≤ (i : Int) := by omega
  have ik3 : (i : Int) < (n : Int) := by omega
  have HOF : Hid (∀ W, (∃ tv hv, KAt (sumOf K) p W tv hv t1) → Below p w W → Calls Tryd.prog 43 #[.pointer (some ⟨p, 0, none⟩), .string (⟨#[1]⟩ ++ b ++ x)] W (kPost K p W t2 h)) := hof
  clear hof
  go_enter Tryd.func35, Tryd.ntmps35
  go_wp2_with (go_at_call 63; refine (hh _).mono ?_; rintro e wx ⟨rfl, hwx⟩; obtain rfl : w = wx := hwx.symm; clear hwx)
  refine hrec.mono ?_
  rintro e w1 ⟨rfl, hk1', hb1⟩
  clear hrec
  go_wp2_with fail
  refine (HOF.out w1 hk1' hb1).mono ?_
  rintro e w2 ⟨rfl, hk2', hb2⟩
  go_wp2_with fail
  go_ret
  exact ⟨rfl, hk2', hb1.trans hb2⟩

theorem kup_any (K : Nat → Int) (p : Nat) (hp : 1 < p) (s : ByteArray) (hs : s.size ≤ 100000) : ∀ (m : Nat) (pf : List ByteArray) (i n : Nat) (v : Value) (w : World) (ts : List ByteArray), pf.length = m → m ≤ 100000 → i < n → n ≤ 2147483647 →
    (pf = [] ∧ (∃ ao cap, v = .slice ao 0 cap) ∨ ∃ g off cap, v = .slice (some ⟨g, off, none⟩) m cap ∧ m ≤ cap ∧ ∀ j (h : j < pf.length), w.cell? ⟨g, off + j, none⟩ = some (.string (pf[j]'h))) →
    (∀ b ∈ pf, b.size ≤ 100000) → (∃ tv hv, KAt (sumOf K) p w tv hv ts) → ts.length + m + 1 ≤ 1000000 → Tab K w →
    Calls Tryd.prog 35 #[.pointer (some ⟨p, 0, none⟩), .int .i64 n, .int .i64 i, .string s, v] w (kPost K p w (ts ++ (upF (sumOf K) s i n pf).2) (upF (sumOf K) s i n pf).1) := by
  have hms : (m0 ++ s).size ≤ 140737488355000 := by rw [ByteArray.size_append, m0_size]; omega
  intro m
  induction m with
  | zero =>
    intro pf i n v w ts hm _ hin hn1 hv _ hk ht T
    obtain rfl : pf = [] := List.eq_nil_of_length_eq_zero hm
    obtain ⟨tv, hv', hA⟩ := hk
    have hof := kof_any K p w tv hv' ts (m0 ++ s) hA (by omega) hms T
    rw [upF_none]
    obtain ⟨ao, cap, rfl⟩ : ∃ ao cap, v = .slice ao 0 cap := by
      rcases hv with ⟨_, h⟩ | ⟨g, off, cap, rfl, _⟩
      · exact h
      · exact ⟨_, _, rfl⟩
    exact kup_end K p w s _ i n 0 ao cap _ hs (Or.inr rfl) hof
  | succ m ih =>
    intro pf i n v w ts hm hm1 hin hn1 hv hb hk ht T
    obtain ⟨rest, b, rfl⟩ : ∃ rest b, pf = rest ++ [b] := ⟨pf.dropLast, pf.getLast (by intro e; subst e; simp at hm), (List.dropLast_concat_getLast _).symm⟩
    have hrl : rest.length = m := by simp at hm; exact hm
    obtain ⟨g, off, cap, rfl, hcap, hc⟩ : ∃ g off cap, v = .slice (some ⟨g, off, none⟩) (m + 1) cap ∧ m + 1 ≤ cap ∧ ∀ j (h : j < (rest ++ [b]).length), w.cell? ⟨g, off + j, none⟩ = some (.string ((rest ++ [b])[j]'h)) := by
      rcases hv with ⟨e, _⟩ | h
      · simp at e
      · exact h
    by_cases h1 : n = 1
    · subst h1
      obtain ⟨tv, hv', hA⟩ := hk
      have hof := kof_any K p w tv hv' ts (m0 ++ s) hA (by omega) hms T
      rw [upF_one]
      exact kup_end K p w s _ i 1 (m + 1) _ cap _ hs (Or.inl rfl) hof
    · have h2 : 2 ≤ n := by omega
      have hk0 := halfN_pos n
      have hk1 := halfN_lt h2
      have hbs := hb b (by simp)
      have hcm : w.cell? ⟨g, off + m, none⟩ = some (.string b) := by
        have := hc m (by simp; omega)
        rw [this]; simp [← hrl]
      have hvr : (rest = [] ∧ (∃ ao cap', (Value.slice (some ⟨g, off, none⟩) m cap) = .slice ao 0 cap') ∨ ∃ g' off' cap', (Value.slice (some ⟨g, off, none⟩) m cap) = .slice (some ⟨g', off', none⟩) m cap' ∧ m ≤ cap' ∧ ∀ j (h : j < rest.length), w.cell? ⟨g', off' + j, none⟩ = some (.string (rest[j]'h))) :=
        Or.inr ⟨g, off, cap, rfl, by omega, fun j hj => by rw [hc j (by simp; omega), List.getElem_append_left hj]⟩
      have hlen : ∀ i' n', (upF (sumOf K) s i' n' rest).2.length ≤ m + 1 := fun i' n' => by
        have : ∀ (q : Nat) (pf : List ByteArray) (i n : Nat), pf.length = q → (upF (sumOf K) s i n pf).2.length ≤ q + 1 := by
          intro q
          induction q with
          | zero => intro pf i n hq; obtain rfl := List.eq_nil_of_length_eq_zero hq; rw [upF_none]; simp
          | succ q ihq =>
            intro pf i n hq
            obtain ⟨rest', b', rfl⟩ : ∃ rest' b', pf = rest' ++ [b'] := ⟨pf.dropLast, pf.getLast (by intro e; subst e; simp at hq), (List.dropLast_concat_getLast _).symm⟩
            have hq' : rest'.length = q := by simp at hq; exact hq
            by_cases hn : n = 1
            · subst hn; rw [upF_one]; simp
            · by_cases hi : i < halfN n
              · rw [upF_left _ _ _ _ hn _ _ hi]; have := ihq rest' i (halfN n) hq'; simp; omega
              · rw [upF_right _ _ _ _ hn _ _ hi]; have := ihq rest' (i - halfN n) (n - halfN n) hq'; simp; omega
        exact this m rest i' n' hrl
      by_cases hik : i < halfN n
      · rw [upF_left _ _ _ _ h1 _ _ hik, ← List.append_assoc]
        refine kup_left K p w s b _ _ i n (halfN n) m g off cap _ _ h2 hn1 hk1 hin hik (by omega) hcap hbs (upF_size _ (sumOf_size K) _ _ _ _) hcm (fun W => half_any n W h2 hn1) (ih rest i (halfN n) _ w ts hrl (by omega) hik (by omega) hvr (fun b' hb' => hb b' (by simp [hb'])) hk (by omega) T) ?_
        intro W hkW hbW
        obtain ⟨tv, hv', hA⟩ := hkW
        refine kof_any K p W tv hv' _ _ hA (by have := hlen i (halfN n); simp; omega) ?_ (T.belowp hp hbW)
        rw [ByteArray.size_append, ByteArray.size_append, upF_size _ (sumOf_size K), show (⟨#[1]⟩ : ByteArray).size = 1 from rfl]; omega
      · rw [upF_right _ _ _ _ h1 _ _ hik, ← List.append_assoc]
        refine kup_right K p w s b _ _ i n (halfN n) m g off cap _ _ h2 hn1 hk1 hin (by omega) (by omega) hcap hbs (upF_size _ (sumOf_size K) _ _ _ _) hcm (fun W => half_any n W h2 hn1) (by
          have := ih rest (i - halfN n) (n - halfN n) _ w ts hrl (by omega) (by omega) (by omega) hvr (fun b' hb' => hb b' (by simp [hb'])) hk (by omega) T
          rw [show ((i - halfN n : Nat) : Int) = (i : Int) - (halfN n : Int) by omega, show ((n - halfN n : Nat) : Int) = (n : Int) - (halfN n : Int) by omega] at this
          exact this) ?_
        intro W hkW hbW
        obtain ⟨tv, hv', hA⟩ := hkW
        refine kof_any K p W tv hv' _ _ hA (by have := hlen (i - halfN n) (n - halfN n); simp; omega) ?_ (T.belowp hp hbW)
        rw [ByteArray.size_append, ByteArray.size_append, upF_size _ (sumOf_size K), show (⟨#[1]⟩ : ByteArray).size = 1 from rfl]; omega
end Go.Proofs.YteebdadnfaekmaaDoor
