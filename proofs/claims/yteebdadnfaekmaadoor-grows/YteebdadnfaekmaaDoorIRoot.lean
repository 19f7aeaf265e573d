import Derived.Test.YteebdadnfaekmaaDoorIKnown
set_option linter.unusedVariables false
set_option linter.unusedSimpArgs false
namespace Go.Proofs.YteebdadnfaekmaaDoor
open Go.RowKit

/-- What known's calls leave. -/
def kPost (K : Nat → Int) (p : Nat) (w : World) (ts : List ByteArray) (h : ByteArray) (e : Ending) (w' : World) : Prop :=
  e = .returned (.string h) ∧ (∃ tv hv, KAt (sumOf K) p w' tv hv ts) ∧ Below p w w'

set_option maxRecDepth 10000 in
set_option maxHeartbeats 1000000 in
theorem kroot_one (K : Nat → Int) (p : Nat) (w : World) (g off cap : Nat) (s h : ByteArray) (ts : List ByteArray) (hc : w.cell? ⟨g, off, none⟩ = some (.string s)) (hs : s.size ≤ 100000)
    (hof : Calls Tryd.prog 43 #[.pointer (some ⟨p, 0, none⟩), .string (⟨#[0]⟩ ++ s)] w (kPost K p w ts h)) :
    Calls Tryd.prog 34 #[.pointer (some ⟨p, 0, none⟩), .slice (some ⟨g, off, none⟩) 1 cap] w (kPost K p w ts h) := by
  go_enter Tryd.func34, Tryd.ntmps34
  go_wp2_with fail
  refine hof.mono ?_
  rintro e w1 ⟨rfl, hk, hb⟩
  go_wp2_with fail
  go_ret
  exact ⟨rfl, hk, hb⟩

set_option maxRecDepth 10000 in
set_option maxHeartbeats 1000000 in
theorem kroot_more (K : Nat → Int) (p : Nat) (w : World) (g off cap N k : Nat) (a b h : ByteArray) (t1 t2 t3 : List ByteArray) (hN : 2 ≤ N) (hN1 : N ≤ 2147483647) (hk0 : 0 < k) (hk1 : k < N) (hcap : N ≤ cap) (ha : a.size = 32) (hb : b.size = 32)
    (hh : ∀ W, Calls Tryd.prog 63 #[.int .i64 N] W fun e w' => e = .returned (.int .i64 k) ∧ w' = W)
    (hA : Calls Tryd.prog 34 #[.pointer (some ⟨p, 0, none⟩), .slice (some ⟨g, off, none⟩) k cap] w (kPost K p w t1 a))
    (hB : ∀ W, (∃ tv hv, KAt (sumOf K) p W tv hv t1) → Below p w W → Calls Tryd.prog 34 #[.pointer (some ⟨p, 0, none⟩), .slice (some ⟨g, off + k, none⟩) (N - k) (cap - k)] W (kPost K p W t2 b))
    (hof : ∀ W, (∃ tv hv, KAt (sumOf K) p W tv hv t2) → Below p w W → Calls Tryd.prog 43 #[.pointer (some ⟨p, 0, none⟩), .string (⟨#[1]⟩ ++ a ++ b)] W (kPost K p W t3 h)) :
    Calls Tryd.prog 34 #[.pointer (some ⟨p, 0, none⟩), .slice (some ⟨g, off, none⟩) N cap] w (kPost K p w t3 h) := by
  have n0 : ((N : Int) == 0) = false := by rw [beq_eq_false_iff_ne]; omega
  have n1 : ((N : Int) == 1) = false := by rw [beq_eq_false_iff_ne]; omega
  have k1 : (k : Int) ≤ (N : Int) := by omega
  have k2 : (k : Int) ≤ (cap : Int) := by omega
  have k3 : ¬ cap = k := by omega
  have HB : Hid (∀ W, (∃ tv hv, KAt (sumOf K) p W tv hv t1) → Below p w W → Calls Tryd.prog 34 #[.pointer (some ⟨p, 0, none⟩), .slice (some ⟨g, off + k, none⟩) (N - k) (cap - k)] W (kPost K p W t2 b)) := hB
  have HOF : Hid (∀ W, (∃ tv hv, KAt (sumOf K) p W tv hv t2) → Below p w W → Calls Tryd.prog 43 #[.pointer (some ⟨p, 0, none⟩), .string (⟨#[1]⟩ ++ a ++ b)] W (kPost K p W t3 h)) := hof
  clear hB hof
  go_enter Tryd.func34, Tryd.ntmps34
  go_wp2_with (go_at_call 63; refine (hh _).mono ?_; rintro e wx ⟨rfl, hwx⟩; obtain rfl : w = wx := hwx.symm; clear hwx)
  refine hA.mono ?_
  rintro e w1 ⟨rfl, hk1', hb1⟩
  clear hA
  go_wp2_with fail
  refine (HB.out w1 hk1' hb1).mono ?_
  rintro e w2 ⟨rfl, hk2', hb2⟩
  go_wp2_with fail
  refine (HOF.out w2 hk2' (hb1.trans hb2)).mono ?_
  rintro e w3 ⟨rfl, hk3', hb3⟩
  go_wp2_with fail
  go_ret
  exact ⟨rfl, hk3', (hb1.trans hb2).trans hb3⟩

theorem Tab.belowp {K : Nat → Int} {p : Nat} {w w' : World} (h : Tab K w) (hp : 1 < p) (hb : Below p w w') : Tab K w' :=
  ⟨Nat.lt_of_lt_of_le h.lt hb.size, fun j hj => (hb.cell (p := ⟨1, j, none⟩) hp).trans (h.cells j hj)⟩

theorem kroot_any (K : Nat → Int) (p : Nat) (hp : 1 < p) : ∀ (n : Nat) (ls : List ByteArray) (g off cap : Nat) (w : World) (ts : List ByteArray), ls.length = n → 0 < n → n ≤ 2147483647 → n ≤ cap → g < p → (∀ j (h : j < ls.length), w.cell? ⟨g, off + j, none⟩ = some (.string (ls[j]'h))) → (∀ s ∈ ls, s.size ≤ 100000) → (∃ tv hv, KAt (sumOf K) p w tv hv ts) → ts.length + 2 * n ≤ 1000000 → Tab K w →
    Calls Tryd.prog 34 #[.pointer (some ⟨p, 0, none⟩), .slice (some ⟨g, off, none⟩) n cap] w (kPost K p w (ts ++ rootT (sumOf K) ls) (rootF (sumOf K) ls)) := by
  intro n
  induction n using Nat.strongRecOn with
  | _ n ih =>
  intro ls g off cap w ts hn hn0 hn1 hcap hg hc hs hk ht T
  have hszF : ∀ l, (rootF (sumOf K) l).size = 32 := rootF_size (sumOf K) (sumOf_size K)
  by_cases h1 : n = 1
  · subst h1
    obtain ⟨s, rfl⟩ : ∃ s, ls = [s] := List.length_eq_one_iff.1 hn
    rw [rootT_one]
    have hss := hs s (by simp)
    refine kroot_one K p w g off cap s _ _ (by have := hc 0 (by simp); simpa using this) hss ?_
    obtain ⟨tv, hv, hA⟩ := hk
    have hm : (m0 ++ s).size ≤ 140737488355000 := by rw [ByteArray.size_append, m0_size]; omega
    have := kof_any K p w tv hv ts (m0 ++ s) hA (by omega) hm T
    rw [show rootF (sumOf K) [s] = sumOf K (m0 ++ s) by rw [rootF]]
    exact this
  · have h2 : 2 ≤ ls.length := by omega
    have hk0 := halfN_pos ls.length
    have hk1 := halfN_lt h2
    have lT := rootT_len (sumOf K) _ (ls.take (halfN ls.length)) rfl (by simp; omega)
    have lD := rootT_len (sumOf K) _ (ls.drop (halfN ls.length)) rfl (by simp; omega)
    have nT : (ls.take (halfN ls.length)).length = halfN ls.length := by simp; omega
    have nD : (ls.drop (halfN ls.length)).length = ls.length - halfN ls.length := by simp
    rw [nT] at lT
    rw [nD] at lD
    rw [rootT_more _ h2, rootF_more _ h2, ← List.append_assoc, ← List.append_assoc]
    rw [← hn]
    refine kroot_more K p w g off cap ls.length (halfN ls.length) (rootF (sumOf K) (ls.take (halfN ls.length))) (rootF (sumOf K) (ls.drop (halfN ls.length))) _ (ts ++ rootT (sumOf K) (ls.take (halfN ls.length))) (ts ++ rootT (sumOf K) (ls.take (halfN ls.length)) ++ rootT (sumOf K) (ls.drop (halfN ls.length))) _ h2 (by omega) hk0 hk1 (by omega) (hszF _) (hszF _) (fun W => half_any ls.length W h2 (by omega)) ?_ ?_ ?_
    · refine ih (halfN ls.length) (by omega) (ls.take (halfN ls.length)) g off cap w ts nT hk0 (by omega) (by omega) hg (fun j hj => ?_) (fun s hs' => hs s (List.mem_of_mem_take hs')) hk (by omega) T
      rw [List.getElem_take]; exact hc j (by simp at hj; omega)
    · intro W hkW hbW
      refine ih (ls.length - halfN ls.length) (by omega) (ls.drop (halfN ls.length)) g (off + halfN ls.length) (cap - halfN ls.length) W _ nD (by omega) (by omega) (by omega) hg (fun j hj => ?_) (fun s hs' => hs s (List.mem_of_mem_drop hs')) hkW (by simp; omega) (T.belowp hp hbW)
      rw [List.getElem_drop, Nat.add_assoc, hbW.cell (p := ⟨g, off + (halfN ls.length + j), none⟩) hg]
      exact hc _ (by simp at hj; omega)
    · intro W hkW hbW
      obtain ⟨tv, hv, hA⟩ := hkW
      have hm : (m1 ++ rootF (sumOf K) (ls.take (halfN ls.length)) ++ rootF (sumOf K) (ls.drop (halfN ls.length))).size ≤ 140737488355000 := by
        rw [ByteArray.size_append, ByteArray.size_append, hszF, hszF, m1_size]; omega
      exact kof_any K p W tv hv _ _ hA (by simp; omega) hm (T.belowp hp hbW)
end Go.Proofs.YteebdadnfaekmaaDoor
