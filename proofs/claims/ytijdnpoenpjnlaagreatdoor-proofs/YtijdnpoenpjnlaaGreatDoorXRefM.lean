import Derived.Test.YtijdnpoenpjnlaaGreatDoorRSum
import Derived.Test.YtijdnpoenpjnlaaGreatDoorMTreeM
import Derived.Test.YtijdnpoenpjnlaaGreatDoorRWorld
import Derived.Laws.OwnMore
set_option linter.unusedVariables false
set_option linter.unusedSimpArgs false
namespace Go.Proofs.YtijdnpoenpjnlaaGreatDoor
open Go.RowKit

def kT : Nat → Int := fun j => roundsK.getD j 0
def HR : ByteArray → ByteArray := sumOf kT
theorem HR_size (s : ByteArray) : (HR s).size = 32 := sumOf_size kT s
theorem rsum (s : ByteArray) (w : World) (hs : s.size ≤ 1000000) : Calls Tryz.prog 30 #[.string s] w fun e w' => e = .returned (.string (HR s)) ∧ Below w.heap.size w w' := refsum_any s w (by omega)

set_option maxRecDepth 10000 in
set_option maxHeartbeats 400000 in
theorem rsplit_any (n : Nat) (w : World) (h0 : 2 ≤ n) (h1 : n ≤ 2147483647) :
    Calls Tryz.prog 116 #[.int .i64 n] w fun e w' => e = .returned (.int .i64 (halfN n)) ∧ w' = w := by
  go_enter Tryz.func116, Tryz.ntmps116
  go_wp2_with fail
  go_loopw [3] (fun k wr => ∃ q : Nat, k = .int .i64 q ∧ q < n ∧ Hid (∃ j, q = 2 ^ j) ∧ wr = w) (fun k _ => n - (intOf k).toNat)
  case atStart => exact ⟨1, rfl, by omega, ⟨0, rfl⟩, rfl⟩
  case round =>
    obtain ⟨q, rfl, hq, hj, hwr⟩ := hrel
    obtain rfl : w = wr := hwr.symm
    clear hwr
    by_cases hlt : 2 * q < n
    · have q1 : 2 * (q : Int) < (n : Int) := by omega
      go_wp2_with fail
      refine ⟨⟨2 * q, by go_num, by omega, ?_, by trivial⟩, ?_⟩
      · obtain ⟨j, e⟩ := hj.out
        exact ⟨j + 1, by rw [e, Nat.pow_succ]; omega⟩
      · have h0 : 0 < q := by
          obtain ⟨j, e⟩ := hj.out
          rw [e]; exact Nat.pow_pos (by omega)
        simp [intOf]; omega
    · have q1 : ¬ 2 * (q : Int) < (n : Int) := by omega
      have hh : q = halfN n := by
        obtain ⟨j, e⟩ := hj.out
        rw [e] at hq hlt ⊢
        exact halfN_unique hq (by omega)
      have HH : Hid (q = halfN n) := hh
      clear hh
      go_wp2_with fail
      go_ret
      exact ⟨by rw [← HH.out]; rfl, rfl⟩

set_option maxRecDepth 10000 in
set_option maxHeartbeats 400000 in
theorem rjoined_any (a b : ByteArray) (w : World) (ha : a.size ≤ 20000) (hb : b.size ≤ 20000) :
    Calls Tryz.prog 117 #[.string a, .string b] w fun e w' => e = .returned (.string (HR (m1 ++ a ++ b))) ∧ Below w.heap.size w w' := by
  have hs := rsum (m1 ++ a ++ b) w (by rw [ByteArray.size_append, ByteArray.size_append, m1_size]; omega)
  rw [show m1 = ⟨#[1]⟩ from rfl] at hs ⊢
  generalize HR (⟨#[1]⟩ ++ a ++ b) = h at *
  go_enter Tryz.func117, Tryz.ntmps117
  go_wp2_with fail
  refine hs.mono ?_
  rintro e w1 ⟨rfl, hb1⟩
  go_wp2_with fail
  go_ret
  exact ⟨rfl, hb1⟩

def strPost (h : ByteArray) (w : World) (e : Ending) (w' : World) : Prop := e = .returned (.string h) ∧ Below w.heap.size w w'

set_option maxRecDepth 10000 in
set_option maxHeartbeats 400000 in
theorem rroot_nil (ao : Option Addr) (cap : Nat) (w : World) : Calls Tryz.prog 68 #[.slice ao 0 cap] w (strPost (rootF HR []) w) := by
  have hs := rsum ⟨#[]⟩ w (by decide)
  rw [show HR ⟨#[]⟩ = rootF HR [] by rw [rootF]] at hs
  generalize rootF HR [] = h at *
  go_enter Tryz.func68, Tryz.ntmps68
  go_wp2_with fail
  refine hs.mono ?_
  rintro e w1 ⟨rfl, hb1⟩
  go_wp2_with fail
  go_ret
  exact ⟨rfl, hb1⟩

set_option maxRecDepth 10000 in
set_option maxHeartbeats 400000 in
theorem rroot_one (g off cap : Nat) (s : ByteArray) (w : World) (hc : w.cell? ⟨g, off, none⟩ = some (.string s)) (hsz : s.size ≤ 20000) : Calls Tryz.prog 68 #[.slice (some ⟨g, off, none⟩) 1 cap] w (strPost (rootF HR [s]) w) := by
  have hs := rsum (m0 ++ s) w (by rw [ByteArray.size_append, m0_size]; omega)
  rw [show HR (m0 ++ s) = rootF HR [s] by rw [rootF], show m0 = ⟨#[0]⟩ from rfl] at hs
  generalize rootF HR [s] = h at *
  go_enter Tryz.func68, Tryz.ntmps68
  go_wp2_with fail
  refine hs.mono ?_
  rintro e w1 ⟨rfl, hb1⟩
  go_wp2_with fail
  go_ret
  exact ⟨rfl, hb1⟩

set_option maxRecDepth 10000 in
set_option maxHeartbeats 1000000 in
theorem rroot_more (g off cap N k : Nat) (a b h : ByteArray) (w : World) (hN : 2 ≤ N) (hN1 : N ≤ 1000000) (hk0 : 0 < k) (hk1 : k < N) (hcap : N ≤ cap)
    (hsp : ∀ W, Calls Tryz.prog 116 #[.int .i64 N] W fun e w' => e = .returned (.int .i64 k) ∧ w' = W)
    (hA : ∀ W, Below w.heap.size w W → Calls Tryz.prog 68 #[.slice (some ⟨g, off, none⟩) k cap] W (strPost a W))
    (hB : ∀ W, Below w.heap.size w W → Calls Tryz.prog 68 #[.slice (some ⟨g, off + k, none⟩) (N - k) (cap - k)] W (strPost b W))
    (hJ : ∀ W, Calls Tryz.prog 117 #[.string a, .string b] W (strPost h W)) :
    Calls Tryz.prog 68 #[.slice (some ⟨g, off, none⟩) N cap] w (strPost h w) := by
  have n0 : ((N : Int) == 0) = false := by rw [beq_eq_false_iff_ne]; omega
  have n1 : ((N : Int) == 1) = false := by rw [beq_eq_false_iff_ne]; omega
  have k1 : (k : Int) ≤ (N : Int) := by omega
  have k2 : (k : Int) ≤ (cap : Int) := by omega
  have k3 : ¬ cap = k := by omega
  have HA : Hid (∀ W, Below w.heap.size w W → Calls Tryz.prog 68 #[.slice (some ⟨g, off, none⟩) k cap] W (strPost a W)) := hA
  have HB : Hid (∀ W, Below w.heap.size w W → Calls Tryz.prog 68 #[.slice (some ⟨g, off + k, none⟩) (N - k) (cap - k)] W (strPost b W)) := hB
  have HJ : Hid (∀ W, Calls Tryz.prog 117 #[.string a, .string b] W (strPost h W)) := hJ
  clear hA hB hJ
  go_enter Tryz.func68, Tryz.ntmps68
  go_wp2_with (go_at_call 116; refine (hsp _).mono ?_; rintro e wx ⟨rfl, hwx⟩; obtain rfl : w = wx := hwx.symm; clear hwx)
  refine (HA.out w (Below.refl _ _)).mono ?_
  rintro e w1 ⟨rfl, hb1⟩
  go_wp2_with fail
  refine (HB.out w1 hb1).mono ?_
  rintro e w2 ⟨rfl, hb2⟩
  go_wp2_with fail
  refine (HJ.out w2).mono ?_
  rintro e w3 ⟨rfl, hb3⟩
  go_wp2_with fail
  go_ret
  have hB2 : Below w.heap.size w w2 := hb1.trans (hb2.mono hb1.size)
  exact ⟨rfl, hB2.trans (hb3.mono hB2.size)⟩

theorem rroot_any : ∀ (n : Nat) (ls : List ByteArray) (v : Value) (w : World), ls.length = n → n ≤ 1000000 → LeafAt w v ls → (∀ s ∈ ls, s.size ≤ 20000) → Calls Tryz.prog 68 #[v] w (strPost (rootF HR ls) w) := by
  intro n
  induction n using Nat.strongRecOn with
  | _ n ih =>
  intro ls v w hn hn1 hl hs
  by_cases h0 : n = 0
  · obtain rfl : ls = [] := List.eq_nil_of_length_eq_zero (by omega)
    obtain ⟨ao, cap, rfl⟩ := leaf_form hl
    exact rroot_nil ao cap w
  obtain ⟨g, off, cap, rfl, hcap, hc⟩ : ∃ g off cap, v = .slice (some ⟨g, off, none⟩) ls.length cap ∧ ls.length ≤ cap ∧ ∀ j (h : j < ls.length), w.cell? ⟨g, off + j, none⟩ = some (.string (ls[j]'h)) := by
    rcases hl with ⟨rfl, _⟩ | h
    · simp at hn; omega
    · exact h
  by_cases h1 : n = 1
  · obtain ⟨s, rfl⟩ : ∃ s, ls = [s] := List.length_eq_one_iff.1 (by omega)
    exact rroot_one g off cap s w (by have := hc 0 (by simp); simpa using this) (hs s (by simp))
  · have h2 : 2 ≤ ls.length := by omega
    have hk0 := halfN_pos ls.length
    have hk1 := halfN_lt h2
    have nT : (ls.take (halfN ls.length)).length = halfN ls.length := by simp; omega
    have nD : (ls.drop (halfN ls.length)).length = ls.length - halfN ls.length := by simp
    rw [rootF_more HR h2]
    exact rroot_more g off cap ls.length (halfN ls.length) _ _ _ w h2 (by omega) hk0 hk1 hcap (fun W => rsplit_any ls.length W h2 (by omega))
      (fun W hb => ih (halfN ls.length) (by omega) (ls.take (halfN ls.length)) _ W nT (by omega) ((leaf_take _ (by omega) hcap hc).below hb) (fun s hs' => hs s (List.mem_of_mem_take hs')))
      (fun W hb => ih (ls.length - halfN ls.length) (by omega) (ls.drop (halfN ls.length)) _ W nD (by omega) ((leaf_drop _ (by omega) hcap hc).below hb) (fun s hs' => hs s (List.mem_of_mem_drop hs')))
      (fun W => rjoined_any _ _ W (by rw [rootF_size HR HR_size]; omega) (by rw [rootF_size HR HR_size]; omega))

set_option maxRecDepth 10000 in
set_option maxHeartbeats 1000000 in
theorem rincl_left (g off cap N k i : Nat) (w : World) (F : List ByteArray) (R : ByteArray) (hN : 2 ≤ N) (hN1 : N ≤ 1000000) (hk0 : 0 < k) (hk1 : k < N) (hcap : N ≤ cap) (hFl : F.length ≤ N) (hik : i < k)
    (hsp : ∀ W, Calls Tryz.prog 116 #[.int .i64 N] W fun e w' => e = .returned (.int .i64 k) ∧ w' = W)
    (hP : ∀ W, Below w.heap.size w W → Calls Tryz.prog 72 #[.slice (some ⟨g, off, none⟩) k cap, .int .i64 i] W fun e w' => madeL W w' e F)
    (hR : ∀ W, Below w.heap.size w W → Calls Tryz.prog 68 #[.slice (some ⟨g, off + k, none⟩) (N - k) (cap - k)] W (strPost R W)) :
    Calls Tryz.prog 72 #[.slice (some ⟨g, off, none⟩) N cap, .int .i64 i] w fun e w' => madeL w w' e (F ++ [R]) := by
  obtain ⟨i0, hi, hz, hsz, hby⟩ := info_strT
  have k1 : (k : Int) ≤ (N : Int) := by omega
  have k2 : (k : Int) ≤ (cap : Int) := by omega
  have k3 : ¬ cap = k := by omega
  have n1 : ¬ (N : Int) ≤ 1 := by omega
  have ik : (i : Int) < (k : Int) := by omega
  have HP : Hid (∀ W, Below w.heap.size w W → Calls Tryz.prog 72 #[.slice (some ⟨g, off, none⟩) k cap, .int .i64 i] W fun e w' => madeL W w' e F) := hP
  have HRR : Hid (∀ W, Below w.heap.size w W → Calls Tryz.prog 68 #[.slice (some ⟨g, off + k, none⟩) (N - k) (cap - k)] W (strPost R W)) := hR
  clear hP hR
  go_enter Tryz.func72, Tryz.ntmps72
  go_wp2_with (go_at_call 116; refine (hsp _).mono ?_; rintro e wx ⟨rfl, hwx⟩; obtain rfl : w = wx := hwx.symm; clear hwx)
  refine (HP.out w (Below.refl _ _)).mono ?_
  rintro e w1 ⟨ao, cp, rfl, ho1, hb1⟩
  have ho1 : w1.ownsRow w.heap.size 9 1 (.slice ao F.length cp) F.length (F.map .string) := ho1
  go_wp2_with fail
  refine (HRR.out w1 hb1).mono ?_
  rintro e w2 ⟨rfl, hb2⟩
  have B2 : Below w.heap.size w w2 := hb1.trans (hb2.mono hb1.size)
  have ho2 := own_below' ho1 hb2
  have hb4 : Below w2.heap.size w2 (w2.alloc (.cells #[.string R] 9)) := (Below.refl _ _).alloc (Nat.le_refl _) _
  have B4 : Below w.heap.size w (w2.alloc (.cells #[.string R] 9)) := B2.trans (hb4.mono B2.size)
  have ho4 := own_below' ho2 hb4
  have hs4 := B4.size
  have HOL : Hid (∀ k, (Value.slice ao F.length cp).ownBlock = some k → w.heap.size ≤ k) := fun k hk => (ho4.lt k hk).1
  have hnews : ∀ j u, [Value.string R][j]? = some u → (w2.alloc (.cells #[.string R] 9)).cell? ((⟨w2.heap.size, 0, none⟩ : Addr).add j) = some u := World.news_of_block (heap_alloc_new w2 (.cells #[.string R] 9))
  clear ho1 ho2
  obtain ⟨M, hM⟩ : ∃ M, M = F.length := ⟨_, rfl⟩
  have HFM : Hid (F.length = M) := hM.symm
  rw [← hM] at ho4 hFl ⊢
  rw [← hM] at HOL
  clear hM
  go_wp2_with (refine wpList_append_lies _ rfl _ _ 30 rfl w.heap.size 9 i0 _ 1 16 Tryz.underlying30 hi hz hsz hby rfl (by decide) (.slice ao M cp) M _ rfl ho4 ⟨w2.heap.size, 0, none⟩ 1 1 [.string R] rfl rfl hnews (by simp [Value.oneCell']) (by decide) (by unfold maxLen; omega) (by omega) hs4 _ rfl ?_; intro g2 cap2 w5 ho5 hgr5 hat5 hlt5)
  go_ret
  refine ⟨some ⟨g2, 0, none⟩, cap2, ?_, ?_, B4.trans ((Below.refl _ _).grown hgr5 B4.size HOL.out)⟩
  · rw [show (F ++ [R]).length = M + 1 by rw [List.length_append, HFM.out]; rfl]; rfl
  · rw [show (F ++ [R]).length = M + 1 by rw [List.length_append, HFM.out]; rfl]
    simpa using ho5

set_option maxRecDepth 10000 in
set_option maxHeartbeats 1000000 in
theorem rincl_right (g off cap N k i : Nat) (w : World) (F : List ByteArray) (R : ByteArray) (hN : 2 ≤ N) (hN1 : N ≤ 1000000) (hk0 : 0 < k) (hk1 : k < N) (hcap : N ≤ cap) (hFl : F.length ≤ N) (hik : k ≤ i) (hiN : i < N)
    (hsp : ∀ W, Calls Tryz.prog 116 #[.int .i64 N] W fun e w' => e = .returned (.int .i64 k) ∧ w' = W)
    (hP : ∀ W, Below w.heap.size w W → Calls Tryz.prog 72 #[.slice (some ⟨g, off + k, none⟩) (N - k) (cap - k), .int .i64 ((i : Int) - (k : Int))] W fun e w' => madeL W w' e F)
    (hR : ∀ W, Below w.heap.size w W → Calls Tryz.prog 68 #[.slice (some ⟨g, off, none⟩) k cap] W (strPost R W)) :
    Calls Tryz.prog 72 #[.slice (some ⟨g, off, none⟩) N cap, .int .i64 i] w fun e w' => madeL w w' e (F ++ [R]) := by
  obtain ⟨i0, hi, hz, hsz, hby⟩ := info_strT
  have k1 : (k : Int) ≤ (N : Int) := by omega
  have k2 : (k : Int) ≤ (cap : Int) := by omega
  have k3 : ¬ cap = k := by omega
  have n1 : ¬ (N : Int) ≤ 1 := by omega
  have ik : ¬ (i : Int) < (k : Int) := by omega
  have ik2 : (i : Int) < (N : Int) := by omega
  have ik3 : (k : Int) ≤ (i : Int) := by omega
  have HP : Hid (∀ W, Below w.heap.size w W → Calls Tryz.prog 72 #[.slice (some ⟨g, off + k, none⟩) (N - k) (cap - k), .int .i64 ((i : Int) - (k : Int))] W fun e w' => madeL W w' e F) := hP
  have HRR : Hid (∀ W, Below w.heap.size w W → Calls Tryz.prog 68 #[.slice (some ⟨g, off, none⟩) k cap] W (strPost R W)) := hR
  clear hP hR
  go_enter Tryz.func72, Tryz.ntmps72
  go_wp2_with (go_at_call 116; refine (hsp _).mono ?_; rintro e wx ⟨rfl, hwx⟩; obtain rfl : w = wx := hwx.symm; clear hwx)
  refine (HP.out w (Below.refl _ _)).mono ?_
  rintro e w1 ⟨ao, cp, rfl, ho1, hb1⟩
  have ho1 : w1.ownsRow w.heap.size 9 1 (.slice ao F.length cp) F.length (F.map .string) := ho1
  go_wp2_with fail
  refine (HRR.out w1 hb1).mono ?_
  rintro e w2 ⟨rfl, hb2⟩
  have B2 : Below w.heap.size w w2 := hb1.trans (hb2.mono hb1.size)
  have ho2 := own_below' ho1 hb2
  have hb4 : Below w2.heap.size w2 (w2.alloc (.cells #[.string R] 9)) := (Below.refl _ _).alloc (Nat.le_refl _) _
  have B4 : Below w.heap.size w (w2.alloc (.cells #[.string R] 9)) := B2.trans (hb4.mono B2.size)
  have ho4 := own_below' ho2 hb4
  have hs4 := B4.size
  have HOL : Hid (∀ k, (Value.slice ao F.length cp).ownBlock = some k → w.heap.size ≤ k) := fun k hk => (ho4.lt k hk).1
  have hnews : ∀ j u, [Value.string R][j]? = some u → (w2.alloc (.cells #[.string R] 9)).cell? ((⟨w2.heap.size, 0, none⟩ : Addr).add j) = some u := World.news_of_block (heap_alloc_new w2 (.cells #[.string R] 9))
  clear ho1 ho2
  obtain ⟨M, hM⟩ : ∃ M, M = F.length := ⟨_, rfl⟩
  have HFM : Hid (F.length = M) := hM.symm
  rw [← hM] at ho4 hFl ⊢
  rw [← hM] at HOL
  clear hM
  go_wp2_with (refine wpList_append_lies _ rfl _ _ 30 rfl w.heap.size 9 i0 _ 1 16 Tryz.underlying30 hi hz hsz hby rfl (by decide) (.slice ao M cp) M _ rfl ho4 ⟨w2.heap.size, 0, none⟩ 1 1 [.string R] rfl rfl hnews (by simp [Value.oneCell']) (by decide) (by unfold maxLen; omega) (by omega) hs4 _ rfl ?_; intro g2 cap2 w5 ho5 hgr5 hat5 hlt5)
  go_ret
  refine ⟨some ⟨g2, 0, none⟩, cap2, ?_, ?_, B4.trans ((Below.refl _ _).grown hgr5 B4.size HOL.out)⟩
  · rw [show (F ++ [R]).length = M + 1 by rw [List.length_append, HFM.out]; rfl]; rfl
  · rw [show (F ++ [R]).length = M + 1 by rw [List.length_append, HFM.out]; rfl]
    simpa using ho5

set_option maxRecDepth 10000 in
set_option maxHeartbeats 1000000 in
theorem rcons_left (g off cap N k m : Nat) (whole : Bool) (w : World) (F : List ByteArray) (R : ByteArray) (hN : 2 ≤ N) (hN1 : N ≤ 1000000) (hk0 : 0 < k) (hk1 : k < N) (hcap : N ≤ cap) (hFl : F.length ≤ N) (hmk : m ≤ k)
    (hsp : ∀ W, Calls Tryz.prog 116 #[.int .i64 N] W fun e w' => e = .returned (.int .i64 k) ∧ w' = W)
    (hP : ∀ W, Below w.heap.size w W → Calls Tryz.prog 70 #[.slice (some ⟨g, off, none⟩) k cap, .int .i64 m, .bool whole] W fun e w' => madeL W w' e F)
    (hR : ∀ W, Below w.heap.size w W → Calls Tryz.prog 68 #[.slice (some ⟨g, off + k, none⟩) (N - k) (cap - k)] W (strPost R W)) :
    Calls Tryz.prog 70 #[.slice (some ⟨g, off, none⟩) N cap, .int .i64 m, .bool whole] w fun e w' => madeL w w' e (F ++ [R]) := by
  obtain ⟨i0, hi, hz, hsz, hby⟩ := info_strT
  have k1 : (k : Int) ≤ (N : Int) := by omega
  have k2 : (k : Int) ≤ (cap : Int) := by omega
  have k3 : ¬ cap = k := by omega
  have n1 : ((m : Int) == (N : Int)) = false := by rw [beq_eq_false_iff_ne]; omega
  have ik : (m : Int) ≤ (k : Int) := by omega
  have HP : Hid (∀ W, Below w.heap.size w W → Calls Tryz.prog 70 #[.slice (some ⟨g, off, none⟩) k cap, .int .i64 m, .bool whole] W fun e w' => madeL W w' e F) := hP
  have HRR : Hid (∀ W, Below w.heap.size w W → Calls Tryz.prog 68 #[.slice (some ⟨g, off + k, none⟩) (N - k) (cap - k)] W (strPost R W)) := hR
  clear hP hR
  go_enter Tryz.func70, Tryz.ntmps70
  go_wp2_with (go_at_call 116; refine (hsp _).mono ?_; rintro e wx ⟨rfl, hwx⟩; obtain rfl : w = wx := hwx.symm; clear hwx)
  refine (HP.out w (Below.refl _ _)).mono ?_
  rintro e w1 ⟨ao, cp, rfl, ho1, hb1⟩
  have ho1 : w1.ownsRow w.heap.size 9 1 (.slice ao F.length cp) F.length (F.map .string) := ho1
  go_wp2_with fail
  refine (HRR.out w1 hb1).mono ?_
  rintro e w2 ⟨rfl, hb2⟩
  have B2 : Below w.heap.size w w2 := hb1.trans (hb2.mono hb1.size)
  have ho2 := own_below' ho1 hb2
  have hb4 : Below w2.heap.size w2 (w2.alloc (.cells #[.string R] 9)) := (Below.refl _ _).alloc (Nat.le_refl _) _
  have B4 : Below w.heap.size w (w2.alloc (.cells #[.string R] 9)) := B2.trans (hb4.mono B2.size)
  have ho4 := own_below' ho2 hb4
  have hs4 := B4.size
  have HOL : Hid (∀ k, (Value.slice ao F.length cp).ownBlock = some k → w.heap.size ≤ k) := fun k hk => (ho4.lt k hk).1
  have hnews : ∀ j u, [Value.string R][j]? = some u → (w2.alloc (.cells #[.string R] 9)).cell? ((⟨w2.heap.size, 0, none⟩ : Addr).add j) = some u := World.news_of_block (heap_alloc_new w2 (.cells #[.string R] 9))
  clear ho1 ho2
  obtain ⟨M, hM⟩ : ∃ M, M = F.length := ⟨_, rfl⟩
  have HFM : Hid (F.length = M) := hM.symm
  rw [← hM] at ho4 hFl ⊢
  rw [← hM] at HOL
  clear hM
  go_wp2_with (refine wpList_append_lies _ rfl _ _ 30 rfl w.heap.size 9 i0 _ 1 16 Tryz.underlying30 hi hz hsz hby rfl (by decide) (.slice ao M cp) M _ rfl ho4 ⟨w2.heap.size, 0, none⟩ 1 1 [.string R] rfl rfl hnews (by simp [Value.oneCell']) (by decide) (by unfold maxLen; omega) (by omega) hs4 _ rfl ?_; intro g2 cap2 w5 ho5 hgr5 hat5 hlt5)
  go_ret
  refine ⟨some ⟨g2, 0, none⟩, cap2, ?_, ?_, B4.trans ((Below.refl _ _).grown hgr5 B4.size HOL.out)⟩
  · rw [show (F ++ [R]).length = M + 1 by rw [List.length_append, HFM.out]; rfl]; rfl
  · rw [show (F ++ [R]).length = M + 1 by rw [List.length_append, HFM.out]; rfl]
    simpa using ho5

set_option maxRecDepth 10000 in
set_option maxHeartbeats 1000000 in
theorem rcons_right (g off cap N k m : Nat) (whole : Bool) (w : World) (F : List ByteArray) (R : ByteArray) (hN : 2 ≤ N) (hN1 : N ≤ 1000000) (hk0 : 0 < k) (hk1 : k < N) (hcap : N ≤ cap) (hFl : F.length ≤ N) (hmk : k < m) (hmN : m < N)
    (hsp : ∀ W, Calls Tryz.prog 116 #[.int .i64 N] W fun e w' => e = .returned (.int .i64 k) ∧ w' = W)
    (hP : ∀ W, Below w.heap.size w W → Calls Tryz.prog 70 #[.slice (some ⟨g, off + k, none⟩) (N - k) (cap - k), .int .i64 ((m : Int) - (k : Int)), .bool false] W fun e w' => madeL W w' e F)
    (hR : ∀ W, Below w.heap.size w W → Calls Tryz.prog 68 #[.slice (some ⟨g, off, none⟩) k cap] W (strPost R W)) :
    Calls Tryz.prog 70 #[.slice (some ⟨g, off, none⟩) N cap, .int .i64 m, .bool whole] w fun e w' => madeL w w' e (F ++ [R]) := by
  obtain ⟨i0, hi, hz, hsz, hby⟩ := info_strT
  have k1 : (k : Int) ≤ (N : Int) := by omega
  have k2 : (k : Int) ≤ (cap : Int) := by omega
  have k3 : ¬ cap = k := by omega
  have n1 : ((m : Int) == (N : Int)) = false := by rw [beq_eq_false_iff_ne]; omega
  have ik : ¬ (m : Int) ≤ (k : Int) := by omega
  have ik2 : (m : Int) < (N : Int) := by omega
  have ik3 : (k : Int) < (m : Int) := by omega
  have HP : Hid (∀ W, Below w.heap.size w W → Calls Tryz.prog 70 #[.slice (some ⟨g, off + k, none⟩) (N - k) (cap - k), .int .i64 ((m : Int) - (k : Int)), .bool false] W fun e w' => madeL W w' e F) := hP
  have HRR : Hid (∀ W, Below w.heap.size w W → Calls Tryz.prog 68 #[.slice (some ⟨g, off, none⟩) k cap] W (strPost R W)) := hR
  clear hP hR
  go_enter Tryz.func70, Tryz.ntmps70
  go_wp2_with (go_at_call 116; refine (hsp _).mono ?_; rintro e wx ⟨rfl, hwx⟩; obtain rfl : w = wx := hwx.symm; clear hwx)
  refine (HP.out w (Below.refl _ _)).mono ?_
  rintro e w1 ⟨ao, cp, rfl, ho1, hb1⟩
  have ho1 : w1.ownsRow w.heap.size 9 1 (.slice ao F.length cp) F.length (F.map .string) := ho1
  go_wp2_with fail
  refine (HRR.out w1 hb1).mono ?_
  rintro e w2 ⟨rfl, hb2⟩
  have B2 : Below w.heap.size w w2 := hb1.trans (hb2.mono hb1.size)
  have ho2 := own_below' ho1 hb2
  have hb4 : Below w2.heap.size w2 (w2.alloc (.cells #[.string R] 9)) := (Below.refl _ _).alloc (Nat.le_refl _) _
  have B4 : Below w.heap.size w (w2.alloc (.cells #[.string R] 9)) := B2.trans (hb4.mono B2.size)
  have ho4 := own_below' ho2 hb4
  have hs4 := B4.size
  have HOL : Hid (∀ k, (Value.slice ao F.length cp).ownBlock = some k → w.heap.size ≤ k) := fun k hk => (ho4.lt k hk).1
  have hnews : ∀ j u, [Value.string R][j]? = some u → (w2.alloc (.cells #[.string R] 9)).cell? ((⟨w2.heap.size, 0, none⟩ : Addr).add j) = some u := World.news_of_block (heap_alloc_new w2 (.cells #[.string R] 9))
  clear ho1 ho2
  obtain ⟨M, hM⟩ : ∃ M, M = F.length := ⟨_, rfl⟩
  have HFM : Hid (F.length = M) := hM.symm
  rw [← hM] at ho4 hFl ⊢
  rw [← hM] at HOL
  clear hM
  go_wp2_with (refine wpList_append_lies _ rfl _ _ 30 rfl w.heap.size 9 i0 _ 1 16 Tryz.underlying30 hi hz hsz hby rfl (by decide) (.slice ao M cp) M _ rfl ho4 ⟨w2.heap.size, 0, none⟩ 1 1 [.string R] rfl rfl hnews (by simp [Value.oneCell']) (by decide) (by unfold maxLen; omega) (by omega) hs4 _ rfl ?_; intro g2 cap2 w5 ho5 hgr5 hat5 hlt5)
  go_ret
  refine ⟨some ⟨g2, 0, none⟩, cap2, ?_, ?_, B4.trans ((Below.refl _ _).grown hgr5 B4.size HOL.out)⟩
  · rw [show (F ++ [R]).length = M + 1 by rw [List.length_append, HFM.out]; rfl]; rfl
  · rw [show (F ++ [R]).length = M + 1 by rw [List.length_append, HFM.out]; rfl]
    simpa using ho5

set_option maxRecDepth 10000 in
set_option maxHeartbeats 400000 in
theorem rincl_one (ao : Option Addr) (N cap i : Nat) (w : World) (hN : N ≤ 1) : Calls Tryz.prog 72 #[.slice ao N cap, .int .i64 i] w fun e w' => madeL w w' e [] := by
  have n1 : (N : Int) ≤ 1 := by omega
  go_enter Tryz.func72, Tryz.ntmps72
  go_wp2_with fail
  go_ret
  exact ⟨none, 0, rfl, World.ownsRow_nil _ _ _ _, Below.refl _ _⟩
theorem rincl_any : ∀ (n : Nat) (ls : List ByteArray) (v : Value) (i : Nat) (w : World), ls.length = n → i < n → n ≤ 1000000 → LeafAt w v ls → (∀ s ∈ ls, s.size ≤ 20000) →
    Calls Tryz.prog 72 #[v, .int .i64 i] w fun e w' => madeL w w' e (inclF HR ls i) := by
  intro n
  induction n using Nat.strongRecOn with
  | _ n ih =>
  intro ls v i w hn hin hn1 hl hs
  by_cases h1 : n = 1
  · rw [inclF_one HR (by omega)]
    obtain ⟨ao, cap, rfl⟩ := leaf_form hl
    exact rincl_one ao ls.length cap i w (by omega)
  · obtain ⟨g, off, cap, rfl, hcap, hc⟩ : ∃ g off cap, v = .slice (some ⟨g, off, none⟩) ls.length cap ∧ ls.length ≤ cap ∧ ∀ j (h : j < ls.length), w.cell? ⟨g, off + j, none⟩ = some (.string (ls[j]'h)) := by
      rcases hl with ⟨rfl, _⟩ | h
      · simp at hn; omega
      · exact h
    have h2 : 2 ≤ ls.length := by omega
    have hk0 := halfN_pos ls.length
    have hk1 := halfN_lt h2
    have lT : ∀ W, Below w.heap.size w W → LeafAt W (.slice (some ⟨g, off, none⟩) (halfN ls.length) cap) (ls.take (halfN ls.length)) := fun W J => (leaf_take _ (by omega) hcap hc).below J
    have lD : ∀ W, Below w.heap.size w W → LeafAt W (.slice (some ⟨g, off + halfN ls.length, none⟩) (ls.length - halfN ls.length) (cap - halfN ls.length)) (ls.drop (halfN ls.length)) := fun W J => (leaf_drop _ (by omega) hcap hc).below J
    have sT : ∀ s ∈ ls.take (halfN ls.length), s.size ≤ 20000 := fun s hs' => hs s (List.mem_of_mem_take hs')
    have sD : ∀ s ∈ ls.drop (halfN ls.length), s.size ≤ 20000 := fun s hs' => hs s (List.mem_of_mem_drop hs')
    have nT : (ls.take (halfN ls.length)).length = halfN ls.length := by simp; omega
    have nD : (ls.drop (halfN ls.length)).length = ls.length - halfN ls.length := by simp
    by_cases hik : i < halfN ls.length
    · rw [inclF_left HR h2 hik]
      exact rincl_left g off cap ls.length (halfN ls.length) i w _ _ h2 (by omega) hk0 hk1 hcap (by have := inclF_len HR _ (ls.take (halfN ls.length)) i nT; omega) hik (fun W => rsplit_any ls.length W h2 (by omega))
        (fun W J => ih (halfN ls.length) (by omega) (ls.take (halfN ls.length)) _ i W nT hik (by omega) (lT W J) sT)
        (fun W J => rroot_any _ (ls.drop (halfN ls.length)) _ W nD (by omega) (lD W J) sD)
    · rw [inclF_right HR h2 hik]
      exact rincl_right g off cap ls.length (halfN ls.length) i w _ _ h2 (by omega) hk0 hk1 hcap (by have := inclF_len HR _ (ls.drop (halfN ls.length)) (i - halfN ls.length) nD; omega) (by omega) (by omega) (fun W => rsplit_any ls.length W h2 (by omega))
        (fun W J => by
          have := ih (ls.length - halfN ls.length) (by omega) (ls.drop (halfN ls.length)) _ (i - halfN ls.length) W nD (by omega) (by omega) (lD W J) sD
          rw [show ((i - halfN ls.length : Nat) : Int) = (i : Int) - (halfN ls.length : Int) by omega] at this
          exact this)
        (fun W J => rroot_any _ (ls.take (halfN ls.length)) _ W nT (by omega) (lT W J) sT)

set_option maxRecDepth 10000 in
set_option maxHeartbeats 400000 in
theorem rcons_known (ao : Option Addr) (cap N : Nat) (w : World) : Calls Tryz.prog 70 #[.slice ao N cap, .int .i64 N, .bool true] w fun e w' => madeL w w' e [] := by
  go_enter Tryz.func70, Tryz.ntmps70
  go_wp2_with fail
  go_ret
  exact ⟨none, 0, rfl, World.ownsRow_nil _ _ _ _, Below.refl _ _⟩

set_option maxRecDepth 10000 in
set_option maxHeartbeats 400000 in
theorem rcons_all (ao : Option Addr) (cap N : Nat) (w : World) (R : ByteArray)
    (hR : Calls Tryz.prog 68 #[.slice ao N cap] w (strPost R w)) :
    Calls Tryz.prog 70 #[.slice ao N cap, .int .i64 N, .bool false] w fun e w' => madeL w w' e [R] := by
  go_enter Tryz.func70, Tryz.ntmps70
  go_wp2_with fail
  refine hR.mono ?_
  rintro e w2 ⟨rfl, hB2⟩
  clear hR
  have hB3 : Below w.heap.size w (w2.alloc (.cells #[.string R] 9)) := hB2.alloc hB2.size _
  have ho : (w2.alloc (.cells #[.string R] 9)).ownsRow w.heap.size 9 1 (.slice (some ⟨w2.heap.size, 0, none⟩) 1 1) 1 [.string R] := World.ownsRow_lit w2 #[.string R] 1 hB2.size (by unfold maxLen; omega) rfl
  go_wp2_with fail
  go_ret
  exact ⟨_, _, rfl, ho, hB3⟩
theorem rcons_any : ∀ (n : Nat) (ls : List ByteArray) (v : Value) (m : Nat) (whole : Bool) (w : World), ls.length = n → 0 < m → m ≤ n → n ≤ 1000000 → LeafAt w v ls → (∀ s ∈ ls, s.size ≤ 20000) →
    Calls Tryz.prog 70 #[v, .int .i64 m, .bool whole] w fun e w' => madeL w w' e (grownF HR ls m whole) := by
  intro n
  induction n using Nat.strongRecOn with
  | _ n ih =>
  intro ls v m whole w hn hm0 hmn hn1 hl hs
  by_cases h1 : m = n
  · rw [grownF_all _ whole (by omega)]
    have hr := rroot_any _ ls v w hn (by omega) hl hs
    obtain ⟨ao, cap, rfl⟩ := leaf_form hl
    rw [h1, ← hn]
    cases whole
    · exact rcons_all ao cap ls.length w _ hr
    · exact rcons_known ao cap ls.length w
  · obtain ⟨g, off, cap, rfl, hcap, hc⟩ : ∃ g off cap, v = .slice (some ⟨g, off, none⟩) ls.length cap ∧ ls.length ≤ cap ∧ ∀ j (h : j < ls.length), w.cell? ⟨g, off + j, none⟩ = some (.string (ls[j]'h)) := by
      rcases hl with ⟨rfl, _⟩ | h
      · simp at hn; omega
      · exact h
    have h2 : 2 ≤ ls.length := by omega
    have hk0 := halfN_pos ls.length
    have hk1 := halfN_lt h2
    have lT : ∀ W, Below w.heap.size w W → LeafAt W (.slice (some ⟨g, off, none⟩) (halfN ls.length) cap) (ls.take (halfN ls.length)) := fun W J => (leaf_take _ (by omega) hcap hc).below J
    have lD : ∀ W, Below w.heap.size w W → LeafAt W (.slice (some ⟨g, off + halfN ls.length, none⟩) (ls.length - halfN ls.length) (cap - halfN ls.length)) (ls.drop (halfN ls.length)) := fun W J => (leaf_drop _ (by omega) hcap hc).below J
    have sT : ∀ s ∈ ls.take (halfN ls.length), s.size ≤ 20000 := fun s hs' => hs s (List.mem_of_mem_take hs')
    have sD : ∀ s ∈ ls.drop (halfN ls.length), s.size ≤ 20000 := fun s hs' => hs s (List.mem_of_mem_drop hs')
    have nT : (ls.take (halfN ls.length)).length = halfN ls.length := by simp; omega
    have nD : (ls.drop (halfN ls.length)).length = ls.length - halfN ls.length := by simp
    by_cases hik : m ≤ halfN ls.length
    · rw [grownF_left HR whole hm0 (by omega) hik]
      exact rcons_left g off cap ls.length (halfN ls.length) m whole w _ _ h2 (by omega) hk0 hk1 hcap (by have := grownF_len HR _ _ m whole nT hm0 hik; omega) hik (fun W => rsplit_any ls.length W h2 (by omega))
        (fun W J => ih (halfN ls.length) (by omega) (ls.take (halfN ls.length)) _ m whole W nT hm0 hik (by omega) (lT W J) sT)
        (fun W J => rroot_any _ (ls.drop (halfN ls.length)) _ W nD (by omega) (lD W J) sD)
    · rw [grownF_right HR whole hm0 (by omega) hik]
      exact rcons_right g off cap ls.length (halfN ls.length) m whole w _ _ h2 (by omega) hk0 hk1 hcap (by have := grownF_len HR _ _ (m - halfN ls.length) false nD (by omega) (by omega); omega) (by omega) (by omega) (fun W => rsplit_any ls.length W h2 (by omega))
        (fun W J => by
          have := ih (ls.length - halfN ls.length) (by omega) (ls.drop (halfN ls.length)) _ (m - halfN ls.length) false W nD (by omega) (by omega) (by omega) (lD W J) sD
          rw [show ((m - halfN ls.length : Nat) : Int) = (m : Int) - (halfN ls.length : Int) by omega] at this
          exact this)
        (fun W J => rroot_any _ (ls.take (halfN ls.length)) _ W nT (by omega) (lT W J) sT)
end Go.Proofs.YtijdnpoenpjnlaaGreatDoor
set_option linter.unusedVariables false
set_option linter.unusedSimpArgs false
namespace Go.Proofs.YtijdnpoenpjnlaaGreatDoor
open Go.RowKit

/-- The hash of no text. -/
theorem of_none (K : Nat → Int) (w : World) (T : Tab K w) : Calls Tryz.prog 54 #[.slice none 0 0] w fun e w' => e = .returned (.agg (hV (sumOf K ⟨#[]⟩)).toArray) ∧ Below w.heap.size w w' := by
  have := of_gen [] none 0 K w (by simp) (by simp [joinN]) (textsAt_nil w none) T.lt T.cells
  rw [hV_sum K (joinN []) ⟨#[]⟩ (by simp [joinN, numsOf])] at this
  exact this

set_option maxRecDepth 10000 in
set_option maxHeartbeats 1000000 in
theorem root_nil (K : Nat → Int) (ao : Option Addr) (cap : Nat) (w : World) (T : Tab K w) :
    Calls Tryz.prog 115 #[.slice ao 0 cap] w fun e w' => e = .returned (.agg (hV (rootF (sumOf K) [])).toArray) ∧ Below w.heap.size w w' := by
  have J0 := rs_new w
  have hr1 := of_none K (w.alloc (.cells z32.toArray 90)) (T.below ((Below.refl _ _).alloc (Nat.le_refl _) _))
  rw [show sumOf K ⟨#[]⟩ = rootF (sumOf K) [] by rw [rootF]] at hr1
  have h32 := rootF_size (sumOf K) (sumOf_size K) []
  generalize rootF (sumOf K) [] = h at *
  clear T
  go_enter Tryz.func115, Tryz.ntmps115
  go_wp2_with (first | (refine wpList_alloc_of rfl 90 rfl z32.toArray alloc_32 ?_))
  refine hr1.mono ?_
  rintro e w1 ⟨rfl, hb1⟩
  have J1 := J0.step hb1
  have ht : w1.there w.heap.size 0 (hV h).length := by rw [hV_len h32]; exact J1.t
  go_wp2_with (refine wpList_store_abs rfl 90 _ _ rfl w.heap.size 0 (hV h) rfl rfl ht (hV_info h32) (hV_one h) ?_; intro w2 _hw2 hr2 _ht2 hb2; clear _hw2 _ht2)
  exact ret_cell rfl w.heap.size 0 (hV h) _ rfl hr2 Tryz.underlying90 rfl (hV_info h32) rfl ⟨rfl, J1.b.trans (hb2 _ (Nat.le_refl _))⟩

theorem root_all (K : Nat → Int) (ls : List ByteArray) (v : Value) (w : World) (hn1 : ls.length ≤ 2147483647) (hl : LeafAt w v ls) (hs : ∀ s ∈ ls, s.size ≤ 140737488355000) (T : Tab K w) :
    Calls Tryz.prog 115 #[v] w fun e w' => e = .returned (.agg (hV (rootF (sumOf K) ls)).toArray) ∧ Below w.heap.size w w' := by
  by_cases h0 : ls = []
  · subst h0
    obtain ⟨ao, cap, rfl⟩ := leaf_form hl
    exact root_nil K ao cap w T
  · exact root_any K _ ls v w rfl (List.length_pos_iff.2 h0) hn1 hl hs T

set_option maxRecDepth 10000 in
set_option maxHeartbeats 400000 in
/-- The program's Root, of any leaves. -/
theorem aroot_all (K : Nat → Int) (ls : List ByteArray) (v : Value) (w : World) (hn1 : ls.length ≤ 2147483647) (hl : LeafAt w v ls) (hs : ∀ s ∈ ls, s.size ≤ 140737488355000) (T : Tab K w) :
    Calls Tryz.prog 66 #[v] w fun e w' => e = .returned (.string (rootF (sumOf K) ls)) ∧ Below w.heap.size w w' := by
  have hr := root_all K ls v w hn1 hl hs T
  have htx := htx_any (rootF (sumOf K) ls) (rootF_size (sumOf K) (sumOf_size K) ls)
  obtain ⟨ao, cap, rfl⟩ := leaf_form hl
  generalize rootF (sumOf K) ls = R at *
  clear hl hs T
  generalize ls.length = N at *
  go_enter Tryz.func66, Tryz.ntmps66
  go_wp2_with fail
  refine hr.mono ?_
  rintro e w1 ⟨rfl, hb1⟩
  clear hr
  go_wp2_with fail
  refine (htx w1).mono ?_
  rintro e w2 ⟨rfl, hb2⟩
  clear htx
  go_wp2_with fail
  go_ret
  exact ⟨rfl, hb1.trans (hb2.mono hb1.size)⟩
end Go.Proofs.YtijdnpoenpjnlaaGreatDoor
set_option linter.unusedVariables false
set_option linter.unusedSimpArgs false
namespace Go.Proofs.YtijdnpoenpjnlaaGreatDoor
open Go.RowKit

set_option maxRecDepth 10000 in
set_option maxHeartbeats 400000 in
theorem grown_known (ao : Option Addr) (cap N : Nat) (w : World) : Calls Tryz.prog 165 #[.slice ao N cap, .int .i64 N, .bool true] w fun e w' => madeL w w' e [] := by
  go_enter Tryz.func165, Tryz.ntmps165
  go_wp2_with fail
  go_ret
  exact ⟨none, 0, rfl, World.ownsRow_nil _ _ _ _, Below.refl _ _⟩

set_option maxRecDepth 10000 in
set_option maxHeartbeats 400000 in
theorem grown_all (ao : Option Addr) (cap N : Nat) (w : World) (R : ByteArray)
    (hR : Calls Tryz.prog 115 #[.slice ao N cap] w fun e w' => e = .returned (.agg (hV R).toArray) ∧ Below w.heap.size w w')
    (htx : ∀ W, Calls Tryz.prog 55 #[.agg (hV R).toArray] W fun e w' => e = .returned (.string R) ∧ Below W.heap.size W w') :
    Calls Tryz.prog 165 #[.slice ao N cap, .int .i64 N, .bool false] w fun e w' => madeL w w' e [R] := by
  go_enter Tryz.func165, Tryz.ntmps165
  go_wp2_with fail
  refine hR.mono ?_
  rintro e w1 ⟨rfl, hb1⟩
  go_wp2_with fail
  refine (htx _).mono ?_
  rintro e w2 ⟨rfl, hb2⟩
  clear hR htx
  have hB2 : Below w.heap.size w w2 := hb1.trans (hb2.mono hb1.size)
  have hB3 : Below w.heap.size w (w2.alloc (.cells #[.string R] 9)) := hB2.alloc hB2.size _
  have ho : (w2.alloc (.cells #[.string R] 9)).ownsRow w.heap.size 9 1 (.slice (some ⟨w2.heap.size, 0, none⟩) 1 1) 1 [.string R] := World.ownsRow_lit w2 #[.string R] 1 hB2.size (by unfold maxLen; omega) rfl
  go_wp2_with fail
  go_ret
  exact ⟨_, _, rfl, ho, hB3⟩

set_option maxRecDepth 10000 in
set_option maxHeartbeats 1000000 in
theorem grown_left (g off cap N k m : Nat) (whole : Bool) (w : World) (F : List ByteArray) (R : ByteArray) (hN : N ≤ 2147483647) (hk0 : 0 < k) (hk1 : k < N) (hcap : N ≤ cap) (hmk : m ≤ k) (hFl : F.length ≤ k)
    (hsp : Calls Tryz.prog 163 #[.int .i64 N] w fun e w' => e = .returned (.int .i64 k) ∧ w' = w)
    (hP : ∀ W, Below w.heap.size w W → Calls Tryz.prog 165 #[.slice (some ⟨g, off, none⟩) k cap, .int .i64 m, .bool whole] W fun e w' => madeL W w' e F)
    (hR : ∀ W, Below w.heap.size w W → Calls Tryz.prog 115 #[.slice (some ⟨g, off + k, none⟩) (N - k) (cap - k)] W fun e w' => e = .returned (.agg (hV R).toArray) ∧ Below W.heap.size W w')
    (htx : ∀ W, Calls Tryz.prog 55 #[.agg (hV R).toArray] W fun e w' => e = .returned (.string R) ∧ Below W.heap.size W w') :
    Calls Tryz.prog 165 #[.slice (some ⟨g, off, none⟩) N cap, .int .i64 m, .bool whole] w fun e w' => madeL w w' e (F ++ [R]) := by
  obtain ⟨i0, hi, hz, hsz, hby⟩ := info_strT
  have k1 : (k : Int) ≤ (N : Int) := by omega
  have k2 : (k : Int) ≤ (cap : Int) := by omega
  have k3 : ¬ cap = k := by omega
  have n1 : ((m : Int) == (N : Int)) = false := by rw [beq_eq_false_iff_ne]; omega
  have ik : (m : Int) ≤ (k : Int) := by omega
  have HP : Hid (∀ W, Below w.heap.size w W → Calls Tryz.prog 165 #[.slice (some ⟨g, off, none⟩) k cap, .int .i64 m, .bool whole] W fun e w' => madeL W w' e F) := hP
  have HR : Hid (∀ W, Below w.heap.size w W → Calls Tryz.prog 115 #[.slice (some ⟨g, off + k, none⟩) (N - k) (cap - k)] W fun e w' => e = .returned (.agg (hV R).toArray) ∧ Below W.heap.size W w') := hR
  have HX : Hid (∀ W, Calls Tryz.prog 55 #[.agg (hV R).toArray] W fun e w' => e = .returned (.string R) ∧ Below W.heap.size W w') := htx
  clear hP hR htx
  go_enter Tryz.func165, Tryz.ntmps165
  go_wp2_with fail
  refine hsp.mono ?_
  rintro e w0 ⟨rfl, hw0⟩
  obtain rfl : w = w0 := hw0.symm
  clear hw0 hsp
  go_wp2_with fail
  have B0 : Below w.heap.size w w.drew := (Below.refl _ _).drew
  refine wp_region_noPanic ?_
  refine wp_region_held_drew (S := fun w' => Below w.heap.size w w') (by kernel_rfl) B0 (fun _ => ?_)
  refine wpAnyH_take (i := 0) (v := ?_) rfl (by kernel_rfl) (by kernel_rfl) (by kernel_rfl) (fun _ _ _ h => h) (Or.inl ⟨by rfl, ?_⟩) B0 ?_
  rotate_left 1
  · intro w hSw; clear hSw; go_simp; try with_reducible rfl
  simp only [List.getElem_toArray, List.getElem_cons_zero, List.getElem_cons_succ, Act.put, List.setIfInBounds_toArray, List.set_cons_zero, List.set_cons_succ]
  refine wpAnyH_take (i := 1) (v := ?_) rfl (by kernel_rfl) (by kernel_rfl) (by kernel_rfl) (fun _ _ _ h => h) (Or.inl ⟨by rfl, ?_⟩) B0 ?_
  rotate_left 1
  · intro w hSw; clear hSw; go_simp; try with_reducible rfl
  simp only [List.getElem_toArray, List.getElem_cons_zero, List.getElem_cons_succ, Act.put, List.setIfInBounds_toArray, List.set_cons_zero, List.set_cons_succ]
  refine wpAnyH_take (i := 2) (v := ?_) rfl (by kernel_rfl) (by kernel_rfl) (by kernel_rfl) (fun _ _ _ h => h) (Or.inl ⟨by rfl, ?_⟩) B0 ?_
  rotate_left 1
  · intro w hSw; clear hSw; go_simp; try with_reducible rfl
  simp only [List.getElem_toArray, List.getElem_cons_zero, List.getElem_cons_succ, Act.put, List.setIfInBounds_toArray, List.set_cons_zero, List.set_cons_succ]
  refine wpAnyH_take (i := 3) (v := ?_) rfl (by kernel_rfl) (by kernel_rfl) (by kernel_rfl) (fun _ _ _ h => h) (Or.inl ⟨by rfl, ?_⟩) B0 ?_
  rotate_left 1
  · intro w hSw; clear hSw; go_simp; try with_reducible rfl
  simp only [List.getElem_toArray, List.getElem_cons_zero, List.getElem_cons_succ, Act.put, List.setIfInBounds_toArray, List.set_cons_zero, List.set_cons_succ]
  refine wpAnyH_take (i := 4) (v := ?_) rfl (by kernel_rfl) (by kernel_rfl) (by kernel_rfl) (fun _ _ _ h => h) (Or.inl ⟨by rfl, ?_⟩) B0 ?_
  rotate_left 1
  · intro w hSw; clear hSw; go_simp; try with_reducible rfl
  simp only [List.getElem_toArray, List.getElem_cons_zero, List.getElem_cons_succ, Act.put, List.setIfInBounds_toArray, List.set_cons_zero, List.set_cons_succ]
  refine wpAnyH_take (i := 6) (v := ?_) rfl (by kernel_rfl) (by kernel_rfl) (by kernel_rfl) (fun _ _ _ h => h) (Or.inl ⟨by rfl, ?_⟩) B0 ?_
  rotate_left 1
  · intro w hSw; clear hSw; go_simp; try with_reducible rfl
  simp only [List.getElem_toArray, List.getElem_cons_zero, List.getElem_cons_succ, Act.put, List.setIfInBounds_toArray, List.set_cons_zero, List.set_cons_succ]
  refine wpAnyH_take (i := 7) (v := ?_) rfl (by kernel_rfl) (by kernel_rfl) (by kernel_rfl) (fun _ _ _ h => h) (Or.inl ⟨by rfl, ?_⟩) B0 ?_
  rotate_left 1
  · intro w hSw; clear hSw; go_simp; try with_reducible rfl
  simp only [List.getElem_toArray, List.getElem_cons_zero, List.getElem_cons_succ, Act.put, List.setIfInBounds_toArray, List.set_cons_zero, List.set_cons_succ]
  refine wpAnyH_take (i := 8) (v := ?_) rfl (by kernel_rfl) (by kernel_rfl) (by kernel_rfl) (fun _ _ _ h => h) (Or.inl ⟨by rfl, ?_⟩) B0 ?_
  rotate_left 1
  · intro w hSw; clear hSw; go_simp; try with_reducible rfl
  simp only [List.getElem_toArray, List.getElem_cons_zero, List.getElem_cons_succ, Act.put, List.setIfInBounds_toArray, List.set_cons_zero, List.set_cons_succ]
  refine wpAnyH_ready (rs := [5]) (by kernel_rfl) (by simp) ?_
  refine AllReadyH.cons rfl (fun K hK => ?_) AllReadyH.nil
  rw [if_pos (by rfl)]
  go_simp
  refine (HP.out _ B0).mono ?_
  rintro e w1 ⟨ao, cp, rfl, ho1, hb1⟩
  have B1 : Below w.heap.size w w1 := B0.trans (hb1.mono (Nat.le_refl _))
  have ho1 : w1.ownsRow w.heap.size 9 1 (.slice ao F.length cp) F.length (F.map .string) := ho1
  refine hK.out _ _ B1 (fun _ => ?_)
  clear hK K
  try simp only [List.getElem_toArray, List.getElem_cons_zero, List.getElem_cons_succ, Act.put, List.setIfInBounds_toArray, List.set_cons_zero, List.set_cons_succ]
  refine wpAnyH_ready (rs := [9]) (by kernel_rfl) (by simp) ?_
  refine AllReadyH.cons rfl (fun K hK => ?_) AllReadyH.nil
  rw [if_pos (by rfl)]
  go_simp
  refine (HR.out _ B1).mono ?_
  rintro e w2 ⟨rfl, hb2⟩
  have B2 : Below w.heap.size w w2 := B1.trans (hb2.mono B1.size)
  have ho2 := own_below' ho1 hb2
  refine hK.out _ _ B2 (fun _ => ?_)
  clear hK K
  try simp only [List.getElem_toArray, List.getElem_cons_zero, List.getElem_cons_succ, Act.put, List.setIfInBounds_toArray, List.set_cons_zero, List.set_cons_succ]
  refine wpAnyH_ready (rs := [10]) (by kernel_rfl) (by simp) ?_
  refine AllReadyH.cons rfl (fun K hK => ?_) AllReadyH.nil
  rw [if_pos (by rfl)]
  go_simp
  refine (HX.out _).mono ?_
  rintro e w3 ⟨rfl, hb3⟩
  have B3 : Below w.heap.size w w3 := B2.trans (hb3.mono B2.size)
  have ho3 := own_below' ho2 hb3
  refine hK.out _ _ B3 (fun _ => ?_)
  clear hK K
  try simp only [List.getElem_toArray, List.getElem_cons_zero, List.getElem_cons_succ, Act.put, List.setIfInBounds_toArray, List.set_cons_zero, List.set_cons_succ]
  refine wpAnyH_ready (rs := [11]) (by kernel_rfl) (by simp) ?_
  refine AllReadyH.cons rfl (fun K hK => ?_) AllReadyH.nil
  rw [if_pos (by rfl)]
  go_simp
  have hb4 : Below w3.heap.size w3 (w3.alloc (.cells #[.string R] 9)) := (Below.refl _ _).alloc (Nat.le_refl _) _
  have B4 : Below w.heap.size w (w3.alloc (.cells #[.string R] 9)) := B3.trans (hb4.mono B3.size)
  have ho4 := own_below' ho3 hb4
  have hnews : ∀ j u, [Value.string R][j]? = some u → (w3.alloc (.cells #[.string R] 9)).cell? ((⟨w3.heap.size, 0, none⟩ : Addr).add j) = some u := World.news_of_block (heap_alloc_new w3 (.cells #[.string R] 9))
  refine hK.out _ _ B4 (fun _ => ?_)
  clear hK K
  try simp only [List.getElem_toArray, List.getElem_cons_zero, List.getElem_cons_succ, Act.put, List.setIfInBounds_toArray, List.set_cons_zero, List.set_cons_succ]
  refine wpAnyH_ready (rs := [12]) (by kernel_rfl) (by simp) ?_
  refine AllReadyH.cons rfl (fun K hK => ?_) AllReadyH.nil
  rw [if_pos (by rfl)]
  refine wp_append_lies _ (.tmp 28) (.tmp 34) 30 rfl w.heap.size 9 i0 _ 1 16 Tryz.underlying30 hi hz hsz hby rfl (by decide) (.slice ao F.length cp) F.length _ rfl ho4 ⟨w3.heap.size, 0, none⟩ 1 1 [.string R] rfl rfl hnews (by simp [Value.oneCell']) (by decide) (by unfold maxLen; omega) (by omega) B4.size _ rfl ?_
  intro g2 cap2 w5 ho5 hgr5 hat5 hlt5
  have B5 : Below w.heap.size w w5 := B4.trans ((Below.refl _ _).grown hgr5 B4.size (fun k hk => (ho4.lt k hk).1))
  refine hK.out _ _ B5 (fun _ => ?_)
  clear hK K
  try simp only [List.getElem_toArray, List.getElem_cons_zero, List.getElem_cons_succ, Act.put, List.setIfInBounds_toArray, List.set_cons_zero, List.set_cons_succ]
  refine wpAnyH_ready (rs := [13]) (by kernel_rfl) (by simp) ?_
  refine AllReadyH.cons rfl (fun K hK => ?_) AllReadyH.nil
  rw [if_pos (by rfl)]
  go_simp
  refine hK.out _ _ B5 (fun _ => ?_)
  clear hK K
  refine ⟨by kernel_rfl, ?_⟩
  refine NoPanic.normal ?_
  try simp only [List.getElem_toArray, List.getElem_cons_zero, List.getElem_cons_succ, Act.put, List.setIfInBounds_toArray, List.set_cons_zero, List.set_cons_succ]
  go_wp2_with fail
  go_ret
  refine ⟨some ⟨g2, 0, none⟩, cap2, by simp, by simpa using ho5, B5⟩

set_option maxRecDepth 10000 in
set_option maxHeartbeats 1000000 in
theorem grown_right (g off cap N k m : Nat) (whole : Bool) (w : World) (F : List ByteArray) (R : ByteArray) (hN : N ≤ 2147483647) (hk0 : 0 < k) (hk1 : k < N) (hcap : N ≤ cap) (hmk : k < m) (hmN : m < N) (hFl : F.length ≤ N - k)
    (hsp : Calls Tryz.prog 163 #[.int .i64 N] w fun e w' => e = .returned (.int .i64 k) ∧ w' = w)
    (hP : ∀ W, Below w.heap.size w W → Calls Tryz.prog 165 #[.slice (some ⟨g, off + k, none⟩) (N - k) (cap - k), .int .i64 ((m : Int) - (k : Int)), .bool false] W fun e w' => madeL W w' e F)
    (hR : ∀ W, Below w.heap.size w W → Calls Tryz.prog 115 #[.slice (some ⟨g, off, none⟩) k cap] W fun e w' => e = .returned (.agg (hV R).toArray) ∧ Below W.heap.size W w')
    (htx : ∀ W, Calls Tryz.prog 55 #[.agg (hV R).toArray] W fun e w' => e = .returned (.string R) ∧ Below W.heap.size W w') :
    Calls Tryz.prog 165 #[.slice (some ⟨g, off, none⟩) N cap, .int .i64 m, .bool whole] w fun e w' => madeL w w' e (F ++ [R]) := by
  obtain ⟨i0, hi, hz, hsz, hby⟩ := info_strT
  have k1 : (k : Int) ≤ (N : Int) := by omega
  have k2 : (k : Int) ≤ (cap : Int) := by omega
  have k3 : ¬ cap = k := by omega
  have n1 : ((m : Int) == (N : Int)) = false := by rw [beq_eq_false_iff_ne]; omega
  have ik : ¬ (m : Int) ≤ (k : Int) := by omega
  have ik2 : (m : Int) < (N : Int) := by omega
  have ik3 : (k : Int) < (m : Int) := by omega
  have hwr : IntKind.i64.wrap ((m : Int) - (k : Int)) = (m : Int) - (k : Int) := wrap_small _ (by omega) (by omega)
  have HP : Hid (∀ W, Below w.heap.size w W → Calls Tryz.prog 165 #[.slice (some ⟨g, off + k, none⟩) (N - k) (cap - k), .int .i64 ((m : Int) - (k : Int)), .bool false] W fun e w' => madeL W w' e F) := hP
  have HR : Hid (∀ W, Below w.heap.size w W → Calls Tryz.prog 115 #[.slice (some ⟨g, off, none⟩) k cap] W fun e w' => e = .returned (.agg (hV R).toArray) ∧ Below W.heap.size W w') := hR
  have HX : Hid (∀ W, Calls Tryz.prog 55 #[.agg (hV R).toArray] W fun e w' => e = .returned (.string R) ∧ Below W.heap.size W w') := htx
  clear hP hR htx
  go_enter Tryz.func165, Tryz.ntmps165
  go_wp2_with fail
  refine hsp.mono ?_
  rintro e w0 ⟨rfl, hw0⟩
  obtain rfl : w = w0 := hw0.symm
  clear hw0 hsp
  go_wp2_with fail
  have B0 : Below w.heap.size w w.drew := (Below.refl _ _).drew
  refine wp_region_noPanic ?_
  refine wp_region_held_drew (S := fun w' => Below w.heap.size w w') (by kernel_rfl) B0 (fun _ => ?_)
  refine wpAnyH_take (i := 0) (v := ?_) rfl (by kernel_rfl) (by kernel_rfl) (by kernel_rfl) (fun _ _ _ h => h) (Or.inl ⟨by rfl, ?_⟩) B0 ?_
  rotate_left 1
  · intro w hSw; clear hSw; go_simp; try with_reducible rfl
  simp only [List.getElem_toArray, List.getElem_cons_zero, List.getElem_cons_succ, Act.put, List.setIfInBounds_toArray, List.set_cons_zero, List.set_cons_succ]
  refine wpAnyH_take (i := 1) (v := ?_) rfl (by kernel_rfl) (by kernel_rfl) (by kernel_rfl) (fun _ _ _ h => h) (Or.inl ⟨by rfl, ?_⟩) B0 ?_
  rotate_left 1
  · intro w hSw; clear hSw; go_simp; try with_reducible rfl
  simp only [List.getElem_toArray, List.getElem_cons_zero, List.getElem_cons_succ, Act.put, List.setIfInBounds_toArray, List.set_cons_zero, List.set_cons_succ]
  refine wpAnyH_take (i := 2) (v := ?_) rfl (by kernel_rfl) (by kernel_rfl) (by kernel_rfl) (fun _ _ _ h => h) (Or.inl ⟨by rfl, ?_⟩) B0 ?_
  rotate_left 1
  · intro w hSw; clear hSw; go_simp; try with_reducible rfl
  simp only [List.getElem_toArray, List.getElem_cons_zero, List.getElem_cons_succ, Act.put, List.setIfInBounds_toArray, List.set_cons_zero, List.set_cons_succ]
  refine wpAnyH_take (i := 3) (v := ?_) rfl (by kernel_rfl) (by kernel_rfl) (by kernel_rfl) (fun _ _ _ h => h) (Or.inl ⟨by rfl, ?_⟩) B0 ?_
  rotate_left 1
  · intro w hSw; clear hSw; go_simp; try with_reducible rfl
  simp only [List.getElem_toArray, List.getElem_cons_zero, List.getElem_cons_succ, Act.put, List.setIfInBounds_toArray, List.set_cons_zero, List.set_cons_succ]
  refine wpAnyH_take (i := 4) (v := ?_) rfl (by kernel_rfl) (by kernel_rfl) (by kernel_rfl) (fun _ _ _ h => h) (Or.inl ⟨by rfl, ?_⟩) B0 ?_
  rotate_left 1
  · intro w hSw; clear hSw; go_simp; try with_reducible rfl
  simp only [List.getElem_toArray, List.getElem_cons_zero, List.getElem_cons_succ, Act.put, List.setIfInBounds_toArray, List.set_cons_zero, List.set_cons_succ]
  refine wpAnyH_take (i := 5) (v := ?_) rfl (by kernel_rfl) (by kernel_rfl) (by kernel_rfl) (fun _ _ _ h => h) (Or.inl ⟨by rfl, ?_⟩) B0 ?_
  rotate_left 1
  · intro w hSw; clear hSw; go_simp; try with_reducible rfl
  simp only [List.getElem_toArray, List.getElem_cons_zero, List.getElem_cons_succ, Act.put, List.setIfInBounds_toArray, List.set_cons_zero, List.set_cons_succ]
  refine wpAnyH_take (i := 7) (v := ?_) rfl (by kernel_rfl) (by kernel_rfl) (by kernel_rfl) (fun _ _ _ h => h) (Or.inl ⟨by rfl, ?_⟩) B0 ?_
  rotate_left 1
  · intro w hSw; clear hSw; go_simp; try with_reducible rfl
  simp only [List.getElem_toArray, List.getElem_cons_zero, List.getElem_cons_succ, Act.put, List.setIfInBounds_toArray, List.set_cons_zero, List.set_cons_succ]
  refine wpAnyH_take (i := 8) (v := ?_) rfl (by kernel_rfl) (by kernel_rfl) (by kernel_rfl) (fun _ _ _ h => h) (Or.inl ⟨by rfl, ?_⟩) B0 ?_
  rotate_left 1
  · intro w hSw; clear hSw; go_simp; try with_reducible rfl
  simp only [List.getElem_toArray, List.getElem_cons_zero, List.getElem_cons_succ, Act.put, List.setIfInBounds_toArray, List.set_cons_zero, List.set_cons_succ]
  refine wpAnyH_take (i := 9) (v := ?_) rfl (by kernel_rfl) (by kernel_rfl) (by kernel_rfl) (fun _ _ _ h => h) (Or.inl ⟨by rfl, ?_⟩) B0 ?_
  rotate_left 1
  · intro w hSw; clear hSw; go_simp; try with_reducible rfl
  simp only [List.getElem_toArray, List.getElem_cons_zero, List.getElem_cons_succ, Act.put, List.setIfInBounds_toArray, List.set_cons_zero, List.set_cons_succ]
  refine wpAnyH_ready (rs := [6]) (by kernel_rfl) (by simp) ?_
  refine AllReadyH.cons rfl (fun K hK => ?_) AllReadyH.nil
  rw [if_pos (by rfl)]
  go_simp
  refine (HP.out _ B0).mono ?_
  rintro e w1 ⟨ao, cp, rfl, ho1, hb1⟩
  have B1 : Below w.heap.size w w1 := B0.trans (hb1.mono (Nat.le_refl _))
  have ho1 : w1.ownsRow w.heap.size 9 1 (.slice ao F.length cp) F.length (F.map .string) := ho1
  refine hK.out _ _ B1 (fun _ => ?_)
  clear hK K
  try simp only [List.getElem_toArray, List.getElem_cons_zero, List.getElem_cons_succ, Act.put, List.setIfInBounds_toArray, List.set_cons_zero, List.set_cons_succ]
  refine wpAnyH_ready (rs := [10]) (by kernel_rfl) (by simp) ?_
  refine AllReadyH.cons rfl (fun K hK => ?_) AllReadyH.nil
  rw [if_pos (by rfl)]
  go_simp
  refine (HR.out _ B1).mono ?_
  rintro e w2 ⟨rfl, hb2⟩
  have B2 : Below w.heap.size w w2 := B1.trans (hb2.mono B1.size)
  have ho2 := own_below' ho1 hb2
  refine hK.out _ _ B2 (fun _ => ?_)
  clear hK K
  try simp only [List.getElem_toArray, List.getElem_cons_zero, List.getElem_cons_succ, Act.put, List.setIfInBounds_toArray, List.set_cons_zero, List.set_cons_succ]
  refine wpAnyH_ready (rs := [11]) (by kernel_rfl) (by simp) ?_
  refine AllReadyH.cons rfl (fun K hK => ?_) AllReadyH.nil
  rw [if_pos (by rfl)]
  go_simp
  refine (HX.out _).mono ?_
  rintro e w3 ⟨rfl, hb3⟩
  have B3 : Below w.heap.size w w3 := B2.trans (hb3.mono B2.size)
  have ho3 := own_below' ho2 hb3
  refine hK.out _ _ B3 (fun _ => ?_)
  clear hK K
  try simp only [List.getElem_toArray, List.getElem_cons_zero, List.getElem_cons_succ, Act.put, List.setIfInBounds_toArray, List.set_cons_zero, List.set_cons_succ]
  refine wpAnyH_ready (rs := [12]) (by kernel_rfl) (by simp) ?_
  refine AllReadyH.cons rfl (fun K hK => ?_) AllReadyH.nil
  rw [if_pos (by rfl)]
  go_simp
  have hb4 : Below w3.heap.size w3 (w3.alloc (.cells #[.string R] 9)) := (Below.refl _ _).alloc (Nat.le_refl _) _
  have B4 : Below w.heap.size w (w3.alloc (.cells #[.string R] 9)) := B3.trans (hb4.mono B3.size)
  have ho4 := own_below' ho3 hb4
  have hnews : ∀ j u, [Value.string R][j]? = some u → (w3.alloc (.cells #[.string R] 9)).cell? ((⟨w3.heap.size, 0, none⟩ : Addr).add j) = some u := World.news_of_block (heap_alloc_new w3 (.cells #[.string R] 9))
  refine hK.out _ _ B4 (fun _ => ?_)
  clear hK K
  try simp only [List.getElem_toArray, List.getElem_cons_zero, List.getElem_cons_succ, Act.put, List.setIfInBounds_toArray, List.set_cons_zero, List.set_cons_succ]
  refine wpAnyH_ready (rs := [13]) (by kernel_rfl) (by simp) ?_
  refine AllReadyH.cons rfl (fun K hK => ?_) AllReadyH.nil
  rw [if_pos (by rfl)]
  refine wp_append_lies _ (.tmp 42) (.tmp 48) 30 rfl w.heap.size 9 i0 _ 1 16 Tryz.underlying30 hi hz hsz hby rfl (by decide) (.slice ao F.length cp) F.length _ rfl ho4 ⟨w3.heap.size, 0, none⟩ 1 1 [.string R] rfl rfl hnews (by simp [Value.oneCell']) (by decide) (by unfold maxLen; omega) (by omega) B4.size _ rfl ?_
  intro g2 cap2 w5 ho5 hgr5 hat5 hlt5
  have B5 : Below w.heap.size w w5 := B4.trans ((Below.refl _ _).grown hgr5 B4.size (fun k hk => (ho4.lt k hk).1))
  refine hK.out _ _ B5 (fun _ => ?_)
  clear hK K
  try simp only [List.getElem_toArray, List.getElem_cons_zero, List.getElem_cons_succ, Act.put, List.setIfInBounds_toArray, List.set_cons_zero, List.set_cons_succ]
  refine wpAnyH_ready (rs := [14]) (by kernel_rfl) (by simp) ?_
  refine AllReadyH.cons rfl (fun K hK => ?_) AllReadyH.nil
  rw [if_pos (by rfl)]
  go_simp
  refine hK.out _ _ B5 (fun _ => ?_)
  clear hK K
  refine ⟨by kernel_rfl, ?_⟩
  refine NoPanic.normal ?_
  try simp only [List.getElem_toArray, List.getElem_cons_zero, List.getElem_cons_succ, Act.put, List.setIfInBounds_toArray, List.set_cons_zero, List.set_cons_succ]
  go_wp2_with fail
  go_ret
  refine ⟨some ⟨g2, 0, none⟩, cap2, by simp, by simpa using ho5, B5⟩

/-- The program's grown: the hashes by which a tree is proved to have grown. -/
theorem grown_any (K : Nat → Int) : ∀ (n : Nat) (ls : List ByteArray) (v : Value) (m : Nat) (whole : Bool) (w : World), ls.length = n → 0 < m → m ≤ n → n ≤ 2147483647 → LeafAt w v ls → (∀ s ∈ ls, s.size ≤ 140737488355000) → Tab K w →
    Calls Tryz.prog 165 #[v, .int .i64 m, .bool whole] w fun e w' => madeL w w' e (grownF (sumOf K) ls m whole) := by
  intro n
  induction n using Nat.strongRecOn with
  | _ n ih =>
  intro ls v m whole w hn hm0 hmn hn1 hl hs T
  have hszF : ∀ l, (rootF (sumOf K) l).size = 32 := rootF_size (sumOf K) (sumOf_size K)
  by_cases h1 : m = n
  · rw [grownF_all _ whole (by omega)]
    have hr := root_all K ls v w (by omega) hl hs T
    obtain ⟨ao, cap, rfl⟩ := leaf_form hl
    rw [h1, ← hn]
    cases whole
    · exact grown_all ao cap ls.length w _ hr (htx_any _ (hszF _))
    · exact grown_known ao cap ls.length w
  · obtain ⟨g, off, cap, rfl, hcap, hc⟩ : ∃ g off cap, v = .slice (some ⟨g, off, none⟩) ls.length cap ∧ ls.length ≤ cap ∧ ∀ j (h : j < ls.length), w.cell? ⟨g, off + j, none⟩ = some (.string (ls[j]'h)) := by
      rcases hl with ⟨rfl, _⟩ | h
      · simp at hn; omega
      · exact h
    have h2 : 2 ≤ ls.length := by omega
    have hk0 := halfN_pos ls.length
    have hk1 := halfN_lt h2
    have lT : ∀ W, Below w.heap.size w W → LeafAt W (.slice (some ⟨g, off, none⟩) (halfN ls.length) cap) (ls.take (halfN ls.length)) := fun W J => (leaf_take _ (by omega) hcap hc).below J
    have lD : ∀ W, Below w.heap.size w W → LeafAt W (.slice (some ⟨g, off + halfN ls.length, none⟩) (ls.length - halfN ls.length) (cap - halfN ls.length)) (ls.drop (halfN ls.length)) := fun W J => (leaf_drop _ (by omega) hcap hc).below J
    have sT : ∀ s ∈ ls.take (halfN ls.length), s.size ≤ 140737488355000 := fun s hs' => hs s (List.mem_of_mem_take hs')
    have sD : ∀ s ∈ ls.drop (halfN ls.length), s.size ≤ 140737488355000 := fun s hs' => hs s (List.mem_of_mem_drop hs')
    have nT : (ls.take (halfN ls.length)).length = halfN ls.length := by simp; omega
    have nD : (ls.drop (halfN ls.length)).length = ls.length - halfN ls.length := by simp
    by_cases hik : m ≤ halfN ls.length
    · rw [grownF_left (sumOf K) whole hm0 (by omega) hik]
      exact grown_left g off cap ls.length (halfN ls.length) m whole w _ _ (by omega) hk0 hk1 hcap hik (grownF_len (sumOf K) _ _ m whole nT hm0 hik) (split_any ls.length w h2 (by omega))
        (fun W J => ih (halfN ls.length) (by omega) (ls.take (halfN ls.length)) _ m whole W nT hm0 hik (by omega) (lT W J) sT (T.below J))
        (fun W J => root_any K _ (ls.drop (halfN ls.length)) _ W nD (by omega) (by omega) (lD W J) sD (T.below J)) (htx_any _ (hszF _))
    · rw [grownF_right (sumOf K) whole hm0 (by omega) hik]
      exact grown_right g off cap ls.length (halfN ls.length) m whole w _ _ (by omega) hk0 hk1 hcap (by omega) (by omega) (grownF_len (sumOf K) _ _ _ _ nD (by omega) (by omega)) (split_any ls.length w h2 (by omega))
        (fun W J => by
          have := ih (ls.length - halfN ls.length) (by omega) (ls.drop (halfN ls.length)) _ (m - halfN ls.length) false W nD (by omega) (by omega) (by omega) (lD W J) sD (T.below J)
          rw [show ((m - halfN ls.length : Nat) : Int) = (m : Int) - (halfN ls.length : Int) by omega] at this
          exact this)
        (fun W J => root_any K _ (ls.take (halfN ls.length)) _ W nT hk0 (by omega) (lT W J) sT (T.below J)) (htx_any _ (hszF _))

/-- What Consistency answers. -/
def consF (H : ByteArray → ByteArray) (l : List ByteArray) (m : Nat) : List ByteArray := if m = 0 then [] else grownF H l m true
def consPost (w : World) (F : List ByteArray) (e : Ending) (w' : World) : Prop := ∃ ao cap, e = .returned (.tuple #[.slice ao F.length cap, .nilIface]) ∧ w'.ownsRow w.heap.size 9 1 (.slice ao F.length cap) F.length (F.map .string) ∧ Below w.heap.size w w'

set_option maxRecDepth 10000 in
set_option maxHeartbeats 400000 in
theorem cons_tree (K : Nat → Int) (ls : List ByteArray) (v : Value) (m : Nat) (w : World) (hm : m ≤ ls.length) (hn1 : ls.length ≤ 2147483647) (hl : LeafAt w v ls) (hs : ∀ s ∈ ls, s.size ≤ 140737488355000) (T : Tab K w) :
    Calls Tryz.prog 118 #[v, .int .i64 m] w (consPost w (consF (sumOf K) ls m)) := by
  by_cases h0 : m = 0
  · subst h0
    obtain ⟨ao, cap, rfl⟩ := leaf_form hl
    have hc : consF (sumOf K) ls 0 = [] := by unfold consF; rw [if_pos rfl]
    rw [hc]
    clear hl hs T hm hc
    generalize ls.length = N at *
    have i1 : ¬ (N : Int) < 0 := by omega
    go_enter Tryz.func118, Tryz.ntmps118
    go_wp2_with fail
    go_ret2
    exact ⟨none, 0, rfl, World.ownsRow_nil _ _ _ _, Below.refl _ _⟩
  · have hg := grown_any K _ ls v m true w rfl (by omega) hm hn1 hl hs T
    have hc : consF (sumOf K) ls m = grownF (sumOf K) ls m true := by unfold consF; rw [if_neg h0]
    rw [hc]
    obtain ⟨ao, cap, rfl⟩ := leaf_form hl
    generalize grownF (sumOf K) ls m true = F at *
    clear hl hs T hc
    generalize ls.length = N at *
    have i0 : ¬ (m : Int) < 0 := by omega
    have i1 : ¬ (N : Int) < (m : Int) := by omega
    have i2 : ((m : Int) == 0) = false := by rw [beq_eq_false_iff_ne]; omega
    go_enter Tryz.func118, Tryz.ntmps118
    go_wp2_with fail
    refine hg.mono ?_
    rintro e w1 ⟨ao2, cp, rfl, ho, hb⟩
    clear hg
    go_wp2_with fail
    go_ret2
    exact ⟨ao2, cp, rfl, ho, hb⟩

set_option maxRecDepth 10000 in
set_option maxHeartbeats 400000 in
/-- The program's Consistency, of the first m leaves. -/
theorem cons_any (K : Nat → Int) (ls : List ByteArray) (v : Value) (m : Nat) (w : World) (hm : m ≤ ls.length) (hn1 : ls.length ≤ 2147483647) (hl : LeafAt w v ls) (hs : ∀ s ∈ ls, s.size ≤ 140737488355000) (T : Tab K w) :
    Calls Tryz.prog 69 #[v, .int .i64 m] w (consPost w (consF (sumOf K) ls m)) := by
  have hc := cons_tree K ls v m w hm hn1 hl hs T
  obtain ⟨ao, cap, rfl⟩ := leaf_form hl
  generalize consF (sumOf K) ls m = F at *
  have HC : Hid (Calls Tryz.prog 118 #[.slice ao ls.length cap, .int .i64 m] w (consPost w F)) := hc
  clear hc hl hs T
  generalize ls.length = N at *
  go_enter Tryz.func69, Tryz.ntmps69
  go_wp2_with fail
  refine HC.out.mono ?_
  rintro e w1 ⟨ao2, cp, rfl, ho, hb⟩
  go_wp2_with fail
  go_ret2
  exact ⟨ao2, cp, rfl, ho, hb⟩
end Go.Proofs.YtijdnpoenpjnlaaGreatDoor
set_option linter.unusedVariables false
set_option linter.unusedSimpArgs false
namespace Go.Proofs.YtijdnpoenpjnlaaGreatDoor
open Go.RowKit

theorem str_one : (Tryz.prog.info? 9).map (·.size) = some 1 := by
  obtain ⟨i, hi, _, hs, _⟩ := info_strT
  rw [hi]; exact congrArg some hs
theorem strs_one (ls : List ByteArray) : ∀ u ∈ ls.map Value.string, u.oneCell' = true := fun u hu => by
  simp at hu; obtain ⟨q, _, rfl⟩ := hu; rfl
/-- copy of texts into a row. -/
theorem run_copy_leaf (w : World) (b n dcap : Nat) (v : Value) (ls : List ByteArray) (hl : LeafAt w v ls) (hn : ls.length ≤ n) (ht : w.there b 0 n) :
    (Builtin.copy_ #[30, 30] 3 #[.slice (some ⟨b, 0, none⟩) n dcap, v]).run Tryz.prog w = .ok (goInt ls.length) (w.setCells b 0 (ls.map .string)) := by
  rcases hl with ⟨rfl, ao, cap, rfl⟩ | ⟨g, off, cap, rfl, hc, h⟩
  · exact run_copy_none (P := Tryz.prog) w 30 30 3 9 _ _ n dcap 0 cap Tryz.underlying30 str_one (by simp)
  · have := run_copy_cells (P := Tryz.prog) w 30 30 3 9 b 0 n dcap ⟨g, off, none⟩ ls.length cap (ls.map .string) Tryz.underlying30 str_one (by simp [Nat.min_eq_left hn])
      (fun j u hu => by
        rw [Addr.add_mid]
        rw [List.getElem?_map] at hu
        have hj : j < ls.length := by
          rcases Nat.lt_or_ge j ls.length with h1 | h1
          · exact h1
          · rw [List.getElem?_eq_none h1] at hu; cases hu
        rw [List.getElem?_eq_getElem hj] at hu
        rw [h j hj]; exact hu)
      (fun j hj => (ht j (by simp at hj; omega)).1) (fun j hj => (ht j (by simp at hj; omega)).2) (strs_one ls)
    rw [List.length_map] at this
    exact this
def bey : ByteArray := ⟨#[98, 101, 121, 111, 110, 100]⟩
/-- A list of texts, handed in with spare room: block h. -/
structure HandAt (h : Nat) (w : World) (ls : List ByteArray) : Prop where
  cells : ∀ j (hj : j < ls.length), w.cell? ⟨h, j, none⟩ = some (.string (ls[j]'hj))
  b0 : w.cell? ⟨h, ls.length, none⟩ = some (.string bey)
  b1 : w.cell? ⟨h, ls.length + 1, none⟩ = some (.string bey)
  room : w.there h 0 (ls.length + 2)
  lt : h < w.heap.size
theorem HandAt.below {h : Nat} {w w' : World} {ls : List ByteArray} (H : HandAt h w ls) (hb : Below w.heap.size w w') : HandAt h w' ls :=
  ⟨fun j hj => (hb.cell (p := ⟨h, j, none⟩) H.lt).trans (H.cells j hj), (hb.cell (p := ⟨h, ls.length, none⟩) H.lt).trans H.b0, (hb.cell (p := ⟨h, ls.length + 1, none⟩) H.lt).trans H.b1, there_below hb H.lt H.room, Nat.lt_of_lt_of_le H.lt hb.size⟩
theorem HandAt.leaf {h : Nat} {w : World} {ls : List ByteArray} (H : HandAt h w ls) : LeafAt w (.slice (some ⟨h, 0, none⟩) ls.length (ls.length + 2)) ls :=
  Or.inr ⟨h, 0, _, rfl, by omega, fun j hj => by rw [Nat.zero_add]; exact H.cells j hj⟩

set_option maxRecDepth 10000 in
set_option maxHeartbeats 1000000 in
theorem handed_any (v : Value) (ls : List ByteArray) (w : World) (hl : LeafAt w v ls) (hn : ls.length ≤ 1000000) :
    Calls Tryz.prog 65 #[v] w fun e w' => e = .returned (.slice (some ⟨w.heap.size, 0, none⟩) ls.length (ls.length + 2)) ∧ HandAt w.heap.size w' ls ∧ Below w.heap.size w w' := by
  have HL : Hid (LeafAt w v ls) := hl
  obtain ⟨ao, cap, rfl⟩ := leaf_form hl
  clear hl
  obtain ⟨N, hN⟩ : ∃ N, N = ls.length := ⟨_, rfl⟩
  have HN : Hid (N = ls.length) := hN
  rw [← hN] at hn ⊢ HL
  clear hN
  obtain ⟨i0, hi, hz, hsz, hby⟩ := info_strT
  go_enter Tryz.func65, Tryz.ntmps65
  go_wp2_with (at_make; refine wpList_make_full _ rfl _ _ 30 rfl w.heap.size 9 i0 (.string ⟨#[]⟩) 1 Tryz.underlying30 hi hz hsz .i64 .i64 _ _ (N + 2) rfl rfl ?L ?C ?b2 ?b3 (Nat.le_refl _) ?_)
  case L => go_num
  case C => go_num
  case b2 => rw [hby]; omega
  case b3 => unfold maxLen; omega
  intro w1 ho hg1
  have hB1 : Below w.heap.size w w1 := (Below.refl _ _).grown hg1 (Nat.le_refl _) (fun k hk => by cases hk)
  have hz1 := (ho.lt w.heap.size rfl).2
  have ht1 : w1.there w.heap.size 0 (N + 2) := own_there ho
  clear ho hg1
  have hrun := run_copy_leaf w1 w.heap.size (N + 2) (N + 2) _ ls (HL.out.below hB1) (by have := HN.out; omega) ht1
  obtain ⟨w2, hw2⟩ : ∃ w2, w2 = w1.setCells w.heap.size 0 (ls.map .string) := ⟨_, rfl⟩
  rw [← hw2] at hrun
  have ht2 : w2.there w.heap.size 0 (N + 2) := by rw [hw2]; exact World.there_setCells ht1 _ _ _
  have hr2 : w2.rangeAt w.heap.size 0 (ls.map .string) := by rw [hw2]; exact World.rangeAt_setCells_same _ _ _ _ (fun j hj => ht1 j (by simp at hj; have := HN.out; omega))
  have hB2 : Below w.heap.size w w2 := by rw [hw2]; exact below_setCells (Nat.le_refl _) _ _ _ hB1
  have hz2 : w.heap.size < w2.heap.size := by rw [hw2, size_setCells]; exact hz1
  clear hw2
  have f0 : w2.frozen? ⟨w.heap.size, N, none⟩ = false := by have := (ht2 N (by omega)).2; rwa [Nat.zero_add] at this
  obtain ⟨x0, c0⟩ : ∃ x, w2.cell? ⟨w.heap.size, N, none⟩ = some x := by
    have := (ht2 N (by omega)).1
    rw [Nat.zero_add] at this
    exact Option.isSome_iff_exists.1 this
  have ht3 : (w2.setCell ⟨w.heap.size, N, none⟩ (.string bey)).there w.heap.size 0 (N + 2) := World.there_setCells ht2 w.heap.size N [_]
  have f1 : (w2.setCell ⟨w.heap.size, N, none⟩ (.string bey)).frozen? ⟨w.heap.size, N + 1, none⟩ = false := by have := (ht3 (N + 1) (by omega)).2; rwa [Nat.zero_add] at this
  obtain ⟨x1, c1⟩ : ∃ x, (w2.setCell ⟨w.heap.size, N, none⟩ (.string bey)).cell? ⟨w.heap.size, N + 1, none⟩ = some x := by
    have := (ht3 (N + 1) (by omega)).1
    rw [Nat.zero_add] at this
    exact Option.isSome_iff_exists.1 this
  rw [show bey = ⟨#[98, 101, 121, 111, 110, 100]⟩ from rfl] at c1 f1
  have n1 : (N : Int) < (N : Int) + 2 := by omega
  have n2 : (N : Int) + 1 < (N : Int) + 2 := by omega
  have n3 : (N : Int) ≤ (N : Int) + 2 := by omega
  go_wp2_with (at_builtin; refine Lib.wpList_copy_run _ rfl _ _ 30 30 rfl _ _ rfl rfl hrun ?_)
  go_ret
  have HB : Hid (HandAt w.heap.size ((w2.setCell ⟨w.heap.size, N, none⟩ (.string bey)).setCell ⟨w.heap.size, N + 1, none⟩ (.string bey)) ls) := by
    have eN := HN.out
    refine ⟨fun j hj => ?_, ?_, ?_, ?_, by simpa using hz2⟩
    · rw [World.cell?_setCell_other (w := w2.setCell ⟨w.heap.size, N, none⟩ (.string bey)) (a := ⟨w.heap.size, N + 1, none⟩) (b := ⟨w.heap.size, j, none⟩) _ (by intro e; have := congrArg Addr.off e; simp at this; omega), World.cell?_setCell_other (w := w2) (a := ⟨w.heap.size, N, none⟩) (b := ⟨w.heap.size, j, none⟩) _ (by intro e; have := congrArg Addr.off e; simp at this; omega)]
      have := hr2 j (.string (ls[j]'hj)) (by rw [List.getElem?_map, List.getElem?_eq_getElem hj]; rfl)
      rwa [Nat.zero_add] at this
    · rw [← eN, World.cell?_setCell_other (w := w2.setCell ⟨w.heap.size, N, none⟩ (.string bey)) (a := ⟨w.heap.size, N + 1, none⟩) (b := ⟨w.heap.size, N, none⟩) _ (by intro e; have := congrArg Addr.off e; simp at this)]
      exact World.cell?_setCell_same _ _ _ c0
    · rw [← eN]
      exact World.cell?_setCell_same _ _ _ c1
    · rw [← eN]; exact World.there_setCells ht3 w.heap.size (N + 1) [_]
  exact ⟨rfl, HB.out, (hB2.setCell (p := ⟨w.heap.size, N, none⟩) (Nat.le_refl _) _).setCell (p := ⟨w.heap.size, N + 1, none⟩) (Nat.le_refl _) _⟩

set_option maxRecDepth 10000 in
set_option maxHeartbeats 1000000 in
/-- same, of two lists that read alike. -/
theorem same_eq (va vb : Value) (ls : List ByteArray) (w : World) (ha : LeafAt w va ls) (hb : LeafAt w vb ls) (hn : ls.length ≤ 1000000) :
    Calls Tryz.prog 49 #[va, vb] w fun e w' => e = .returned (.bool true) ∧ Below w.heap.size w w' := by
  have HA : Hid (LeafAt w va ls) := ha
  have HB : Hid (LeafAt w vb ls) := hb
  obtain ⟨ao, cap, rfl⟩ := leaf_form ha
  obtain ⟨bo, cap2, rfl⟩ := leaf_form hb
  clear ha hb
  obtain ⟨N, hN⟩ : ∃ N, N = ls.length := ⟨_, rfl⟩
  have HN : Hid (N = ls.length) := hN
  rw [← hN] at hn HA HB ⊢
  clear hN
  go_enter Tryz.func49, Tryz.ntmps49
  go_wp2_with fail
  go_loopw [5] (fun i wr => ∃ q : Nat, i = .int .i64 q ∧ q ≤ N ∧ Below w.heap.size w wr) (fun i _ => N - (intOf i).toNat)
  case atStart => exact ⟨0, rfl, Nat.zero_le _, Below.refl _ _⟩
  case round =>
    obtain ⟨q, rfl, hq, hB⟩ := hrel
    by_cases hlt : q < N
    · have q1 : (q : Int) < (N : Int) := by omega
      have q0 : (0 : Int) ≤ (q : Int) := by omega
      have hql : q < ls.length := by have := HN.out; omega
      obtain ⟨s, hs⟩ : ∃ s, s = ls[q]'hql := ⟨_, rfl⟩
      obtain ⟨g, off, ea, ca⟩ : ∃ g off, ao = some ⟨g, off, none⟩ ∧ wr.cell? ⟨g, off + q, none⟩ = some (.string s) := by
        rcases HA.out.below hB with ⟨e, _⟩ | ⟨g, off, cap', e, _, h⟩
        · rw [e] at hql; simp at hql
        · injection e with e1 _ _
          exact ⟨g, off, e1, by rw [h q hql, hs]⟩
      obtain ⟨g', off', eb, cb⟩ : ∃ g off, bo = some ⟨g, off, none⟩ ∧ wr.cell? ⟨g, off + q, none⟩ = some (.string s) := by
        rcases HB.out.below hB with ⟨e, _⟩ | ⟨g, off, cap', e, _, h⟩
        · rw [e] at hql; simp at hql
        · injection e with e1 _ _
          exact ⟨g, off, e1, by rw [h q hql, hs]⟩
      subst ea eb
      clear hs
      have bz : (s.toList == s.toList) = true := by rw [← beq_toListBytes]; show (s.data == s.data) = true; simp
      go_wp2_with fail
      go_quiet (fail)
      go_wp2_with fail
      refine ⟨⟨q + 1, by go_num, by omega, below_draws hB _⟩, ?_⟩
      simp [intOf]; omega
    · have q1 : ¬ (q : Int) < (N : Int) := by omega
      go_wp2_with fail
      go_ret
      exact ⟨rfl, hB⟩
end Go.Proofs.YtijdnpoenpjnlaaGreatDoor
set_option linter.unusedVariables false
set_option linter.unusedSimpArgs false
namespace Go.Proofs.YtijdnpoenpjnlaaGreatDoor
open Go.RowKit

theorem off_below {h : Nat} {w w1 : World} (hb : Below w.heap.size w w1) : w.grownBy w1 (some h) := ⟨hb.os, hb.tape, hb.output, hb.size, fun b h1 _ => hb.block b h1⟩
theorem off_set {h j : Nat} {w w1 : World} {u : Value} (ho : w.grownBy w1 (some h)) : w.grownBy (w1.setCell ⟨h, j, none⟩ u) (some h) :=
  ⟨ho.os, ho.tape, ho.output, by simpa using ho.size, fun b h1 h2 => (heap_setCell_other w1 ⟨h, j, none⟩ b u (fun e => h2 (by simp [e]))).trans (ho.block b h1 h2)⟩
theorem off_trans {h : Nat} {w a b : World} (h1 : w.grownBy a (some h)) (h2 : a.grownBy b (some h)) : w.grownBy b (some h) :=
  ⟨h2.os.trans h1.os, h2.tape.trans h1.tape, h2.output.trans h1.output, Nat.le_trans h1.size h2.size, fun j hj hr => (h2.block j (Nat.lt_of_lt_of_le hj h1.size) hr).trans (h1.block j hj hr)⟩
theorem below_off {B h : Nat} {w w' w'' : World} (hb : Below B w w') (ho : w'.grownBy w'' (some h)) (hB : B ≤ h) (hz : B ≤ w'.heap.size) : Below B w w'' :=
  ⟨ho.os.trans hb.os, ho.tape.trans hb.tape, ho.output.trans hb.output, Nat.le_trans hb.size ho.size, fun b h1 => (ho.block b (by omega) (by simp; omega)).trans (hb.block b h1)⟩

set_option maxRecDepth 10000 in
set_option maxHeartbeats 1000000 in
theorem still_any (h : Nat) (v : Value) (ls : List ByteArray) (w : World) (H : HandAt h w ls) (hl : LeafAt w v ls) (hn : ls.length ≤ 1000000) :
    Calls Tryz.prog 67 #[.slice (some ⟨h, 0, none⟩) ls.length (ls.length + 2), v] w fun e w' => e = .returned (.bool true) ∧ w.grownBy w' (some h) := by
  have HH : Hid (HandAt h w ls) := H
  have HL : Hid (LeafAt w v ls) := hl
  obtain ⟨ao, cap, rfl⟩ := leaf_form hl
  have e0 := H.b0
  have e1 := H.b1
  clear hl H
  obtain ⟨N, hN⟩ : ∃ N, N = ls.length := ⟨_, rfl⟩
  have HN : Hid (N = ls.length) := hN
  rw [← hN] at hn HL e0 e1 ⊢
  clear hN
  have bz : (bey.toList == bey.toList) = true := by decide +kernel
  rw [show bey = ⟨#[98, 101, 121, 111, 110, 100]⟩ from rfl] at e0 e1 bz
  have n1 : (N : Int) < (N : Int) + 2 := by omega
  have n2 : (N : Int) + 1 < (N : Int) + 2 := by omega
  have n3 : (N : Int) + 2 ≤ ((N + 2 : Nat) : Int) := by omega
  go_enter Tryz.func67, Tryz.ntmps67
  go_wp2_with fail
  go_loopw [7, 8] (fun ok i wr => ok = .bool true ∧ ∃ q : Nat, i = .int .i64 q ∧ q ≤ N ∧ Below w.heap.size w wr) (fun _ i _ => N - (intOf i).toNat)
  case atStart => exact ⟨rfl, 0, rfl, Nat.zero_le _, Below.refl _ _⟩
  case round =>
    obtain ⟨rfl, q, rfl, hq, hB⟩ := hrel
    by_cases hlt : q < N
    · have q1 : (q : Int) < (N : Int) := by omega
      have q2 : (q : Int) < (N : Int) + 2 := by omega
      have q0 : (0 : Int) ≤ (q : Int) := by omega
      have hql : q < ls.length := by have := HN.out; omega
      obtain ⟨s, hs⟩ : ∃ s, s = ls[q]'hql := ⟨_, rfl⟩
      have ca : wr.cell? ⟨h, q, none⟩ = some (.string s) := by rw [hs]; exact (hB.cell (p := ⟨h, q, none⟩) HH.out.lt).trans (HH.out.cells q hql)
      obtain ⟨g', off', eb, cb⟩ : ∃ g off, ao = some ⟨g, off, none⟩ ∧ wr.cell? ⟨g, off + q, none⟩ = some (.string s) := by
        rcases HL.out.below hB with ⟨e, _⟩ | ⟨g, off, cap', e, _, h⟩
        · rw [e] at hql; simp at hql
        · injection e with e1 _ _
          exact ⟨g, off, e1, by rw [h q hql, hs]⟩
      subst eb
      clear hs
      have bz : (s.toList == s.toList) = true := by rw [← beq_toListBytes]; show (s.data == s.data) = true; simp
      go_wp2_with fail
      go_quiet (fail)
      go_wp2_with fail
      refine ⟨⟨rfl, q + 1, by go_num, by omega, below_draws hB _⟩, ?_⟩
      simp [intOf]; omega
    · have q1 : ¬ (q : Int) < (N : Int) := by omega
      have hT : wr.there h 0 (N + 2) := by
        have := there_below hB HH.out.lt HH.out.room
        rw [← HN.out] at this
        exact this
      have hO : w.grownBy wr (some h) := off_below hB
      clear hB
      go_wp2_with fail
      go_loopw [9] (fun i w2 => ∃ q : Nat, i = .int .i64 q ∧ q ≤ N + 2 ∧ w2.there h 0 (N + 2) ∧ w.grownBy w2 (some h)) (fun i _ => N + 2 - (intOf i).toNat)
      case atStart => exact ⟨0, rfl, Nat.zero_le _, hT, hO⟩
      case round =>
        clear hT hO
        rename_i w2
        obtain ⟨r, rfl, hr, hT, hO⟩ := hrel
        by_cases hlt2 : r < N + 2
        · have r1 : (r : Int) < (N : Int) + 2 := by omega
          have r0 : (0 : Int) ≤ (r : Int) := by omega
          have fz := (hT r hlt2).2
          obtain ⟨x, cx⟩ := Option.isSome_iff_exists.1 (hT r hlt2).1
          rw [Nat.zero_add] at fz cx
          go_wp2_with fail
          refine ⟨⟨r + 1, by go_num, by omega, World.there_setCells hT h r [_], off_set hO⟩, ?_⟩
          simp [intOf]; omega
        · have r1 : ¬ (r : Int) < (N : Int) + 2 := by omega
          go_wp2_with fail
          go_ret
          exact ⟨rfl, hO⟩
end Go.Proofs.YtijdnpoenpjnlaaGreatDoor
set_option linter.unusedVariables false
set_option linter.unusedSimpArgs false
namespace Go.Proofs.YtijdnpoenpjnlaaGreatDoor
open Go.RowKit

/-- A row of texts that a call has made is a list of texts. -/
theorem leaf_own {w : World} {B : Nat} {v : Value} {L : List ByteArray} (h : w.ownsRow B 9 1 v L.length (L.map .string)) : LeafAt w v L := by
  rcases h.2 with ⟨rfl, h0⟩ | ⟨g, cap, cur, rfl, _, _, hc, _⟩
  · exact Or.inl ⟨List.eq_nil_of_length_eq_zero h0, none, 0, rfl⟩
  · refine Or.inr ⟨g, 0, cap, rfl, hc, fun j hj => ?_⟩
    rw [Nat.zero_add, h.cellAt j (by omega), List.getElem?_map, List.getElem?_eq_getElem hj]; rfl

/-- 'append(v, y...)' of texts: v of the call's own; at the operation. -/
theorem wp_append_texts {o : Oper} {a : Act} {w : World} {C : Act → World → Prop} {Q : Exit → Act → World → Prop} (s x : Operand)
    (hop : o.op = Op.call { callee := Callee.builtin Builtin.append, args := #[s, x], argTypes := #[30, 30] })
    (base : Nat) (v : Value) (n : Nat) (xs : List Value) (hs : a.eval s = v) (hown : w.ownsRow base 9 1 v n xs) (y : Value) (L : List ByteArray) (hx : a.eval x = y) (B2 : Nat) (hy : w.ownsRow B2 9 1 y L.length (L.map .string))
    (hbd : n + L.length ≤ 10000000) (hbase : base ≤ w.heap.size)
    (hK : ∀ ao m cap' w', Hid (m = n + L.length) → w'.ownsRow base 9 1 (.slice ao m cap') m (xs ++ L.map .string) → w.grownBy w' v.ownBlock → C (a.put o.dst (.slice ao m cap')) w') :
    o.wp Tryz.prog a w C Q := by
  obtain ⟨i, hi, hz, hsz, hby⟩ := info_strT
  have form : ∀ {w : World} {v : Value} {n : Nat} {xs : List Value}, w.ownsRow base 9 1 v n xs → ∃ ao cap, v = .slice ao n cap := fun {w v n xs} h => by
    rcases h.2 with ⟨rfl, rfl⟩ | ⟨g, cap, cur, rfl, _⟩
    · exact ⟨none, 0, rfl⟩
    · exact ⟨_, cap, rfl⟩
  rcases hy.2 with ⟨rfl, h0⟩ | ⟨g, cap, cur, rfl, _⟩
  · obtain rfl := List.eq_nil_of_length_eq_zero h0
    have hr := run_append_owned_none (P := Tryz.prog) w base 30 o.type 9 i 1 Tryz.underlying30 hi v n xs hown
    unfold Oper.wp
    simp [execOp, hop, resolve, invoke, builtin, hs, hx, hr, Result.andThen]
    obtain ⟨ao, cp, rfl⟩ := form hown
    exact hK ao n cp w (by show n = n + 0; rfl) (by simpa using hown) ⟨rfl, rfl, rfl, Nat.le_refl _, fun _ _ _ => rfl⟩
  · have hnews : ∀ j u, (L.map Value.string)[j]? = some u → w.cell? ((⟨g, 0, none⟩ : Addr).add j) = some u := hy.cells rfl
    obtain ⟨v', w', hr, ho, hgr, _⟩ := run_append_own (P := Tryz.prog) w base 30 o.type 9 i _ 1 16 Tryz.underlying30 hi hz hsz hby rfl (by decide) v n xs hown ⟨g, 0, none⟩ L.length cap (L.map .string) (by simp) hnews (by intro u hu; simp at hu; obtain ⟨q, _, rfl⟩ := hu; rfl) (by unfold maxLen; omega) (by omega) hbase
    unfold Oper.wp
    simp [execOp, hop, resolve, invoke, builtin, hs, hx, hr, Result.andThen]
    obtain ⟨ao, cp, rfl⟩ := form ho
    exact hK ao _ cp w' rfl ho hgr
theorem wpList_append_texts {ops : Array Oper} {rest : List Oper} {o : Oper} {a : Act} {w : World} {Q : Exit → Act → World → Prop} (hg : o.guard = none) (s x : Operand)
    (hop : o.op = Op.call { callee := Callee.builtin Builtin.append, args := #[s, x], argTypes := #[30, 30] })
    (base : Nat) (v : Value) (n : Nat) (xs : List Value) (hs : a.eval s = v) (hown : w.ownsRow base 9 1 v n xs) (y : Value) (L : List ByteArray) (hx : a.eval x = y) (B2 : Nat) (hy : w.ownsRow B2 9 1 y L.length (L.map .string))
    (hbd : n + L.length ≤ 10000000) (hbase : base ≤ w.heap.size)
    (hK : ∀ ao m cap' w', Hid (m = n + L.length) → w'.ownsRow base 9 1 (.slice ao m cap') m (xs ++ L.map .string) → w.grownBy w' v.ownBlock → wpList Tryz.prog ops Q rest (a.put o.dst (.slice ao m cap')) w') :
    wpList Tryz.prog ops Q (o :: rest) a w :=
  wpList_plain hg fun _ hK' => wp_append_texts s x hop base v n xs hs hown y L hx B2 hy hbd hbase fun ao m cap' w' h1 h2 h3 => hK' _ _ (hK ao m cap' w' h1 h2 h3)
theorem own_mono {w : World} {B B' : Nat} {e : TypeId} {v : Value} {n : Nat} {xs : List Value} (h : w.ownsRow B e 1 v n xs) (hB : B' ≤ B) : w.ownsRow B' e 1 v n xs := by
  refine ⟨h.1, ?_⟩
  rcases h.2 with h0 | ⟨g, cap, cur, e1, e2, e3⟩
  · exact Or.inl h0
  · exact Or.inr ⟨g, cap, cur, e1, by omega, e3⟩
end Go.Proofs.YtijdnpoenpjnlaaGreatDoor
