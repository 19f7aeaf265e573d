import Derived.Test.YteglimjonofdeaaGreatDoorGRootM
import Derived.Test.YteglimjonofdeaaGreatDoorTClimb2M
set_option linter.unusedVariables false
set_option linter.unusedSimpArgs false
namespace Go.Proofs.YteglimjonofdeaaGreatDoor
open Go.RowKit

set_option maxRecDepth 10000 in
set_option maxHeartbeats 400000 in
theorem grown_known (ao : Option Addr) (cap N : Nat) (w : World) : Calls Tryz.prog 123 #[.slice ao N cap, .int .i64 N, .bool true] w fun e w' => madeL w w' e [] := by
  go_enter Tryz.func123, Tryz.ntmps123
  go_wp2_with fail
  go_ret
  exact ⟨none, 0, rfl, World.ownsRow_nil _ _ _ _, Below.refl _ _⟩

set_option maxRecDepth 10000 in
set_option maxHeartbeats 400000 in
theorem grown_all (ao : Option Addr) (cap N : Nat) (w : World) (R : ByteArray)
    (hR : Calls Tryz.prog 75 #[.slice ao N cap] w fun e w' => e = .returned (.agg (hV R).toArray) ∧ Below w.heap.size w w')
    (htx : ∀ W, Calls Tryz.prog 55 #[.agg (hV R).toArray] W fun e w' => e = .returned (.string R) ∧ Below W.heap.size W w') :
    Calls Tryz.prog 123 #[.slice ao N cap, .int .i64 N, .bool false] w fun e w' => madeL w w' e [R] := by
  go_enter Tryz.func123, Tryz.ntmps123
  go_wp2_with fail
  refine hR.mono ?_
  rintro e w1 ⟨rfl, hb1⟩
  go_wp2_with fail
  refine (htx _).mono ?_
  rintro e w2 ⟨rfl, hb2⟩
  clear hR htx
  have hB2 : Below w.heap.size w w2 := hb1.trans (hb2.mono hb1.size)
  have hB3 : Below w.heap.size w (w2.alloc (.cells #[.string R] 9)) := hB2.alloc hB2.size _
  have ho : (w2.alloc (.cells #[.string R] 9)).ownsRow w.heap.size 9 1 (.slice (some ⟨w2.heap.size, 0, none⟩) 1 1) 1 [.string R] := World.ownsRow_lit w2 #[.string R] 1 hB2.size (by unfold maxLen; omega) rfl
  go_wp2_with fail
  go_ret
  exact ⟨_, _, rfl, ho, hB3⟩

set_option maxRecDepth 10000 in
set_option maxHeartbeats 1000000 in
theorem grown_left (g off cap N k m : Nat) (whole : Bool) (w : World) (F : List ByteArray) (R : ByteArray) (hN : N ≤ 2147483647) (hk0 : 0 < k) (hk1 : k < N) (hcap : N ≤ cap) (hmk : m ≤ k) (hFl : F.length ≤ k)
    (hsp : Calls Tryz.prog 112 #[.int .i64 N] w fun e w' => e = .returned (.int .i64 k) ∧ w' = w)
    (hP : ∀ W, Below w.heap.size w W → Calls Tryz.prog 123 #[.slice (some ⟨g, off, none⟩) k cap, .int .i64 m, .bool whole] W fun e w' => madeL W w' e F)
    (hR : ∀ W, Below w.heap.size w W → Calls Tryz.prog 75 #[.slice (some ⟨g, off + k, none⟩) (N - k) (cap - k)] W fun e w' => e = .returned (.agg (hV R).toArray) ∧ Below W.heap.size W w')
    (htx : ∀ W, Calls Tryz.prog 55 #[.agg (hV R).toArray] W fun e w' => e = .returned (.string R) ∧ Below W.heap.size W w') :
    Calls Tryz.prog 123 #[.slice (some ⟨g, off, none⟩) N cap, .int .i64 m, .bool whole] w fun e w' => madeL w w' e (F ++ [R]) := by
  obtain ⟨i0, hi, hz, hsz, hby⟩ := info_strT
  have k1 : (k : Int) ≤ (N : Int) := by omega
  have k2 : (k : Int) ≤ (cap : Int) := by omega
  have k3 : ¬ cap = k := by omega
  have n1 : ((m : Int) == (N : Int)) = false := by rw [beq_eq_false_iff_ne]; omega
  have ik : (m : Int) ≤ (k : Int) := by omega
  have HP : Hid (∀ W, Below w.heap.size w W → Calls Tryz.prog 123 #[.slice (some ⟨g, off, none⟩) k cap, .int .i64 m, .bool whole] W fun e w' => madeL W w' e F) := hP
  have HR : Hid (∀ W, Below w.heap.size w W → Calls Tryz.prog 75 #[.slice (some ⟨g, off + k, none⟩) (N - k) (cap - k)] W fun e w' => e = .returned (.agg (hV R).toArray) ∧ Below W.heap.size W w') := hR
  have HX : Hid (∀ W, Calls Tryz.prog 55 #[.agg (hV R).toArray] W fun e w' => e = .returned (.string R) ∧ Below W.heap.size W w') := htx
  clear hP hR htx
  go_enter Tryz.func123, Tryz.ntmps123
  go_wp2_with fail
  refine hsp.mono ?_
  rintro e w0 ⟨rfl, hw0⟩
  obtain rfl : w = w0 := hw0.symm
  clear hw0 hsp
  go_wp2_with fail
  have B0 : Below w.heap.size w w.drew := (Below.refl _ _).drew
  refine wp_region_noPanic ?_
  refine wp_region_held_drew (S := fun w' => Below w.heap.size w w') (by kernel_rfl) B0 (fun _ => ?_)
  refine tk 0 B0 ?_
  refine tk 1 B0 ?_
  refine tk 2 B0 ?_
  refine tk 3 B0 ?_
  refine tk 4 B0 ?_
  refine tk 6 B0 ?_
  refine tk 7 B0 ?_
  refine tk 8 B0 ?_
  refine rk 5 (fun K hK => ?_)
  go_simp
  refine (HP.out _ B0).mono ?_
  rintro e w1 ⟨ao, cp, rfl, ho1, hb1⟩
  have B1 : Below w.heap.size w w1 := B0.trans (hb1.mono (Nat.le_refl _))
  have ho1 : w1.ownsRow w.heap.size 9 1 (.slice ao F.length cp) F.length (F.map .string) := ho1
  refine hK.out _ _ B1 (fun _ => ?_)
  clear hK K
  try simp only [qA, qB, qC, Act.put, qD, qE, qF]
  refine rk 9 (fun K hK => ?_)
  go_simp
  refine (HR.out _ B1).mono ?_
  rintro e w2 ⟨rfl, hb2⟩
  have B2 : Below w.heap.size w w2 := B1.trans (hb2.mono B1.size)
  have ho2 := own_below' ho1 hb2
  refine hK.out _ _ B2 (fun _ => ?_)
  clear hK K
  try simp only [qA, qB, qC, Act.put, qD, qE, qF]
  refine rk 10 (fun K hK => ?_)
  go_simp
  refine (HX.out _).mono ?_
  rintro e w3 ⟨rfl, hb3⟩
  have B3 : Below w.heap.size w w3 := B2.trans (hb3.mono B2.size)
  have ho3 := own_below' ho2 hb3
  refine hK.out _ _ B3 (fun _ => ?_)
  clear hK K
  try simp only [qA, qB, qC, Act.put, qD, qE, qF]
  refine rk 11 (fun K hK => ?_)
  go_simp
  have hb4 : Below w3.heap.size w3 (w3.alloc (.cells #[.string R] 9)) := (Below.refl _ _).alloc (Nat.le_refl _) _
  have B4 : Below w.heap.size w (w3.alloc (.cells #[.string R] 9)) := B3.trans (hb4.mono B3.size)
  have ho4 := own_below' ho3 hb4
  have hnews : ∀ j u, [Value.string R][j]? = some u → (w3.alloc (.cells #[.string R] 9)).cell? ((⟨w3.heap.size, 0, none⟩ : Addr).add j) = some u := World.news_of_block (heap_alloc_new w3 (.cells #[.string R] 9))
  refine hK.out _ _ B4 (fun _ => ?_)
  clear hK K
  try simp only [qA, qB, qC, Act.put, qD, qE, qF]
  refine rk 12 (fun K hK => ?_)
  refine wp_append_lies _ (.tmp 28) (.tmp 34) 51 rfl w.heap.size 9 i0 _ 1 16 Tryz.underlying51 hi hz hsz hby rfl (by decide) (.slice ao F.length cp) F.length _ rfl ho4 ⟨w3.heap.size, 0, none⟩ 1 1 [.string R] rfl rfl hnews (by simp [Value.oneCell']) (by decide) (by unfold maxLen; omega) (by omega) B4.size _ rfl ?_
  intro g2 cap2 w5 ho5 hgr5 hat5 hlt5
  have B5 : Below w.heap.size w w5 := B4.trans ((Below.refl _ _).grown hgr5 B4.size (fun k hk => (ho4.lt k hk).1))
  refine hK.out _ _ B5 (fun _ => ?_)
  clear hK K
  try simp only [qA, qB, qC, Act.put, qD, qE, qF]
  refine rk 13 (fun K hK => ?_)
  go_simp
  refine hK.out _ _ B5 (fun _ => ?_)
  clear hK K
  refine ⟨by kernel_rfl, ?_⟩
  refine NoPanic.normal ?_
  try simp only [qA, qB, qC, Act.put, qD, qE, qF]
  go_wp2_with fail
  go_ret
  refine ⟨some ⟨g2, 0, none⟩, cap2, by simp, by simpa using ho5, B5⟩

set_option maxRecDepth 10000 in
set_option maxHeartbeats 1000000 in
theorem grown_right (g off cap N k m : Nat) (whole : Bool) (w : World) (F : List ByteArray) (R : ByteArray) (hN : N ≤ 2147483647) (hk0 : 0 < k) (hk1 : k < N) (hcap : N ≤ cap) (hmk : k < m) (hmN : m < N) (hFl : F.length ≤ N - k)
    (hsp : Calls Tryz.prog 112 #[.int .i64 N] w fun e w' => e = .returned (.int .i64 k) ∧ w' = w)
    (hP : ∀ W, Below w.heap.size w W → Calls Tryz.prog 123 #[.slice (some ⟨g, off + k, none⟩) (N - k) (cap - k), .int .i64 ((m : Int) - (k : Int)), .bool false] W fun e w' => madeL W w' e F)
    (hR : ∀ W, Below w.heap.size w W → Calls Tryz.prog 75 #[.slice (some ⟨g, off, none⟩) k cap] W fun e w' => e = .returned (.agg (hV R).toArray) ∧ Below W.heap.size W w')
    (htx : ∀ W, Calls Tryz.prog 55 #[.agg (hV R).toArray] W fun e w' => e = .returned (.string R) ∧ Below W.heap.size W w') :
    Calls Tryz.prog 123 #[.slice (some ⟨g, off, none⟩) N cap, .int .i64 m, .bool whole] w fun e w' => madeL w w' e (F ++ [R]) := by
  obtain ⟨i0, hi, hz, hsz, hby⟩ := info_strT
  have k1 : (k : Int) ≤ (N : Int) := by omega
  have k2 : (k : Int) ≤ (cap : Int) := by omega
  have k3 : ¬ cap = k := by omega
  have n1 : ((m : Int) == (N : Int)) = false := by rw [beq_eq_false_iff_ne]; omega
  have ik : ¬ (m : Int) ≤ (k : Int) := by omega
  have ik2 : (m : Int) < (N : Int) := by omega
  have ik3 : (k : Int) < (m : Int) := by omega
  have hwr : IntKind.i64.wrap ((m : Int) - (k : Int)) = (m : Int) - (k : Int) := wrap_small _ (by omega) (by omega)
  have HP : Hid (∀ W, Below w.heap.size w W → Calls Tryz.prog 123 #[.slice (some ⟨g, off + k, none⟩) (N - k) (cap - k), .int .i64 ((m : Int) - (k : Int)), .bool false] W fun e w' => madeL W w' e F) := hP
  have HR : Hid (∀ W, Below w.heap.size w W → Calls Tryz.prog 75 #[.slice (some ⟨g, off, none⟩) k cap] W fun e w' => e = .returned (.agg (hV R).toArray) ∧ Below W.heap.size W w') := hR
  have HX : Hid (∀ W, Calls Tryz.prog 55 #[.agg (hV R).toArray] W fun e w' => e = .returned (.string R) ∧ Below W.heap.size W w') := htx
  clear hP hR htx
  go_enter Tryz.func123, Tryz.ntmps123
  go_wp2_with fail
  refine hsp.mono ?_
  rintro e w0 ⟨rfl, hw0⟩
  obtain rfl : w = w0 := hw0.symm
  clear hw0 hsp
  go_wp2_with fail
  have B0 : Below w.heap.size w w.drew := (Below.refl _ _).drew
  refine wp_region_noPanic ?_
  refine wp_region_held_drew (S := fun w' => Below w.heap.size w w') (by kernel_rfl) B0 (fun _ => ?_)
  refine tk 0 B0 ?_
  refine tk 1 B0 ?_
  refine tk 2 B0 ?_
  refine tk 3 B0 ?_
  refine tk 4 B0 ?_
  refine tk 5 B0 ?_
  refine tk 7 B0 ?_
  refine tk 8 B0 ?_
  refine tk 9 B0 ?_
  refine rk 6 (fun K hK => ?_)
  go_simp
  refine (HP.out _ B0).mono ?_
  rintro e w1 ⟨ao, cp, rfl, ho1, hb1⟩
  have B1 : Below w.heap.size w w1 := B0.trans (hb1.mono (Nat.le_refl _))
  have ho1 : w1.ownsRow w.heap.size 9 1 (.slice ao F.length cp) F.length (F.map .string) := ho1
  refine hK.out _ _ B1 (fun _ => ?_)
  clear hK K
  try simp only [qA, qB, qC, Act.put, qD, qE, qF]
  refine rk 10 (fun K hK => ?_)
  go_simp
  refine (HR.out _ B1).mono ?_
  rintro e w2 ⟨rfl, hb2⟩
  have B2 : Below w.heap.size w w2 := B1.trans (hb2.mono B1.size)
  have ho2 := own_below' ho1 hb2
  refine hK.out _ _ B2 (fun _ => ?_)
  clear hK K
  try simp only [qA, qB, qC, Act.put, qD, qE, qF]
  refine rk 11 (fun K hK => ?_)
  go_simp
  refine (HX.out _).mono ?_
  rintro e w3 ⟨rfl, hb3⟩
  have B3 : Below w.heap.size w w3 := B2.trans (hb3.mono B2.size)
  have ho3 := own_below' ho2 hb3
  refine hK.out _ _ B3 (fun _ => ?_)
  clear hK K
  try simp only [qA, qB, qC, Act.put, qD, qE, qF]
  refine rk 12 (fun K hK => ?_)
  go_simp
  have hb4 : Below w3.heap.size w3 (w3.alloc (.cells #[.string R] 9)) := (Below.refl _ _).alloc (Nat.le_refl _) _
  have B4 : Below w.heap.size w (w3.alloc (.cells #[.string R] 9)) := B3.trans (hb4.mono B3.size)
  have ho4 := own_below' ho3 hb4
  have hnews : ∀ j u, [Value.string R][j]? = some u → (w3.alloc (.cells #[.string R] 9)).cell? ((⟨w3.heap.size, 0, none⟩ : Addr).add j) = some u := World.news_of_block (heap_alloc_new w3 (.cells #[.string R] 9))
  refine hK.out _ _ B4 (fun _ => ?_)
  clear hK K
  try simp only [qA, qB, qC, Act.put, qD, qE, qF]
  refine rk 13 (fun K hK => ?_)
  refine wp_append_lies _ (.tmp 42) (.tmp 48) 51 rfl w.heap.size 9 i0 _ 1 16 Tryz.underlying51 hi hz hsz hby rfl (by decide) (.slice ao F.length cp) F.length _ rfl ho4 ⟨w3.heap.size, 0, none⟩ 1 1 [.string R] rfl rfl hnews (by simp [Value.oneCell']) (by decide) (by unfold maxLen; omega) (by omega) B4.size _ rfl ?_
  intro g2 cap2 w5 ho5 hgr5 hat5 hlt5
  have B5 : Below w.heap.size w w5 := B4.trans ((Below.refl _ _).grown hgr5 B4.size (fun k hk => (ho4.lt k hk).1))
  refine hK.out _ _ B5 (fun _ => ?_)
  clear hK K
  try simp only [qA, qB, qC, Act.put, qD, qE, qF]
  refine rk 14 (fun K hK => ?_)
  go_simp
  refine hK.out _ _ B5 (fun _ => ?_)
  clear hK K
  refine ⟨by kernel_rfl, ?_⟩
  refine NoPanic.normal ?_
  try simp only [qA, qB, qC, Act.put, qD, qE, qF]
  go_wp2_with fail
  go_ret
  refine ⟨some ⟨g2, 0, none⟩, cap2, by simp, by simpa using ho5, B5⟩

/-- The program's grown: the hashes by which a tree is proved to have grown. -/
theorem grown_any (K : Nat → Int) : ∀ (n : Nat) (ls : List ByteArray) (v : Value) (m : Nat) (whole : Bool) (w : World), ls.length = n → 0 < m → m ≤ n → n ≤ 2147483647 → LeafAt w v ls → (∀ s ∈ ls, s.size ≤ 140737488355000) → Tab K w →
    Calls Tryz.prog 123 #[v, .int .i64 m, .bool whole] w fun e w' => madeL w w' e (grownF (sumOf K) ls m whole) := by
  intro n
  induction n using Nat.strongRecOn with
  | _ n ih =>
  intro ls v m whole w hn hm0 hmn hn1 hl hs T
  have hszF : ∀ l, (rootF (sumOf K) l).size = 32 := rootF_size (sumOf K) (sumOf_size K)
  by_cases h1 : m = n
  · rw [grownF_all _ whole (by omega)]
    have hr := root_all K ls v w (by omega) hl hs T
    obtain ⟨ao, cap, rfl⟩ := leaf_form hl
    rw [h1, ← hn]
    cases whole
    · exact grown_all ao cap ls.length w _ hr (htx_any _ (hszF _))
    · exact grown_known ao cap ls.length w
  · obtain ⟨g, off, cap, rfl, hcap, hc⟩ : ∃ g off cap, v = .slice (some ⟨g, off, none⟩) ls.length cap ∧ ls.length ≤ cap ∧ ∀ j (h : j < ls.length), w.cell? ⟨g, off + j, none⟩ = some (.string (ls[j]'h)) := by
      rcases hl with ⟨rfl, _⟩ | h
      · simp at hn; omega
      · exact h
    have h2 : 2 ≤ ls.length := by omega
    have hk0 := halfN_pos ls.length
    have hk1 := halfN_lt h2
    have lT : ∀ W, Below w.heap.size w W → LeafAt W (.slice (some ⟨g, off, none⟩) (halfN ls.length) cap) (ls.take (halfN ls.length)) := fun W J => (leaf_take _ (by omega) hcap hc).below J
    have lD : ∀ W, Below w.heap.size w W → LeafAt W (.slice (some ⟨g, off + halfN ls.length, none⟩) (ls.length - halfN ls.length) (cap - halfN ls.length)) (ls.drop (halfN ls.length)) := fun W J => (leaf_drop _ (by omega) hcap hc).below J
    have sT : ∀ s ∈ ls.take (halfN ls.length), s.size ≤ 140737488355000 := fun s hs' => hs s (List.mem_of_mem_take hs')
    have sD : ∀ s ∈ ls.drop (halfN ls.length), s.size ≤ 140737488355000 := fun s hs' => hs s (List.mem_of_mem_drop hs')
    have nT : (ls.take (halfN ls.length)).length = halfN ls.length := by simp; omega
    have nD : (ls.drop (halfN ls.length)).length = ls.length - halfN ls.length := by simp
    by_cases hik : m ≤ halfN ls.length
    · rw [grownF_left (sumOf K) whole hm0 (by omega) hik]
      exact grown_left g off cap ls.length (halfN ls.length) m whole w _ _ (by omega) hk0 hk1 hcap hik (grownF_len (sumOf K) _ _ m whole nT hm0 hik) (split_any ls.length w h2 (by omega))
        (fun W J => ih (halfN ls.length) (by omega) (ls.take (halfN ls.length)) _ m whole W nT hm0 hik (by omega) (lT W J) sT (T.below J))
        (fun W J => root_any K _ (ls.drop (halfN ls.length)) _ W nD (by omega) (by omega) (lD W J) sD (T.below J)) (htx_any _ (hszF _))
    · rw [grownF_right (sumOf K) whole hm0 (by omega) hik]
      exact grown_right g off cap ls.length (halfN ls.length) m whole w _ _ (by omega) hk0 hk1 hcap (by omega) (by omega) (grownF_len (sumOf K) _ _ _ _ nD (by omega) (by omega)) (split_any ls.length w h2 (by omega))
        (fun W J => by
          have := ih (ls.length - halfN ls.length) (by omega) (ls.drop (halfN ls.length)) _ (m - halfN ls.length) false W nD (by omega) (by omega) (by omega) (lD W J) sD (T.below J)
          rw [show ((m - halfN ls.length : Nat) : Int) = (m : Int) - (halfN ls.length : Int) by omega] at this
          exact this)
        (fun W J => root_any K _ (ls.take (halfN ls.length)) _ W nT hk0 (by omega) (lT W J) sT (T.below J)) (htx_any _ (hszF _))

/-- What Consistency answers. -/
def consF (H : ByteArray → ByteArray) (l : List ByteArray) (m : Nat) : List ByteArray := if m = 0 then [] else grownF H l m true
def consPost (w : World) (F : List ByteArray) (e : Ending) (w' : World) : Prop := ∃ ao cap, e = .returned (.tuple #[.slice ao F.length cap, .nilIface]) ∧ w'.ownsRow w.heap.size 9 1 (.slice ao F.length cap) F.length (F.map .string) ∧ Below w.heap.size w w'

set_option maxRecDepth 10000 in
set_option maxHeartbeats 400000 in
theorem cons_tree (K : Nat → Int) (ls : List ByteArray) (v : Value) (m : Nat) (w : World) (hm : m ≤ ls.length) (hn1 : ls.length ≤ 2147483647) (hl : LeafAt w v ls) (hs : ∀ s ∈ ls, s.size ≤ 140737488355000) (T : Tab K w) :
    Calls Tryz.prog 80 #[v, .int .i64 m] w (consPost w (consF (sumOf K) ls m)) := by
  by_cases h0 : m = 0
  · subst h0
    obtain ⟨ao, cap, rfl⟩ := leaf_form hl
    have hc : consF (sumOf K) ls 0 = [] := by unfold consF; rw [if_pos rfl]
    rw [hc]
    clear hl hs T hm hc
    generalize ls.length = N at *
    have i1 : ¬ (N : Int) < 0 := by omega
    go_enter Tryz.func80, Tryz.ntmps80
    go_wp2_with fail
    go_ret2
    exact ⟨none, 0, rfl, World.ownsRow_nil _ _ _ _, Below.refl _ _⟩
  · have hg := grown_any K _ ls v m true w rfl (by omega) hm hn1 hl hs T
    have hc : consF (sumOf K) ls m = grownF (sumOf K) ls m true := by unfold consF; rw [if_neg h0]
    rw [hc]
    obtain ⟨ao, cap, rfl⟩ := leaf_form hl
    generalize grownF (sumOf K) ls m true = F at *
    clear hl hs T hc
    generalize ls.length = N at *
    have i0 : ¬ (m : Int) < 0 := by omega
    have i1 : ¬ (N : Int) < (m : Int) := by omega
    have i2 : ((m : Int) == 0) = false := by rw [beq_eq_false_iff_ne]; omega
    go_enter Tryz.func80, Tryz.ntmps80
    go_wp2_with fail
    refine hg.mono ?_
    rintro e w1 ⟨ao2, cp, rfl, ho, hb⟩
    clear hg
    go_wp2_with fail
    go_ret2
    exact ⟨ao2, cp, rfl, ho, hb⟩

theorem own_downA {w : World} {B B' k : Nat} {e : TypeId} {v : Value} {n : Nat} {xs : List Value} (h : w.ownsRow B e k v n xs) (hB : B' ≤ B) : w.ownsRow B' e k v n xs := by
  refine ⟨h.1, ?_⟩
  rcases h.2 with h0 | ⟨g, cap, cur, e1, e2, e3⟩
  · exact Or.inl h0
  · exact Or.inr ⟨g, cap, cur, e1, by omega, e3⟩
/-- The events of a log. -/
def evs (K : Nat → Int) (L : List En) : List ByteArray := L.map (evT K)
theorem evs_len (K : Nat → Int) (L : List En) : (evs K L).length = L.length := by unfold evs; simp
theorem evs_small (K : Nat → Int) (L : List En) (n : Nat) : ∀ s ∈ (evs K L).take n, s.size ≤ 140737488355000 := by
  intro s hs
  have := List.mem_of_mem_take hs
  unfold evs at this
  rw [List.mem_map] at this
  obtain ⟨e, _, rfl⟩ := this
  rw [evT_size]; omega
theorem PartAt.evs {B N : Nat} {K : Nat → Int} {L : List En} {w0 w : World} (H : PartAt B N N (evF K L) w0 w) (hN : N ≤ L.length) : LeafAt w (.slice (some ⟨B, 0, none⟩) N N) ((evs K L).take N) := by
  have := H.leaf
  rw [evF_all K L N hN] at this
  unfold Go.Proofs.YteglimjonofdeaaGreatDoor.evs
  rwa [← List.map_take]

set_option maxRecDepth 10000 in
set_option maxHeartbeats 1000000 in
theorem nfirst_any (K : Nat → Int) (z : Nv) (nd q bb N j u : Nat) (C : Nat → List Int) (l : ByteArray) (bk lm m cc ky : Nat) (lv : Value) (L : List En) (G F : Nat → Prop) (D : DataW Unit) (n : Nat) (w : World) (h : Al K w z nd q bb N j u C l bk lm m cc ky lv L G F D) (hz : z.r = z.last) (hn : n ≤ L.length) (hL : L.length ≤ 1000) (hw : ∀ e ∈ L, e.whole) :
    Calls Tryz.prog 79 #[.pointer (some ⟨nd, 0, none⟩), .int .i64 (n : Nat)] w fun e w' => ∃ B, e = .returned (.tuple #[.slice (some ⟨B, 0, none⟩) n n, .nilIface]) ∧ LeafAt w' (.slice (some ⟨B, 0, none⟩) n n) ((evs K L).take n) ∧ Below w.heap.size w w' := by
  obtain ⟨a, cap, hlv⟩ := h.book.slice
  have hp := nd_place h.node
  have hpl := info_pl z
  have hl := last_any z
  simp only [decide_eq_true hz] at hl
  have HA : Hid (Al K w z nd q bb N j u C l bk lm m cc ky lv L G F D) := h
  have HW : Hid (∀ e ∈ L, e.whole) := hw
  clear h hz hw
  go_enter Tryz.func79, Tryz.ntmps79
  go_wp2_with (first
    | (refine wpList_load_mid rfl 108 _ rfl nd 0 rfl (plL z) _ hp Tryz.underlying108 rfl hpl ?_))
  refine (hl w).mono ?_
  rintro e w1 ⟨rfl, hb1⟩
  have A1 := HA.out.fresh hb1
  have c2 : w1.cell? ⟨nd, 2, none⟩ = some (.pointer (some ⟨bk, 0, none⟩)) := A1.node 2 _ rfl
  have hen := bentries_any bk a L.length cap w1 (by rw [← hlv]; exact A1.book.cells 1 _ rfl)
  have hev := bevents_any K bk j lm m cc ky lv L G F D n w1 A1.book hn hL HW.out A1.tab
  have n0 : ¬ (n : Int) < 0 := by omega
  have n1 : ¬ (L.length : Int) < (n : Int) := by omega
  have HB1 : Hid (Below w.heap.size w w1) := hb1
  clear hp A1 hb1 hl
  go_wp2_with fail
  refine hen.mono ?_
  rintro e w2 ⟨rfl, hw2⟩
  obtain rfl : w1 = w2 := hw2.symm
  clear hw2 hen
  go_wp2_with fail
  refine hev.mono ?_
  rintro e w3 ⟨rfl, P3⟩
  have HP3 : Hid (PartAt w1.heap.size n n (evF K L) w1 w3) := P3
  clear P3 hev c2
  go_wp2_with fail
  go_ret2
  exact ⟨_, rfl, HP3.out.evs hn, HB1.out.trans (HP3.out.b.mono HB1.out.size)⟩

set_option maxRecDepth 10000 in
set_option maxHeartbeats 1000000 in
theorem nevent_any (K : Nat → Int) (z : Nv) (nd q bb N j u : Nat) (C : Nat → List Int) (l : ByteArray) (bk lm m cc ky : Nat) (lv : Value) (L : List En) (G F : Nat → Prop) (D : DataW Unit) (i n : Nat) (w : World) (h : Al K w z nd q bb N j u C l bk lm m cc ky lv L G F D) (hz : z.r = z.last) (hi : i < n) (hn : n ≤ L.length) (hL : L.length ≤ 1000) (hw : ∀ e ∈ L, e.whole) :
    Calls Tryz.prog 48 #[.pointer (some ⟨nd, 0, none⟩), .int .i64 (i : Nat), .int .i64 (n : Nat)] w fun e w' => ∃ ao cap, e = .returned (.tuple #[.string (evF K L i), .slice ao (inclF (sumOf K) ((evs K L).take n) i).length cap, .nilIface]) ∧ w'.ownsRow w.heap.size 9 1 (.slice ao (inclF (sumOf K) ((evs K L).take n) i).length cap) (inclF (sumOf K) ((evs K L).take n) i).length ((inclF (sumOf K) ((evs K L).take n) i).map .string) ∧ Below w.heap.size w w' := by
  have hf := nfirst_any K z nd q bb N j u C l bk lm m cc ky lv L G F D n w h hz hn hL hw
  have HT : Hid (Tab K w) := h.tab
  have hlen : ((evs K L).take n).length = n := by rw [List.length_take, evs_len]; omega
  have HGET : Hid (((evs K L).take n)[i]? = some (evF K L i)) := by
    show _ = _
    simp [evs, evF, List.getD, List.getElem?_take, hi, List.getElem?_eq_getElem (show i < L.length by omega)]
  have hsm := evs_small K L n
  clear h hz hw
  generalize (evs K L).take n = ls at *
  generalize hFi : inclF (sumOf K) ls i = Fi at *
  have HFI : Hid (inclF (sumOf K) ls i = Fi) := hFi
  clear hFi
  go_enter Tryz.func48, Tryz.ntmps48
  go_wp2_with fail
  refine hf.mono ?_
  rintro e w1 ⟨B, rfl, hl1, hb1⟩
  have hin := tincl_any K ls (.slice (some ⟨B, 0, none⟩) n n) i w1 (by omega) (by omega) hl1 hsm (HT.out.below hb1)
  have HL1 : Hid (LeafAt w1 (.slice (some ⟨B, 0, none⟩) n n) ls) := hl1
  have HB1 : Hid (Below w.heap.size w w1) := hb1
  clear hf hl1 hb1 hsm
  rw [HFI.out] at hin
  go_wp2_with fail
  refine hin.mono ?_
  rintro e w2 ⟨ao, cp, rfl, ho, hb2⟩
  have hl2 := HL1.out.below hb2
  obtain ⟨g, off, cap', e1, hcap, hc⟩ : ∃ g off cap, (Value.slice (some ⟨B, 0, none⟩) n n) = .slice (some ⟨g, off, none⟩) ls.length cap ∧ ls.length ≤ cap ∧ ∀ j (h : j < ls.length), w2.cell? ⟨g, off + j, none⟩ = some (.string (ls[j]'h)) := by
    rcases hl2 with ⟨h0, _⟩ | h
    · rw [h0] at hlen; simp at hlen; omega
    · exact h
  injection e1 with e1 e2 e3
  injection e1 with e1
  injection e1 with e1 e4 e5
  subst e1 e4
  have ci : w2.cell? ⟨B, i, none⟩ = some (.string (evF K L i)) := by
    have := hc i (by omega)
    rw [Nat.zero_add] at this
    rw [this]
    have h2 := HGET.out
    rw [List.getElem?_eq_getElem (show i < ls.length by omega)] at h2
    injection h2 with h2
    rw [h2]
  have i0 : (0 : Int) ≤ (i : Int) := by omega
  have i1 : (i : Int) < (n : Int) := by omega
  have HO : Hid (w2.ownsRow w1.heap.size 9 1 (.slice ao Fi.length cp) Fi.length (Fi.map .string)) := ho
  have HB2 : Hid (Below w1.heap.size w1 w2) := hb2
  clear hin hc hl2 ho hb2 HGET hlen e2 e3 e5
  go_wp2_with fail
  go_ret3
  exact ⟨ao, cp, rfl, own_downA HO.out HB1.out.size, HB1.out.trans (HB2.out.mono HB1.out.size)⟩

set_option maxRecDepth 10000 in
set_option maxHeartbeats 1000000 in
theorem ngrown_any (K : Nat → Int) (z : Nv) (nd q bb N j u : Nat) (C : Nat → List Int) (l : ByteArray) (bk lm m cc ky : Nat) (lv : Value) (L : List En) (G F : Nat → Prop) (D : DataW Unit) (i n : Nat) (w : World) (h : Al K w z nd q bb N j u C l bk lm m cc ky lv L G F D) (hz : z.r = z.last) (hi : i ≤ n) (hn : n ≤ L.length) (hL : L.length ≤ 1000) (hw : ∀ e ∈ L, e.whole) :
    Calls Tryz.prog 41 #[.pointer (some ⟨nd, 0, none⟩), .int .i64 (i : Nat), .int .i64 (n : Nat)] w (consPost w (consF (sumOf K) ((evs K L).take n) i)) := by
  have hf := nfirst_any K z nd q bb N j u C l bk lm m cc ky lv L G F D n w h hz hn hL hw
  have HT : Hid (Tab K w) := h.tab
  have hlen : ((evs K L).take n).length = n := by rw [List.length_take, evs_len]; omega
  have hsm := evs_small K L n
  clear h hz hw
  generalize (evs K L).take n = ls at *
  generalize hFi : consF (sumOf K) ls i = Fi at *
  have HFI : Hid (consF (sumOf K) ls i = Fi) := hFi
  clear hFi
  go_enter Tryz.func41, Tryz.ntmps41
  go_wp2_with fail
  refine hf.mono ?_
  rintro e w1 ⟨B, rfl, hl1, hb1⟩
  have hin := cons_tree K ls (.slice (some ⟨B, 0, none⟩) n n) i w1 (by omega) (by omega) hl1 hsm (HT.out.below hb1)
  have HB1 : Hid (Below w.heap.size w w1) := hb1
  clear hf hl1 hb1 hsm hlen
  rw [HFI.out] at hin
  go_wp2_with fail
  refine hin.mono ?_
  rintro e w2 ⟨ao, cp, rfl, ho, hb2⟩
  have HO : Hid (w2.ownsRow w1.heap.size 9 1 (.slice ao Fi.length cp) Fi.length (Fi.map .string)) := ho
  have HB2 : Hid (Below w1.heap.size w1 w2) := hb2
  clear hin ho hb2
  go_wp2_with fail
  go_ret2
  exact ⟨ao, cp, rfl, own_downA HO.out HB1.out.size, HB1.out.trans (HB2.out.mono HB1.out.size)⟩
end Go.Proofs.YteglimjonofdeaaGreatDoor
