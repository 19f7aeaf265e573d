import Derived.Test.YteglimjonofdeaaGreatDoorTJoinM
set_option linter.unusedVariables false
set_option linter.unusedSimpArgs false
namespace Go.Proofs.YteglimjonofdeaaGreatDoor
open Go.RowKit

theorem inclF_len (H : ByteArray → ByteArray) : ∀ (n : Nat) (ls : List ByteArray) (i : Nat), ls.length = n → (inclF H ls i).length ≤ n := by
  intro n
  induction n using Nat.strongRecOn with
  | _ n ih =>
  intro ls i hn
  by_cases h2 : 2 ≤ ls.length
  · have hk0 := halfN_pos ls.length
    have hk1 := halfN_lt h2
    by_cases hi : i < halfN ls.length
    · rw [inclF_left H h2 hi]
      have := ih (halfN ls.length) (by omega) (ls.take (halfN ls.length)) i (by simp; omega)
      simp; omega
    · rw [inclF_right H h2 hi]
      have := ih (ls.length - halfN ls.length) (by omega) (ls.drop (halfN ls.length)) (i - halfN ls.length) (by simp)
      simp; omega
  · rw [inclF_one H (by omega)]; simp

set_option maxRecDepth 10000 in
set_option maxHeartbeats 400000 in
theorem path_one (g off cap i : Nat) (w : World) : Calls Tryz.prog 129 #[.slice (some ⟨g, off, none⟩) 1 cap, .int .i64 i] w fun e w' => madeL w w' e [] := by
  go_enter Tryz.func129, Tryz.ntmps129
  go_wp2_with fail
  go_ret
  exact ⟨none, 0, rfl, World.ownsRow_nil _ _ _ _, Below.refl _ _⟩

set_option maxRecDepth 10000 in
set_option maxHeartbeats 1000000 in
theorem path_left (g off cap N k i : Nat) (w : World) (F : List ByteArray) (R a : ByteArray) (hN : N ≤ 2147483647) (hk0 : 0 < k) (hk1 : k < N) (hcap : N ≤ cap) (hik : i < k) (hFl : F.length ≤ k)
    (hsp : Calls Tryz.prog 112 #[.int .i64 N] w fun e w' => e = .returned (.int .i64 k) ∧ w' = w)
    (hP : ∀ W, Below w.heap.size w W → Calls Tryz.prog 129 #[.slice (some ⟨g, off, none⟩) k cap, .int .i64 i] W fun e w' => madeL W w' e F)
    (hR : ∀ W, Below w.heap.size w W → Calls Tryz.prog 75 #[.slice (some ⟨g, off + k, none⟩) (N - k) (cap - k)] W fun e w' => e = .returned (.agg (hV R).toArray) ∧ Below W.heap.size W w')
    (htx : ∀ W, Calls Tryz.prog 55 #[.agg (hV R).toArray] W fun e w' => e = .returned (.string R) ∧ Below W.heap.size W w') :
    Calls Tryz.prog 129 #[.slice (some ⟨g, off, none⟩) N cap, .int .i64 i] w fun e w' => madeL w w' e (F ++ [R]) := by
  obtain ⟨i0, hi, hz, hsz, hby⟩ := info_strT
  have k1 : (k : Int) ≤ (N : Int) := by omega
  have k2 : (k : Int) ≤ (cap : Int) := by omega
  have k3 : ¬ cap = k := by omega
  have n1 : ((N : Int) == 1) = false := by rw [beq_eq_false_iff_ne]; omega
  have ik : (i : Int) < (k : Int) := by omega
  have HP : Hid (∀ W, Below w.heap.size w W → Calls Tryz.prog 129 #[.slice (some ⟨g, off, none⟩) k cap, .int .i64 i] W fun e w' => madeL W w' e F) := hP
  have HR : Hid (∀ W, Below w.heap.size w W → Calls Tryz.prog 75 #[.slice (some ⟨g, off + k, none⟩) (N - k) (cap - k)] W fun e w' => e = .returned (.agg (hV R).toArray) ∧ Below W.heap.size W w') := hR
  have HX : Hid (∀ W, Calls Tryz.prog 55 #[.agg (hV R).toArray] W fun e w' => e = .returned (.string R) ∧ Below W.heap.size W w') := htx
  clear hP hR htx
  go_enter Tryz.func129, Tryz.ntmps129
  go_wp2_with fail
  refine hsp.mono ?_
  rintro e w0 ⟨rfl, hw0⟩
  obtain rfl : w = w0 := hw0.symm
  clear hw0 hsp
  go_wp2_with fail
  have B0 : Below w.heap.size w w.drew := (Below.refl _ _).drew
  refine wp_region_noPanic ?_
  refine wp_region_held_drew (S := fun w' => Below w.heap.size w w') (by kernel_rfl) B0 (fun _ => ?_)
  refine tk 0 B0 ?_
  refine tk 1 B0 ?_
  refine tk 2 B0 ?_
  refine tk 3 B0 ?_
  refine tk 5 B0 ?_
  refine tk 6 B0 ?_
  refine tk 7 B0 ?_
  refine rk 4 (fun K hK => ?_)
  go_simp
  refine (HP.out _ B0).mono ?_
  rintro e w1 ⟨ao, cp, rfl, ho1, hb1⟩
  have B1 : Below w.heap.size w w1 := B0.trans (hb1.mono (Nat.le_refl _))
  have ho1 : w1.ownsRow w.heap.size 9 1 (.slice ao F.length cp) F.length (F.map .string) := ho1
  refine hK.out _ _ B1 (fun _ => ?_)
  clear hK K
  try simp only [qA, qB, qC, Act.put, qD, qE, qF]
  refine rk 8 (fun K hK => ?_)
  go_simp
  refine (HR.out _ B1).mono ?_
  rintro e w2 ⟨rfl, hb2⟩
  have B2 : Below w.heap.size w w2 := B1.trans (hb2.mono B1.size)
  have ho2 := own_below' ho1 hb2
  refine hK.out _ _ B2 (fun _ => ?_)
  clear hK K
  try simp only [qA, qB, qC, Act.put, qD, qE, qF]
  refine rk 9 (fun K hK => ?_)
  go_simp
  refine (HX.out _).mono ?_
  rintro e w3 ⟨rfl, hb3⟩
  have B3 : Below w.heap.size w w3 := B2.trans (hb3.mono B2.size)
  have ho3 := own_below' ho2 hb3
  refine hK.out _ _ B3 (fun _ => ?_)
  clear hK K
  try simp only [qA, qB, qC, Act.put, qD, qE, qF]
  refine rk 10 (fun K hK => ?_)
  go_simp
  have hb4 : Below w3.heap.size w3 (w3.alloc (.cells #[.string R] 9)) := (Below.refl _ _).alloc (Nat.le_refl _) _
  have B4 : Below w.heap.size w (w3.alloc (.cells #[.string R] 9)) := B3.trans (hb4.mono B3.size)
  have ho4 := own_below' ho3 hb4
  have hnews : ∀ j u, [Value.string R][j]? = some u → (w3.alloc (.cells #[.string R] 9)).cell? ((⟨w3.heap.size, 0, none⟩ : Addr).add j) = some u := World.news_of_block (heap_alloc_new w3 (.cells #[.string R] 9))
  refine hK.out _ _ B4 (fun _ => ?_)
  clear hK K
  try simp only [qA, qB, qC, Act.put, qD, qE, qF]
  refine rk 11 (fun K hK => ?_)
  refine wp_append_lies _ (.tmp 19) (.tmp 25) 51 rfl w.heap.size 9 i0 _ 1 16 Tryz.underlying51 hi hz hsz hby rfl (by decide) (.slice ao F.length cp) F.length _ rfl ho4 ⟨w3.heap.size, 0, none⟩ 1 1 [.string R] rfl rfl hnews (by simp [Value.oneCell']) (by decide) (by unfold maxLen; omega) (by omega) B4.size _ rfl ?_
  intro g2 cap2 w5 ho5 hgr5 hat5 hlt5
  have B5 : Below w.heap.size w w5 := B4.trans ((Below.refl _ _).grown hgr5 B4.size (fun k hk => (ho4.lt k hk).1))
  refine hK.out _ _ B5 (fun _ => ?_)
  clear hK K
  try simp only [qA, qB, qC, Act.put, qD, qE, qF]
  refine rk 12 (fun K hK => ?_)
  go_simp
  refine hK.out _ _ B5 (fun _ => ?_)
  clear hK K
  refine ⟨by kernel_rfl, ?_⟩
  refine NoPanic.normal ?_
  try simp only [qA, qB, qC, Act.put, qD, qE, qF]
  go_wp2_with fail
  go_ret
  refine ⟨some ⟨g2, 0, none⟩, cap2, by simp, by simpa using ho5, B5⟩
set_option maxRecDepth 10000 in
set_option maxHeartbeats 1000000 in
theorem path_right (g off cap N k i : Nat) (w : World) (F : List ByteArray) (R a : ByteArray) (hN : N ≤ 2147483647) (hk0 : 0 < k) (hk1 : k < N) (hcap : N ≤ cap) (hik : k ≤ i) (hiN : i < N) (hFl : F.length ≤ N - k)
    (hsp : Calls Tryz.prog 112 #[.int .i64 N] w fun e w' => e = .returned (.int .i64 k) ∧ w' = w)
    (hP : ∀ W, Below w.heap.size w W → Calls Tryz.prog 129 #[.slice (some ⟨g, off + k, none⟩) (N - k) (cap - k), .int .i64 ((i : Int) - (k : Int))] W fun e w' => madeL W w' e F)
    (hR : ∀ W, Below w.heap.size w W → Calls Tryz.prog 75 #[.slice (some ⟨g, off, none⟩) k cap] W fun e w' => e = .returned (.agg (hV R).toArray) ∧ Below W.heap.size W w')
    (htx : ∀ W, Calls Tryz.prog 55 #[.agg (hV R).toArray] W fun e w' => e = .returned (.string R) ∧ Below W.heap.size W w') :
    Calls Tryz.prog 129 #[.slice (some ⟨g, off, none⟩) N cap, .int .i64 i] w fun e w' => madeL w w' e (F ++ [R]) := by
  obtain ⟨i0, hi, hz, hsz, hby⟩ := info_strT
  have k1 : (k : Int) ≤ (N : Int) := by omega
  have k2 : (k : Int) ≤ (cap : Int) := by omega
  have k3 : ¬ cap = k := by omega
  have n1 : ((N : Int) == 1) = false := by rw [beq_eq_false_iff_ne]; omega
  have ik : ¬ (i : Int) < (k : Int) := by omega
  have ik2 : (i : Int) < (N : Int) := by omega
  have ik3 : (k : Int) ≤ (i : Int) := by omega
  have hwr : IntKind.i64.wrap ((i : Int) - (k : Int)) = (i : Int) - (k : Int) := wrap_small _ (by omega) (by omega)
  have HP : Hid (∀ W, Below w.heap.size w W → Calls Tryz.prog 129 #[.slice (some ⟨g, off + k, none⟩) (N - k) (cap - k), .int .i64 ((i : Int) - (k : Int))] W fun e w' => madeL W w' e F) := hP
  have HR : Hid (∀ W, Below w.heap.size w W → Calls Tryz.prog 75 #[.slice (some ⟨g, off, none⟩) k cap] W fun e w' => e = .returned (.agg (hV R).toArray) ∧ Below W.heap.size W w') := hR
  have HX : Hid (∀ W, Calls Tryz.prog 55 #[.agg (hV R).toArray] W fun e w' => e = .returned (.string R) ∧ Below W.heap.size W w') := htx
  clear hP hR htx
  go_enter Tryz.func129, Tryz.ntmps129
  go_wp2_with fail
  refine hsp.mono ?_
  rintro e w0 ⟨rfl, hw0⟩
  obtain rfl : w = w0 := hw0.symm
  clear hw0 hsp
  go_wp2_with fail
  have B0 : Below w.heap.size w w.drew := (Below.refl _ _).drew
  refine wp_region_noPanic ?_
  refine wp_region_held_drew (S := fun w' => Below w.heap.size w w') (by kernel_rfl) B0 (fun _ => ?_)
  refine tk 0 B0 ?_
  refine tk 1 B0 ?_
  refine tk 2 B0 ?_
  refine tk 3 B0 ?_
  refine tk 4 B0 ?_
  refine tk 5 B0 ?_
  refine tk 7 B0 ?_
  refine tk 8 B0 ?_
  refine tk 9 B0 ?_
  refine rk 6 (fun K hK => ?_)
  go_simp
  refine (HP.out _ B0).mono ?_
  rintro e w1 ⟨ao, cp, rfl, ho1, hb1⟩
  have B1 : Below w.heap.size w w1 := B0.trans (hb1.mono (Nat.le_refl _))
  have ho1 : w1.ownsRow w.heap.size 9 1 (.slice ao F.length cp) F.length (F.map .string) := ho1
  refine hK.out _ _ B1 (fun _ => ?_)
  clear hK K
  try simp only [qA, qB, qC, Act.put, qD, qE, qF]
  refine rk 10 (fun K hK => ?_)
  go_simp
  refine (HR.out _ B1).mono ?_
  rintro e w2 ⟨rfl, hb2⟩
  have B2 : Below w.heap.size w w2 := B1.trans (hb2.mono B1.size)
  have ho2 := own_below' ho1 hb2
  refine hK.out _ _ B2 (fun _ => ?_)
  clear hK K
  try simp only [qA, qB, qC, Act.put, qD, qE, qF]
  refine rk 11 (fun K hK => ?_)
  go_simp
  refine (HX.out _).mono ?_
  rintro e w3 ⟨rfl, hb3⟩
  have B3 : Below w.heap.size w w3 := B2.trans (hb3.mono B2.size)
  have ho3 := own_below' ho2 hb3
  refine hK.out _ _ B3 (fun _ => ?_)
  clear hK K
  try simp only [qA, qB, qC, Act.put, qD, qE, qF]
  refine rk 12 (fun K hK => ?_)
  go_simp
  have hb4 : Below w3.heap.size w3 (w3.alloc (.cells #[.string R] 9)) := (Below.refl _ _).alloc (Nat.le_refl _) _
  have B4 : Below w.heap.size w (w3.alloc (.cells #[.string R] 9)) := B3.trans (hb4.mono B3.size)
  have ho4 := own_below' ho3 hb4
  have hnews : ∀ j u, [Value.string R][j]? = some u → (w3.alloc (.cells #[.string R] 9)).cell? ((⟨w3.heap.size, 0, none⟩ : Addr).add j) = some u := World.news_of_block (heap_alloc_new w3 (.cells #[.string R] 9))
  refine hK.out _ _ B4 (fun _ => ?_)
  clear hK K
  try simp only [qA, qB, qC, Act.put, qD, qE, qF]
  refine rk 13 (fun K hK => ?_)
  refine wp_append_lies _ (.tmp 33) (.tmp 39) 51 rfl w.heap.size 9 i0 _ 1 16 Tryz.underlying51 hi hz hsz hby rfl (by decide) (.slice ao F.length cp) F.length _ rfl ho4 ⟨w3.heap.size, 0, none⟩ 1 1 [.string R] rfl rfl hnews (by simp [Value.oneCell']) (by decide) (by unfold maxLen; omega) (by omega) B4.size _ rfl ?_
  intro g2 cap2 w5 ho5 hgr5 hat5 hlt5
  have B5 : Below w.heap.size w w5 := B4.trans ((Below.refl _ _).grown hgr5 B4.size (fun k hk => (ho4.lt k hk).1))
  refine hK.out _ _ B5 (fun _ => ?_)
  clear hK K
  try simp only [qA, qB, qC, Act.put, qD, qE, qF]
  refine rk 14 (fun K hK => ?_)
  go_simp
  refine hK.out _ _ B5 (fun _ => ?_)
  clear hK K
  refine ⟨by kernel_rfl, ?_⟩
  refine NoPanic.normal ?_
  try simp only [qA, qB, qC, Act.put, qD, qE, qF]
  go_wp2_with fail
  go_ret
  refine ⟨some ⟨g2, 0, none⟩, cap2, by simp, by simpa using ho5, B5⟩
theorem path_any (K : Nat → Int) : ∀ (n : Nat) (ls : List ByteArray) (v : Value) (i : Nat) (w : World), ls.length = n → i < n → n ≤ 2147483647 → LeafAt w v ls → (∀ s ∈ ls, s.size ≤ 140737488355000) → Tab K w →
    Calls Tryz.prog 129 #[v, .int .i64 i] w fun e w' => madeL w w' e (inclF (sumOf K) ls i) := by
  intro n
  induction n using Nat.strongRecOn with
  | _ n ih =>
  intro ls v i w hn hin hn1 hl hs T
  obtain ⟨g, off, cap, rfl, hcap, hc⟩ : ∃ g off cap, v = .slice (some ⟨g, off, none⟩) ls.length cap ∧ ls.length ≤ cap ∧ ∀ j (h : j < ls.length), w.cell? ⟨g, off + j, none⟩ = some (.string (ls[j]'h)) := by
    rcases hl with ⟨rfl, _⟩ | h
    · simp at hn; omega
    · exact h
  have hszF : ∀ l, (rootF (sumOf K) l).size = 32 := rootF_size (sumOf K) (sumOf_size K)
  by_cases h1 : n = 1
  · have h1' : ls.length = 1 := by omega
    rw [inclF_one (sumOf K) (by omega), h1']
    exact path_one g off cap i w
  · have h2 : 2 ≤ ls.length := by omega
    have hk0 := halfN_pos ls.length
    have hk1 := halfN_lt h2
    have lT : ∀ W, Below w.heap.size w W → LeafAt W (.slice (some ⟨g, off, none⟩) (halfN ls.length) cap) (ls.take (halfN ls.length)) := fun W J => (leaf_take _ (by omega) hcap hc).below J
    have lD : ∀ W, Below w.heap.size w W → LeafAt W (.slice (some ⟨g, off + halfN ls.length, none⟩) (ls.length - halfN ls.length) (cap - halfN ls.length)) (ls.drop (halfN ls.length)) := fun W J => (leaf_drop _ (by omega) hcap hc).below J
    have sT : ∀ s ∈ ls.take (halfN ls.length), s.size ≤ 140737488355000 := fun s hs' => hs s (List.mem_of_mem_take hs')
    have sD : ∀ s ∈ ls.drop (halfN ls.length), s.size ≤ 140737488355000 := fun s hs' => hs s (List.mem_of_mem_drop hs')
    have nT : (ls.take (halfN ls.length)).length = halfN ls.length := by simp; omega
    have nD : (ls.drop (halfN ls.length)).length = ls.length - halfN ls.length := by simp
    by_cases hik : i < halfN ls.length
    · rw [inclF_left (sumOf K) h2 hik]
      exact path_left g off cap ls.length (halfN ls.length) i w _ _ ⟨#[]⟩ (by omega) hk0 hk1 hcap hik (inclF_len (sumOf K) _ _ i nT) (split_any ls.length w h2 (by omega))
        (fun W J => ih (halfN ls.length) (by omega) (ls.take (halfN ls.length)) _ i W nT hik (by omega) (lT W J) sT (T.below J))
        (fun W J => root_any K _ (ls.drop (halfN ls.length)) _ W nD (by omega) (by omega) (lD W J) sD (T.below J)) (htx_any _ (hszF _))
    · rw [inclF_right (sumOf K) h2 hik]
      exact path_right g off cap ls.length (halfN ls.length) i w _ _ ⟨#[]⟩ (by omega) hk0 hk1 hcap (by omega) (by omega) (inclF_len (sumOf K) _ _ _ nD) (split_any ls.length w h2 (by omega))
        (fun W J => by
          have := ih (ls.length - halfN ls.length) (by omega) (ls.drop (halfN ls.length)) _ (i - halfN ls.length) W nD (by omega) (by omega) (lD W J) sD (T.below J)
          rw [show ((i - halfN ls.length : Nat) : Int) = (i : Int) - (halfN ls.length : Int) by omega] at this
          exact this)
        (fun W J => root_any K _ (ls.take (halfN ls.length)) _ W nT hk0 (by omega) (lT W J) sT (T.below J)) (htx_any _ (hszF _))

theorem build_h32t (w : World) : (Instr.build 104 #[]).run Tryz.prog w = .ok (.agg z32.toArray) w := by kernel_rfl
theorem z32_onet : ∀ u ∈ z32, u.oneCell' = true := by decide
theorem z32_len : z32.length = 32 := rfl
theorem z32_info : (Tryz.prog.info? 104).map (·.size) = some z32.length := info_hash
theorem str_cells (s : ByteArray) : (s.data.toList.map fun x => Value.int .u8 (x.toNat : Int)) = hV s := by unfold hV bytesV numsOf; rw [List.map_map]; rfl

set_option maxHeartbeats 400000 in
theorem read_no (s : ByteArray) (w : World) (h : s.size ≠ 32) :
    Calls Tryz.prog 125 #[.string s] w fun e w' => e = .returned (.tuple #[.agg z32.toArray, .bool false]) ∧ Below w.heap.size w w' := by
  have hb : ((s.size : Int) != 32) = true := by rw [bne_iff_ne]; omega
  have ht := (rs_new w).t
  go_enter Tryz.func125, Tryz.ntmps125
  go_wp2_with (first | (refine wpList_alloc_of rfl 104 rfl z32.toArray alloc_32 ?_) | (refine wpList_build_of rfl 104 rfl z32.toArray build_h32t ?_) | (refine wpList_store_abs rfl 104 _ _ rfl w.heap.size 0 z32 rfl rfl ht z32_info z32_onet ?_; intro w1 _hw1 hr1 ht1 hb1; clear _hw1))
  exact ret_cell_tmp rfl w.heap.size 0 z32 _ (.bool false) rfl rfl hr1 Tryz.underlying104 rfl z32_info rfl ⟨rfl, ((Below.refl _ _).alloc (Nat.le_refl _) _).trans (hb1 _ (Nat.le_refl _))⟩

set_option maxRecDepth 10000 in
set_option maxHeartbeats 400000 in
theorem read_yes (s : ByteArray) (w : World) (h : s.size = 32) :
    Calls Tryz.prog 125 #[.string s] w fun e w' => e = .returned (.tuple #[.agg (hV s).toArray, .bool true]) ∧ Below w.heap.size w w' := by
  have hb : ((s.size : Int) != 32) = false := by rw [h]; rfl
  obtain ⟨wA, hwA⟩ : ∃ wA, wA = (w.alloc (.cells z32.toArray 104)).alloc (.cells z32.toArray 104) := ⟨_, rfl⟩
  have htA : wA.there (w.heap.size + 1) 0 32 := by
    rw [hwA]; have := there_z32 (w.alloc (.cells z32.toArray 104)); simpa using this
  have htB : wA.there w.heap.size 0 32 := by
    rw [hwA]; exact there_below ((Below.refl _ _).alloc (by simp) _) (Nat.lt_succ_self _) (there_z32 w)
  have hbA : Below w.heap.size w wA := by rw [hwA]; exact ((Below.refl _ _).alloc (Nat.le_refl _) _).alloc (by simp) _
  have hrun := run_copy_string (P := Tryz.prog) wA 85 9 3 5 (w.heap.size + 1) 0 32 32 s Tryz.underlying85 size_byte (by rw [h]; exact Nat.le_refl _) (fun j hj => by simpa using (htA j (by omega)).1) (fun j hj => by simpa using (htA j (by omega)).2)
  rw [str_cells, h] at hrun
  have hl : (hV s).length = 32 := hV_len h
  have hinf := hV_info h
  have hone := hV_one s
  have hrC : (wA.setCells (w.heap.size + 1) 0 (hV s)).rangeAt (w.heap.size + 1) 0 (hV s) := World.rangeAt_setCells_same wA _ 0 (hV s) (by rw [hl]; exact htA)
  have htC : (wA.setCells (w.heap.size + 1) 0 (hV s)).there w.heap.size 0 (hV s).length := by rw [hl]; exact World.there_setCells htB _ _ _
  have hbC : Below w.heap.size w (wA.setCells (w.heap.size + 1) 0 (hV s)) := below_setCells (by omega) _ _ _ hbA
  obtain ⟨wC, hwC⟩ : ∃ wC, wC = wA.setCells (w.heap.size + 1) 0 (hV s) := ⟨_, rfl⟩
  rw [← hwC] at hrun hrC htC hbC
  rw [hwA] at hrun
  clear hwC htA htB hbA hwA hl
  go_enter Tryz.func125, Tryz.ntmps125
  go_wp2_with (first | (refine wpList_alloc_of rfl 104 rfl z32.toArray alloc_32 ?_) | (at_builtin; refine Lib.wpList_copy_run _ rfl _ _ 85 9 rfl _ _ rfl rfl hrun ?_) | (refine wpList_load_mid rfl 104 _ rfl (w.heap.size + 1) 0 rfl (hV s) _ hrC Tryz.underlying104 rfl hinf ?_) | (refine wpList_store_abs rfl 104 _ _ rfl w.heap.size 0 (hV s) rfl rfl htC hinf hone ?_; intro w1 _hw1 hr1 ht1 hb1; clear _hw1))
  exact ret_cell_tmp rfl w.heap.size 0 (hV s) _ (.bool true) rfl rfl hr1 Tryz.underlying104 rfl hinf rfl ⟨rfl, hbC.trans (hb1 _ (Nat.le_refl _))⟩
/-- Three results, the second a row in memory. -/
theorem ret_tmp_cell_tmpt {P : Program} {fn : Func} {R : Ending → World → Prop} {a : Act} {w : World} {t p u : Tmp} {ty : TypeId} (h : fn.results = #[.tmp t, .cell p ty, .tmp u]) (b o : Nat) (cs : List Value) (d : TypeDesc) (x v : Value)
    (ht : a.tmps.getD t undef = x) (hp : a.tmps.getD p undef = .pointer (some ⟨b, o, none⟩)) (hu' : a.tmps.getD u undef = v) (hc : w.rangeAt b o cs) (hu : P.underlying ty = some d) (hd : d.isRow = true) (hi : (P.info? ty).map (·.size) = some cs.length)
    (hdf : a.defers = []) (hR : R (.returned (.tuple #[x, .agg cs.toArray, v])) w) : bodyPost P fn R .ret a w := by
  refine bodyPost_ret (v := .tuple #[x, .agg cs.toArray, v]) ?_ hdf hR
  have ht' : a.tmps[t]?.getD undef = x := by simpa using ht
  have hp' : a.tmps[p]?.getD undef = .pointer (some ⟨b, o, none⟩) := by simpa using hp
  have hu2 : a.tmps[u]?.getD undef = v := by simpa using hu'
  simp only [results, h]
  simp [Sem.run_bind, ht', hp', hu2, asAddr, run_loadVar_mid w b o ty cs d hc hu hd hi]

set_option maxHeartbeats 400000 in
theorem cut_nil (ao : Option Addr) (cap : Nat) (w : World) :
    Calls Tryz.prog 157 #[.slice ao 0 cap] w fun e w' => e = .returned (.tuple #[.slice none 0 0, .agg z32.toArray, .bool false]) ∧ Below w.heap.size w w' := by
  have ht := (rs_new w).t
  go_enter Tryz.func157, Tryz.ntmps157
  go_wp2_with (first | (refine wpList_alloc_of rfl 104 rfl z32.toArray alloc_32 ?_) | (refine wpList_build_of rfl 104 rfl z32.toArray build_h32t ?_) | (refine wpList_store_abs rfl 104 _ _ rfl w.heap.size 0 z32 rfl rfl ht z32_info z32_onet ?_; intro w1 _hw1 hr1 ht1 hb1; clear _hw1))
  exact ret_tmp_cell_tmpt rfl w.heap.size 0 z32 _ (.slice none 0 0) (.bool false) rfl rfl rfl hr1 Tryz.underlying104 rfl z32_info rfl ⟨rfl, ((Below.refl _ _).alloc (Nat.le_refl _) _).trans (hb1 _ (Nat.le_refl _))⟩

/-- What Read makes of a text. -/
def cutV (b : ByteArray) : List Value := if b.size = 32 then hV b else z32
theorem cutV_len (b : ByteArray) : (cutV b).length = 32 := by
  unfold cutV; split
  · rename_i h; exact hV_len h
  · rfl
theorem cutV_one (b : ByteArray) : ∀ u ∈ cutV b, u.oneCell' = true := by
  unfold cutV; split
  · exact hV_one b
  · exact z32_onet
theorem hread_any (b : ByteArray) (W : World) : Calls Tryz.prog 125 #[.string b] W fun e w' => e = .returned (.tuple #[.agg (cutV b).toArray, .bool (b.size == 32)]) ∧ Below W.heap.size W w' := by
  by_cases h : b.size = 32
  · exact (read_yes b W h).mono fun e w' ⟨h1, h2⟩ => ⟨by rw [h1, h]; unfold cutV; rw [if_pos h]; rfl, h2⟩
  · exact (read_no b W h).mono fun e w' ⟨h1, h2⟩ => ⟨by rw [h1]; unfold cutV; rw [if_neg h]; simp [h], h2⟩

set_option maxRecDepth 10000 in
set_option maxHeartbeats 1000000 in
/-- The last hash is taken from a proof, as far as it is one. -/
theorem cut_any (g off n cap : Nat) (b : ByteArray) (w : World) (hc : w.cell? ⟨g, off + n, none⟩ = some (.string b)) (hcap : n + 1 ≤ cap) (hn : n ≤ 1000000000000) :
    Calls Tryz.prog 157 #[.slice (some ⟨g, off, none⟩) (n + 1) cap] w fun e w' => e = .returned (.tuple #[.slice (some ⟨g, off, none⟩) n cap, .agg (cutV b).toArray, .bool (b.size == 32)]) ∧ Below w.heap.size w w' := by
  have hrd := hread_any b
  have hl := cutV_len b
  have hone := cutV_one b
  generalize cutV b = cs at *
  generalize (b.size == 32) = ok at *
  have hcA : (w.alloc (.cells z32.toArray 104)).cell? ⟨g, off + n, none⟩ = some (.string b) := by rw [World.cell?_alloc_past _ _ _ (World.block_lt_of_cell? w _ hc)]; exact hc
  have R0 := rs_new w
  have n0 : ((n + 1 : Nat) : Int) = (n : Int) + 1 := by omega
  have n1 : ((n : Int) + 1 == 0) = false := by rw [beq_eq_false_iff_ne]; omega
  have n2 : (n : Int) < (n : Int) + 1 := by omega
  have n3 : (n : Int) ≤ (cap : Int) := by omega
  clear hc
  go_enter Tryz.func157, Tryz.ntmps157
  go_wp2_with (first | (refine wpList_alloc_of rfl 104 rfl z32.toArray alloc_32 ?_))
  refine (hrd _).mono ?_
  rintro e w1 ⟨rfl, hb1⟩
  have R1 := R0.step hb1
  have hinf : (Tryz.prog.info? 104).map (·.size) = some cs.length := by rw [hl]; exact info_hash
  have ht2 : (w1.alloc (.cells z32.toArray 104)).there w1.heap.size 0 cs.length := by rw [hl]; exact there_z32 w1
  clear hrd hcA hb1
  go_wp2_with (first | (refine wpList_alloc_of rfl 104 rfl z32.toArray alloc_32 ?_) | (refine wpList_store_abs rfl 104 _ _ rfl w1.heap.size 0 cs rfl rfl ht2 hinf hone ?_; intro w2 _hw2 hr2 _ht2 hb2; clear _hw2 _ht2))
  have R2 : RS w.heap.size w w2 := R1.step (((Below.refl _ _).alloc (Nat.le_refl _) _).trans (hb2 _ (Nat.le_refl _)))
  have hz := R1.z
  have J0 : RS w.heap.size w w2.drew ∧ w2.drew.rangeAt w1.heap.size 0 cs := ⟨⟨R2.b.drew, R2.t, R2.z⟩, hr2⟩
  refine wp_region_noPanic ?_
  refine wp_region_held_drew (S := fun w' => RS w.heap.size w w' ∧ w'.rangeAt w1.heap.size 0 cs) (by kernel_rfl) J0 (fun _ => ?_)
  refine tk 0 J0 ?_
  refine tk 1 J0 ?_
  refine tk 2 J0 ?_
  refine wpAnyH_take (i := 3) (v := .agg cs.toArray) rfl (by kernel_rfl) (by kernel_rfl) (by kernel_rfl) (fun _ _ _ h => h) (yieldsIf_load_mid (by rfl) 104 (.tmp 6) rfl w1.heap.size 0 rfl cs _ (fun w' hw' => hw'.2) Tryz.underlying104 rfl hinf) J0 ?_
  simp only [qA, qB, qC, Act.put, qD, qE, qF]
  refine tk 4 J0 ?_
  refine tk 5 J0 ?_
  refine rk 6 (fun K hK => ?_)
  refine wp_store_mid 104 (.tmp 3) (.tmp 26) rfl w.heap.size 0 cs.toArray rfl rfl (by show w2.there w.heap.size 0 cs.length; rw [hl]; exact R2.t) (by show _ = some cs.length; exact hinf) (all_oneCell_toArray hone) ?_
  have J5 : RS w.heap.size w (w2.drew.setCells w.heap.size 0 cs.toArray.toList) ∧ (w2.drew.setCells w.heap.size 0 cs.toArray.toList).rangeAt w1.heap.size 0 cs := ⟨J0.1.store _, fun j u hu => by
    rw [World.cell?_setCells_out _ _ _ _ ⟨w1.heap.size, 0 + j, none⟩ (fun e _ => by exfalso; simp at e; omega)]
    exact J0.2 j u hu⟩
  refine hK.out _ _ J5 (fun _ => ?_)
  clear hK K
  try simp only [qA, qB, qC, Act.put, qD, qE, qF]
  refine rk 7 (fun K hK => ?_)
  go_simp
  refine hK.out _ _ J5 (fun _ => ?_)
  clear hK K
  refine ⟨by kernel_rfl, ?_⟩
  refine NoPanic.normal ?_
  try simp only [qA, qB, qC, Act.put, qD, qE, qF]
  go_wp2_with fail
  exact ret_tmp_cell_tmpt rfl w.heap.size 0 cs _ (.slice (some ⟨g, off, none⟩) n cap) (.bool ok) rfl rfl rfl (by have := World.rangeAt_setCells_same w2.drew w.heap.size 0 cs (by rw [hl]; exact R2.t); simpa using this) Tryz.underlying104 rfl hinf rfl ⟨rfl, J5.1.b⟩
theorem z32_hV : hV (strOfNums (List.replicate 32 0)) = z32 := by
  unfold hV
  rw [nums_str _ (fun x hx => by rw [List.eq_of_mem_replicate hx]; omega)]; rfl

/-- What a check answers: nil, or ErrProof. -/
def chkV (ok : Bool) : Value := if ok then .nilIface else .iface 41 (.int .i64 14)
theorem hash_eq (a b : ByteArray) (ha : a.size = 32) (hb : b.size = 32) (w : World) : (Op.equalIn 10000 104 (.agg (hV a).toArray) (.agg (hV b).toArray)).run Tryz.prog w = .ok (decide (a = b)) w := by
  have la : a.data.toList.length = 32 := by rw [← Lib.size_eq]; exact ha
  have lb : b.data.toList.length = 32 := by rw [← Lib.size_eq]; exact hb
  have := run_equalIn_bytes (P := Tryz.prog) w 9998 104 5 32 Tryz.underlying104 Tryz.underlying5 size_byte a.data.toList b.data.toList la lb
  have e : ∀ t : ByteArray, (t.data.toList.map Extern.Stop.cell) = hV t := fun t => by unfold hV bytesV numsOf; rw [List.map_map]; rfl
  rw [e, e] at this
  have e2 : (a.data.toList == b.data.toList) = decide (a = b) := by
    rw [Bool.eq_iff_iff]
    simp only [beq_iff_eq, decide_eq_true_eq]
    constructor
    · intro h
      apply ByteArray.ext
      exact Array.toList_inj.1 h
    · rintro rfl; rfl
  rw [e2] at this
  exact this
set_option maxRecDepth 10000 in
set_option maxHeartbeats 1000000 in
theorem climb_one (s : ByteArray) (i : Int) (ao : Option Addr) (m cap : Nat) (h : ByteArray) (w : World) (h32 : h.size = 32)
    (hr : ∀ W, Below w.heap.size w W → Calls Tryz.prog 111 #[.string s] W fun e w' => e = .returned (.agg (hV h).toArray) ∧ Below W.heap.size W w') :
    Calls Tryz.prog 130 #[.string s, .int .i64 i, .int .i64 1, .slice ao m cap] w fun e w' => e = .returned (.tuple #[.agg (hV h).toArray, .bool ((m : Int) == 0)]) ∧ Below w.heap.size w w' := by
  have R0 := rs_new w
  have hr1 := hr _ R0.b
  have hinf := hV_info h32
  have hone := hV_one h
  have hl := hV_len h32
  clear hr
  go_enter Tryz.func130, Tryz.ntmps130
  go_wp2_with (first | (refine wpList_alloc_of rfl 104 rfl z32.toArray alloc_32 ?_))
  refine hr1.mono ?_
  rintro e w1 ⟨rfl, hb1⟩
  have R1 := R0.step hb1
  have ht : w1.there w.heap.size 0 (hV h).length := by rw [hl]; exact R1.t
  clear hr1
  go_wp2_with (refine wpList_store_abs rfl 104 _ _ rfl w.heap.size 0 (hV h) rfl rfl ht hinf hone ?_; intro w2 _hw2 hr2 _ht2 hb2; clear _hw2 _ht2)
  exact ret_cell_tmp rfl w.heap.size 0 (hV h) _ _ rfl rfl hr2 Tryz.underlying104 rfl hinf rfl ⟨rfl, R1.b.trans (hb2 _ (Nat.le_refl _))⟩

set_option maxRecDepth 10000 in
set_option maxHeartbeats 1000000 in
theorem climb_bad (s : ByteArray) (i n : Int) (v : Value) (v' : Value) (cs : List Value) (w : World) (hn : (n == 1) = false) (hl : cs.length = 32) (hone : ∀ u ∈ cs, u.oneCell' = true)
    (hcut : ∀ W, Below w.heap.size w W → Calls Tryz.prog 157 #[v] W fun e w' => e = .returned (.tuple #[v', .agg cs.toArray, .bool false]) ∧ Below W.heap.size W w') :
    Calls Tryz.prog 130 #[.string s, .int .i64 i, .int .i64 n, v] w fun e w' => e = .returned (.tuple #[.agg z32.toArray, .bool false]) ∧ Below w.heap.size w w' := by
  have R0 := rs_new w
  have hc1 := hcut _ R0.b
  have hinf : (Tryz.prog.info? 104).map (·.size) = some cs.length := by rw [hl]; exact info_hash
  clear hcut
  go_enter Tryz.func130, Tryz.ntmps130
  go_wp2_with (first | (refine wpList_alloc_of rfl 104 rfl z32.toArray alloc_32 ?_))
  refine hc1.mono ?_
  rintro e w1 ⟨rfl, hb1⟩
  have R1 := R0.step hb1
  have ht1 : (w1.alloc (.cells z32.toArray 104)).there w1.heap.size 0 cs.length := by rw [hl]; exact there_z32 w1
  clear hc1 hb1
  go_wp2_with (first | (refine wpList_alloc_of rfl 104 rfl z32.toArray alloc_32 ?_) | (refine wpList_store_abs rfl 104 _ _ rfl w1.heap.size 0 cs rfl rfl ht1 hinf hone ?_; intro w2 _hw2 hr2 _ht2 hb2; clear _hw2 _ht2; have R2 : RS w.heap.size w w2 := R1.step (((Below.refl _ _).alloc (Nat.le_refl _) _).trans (hb2 _ (Nat.le_refl _))); have ht2 : w2.there w.heap.size 0 z32.length := R2.t) | (refine wpList_build_of rfl 104 rfl z32.toArray build_h32t ?_) | (refine wpList_store_abs rfl 104 _ _ rfl w.heap.size 0 z32 rfl rfl ht2 z32_info z32_onet ?_; intro w3 _hw3 hr3 _ht3 hb3; clear _hw3 _ht3))
  exact ret_cell_tmp rfl w.heap.size 0 z32 _ _ rfl rfl hr3 Tryz.underlying104 rfl z32_info rfl ⟨rfl, R2.b.trans (hb3 _ (Nat.le_refl _))⟩
end Go.Proofs.YteglimjonofdeaaGreatDoor
