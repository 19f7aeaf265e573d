import Derived.Test.YteebdadnfaekmaaDoorTCom
set_option linter.unusedVariables false
set_option linter.unusedSimpArgs false
namespace Go.Proofs.YteebdadnfaekmaaDoor
open Go.RowKit

theorem inclF_len (H : ByteArray → ByteArray) : ∀ (n : Nat) (ls : List ByteArray) (i : Nat), ls.length = n → (inclF H ls i).length ≤ n := by
  intro n
  induction n using Nat.strongRecOn with
  | _ n ih =>
  intro ls i hn
  by_cases h2 : 2 ≤ ls.length
  · have hk0 := halfN_pos ls.length
    have hk1 := halfN_lt h2
    by_cases hi : i < halfN ls.length
    · rw [inclF_left H h2 hi]
      have := ih (halfN ls.length) (by omega) (ls.take (halfN ls.length)) i (by simp; omega)
      simp; omega
    · rw [inclF_right H h2 hi]
      have := ih (ls.length - halfN ls.length) (by omega) (ls.drop (halfN ls.length)) (i - halfN ls.length) (by simp)
      simp; omega
  · rw [inclF_one H (by omega)]; simp

set_option maxRecDepth 10000 in
set_option maxHeartbeats 400000 in
theorem path_one (g off cap i : Nat) (w : World) : Calls Tryd.prog 60 #[.slice (some ⟨g, off, none⟩) 1 cap, .int .i64 i] w fun e w' => madeL w w' e [] := by
  go_enter Tryd.func60, Tryd.ntmps60
  go_wp2_with fail
  go_ret
  exact ⟨none, 0, rfl, World.ownsRow_nil _ _ _ _, Below.refl _ _⟩

set_option maxRecDepth 10000 in
set_option maxHeartbeats 1000000 in
theorem path_left (g off cap N k i : Nat) (w : World) (F : List ByteArray) (R a : ByteArray) (hN : N ≤ 2147483647) (hk0 : 0 < k) (hk1 : k < N) (hcap : N ≤ cap) (hik : i < k) (hFl : F.length ≤ k)
    (hsp : Calls Tryd.prog 58 #[.int .i64 N] w fun e w' => e = .returned (.int .i64 k) ∧ w' = w)
    (hP : ∀ W, Below w.heap.size w W → Calls Tryd.prog 60 #[.slice (some ⟨g, off, none⟩) k cap, .int .i64 i] W fun e w' => madeL W w' e F)
    (hR : ∀ W, Below w.heap.size w W → Calls Tryd.prog 31 #[.slice (some ⟨g, off + k, none⟩) (N - k) (cap - k)] W fun e w' => e = .returned (.agg (hV R).toArray) ∧ Below W.heap.size W w')
    (htx : ∀ W, Calls Tryd.prog 27 #[.agg (hV R).toArray] W fun e w' => e = .returned (.string R) ∧ Below W.heap.size W w') :
    Calls Tryd.prog 60 #[.slice (some ⟨g, off, none⟩) N cap, .int .i64 i] w fun e w' => madeL w w' e (F ++ [R]) := by
  obtain ⟨i0, hi, hz, hsz, hby⟩ := info_strT
  have k1 : (k : Int) ≤ (N : Int) := by omega
  have k2 : (k : Int) ≤ (cap : Int) := by omega
  have k3 : ¬ cap = k := by omega
  have n1 : ((N : Int) == 1) = false := by rw [beq_eq_false_iff_ne]; omega
  have ik : (i : Int) < (k : Int) := by omega
  have HP : Hid (∀ W, Below w.heap.size w W → Calls Tryd.prog 60 #[.slice (some ⟨g, off, none⟩) k cap, .int .i64 i] W fun e w' => madeL W w' e F) := hP
  have HR : Hid (∀ W, Below w.heap.size w W → Calls Tryd.prog 31 #[.slice (some ⟨g, off + k, none⟩) (N - k) (cap - k)] W fun e w' => e = .returned (.agg (hV R).toArray) ∧ Below W.heap.size W w') := hR
  have HX : Hid (∀ W, Calls Tryd.prog 27 #[.agg (hV R).toArray] W fun e w' => e = .returned (.string R) ∧ Below W.heap.size W w') := htx
  clear hP hR htx
  go_enter Tryd.func60, Tryd.ntmps60
  go_wp2_with fail
  refine hsp.mono ?_
  rintro e w0 ⟨rfl, hw0⟩
  obtain rfl : w = w0 := hw0.symm
  clear hw0 hsp
  go_wp2_with fail
  have B0 : Below w.heap.size w w.drew := (Below.refl _ _).drew
  refine wp_region_noPanic ?_
  refine wp_region_held_drew (S := fun w' => Below w.heap.size w w') (by kernel_rfl) B0 (fun _ => ?_)
  refine wpAnyH_take (i := 0) (v := ?_) rfl (by kernel_rfl) (by kernel_rfl) (by kernel_rfl) (fun _ _ _ h => h) (Or.inl ⟨by rfl, ?_⟩) B0 ?_
  rotate_left 1
  · intro w hSw; clear hSw; go_simp; try with_reducible rfl
  simp only [List.getElem_toArray, List.getElem_cons_zero, List.getElem_cons_succ, Act.put, List.setIfInBounds_toArray, List.set_cons_zero, List.set_cons_succ]
  refine wpAnyH_take (i := 1) (v := ?_) rfl (by kernel_rfl) (by kernel_rfl) (by kernel_rfl) (fun _ _ _ h => h) (Or.inl ⟨by rfl, ?_⟩) B0 ?_
  rotate_left 1
  · intro w hSw; clear hSw; go_simp; try with_reducible rfl
  simp only [List.getElem_toArray, List.getElem_cons_zero, List.getElem_cons_succ, Act.put, List.setIfInBounds_toArray, List.set_cons_zero, List.set_cons_succ]
  refine wpAnyH_take (i := 2) (v := ?_) rfl (by kernel_rfl) (by kernel_rfl) (by kernel_rfl) (fun _ _ _ h => h) (Or.inl ⟨by rfl, ?_⟩) B0 ?_
  rotate_left 1
  · intro w hSw; clear hSw; go_simp; try with_reducible rfl
  simp only [List.getElem_toArray, List.getElem_cons_zero, List.getElem_cons_succ, Act.put, List.setIfInBounds_toArray, List.set_cons_zero, List.set_cons_succ]
  refine wpAnyH_take (i := 3) (v := ?_) rfl (by kernel_rfl) (by kernel_rfl) (by kernel_rfl) (fun _ _ _ h => h) (Or.inl ⟨by rfl, ?_⟩) B0 ?_
  rotate_left 1
  · intro w hSw; clear hSw; go_simp; try with_reducible rfl
  simp only [List.getElem_toArray, List.getElem_cons_zero, List.getElem_cons_succ, Act.put, List.setIfInBounds_toArray, List.set_cons_zero, List.set_cons_succ]
  refine wpAnyH_take (i := 5) (v := ?_) rfl (by kernel_rfl) (by kernel_rfl) (by kernel_rfl) (fun _ _ _ h => h) (Or.inl ⟨by rfl, ?_⟩) B0 ?_
  rotate_left 1
  · intro w hSw; clear hSw; go_simp; try with_reducible rfl
  simp only [List.getElem_toArray, List.getElem_cons_zero, List.getElem_cons_succ, Act.put, List.setIfInBounds_toArray, List.set_cons_zero, List.set_cons_succ]
  refine wpAnyH_take (i := 6) (v := ?_) rfl (by kernel_rfl) (by kernel_rfl) (by kernel_rfl) (fun _ _ _ h => h) (Or.inl ⟨by rfl, ?_⟩) B0 ?_
  rotate_left 1
  · intro w hSw; clear hSw; go_simp; try with_reducible rfl
  simp only [List.getElem_toArray, List.getElem_cons_zero, List.getElem_cons_succ, Act.put, List.setIfInBounds_toArray, List.set_cons_zero, List.set_cons_succ]
  refine wpAnyH_take (i := 7) (v := ?_) rfl (by kernel_rfl) (by kernel_rfl) (by kernel_rfl) (fun _ _ _ h => h) (Or.inl ⟨by rfl, ?_⟩) B0 ?_
  rotate_left 1
  · intro w hSw; clear hSw; go_simp; try with_reducible rfl
  simp only [List.getElem_toArray, List.getElem_cons_zero, List.getElem_cons_succ, Act.put, List.setIfInBounds_toArray, List.set_cons_zero, List.set_cons_succ]
  refine wpAnyH_ready (rs := [4]) (by kernel_rfl) (by simp) ?_
  refine AllReadyH.cons rfl (fun K hK => ?_) AllReadyH.nil
  rw [if_pos (by rfl)]
  go_simp
  refine (HP.out _ B0).mono ?_
  rintro e w1 ⟨ao, cp, rfl, ho1, hb1⟩
  have B1 : Below w.heap.size w w1 := B0.trans (hb1.mono (Nat.le_refl _))
  have ho1 : w1.ownsRow w.heap.size 9 1 (.slice ao F.length cp) F.length (F.map .string) := ho1
  refine hK.out _ _ B1 (fun _ => ?_)
  clear hK K
  try simp only [List.getElem_toArray, List.getElem_cons_zero, List.getElem_cons_succ, Act.put, List.setIfInBounds_toArray, List.set_cons_zero, List.set_cons_succ]
  refine wpAnyH_ready (rs := [8]) (by kernel_rfl) (by simp) ?_
  refine AllReadyH.cons rfl (fun K hK => ?_) AllReadyH.nil
  rw [if_pos (by rfl)]
  go_simp
  refine (HR.out _ B1).mono ?_
  rintro e w2 ⟨rfl, hb2⟩
  have B2 : Below w.heap.size w w2 := B1.trans (hb2.mono B1.size)
  have ho2 := own_below' ho1 hb2
  refine hK.out _ _ B2 (fun _ => ?_)
  clear hK K
  try simp only [List.getElem_toArray, List.getElem_cons_zero, List.getElem_cons_succ, Act.put, List.setIfInBounds_toArray, List.set_cons_zero, List.set_cons_succ]
  refine wpAnyH_ready (rs := [9]) (by kernel_rfl) (by simp) ?_
  refine AllReadyH.cons rfl (fun K hK => ?_) AllReadyH.nil
  rw [if_pos (by rfl)]
  go_simp
  refine (HX.out _).mono ?_
  rintro e w3 ⟨rfl, hb3⟩
  have B3 : Below w.heap.size w w3 := B2.trans (hb3.mono B2.size)
  have ho3 := own_below' ho2 hb3
  refine hK.out _ _ B3 (fun _ => ?_)
  clear hK K
  try simp only [List.getElem_toArray, List.getElem_cons_zero, List.getElem_cons_succ, Act.put, List.setIfInBounds_toArray, List.set_cons_zero, List.set_cons_succ]
  refine wpAnyH_ready (rs := [10]) (by kernel_rfl) (by simp) ?_
  refine AllReadyH.cons rfl (fun K hK => ?_) AllReadyH.nil
  rw [if_pos (by rfl)]
  go_simp
  have hb4 : Below w3.heap.size w3 (w3.alloc (.cells #[.string R] 9)) := (Below.refl _ _).alloc (Nat.le_refl _) _
  have B4 : Below w.heap.size w (w3.alloc (.cells #[.string R] 9)) := B3.trans (hb4.mono B3.size)
  have ho4 := own_below' ho3 hb4
  have hnews : ∀ j u, [Value.string R][j]? = some u → (w3.alloc (.cells #[.string R] 9)).cell? ((⟨w3.heap.size, 0, none⟩ : Addr).add j) = some u := World.news_of_block (heap_alloc_new w3 (.cells #[.string R] 9))
  refine hK.out _ _ B4 (fun _ => ?_)
  clear hK K
  try simp only [List.getElem_toArray, List.getElem_cons_zero, List.getElem_cons_succ, Act.put, List.setIfInBounds_toArray, List.set_cons_zero, List.set_cons_succ]
  refine wpAnyH_ready (rs := [11]) (by kernel_rfl) (by simp) ?_
  refine AllReadyH.cons rfl (fun K hK => ?_) AllReadyH.nil
  rw [if_pos (by rfl)]
  refine wp_append_lies _ (.tmp 19) (.tmp 25) 37 rfl w.heap.size 9 i0 _ 1 16 Tryd.underlying37 hi hz hsz hby rfl (by decide) (.slice ao F.length cp) F.length _ rfl ho4 ⟨w3.heap.size, 0, none⟩ 1 1 [.string R] rfl rfl hnews (by simp [Value.oneCell']) (by decide) (by unfold maxLen; omega) (by omega) B4.size _ rfl ?_
  intro g2 cap2 w5 ho5 hgr5 hat5 hlt5
  have B5 : Below w.heap.size w w5 := B4.trans ((Below.refl _ _).grown hgr5 B4.size (fun k hk => (ho4.lt k hk).1))
  refine hK.out _ _ B5 (fun _ => ?_)
  clear hK K
  try simp only [List.getElem_toArray, List.getElem_cons_zero, List.getElem_cons_succ, Act.put, List.setIfInBounds_toArray, List.set_cons_zero, List.set_cons_succ]
  refine wpAnyH_ready (rs := [12]) (by kernel_rfl) (by simp) ?_
  refine AllReadyH.cons rfl (fun K hK => ?_) AllReadyH.nil
  rw [if_pos (by rfl)]
  go_simp
  refine hK.out _ _ B5 (fun _ => ?_)
  clear hK K
  refine ⟨by kernel_rfl, ?_⟩
  refine NoPanic.normal ?_
  try simp only [List.getElem_toArray, List.getElem_cons_zero, List.getElem_cons_succ, Act.put, List.setIfInBounds_toArray, List.set_cons_zero, List.set_cons_succ]
  go_wp2_with fail
  go_ret
  refine ⟨some ⟨g2, 0, none⟩, cap2, by simp, by simpa using ho5, B5⟩
set_option maxRecDepth 10000 in
set_option maxHeartbeats 1000000 in
theorem path_right (g off cap N k i : Nat) (w : World) (F : List ByteArray) (R a : ByteArray) (hN : N ≤ 2147483647) (hk0 : 0 < k) (hk1 : k < N) (hcap : N ≤ cap) (hik : k ≤ i) (hiN : i < N) (hFl : F.length ≤ N - k)
    (hsp : Calls Tryd.prog 58 #[.int .i64 N] w fun e w' => e = .returned (.int .i64 k) ∧ w' = w)
    (hP : ∀ W, Below w.heap.size w W → Calls Tryd.prog 60 #[.slice (some ⟨g, off + k, none⟩) (N - k) (cap - k), .int .i64 ((i : Int) - (k : Int))] W fun e w' => madeL W w' e F)
    (hR : ∀ W, Below w.heap.size w W → Calls Tryd.prog 31 #[.slice (some ⟨g, off, none⟩) k cap] W fun e w' => e = .returned (.agg (hV R).toArray) ∧ Below W.heap.size W w')
    (htx : ∀ W, Calls Tryd.prog 27 #[.agg (hV R).toArray] W fun e w' => e = .returned (.string R) ∧ Below W.heap.size W w') :
    Calls Tryd.prog 60 #[.slice (some ⟨g, off, none⟩) N cap, .int .i64 i] w fun e w' => madeL w w' e (F ++ [R]) := by
  obtain ⟨i0, hi, hz, hsz, hby⟩ := info_strT
  have k1 : (k : Int) ≤ (N : Int) := by omega
  have k2 : (k : Int) ≤ (cap : Int) := by omega
  have k3 : ¬ cap = k := by omega
  have n1 : ((N : Int) == 1) = false := by rw [beq_eq_false_iff_ne]; omega
  have ik : ¬ (i : Int) < (k : Int) := by omega
  have ik2 : (i : Int) < (N : Int) := by omega
  have ik3 : (k : Int) ≤ (i : Int) := by omega
  have hwr : IntKind.i64.wrap ((i : Int) - (k : Int)) = (i : Int) - (k : Int) := wrap_small _ (by omega) (by omega)
  have HP : Hid (∀ W, Below w.heap.size w W → Calls Tryd.prog 60 #[.slice (some ⟨g, off + k, none⟩) (N - k) (cap - k), .int .i64 ((i : Int) - (k : Int))] W fun e w' => madeL W w' e F) := hP
  have HR : Hid (∀ W, Below w.heap.size w W → Calls Tryd.prog 31 #[.slice (some ⟨g, off, none⟩) k cap] W fun e w' => e = .returned (.agg (hV R).toArray) ∧ Below W.heap.size W w') := hR
  have HX : Hid (∀ W, Calls Tryd.prog 27 #[.agg (hV R).toArray] W fun e w' => e = .returned (.string R) ∧ Below W.heap.size W w') := htx
  clear hP hR htx
  go_enter Tryd.func60, Tryd.ntmps60
  go_wp2_with fail
  refine hsp.mono ?_
  rintro e w0 ⟨rfl, hw0⟩
  obtain rfl : w = w0 := hw0.symm
  clear hw0 hsp
  go_wp2_with fail
  have B0 : Below w.heap.size w w.drew := (Below.refl _ _).drew
  refine wp_region_noPanic ?_
  refine wp_region_held_drew (S := fun w' => Below w.heap.size w w') (by kernel_rfl) B0 (fun _ => ?_)
  refine wpAnyH_take (i := 0) (v := ?_) rfl (by kernel_rfl) (by kernel_rfl) (by kernel_rfl) (fun _ _ _ h => h) (Or.inl ⟨by rfl, ?_⟩) B0 ?_
  rotate_left 1
  · intro w hSw; clear hSw; go_simp; try with_reducible rfl
  simp only [List.getElem_toArray, List.getElem_cons_zero, List.getElem_cons_succ, Act.put, List.setIfInBounds_toArray, List.set_cons_zero, List.set_cons_succ]
  refine wpAnyH_take (i := 1) (v := ?_) rfl (by kernel_rfl) (by kernel_rfl) (by kernel_rfl) (fun _ _ _ h => h) (Or.inl ⟨by rfl, ?_⟩) B0 ?_
  rotate_left 1
  · intro w hSw; clear hSw; go_simp; try with_reducible rfl
  simp only [List.getElem_toArray, List.getElem_cons_zero, List.getElem_cons_succ, Act.put, List.setIfInBounds_toArray, List.set_cons_zero, List.set_cons_succ]
  refine wpAnyH_take (i := 2) (v := ?_) rfl (by kernel_rfl) (by kernel_rfl) (by kernel_rfl) (fun _ _ _ h => h) (Or.inl ⟨by rfl, ?_⟩) B0 ?_
  rotate_left 1
  · intro w hSw; clear hSw; go_simp; try with_reducible rfl
  simp only [List.getElem_toArray, List.getElem_cons_zero, List.getElem_cons_succ, Act.put, List.setIfInBounds_toArray, List.set_cons_zero, List.set_cons_succ]
  refine wpAnyH_take (i := 3) (v := ?_) rfl (by kernel_rfl) (by kernel_rfl) (by kernel_rfl) (fun _ _ _ h => h) (Or.inl ⟨by rfl, ?_⟩) B0 ?_
  rotate_left 1
  · intro w hSw; clear hSw; go_simp; try with_reducible rfl
  simp only [List.getElem_toArray, List.getElem_cons_zero, List.getElem_cons_succ, Act.put, List.setIfInBounds_toArray, List.set_cons_zero, List.set_cons_succ]
  refine wpAnyH_take (i := 4) (v := ?_) rfl (by kernel_rfl) (by kernel_rfl) (by kernel_rfl) (fun _ _ _ h => h) (Or.inl ⟨by rfl, ?_⟩) B0 ?_
  rotate_left 1
  · intro w hSw; clear hSw; go_simp; try with_reducible rfl
  simp only [List.getElem_toArray, List.getElem_cons_zero, List.getElem_cons_succ, Act.put, List.setIfInBounds_toArray, List.set_cons_zero, List.set_cons_succ]
  refine wpAnyH_take (i := 5) (v := ?_) rfl (by kernel_rfl) (by kernel_rfl) (by kernel_rfl) (fun _ _ _ h => h) (Or.inl ⟨by rfl, ?_⟩) B0 ?_
  rotate_left 1
  · intro w hSw; clear hSw; go_simp; try with_reducible rfl
  simp only [List.getElem_toArray, List.getElem_cons_zero, List.getElem_cons_succ, Act.put, List.setIfInBounds_toArray, List.set_cons_zero, List.set_cons_succ]
  refine wpAnyH_take (i := 7) (v := ?_) rfl (by kernel_rfl) (by kernel_rfl) (by kernel_rfl) (fun _ _ _ h => h) (Or.inl ⟨by rfl, ?_⟩) B0 ?_
  rotate_left 1
  · intro w hSw; clear hSw; go_simp; try with_reducible rfl
  simp only [List.getElem_toArray, List.getElem_cons_zero, List.getElem_cons_succ, Act.put, List.setIfInBounds_toArray, List.set_cons_zero, List.set_cons_succ]
  refine wpAnyH_take (i := 8) (v := ?_) rfl (by kernel_rfl) (by kernel_rfl) (by kernel_rfl) (fun _ _ _ h => h) (Or.inl ⟨by rfl, ?_⟩) B0 ?_
  rotate_left 1
  · intro w hSw; clear hSw; go_simp; try with_reducible rfl
  simp only [List.getElem_toArray, List.getElem_cons_zero, List.getElem_cons_succ, Act.put, List.setIfInBounds_toArray, List.set_cons_zero, List.set_cons_succ]
  refine wpAnyH_take (i := 9) (v := ?_) rfl (by kernel_rfl) (by kernel_rfl) (by kernel_rfl) (fun _ _ _ h => h) (Or.inl ⟨by rfl, ?_⟩) B0 ?_
  rotate_left 1
  · intro w hSw; clear hSw; go_simp; try with_reducible rfl
  simp only [List.getElem_toArray, List.getElem_cons_zero, List.getElem_cons_succ, Act.put, List.setIfInBounds_toArray, List.set_cons_zero, List.set_cons_succ]
  refine wpAnyH_ready (rs := [6]) (by kernel_rfl) (by simp) ?_
  refine AllReadyH.cons rfl (fun K hK => ?_) AllReadyH.nil
  rw [if_pos (by rfl)]
  go_simp
  refine (HP.out _ B0).mono ?_
  rintro e w1 ⟨ao, cp, rfl, ho1, hb1⟩
  have B1 : Below w.heap.size w w1 := B0.trans (hb1.mono (Nat.le_refl _))
  have ho1 : w1.ownsRow w.heap.size 9 1 (.slice ao F.length cp) F.length (F.map .string) := ho1
  refine hK.out _ _ B1 (fun _ => ?_)
  clear hK K
  try simp only [List.getElem_toArray, List.getElem_cons_zero, List.getElem_cons_succ, Act.put, List.setIfInBounds_toArray, List.set_cons_zero, List.set_cons_succ]
  refine wpAnyH_ready (rs := [10]) (by kernel_rfl) (by simp) ?_
  refine AllReadyH.cons rfl (fun K hK => ?_) AllReadyH.nil
  rw [if_pos (by rfl)]
  go_simp
  refine (HR.out _ B1).mono ?_
  rintro e w2 ⟨rfl, hb2⟩
  have B2 : Below w.heap.size w w2 := B1.trans (hb2.mono B1.size)
  have ho2 := own_below' ho1 hb2
  refine hK.out _ _ B2 (fun _ => ?_)
  clear hK K
  try simp only [List.getElem_toArray, List.getElem_cons_zero, List.getElem_cons_succ, Act.put, List.setIfInBounds_toArray, List.set_cons_zero, List.set_cons_succ]
  refine wpAnyH_ready (rs := [11]) (by kernel_rfl) (by simp) ?_
  refine AllReadyH.cons rfl (fun K hK => ?_) AllReadyH.nil
  rw [if_pos (by rfl)]
  go_simp
  refine (HX.out _).mono ?_
  rintro e w3 ⟨rfl, hb3⟩
  have B3 : Below w.heap.size w w3 := B2.trans (hb3.mono B2.size)
  have ho3 := own_below' ho2 hb3
  refine hK.out _ _ B3 (fun _ => ?_)
  clear hK K
  try simp only [List.getElem_toArray, List.getElem_cons_zero, List.getElem_cons_succ, Act.put, List.setIfInBounds_toArray, List.set_cons_zero, List.set_cons_succ]
  refine wpAnyH_ready (rs := [12]) (by kernel_rfl) (by simp) ?_
  refine AllReadyH.cons rfl (fun K hK => ?_) AllReadyH.nil
  rw [if_pos (by rfl)]
  go_simp
  have hb4 : Below w3.heap.size w3 (w3.alloc (.cells #[.string R] 9)) := (Below.refl _ _).alloc (Nat.le_refl _) _
  have B4 : Below w.heap.size w (w3.alloc (.cells #[.string R] 9)) := B3.trans (hb4.mono B3.size)
  have ho4 := own_below' ho3 hb4
  have hnews : ∀ j u, [Value.string R][j]? = some u → (w3.alloc (.cells #[.string R] 9)).cell? ((⟨w3.heap.size, 0, none⟩ : Addr).add j) = some u := World.news_of_block (heap_alloc_new w3 (.cells #[.string R] 9))
  refine hK.out _ _ B4 (fun _ => ?_)
  clear hK K
  try simp only [List.getElem_toArray, List.getElem_cons_zero, List.getElem_cons_succ, Act.put, List.setIfInBounds_toArray, List.set_cons_zero, List.set_cons_succ]
  refine wpAnyH_ready (rs := [13]) (by kernel_rfl) (by simp) ?_
  refine AllReadyH.cons rfl (fun K hK => ?_) AllReadyH.nil
  rw [if_pos (by rfl)]
  refine wp_append_lies _ (.tmp 33) (.tmp 39) 37 rfl w.heap.size 9 i0 _ 1 16 Tryd.underlying37 hi hz hsz hby rfl (by decide) (.slice ao F.length cp) F.length _ rfl ho4 ⟨w3.heap.size, 0, none⟩ 1 1 [.string R] rfl rfl hnews (by simp [Value.oneCell']) (by decide) (by unfold maxLen; omega) (by omega) B4.size _ rfl ?_
  intro g2 cap2 w5 ho5 hgr5 hat5 hlt5
  have B5 : Below w.heap.size w w5 := B4.trans ((Below.refl _ _).grown hgr5 B4.size (fun k hk => (ho4.lt k hk).1))
  refine hK.out _ _ B5 (fun _ => ?_)
  clear hK K
  try simp only [List.getElem_toArray, List.getElem_cons_zero, List.getElem_cons_succ, Act.put, List.setIfInBounds_toArray, List.set_cons_zero, List.set_cons_succ]
  refine wpAnyH_ready (rs := [14]) (by kernel_rfl) (by simp) ?_
  refine AllReadyH.cons rfl (fun K hK => ?_) AllReadyH.nil
  rw [if_pos (by rfl)]
  go_simp
  refine hK.out _ _ B5 (fun _ => ?_)
  clear hK K
  refine ⟨by kernel_rfl, ?_⟩
  refine NoPanic.normal ?_
  try simp only [List.getElem_toArray, List.getElem_cons_zero, List.getElem_cons_succ, Act.put, List.setIfInBounds_toArray, List.set_cons_zero, List.set_cons_succ]
  go_wp2_with fail
  go_ret
  refine ⟨some ⟨g2, 0, none⟩, cap2, by simp, by simpa using ho5, B5⟩
theorem path_any (K : Nat → Int) : ∀ (n : Nat) (ls : List ByteArray) (v : Value) (i : Nat) (w : World), ls.length = n → i < n → n ≤ 2147483647 → LeafAt w v ls → (∀ s ∈ ls, s.size ≤ 140737488355000) → Tab K w →
    Calls Tryd.prog 60 #[v, .int .i64 i] w fun e w' => madeL w w' e (inclF (sumOf K) ls i) := by
  intro n
  induction n using Nat.strongRecOn with
  | _ n ih =>
  intro ls v i w hn hin hn1 hl hs T
  obtain ⟨g, off, cap, rfl, hcap, hc⟩ : ∃ g off cap, v = .slice (some ⟨g, off, none⟩) ls.length cap ∧ ls.length ≤ cap ∧ ∀ j (h : j < ls.length), w.cell? ⟨g, off + j, none⟩ = some (.string (ls[j]'h)) := by
    rcases hl with ⟨rfl, _⟩ | h
    · simp at hn; omega
    · exact h
  have hszF : ∀ l, (rootF (sumOf K) l).size = 32 := rootF_size (sumOf K) (sumOf_size K)
  by_cases h1 : n = 1
  · have h1' : ls.length = 1 := by omega
    rw [inclF_one (sumOf K) (by omega), h1']
    exact path_one g off cap i w
  · have h2 : 2 ≤ ls.length := by omega
    have hk0 := halfN_pos ls.length
    have hk1 := halfN_lt h2
    have lT : ∀ W, Below w.heap.size w W → LeafAt W (.slice (some ⟨g, off, none⟩) (halfN ls.length) cap) (ls.take (halfN ls.length)) := fun W J => (leaf_take _ (by omega) hcap hc).below J
    have lD : ∀ W, Below w.heap.size w W → LeafAt W (.slice (some ⟨g, off + halfN ls.length, none⟩) (ls.length - halfN ls.length) (cap - halfN ls.length)) (ls.drop (halfN ls.length)) := fun W J => (leaf_drop _ (by omega) hcap hc).below J
    have sT : ∀ s ∈ ls.take (halfN ls.length), s.size ≤ 140737488355000 := fun s hs' => hs s (List.mem_of_mem_take hs')
    have sD : ∀ s ∈ ls.drop (halfN ls.length), s.size ≤ 140737488355000 := fun s hs' => hs s (List.mem_of_mem_drop hs')
    have nT : (ls.take (halfN ls.length)).length = halfN ls.length := by simp; omega
    have nD : (ls.drop (halfN ls.length)).length = ls.length - halfN ls.length := by simp
    by_cases hik : i < halfN ls.length
    · rw [inclF_left (sumOf K) h2 hik]
      exact path_left g off cap ls.length (halfN ls.length) i w _ _ ⟨#[]⟩ (by omega) hk0 hk1 hcap hik (inclF_len (sumOf K) _ _ i nT) (split_any ls.length w h2 (by omega))
        (fun W J => ih (halfN ls.length) (by omega) (ls.take (halfN ls.length)) _ i W nT hik (by omega) (lT W J) sT (T.below J))
        (fun W J => root_any K _ (ls.drop (halfN ls.length)) _ W nD (by omega) (by omega) (lD W J) sD (T.below J)) (htx_any _ (hszF _))
    · rw [inclF_right (sumOf K) h2 hik]
      exact path_right g off cap ls.length (halfN ls.length) i w _ _ ⟨#[]⟩ (by omega) hk0 hk1 hcap (by omega) (by omega) (inclF_len (sumOf K) _ _ _ nD) (split_any ls.length w h2 (by omega))
        (fun W J => by
          have := ih (ls.length - halfN ls.length) (by omega) (ls.drop (halfN ls.length)) _ (i - halfN ls.length) W nD (by omega) (by omega) (lD W J) sD (T.below J)
          rw [show ((i - halfN ls.length : Nat) : Int) = (i : Int) - (halfN ls.length : Int) by omega] at this
          exact this)
        (fun W J => root_any K _ (ls.take (halfN ls.length)) _ W nT hk0 (by omega) (lT W J) sT (T.below J)) (htx_any _ (hszF _))

set_option maxRecDepth 10000 in
set_option maxHeartbeats 400000 in
/-- The program's Inclusion, at a place of a leaf. -/
theorem incl_any (K : Nat → Int) (ls : List ByteArray) (v : Value) (i : Nat) (w : World) (hin : i < ls.length) (hn1 : ls.length ≤ 2147483647) (hl : LeafAt w v ls) (hs : ∀ s ∈ ls, s.size ≤ 140737488355000) (T : Tab K w) :
    Calls Tryd.prog 14 #[v, .int .i64 i] w fun e w' => ∃ ao cap, e = .returned (.tuple #[.slice ao (inclF (sumOf K) ls i).length cap, .nilIface]) ∧ w'.ownsRow w.heap.size 9 1 (.slice ao (inclF (sumOf K) ls i).length cap) (inclF (sumOf K) ls i).length ((inclF (sumOf K) ls i).map .string) ∧ Below w.heap.size w w' := by
  have hp := path_any K _ ls v i w rfl hin hn1 hl hs T
  obtain ⟨g, off, cap, rfl, hcap, hc⟩ : ∃ g off cap, v = .slice (some ⟨g, off, none⟩) ls.length cap ∧ ls.length ≤ cap ∧ ∀ j (h : j < ls.length), w.cell? ⟨g, off + j, none⟩ = some (.string (ls[j]'h)) := by
    rcases hl with ⟨rfl, _⟩ | h
    · simp at hin
    · exact h
  generalize inclF (sumOf K) ls i = F at *
  have HP : Hid (Calls Tryd.prog 60 #[.slice (some ⟨g, off, none⟩) ls.length cap, .int .i64 i] w fun e w' => madeL w w' e F) := hp
  clear hp hc hl hs T
  generalize ls.length = N at *
  have i0 : ¬ (i : Int) < 0 := by omega
  have i1 : ¬ (N : Int) ≤ (i : Int) := by omega
  have hin' : Calls Tryd.prog 32 #[.slice (some ⟨g, off, none⟩) N cap, .int .i64 i] w fun e w' => ∃ ao cap, e = .returned (.tuple #[.slice ao F.length cap, .nilIface]) ∧ w'.ownsRow w.heap.size 9 1 (.slice ao F.length cap) F.length (F.map .string) ∧ Below w.heap.size w w' := by
    go_enter Tryd.func32, Tryd.ntmps32
    go_wp2_with fail
    refine HP.out.mono ?_
    rintro e w1 ⟨ao, cp, rfl, ho, hb⟩
    go_wp2_with fail
    go_ret2
    exact ⟨ao, cp, rfl, ho, hb⟩
  have HI : Hid (Calls Tryd.prog 32 #[.slice (some ⟨g, off, none⟩) N cap, .int .i64 i] w fun e w' => ∃ ao cap, e = .returned (.tuple #[.slice ao F.length cap, .nilIface]) ∧ w'.ownsRow w.heap.size 9 1 (.slice ao F.length cap) F.length (F.map .string) ∧ Below w.heap.size w w') := hin'
  clear hin' HP i0 i1
  go_enter Tryd.func14, Tryd.ntmps14
  go_wp2_with fail
  refine HI.out.mono ?_
  rintro e w1 ⟨ao, cp, rfl, ho, hb⟩
  go_wp2_with fail
  go_ret2
  exact ⟨ao, cp, rfl, ho, hb⟩

set_option maxRecDepth 10000 in
set_option maxHeartbeats 400000 in
/-- The program's Root, of some leaves. -/
theorem aroot_any (K : Nat → Int) (ls : List ByteArray) (v : Value) (w : World) (hn0 : 0 < ls.length) (hn1 : ls.length ≤ 2147483647) (hl : LeafAt w v ls) (hs : ∀ s ∈ ls, s.size ≤ 140737488355000) (T : Tab K w) :
    Calls Tryd.prog 13 #[v] w fun e w' => e = .returned (.string (rootF (sumOf K) ls)) ∧ Below w.heap.size w w' := by
  have hr := root_any K _ ls v w rfl hn0 hn1 hl hs T
  have htx := htx_any (rootF (sumOf K) ls) (rootF_size (sumOf K) (sumOf_size K) ls)
  obtain ⟨g, off, cap, rfl, hcap, hc⟩ : ∃ g off cap, v = .slice (some ⟨g, off, none⟩) ls.length cap ∧ ls.length ≤ cap ∧ ∀ j (h : j < ls.length), w.cell? ⟨g, off + j, none⟩ = some (.string (ls[j]'h)) := by
    rcases hl with ⟨rfl, _⟩ | h
    · simp at hn0
    · exact h
  generalize rootF (sumOf K) ls = R at *
  clear hc hl hs T
  generalize ls.length = N at *
  go_enter Tryd.func13, Tryd.ntmps13
  go_wp2_with fail
  refine hr.mono ?_
  rintro e w1 ⟨rfl, hb1⟩
  clear hr
  go_wp2_with fail
  refine (htx w1).mono ?_
  rintro e w2 ⟨rfl, hb2⟩
  clear htx
  go_wp2_with fail
  go_ret
  exact ⟨rfl, hb1.trans (hb2.mono hb1.size)⟩
end Go.Proofs.YteebdadnfaekmaaDoor
