import Derived.Test.YteebdadnfaekmaaDoorGRoot
import Derived.Test.YteebdadnfaekmaaDoorGMath
set_option linter.unusedVariables false
set_option linter.unusedSimpArgs false
namespace Go.Proofs.YteebdadnfaekmaaDoor
open Go.RowKit

set_option maxRecDepth 10000 in
set_option maxHeartbeats 400000 in
theorem grown_known (ao : Option Addr) (cap N : Nat) (w : World) : Calls Tryd.prog 64 #[.slice ao N cap, .int .i64 N, .bool true] w fun e w' => madeL w w' e [] := by
  go_enter Tryd.func64, Tryd.ntmps64
  go_wp2_with fail
  go_ret
  exact ⟨none, 0, rfl, World.ownsRow_nil _ _ _ _, Below.refl _ _⟩

set_option maxRecDepth 10000 in
set_option maxHeartbeats 400000 in
theorem grown_all (ao : Option Addr) (cap N : Nat) (w : World) (R : ByteArray)
    (hR : Calls Tryd.prog 31 #[.slice ao N cap] w fun e w' => e = .returned (.agg (hV R).toArray) ∧ Below w.heap.size w w')
    (htx : ∀ W, Calls Tryd.prog 27 #[.agg (hV R).toArray] W fun e w' => e = .returned (.string R) ∧ Below W.heap.size W w') :
    Calls Tryd.prog 64 #[.slice ao N cap, .int .i64 N, .bool false] w fun e w' => madeL w w' e [R] := by
  go_enter Tryd.func64, Tryd.ntmps64
  go_wp2_with fail
  refine hR.mono ?_
  rintro e w1 ⟨rfl, hb1⟩
  go_wp2_with fail
  refine (htx _).mono ?_
  rintro e w2 ⟨rfl, hb2⟩
  clear hR htx
  have hB2 : Below w.heap.size w w2 := hb1.trans (hb2.mono hb1.size)
  have hB3 : Below w.heap.size w (w2.alloc (.cells #[.string R] 9)) := hB2.alloc hB2.size _
  have ho : (w2.alloc (.cells #[.string R] 9)).ownsRow w.heap.size 9 1 (.slice (some ⟨w2.heap.size, 0, none⟩) 1 1) 1 [.string R] := World.ownsRow_lit w2 #[.string R] 1 hB2.size (by unfold maxLen; omega) rfl
  go_wp2_with fail
  go_ret
  exact ⟨_, _, rfl, ho, hB3⟩

set_option maxRecDepth 10000 in
set_option maxHeartbeats 1000000 in
theorem grown_left (g off cap N k m : Nat) (whole : Bool) (w : World) (F : List ByteArray) (R : ByteArray) (hN : N ≤ 2147483647) (hk0 : 0 < k) (hk1 : k < N) (hcap : N ≤ cap) (hmk : m ≤ k) (hFl : F.length ≤ k)
    (hsp : Calls Tryd.prog 58 #[.int .i64 N] w fun e w' => e = .returned (.int .i64 k) ∧ w' = w)
    (hP : ∀ W, Below w.heap.size w W → Calls Tryd.prog 64 #[.slice (some ⟨g, off, none⟩) k cap, .int .i64 m, .bool whole] W fun e w' => madeL W w' e F)
    (hR : ∀ W, Below w.heap.size w W → Calls Tryd.prog 31 #[.slice (some ⟨g, off + k, none⟩) (N - k) (cap - k)] W fun e w' => e = .returned (.agg (hV R).toArray) ∧ Below W.heap.size W w')
    (htx : ∀ W, Calls Tryd.prog 27 #[.agg (hV R).toArray] W fun e w' => e = .returned (.string R) ∧ Below W.heap.size W w') :
    Calls Tryd.prog 64 #[.slice (some ⟨g, off, none⟩) N cap, .int .i64 m, .bool whole] w fun e w' => madeL w w' e (F ++ [R]) := by
  obtain ⟨i0, hi, hz, hsz, hby⟩ := info_strT
  have k1 : (k : Int) ≤ (N : Int) := by omega
  have k2 : (k : Int) ≤ (cap : Int) := by omega
  have k3 : ¬ cap = k := by omega
  have n1 : ((m : Int) == (N : Int)) = false := by rw [beq_eq_false_iff_ne]; omega
  have ik : (m : Int) ≤ (k : Int) := by omega
  have HP : Hid (∀ W, Below w.heap.size w W → Calls Tryd.prog 64 #[.slice (some ⟨g, off, none⟩) k cap, .int .i64 m, .bool whole] W fun e w' => madeL W w' e F) := hP
  have HR : Hid (∀ W, Below w.heap.size w W → Calls Tryd.prog 31 #[.slice (some ⟨g, off + k, none⟩) (N - k) (cap - k)] W fun e w' => e = .returned (.agg (hV R).toArray) ∧ Below W.heap.size W w') := hR
  have HX : Hid (∀ W, Calls Tryd.prog 27 #[.agg (hV R).toArray] W fun e w' => e = .returned (.string R) ∧ Below W.heap.size W w') := htx
  clear hP hR htx
  go_enter Tryd.func64, Tryd.ntmps64
  go_wp2_with fail
  refine hsp.mono ?_
  rintro e w0 ⟨rfl, hw0⟩
  obtain rfl : w = w0 := hw0.symm
  clear hw0 hsp
  go_wp2_with fail
  have B0 : Below w.heap.size w w.drew := (Below.refl _ _).drew
  refine wp_region_noPanic ?_
  refine wp_region_held_drew (S := fun w' => Below w.heap.size w w') (by kernel_rfl) B0 (fun _ => ?_)
  refine wpAnyH_take (i := 0) (v := ?_) rfl (by kernel_rfl) (by kernel_rfl) (by kernel_rfl) (fun _ _ _ h => h) (Or.inl ⟨by rfl, ?_⟩) B0 ?_
  rotate_left 1
  · intro w hSw; clear hSw; go_simp; try with_reducible rfl
  simp only [List.getElem_toArray, List.getElem_cons_zero, List.getElem_cons_succ, Act.put, List.setIfInBounds_toArray, List.set_cons_zero, List.set_cons_succ]
  refine wpAnyH_take (i := 1) (v := ?_) rfl (by kernel_rfl) (by kernel_rfl) (by kernel_rfl) (fun _ _ _ h => h) (Or.inl ⟨by rfl, ?_⟩) B0 ?_
  rotate_left 1
  · intro w hSw; clear hSw; go_simp; try with_reducible rfl
  simp only [List.getElem_toArray, List.getElem_cons_zero, List.getElem_cons_succ, Act.put, List.setIfInBounds_toArray, List.set_cons_zero, List.set_cons_succ]
  refine wpAnyH_take (i := 2) (v := ?_) rfl (by kernel_rfl) (by kernel_rfl) (by kernel_rfl) (fun _ _ _ h => h) (Or.inl ⟨by rfl, ?_⟩) B0 ?_
  rotate_left 1
  · intro w hSw; clear hSw; go_simp; try with_reducible rfl
  simp only [List.getElem_toArray, List.getElem_cons_zero, List.getElem_cons_succ, Act.put, List.setIfInBounds_toArray, List.set_cons_zero, List.set_cons_succ]
  refine wpAnyH_take (i := 3) (v := ?_) rfl (by kernel_rfl) (by kernel_rfl) (by kernel_rfl) (fun _ _ _ h => h) (Or.inl ⟨by rfl, ?_⟩) B0 ?_
  rotate_left 1
  · intro w hSw; clear hSw; go_simp; try with_reducible rfl
  simp only [List.getElem_toArray, List.getElem_cons_zero, List.getElem_cons_succ, Act.put, List.setIfInBounds_toArray, List.set_cons_zero, List.set_cons_succ]
  refine wpAnyH_take (i := 4) (v := ?_) rfl (by kernel_rfl) (by kernel_rfl) (by kernel_rfl) (fun _ _ _ h => h) (Or.inl ⟨by rfl, ?_⟩) B0 ?_
  rotate_left 1
  · intro w hSw; clear hSw; go_simp; try with_reducible rfl
  simp only [List.getElem_toArray, List.getElem_cons_zero, List.getElem_cons_succ, Act.put, List.setIfInBounds_toArray, List.set_cons_zero, List.set_cons_succ]
  refine wpAnyH_take (i := 6) (v := ?_) rfl (by kernel_rfl) (by kernel_rfl) (by kernel_rfl) (fun _ _ _ h => h) (Or.inl ⟨by rfl, ?_⟩) B0 ?_
  rotate_left 1
  · intro w hSw; clear hSw; go_simp; try with_reducible rfl
  simp only [List.getElem_toArray, List.getElem_cons_zero, List.getElem_cons_succ, Act.put, List.setIfInBounds_toArray, List.set_cons_zero, List.set_cons_succ]
  refine wpAnyH_take (i := 7) (v := ?_) rfl (by kernel_rfl) (by kernel_rfl) (by kernel_rfl) (fun _ _ _ h => h) (Or.inl ⟨by rfl, ?_⟩) B0 ?_
  rotate_left 1
  · intro w hSw; clear hSw; go_simp; try with_reducible rfl
  simp only [List.getElem_toArray, List.getElem_cons_zero, List.getElem_cons_succ, Act.put, List.setIfInBounds_toArray, List.set_cons_zero, List.set_cons_succ]
  refine wpAnyH_take (i := 8) (v := ?_) rfl (by kernel_rfl) (by kernel_rfl) (by kernel_rfl) (fun _ _ _ h => h) (Or.inl ⟨by rfl, ?_⟩) B0 ?_
  rotate_left 1
  · intro w hSw; clear hSw; go_simp; try with_reducible rfl
  simp only [List.getElem_toArray, List.getElem_cons_zero, List.getElem_cons_succ, Act.put, List.setIfInBounds_toArray, List.set_cons_zero, List.set_cons_succ]
  refine wpAnyH_ready (rs := [5]) (by kernel_rfl) (by simp) ?_
  refine AllReadyH.cons rfl (fun K hK => ?_) AllReadyH.nil
  rw [if_pos (by rfl)]
  go_simp
  refine (HP.out _ B0).mono ?_
  rintro e w1 ⟨ao, cp, rfl, ho1, hb1⟩
  have B1 : Below w.heap.size w w1 := B0.trans (hb1.mono (Nat.le_refl _))
  have ho1 : w1.ownsRow w.heap.size 9 1 (.slice ao F.length cp) F.length (F.map .string) := ho1
  refine hK.out _ _ B1 (fun _ => ?_)
  clear hK K
  try simp only [List.getElem_toArray, List.getElem_cons_zero, List.getElem_cons_succ, Act.put, List.setIfInBounds_toArray, List.set_cons_zero, List.set_cons_succ]
  refine wpAnyH_ready (rs := [9]) (by kernel_rfl) (by simp) ?_
  refine AllReadyH.cons rfl (fun K hK => ?_) AllReadyH.nil
  rw [if_pos (by rfl)]
  go_simp
  refine (HR.out _ B1).mono ?_
  rintro e w2 ⟨rfl, hb2⟩
  have B2 : Below w.heap.size w w2 := B1.trans (hb2.mono B1.size)
  have ho2 := own_below' ho1 hb2
  refine hK.out _ _ B2 (fun _ => ?_)
  clear hK K
  try simp only [List.getElem_toArray, List.getElem_cons_zero, List.getElem_cons_succ, Act.put, List.setIfInBounds_toArray, List.set_cons_zero, List.set_cons_succ]
  refine wpAnyH_ready (rs := [10]) (by kernel_rfl) (by simp) ?_
  refine AllReadyH.cons rfl (fun K hK => ?_) AllReadyH.nil
  rw [if_pos (by rfl)]
  go_simp
  refine (HX.out _).mono ?_
  rintro e w3 ⟨rfl, hb3⟩
  have B3 : Below w.heap.size w w3 := B2.trans (hb3.mono B2.size)
  have ho3 := own_below' ho2 hb3
  refine hK.out _ _ B3 (fun _ => ?_)
  clear hK K
  try simp only [List.getElem_toArray, List.getElem_cons_zero, List.getElem_cons_succ, Act.put, List.setIfInBounds_toArray, List.set_cons_zero, List.set_cons_succ]
  refine wpAnyH_ready (rs := [11]) (by kernel_rfl) (by simp) ?_
  refine AllReadyH.cons rfl (fun K hK => ?_) AllReadyH.nil
  rw [if_pos (by rfl)]
  go_simp
  have hb4 : Below w3.heap.size w3 (w3.alloc (.cells #[.string R] 9)) := (Below.refl _ _).alloc (Nat.le_refl _) _
  have B4 : Below w.heap.size w (w3.alloc (.cells #[.string R] 9)) := B3.trans (hb4.mono B3.size)
  have ho4 := own_below' ho3 hb4
  have hnews : ∀ j u, [Value.string R][j]? = some u → (w3.alloc (.cells #[.string R] 9)).cell? ((⟨w3.heap.size, 0, none⟩ : Addr).add j) = some u := World.news_of_block (heap_alloc_new w3 (.cells #[.string R] 9))
  refine hK.out _ _ B4 (fun _ => ?_)
  clear hK K
  try simp only [List.getElem_toArray, List.getElem_cons_zero, List.getElem_cons_succ, Act.put, List.setIfInBounds_toArray, List.set_cons_zero, List.set_cons_succ]
  refine wpAnyH_ready (rs := [12]) (by kernel_rfl) (by simp) ?_
  refine AllReadyH.cons rfl (fun K hK => ?_) AllReadyH.nil
  rw [if_pos (by rfl)]
  refine wp_append_lies _ (.tmp 28) (.tmp 34) 37 rfl w.heap.size 9 i0 _ 1 16 Tryd.underlying37 hi hz hsz hby rfl (by decide) (.slice ao F.length cp) F.length _ rfl ho4 ⟨w3.heap.size, 0, none⟩ 1 1 [.string R] rfl rfl hnews (by simp [Value.oneCell']) (by decide) (by unfold maxLen; omega) (by omega) B4.size _ rfl ?_
  intro g2 cap2 w5 ho5 hgr5 hat5 hlt5
  have B5 : Below w.heap.size w w5 := B4.trans ((Below.refl _ _).grown hgr5 B4.size (fun k hk => (ho4.lt k hk).1))
  refine hK.out _ _ B5 (fun _ => ?_)
  clear hK K
  try simp only [List.getElem_toArray, List.getElem_cons_zero, List.getElem_cons_succ, Act.put, List.setIfInBounds_toArray, List.set_cons_zero, List.set_cons_succ]
  refine wpAnyH_ready (rs := [13]) (by kernel_rfl) (by simp) ?_
  refine AllReadyH.cons rfl (fun K hK => ?_) AllReadyH.nil
  rw [if_pos (by rfl)]
  go_simp
  refine hK.out _ _ B5 (fun _ => ?_)
  clear hK K
  refine ⟨by kernel_rfl, ?_⟩
  refine NoPanic.normal ?_
  try simp only [List.getElem_toArray, List.getElem_cons_zero, List.getElem_cons_succ, Act.put, List.setIfInBounds_toArray, List.set_cons_zero, List.set_cons_succ]
  go_wp2_with fail
  go_ret
  refine ⟨some ⟨g2, 0, none⟩, cap2, by simp, by simpa using ho5, B5⟩

set_option maxRecDepth 10000 in
set_option maxHeartbeats 1000000 in
theorem grown_right (g off cap N k m : Nat) (whole : Bool) (w : World) (F : List ByteArray) (R : ByteArray) (hN : N ≤ 2147483647) (hk0 : 0 < k) (hk1 : k < N) (hcap : N ≤ cap) (hmk : k < m) (hmN : m < N) (hFl : F.length ≤ N - k)
    (hsp : Calls Tryd.prog 58 #[.int .i64 N] w fun e w' => e = .returned (.int .i64 k) ∧ w' = w)
    (hP : ∀ W, Below w.heap.size w W → Calls Tryd.prog 64 #[.slice (some ⟨g, off + k, none⟩) (N - k) (cap - k), .int .i64 ((m : Int) - (k : Int)), .bool false] W fun e w' => madeL W w' e F)
    (hR : ∀ W, Below w.heap.size w W → Calls Tryd.prog 31 #[.slice (some ⟨g, off, none⟩) k cap] W fun e w' => e = .returned (.agg (hV R).toArray) ∧ Below W.heap.size W w')
    (htx : ∀ W, Calls Tryd.prog 27 #[.agg (hV R).toArray] W fun e w' => e = .returned (.string R) ∧ Below W.heap.size W w') :
    Calls Tryd.prog 64 #[.slice (some ⟨g, off, none⟩) N cap, .int .i64 m, .bool whole] w fun e w' => madeL w w' e (F ++ [R]) := by
  obtain ⟨i0, hi, hz, hsz, hby⟩ := info_strT
  have k1 : (k : Int) ≤ (N : Int) := by omega
  have k2 : (k : Int) ≤ (cap : Int) := by omega
  have k3 : ¬ cap = k := by omega
  have n1 : ((m : Int) == (N : Int)) = false := by rw [beq_eq_false_iff_ne]; omega
  have ik : ¬ (m : Int) ≤ (k : Int) := by omega
  have ik2 : (m : Int) < (N : Int) := by omega
  have ik3 : (k : Int) < (m : Int) := by omega
  have hwr : IntKind.i64.wrap ((m : Int) - (k : Int)) = (m : Int) - (k : Int) := wrap_small _ (by omega) (by omega)
  have HP : Hid (∀ W, Below w.heap.size w W → Calls Tryd.prog 64 #[.slice (some ⟨g, off + k, none⟩) (N - k) (cap - k), .int .i64 ((m : Int) - (k : Int)), .bool false] W fun e w' => madeL W w' e F) := hP
  have HR : Hid (∀ W, Below w.heap.size w W → Calls Tryd.prog 31 #[.slice (some ⟨g, off, none⟩) k cap] W fun e w' => e = .returned (.agg (hV R).toArray) ∧ Below W.heap.size W w') := hR
  have HX : Hid (∀ W, Calls Tryd.prog 27 #[.agg (hV R).toArray] W fun e w' => e = .returned (.string R) ∧ Below W.heap.size W w') := htx
  clear hP hR htx
  go_enter Tryd.func64, Tryd.ntmps64
  go_wp2_with fail
  refine hsp.mono ?_
  rintro e w0 ⟨rfl, hw0⟩
  obtain rfl : w = w0 := hw0.symm
  clear hw0 hsp
  go_wp2_with fail
  have B0 : Below w.heap.size w w.drew := (Below.refl _ _).drew
  refine wp_region_noPanic ?_
  refine wp_region_held_drew (S := fun w' => Below w.heap.size w w') (by kernel_rfl) B0 (fun _ => ?_)
  refine wpAnyH_take (i := 0) (v := ?_) rfl (by kernel_rfl) (by kernel_rfl) (by kernel_rfl) (fun _ _ _ h => h) (Or.inl ⟨by rfl, ?_⟩) B0 ?_
  rotate_left 1
  · intro w hSw; clear hSw; go_simp; try with_reducible rfl
  simp only [List.getElem_toArray, List.getElem_cons_zero, List.getElem_cons_succ, Act.put, List.setIfInBounds_toArray, List.set_cons_zero, List.set_cons_succ]
  refine wpAnyH_take (i := 1) (v := ?_) rfl (by kernel_rfl) (by kernel_rfl) (by kernel_rfl) (fun _ _ _ h => h) (Or.inl ⟨by rfl, ?_⟩) B0 ?_
  rotate_left 1
  · intro w hSw; clear hSw; go_simp; try with_reducible rfl
  simp only [List.getElem_toArray, List.getElem_cons_zero, List.getElem_cons_succ, Act.put, List.setIfInBounds_toArray, List.set_cons_zero, List.set_cons_succ]
  refine wpAnyH_take (i := 2) (v := ?_) rfl (by kernel_rfl) (by kernel_rfl) (by kernel_rfl) (fun _ _ _ h => h) (Or.inl ⟨by rfl, ?_⟩) B0 ?_
  rotate_left 1
  · intro w hSw; clear hSw; go_simp; try with_reducible rfl
  simp only [List.getElem_toArray, List.getElem_cons_zero, List.getElem_cons_succ, Act.put, List.setIfInBounds_toArray, List.set_cons_zero, List.set_cons_succ]
  refine wpAnyH_take (i := 3) (v := ?_) rfl (by kernel_rfl) (by kernel_rfl) (by kernel_rfl) (fun _ _ _ h => h) (Or.inl ⟨by rfl, ?_⟩) B0 ?_
  rotate_left 1
  · intro w hSw; clear hSw; go_simp; try with_reducible rfl
  simp only [List.getElem_toArray, List.getElem_cons_zero, List.getElem_cons_succ, Act.put, List.setIfInBounds_toArray, List.set_cons_zero, List.set_cons_succ]
  refine wpAnyH_take (i := 4) (v := ?_) rfl (by kernel_rfl) (by kernel_rfl) (by kernel_rfl) (fun _ _ _ h => h) (Or.inl ⟨by rfl, ?_⟩) B0 ?_
  rotate_left 1
  · intro w hSw; clear hSw; go_simp; try with_reducible rfl
  simp only [List.getElem_toArray, List.getElem_cons_zero, List.getElem_cons_succ, Act.put, List.setIfInBounds_toArray, List.set_cons_zero, List.set_cons_succ]
  refine wpAnyH_take (i := 5) (v := ?_) rfl (by kernel_rfl) (by kernel_rfl) (by kernel_rfl) (fun _ _ _ h => h) (Or.inl ⟨by rfl, ?_⟩) B0 ?_
  rotate_left 1
  · intro w hSw; clear hSw; go_simp; try with_reducible rfl
  simp only [List.getElem_toArray, List.getElem_cons_zero, List.getElem_cons_succ, Act.put, List.setIfInBounds_toArray, List.set_cons_zero, List.set_cons_succ]
  refine wpAnyH_take (i := 7) (v := ?_) rfl (by kernel_rfl) (by kernel_rfl) (by kernel_rfl) (fun _ _ _ h => h) (Or.inl ⟨by rfl, ?_⟩) B0 ?_
  rotate_left 1
  · intro w hSw; clear hSw; go_simp; try with_reducible rfl
  simp only [List.getElem_toArray, List.getElem_cons_zero, List.getElem_cons_succ, Act.put, List.setIfInBounds_toArray, List.set_cons_zero, List.set_cons_succ]
  refine wpAnyH_take (i := 8) (v := ?_) rfl (by kernel_rfl) (by kernel_rfl) (by kernel_rfl) (fun _ _ _ h => h) (Or.inl ⟨by rfl, ?_⟩) B0 ?_
  rotate_left 1
  · intro w hSw; clear hSw; go_simp; try with_reducible rfl
  simp only [List.getElem_toArray, List.getElem_cons_zero, List.getElem_cons_succ, Act.put, List.setIfInBounds_toArray, List.set_cons_zero, List.set_cons_succ]
  refine wpAnyH_take (i := 9) (v := ?_) rfl (by kernel_rfl) (by kernel_rfl) (by kernel_rfl) (fun _ _ _ h => h) (Or.inl ⟨by rfl, ?_⟩) B0 ?_
  rotate_left 1
  · intro w hSw; clear hSw; go_simp; try with_reducible rfl
  simp only [List.getElem_toArray, List.getElem_cons_zero, List.getElem_cons_succ, Act.put, List.setIfInBounds_toArray, List.set_cons_zero, List.set_cons_succ]
  refine wpAnyH_ready (rs := [6]) (by kernel_rfl) (by simp) ?_
  refine AllReadyH.cons rfl (fun K hK => ?_) AllReadyH.nil
  rw [if_pos (by rfl)]
  go_simp
  refine (HP.out _ B0).mono ?_
  rintro e w1 ⟨ao, cp, rfl, ho1, hb1⟩
  have B1 : Below w.heap.size w w1 := B0.trans (hb1.mono (Nat.le_refl _))
  have ho1 : w1.ownsRow w.heap.size 9 1 (.slice ao F.length cp) F.length (F.map .string) := ho1
  refine hK.out _ _ B1 (fun _ => ?_)
  clear hK K
  try simp only [List.getElem_toArray, List.getElem_cons_zero, List.getElem_cons_succ, Act.put, List.setIfInBounds_toArray, List.set_cons_zero, List.set_cons_succ]
  refine wpAnyH_ready (rs := [10]) (by kernel_rfl) (by simp) ?_
  refine AllReadyH.cons rfl (fun K hK => ?_) AllReadyH.nil
  rw [if_pos (by rfl)]
  go_simp
  refine (HR.out _ B1).mono ?_
  rintro e w2 ⟨rfl, hb2⟩
  have B2 : Below w.heap.size w w2 := B1.trans (hb2.mono B1.size)
  have ho2 := own_below' ho1 hb2
  refine hK.out _ _ B2 (fun _ => ?_)
  clear hK K
  try simp only [List.getElem_toArray, List.getElem_cons_zero, List.getElem_cons_succ, Act.put, List.setIfInBounds_toArray, List.set_cons_zero, List.set_cons_succ]
  refine wpAnyH_ready (rs := [11]) (by kernel_rfl) (by simp) ?_
  refine AllReadyH.cons rfl (fun K hK => ?_) AllReadyH.nil
  rw [if_pos (by rfl)]
  go_simp
  refine (HX.out _).mono ?_
  rintro e w3 ⟨rfl, hb3⟩
  have B3 : Below w.heap.size w w3 := B2.trans (hb3.mono B2.size)
  have ho3 := own_below' ho2 hb3
  refine hK.out _ _ B3 (fun _ => ?_)
  clear hK K
  try simp only [List.getElem_toArray, List.getElem_cons_zero, List.getElem_cons_succ, Act.put, List.setIfInBounds_toArray, List.set_cons_zero, List.set_cons_succ]
  refine wpAnyH_ready (rs := [12]) (by kernel_rfl) (by simp) ?_
  refine AllReadyH.cons rfl (fun K hK => ?_) AllReadyH.nil
  rw [if_pos (by rfl)]
  go_simp
  have hb4 : Below w3.heap.size w3 (w3.alloc (.cells #[.string R] 9)) := (Below.refl _ _).alloc (Nat.le_refl _) _
  have B4 : Below w.heap.size w (w3.alloc (.cells #[.string R] 9)) := B3.trans (hb4.mono B3.size)
  have ho4 := own_below' ho3 hb4
  have hnews : ∀ j u, [Value.string R][j]? = some u → (w3.alloc (.cells #[.string R] 9)).cell? ((⟨w3.heap.size, 0, none⟩ : Addr).add j) = some u := World.news_of_block (heap_alloc_new w3 (.cells #[.string R] 9))
  refine hK.out _ _ B4 (fun _ => ?_)
  clear hK K
  try simp only [List.getElem_toArray, List.getElem_cons_zero, List.getElem_cons_succ, Act.put, List.setIfInBounds_toArray, List.set_cons_zero, List.set_cons_succ]
  refine wpAnyH_ready (rs := [13]) (by kernel_rfl) (by simp) ?_
  refine AllReadyH.cons rfl (fun K hK => ?_) AllReadyH.nil
  rw [if_pos (by rfl)]
  refine wp_append_lies _ (.tmp 42) (.tmp 48) 37 rfl w.heap.size 9 i0 _ 1 16 Tryd.underlying37 hi hz hsz hby rfl (by decide) (.slice ao F.length cp) F.length _ rfl ho4 ⟨w3.heap.size, 0, none⟩ 1 1 [.string R] rfl rfl hnews (by simp [Value.oneCell']) (by decide) (by unfold maxLen; omega) (by omega) B4.size _ rfl ?_
  intro g2 cap2 w5 ho5 hgr5 hat5 hlt5
  have B5 : Below w.heap.size w w5 := B4.trans ((Below.refl _ _).grown hgr5 B4.size (fun k hk => (ho4.lt k hk).1))
  refine hK.out _ _ B5 (fun _ => ?_)
  clear hK K
  try simp only [List.getElem_toArray, List.getElem_cons_zero, List.getElem_cons_succ, Act.put, List.setIfInBounds_toArray, List.set_cons_zero, List.set_cons_succ]
  refine wpAnyH_ready (rs := [14]) (by kernel_rfl) (by simp) ?_
  refine AllReadyH.cons rfl (fun K hK => ?_) AllReadyH.nil
  rw [if_pos (by rfl)]
  go_simp
  refine hK.out _ _ B5 (fun _ => ?_)
  clear hK K
  refine ⟨by kernel_rfl, ?_⟩
  refine NoPanic.normal ?_
  try simp only [List.getElem_toArray, List.getElem_cons_zero, List.getElem_cons_succ, Act.put, List.setIfInBounds_toArray, List.set_cons_zero, List.set_cons_succ]
  go_wp2_with fail
  go_ret
  refine ⟨some ⟨g2, 0, none⟩, cap2, by simp, by simpa using ho5, B5⟩

/-- The program's grown: the hashes by which a tree is proved to have grown. -/
theorem grown_any (K : Nat → Int) : ∀ (n : Nat) (ls : List ByteArray) (v : Value) (m : Nat) (whole : Bool) (w : World), ls.length = n → 0 < m → m ≤ n → n ≤ 2147483647 → LeafAt w v ls → (∀ s ∈ ls, s.size ≤ 140737488355000) → Tab K w →
    Calls Tryd.prog 64 #[v, .int .i64 m, .bool whole] w fun e w' => madeL w w' e (grownF (sumOf K) ls m whole) := by
  intro n
  induction n using Nat.strongRecOn with
  | _ n ih =>
  intro ls v m whole w hn hm0 hmn hn1 hl hs T
  have hszF : ∀ l, (rootF (sumOf K) l).size = 32 := rootF_size (sumOf K) (sumOf_size K)
  by_cases h1 : m = n
  · rw [grownF_all _ whole (by omega)]
    have hr := root_all K ls v w (by omega) hl hs T
    obtain ⟨ao, cap, rfl⟩ := leaf_form hl
    rw [h1, ← hn]
    cases whole
    · exact grown_all ao cap ls.length w _ hr (htx_any _ (hszF _))
    · exact grown_known ao cap ls.length w
  · obtain ⟨g, off, cap, rfl, hcap, hc⟩ : ∃ g off cap, v = .slice (some ⟨g, off, none⟩) ls.length cap ∧ ls.length ≤ cap ∧ ∀ j (h : j < ls.length), w.cell? ⟨g, off + j, none⟩ = some (.string (ls[j]'h)) := by
      rcases hl with ⟨rfl, _⟩ | h
      · simp at hn; omega
      · exact h
    have h2 : 2 ≤ ls.length := by omega
    have hk0 := halfN_pos ls.length
    have hk1 := halfN_lt h2
    have lT : ∀ W, Below w.heap.size w W → LeafAt W (.slice (some ⟨g, off, none⟩) (halfN ls.length) cap) (ls.take (halfN ls.length)) := fun W J => (leaf_take _ (by omega) hcap hc).below J
    have lD : ∀ W, Below w.heap.size w W → LeafAt W (.slice (some ⟨g, off + halfN ls.length, none⟩) (ls.length - halfN ls.length) (cap - halfN ls.length)) (ls.drop (halfN ls.length)) := fun W J => (leaf_drop _ (by omega) hcap hc).below J
    have sT : ∀ s ∈ ls.take (halfN ls.length), s.size ≤ 140737488355000 := fun s hs' => hs s (List.mem_of_mem_take hs')
    have sD : ∀ s ∈ ls.drop (halfN ls.length), s.size ≤ 140737488355000 := fun s hs' => hs s (List.mem_of_mem_drop hs')
    have nT : (ls.take (halfN ls.length)).length = halfN ls.length := by simp; omega
    have nD : (ls.drop (halfN ls.length)).length = ls.length - halfN ls.length := by simp
    by_cases hik : m ≤ halfN ls.length
    · rw [grownF_left (sumOf K) whole hm0 (by omega) hik]
      exact grown_left g off cap ls.length (halfN ls.length) m whole w _ _ (by omega) hk0 hk1 hcap hik (grownF_len (sumOf K) _ _ m whole nT hm0 hik) (split_any ls.length w h2 (by omega))
        (fun W J => ih (halfN ls.length) (by omega) (ls.take (halfN ls.length)) _ m whole W nT hm0 hik (by omega) (lT W J) sT (T.below J))
        (fun W J => root_any K _ (ls.drop (halfN ls.length)) _ W nD (by omega) (by omega) (lD W J) sD (T.below J)) (htx_any _ (hszF _))
    · rw [grownF_right (sumOf K) whole hm0 (by omega) hik]
      exact grown_right g off cap ls.length (halfN ls.length) m whole w _ _ (by omega) hk0 hk1 hcap (by omega) (by omega) (grownF_len (sumOf K) _ _ _ _ nD (by omega) (by omega)) (split_any ls.length w h2 (by omega))
        (fun W J => by
          have := ih (ls.length - halfN ls.length) (by omega) (ls.drop (halfN ls.length)) _ (m - halfN ls.length) false W nD (by omega) (by omega) (by omega) (lD W J) sD (T.below J)
          rw [show ((m - halfN ls.length : Nat) : Int) = (m : Int) - (halfN ls.length : Int) by omega] at this
          exact this)
        (fun W J => root_any K _ (ls.take (halfN ls.length)) _ W nT hk0 (by omega) (lT W J) sT (T.below J)) (htx_any _ (hszF _))

/-- What Consistency answers. -/
def consF (H : ByteArray → ByteArray) (l : List ByteArray) (m : Nat) : List ByteArray := if m = 0 then [] else grownF H l m true
def consPost (w : World) (F : List ByteArray) (e : Ending) (w' : World) : Prop := ∃ ao cap, e = .returned (.tuple #[.slice ao F.length cap, .nilIface]) ∧ w'.ownsRow w.heap.size 9 1 (.slice ao F.length cap) F.length (F.map .string) ∧ Below w.heap.size w w'

set_option maxRecDepth 10000 in
set_option maxHeartbeats 400000 in
theorem cons_tree (K : Nat → Int) (ls : List ByteArray) (v : Value) (m : Nat) (w : World) (hm : m ≤ ls.length) (hn1 : ls.length ≤ 2147483647) (hl : LeafAt w v ls) (hs : ∀ s ∈ ls, s.size ≤ 140737488355000) (T : Tab K w) :
    Calls Tryd.prog 37 #[v, .int .i64 m] w (consPost w (consF (sumOf K) ls m)) := by
  by_cases h0 : m = 0
  · subst h0
    obtain ⟨ao, cap, rfl⟩ := leaf_form hl
    have hc : consF (sumOf K) ls 0 = [] := by unfold consF; rw [if_pos rfl]
    rw [hc]
    clear hl hs T hm hc
    generalize ls.length = N at *
    have i1 : ¬ (N : Int) < 0 := by omega
    go_enter Tryd.func37, Tryd.ntmps37
    go_wp2_with fail
    go_ret2
    exact ⟨none, 0, rfl, World.ownsRow_nil _ _ _ _, Below.refl _ _⟩
  · have hg := grown_any K _ ls v m true w rfl (by omega) hm hn1 hl hs T
    have hc : consF (sumOf K) ls m = grownF (sumOf K) ls m true := by unfold consF; rw [if_neg h0]
    rw [hc]
    obtain ⟨ao, cap, rfl⟩ := leaf_form hl
    generalize grownF (sumOf K) ls m true = F at *
    clear hl hs T hc
    generalize ls.length = N at *
    have i0 : ¬ (m : Int) < 0 := by omega
    have i1 : ¬ (N : Int) < (m : Int) := by omega
    have i2 : ((m : Int) == 0) = false := by rw [beq_eq_false_iff_ne]; omega
    go_enter Tryd.func37, Tryd.ntmps37
    go_wp2_with fail
    refine hg.mono ?_
    rintro e w1 ⟨ao2, cp, rfl, ho, hb⟩
    clear hg
    go_wp2_with fail
    go_ret2
    exact ⟨ao2, cp, rfl, ho, hb⟩

set_option maxRecDepth 10000 in
set_option maxHeartbeats 400000 in
/-- The program's Consistency, of the first m leaves. -/
theorem cons_any (K : Nat → Int) (ls : List ByteArray) (v : Value) (m : Nat) (w : World) (hm : m ≤ ls.length) (hn1 : ls.length ≤ 2147483647) (hl : LeafAt w v ls) (hs : ∀ s ∈ ls, s.size ≤ 140737488355000) (T : Tab K w) :
    Calls Tryd.prog 18 #[v, .int .i64 m] w (consPost w (consF (sumOf K) ls m)) := by
  have hc := cons_tree K ls v m w hm hn1 hl hs T
  obtain ⟨ao, cap, rfl⟩ := leaf_form hl
  generalize consF (sumOf K) ls m = F at *
  have HC : Hid (Calls Tryd.prog 37 #[.slice ao ls.length cap, .int .i64 m] w (consPost w F)) := hc
  clear hc hl hs T
  generalize ls.length = N at *
  go_enter Tryd.func18, Tryd.ntmps18
  go_wp2_with fail
  refine HC.out.mono ?_
  rintro e w1 ⟨ao2, cp, rfl, ho, hb⟩
  go_wp2_with fail
  go_ret2
  exact ⟨ao2, cp, rfl, ho, hb⟩
end Go.Proofs.YteebdadnfaekmaaDoor
