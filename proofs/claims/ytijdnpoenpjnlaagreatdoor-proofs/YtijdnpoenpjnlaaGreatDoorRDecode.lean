import Derived.Test.YtijdnpoenpjnlaaGreatDoorRCode
set_option linter.unusedVariables false
set_option linter.unusedSimpArgs false
namespace Go.Proofs.YtijdnpoenpjnlaaGreatDoor
open Go.RowKit

def zRefL : List Value := refEv 0 0 0 0 0 0 ⟨#[]⟩
theorem alloc_ref (w : World) : (Instr.alloc 59 true (.tuple #[])).run Tryz.prog w = .ok (.pointer (some ⟨w.heap.size, 0, none⟩)) (w.alloc (.cells zRefL.toArray 59)) := by kernel_rfl
theorem build_ref (w : World) : (Instr.build 59 #[]).run Tryz.prog w = .ok (.agg zRefL.toArray) w := by kernel_rfl
theorem info_ref : (Tryz.prog.info? 59).map (·.size) = some zRefL.length := by kernel_rfl
theorem ref_one (c n o p v k : Int) (s : ByteArray) : ∀ u ∈ refEv c n o p v k s, u.oneCell' = true := by
  intro u hu
  simp only [refEv, List.mem_cons, List.not_mem_nil, or_false] at hu
  rcases hu with rfl | rfl | rfl | rfl | rfl | rfl | rfl <;> rfl
theorem there_ref (w : World) : (w.alloc (.cells zRefL.toArray 59)).there w.heap.size 0 zRefL.length := by simpa using there_new w zRefL.toArray 59

set_option maxHeartbeats 400000 in
theorem rdecode_short (s : ByteArray) (w : World) (h : s.size ≠ 42) :
    Calls Tryz.prog 64 #[.string s] w fun e w' => e = .returned (.tuple #[.agg zRefL.toArray, .int .i64 9]) ∧ Below w.heap.size w w' := by
  have hb : ((s.size : Int) != 42) = true := by rw [bne_iff_ne]; omega
  go_enter Tryz.func64, Tryz.ntmps64
  go_wp2_with (first | (refine wpList_alloc_of rfl 59 rfl zRefL.toArray alloc_ref ?_) | (refine wpList_build_of rfl 59 rfl zRefL.toArray build_ref ?_) | (refine wpList_store_abs rfl 59 _ _ rfl w.heap.size 0 zRefL rfl rfl (there_ref w) info_ref (ref_one _ _ _ _ _ _ _) ?_; intro w1 _hw1 hr1 ht1 hb1; clear _hw1))
  exact ret_cell_tmp rfl w.heap.size 0 zRefL _ (.int .i64 9) rfl rfl hr1 Tryz.underlying59 rfl info_ref rfl ⟨rfl, ((Below.refl _ _).alloc (Nat.le_refl _) _).trans (hb1 _ (Nat.le_refl _))⟩

set_option maxHeartbeats 400000 in
theorem rdecode_head (s : ByteArray) (w : World) (hb : ((s.size : Int) != 42) = false) (hlt : 0 < s.size) (hb2 : (((s[0]'hlt).toNat : Int) != 69) = true) :
    Calls Tryz.prog 64 #[.string s] w fun e w' => e = .returned (.tuple #[.agg zRefL.toArray, .int .i64 9]) ∧ Below w.heap.size w w' := by
  have k0 : (0 : Int) < (s.size : Int) := by omega
  go_enter Tryz.func64, Tryz.ntmps64
  go_wp2_with (first | (refine wpList_alloc_of rfl 59 rfl zRefL.toArray alloc_ref ?_) | (refine wpList_build_of rfl 59 rfl zRefL.toArray build_ref ?_) | (refine wpList_store_abs rfl 59 _ _ rfl w.heap.size 0 zRefL rfl rfl (there_ref w) info_ref (ref_one _ _ _ _ _ _ _) ?_; intro w1 _hw1 hr1 ht1 hb1; clear _hw1))
  exact ret_cell_tmp rfl w.heap.size 0 zRefL _ (.int .i64 9) rfl rfl hr1 Tryz.underlying59 rfl info_ref rfl ⟨rfl, ((Below.refl _ _).alloc (Nat.le_refl _) _).trans (hb1 _ (Nat.le_refl _))⟩

/-- What the document's answer makes of the bytes. -/
def rEv (s : ByteArray) : List Value := refEv (bAt s 1) (readI (bAt s 2) (bAt s 3) (bAt s 4) (bAt s 5)) (bAt s 6) (bAt s 7) (bAt s 8) (bAt s 9) (s.extract 10 s.size)
theorem numK_four (s : ByteArray) : numK s 4 = readI (bAt s 0) (bAt s 1) (bAt s 2) (bAt s 3) := by
  rw [readI_eq _ _ _ _ ⟨bAt_lo s 0, by have := bAt_hi s 0; omega⟩ ⟨bAt_lo s 1, by have := bAt_hi s 1; omega⟩ ⟨bAt_lo s 2, by have := bAt_hi s 2; omega⟩ ⟨bAt_lo s 3, by have := bAt_hi s 3; omega⟩]
  simp only [numK]; omega
theorem rEv_raw (s : ByteArray) (h9 : 9 < s.size) : refEv (IntKind.i64.wrap ((s[1]'(by omega)).toNat : Int)) (readI (bAt s (2 + 0)) (bAt s (2 + 1)) (bAt s (2 + 2)) (bAt s (2 + 3))) (IntKind.i64.wrap ((s[6]'(by omega)).toNat : Int)) (IntKind.i64.wrap ((s[7]'(by omega)).toNat : Int)) (IntKind.i64.wrap ((s[8]'(by omega)).toNat : Int)) (IntKind.i64.wrap ((s[9]'(by omega)).toNat : Int)) (s.extract 10 s.size) = rEv s := by
  have hb : ∀ i (h : i < s.size), IntKind.i64.wrap ((s[i]'h).toNat : Int) = bAt s i := fun i h => by
    rw [bAt_eq s i h]; exact wrap_small _ (bAt_lo s i) (by have := bAt_hi s i; omega)
  rw [hb 1, hb 6, hb 7, hb 8, hb 9, rEv]

set_option maxRecDepth 100000 in
set_option maxHeartbeats 2000000 in
theorem rdecode_on (s : ByteArray) (w : World) (hb : ((s.size : Int) != 42) = false) (hlt : 0 < s.size) (hb2 : (((s[0]'hlt).toNat : Int) != 69) = false) (h9 : 9 < s.size) (hsz : (s.extract 2 6).size = 4) (hat : ∀ j, j < 4 → bAt (s.extract 2 6) j = bAt s (2 + j)) :
    Calls Tryz.prog 64 #[.string s] w fun e w' => Below w.heap.size w w' ∧ ∃ (cs : List Value) (n : Int), e = .returned (.tuple #[.agg cs.toArray, .int .i64 n]) ∧
      ((wholeD s = true ∧ cs = rEv s ∧ n = 0) ∨ (wholeD s = false ∧ cs = zRefL ∧ n = 9)) := by
  have k1 : (1 : Int) < (s.size : Int) := by omega
  have k6 : (6 : Int) < (s.size : Int) := by omega
  have k7 : (7 : Int) < (s.size : Int) := by omega
  have k8 : (8 : Int) < (s.size : Int) := by omega
  have k9 : (9 : Int) < (s.size : Int) := by omega
  have k6' : (6 : Int) ≤ (s.size : Int) := by omega
  have k26 : (2 : Int) ≤ (s.size : Int) := by omega
  have k10 : (10 : Int) ≤ (s.size : Int) := by omega
  have hnum : numK (s.extract 2 6) (s.extract 2 6).size = readI (bAt s (2 + 0)) (bAt s (2 + 1)) (bAt s (2 + 2)) (bAt s (2 + 3)) := by
    rw [hsz, numK_four, hat 0 (by omega), hat 1 (by omega), hat 2 (by omega), hat 3 (by omega)]
  have HS : Hid ((s.extract 2 6).size = 4) := hsz
  have HN : Hid (numK (s.extract 2 6) (s.extract 2 6).size = readI (bAt s (2 + 0)) (bAt s (2 + 1)) (bAt s (2 + 2)) (bAt s (2 + 3))) := hnum
  clear hsz hat hnum
  go_enter Tryz.func64, Tryz.ntmps64
  go_wp2_with (first | (refine wpList_alloc_of rfl 59 rfl zRefL.toArray alloc_ref ?_))
  refine (number_any (s.extract 2 6) _ (by rw [HS.out]; omega)).mono ?_
  rw [HN.out]
  rintro e w1 ⟨rfl, rfl⟩
  clear HN HS
  go_wp2_with fail
  go_cut [5] (fun v5 wc => ∃ g, v5 = .pointer (some ⟨g, 0, none⟩) ∧ w.heap.size + 1 ≤ g ∧ wc.rangeAt g 0 (rEv s) ∧ Below (w.heap.size + 1) (w.alloc (.cells zRefL.toArray 59)) wc)
  case first =>
    refine wp_region_noPanic ?_
    refine wp_region_held_drew (S := fun _ => True) (by kernel_rfl) trivial (fun _ => ?_)
    refine wpAnyH_take (i := 0) (v := ?_) rfl (by kernel_rfl) (by kernel_rfl) (by kernel_rfl) (fun _ _ _ h => h) (Or.inl ⟨by rfl, ?_⟩) trivial ?_
    rotate_left 1
    · intro w _; go_simp; try with_reducible rfl
    simp only [List.getElem_toArray, List.getElem_cons_zero, List.getElem_cons_succ, Act.put, List.setIfInBounds_toArray, List.set_cons_zero, List.set_cons_succ]
    refine wpAnyH_take (i := 1) (v := ?_) rfl (by kernel_rfl) (by kernel_rfl) (by kernel_rfl) (fun _ _ _ h => h) (Or.inl ⟨by rfl, ?_⟩) trivial ?_
    rotate_left 1
    · intro w _; go_simp; try with_reducible rfl
    simp only [List.getElem_toArray, List.getElem_cons_zero, List.getElem_cons_succ, Act.put, List.setIfInBounds_toArray, List.set_cons_zero, List.set_cons_succ]
    refine wpAnyH_take (i := 2) (v := ?_) rfl (by kernel_rfl) (by kernel_rfl) (by kernel_rfl) (fun _ _ _ h => h) (Or.inl ⟨by rfl, ?_⟩) trivial ?_
    rotate_left 1
    · intro w _; go_simp; try with_reducible rfl
    simp only [List.getElem_toArray, List.getElem_cons_zero, List.getElem_cons_succ, Act.put, List.setIfInBounds_toArray, List.set_cons_zero, List.set_cons_succ]
    refine wpAnyH_take (i := 3) (v := ?_) rfl (by kernel_rfl) (by kernel_rfl) (by kernel_rfl) (fun _ _ _ h => h) (Or.inl ⟨by rfl, ?_⟩) trivial ?_
    rotate_left 1
    · intro w _; go_simp; try with_reducible rfl
    simp only [List.getElem_toArray, List.getElem_cons_zero, List.getElem_cons_succ, Act.put, List.setIfInBounds_toArray, List.set_cons_zero, List.set_cons_succ]
    refine wpAnyH_take (i := 4) (v := ?_) rfl (by kernel_rfl) (by kernel_rfl) (by kernel_rfl) (fun _ _ _ h => h) (Or.inl ⟨by rfl, ?_⟩) trivial ?_
    rotate_left 1
    · intro w _; go_simp; try with_reducible rfl
    simp only [List.getElem_toArray, List.getElem_cons_zero, List.getElem_cons_succ, Act.put, List.setIfInBounds_toArray, List.set_cons_zero, List.set_cons_succ]
    refine wpAnyH_take (i := 5) (v := ?_) rfl (by kernel_rfl) (by kernel_rfl) (by kernel_rfl) (fun _ _ _ h => h) (Or.inl ⟨by rfl, ?_⟩) trivial ?_
    rotate_left 1
    · intro w _; go_simp; try with_reducible rfl
    simp only [List.getElem_toArray, List.getElem_cons_zero, List.getElem_cons_succ, Act.put, List.setIfInBounds_toArray, List.set_cons_zero, List.set_cons_succ]
    refine wpAnyH_take (i := 6) (v := ?_) rfl (by kernel_rfl) (by kernel_rfl) (by kernel_rfl) (fun _ _ _ h => h) (Or.inl ⟨by rfl, ?_⟩) trivial ?_
    rotate_left 1
    · intro w _; go_simp; try with_reducible rfl
    simp only [List.getElem_toArray, List.getElem_cons_zero, List.getElem_cons_succ, Act.put, List.setIfInBounds_toArray, List.set_cons_zero, List.set_cons_succ]
    refine wpAnyH_take (i := 7) (v := ?_) rfl (by kernel_rfl) (by kernel_rfl) (by kernel_rfl) (fun _ _ _ h => h) (Or.inl ⟨by rfl, ?_⟩) trivial ?_
    rotate_left 1
    · intro w _; go_simp; try with_reducible rfl
    simp only [List.getElem_toArray, List.getElem_cons_zero, List.getElem_cons_succ, Act.put, List.setIfInBounds_toArray, List.set_cons_zero, List.set_cons_succ]
    refine wpAnyH_take (i := 8) (v := ?_) rfl (by kernel_rfl) (by kernel_rfl) (by kernel_rfl) (fun _ _ _ h => h) (Or.inl ⟨by rfl, ?_⟩) trivial ?_
    rotate_left 1
    · intro w _; go_simp; try with_reducible rfl
    simp only [List.getElem_toArray, List.getElem_cons_zero, List.getElem_cons_succ, Act.put, List.setIfInBounds_toArray, List.set_cons_zero, List.set_cons_succ]
    refine wpAnyH_take (i := 9) (v := ?_) rfl (by kernel_rfl) (by kernel_rfl) (by kernel_rfl) (fun _ _ _ h => h) (Or.inl ⟨by rfl, ?_⟩) trivial ?_
    rotate_left 1
    · intro w _; go_simp; try with_reducible rfl
    simp only [List.getElem_toArray, List.getElem_cons_zero, List.getElem_cons_succ, Act.put, List.setIfInBounds_toArray, List.set_cons_zero, List.set_cons_succ]
    refine wpAnyH_take (i := 10) (v := ?_) rfl (by kernel_rfl) (by kernel_rfl) (by kernel_rfl) (fun _ _ _ h => h) (Or.inl ⟨by rfl, ?_⟩) trivial ?_
    rotate_left 1
    · intro w _; go_simp; try with_reducible rfl
    simp only [List.getElem_toArray, List.getElem_cons_zero, List.getElem_cons_succ, Act.put, List.setIfInBounds_toArray, List.set_cons_zero, List.set_cons_succ]
    refine wpAnyH_take (i := 11) (v := ?_) rfl (by kernel_rfl) (by kernel_rfl) (by kernel_rfl) (fun _ _ _ h => h) (Or.inl ⟨by rfl, ?_⟩) trivial ?_
    rotate_left 1
    · intro w _; go_simp; try with_reducible rfl
    simp only [List.getElem_toArray, List.getElem_cons_zero, List.getElem_cons_succ, Act.put, List.setIfInBounds_toArray, List.set_cons_zero, List.set_cons_succ]
    refine wpAnyH_take (i := 12) (v := ?_) rfl (by kernel_rfl) (by kernel_rfl) (by kernel_rfl) (fun _ _ _ h => h) (Or.inl ⟨by rfl, ?_⟩) trivial ?_
    rotate_left 1
    · intro w _; go_simp; try with_reducible rfl
    simp only [List.getElem_toArray, List.getElem_cons_zero, List.getElem_cons_succ, Act.put, List.setIfInBounds_toArray, List.set_cons_zero, List.set_cons_succ]
    refine wpAnyH_take (i := 13) (v := ?_) rfl (by kernel_rfl) (by kernel_rfl) (by kernel_rfl) (fun _ _ _ h => h) (Or.inl ⟨by rfl, ?_⟩) trivial ?_
    rotate_left 1
    · intro w _; go_simp; try with_reducible rfl
    simp only [List.getElem_toArray, List.getElem_cons_zero, List.getElem_cons_succ, Act.put, List.setIfInBounds_toArray, List.set_cons_zero, List.set_cons_succ]
    refine wpAnyH_take (i := 14) (v := ?_) rfl (by kernel_rfl) (by kernel_rfl) (by kernel_rfl) (fun _ _ _ h => h) (Or.inl ⟨by rfl, ?_⟩) trivial ?_
    rotate_left 1
    · intro w _; go_simp; try with_reducible rfl
    simp only [List.getElem_toArray, List.getElem_cons_zero, List.getElem_cons_succ, Act.put, List.setIfInBounds_toArray, List.set_cons_zero, List.set_cons_succ]
    refine wpAnyH_take (i := 15) (v := ?_) rfl (by kernel_rfl) (by kernel_rfl) (by kernel_rfl) (fun _ _ _ h => h) (Or.inl ⟨by rfl, ?_⟩) trivial ?_
    rotate_left 1
    · intro w _; go_simp; try with_reducible rfl
    simp only [List.getElem_toArray, List.getElem_cons_zero, List.getElem_cons_succ, Act.put, List.setIfInBounds_toArray, List.set_cons_zero, List.set_cons_succ]
    refine wpAnyH_take (i := 16) (v := ?_) rfl (by kernel_rfl) (by kernel_rfl) (by kernel_rfl) (fun _ _ _ h => h) (Or.inl ⟨by rfl, ?_⟩) trivial ?_
    rotate_left 1
    · intro w _; go_simp; try with_reducible rfl
    simp only [List.getElem_toArray, List.getElem_cons_zero, List.getElem_cons_succ, Act.put, List.setIfInBounds_toArray, List.set_cons_zero, List.set_cons_succ]
    refine wpAnyH_take (i := 17) (v := ?_) rfl (by kernel_rfl) (by kernel_rfl) (by kernel_rfl) (fun _ _ _ h => h) (Or.inl ⟨by rfl, ?_⟩) trivial ?_
    rotate_left 1
    · intro w _; go_simp; try with_reducible rfl
    simp only [List.getElem_toArray, List.getElem_cons_zero, List.getElem_cons_succ, Act.put, List.setIfInBounds_toArray, List.set_cons_zero, List.set_cons_succ]
    refine wpAnyH_take (i := 18) (v := ?_) rfl (by kernel_rfl) (by kernel_rfl) (by kernel_rfl) (fun _ _ _ h => h) (Or.inl ⟨by rfl, ?_⟩) trivial ?_
    rotate_left 1
    · intro w _; go_simp; try with_reducible rfl
    simp only [List.getElem_toArray, List.getElem_cons_zero, List.getElem_cons_succ, Act.put, List.setIfInBounds_toArray, List.set_cons_zero, List.set_cons_succ]
    refine wpAnyH_ready (rs := [19]) (by kernel_rfl) (by simp) ?_
    refine AllReadyH.cons rfl (fun K hK => ?_) AllReadyH.nil
    rw [if_pos (by rfl)]
    refine wp_alloc_abs 59 rfl zRefL alloc_ref ?_
    intro W2 g hb2 hg0 hgz ht
    refine hK.out _ _ trivial (fun _ => ?_)
    clear hK K
    try simp only [List.getElem_toArray, List.getElem_cons_zero, List.getElem_cons_succ, Act.put, List.setIfInBounds_toArray, List.set_cons_zero, List.set_cons_succ]
    refine wpAnyH_ready (rs := [20]) (by kernel_rfl) (by simp) ?_
    refine AllReadyH.cons rfl (fun K hK => ?_) AllReadyH.nil
    rw [if_pos (by rfl)]
    refine wp_store_mid 59 (.tmp 5) (.tmp 37) rfl g 0 (refEv _ _ _ _ _ _ _).toArray rfl rfl (by exact ht) info_ref (all_oneCell_toArray (ref_one _ _ _ _ _ _ _)) ?_
    refine hK.out _ _ trivial (fun _ => ?_)
    clear hK K
    refine ⟨by kernel_rfl, ?_⟩
    refine NoPanic.normal ?_
    try simp only [List.getElem_toArray, List.getElem_cons_zero, List.getElem_cons_succ, Act.put, List.setIfInBounds_toArray, List.set_cons_zero, List.set_cons_succ]
    go_wp2_with fail
    go_meet
    simp at hg0
    have hB : Below (w.heap.size + 1) (w.alloc (.cells zRefL.toArray 59)) W2 := (Below.refl _ _).drew.trans (hb2.mono (by simp))
    exact ⟨g, rfl, hg0, by rw [← rEv_raw s h9]; exact World.rangeAt_setCells_same _ _ _ _ ht, below_setCells hg0 _ _ _ hB⟩
  case rest =>
    obtain ⟨g, rfl, hg, hr, hB⟩ := hcut
    have hi2 : (Tryz.prog.info? 59).map (·.size) = some (rEv s).length := info_ref
    go_wp2_with (first | (refine wpList_load_mid rfl 59 _ rfl g 0 rfl (rEv s) _ hr Tryz.underlying59 rfl hi2 ?_))
    refine (rwhole_any _ _ _ _ _ _ _ _).mono ?_
    rintro e w3 ⟨rfl, hw3⟩
    have hB3 : Below (w.heap.size + 1) (w.alloc (.cells zRefL.toArray 59)) w3 := by rw [hw3]; exact hB.alloc (by have := hB.size; simp at this; omega) _
    have hr3 : w3.rangeAt g 0 (rEv s) := by rw [hw3]; exact World.rangeAt_alloc hr _
    have ht3 : w3.there w.heap.size 0 zRefL.length := there_below hB3 (Nat.lt_succ_self _) (there_ref w)
    clear hw3 hr hB
    cases hwh : wholeD s
    · have hwb : wholeB (bAt s 1) (readI (bAt s 2) (bAt s 3) (bAt s 4) (bAt s 5)) (bAt s 6) (bAt s 7) (bAt s 8) (bAt s 9) = false := hwh
      rw [hwb]
      clear hwb
      go_wp2_with (first | (refine wpList_build_of rfl 59 rfl zRefL.toArray build_ref ?_) | (refine wpList_store_abs rfl 59 _ _ rfl w.heap.size 0 zRefL rfl rfl ht3 info_ref (ref_one _ _ _ _ _ _ _) ?_; intro w4 _hw4 hr4 ht4 hb4; clear _hw4))
      exact ret_cell_tmp rfl w.heap.size 0 zRefL _ (.int .i64 9) rfl rfl hr4 Tryz.underlying59 rfl info_ref rfl ⟨((Below.refl _ _).alloc (Nat.le_refl _) _).trans ((hB3.mono (Nat.le_succ _)).trans (hb4 _ (Nat.le_refl _))), zRefL, 9, rfl, Or.inr ⟨hwh, rfl, rfl⟩⟩
    · have hwb : wholeB (bAt s 1) (readI (bAt s 2) (bAt s 3) (bAt s 4) (bAt s 5)) (bAt s 6) (bAt s 7) (bAt s 8) (bAt s 9) = true := hwh
      rw [hwb]
      clear hwb
      have ht3' : w3.there w.heap.size 0 (rEv s).length := ht3
      have hone : ∀ u ∈ rEv s, u.oneCell' = true := ref_one _ _ _ _ _ _ _
      go_wp2_with (first | (refine wpList_load_mid rfl 59 _ rfl g 0 rfl (rEv s) _ hr3 Tryz.underlying59 rfl hi2 ?_) | (refine wpList_store_abs rfl 59 _ _ rfl w.heap.size 0 (rEv s) rfl rfl ht3' hi2 hone ?_; intro w4 _hw4 hr4 ht4 hb4; clear _hw4))
      exact ret_cell_tmp rfl w.heap.size 0 (rEv s) _ (.int .i64 0) rfl rfl hr4 Tryz.underlying59 rfl hi2 rfl ⟨((Below.refl _ _).alloc (Nat.le_refl _) _).trans ((hB3.mono (Nat.le_succ _)).trans (hb4 _ (Nat.le_refl _))), rEv s, 0, rfl, Or.inl ⟨hwh, rfl, rfl⟩⟩
end Go.Proofs.YtijdnpoenpjnlaaGreatDoor
