import Derived.Test.YteglimjonofdeaaGreatDoorNUnpack
set_option linter.unusedVariables false
set_option linter.unusedSimpArgs false
namespace Go.Proofs.YteglimjonofdeaaGreatDoor
open Go.RowKit

/-- A journal's cells: its volume, its link, the blocks that are used. -/
def jL (p n : Nat) (l : ByteArray) (u : Nat) : List Value := volL p n ++ (hV l ++ [.int .i64 (u : Nat)])
theorem jL_len (p n : Nat) (l : ByteArray) (u : Nat) (hl : l.size = 32) : (jL p n l u).length = 35 := by unfold jL volL; simp [hV_len hl]
theorem j_vol {w : World} {j p n u : Nat} {l : ByteArray} (h : w.rangeAt j 0 (jL p n l u)) : w.rangeAt j 0 (volL p n) := fun i v hv => h i v (by unfold jL; rw [List.getElem?_append_left (List.getElem?_eq_some_iff.1 hv).1]; exact hv)
theorem j_link {w : World} {j p n u : Nat} {l : ByteArray} (h : w.rangeAt j 0 (jL p n l u)) : w.rangeAt j 2 (hV l) := fun i v hv => by
  have := h (2 + i) v (by
    unfold jL
    rw [List.getElem?_append_right (by show 2 ≤ 2 + i; omega), show 2 + i - (volL p n).length = i by show 2 + i - 2 = i; omega, List.getElem?_append_left (List.getElem?_eq_some_iff.1 hv).1]; exact hv)
  rwa [Nat.zero_add] at this
theorem j_used {w : World} {j p n u : Nat} {l : ByteArray} (hl : l.size = 32) (h : w.rangeAt j 0 (jL p n l u)) : w.cell? ⟨j, 34, none⟩ = some (.int .i64 (u : Nat)) := by
  have := h 34 (.int .i64 (u : Nat)) (by
    unfold jL
    rw [List.getElem?_append_right (by show 2 ≤ 34; omega), show 34 - (volL p n).length = 32 from rfl, List.getElem?_append_right (by rw [hV_len hl]; exact Nat.le_refl _), hV_len hl]; rfl)
  rwa [Nat.zero_add] at this

set_option maxRecDepth 10000 in
set_option maxHeartbeats 400000 in
theorem jfull_any (j p n u : Nat) (l : ByteArray) (w : World) (hl : l.size = 32) (hj : j < w.heap.size) (h : w.rangeAt j 0 (jL p n l u)) :
    Calls Tryz.prog 169 #[.pointer (some ⟨j, 0, none⟩)] w fun e w' => e = .returned (.bool (decide (u = n))) ∧ Below w.heap.size w w' := by
  have HIV : Hid ((Tryz.prog.info? 222).map (·.size) = some (volL p n).length) := info_vol p n
  have hq : decide ((u : Int) = (n : Int)) = decide (u = n) := by rw [decide_eq_decide]; omega
  have hqb : ((u : Int) == (n : Int)) = decide (u = n) := by rw [Bool.eq_iff_iff]; simp; omega
  obtain ⟨b, hb⟩ : ∃ b, b = decide (u = n) := ⟨_, rfl⟩
  rw [← hb] at hqb ⊢
  clear hq hb
  go_enter Tryz.func169, Tryz.ntmps169
  go_wp2_with fail
  have J0 : w.drew.rangeAt j 0 (jL p n l u) := by rw [World.rangeAt_drew]; exact h
  refine wp_region_noPanic ?_
  refine wp_region_held_drew (S := fun W => W.rangeAt j 0 (jL p n l u)) (by kernel_rfl) J0 (fun _ => ?_)
  refine wpAnyH_take (i := 0) (v := ?_) rfl (by kernel_rfl) (by kernel_rfl) (by kernel_rfl) (fun _ _ _ h => h) (Or.inl ⟨by rfl, ?_⟩) J0 ?_
  rotate_left 1
  · intro W hSW; clear hSW; go_simp; try with_reducible rfl
  simp only [qA, qB, qC, Act.put, qD, qE, qF]
  refine wpAnyH_take (i := 1) (v := ?_) rfl (by kernel_rfl) (by kernel_rfl) (by kernel_rfl) (fun _ _ _ h => h) (Or.inl ⟨by rfl, ?_⟩) J0 ?_
  rotate_left 1
  · intro W hSW; clear hSW; go_simp; try with_reducible rfl
  simp only [qA, qB, qC, Act.put, qD, qE, qF]
  refine wpAnyH_take (i := 2) (v := ?_) rfl (by kernel_rfl) (by kernel_rfl) (by kernel_rfl) (fun _ _ _ h => h) (Or.inl ⟨by rfl, ?_⟩) J0 ?_
  rotate_left 1
  · intro W hSW; clear hSW; go_simp; try with_reducible rfl
  simp only [qA, qB, qC, Act.put, qD, qE, qF]
  refine wpAnyH_take (i := 3) (v := ?_) rfl (by kernel_rfl) (by kernel_rfl) (by kernel_rfl) (fun _ _ _ h => h) (Or.inl ⟨by rfl, ?_⟩) J0 ?_
  rotate_left 1
  · intro W hSW; have cW := j_used hl hSW; clear hSW; go_simp; try with_reducible rfl
  simp only [qA, qB, qC, Act.put, qD, qE, qF]
  refine wpAnyH_take (i := 4) (v := ?_) rfl (by kernel_rfl) (by kernel_rfl) (by kernel_rfl) (fun _ _ _ h => h) (Or.inl ⟨by rfl, ?_⟩) J0 ?_
  rotate_left 1
  · intro W hSW; clear hSW; go_simp; try with_reducible rfl
  simp only [qA, qB, qC, Act.put, qD, qE, qF]
  refine wpAnyH_take (i := 5) (v := ?_) rfl (by kernel_rfl) (by kernel_rfl) (by kernel_rfl) (fun _ _ _ h => h) (Or.inl ⟨by rfl, ?_⟩) J0 ?_
  rotate_left 1
  · intro W hSW; clear hSW; go_simp; try with_reducible rfl
  simp only [qA, qB, qC, Act.put, qD, qE, qF]
  refine wpAnyH_take (i := 6) (v := ?_) rfl (by kernel_rfl) (by kernel_rfl) (by kernel_rfl) (fun _ _ _ h => h) (Or.inl ⟨by rfl, ?_⟩) J0 ?_
  rotate_left 1
  · intro W hSW; clear hSW; go_simp; try with_reducible rfl
  simp only [qA, qB, qC, Act.put, qD, qE, qF]
  refine wpAnyH_take (i := 7) (v := .agg (volL p n).toArray) rfl (by kernel_rfl) (by kernel_rfl) (by kernel_rfl) (fun _ _ _ h => h) (yieldsIf_load_mid (by rfl) 222 _ rfl j 0 rfl (volL p n) _ (fun W hW => j_vol hW) Tryz.underlying222 rfl HIV.out) J0 ?_
  simp only [qA, qB, qC, Act.put, qD, qE, qF]
  refine wpAnyH_ready (rs := [8]) (by kernel_rfl) (by simp) ?_
  refine AllReadyH.cons rfl (fun K' hK' => ?_) AllReadyH.nil
  rw [if_pos (by rfl)]
  go_simp
  refine (vsize_any p n _).mono ?_
  rintro e w1 ⟨rfl, hb1⟩
  have hB1 : Below w.heap.size w w1 := (Below.refl _ _).drew.trans hb1
  have J1 : w1.rangeAt j 0 (jL p n l u) := fun i v hv => (hB1.cell (p := ⟨j, 0 + i, none⟩) hj).trans (h i v hv)
  refine hK'.out _ _ J1 (fun _ => ?_)
  clear hK' K'
  try simp only [qA, qB, qC, Act.put, qD, qE, qF]
  refine wpAnyH_take (i := 9) (v := ?_) rfl (by kernel_rfl) (by kernel_rfl) (by kernel_rfl) (fun _ _ _ h => h) (Or.inl ⟨by rfl, ?_⟩) J1 ?_
  rotate_left 1
  · intro W hSW; clear hSW; go_simp; try with_reducible rfl
  simp only [qA, qB, qC, Act.put, qD, qE, qF]
  refine wpAnyH_take (i := 10) (v := ?_) rfl (by kernel_rfl) (by kernel_rfl) (by kernel_rfl) (fun _ _ _ h => h) (Or.inl ⟨by rfl, ?_⟩) J1 ?_
  rotate_left 1
  · intro W hSW; clear hSW; go_simp; try with_reducible rfl
  simp only [qA, qB, qC, Act.put, qD, qE, qF]
  refine ⟨by kernel_rfl, ?_⟩
  refine NoPanic.normal ?_
  try simp only [qA, qB, qC, Act.put, qD, qE, qF]
  go_wp2_with fail
  go_ret
  exact ⟨rfl, hB1⟩
end Go.Proofs.YteglimjonofdeaaGreatDoor
