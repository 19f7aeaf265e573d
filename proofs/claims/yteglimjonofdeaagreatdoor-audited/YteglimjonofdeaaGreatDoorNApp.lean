import Derived.Test.YteglimjonofdeaaGreatDoorNFmt2M
set_option linter.unusedVariables false
set_option linter.unusedSimpArgs false
namespace Go.Proofs.YteglimjonofdeaaGreatDoor
open Go.RowKit

/-- What Append's own part leaves. -/
def ap1Post (K : Nat → Int) (p bb n j u : Nat) (C : Nat → List Int) (l r : ByteArray) (w : World) (e : Ending) (w' : World) : Prop :=
  e = .returned (.tuple #[]) ∧ DiskAt w' p bb n (putAll C [(u, packN K l r)]) (.slice none 0 0) [] ∧ w'.rangeAt j 0 (jL p n (sumOf K (l ++ r)) (u + 1)) ∧ w'.there j 0 35 ∧ Kept (fun g => g = p ∨ g = bb ∨ g = j) w w'
/-- What a call of Append finds. -/
structure Ap (p bb n j a s u : Nat) (C : Nat → List Int) (l r : ByteArray) (w : World) : Prop where
  disk : DiskAt w p bb n C (.slice none 0 0) []
  jour : w.rangeAt j 0 (jL p n l u)
  room : w.there j 0 35
  cj : w.cell? ⟨a, 0, none⟩ = some (.pointer (some ⟨j, 0, none⟩))
  cs : w.cell? ⟨s, 0, none⟩ = some (.string r)
theorem Ap.kept {p bb n j a s u : Nat} {C : Nat → List Int} {l r : ByteArray} {w W : World} (h : Ap p bb n j a s u C l r w) (hl : j < w.heap.size ∧ a < w.heap.size ∧ s < w.heap.size) (hk : Kept (fun _ => False) w W) : Ap p bb n j a s u C l r W :=
  ⟨h.disk.kept hk id id (fun g hg => by cases hg), range_kept h.jour hk hl.1 id, there_kept h.room hk hl.1 id, (hk.cell (a := ⟨a, 0, none⟩) hl.2.1 id).trans h.cj, (hk.cell (a := ⟨s, 0, none⟩) hl.2.2 id).trans h.cs⟩

set_option maxRecDepth 10000 in
set_option maxHeartbeats 4000000 in
theorem append1_any (K : Nat → Int) (p bb n j a s u : Nat) (C : Nat → List Int) (l r : ByteArray) (w : World) (hn : n ≤ 1000) (hu : u < n) (hl : l.size = 32) (hr : r.size ≤ 18) (hjp : j ≠ p) (hjb : j ≠ bb) (hlt : j < w.heap.size ∧ a < w.heap.size ∧ s < w.heap.size) (hap : a ≠ p ∧ a ≠ bb ∧ a ≠ j) (A0 : Ap p bb n j a s u C l r w) (T : Tab K w) :
    Calls Tryz.prog 170 #[.pointer (some ⟨a, 0, none⟩), .pointer (some ⟨s, 0, none⟩)] w (ap1Post K p bb n j u C l r w) := by
  have hpl := A0.disk.lt.1
  have hbl := A0.disk.lt.2
  have HIV : Hid ((Tryz.prog.info? 222).map (·.size) = some (volL p n).length) := info_vol p n
  have HIL : Hid ((Tryz.prog.info? 104).map (·.size) = some (hV l).length) := hV_info hl
  obtain ⟨hd, hhd⟩ : ∃ h, h = packN K l r := ⟨_, rfl⟩
  have hdl : hd.length = 128 := by rw [hhd]; exact packN_len K l r hr
  obtain ⟨H1, hH1⟩ : ∃ H, H = sumOf K (l ++ r) := ⟨_, rfl⟩
  have hH32 : H1.size = 32 := by rw [hH1]; exact sumOf_size K _
  have HIH : Hid ((Tryz.prog.info? 104).map (·.size) = some (hV H1).length) := hV_info hH32
  have HIB : Hid ((Tryz.prog.info? 254).map (·.size) = some (bytesV hd).length) := info_dblk hd hdl
  have e128 : (bytesV hd).toArray.size = 128 := by rw [List.size_toArray, bytesV_length, hdl]
  have e32 : (hV H1).toArray.size = 32 := by rw [List.size_toArray, hV_len hH32]
  have HT : Hid (Tab K w) := T
  have HPK : Hid (∀ W, Tab K W → Calls Tryz.prog 161 #[.agg (hV l).toArray, .string r] W fun e w' => e = .returned (.tuple #[.agg (bytesV hd).toArray, .agg (hV H1).toArray]) ∧ Below W.heap.size W w') := fun W hT => by
    have := pack_any K l r W hl hr hT
    unfold packPost at this
    rw [← hhd, ← hH1] at this; exact this
  have HS : Hid (∀ W, Kept (fun _ => False) w W → Ap p bb n j a s u C l r W) := fun W h => A0.kept hlt h
  have HTW : Hid (∀ W, Kept (fun _ => False) w W → Tab K W) := fun W h => HT.out.kept h id
  unfold ap1Post
  rw [← hhd, ← hH1]
  clear hhd hH1 T
  have cj0 := A0.cj
  have cs0 := A0.cs
  go_enter Tryz.func170, Tryz.ntmps170
  go_wp2_with fail
  have h0 : Kept (fun _ => False) w w.drew := Kept.fresh (Below.refl _ _).drew
  go_cut [2, 3] (fun v2 v3 wc => ∃ q9 q10, v2 = .pointer (some ⟨q9, 0, none⟩) ∧ v3 = .pointer (some ⟨q10, 0, none⟩) ∧ Kept (fun _ => False) w wc ∧ w.heap.size ≤ q9 ∧ q9 < wc.heap.size ∧ w.heap.size ≤ q10 ∧ q10 < wc.heap.size ∧ wc.rangeAt q9 0 (bytesV hd) ∧ wc.rangeAt q10 0 (hV H1))
  case first =>
    refine wp_region_noPanic ?_
    refine wp_region_held_drew (S := Ap p bb n j a s u C l r) (by kernel_rfl) (HS.out _ h0) (fun _ => ?_)
    generalize w.drew = W0 at *
    refine wpAnyH_take (i := 0) (v := ?_) rfl (by kernel_rfl) (by kernel_rfl) (by kernel_rfl) (fun _ _ _ h => h) (Or.inl ⟨by rfl, ?_⟩) (HS.out _ h0) ?_
    rotate_left 1
    · intro W hSW; have cW := hSW.cj; clear hSW; go_simp; try with_reducible rfl
    simp only [qA, qB, qC, Act.put, qD, qE, qF]
    refine wpAnyH_take (i := 1) (v := ?_) rfl (by kernel_rfl) (by kernel_rfl) (by kernel_rfl) (fun _ _ _ h => h) (Or.inl ⟨by rfl, ?_⟩) (HS.out _ h0) ?_
    rotate_left 1
    · intro W hSW; clear hSW; go_simp; try with_reducible rfl
    simp only [qA, qB, qC, Act.put, qD, qE, qF]
    refine wpAnyH_take (i := 2) (v := ?_) rfl (by kernel_rfl) (by kernel_rfl) (by kernel_rfl) (fun _ _ _ h => h) (Or.inl ⟨by rfl, ?_⟩) (HS.out _ h0) ?_
    rotate_left 1
    · intro W hSW; clear hSW; go_simp; try with_reducible rfl
    simp only [qA, qB, qC, Act.put, qD, qE, qF]
    refine wpAnyH_take (i := 3) (v := .agg (hV l).toArray) rfl (by kernel_rfl) (by kernel_rfl) (by kernel_rfl) (fun _ _ _ h => h) (yieldsIf_load_mid (by rfl) 104 _ rfl j 2 rfl (hV l) _ (fun W hW => j_link hW.jour) Tryz.underlying104 rfl HIL.out) (HS.out _ h0) ?_
    simp only [qA, qB, qC, Act.put, qD, qE, qF]
    refine wpAnyH_take (i := 4) (v := ?_) rfl (by kernel_rfl) (by kernel_rfl) (by kernel_rfl) (fun _ _ _ h => h) (Or.inl ⟨by rfl, ?_⟩) (HS.out _ h0) ?_
    rotate_left 1
    · intro W hSW; have cW := hSW.cs; clear hSW; go_simp; try with_reducible rfl
    simp only [qA, qB, qC, Act.put, qD, qE, qF]
    refine wpAnyH_ready (rs := [5, 9, 10]) (by kernel_rfl) (by simp) ?_
    refine AllReadyH.cons rfl (fun K' hK' => ?_) (AllReadyH.cons rfl (fun K' hK' => ?_) (AllReadyH.cons rfl (fun K' hK' => ?_) AllReadyH.nil))
    rw [if_pos (by rfl)]
    go_simp
    refine (HPK.out W0 (HTW.out _ h0)).mono ?_
    rintro e W1 ⟨rfl, b1⟩
    have h1 : Kept (fun _ => False) w W1 := h0.trans (Kept.fresh (S := fun _ => False) b1) (fun _ _ h => h)
    refine hK'.out _ _ (HS.out _ h1) (fun _ => ?_)
    clear hK' K'
    try simp only [qA, qB, qC, Act.put, qD, qE, qF]
    refine wpAnyH_take (i := 6) (v := ?_) rfl (by kernel_rfl) (by kernel_rfl) (by kernel_rfl) (fun _ _ _ h => h) (Or.inl ⟨by rfl, ?_⟩) (HS.out _ h1) ?_
    rotate_left 1
    · intro W hSW; clear hSW; go_simp; try with_reducible rfl
    simp only [qA, qB, qC, Act.put, qD, qE, qF]
    refine wpAnyH_take (i := 7) (v := ?_) rfl (by kernel_rfl) (by kernel_rfl) (by kernel_rfl) (fun _ _ _ h => h) (Or.inl ⟨by rfl, ?_⟩) (HS.out _ h1) ?_
    rotate_left 1
    · intro W hSW; clear hSW; go_simp; try with_reducible rfl
    simp only [qA, qB, qC, Act.put, qD, qE, qF]
    refine wpAnyH_take (i := 8) (v := ?_) rfl (by kernel_rfl) (by kernel_rfl) (by kernel_rfl) (fun _ _ _ h => h) (Or.inl ⟨by rfl, ?_⟩) (HS.out _ h1) ?_
    rotate_left 1
    · intro W hSW; clear hSW; go_simp; try with_reducible rfl
    simp only [qA, qB, qC, Act.put, qD, qE, qF]
    refine wpAnyH_ready (rs := [9, 10]) (by kernel_rfl) (by simp) ?_
    refine AllReadyH.cons rfl (fun K' hK' => ?_) (AllReadyH.cons rfl (fun K' hK' => ?_) AllReadyH.nil)
    rw [if_pos (by rfl)]
    refine wp_alloc_abs 254 rfl zB alloc_blk ?_
    intro W2 q9 b2 lo2 hi2 th2
    have h2 : Kept (fun _ => False) w W2 := h1.trans (Kept.fresh (S := fun _ => False) b2) (fun _ _ h => h)
    have r9_2 : Rw w W2 q9 128 := ⟨th2, Nat.le_trans h1.size lo2, hi2⟩
    refine hK'.out _ _ (HS.out _ h2) (fun _ => ?_)
    clear hK' K'
    try simp only [qA, qB, qC, Act.put, qD, qE, qF]
    refine rk 10 (fun K' hK' => ?_)
    refine wp_alloc_abs 104 rfl z32 alloc_32 ?_
    intro W3 q10 b3 lo3 hi3 th3
    have h3 : Kept (fun _ => False) w W3 := h2.trans (Kept.fresh (S := fun _ => False) b3) (fun _ _ h => h)
    have r9_3 := r9_2.go hpl (Kept.fresh b3)
    have r10_3 : Rw w W3 q10 32 := ⟨th3, Nat.le_trans h2.size lo3, hi3⟩
    have neq : q9 ≠ q10 := by have := r9_2.2.2; omega
    refine hK'.out _ _ (HS.out _ h3) (fun _ => ?_)
    clear hK' K'
    try simp only [qA, qB, qC, Act.put, qD, qE, qF]
    all_goals skip
    rotate_left 1
    rw [if_pos (by rfl)]
    refine wp_alloc_abs 104 rfl z32 alloc_32 ?_
    intro W2 q10 b2 lo2 hi2 th2
    have h2 : Kept (fun _ => False) w W2 := h1.trans (Kept.fresh (S := fun _ => False) b2) (fun _ _ h => h)
    have r10_2 : Rw w W2 q10 32 := ⟨th2, Nat.le_trans h1.size lo2, hi2⟩
    refine hK'.out _ _ (HS.out _ h2) (fun _ => ?_)
    clear hK' K'
    try simp only [qA, qB, qC, Act.put, qD, qE, qF]
    refine rk 9 (fun K' hK' => ?_)
    refine wp_alloc_abs 254 rfl zB alloc_blk ?_
    intro W3 q9 b3 lo3 hi3 th3
    have h3 : Kept (fun _ => False) w W3 := h2.trans (Kept.fresh (S := fun _ => False) b3) (fun _ _ h => h)
    have r10_3 := r10_2.go hpl (Kept.fresh b3)
    have r9_3 : Rw w W3 q9 128 := ⟨th3, Nat.le_trans h2.size lo3, hi3⟩
    have neq : q9 ≠ q10 := by have := r10_2.2.2; omega
    refine hK'.out _ _ (HS.out _ h3) (fun _ => ?_)
    clear hK' K'
    try simp only [qA, qB, qC, Act.put, qD, qE, qF]
    all_goals skip
    rotate_left 1
    rw [if_pos (by rfl)]
    refine wp_alloc_abs 254 rfl zB alloc_blk ?_
    intro W1 q9 b1 lo1 hi1 th1
    have h1 : Kept (fun _ => False) w W1 := h0.trans (Kept.fresh (S := fun _ => False) b1) (fun _ _ h => h)
    have r9_1 : Rw w W1 q9 128 := ⟨th1, Nat.le_trans h0.size lo1, hi1⟩
    refine hK'.out _ _ (HS.out _ h1) (fun _ => ?_)
    clear hK' K'
    try simp only [qA, qB, qC, Act.put, qD, qE, qF]
    refine wpAnyH_ready (rs := [5, 10]) (by kernel_rfl) (by simp) ?_
    refine AllReadyH.cons rfl (fun K' hK' => ?_) (AllReadyH.cons rfl (fun K' hK' => ?_) AllReadyH.nil)
    rw [if_pos (by rfl)]
    go_simp
    refine (HPK.out W1 (HTW.out _ h1)).mono ?_
    rintro e W2 ⟨rfl, b2⟩
    have h2 : Kept (fun _ => False) w W2 := h1.trans (Kept.fresh (S := fun _ => False) b2) (fun _ _ h => h)
    have r9_2 := r9_1.go hpl (Kept.fresh b2)
    refine hK'.out _ _ (HS.out _ h2) (fun _ => ?_)
    clear hK' K'
    try simp only [qA, qB, qC, Act.put, qD, qE, qF]
    refine wpAnyH_take (i := 6) (v := ?_) rfl (by kernel_rfl) (by kernel_rfl) (by kernel_rfl) (fun _ _ _ h => h) (Or.inl ⟨by rfl, ?_⟩) (HS.out _ h2) ?_
    rotate_left 1
    · intro W hSW; clear hSW; go_simp; try with_reducible rfl
    simp only [qA, qB, qC, Act.put, qD, qE, qF]
    refine wpAnyH_take (i := 7) (v := ?_) rfl (by kernel_rfl) (by kernel_rfl) (by kernel_rfl) (fun _ _ _ h => h) (Or.inl ⟨by rfl, ?_⟩) (HS.out _ h2) ?_
    rotate_left 1
    · intro W hSW; clear hSW; go_simp; try with_reducible rfl
    simp only [qA, qB, qC, Act.put, qD, qE, qF]
    refine wpAnyH_take (i := 8) (v := ?_) rfl (by kernel_rfl) (by kernel_rfl) (by kernel_rfl) (fun _ _ _ h => h) (Or.inl ⟨by rfl, ?_⟩) (HS.out _ h2) ?_
    rotate_left 1
    · intro W hSW; clear hSW; go_simp; try with_reducible rfl
    simp only [qA, qB, qC, Act.put, qD, qE, qF]
    refine rk 10 (fun K' hK' => ?_)
    refine wp_alloc_abs 104 rfl z32 alloc_32 ?_
    intro W3 q10 b3 lo3 hi3 th3
    have h3 : Kept (fun _ => False) w W3 := h2.trans (Kept.fresh (S := fun _ => False) b3) (fun _ _ h => h)
    have r9_3 := r9_2.go hpl (Kept.fresh b3)
    have r10_3 : Rw w W3 q10 32 := ⟨th3, Nat.le_trans h2.size lo3, hi3⟩
    have neq : q9 ≠ q10 := by have := r9_2.2.2; omega
    refine hK'.out _ _ (HS.out _ h3) (fun _ => ?_)
    clear hK' K'
    try simp only [qA, qB, qC, Act.put, qD, qE, qF]
    all_goals skip
    rotate_left 1
    rw [if_pos (by rfl)]
    refine wp_alloc_abs 104 rfl z32 alloc_32 ?_
    intro W2 q10 b2 lo2 hi2 th2
    have h2 : Kept (fun _ => False) w W2 := h1.trans (Kept.fresh (S := fun _ => False) b2) (fun _ _ h => h)
    have r9_2 := r9_1.go hpl (Kept.fresh b2)
    have r10_2 : Rw w W2 q10 32 := ⟨th2, Nat.le_trans h1.size lo2, hi2⟩
    have neq : q9 ≠ q10 := by have := r9_1.2.2; omega
    refine hK'.out _ _ (HS.out _ h2) (fun _ => ?_)
    clear hK' K'
    try simp only [qA, qB, qC, Act.put, qD, qE, qF]
    refine rk 5 (fun K' hK' => ?_)
    go_simp
    refine (HPK.out W2 (HTW.out _ h2)).mono ?_
    rintro e W3 ⟨rfl, b3⟩
    have h3 : Kept (fun _ => False) w W3 := h2.trans (Kept.fresh (S := fun _ => False) b3) (fun _ _ h => h)
    have r9_3 := r9_2.go hpl (Kept.fresh b3)
    have r10_3 := r10_2.go hpl (Kept.fresh b3)
    refine hK'.out _ _ (HS.out _ h3) (fun _ => ?_)
    clear hK' K'
    try simp only [qA, qB, qC, Act.put, qD, qE, qF]
    refine wpAnyH_take (i := 6) (v := ?_) rfl (by kernel_rfl) (by kernel_rfl) (by kernel_rfl) (fun _ _ _ h => h) (Or.inl ⟨by rfl, ?_⟩) (HS.out _ h3) ?_
    rotate_left 1
    · intro W hSW; clear hSW; go_simp; try with_reducible rfl
    simp only [qA, qB, qC, Act.put, qD, qE, qF]
    refine wpAnyH_take (i := 7) (v := ?_) rfl (by kernel_rfl) (by kernel_rfl) (by kernel_rfl) (fun _ _ _ h => h) (Or.inl ⟨by rfl, ?_⟩) (HS.out _ h3) ?_
    rotate_left 1
    · intro W hSW; clear hSW; go_simp; try with_reducible rfl
    simp only [qA, qB, qC, Act.put, qD, qE, qF]
    refine wpAnyH_take (i := 8) (v := ?_) rfl (by kernel_rfl) (by kernel_rfl) (by kernel_rfl) (fun _ _ _ h => h) (Or.inl ⟨by rfl, ?_⟩) (HS.out _ h3) ?_
    rotate_left 1
    · intro W hSW; clear hSW; go_simp; try with_reducible rfl
    simp only [qA, qB, qC, Act.put, qD, qE, qF]
    all_goals skip
    rotate_left 1
    rw [if_pos (by rfl)]
    refine wp_alloc_abs 104 rfl z32 alloc_32 ?_
    intro W1 q10 b1 lo1 hi1 th1
    have h1 : Kept (fun _ => False) w W1 := h0.trans (Kept.fresh (S := fun _ => False) b1) (fun _ _ h => h)
    have r10_1 : Rw w W1 q10 32 := ⟨th1, Nat.le_trans h0.size lo1, hi1⟩
    refine hK'.out _ _ (HS.out _ h1) (fun _ => ?_)
    clear hK' K'
    try simp only [qA, qB, qC, Act.put, qD, qE, qF]
    refine wpAnyH_ready (rs := [5, 9]) (by kernel_rfl) (by simp) ?_
    refine AllReadyH.cons rfl (fun K' hK' => ?_) (AllReadyH.cons rfl (fun K' hK' => ?_) AllReadyH.nil)
    rw [if_pos (by rfl)]
    go_simp
    refine (HPK.out W1 (HTW.out _ h1)).mono ?_
    rintro e W2 ⟨rfl, b2⟩
    have h2 : Kept (fun _ => False) w W2 := h1.trans (Kept.fresh (S := fun _ => False) b2) (fun _ _ h => h)
    have r10_2 := r10_1.go hpl (Kept.fresh b2)
    refine hK'.out _ _ (HS.out _ h2) (fun _ => ?_)
    clear hK' K'
    try simp only [qA, qB, qC, Act.put, qD, qE, qF]
    refine wpAnyH_take (i := 6) (v := ?_) rfl (by kernel_rfl) (by kernel_rfl) (by kernel_rfl) (fun _ _ _ h => h) (Or.inl ⟨by rfl, ?_⟩) (HS.out _ h2) ?_
    rotate_left 1
    · intro W hSW; clear hSW; go_simp; try with_reducible rfl
    simp only [qA, qB, qC, Act.put, qD, qE, qF]
    refine wpAnyH_take (i := 7) (v := ?_) rfl (by kernel_rfl) (by kernel_rfl) (by kernel_rfl) (fun _ _ _ h => h) (Or.inl ⟨by rfl, ?_⟩) (HS.out _ h2) ?_
    rotate_left 1
    · intro W hSW; clear hSW; go_simp; try with_reducible rfl
    simp only [qA, qB, qC, Act.put, qD, qE, qF]
    refine wpAnyH_take (i := 8) (v := ?_) rfl (by kernel_rfl) (by kernel_rfl) (by kernel_rfl) (fun _ _ _ h => h) (Or.inl ⟨by rfl, ?_⟩) (HS.out _ h2) ?_
    rotate_left 1
    · intro W hSW; clear hSW; go_simp; try with_reducible rfl
    simp only [qA, qB, qC, Act.put, qD, qE, qF]
    refine rk 9 (fun K' hK' => ?_)
    refine wp_alloc_abs 254 rfl zB alloc_blk ?_
    intro W3 q9 b3 lo3 hi3 th3
    have h3 : Kept (fun _ => False) w W3 := h2.trans (Kept.fresh (S := fun _ => False) b3) (fun _ _ h => h)
    have r10_3 := r10_2.go hpl (Kept.fresh b3)
    have r9_3 : Rw w W3 q9 128 := ⟨th3, Nat.le_trans h2.size lo3, hi3⟩
    have neq : q9 ≠ q10 := by have := r10_2.2.2; omega
    refine hK'.out _ _ (HS.out _ h3) (fun _ => ?_)
    clear hK' K'
    try simp only [qA, qB, qC, Act.put, qD, qE, qF]
    all_goals skip
    rotate_left 1
    rw [if_pos (by rfl)]
    refine wp_alloc_abs 254 rfl zB alloc_blk ?_
    intro W2 q9 b2 lo2 hi2 th2
    have h2 : Kept (fun _ => False) w W2 := h1.trans (Kept.fresh (S := fun _ => False) b2) (fun _ _ h => h)
    have r10_2 := r10_1.go hpl (Kept.fresh b2)
    have r9_2 : Rw w W2 q9 128 := ⟨th2, Nat.le_trans h1.size lo2, hi2⟩
    have neq : q9 ≠ q10 := by have := r10_1.2.2; omega
    refine hK'.out _ _ (HS.out _ h2) (fun _ => ?_)
    clear hK' K'
    try simp only [qA, qB, qC, Act.put, qD, qE, qF]
    refine rk 5 (fun K' hK' => ?_)
    go_simp
    refine (HPK.out W2 (HTW.out _ h2)).mono ?_
    rintro e W3 ⟨rfl, b3⟩
    have h3 : Kept (fun _ => False) w W3 := h2.trans (Kept.fresh (S := fun _ => False) b3) (fun _ _ h => h)
    have r9_3 := r9_2.go hpl (Kept.fresh b3)
    have r10_3 := r10_2.go hpl (Kept.fresh b3)
    refine hK'.out _ _ (HS.out _ h3) (fun _ => ?_)
    clear hK' K'
    try simp only [qA, qB, qC, Act.put, qD, qE, qF]
    refine wpAnyH_take (i := 6) (v := ?_) rfl (by kernel_rfl) (by kernel_rfl) (by kernel_rfl) (fun _ _ _ h => h) (Or.inl ⟨by rfl, ?_⟩) (HS.out _ h3) ?_
    rotate_left 1
    · intro W hSW; clear hSW; go_simp; try with_reducible rfl
    simp only [qA, qB, qC, Act.put, qD, qE, qF]
    refine wpAnyH_take (i := 7) (v := ?_) rfl (by kernel_rfl) (by kernel_rfl) (by kernel_rfl) (fun _ _ _ h => h) (Or.inl ⟨by rfl, ?_⟩) (HS.out _ h3) ?_
    rotate_left 1
    · intro W hSW; clear hSW; go_simp; try with_reducible rfl
    simp only [qA, qB, qC, Act.put, qD, qE, qF]
    refine wpAnyH_take (i := 8) (v := ?_) rfl (by kernel_rfl) (by kernel_rfl) (by kernel_rfl) (fun _ _ _ h => h) (Or.inl ⟨by rfl, ?_⟩) (HS.out _ h3) ?_
    rotate_left 1
    · intro W hSW; clear hSW; go_simp; try with_reducible rfl
    simp only [qA, qB, qC, Act.put, qD, qE, qF]
    all_goals skip
    rotate_left 1
    all_goals
      refine rk 11 (fun K' hK' => ?_)
      refine wp_store_mid 254 _ _ rfl q9 0 (bytesV hd).toArray rfl rfl (by rw [e128]; exact r9_3.1) (by rw [List.size_toArray]; exact HIB.out) (all_oneCell_toArray (bytesV_one hd)) ?_
      rw [List.toList_toArray]
      have g4 : Kept (· = q9) W3 (W3.setCells q9 0 (bytesV hd)) := Kept.setCells _ _ _ _ (Or.inl rfl)
      have h4 : Kept (fun _ => False) w (W3.setCells q9 0 (bytesV hd)) := h3.trans g4 (fun g h1 h2 => by have := r9_3.2.1; omega)
      have R9 : (W3.setCells q9 0 (bytesV hd)).rangeAt q9 0 (bytesV hd) := World.rangeAt_setCells_same _ _ _ _ (by rw [bytesV_length, hdl]; exact r9_3.1)
      have r10_4 : Rw w (W3.setCells q9 0 (bytesV hd)) q10 32 := ⟨World.there_setCells r10_3.1 _ _ _, r10_3.2.1, by rw [size_setCells]; exact r10_3.2.2⟩
      have l_4 : w.heap.size ≤ q9 ∧ q9 < (W3.setCells q9 0 (bytesV hd)).heap.size := ⟨r9_3.2.1, by rw [size_setCells]; exact r9_3.2.2⟩
      clear g4
      generalize (W3.setCells q9 0 (bytesV hd)) = W4 at *
      refine hK'.out _ _ (HS.out _ h4) (fun _ => ?_)
      clear hK' K'
      try simp only [qA, qB, qC, Act.put, qD, qE, qF]
      refine rk 12 (fun K' hK' => ?_)
      refine wp_store_mid 104 _ _ rfl q10 0 (hV H1).toArray rfl rfl (by rw [e32]; exact r10_4.1) (by rw [List.size_toArray]; exact HIH.out) (all_oneCell_toArray (hV_one H1)) ?_
      rw [List.toList_toArray]
      have g5 : Kept (· = q10) W4 (W4.setCells q10 0 (hV H1)) := Kept.setCells _ _ _ _ (Or.inl rfl)
      have h5 : Kept (fun _ => False) w (W4.setCells q10 0 (hV H1)) := h4.trans g5 (fun g h1 h2 => by have := r10_4.2.1; omega)
      have R10 : (W4.setCells q10 0 (hV H1)).rangeAt q10 0 (hV H1) := World.rangeAt_setCells_same _ _ _ _ (by rw [hV_len hH32]; exact r10_4.1)
      have R9' : (W4.setCells q10 0 (hV H1)).rangeAt q9 0 (bytesV hd) := World.rangeAt_setCells_apart R9 _ _ _ (Or.inl neq)
      have l_5 : w.heap.size ≤ q9 ∧ q9 < (W4.setCells q10 0 (hV H1)).heap.size ∧ w.heap.size ≤ q10 ∧ q10 < (W4.setCells q10 0 (hV H1)).heap.size := ⟨l_4.1, by rw [size_setCells]; exact l_4.2, r10_4.2.1, by rw [size_setCells]; exact r10_4.2.2⟩
      clear g5
      generalize (W4.setCells q10 0 (hV H1)) = W5 at *
      refine hK'.out _ _ (HS.out _ h5) (fun _ => ?_)
      clear hK' K'
      try simp only [qA, qB, qC, Act.put, qD, qE, qF]
      refine ⟨by kernel_rfl, ?_⟩
      refine NoPanic.normal ?_
      try simp only [qA, qB, qC, Act.put, qD, qE, qF]
      go_wp2_with fail
      go_meet
      exact ⟨q9, q10, rfl, rfl, h5, l_5.1, l_5.2.1, l_5.2.2.1, l_5.2.2.2, R9', R10⟩
  case rest =>
    obtain ⟨q9, q10, rfl, rfl, hK, l1, l2, l3, l4, R9, R10⟩ := hcut
    have hsc := hK.size
    have A1 := HS.out wc.drew (hK.trans (Kept.drew (fun _ => False) wc) (fun _ _ h => h))
    have R9d : wc.drew.rangeAt q9 0 (bytesV hd) := by rw [World.rangeAt_drew]; exact R9
    have J0 : wc.drew.rangeAt j 0 (jL p n l u) ∧ wc.drew.cell? ⟨a, 0, none⟩ = some (.pointer (some ⟨j, 0, none⟩)) ∧ wc.drew.rangeAt q9 0 (bytesV hd) := ⟨A1.jour, A1.cj, R9d⟩
    have hlay := vlay_any p bb n u C (.slice none 0 0) [] hd wc.drew hu hn (by simp) hdl A1.disk
    have kd : Kept (fun _ => False) wc wc.drew := Kept.drew _ _
    have hk0 : Kept (fun _ => False) w wc.drew := hK.trans kd (fun _ _ h => h)
    have R10d : wc.drew.rangeAt q10 0 (hV H1) := by rw [World.rangeAt_drew]; exact R10
    have hsd : wc.drew.heap.size = wc.heap.size := rfl
    go_wp2_with fail
    go_cut [2, 3] (fun v2 v3 wd => v2 = .pointer (some ⟨q9, 0, none⟩) ∧ v3 = .pointer (some ⟨q10, 0, none⟩) ∧ ∃ cv, DiskAt wd p bb n C cv [(u, hd)] ∧ Kept (fun g => g = p) w wd ∧ wd.rangeAt j 0 (jL p n l u) ∧ wd.there j 0 35 ∧ wd.cell? ⟨a, 0, none⟩ = some (.pointer (some ⟨j, 0, none⟩)) ∧ wd.rangeAt q10 0 (hV H1) ∧ q10 < wd.heap.size)
    case first =>
      refine wp_region_noPanic ?_
      refine wp_region_held_drew (S := fun W => W.rangeAt j 0 (jL p n l u) ∧ W.cell? ⟨a, 0, none⟩ = some (.pointer (some ⟨j, 0, none⟩)) ∧ W.rangeAt q9 0 (bytesV hd)) (by kernel_rfl) J0 (fun _ => ?_)
      refine tq (i := 0) (v := ?_) rfl J0 ?_ ?_
      rotate_left 1
      · intro W hSW; have cW := hSW.2.1; clear hSW; go_simp; try with_reducible rfl
      simp only [qA, qB, qC, Act.put, qD, qE, qF]
      refine tk 1 J0 ?_
      refine tk 2 J0 ?_
      refine wpAnyH_take (i := 3) (v := .agg (volL p n).toArray) rfl (by kernel_rfl) (by kernel_rfl) (by kernel_rfl) (fun _ _ _ h => h) (yieldsIf_load_mid (by rfl) 222 _ rfl j 0 rfl (volL p n) _ (fun W hW => j_vol hW.1) Tryz.underlying222 rfl HIV.out) J0 ?_
      simp only [qA, qB, qC, Act.put, qD, qE, qF]
      refine tq (i := 4) (v := ?_) rfl J0 ?_ ?_
      rotate_left 1
      · intro W hSW; have cW := hSW.2.1; clear hSW; go_simp; try with_reducible rfl
      simp only [qA, qB, qC, Act.put, qD, qE, qF]
      refine tk 5 J0 ?_
      refine tk 6 J0 ?_
      refine tq (i := 7) (v := ?_) rfl J0 ?_ ?_
      rotate_left 1
      · intro W hSW; have cW := j_used hl hSW.1; clear hSW; go_simp; try with_reducible rfl
      simp only [qA, qB, qC, Act.put, qD, qE, qF]
      refine wpAnyH_take (i := 8) (v := .agg (bytesV hd).toArray) rfl (by kernel_rfl) (by kernel_rfl) (by kernel_rfl) (fun _ _ _ h => h) (yieldsIf_load_mid (by rfl) 254 _ rfl q9 0 rfl (bytesV hd) _ (fun W hW => hW.2.2) Tryz.underlying254 rfl HIB.out) J0 ?_
      simp only [qA, qB, qC, Act.put, qD, qE, qF]
      refine rk 9 (fun K' hK' => ?_)
      go_simp
      refine hlay.mono ?_
      rintro e w1 ⟨rfl, cv1, hD1, hcv1, hk1⟩
      rw [List.nil_append] at hD1
      have g1 : Kept (fun g => g = p) wc.drew w1 := hk1.mono (fun g _ h => by rcases h with h | h; exact h; cases h)
      have J1 : w1.rangeAt j 0 (jL p n l u) ∧ w1.cell? ⟨a, 0, none⟩ = some (.pointer (some ⟨j, 0, none⟩)) ∧ w1.rangeAt q9 0 (bytesV hd) := ⟨range_kept J0.1 g1 (by omega) hjp, (g1.cell (a := ⟨a, 0, none⟩) (by show a < _; omega) hap.1).trans J0.2.1, range_kept J0.2.2 g1 (by omega) (by show ¬ q9 = p; omega)⟩
      refine hK'.out _ _ J1 (fun _ => ?_)
      clear hK' K'
      refine ⟨by kernel_rfl, ?_⟩
      refine NoPanic.normal ?_
      try simp only [qA, qB, qC, Act.put, qD, qE, qF]
      go_wp2_with fail
      go_meet
      exact ⟨rfl, rfl, cv1, hD1, (hk0.mono (S' := fun g => g = p) (fun _ _ h => h.elim)).trans g1 (fun _ _ h => h), J1.1, there_kept A1.room g1 (by omega) hjp, J1.2.1, range_kept R10d g1 (by omega) (by show ¬ q10 = p; omega), by have := g1.size; omega⟩
    case rest =>
      obtain ⟨rfl, rfl, cv, hD, hKd, hJ, hRm, hca, hR10, hq10⟩ := hcut
      have hsd2 := hKd.size
      have hset := vsettle_any p bb n C cv [(u, hd)] wc hn (by simp) hD
      have hv0 : wc.cell? ⟨j, 0, none⟩ = some (devV p) := j_vol hJ 0 _ rfl
      have hv1 : wc.cell? ⟨j, 1, none⟩ = some (.int .i64 (n : Nat)) := j_vol hJ 1 _ rfl
      have HX : Hid (Kept (fun g => g = p) w wc ∧ wc.rangeAt j 0 (jL p n l u) ∧ wc.there j 0 35 ∧ wc.rangeAt q10 0 (hV H1)) := ⟨hKd, hJ, hRm, hR10⟩
      clear hJ hRm hR10 hD hKd A1 R9d J0 hlay kd hk0 R10d
      unfold volL devV at *
      go_wp2_with fail
      refine hset.mono ?_
      rintro e w2 ⟨rfl, hD2, hk2⟩
      clear hset hv0 hv1
      have hJ2 : w2.rangeAt j 0 (jL p n l u) := range_kept HX.out.2.1 hk2 (by omega) (by rintro (h | h); exact hjp h; exact hjb h)
      have hT2 : w2.there j 0 35 := there_kept HX.out.2.2.1 hk2 (by omega) (by rintro (h | h); exact hjp h; exact hjb h)
      have hr2 : w2.rangeAt q10 0 (hV H1) := range_kept HX.out.2.2.2 hk2 (by omega) (by rintro (h | h) <;> omega)
      have hc2 : w2.cell? ⟨a, 0, none⟩ = some (.pointer (some ⟨j, 0, none⟩)) := (hk2.cell (a := ⟨a, 0, none⟩) (by show a < _; omega) (by rintro (h | h); exact hap.1 h; exact hap.2.1 h)).trans hca
      have ht2 : w2.there j 2 (hV H1).length := (fun i hi' => (by rw [hV_len hH32] at hi'; have := hT2 (2 + i) (by omega); rwa [Nat.zero_add] at this))
      have hs2 := hk2.size
      have HK2 : Hid (Kept (fun g => g = p ∨ g = bb) w w2 ∧ DiskAt w2 p bb n (putAll C [(u, hd)]) (.slice none 0 0) []) := ⟨(HX.out.1.mono (S' := fun g => g = p ∨ g = bb) (fun _ _ h => Or.inl h)).trans hk2 (fun _ _ h => h), hD2⟩
      have u0 : (0 : Int) ≤ (u : Int) := by omega
      have u1 : (u : Int) < 1000 := by omega
      clear hD2 hk2 HX hca
      go_wp2_with (first
        | (refine wpList_load_mid rfl 104 _ rfl q10 0 rfl (hV H1) _ hr2 Tryz.underlying104 rfl HIH.out ?_)
        | (refine wpList_store_abs rfl 104 _ _ rfl j 2 (hV H1) rfl rfl ht2 HIH.out (hV_one H1) ?_
           intro w6 hw6 _hr6 _ht6 hb6
           have hk6 : Kept (· = j) w2 w6 := (by rw [hw6]; exact Kept.setCells _ _ _ _ (Or.inl rfl))
           have hT6 : w6.there j 0 35 := (by rw [hw6]; exact World.there_setCells hT2 _ _ _)
           have hJ6 : w6.rangeAt j 0 (jL p n H1 u) := (by rw [hw6]; exact j_relink hl hH32 hJ2 (by rw [← hV_len hH32]; exact ht2))
           have c34 := j_used hH32 hJ6
           have hc6 : w6.cell? ⟨a, 0, none⟩ = some (.pointer (some ⟨j, 0, none⟩)) := (hk6.cell (a := ⟨a, 0, none⟩) (by show a < _; omega) hap.2.2).trans hc2
           have f34 : w6.frozen? ⟨j, 34, none⟩ = false := (by have := (hT6 34 (by omega)).2; rwa [Nat.zero_add] at this)
           clear hw6 _hr6 _ht6 hb6))
      go_end0
      rw [show (u : Int) + 1 = ((u + 1 : Nat) : Int) by omega]
      have k7 : Kept (· = j) w6 (w6.setCell ⟨j, 34, none⟩ (.int .i64 ((u + 1 : Nat) : Int))) := Kept.setCell _ _ _ (Or.inl rfl)
      exact ⟨rfl, (HK2.out.2.kept hk6 (fun e => hjp e.symm) (fun e => hjb e.symm) (fun g hg => by cases hg)).kept k7 (fun e => hjp e.symm) (fun e => hjb e.symm) (fun g hg => by cases hg), j_count (u' := u + 1) hH32 hJ6, World.there_setCells hT6 j 34 [.int .i64 ((u + 1 : Nat) : Int)], ((HK2.out.1.mono (S' := fun g => g = p ∨ g = bb ∨ g = j) (fun g _ h => by omega)).trans hk6 (fun g _ h => by omega)).trans k7 (fun g _ h => by omega)⟩

theorem enter_app1 (caps : Array Value) (w : World) : (callFunc 170 caps).run Tryz.prog w = .ok (.enter 170 caps) w := by kernel_rfl
/-- What Append, told no error, leaves. -/
def apPost (K : Nat → Int) (p bb n j u : Nat) (C : Nat → List Int) (l r : ByteArray) (w : World) (e : Ending) (w' : World) : Prop :=
  e = .returned .nilIface ∧ DiskAt w' p bb n (putAll C [(u, packN K l r)]) (.slice none 0 0) [] ∧ w'.rangeAt j 0 (jL p n (sumOf K (l ++ r)) (u + 1)) ∧ w'.there j 0 35 ∧ Kept (fun g => g = p ∨ g = bb ∨ g = j) w w'
set_option maxRecDepth 100000 in
set_option maxHeartbeats 400000 in
theorem jappend_any (K : Nat → Int) (p bb n j u : Nat) (C : Nat → List Int) (l r : ByteArray) (w : World) (hn : n ≤ 1000) (hu : u < n) (hl : l.size = 32) (hr : r.size ≤ 18) (hjp : j ≠ p) (hjb : j ≠ bb) (hjl : j < w.heap.size) (hD : DiskAt w p bb n C (.slice none 0 0) []) (hJ : w.rangeAt j 0 (jL p n l u)) (hR : w.there j 0 35) (T : Tab K w) :
    Calls Tryz.prog 142 #[.pointer (some ⟨j, 0, none⟩), .string r] w (apPost K p bb n j u C l r w) := by
  have hmf : ∀ (fn : Fn) (first cap : Array Value) (w : World), (Instr.makeFunc fn first cap).run Tryz.prog w = .ok (.func fn first cap) w := fun _ _ _ _ => rfl
  have hpl := hD.lt
  obtain ⟨V, hV⟩ : ∃ V, V = w.alloc (.cells #[.pointer (some ⟨j, 0, none⟩)] 171) := ⟨_, rfl⟩
  have hVs : V.heap.size = w.heap.size + 1 := by rw [hV]; simp
  have bV : Below w.heap.size w V := by rw [hV]; exact (Below.refl _ _).alloc (Nat.le_refl _) _
  have ca : V.cell? ⟨w.heap.size, 0, none⟩ = some (.pointer (some ⟨j, 0, none⟩)) := by rw [hV, World.cell?_alloc_at _ _ _ _ rfl]; rfl
  obtain ⟨W, hW⟩ : ∃ W, W = V.alloc (.cells #[.string r] 9) := ⟨_, rfl⟩
  have hWs : W.heap.size = w.heap.size + 2 := by rw [hW]; simp; omega
  have bW : Below V.heap.size V W := by rw [hW]; exact (Below.refl _ _).alloc (Nat.le_refl _) _
  have cs : W.cell? ⟨V.heap.size, 0, none⟩ = some (.string r) := by rw [hW, World.cell?_alloc_at _ _ _ _ rfl]; rfl
  obtain ⟨E, hE⟩ : ∃ E, E = W.alloc (.cells #[.nilIface] 35) := ⟨_, rfl⟩
  have hEs : E.heap.size = w.heap.size + 3 := by rw [hE]; simp; omega
  have bE : Below W.heap.size W E := by rw [hE]; exact (Below.refl _ _).alloc (Nat.le_refl _) _
  have hce : E.cell? ⟨W.heap.size, 0, none⟩ = some .nilIface := by rw [hE, World.cell?_alloc_at _ _ _ _ rfl]; rfl
  have hfe : E.frozen? ⟨W.heap.size, 0, none⟩ = false := by rw [hE, World.frozen?_alloc_at _ _ _ _ rfl]
  have kV : Kept (fun _ => False) w V := Kept.fresh bV
  have kW : Kept (fun _ => False) V W := Kept.fresh bW
  have kE : Kept (fun _ => False) W E := Kept.fresh bE
  have kwE : Kept (fun _ => False) w E := (kV.trans kW (fun _ _ h => h)).trans kE (fun _ _ h => h)
  have A0 : Ap p bb n j w.heap.size V.heap.size u C l r E := ⟨hD.kept kwE id id (fun g hg => by cases hg), range_kept hJ kwE hjl id, there_kept hR kwE hjl id,
    ((kE.cell (a := ⟨w.heap.size, 0, none⟩) (by show w.heap.size < _; omega) id).trans (kW.cell (a := ⟨w.heap.size, 0, none⟩) (by show w.heap.size < _; omega) id)).trans ca,
    (kE.cell (a := ⟨V.heap.size, 0, none⟩) (by show V.heap.size < _; omega) id).trans cs⟩
  have h1 := append1_any K p bb n j w.heap.size V.heap.size u C l r E hn hu hl hr hjp hjb ⟨by omega, by omega, by omega⟩ ⟨by omega, by omega, by omega⟩ A0 (T.kept kwE id)
  have hcat := catch_ok 170 #[.pointer (some ⟨w.heap.size, 0, none⟩), .pointer (some ⟨V.heap.size, 0, none⟩)] W (fun w' => DiskAt w' p bb n (putAll C [(u, packN K l r)]) (.slice none 0 0) [] ∧ w'.rangeAt j 0 (jL p n (sumOf K (l ++ r)) (u + 1)) ∧ w'.there j 0 35 ∧ Kept (fun g => g = p ∨ g = bb ∨ g = j) E w') (enter_app1 _) (by
    rw [← hE]
    refine h1.mono (fun e w' ⟨he, c1, c2, c3, c4⟩ => ⟨he, ⟨c1, c2, c3, c4⟩, ?_, ?_⟩)
    · exact (c4.cell (a := ⟨W.heap.size, 0, none⟩) (by show W.heap.size < _; omega) (by show ¬ (W.heap.size = p ∨ W.heap.size = bb ∨ W.heap.size = j); omega)).trans hce
    · exact (c4.frozen (a := ⟨W.heap.size, 0, none⟩) (by show W.heap.size < _; omega) (by show ¬ (W.heap.size = p ∨ W.heap.size = bb ∨ W.heap.size = j); omega)).trans hfe)
  have HK : Hid (Kept (fun _ => False) w E ∧ E.heap.size = w.heap.size + 3) := ⟨kwE, hEs⟩
  rw [hVs] at hcat
  clear h1 A0 kwE kE kW kV hfe hce bE hE cs ca bV bW T hR hJ hD hEs
  go_enter Tryz.func142, Tryz.ntmps142
  go_wp2_with fail
  rw [← hV, ← hW]
  refine hcat.mono ?_
  rintro e w4 ⟨rfl, w3, ⟨c1, c2, c3, c4⟩, hw4⟩
  clear hcat
  have hk4 : Kept (· = W.heap.size) w3 w4 := by rw [hw4]; exact Kept.setCell _ _ _ (Or.inl rfl)
  clear hw4 hW hV
  have hs3 := c4.size
  have hk := HK.out
  go_wp2_with fail
  go_ret
  exact ⟨rfl, c1.kept hk4 (by omega) (by omega) (fun g hg => by cases hg), range_kept c2 hk4 (by omega) (by omega), there_kept c3 hk4 (by omega) (by omega), ((hk.1.mono (S' := fun g => g = p ∨ g = bb ∨ g = j) (fun _ _ h => h.elim)).trans c4 (fun _ _ h => h)).trans hk4 (fun g h1 h2 => by omega)⟩
end Go.Proofs.YteglimjonofdeaaGreatDoor
