import Derived.Test.YteebdadnfaekmaaDoorIFacts
set_option linter.unusedVariables false
set_option linter.unusedSimpArgs false
namespace Go.Proofs.YteebdadnfaekmaaDoor
open Go.RowKit

set_option maxRecDepth 10000 in
set_option maxHeartbeats 4000000 in
theorem included_any (c n i at' : Int) (K : Nat → Int) (w : World) (c0 : -9223372036854775808 ≤ c) (c1 : c ≤ 9223372036854775807) (n0 : -9223372036854775808 ≤ n) (n1 : n ≤ 9223372036854775807) (i0 : -9223372036854775808 ≤ i) (i1 : i ≤ 9223372036854775807) (a0 : -9223372036854775808 ≤ at') (a1 : at' ≤ 9223372036854775807) (T : Tab K w) :
    Calls Tryd.prog 4 #[.int .i64 c, .int .i64 n, .int .i64 i, .int .i64 at'] w fun e w' => e = .returned (.bool true) ∧ Below w.heap.size w w' := by
  have HT : Hid (Tab K w) := T
  clear T
  go_enter Tryd.func4, Tryd.ntmps4
  go_wp2_with fail
  refine (pick_ex n 70 n0 n1 (by omega) (by omega) w).mono ?_
  rintro e w0 ⟨r1, hre, hr1, hw0⟩
  subst hre
  obtain rfl : w = w0 := hw0.symm
  clear hw0
  go_wp2_with fail
  have hlv := leaves_any c (r1 + 1) w (by omega) c0 c1
  rw [show ((r1 + 1 : Nat) : Int) = 1 + (r1 : Int) by omega] at hlv
  refine hlv.mono ?_
  rintro e w1 ⟨ls, ao, cap, rfl, hls, hb1⟩
  clear hlv
  obtain ⟨N, hN⟩ : ∃ N, N = r1 + 1 := ⟨_, rfl⟩
  rw [← hN] at hls ⊢
  have hN1 : 0 < N := by omega
  have hN2 : N ≤ 70 := by omega
  clear hN
  obtain ⟨g, hg⟩ : ∃ g, ao = some ⟨g, 0, none⟩ := by
    rcases hls.out.2.2.2 with ⟨_, e⟩ | ⟨g, cap', cur, e, _⟩
    · omega
    · exact ⟨g, by injection e⟩
  subst hg
  have HL1 : Hid (LeafAt w1 (.slice (some ⟨g, 0, none⟩) N cap) ls) := by
    have h := hls.out.2.2
    rw [← hls.out.1] at h
    have := leaf_own h
    rw [hls.out.1] at this
    exact this
  have HT1 : Hid (Tab K w1) := HT.out.below hb1
  go_wp2_with fail
  refine (pick_ex i N i0 i1 (by omega) (by omega) w1).mono ?_
  rintro e w0 ⟨k, hke, hk, hw0⟩
  subst hke
  obtain rfl : w1 = w0 := hw0.symm
  clear hw0
  have hkN : k < N := by omega
  obtain ⟨R, hR⟩ : ∃ R, R = rootF (sumOf K) ls := ⟨_, rfl⟩
  obtain ⟨F, hF⟩ : ∃ F, F = inclF (sumOf K) ls k := ⟨_, rfl⟩
  have HR : Hid (R = rootF (sumOf K) ls) := hR
  have HF : Hid (F = inclF (sumOf K) ls k) := hF
  have hR32 : R.size = 32 := by rw [hR]; exact rootF_size _ (sumOf_size K) ls
  have hFl : F.length ≤ N := by rw [hF, ← hls.out.1]; exact inclF_len _ _ _ _ rfl
  have HF32 : Hid (∀ b ∈ F, b.size = 32) := by rw [hF]; exact inclF_sizes _ (sumOf_size K) _ ls k rfl
  have hsz : Hid (∀ s ∈ ls, s.size ≤ 140737488355000) := fun s hs => by have := hls.out.2.1 s hs; omega
  have hroot := aroot_any K ls _ w1 (by rw [hls.out.1]; omega) (by rw [hls.out.1]; omega) HL1.out hsz.out HT1.out
  rw [← hR] at hroot
  clear hR
  go_wp2_with fail
  refine hroot.mono ?_
  rintro e w2 ⟨rfl, hb2⟩
  clear hroot
  have hincl := incl_any K ls _ k w2 (by rw [hls.out.1]; omega) (by rw [hls.out.1]; omega) (HL1.out.below hb2) hsz.out (HT1.out.below hb2)
  rw [← hF] at hincl
  clear hF
  go_wp2_with fail
  refine hincl.mono ?_
  rintro e w3 ⟨ao2, cap2, rfl, ho3, hb3⟩
  clear hincl
  have hB13 : Below w1.heap.size w1 w3 := hb2.trans (hb3.mono hb2.size)
  have hlen := hls.out.1
  obtain ⟨s, hs⟩ : ∃ s, ls[k]? = some s := ⟨_, List.getElem?_eq_getElem (by omega)⟩
  have hs14 : s.size ≤ 14 := hls.out.2.1 s (List.mem_of_getElem? hs)
  have HS : Hid (ls[k]? = some s) := hs
  have hck : w3.cell? ⟨g, k, none⟩ = some (.string s) := by
    rcases HL1.out with ⟨e, _⟩ | ⟨g', off', cap', e, _, hcc⟩
    · rw [e] at hlen; simp at hlen; omega
    · have e1 : g = g' ∧ 0 = off' := by
        injection e with e _ _; injection e with e; injection e with e1 e2 _; exact ⟨e1, e2⟩
      obtain ⟨rfl, rfl⟩ := e1
      have := hcc k (by omega)
      rw [Nat.zero_add] at this
      rw [hB13.cell (World.block_lt_of_cell? w1 _ this), this]
      have h2 := List.getElem?_eq_getElem (show k < ls.length by omega)
      rw [hs] at h2
      rw [Option.some.inj h2]
  have hcell : ∀ W, Below w3.heap.size w3 W → W.cell? ⟨g, k, none⟩ = some (.string s) := fun W hb => (hb.cell (World.block_lt_of_cell? w3 _ hck)).trans hck
  have HCELL : Hid (∀ W, Below w3.heap.size w3 W → W.cell? ⟨g, k, none⟩ = some (.string s)) := hcell
  have HLW : Hid (∀ W, Below w3.heap.size w3 W → LeafAt W (.slice (some ⟨g, 0, none⟩) N cap) ls) := fun W hb => (HL1.out.below hB13).below hb
  have HTW : Hid (∀ W, Below w3.heap.size w3 W → Tab K W) := fun W hb => (HT1.out.below hB13).below hb
  have HPW : Hid (∀ W, Below w3.heap.size w3 W → W.ownsRow w2.heap.size 9 1 (.slice ao2 F.length cap2) F.length (F.map .string)) := fun W hb => own_below' ho3 hb
  have HCHK : Hid (∀ (t r' : ByteArray) (pf : List ByteArray) (v : Value) (W : World), Below w3.heap.size w3 W → t.size ≤ 1000 → pf.length ≤ 1000 → LeafAt W v pf → Calls Tryd.prog 15 #[.string t, .int .i64 k, .int .i64 N, .string r', v] W fun e w' => e = .returned (chkV (inclOk K t k N r' pf)) ∧ Below W.heap.size W w') := fun t r' pf v W hb ht hpf hl =>
    achk_any K t r' k N pf v W (by omega) hkN (by omega) hl (by omega) (HTW.out W hb)
  have HMET : Hid (∀ (t : ByteArray) (pf : List ByteArray) (v : Value) (W : World), Below w3.heap.size w3 W → t.size ≤ 1000 → pf.length ≤ 1000 → (∀ b ∈ pf, b.size ≤ 1000) → LeafAt W v pf → inclOk K t k N R pf = true → ¬ (t = s ∧ pf = F) → Calls Tryd.prog 17 #[.slice (some ⟨g, 0, none⟩) N cap, .int .i64 k, .string t, v] W fun e w' => e = .returned (.bool true) ∧ Below W.heap.size W w') := fun t pf v W hb ht hpf hpb hl hok hne => by
    refine met_any K ls pf t _ v k W (by omega) (by omega) hpf (HLW.out W hb) hl (fun x hx => by have := hls.out.2.1 x hx; omega) (by omega) (fun x hx => by have := hpb x hx; omega) (HTW.out W hb) ?_
    have hkl : k < ls.length := by omega
    refine ok_clash K ls k t pf hkl (by rw [hlen, ← HR.out]; exact hok) ?_
    rw [← HF.out]
    have h2 := List.getElem?_eq_getElem hkl
    rw [HS.out] at h2
    rw [← Option.some.inj h2]
    exact hne
  have hg1 : Hid (inclOk K s k N R F = true) := by
    show inclOk K s k N R F = true
    have := ok_good K ls k s (by omega) HS.out
    rw [hlen, ← HR.out, ← HF.out] at this
    exact this
  have hB3 : Below w.heap.size w w3 := hb1.trans (hB13.mono hb1.size)
  have hpl : Hid (LeafAt w3 (.slice ao2 F.length cap2) F) := leaf_own ho3
  have kN : (k : Int) < (N : Int) := by omega
  have k0 : (0 : Int) ≤ (k : Int) := by omega
  clear hs hcell ho3 hb2 hb3 hlen
  go_wp2_with fail
  have hchk := HCHK.out s R F _ w3 (Below.refl _ _) (by omega) (by omega) hpl.out
  rw [hg1.out] at hchk
  refine hchk.mono ?_
  rintro e w4 ⟨rfl, hb4⟩
  have hBw4 : Below w3.heap.size w3 w4 := hb4
  have hc4 := HCELL.out w4 hBw4
  clear hchk hck
  rw [show chkV true = .nilIface from rfl]
  go_wp2_with fail
  have hchk := HCHK.out (s ++ ⟨#[120]⟩) R F _ w4 hBw4 (by rw [ByteArray.size_append, show (⟨#[120]⟩ : ByteArray).size = 1 from rfl]; omega) (by omega) (leaf_own (HPW.out w4 hBw4))
  obtain ⟨bl, hbl⟩ : ∃ bl, bl = inclOk K (s ++ ⟨#[120]⟩) k N R F := ⟨_, rfl⟩
  rw [← hbl] at hchk
  have HBL : Hid (bl = inclOk K (s ++ ⟨#[120]⟩) k N R F) := hbl
  clear hbl hc4
  refine hchk.mono ?_
  rintro e w5 ⟨rfl, hb5⟩
  have hBw5 : Below w3.heap.size w3 w5 := hBw4.trans (hb5.mono hBw4.size)
  clear hchk hb5
  generalize hcbl : chkV bl = vbl at *
  have HCBL : Hid (chkV bl = vbl) := hcbl
  clear hcbl
  go_wp2_with fail
  have hcell := HCELL.out
  have B0 : Below w3.heap.size w3 w5.drew := hBw5.drew
  refine wp_region_noPanic ?_
  refine wp_region_held_drew (S := fun w' => Below w3.heap.size w3 w') (by kernel_rfl) B0 (fun _ => ?_)
  refine wpAnyH_take (i := 0) (v := ?_) rfl (by kernel_rfl) (by kernel_rfl) (by kernel_rfl) (fun _ _ _ h => h) (Or.inl ⟨by rfl, ?_⟩) B0 ?_
  rotate_left 1
  · intro W hSW; clear hSW; go_simp; try with_reducible rfl
  simp only [List.getElem_toArray, List.getElem_cons_zero, List.getElem_cons_succ, Act.put, List.setIfInBounds_toArray, List.set_cons_zero, List.set_cons_succ]
  refine wpAnyH_take (i := 1) (v := ?_) rfl (by kernel_rfl) (by kernel_rfl) (by kernel_rfl) (fun _ _ _ h => h) (Or.inl ⟨by rfl, ?_⟩) B0 ?_
  rotate_left 1
  · intro W hSW; clear hSW; go_simp; try with_reducible rfl
  simp only [List.getElem_toArray, List.getElem_cons_zero, List.getElem_cons_succ, Act.put, List.setIfInBounds_toArray, List.set_cons_zero, List.set_cons_succ]
  refine wpAnyH_take (i := 2) (v := ?_) rfl (by kernel_rfl) (by kernel_rfl) (by kernel_rfl) (fun _ _ _ h => h) (Or.inl ⟨by rfl, ?_⟩) B0 ?_
  rotate_left 1
  · intro W hSW; clear hSW; go_simp; try with_reducible rfl
  simp only [List.getElem_toArray, List.getElem_cons_zero, List.getElem_cons_succ, Act.put, List.setIfInBounds_toArray, List.set_cons_zero, List.set_cons_succ]
  refine wpAnyH_take (i := 3) (v := ?_) rfl (by kernel_rfl) (by kernel_rfl) (by kernel_rfl) (fun _ _ _ h => h) (Or.inl ⟨by rfl, ?_⟩) B0 ?_
  rotate_left 1
  · intro W hSW; have cW := hcell W hSW; clear hSW; go_simp; try with_reducible rfl
  simp only [List.getElem_toArray, List.getElem_cons_zero, List.getElem_cons_succ, Act.put, List.setIfInBounds_toArray, List.set_cons_zero, List.set_cons_succ]
  refine wpAnyH_take (i := 4) (v := ?_) rfl (by kernel_rfl) (by kernel_rfl) (by kernel_rfl) (fun _ _ _ h => h) (Or.inl ⟨by rfl, ?_⟩) B0 ?_
  rotate_left 1
  · intro W hSW; clear hSW; go_simp; try with_reducible rfl
  simp only [List.getElem_toArray, List.getElem_cons_zero, List.getElem_cons_succ, Act.put, List.setIfInBounds_toArray, List.set_cons_zero, List.set_cons_succ]
  refine wpAnyH_take (i := 5) (v := ?_) rfl (by kernel_rfl) (by kernel_rfl) (by kernel_rfl) (fun _ _ _ h => h) (Or.inl ⟨by rfl, ?_⟩) B0 ?_
  rotate_left 1
  · intro W hSW; clear hSW; go_simp; try with_reducible rfl
  simp only [List.getElem_toArray, List.getElem_cons_zero, List.getElem_cons_succ, Act.put, List.setIfInBounds_toArray, List.set_cons_zero, List.set_cons_succ]
  refine wpAnyH_take (i := 6) (v := ?_) rfl (by kernel_rfl) (by kernel_rfl) (by kernel_rfl) (fun _ _ _ h => h) (Or.inl ⟨by rfl, ?_⟩) B0 ?_
  rotate_left 1
  · intro W hSW; clear hSW; go_simp; try with_reducible rfl
  simp only [List.getElem_toArray, List.getElem_cons_zero, List.getElem_cons_succ, Act.put, List.setIfInBounds_toArray, List.set_cons_zero, List.set_cons_succ]
  refine wpAnyH_take (i := 7) (v := ?_) rfl (by kernel_rfl) (by kernel_rfl) (by kernel_rfl) (fun _ _ _ h => h) (Or.inl ⟨by rfl, ?_⟩) B0 ?_
  rotate_left 1
  · intro W hSW; clear hSW; go_simp; try with_reducible rfl
  simp only [List.getElem_toArray, List.getElem_cons_zero, List.getElem_cons_succ, Act.put, List.setIfInBounds_toArray, List.set_cons_zero, List.set_cons_succ]
  refine wpAnyH_take (i := 8) (v := ?_) rfl (by kernel_rfl) (by kernel_rfl) (by kernel_rfl) (fun _ _ _ h => h) (Or.inl ⟨by rfl, ?_⟩) B0 ?_
  rotate_left 1
  · intro W hSW; clear hSW; go_simp; try with_reducible rfl
  simp only [List.getElem_toArray, List.getElem_cons_zero, List.getElem_cons_succ, Act.put, List.setIfInBounds_toArray, List.set_cons_zero, List.set_cons_succ]
  refine wpAnyH_take (i := 10) (v := ?_) rfl (by kernel_rfl) (by kernel_rfl) (by kernel_rfl) (fun _ _ _ h => h) (Or.inl ⟨by rfl, ?_⟩) B0 ?_
  rotate_left 1
  · intro W hSW; clear hSW; go_simp; try with_reducible rfl
  simp only [List.getElem_toArray, List.getElem_cons_zero, List.getElem_cons_succ, Act.put, List.setIfInBounds_toArray, List.set_cons_zero, List.set_cons_succ]
  refine wpAnyH_ready (rs := [9]) (by kernel_rfl) (by simp) ?_
  refine AllReadyH.cons rfl (fun K' hK' => ?_) AllReadyH.nil
  rw [if_pos (by rfl)]
  go_simp
  refine (turned_other R at' _ (by omega) (by omega) a0 a1).mono ?_
  rintro e w6 ⟨R', rfl, hR', hb6⟩
  have hBw6 : Below w3.heap.size w3 w6 := B0.trans (hb6.mono B0.size)
  refine hK'.out _ _ hBw6 (fun _ => ?_)
  clear hK' K'
  try simp only [List.getElem_toArray, List.getElem_cons_zero, List.getElem_cons_succ, Act.put, List.setIfInBounds_toArray, List.set_cons_zero, List.set_cons_succ]
  refine wpAnyH_ready (rs := [11]) (by kernel_rfl) (by simp) ?_
  refine AllReadyH.cons rfl (fun K' hK' => ?_) AllReadyH.nil
  rw [if_pos (by rfl)]
  go_simp
  have hch := HCHK.out s R' F _ w6 hBw6 (by omega) (by omega) (leaf_own (HPW.out w6 hBw6))
  have hno : inclOk K s k N R' F = false := by
    have := ok_root K ls k s R' (by have := hls.out.1; omega) HS.out (by rw [← HR.out]; exact hR'.out.2)
    rw [hls.out.1, ← HF.out] at this
    exact this
  rw [hno] at hch
  refine hch.mono ?_
  rintro e w7 ⟨rfl, hb7⟩
  have hBw7 : Below w3.heap.size w3 w7 := hBw6.trans (hb7.mono hBw6.size)
  rw [show chkV false = .iface 34 (.int .i64 14) from rfl]
  refine hK'.out _ _ hBw7 (fun _ => ?_)
  clear hK' K'
  try simp only [List.getElem_toArray, List.getElem_cons_zero, List.getElem_cons_succ, Act.put, List.setIfInBounds_toArray, List.set_cons_zero, List.set_cons_succ]
  refine wpAnyH_ready (rs := [12]) (by kernel_rfl) (by simp) ?_
  refine AllReadyH.cons rfl (fun K' hK' => ?_) AllReadyH.nil
  rw [if_pos (by rfl)]
  go_simp
  refine hK'.out _ _ hBw7 (fun _ => ?_)
  clear hK' K'
  try simp only [List.getElem_toArray, List.getElem_cons_zero, List.getElem_cons_succ, Act.put, List.setIfInBounds_toArray, List.set_cons_zero, List.set_cons_succ]
  refine ⟨by kernel_rfl, ?_⟩
  refine NoPanic.normal ?_
  try simp only [List.getElem_toArray, List.getElem_cons_zero, List.getElem_cons_succ, Act.put, List.setIfInBounds_toArray, List.set_cons_zero, List.set_cons_succ]
  clear hch hno hb6 hb7 hcell
  go_wp2_with fail
  have hcell := HCELL.out
  have B0 : Below w3.heap.size w3 w7.drew := hBw7.drew
  refine wp_region_noPanic ?_
  refine wp_region_held_drew (S := fun w' => Below w3.heap.size w3 w') (by kernel_rfl) B0 (fun _ => ?_)
  refine wpAnyH_take (i := 0) (v := ?_) rfl (by kernel_rfl) (by kernel_rfl) (by kernel_rfl) (fun _ _ _ h => h) (Or.inl ⟨by rfl, ?_⟩) B0 ?_
  rotate_left 1
  · intro W hSW; clear hSW; go_simp; try with_reducible rfl
  simp only [List.getElem_toArray, List.getElem_cons_zero, List.getElem_cons_succ, Act.put, List.setIfInBounds_toArray, List.set_cons_zero, List.set_cons_succ]
  refine wpAnyH_take (i := 1) (v := ?_) rfl (by kernel_rfl) (by kernel_rfl) (by kernel_rfl) (fun _ _ _ h => h) (Or.inl ⟨by rfl, ?_⟩) B0 ?_
  rotate_left 1
  · intro W hSW; clear hSW; go_simp; try with_reducible rfl
  simp only [List.getElem_toArray, List.getElem_cons_zero, List.getElem_cons_succ, Act.put, List.setIfInBounds_toArray, List.set_cons_zero, List.set_cons_succ]
  refine wpAnyH_take (i := 2) (v := ?_) rfl (by kernel_rfl) (by kernel_rfl) (by kernel_rfl) (fun _ _ _ h => h) (Or.inl ⟨by rfl, ?_⟩) B0 ?_
  rotate_left 1
  · intro W hSW; clear hSW; go_simp; try with_reducible rfl
  simp only [List.getElem_toArray, List.getElem_cons_zero, List.getElem_cons_succ, Act.put, List.setIfInBounds_toArray, List.set_cons_zero, List.set_cons_succ]
  refine wpAnyH_take (i := 3) (v := ?_) rfl (by kernel_rfl) (by kernel_rfl) (by kernel_rfl) (fun _ _ _ h => h) (Or.inl ⟨by rfl, ?_⟩) B0 ?_
  rotate_left 1
  · intro W hSW; have cW := hcell W hSW; clear hSW; go_simp; try with_reducible rfl
  simp only [List.getElem_toArray, List.getElem_cons_zero, List.getElem_cons_succ, Act.put, List.setIfInBounds_toArray, List.set_cons_zero, List.set_cons_succ]
  refine wpAnyH_take (i := 4) (v := ?_) rfl (by kernel_rfl) (by kernel_rfl) (by kernel_rfl) (fun _ _ _ h => h) (Or.inl ⟨by rfl, ?_⟩) B0 ?_
  rotate_left 1
  · intro W hSW; clear hSW; go_simp; try with_reducible rfl
  simp only [List.getElem_toArray, List.getElem_cons_zero, List.getElem_cons_succ, Act.put, List.setIfInBounds_toArray, List.set_cons_zero, List.set_cons_succ]
  refine wpAnyH_take (i := 5) (v := ?_) rfl (by kernel_rfl) (by kernel_rfl) (by kernel_rfl) (fun _ _ _ h => h) (Or.inl ⟨by rfl, ?_⟩) B0 ?_
  rotate_left 1
  · intro W hSW; clear hSW; go_simp; try with_reducible rfl
  simp only [List.getElem_toArray, List.getElem_cons_zero, List.getElem_cons_succ, Act.put, List.setIfInBounds_toArray, List.set_cons_zero, List.set_cons_succ]
  refine wpAnyH_take (i := 6) (v := ?_) rfl (by kernel_rfl) (by kernel_rfl) (by kernel_rfl) (fun _ _ _ h => h) (Or.inl ⟨by rfl, ?_⟩) B0 ?_
  rotate_left 1
  · intro W hSW; clear hSW; go_simp; try with_reducible rfl
  simp only [List.getElem_toArray, List.getElem_cons_zero, List.getElem_cons_succ, Act.put, List.setIfInBounds_toArray, List.set_cons_zero, List.set_cons_succ]
  refine wpAnyH_take (i := 7) (v := ?_) rfl (by kernel_rfl) (by kernel_rfl) (by kernel_rfl) (fun _ _ _ h => h) (Or.inl ⟨by rfl, ?_⟩) B0 ?_
  rotate_left 1
  · intro W hSW; clear hSW; go_simp; try with_reducible rfl
  simp only [List.getElem_toArray, List.getElem_cons_zero, List.getElem_cons_succ, Act.put, List.setIfInBounds_toArray, List.set_cons_zero, List.set_cons_succ]
  refine wpAnyH_take (i := 8) (v := ?_) rfl (by kernel_rfl) (by kernel_rfl) (by kernel_rfl) (fun _ _ _ h => h) (Or.inl ⟨by rfl, ?_⟩) B0 ?_
  rotate_left 1
  · intro W hSW; clear hSW; go_simp; try with_reducible rfl
  simp only [List.getElem_toArray, List.getElem_cons_zero, List.getElem_cons_succ, Act.put, List.setIfInBounds_toArray, List.set_cons_zero, List.set_cons_succ]
  refine wpAnyH_take (i := 10) (v := ?_) rfl (by kernel_rfl) (by kernel_rfl) (by kernel_rfl) (fun _ _ _ h => h) (Or.inl ⟨by rfl, ?_⟩) B0 ?_
  rotate_left 1
  · intro W hSW; clear hSW; go_simp; try with_reducible rfl
  simp only [List.getElem_toArray, List.getElem_cons_zero, List.getElem_cons_succ, Act.put, List.setIfInBounds_toArray, List.set_cons_zero, List.set_cons_succ]
  refine wpAnyH_ready (rs := [9]) (by kernel_rfl) (by simp) ?_
  refine AllReadyH.cons rfl (fun K' hK' => ?_) AllReadyH.nil
  rw [if_pos (by rfl)]
  go_simp
  have hb8 : Below w7.heap.size w7 (w7.drew.alloc (.cells #[.string R] 9)) := (Below.refl _ _).drew.alloc (Nat.le_refl _) _
  have hBw8 : Below w3.heap.size w3 (w7.drew.alloc (.cells #[.string R] 9)) := hBw7.trans (hb8.mono hBw7.size)
  have ho8 : (w7.drew.alloc (.cells #[.string R] 9)).ownsRow w7.heap.size 9 1 (.slice (some ⟨w7.heap.size, 0, none⟩) 1 1) 1 [.string R] := World.ownsRow_lit w7.drew #[.string R] 1 (Nat.le_refl _) (by unfold maxLen; omega) rfl
  refine hK'.out _ _ hBw8 (fun _ => ?_)
  clear hK' K'
  try simp only [List.getElem_toArray, List.getElem_cons_zero, List.getElem_cons_succ, Act.put, List.setIfInBounds_toArray, List.set_cons_zero, List.set_cons_succ]
  refine wpAnyH_ready (rs := [11]) (by kernel_rfl) (by simp) ?_
  refine AllReadyH.cons rfl (fun K' hK' => ?_) AllReadyH.nil
  rw [if_pos (by rfl)]
  refine wp_append_texts (.tmp 88) (.tmp 89) rfl w7.heap.size (.slice (some ⟨w7.heap.size, 0, none⟩) 1 1) 1 [.string R] rfl ho8 _ F rfl w2.heap.size (HPW.out _ hBw8) (by omega) (by simp) ?_
  intro ao9 m9 cap9 w9 hm9 ho9 hgr9
  have hBw9 : Below w3.heap.size w3 w9 := hBw8.trans ((Below.refl _ _).grown hgr9 hBw8.size (fun q hq => by have := (ho8.lt q hq).1; have := hBw7.size; omega))
  have hl9 : LeafAt w9 (.slice ao9 m9 cap9) (R :: F) := by
    have e : m9 = (R :: F).length := by have := hm9.out; simp; omega
    subst e
    exact leaf_own ho9
  refine hK'.out _ _ hBw9 (fun _ => ?_)
  clear hK' K'
  try simp only [List.getElem_toArray, List.getElem_cons_zero, List.getElem_cons_succ, Act.put, List.setIfInBounds_toArray, List.set_cons_zero, List.set_cons_succ]
  refine wpAnyH_ready (rs := [12]) (by kernel_rfl) (by simp) ?_
  refine AllReadyH.cons rfl (fun K' hK' => ?_) AllReadyH.nil
  rw [if_pos (by rfl)]
  go_simp
  have hch := HCHK.out s R (R :: F) _ w9 hBw9 (by omega) (by simp; omega) hl9
  have hno : inclOk K s k N R (R :: F) = false := by
    have := ok_len K ls k s R (R :: F) (by have := hls.out.1; omega) (by rw [← HF.out]; simp)
    rw [hls.out.1] at this
    exact this
  rw [hno] at hch
  refine hch.mono ?_
  rintro e w10 ⟨rfl, hb10⟩
  have hBw10 : Below w3.heap.size w3 w10 := hBw9.trans (hb10.mono hBw9.size)
  rw [show chkV false = .iface 34 (.int .i64 14) from rfl]
  refine hK'.out _ _ hBw10 (fun _ => ?_)
  clear hK' K'
  try simp only [List.getElem_toArray, List.getElem_cons_zero, List.getElem_cons_succ, Act.put, List.setIfInBounds_toArray, List.set_cons_zero, List.set_cons_succ]
  refine wpAnyH_ready (rs := [13]) (by kernel_rfl) (by simp) ?_
  refine AllReadyH.cons rfl (fun K' hK' => ?_) AllReadyH.nil
  rw [if_pos (by rfl)]
  go_simp
  refine hK'.out _ _ hBw10 (fun _ => ?_)
  clear hK' K'
  try simp only [List.getElem_toArray, List.getElem_cons_zero, List.getElem_cons_succ, Act.put, List.setIfInBounds_toArray, List.set_cons_zero, List.set_cons_succ]
  refine ⟨by kernel_rfl, ?_⟩
  refine NoPanic.normal ?_
  try simp only [List.getElem_toArray, List.getElem_cons_zero, List.getElem_cons_succ, Act.put, List.setIfInBounds_toArray, List.set_cons_zero, List.set_cons_succ]
  clear hch hno hb8 hb10 hcell ho8 ho9 hgr9 hl9
  have hcbl := HCBL.out
  have hc10 := HCELL.out w10 hBw10
  cases bl
  · obtain rfl : Value.iface 34 (.int .i64 14) = vbl := hcbl
    clear HCBL
    by_cases hF0 : F.length = 0
    · have f1 : ¬ (0 : Int) < (F.length : Int) := by omega
      generalize F.length = M at *
      go_wp2_with fail
      go_ret
      have hB10 := hB3.trans (hBw10.mono hB3.size)
      exact ⟨rfl, hB10⟩
    · have f1 : (0 : Int) < (F.length : Int) := by omega
      have hp10 := HPW.out w10 hBw10
      obtain ⟨g2, hg2⟩ : ∃ g2, ao2 = some ⟨g2, 0, none⟩ := by
        rcases hp10.2 with ⟨_, e⟩ | ⟨g', cap', cur, e, _⟩
        · omega
        · exact ⟨g', by injection e⟩
      subst hg2
      have hcap2 : F.length ≤ cap2 := by
        rcases hp10.2 with ⟨_, e⟩ | ⟨g', cap', cur, e, _, _, h, _⟩
        · omega
        · injection e with _ _ e3; omega
      go_wp2_with fail
      refine (pick_ex at' F.length a0 a1 (by omega) (by omega) w10).mono ?_
      rintro e wx ⟨j, hje, hj, hwx⟩
      subst hje
      obtain rfl : w10 = wx := hwx.symm
      clear hwx
      have hjF : j < F.length := by omega
      obtain ⟨u, hu⟩ : ∃ u, F[j]? = some u := ⟨_, List.getElem?_eq_getElem hjF⟩
      have hu32 : u.size = 32 := HF32.out u (List.mem_of_getElem? hu)
      have HU : Hid (F[j]? = some u) := hu
      have HP10 : Hid (w10.ownsRow w2.heap.size 9 1 (.slice (some ⟨g2, 0, none⟩) F.length cap2) F.length (F.map .string)) := hp10
      have j0 : (0 : Int) ≤ (j : Int) := by omega
      clear hu hp10 hc10
      obtain ⟨M, hM⟩ : ∃ M, M = F.length := ⟨_, rfl⟩
      have HM : Hid (M = F.length) := hM
      have HP2 : Hid (w10.ownsRow w2.heap.size 9 1 (.slice (some ⟨g2, 0, none⟩) M cap2) F.length (F.map .string)) := by rw [hM]; exact HP10.out
      rw [← hM] at hjF hj hcap2 f1 hFl hF0 ⊢
      clear hM
      go_wp2_with (refine wpList_append_texts rfl _ _ rfl w10.heap.size (.slice none 0 0) 0 [] rfl (World.ownsRow_nil _ _ _ _) _ F rfl w2.heap.size HP2.out (by have := HM.out; omega) (Nat.le_refl _) ?_
                   intro ao12 m12 cap12 w12 hm12 ho12 hgr12
                   have em : m12 = M := by have := hm12.out; have := HM.out; omega
                   subst em
                   obtain ⟨g12, hg12⟩ : ∃ g12, ao12 = some ⟨g12, 0, none⟩ := by
                     rcases ho12.2 with ⟨_, e⟩ | ⟨g', cap', cur, e, _⟩
                     · omega
                     · exact ⟨g', by injection e⟩
                   subst hg12
                   have cq : w12.cell? ⟨g12, j, none⟩ = some (.string u) := by rw [ho12.cellAt j (by omega)]; simp only [List.nil_append]; rw [List.getElem?_map, HU.out]; rfl)
      have hb12 : Below w10.heap.size w10 w12 := (Below.refl _ _).grown hgr12 (Nat.le_refl _) (fun q hq => by cases hq)
      have hBw12 : Below w3.heap.size w3 w12 := hBw10.trans (hb12.mono hBw10.size)
      refine (turned_other u at' w12 (by omega) (by omega) a0 a1).mono ?_
      rintro e w13 ⟨u', rfl, hu', hb13⟩
      have hBw13 : Below w3.heap.size w3 w13 := hBw12.trans (hb13.mono hBw12.size)
      have ho13 := own_below' ho12 hb13
      have cq13 : w13.cell? ⟨g12, j, none⟩ = some (.string u) := by rw [ho13.cellAt j (by omega)]; simp only [List.nil_append]; rw [List.getElem?_map, HU.out]; rfl
      have fq13 : w13.frozen? ⟨g12, j, none⟩ = false := ho13.frozenAt j
      have hg12 := (ho13.lt g12 rfl).1
      have hBw14 : Below w3.heap.size w3 (w13.setCell ⟨g12, j, none⟩ (.string u')) := hBw13.setCell (p := ⟨g12, j, none⟩) (by show w3.heap.size ≤ g12; have := hBw10.size; omega) _
      have hc14 := HCELL.out _ hBw14
      have ho14 := (ho13.stored j (.string u')).1
      have hq14 : LeafAt (w13.setCell ⟨g12, j, none⟩ (.string u')) (.slice (some ⟨g12, 0, none⟩) m12 cap12) (F.set j u') := by
        have e : m12 = (F.set j u').length := by rw [List.length_set]; exact HM.out
        have h := ho14
        rw [List.nil_append, ← List.map_set, e] at h
        have := leaf_own h
        rw [← e] at this
        exact this
      clear cq ho12 ho13 hgr12 hb13 ho14 hm12
      go_wp2_with fail
      have hch := HCHK.out s R (F.set j u') _ _ hBw14 (by omega) (by rw [List.length_set]; have := HM.out; omega) hq14
      obtain ⟨bb, hbb⟩ : ∃ bb, bb = inclOk K s k N R (F.set j u') := ⟨_, rfl⟩
      rw [← hbb] at hch
      have HBB : Hid (bb = inclOk K s k N R (F.set j u')) := hbb
      clear hbb
      refine hch.mono ?_
      rintro e w15 ⟨rfl, hb15⟩
      have hBw15 : Below w3.heap.size w3 w15 := hBw14.trans (hb15.mono hBw14.size)
      have hq15 : LeafAt w15 (.slice (some ⟨g12, 0, none⟩) m12 cap12) (F.set j u') := hq14.below hb15
      have HQ15 : Hid (LeafAt w15 (.slice (some ⟨g12, 0, none⟩) m12 cap12) (F.set j u')) := hq15
      clear hch hc14 hq14 hq15 cq13 fq13
      generalize hcbb : chkV bb = vbb at *
      have HCBB : Hid (chkV bb = vbb) := hcbb
      clear hcbb
      have hFne : Hid (F.set j u' ≠ F) := by
        intro e
        have h1 := congrArg (fun l : List ByteArray => l[j]?) e
        simp only [HU.out] at h1
        rw [List.getElem?_set_self (by have := HM.out; omega)] at h1
        exact hu'.out.2 (Option.some.inj h1)
      by_cases hc1 : cap2 = 1
      · obtain rfl : m12 = 1 := by omega
        subst hc1
        have lD : ∀ W, Below w3.heap.size w3 W → LeafAt W (.slice (some ⟨g2, 0, none⟩) 0 0) (F.drop 1) := fun W hb => Or.inl ⟨List.drop_eq_nil_of_le (by have := HM.out; omega), _, _, rfl⟩
        have LD : Hid (∀ W, Below w3.heap.size w3 W → LeafAt W (.slice (some ⟨g2, 0, none⟩) 0 0) (F.drop 1)) := lD
        clear lD
        go_wp2_with fail
        have hcell := HCELL.out
        have B0 : Below w3.heap.size w3 w15.drew := hBw15.drew
        refine wp_region_noPanic ?_
        refine wp_region_held_drew (S := fun w' => Below w3.heap.size w3 w') (by kernel_rfl) B0 (fun _ => ?_)
        refine wpAnyH_take (i := 0) (v := ?_) rfl (by kernel_rfl) (by kernel_rfl) (by kernel_rfl) (fun _ _ _ h => h) (Or.inl ⟨by rfl, ?_⟩) B0 ?_
        rotate_left 1
        · intro W hSW; clear hSW; go_simp; try with_reducible rfl
        simp only [List.getElem_toArray, List.getElem_cons_zero, List.getElem_cons_succ, Act.put, List.setIfInBounds_toArray, List.set_cons_zero, List.set_cons_succ]
        refine wpAnyH_take (i := 1) (v := ?_) rfl (by kernel_rfl) (by kernel_rfl) (by kernel_rfl) (fun _ _ _ h => h) (Or.inl ⟨by rfl, ?_⟩) B0 ?_
        rotate_left 1
        · intro W hSW; clear hSW; go_simp; try with_reducible rfl
        simp only [List.getElem_toArray, List.getElem_cons_zero, List.getElem_cons_succ, Act.put, List.setIfInBounds_toArray, List.set_cons_zero, List.set_cons_succ]
        refine wpAnyH_take (i := 2) (v := ?_) rfl (by kernel_rfl) (by kernel_rfl) (by kernel_rfl) (fun _ _ _ h => h) (Or.inl ⟨by rfl, ?_⟩) B0 ?_
        rotate_left 1
        · intro W hSW; clear hSW; go_simp; try with_reducible rfl
        simp only [List.getElem_toArray, List.getElem_cons_zero, List.getElem_cons_succ, Act.put, List.setIfInBounds_toArray, List.set_cons_zero, List.set_cons_succ]
        refine wpAnyH_take (i := 3) (v := ?_) rfl (by kernel_rfl) (by kernel_rfl) (by kernel_rfl) (fun _ _ _ h => h) (Or.inl ⟨by rfl, ?_⟩) B0 ?_
        rotate_left 1
        · intro W hSW; have cW := hcell W hSW; clear hSW; go_simp; try with_reducible rfl
        simp only [List.getElem_toArray, List.getElem_cons_zero, List.getElem_cons_succ, Act.put, List.setIfInBounds_toArray, List.set_cons_zero, List.set_cons_succ]
        refine wpAnyH_take (i := 4) (v := ?_) rfl (by kernel_rfl) (by kernel_rfl) (by kernel_rfl) (fun _ _ _ h => h) (Or.inl ⟨by rfl, ?_⟩) B0 ?_
        rotate_left 1
        · intro W hSW; clear hSW; go_simp; try with_reducible rfl
        simp only [List.getElem_toArray, List.getElem_cons_zero, List.getElem_cons_succ, Act.put, List.setIfInBounds_toArray, List.set_cons_zero, List.set_cons_succ]
        refine wpAnyH_take (i := 5) (v := ?_) rfl (by kernel_rfl) (by kernel_rfl) (by kernel_rfl) (fun _ _ _ h => h) (Or.inl ⟨by rfl, ?_⟩) B0 ?_
        rotate_left 1
        · intro W hSW; clear hSW; go_simp; try with_reducible rfl
        simp only [List.getElem_toArray, List.getElem_cons_zero, List.getElem_cons_succ, Act.put, List.setIfInBounds_toArray, List.set_cons_zero, List.set_cons_succ]
        refine wpAnyH_take (i := 6) (v := ?_) rfl (by kernel_rfl) (by kernel_rfl) (by kernel_rfl) (fun _ _ _ h => h) (Or.inl ⟨by rfl, ?_⟩) B0 ?_
        rotate_left 1
        · intro W hSW; clear hSW; go_simp; try with_reducible rfl
        simp only [List.getElem_toArray, List.getElem_cons_zero, List.getElem_cons_succ, Act.put, List.setIfInBounds_toArray, List.set_cons_zero, List.set_cons_succ]
        refine wpAnyH_take (i := 7) (v := ?_) rfl (by kernel_rfl) (by kernel_rfl) (by kernel_rfl) (fun _ _ _ h => h) (Or.inl ⟨by rfl, ?_⟩) B0 ?_
        rotate_left 1
        · intro W hSW; clear hSW; go_simp; try with_reducible rfl
        simp only [List.getElem_toArray, List.getElem_cons_zero, List.getElem_cons_succ, Act.put, List.setIfInBounds_toArray, List.set_cons_zero, List.set_cons_succ]
        refine wpAnyH_take (i := 8) (v := ?_) rfl (by kernel_rfl) (by kernel_rfl) (by kernel_rfl) (fun _ _ _ h => h) (Or.inl ⟨by rfl, ?_⟩) B0 ?_
        rotate_left 1
        · intro W hSW; clear hSW; go_simp; try with_reducible rfl
        simp only [List.getElem_toArray, List.getElem_cons_zero, List.getElem_cons_succ, Act.put, List.setIfInBounds_toArray, List.set_cons_zero, List.set_cons_succ]
        refine wpAnyH_take (i := 9) (v := ?_) rfl (by kernel_rfl) (by kernel_rfl) (by kernel_rfl) (fun _ _ _ h => h) (Or.inl ⟨by rfl, ?_⟩) B0 ?_
        rotate_left 1
        · intro W hSW; clear hSW; go_simp; try with_reducible rfl
        simp only [List.getElem_toArray, List.getElem_cons_zero, List.getElem_cons_succ, Act.put, List.setIfInBounds_toArray, List.set_cons_zero, List.set_cons_succ]
        refine wpAnyH_ready (rs := [10]) (by kernel_rfl) (by simp) ?_
        refine AllReadyH.cons rfl (fun K' hK' => ?_) AllReadyH.nil
        rw [if_pos (by rfl)]
        go_simp
        have hch := HCHK.out s R (F.drop 1) _ w15.drew B0 (by omega) (by simp; have := HM.out; omega) (LD.out _ B0)
        have hno : inclOk K s k N R (F.drop 1) = false := by
          have := ok_len K ls k s R (F.drop 1) (by have := hls.out.1; omega) (by rw [← HF.out]; have := HM.out; simp; omega)
          rw [hls.out.1] at this
          exact this
        rw [hno] at hch
        refine hch.mono ?_
        rintro e w16 ⟨rfl, hb16⟩
        have hBw16 : Below w3.heap.size w3 w16 := B0.trans (hb16.mono B0.size)
        have hq16 : LeafAt w16 (.slice (some ⟨g12, 0, none⟩) 1 cap12) (F.set j u') := (HQ15.out.below ((Below.refl _ _).drew)).below hb16
        rw [show chkV false = .iface 34 (.int .i64 14) from rfl]
        refine hK'.out _ _ hBw16 (fun _ => ?_)
        clear hK' K'
        try simp only [List.getElem_toArray, List.getElem_cons_zero, List.getElem_cons_succ, Act.put, List.setIfInBounds_toArray, List.set_cons_zero, List.set_cons_succ]
        refine wpAnyH_ready (rs := [11]) (by kernel_rfl) (by simp) ?_
        refine AllReadyH.cons rfl (fun K' hK' => ?_) AllReadyH.nil
        rw [if_pos (by rfl)]
        go_simp
        refine hK'.out _ _ hBw16 (fun _ => ?_)
        clear hK' K'
        try simp only [List.getElem_toArray, List.getElem_cons_zero, List.getElem_cons_succ, Act.put, List.setIfInBounds_toArray, List.set_cons_zero, List.set_cons_succ]
        refine ⟨by kernel_rfl, ?_⟩
        refine NoPanic.normal ?_
        try simp only [List.getElem_toArray, List.getElem_cons_zero, List.getElem_cons_succ, Act.put, List.setIfInBounds_toArray, List.set_cons_zero, List.set_cons_succ]
        clear hch hno hb16 hcell
        have hcbb := HCBB.out
        have hc16 := HCELL.out w16 hBw16
        have hB16 : Below w.heap.size w w16 := hB3.trans (hBw16.mono hB3.size)
        cases bb
        · obtain rfl : Value.iface 34 (.int .i64 14) = vbb := hcbb
          go_wp2_with fail
          go_ret
          exact ⟨rfl, hB16⟩
        · obtain rfl : Value.nilIface = vbb := hcbb
          go_wp2_with fail
          have hm := HMET.out s (F.set j u') _ w16 hBw16 (by omega) (by rw [List.length_set]; have := HM.out; omega) (fun b hb => by
            rcases List.mem_or_eq_of_mem_set hb with hb | rfl
            · have := HF32.out b hb; omega
            · have := hu'.out.1; omega) hq16 HBB.out.symm (fun e => hFne.out e.2)
          refine hm.mono ?_
          rintro e w17 ⟨rfl, hb17⟩
          clear hm
          go_wp2_with fail
          go_ret
          exact ⟨rfl, hB16.trans (hb17.mono hB16.size)⟩
      · have m1 : (1 : Int) ≤ (m12 : Int) := by omega
        have m2 : (m12 : Int) ≤ (cap2 : Int) := by omega
        have lD : ∀ W, Below w3.heap.size w3 W → LeafAt W (.slice (some ⟨g2, 1, none⟩) (m12 - 1) (cap2 - 1)) (F.drop 1) := fun W hb => by
          have h := HPW.out W hb
          rw [← HM.out] at h
          have hl := leaf_own (HPW.out W hb)
          rcases hl with ⟨e, _⟩ | ⟨g', off', cap', e, hcc, hce⟩
          · exfalso; have := HM.out; rw [e] at this; simp at this; omega
          · injection e with e1 e2 e3
            injection e1 with e1
            injection e1 with e4 e5 _
            subst e4 e5 e3
            have := leaf_drop (g := g2) (off := 0) (cap := cap2) (ls := F) 1 (by have := HM.out; omega) hcc hce
            rw [Nat.zero_add, ← HM.out] at this
            exact this
        have LD : Hid (∀ W, Below w3.heap.size w3 W → LeafAt W (.slice (some ⟨g2, 1, none⟩) (m12 - 1) (cap2 - 1)) (F.drop 1)) := lD
        clear lD
        go_wp2_with fail
        have hcell := HCELL.out
        have B0 : Below w3.heap.size w3 w15.drew := hBw15.drew
        refine wp_region_noPanic ?_
        refine wp_region_held_drew (S := fun w' => Below w3.heap.size w3 w') (by kernel_rfl) B0 (fun _ => ?_)
        refine wpAnyH_take (i := 0) (v := ?_) rfl (by kernel_rfl) (by kernel_rfl) (by kernel_rfl) (fun _ _ _ h => h) (Or.inl ⟨by rfl, ?_⟩) B0 ?_
        rotate_left 1
        · intro W hSW; clear hSW; go_simp; try with_reducible rfl
        simp only [List.getElem_toArray, List.getElem_cons_zero, List.getElem_cons_succ, Act.put, List.setIfInBounds_toArray, List.set_cons_zero, List.set_cons_succ]
        refine wpAnyH_take (i := 1) (v := ?_) rfl (by kernel_rfl) (by kernel_rfl) (by kernel_rfl) (fun _ _ _ h => h) (Or.inl ⟨by rfl, ?_⟩) B0 ?_
        rotate_left 1
        · intro W hSW; clear hSW; go_simp; try with_reducible rfl
        simp only [List.getElem_toArray, List.getElem_cons_zero, List.getElem_cons_succ, Act.put, List.setIfInBounds_toArray, List.set_cons_zero, List.set_cons_succ]
        refine wpAnyH_take (i := 2) (v := ?_) rfl (by kernel_rfl) (by kernel_rfl) (by kernel_rfl) (fun _ _ _ h => h) (Or.inl ⟨by rfl, ?_⟩) B0 ?_
        rotate_left 1
        · intro W hSW; clear hSW; go_simp; try with_reducible rfl
        simp only [List.getElem_toArray, List.getElem_cons_zero, List.getElem_cons_succ, Act.put, List.setIfInBounds_toArray, List.set_cons_zero, List.set_cons_succ]
        refine wpAnyH_take (i := 3) (v := ?_) rfl (by kernel_rfl) (by kernel_rfl) (by kernel_rfl) (fun _ _ _ h => h) (Or.inl ⟨by rfl, ?_⟩) B0 ?_
        rotate_left 1
        · intro W hSW; have cW := hcell W hSW; clear hSW; go_simp; try with_reducible rfl
        simp only [List.getElem_toArray, List.getElem_cons_zero, List.getElem_cons_succ, Act.put, List.setIfInBounds_toArray, List.set_cons_zero, List.set_cons_succ]
        refine wpAnyH_take (i := 4) (v := ?_) rfl (by kernel_rfl) (by kernel_rfl) (by kernel_rfl) (fun _ _ _ h => h) (Or.inl ⟨by rfl, ?_⟩) B0 ?_
        rotate_left 1
        · intro W hSW; clear hSW; go_simp; try with_reducible rfl
        simp only [List.getElem_toArray, List.getElem_cons_zero, List.getElem_cons_succ, Act.put, List.setIfInBounds_toArray, List.set_cons_zero, List.set_cons_succ]
        refine wpAnyH_take (i := 5) (v := ?_) rfl (by kernel_rfl) (by kernel_rfl) (by kernel_rfl) (fun _ _ _ h => h) (Or.inl ⟨by rfl, ?_⟩) B0 ?_
        rotate_left 1
        · intro W hSW; clear hSW; go_simp; try with_reducible rfl
        simp only [List.getElem_toArray, List.getElem_cons_zero, List.getElem_cons_succ, Act.put, List.setIfInBounds_toArray, List.set_cons_zero, List.set_cons_succ]
        refine wpAnyH_take (i := 6) (v := ?_) rfl (by kernel_rfl) (by kernel_rfl) (by kernel_rfl) (fun _ _ _ h => h) (Or.inl ⟨by rfl, ?_⟩) B0 ?_
        rotate_left 1
        · intro W hSW; clear hSW; go_simp; try with_reducible rfl
        simp only [List.getElem_toArray, List.getElem_cons_zero, List.getElem_cons_succ, Act.put, List.setIfInBounds_toArray, List.set_cons_zero, List.set_cons_succ]
        refine wpAnyH_take (i := 7) (v := ?_) rfl (by kernel_rfl) (by kernel_rfl) (by kernel_rfl) (fun _ _ _ h => h) (Or.inl ⟨by rfl, ?_⟩) B0 ?_
        rotate_left 1
        · intro W hSW; clear hSW; go_simp; try with_reducible rfl
        simp only [List.getElem_toArray, List.getElem_cons_zero, List.getElem_cons_succ, Act.put, List.setIfInBounds_toArray, List.set_cons_zero, List.set_cons_succ]
        refine wpAnyH_take (i := 8) (v := ?_) rfl (by kernel_rfl) (by kernel_rfl) (by kernel_rfl) (fun _ _ _ h => h) (Or.inl ⟨by rfl, ?_⟩) B0 ?_
        rotate_left 1
        · intro W hSW; clear hSW; go_simp; try with_reducible rfl
        simp only [List.getElem_toArray, List.getElem_cons_zero, List.getElem_cons_succ, Act.put, List.setIfInBounds_toArray, List.set_cons_zero, List.set_cons_succ]
        refine wpAnyH_take (i := 9) (v := ?_) rfl (by kernel_rfl) (by kernel_rfl) (by kernel_rfl) (fun _ _ _ h => h) (Or.inl ⟨by rfl, ?_⟩) B0 ?_
        rotate_left 1
        · intro W hSW; clear hSW; go_simp; try with_reducible rfl
        simp only [List.getElem_toArray, List.getElem_cons_zero, List.getElem_cons_succ, Act.put, List.setIfInBounds_toArray, List.set_cons_zero, List.set_cons_succ]
        refine wpAnyH_ready (rs := [10]) (by kernel_rfl) (by simp) ?_
        refine AllReadyH.cons rfl (fun K' hK' => ?_) AllReadyH.nil
        rw [if_pos (by rfl)]
        go_simp
        have hch := HCHK.out s R (F.drop 1) _ w15.drew B0 (by omega) (by simp; have := HM.out; omega) (LD.out _ B0)
        have hno : inclOk K s k N R (F.drop 1) = false := by
          have := ok_len K ls k s R (F.drop 1) (by have := hls.out.1; omega) (by rw [← HF.out]; have := HM.out; simp; omega)
          rw [hls.out.1] at this
          exact this
        rw [hno] at hch
        refine hch.mono ?_
        rintro e w16 ⟨rfl, hb16⟩
        have hBw16 : Below w3.heap.size w3 w16 := B0.trans (hb16.mono B0.size)
        have hq16 : LeafAt w16 (.slice (some ⟨g12, 0, none⟩) m12 cap12) (F.set j u') := (HQ15.out.below ((Below.refl _ _).drew)).below hb16
        rw [show chkV false = .iface 34 (.int .i64 14) from rfl]
        refine hK'.out _ _ hBw16 (fun _ => ?_)
        clear hK' K'
        try simp only [List.getElem_toArray, List.getElem_cons_zero, List.getElem_cons_succ, Act.put, List.setIfInBounds_toArray, List.set_cons_zero, List.set_cons_succ]
        refine wpAnyH_ready (rs := [11]) (by kernel_rfl) (by simp) ?_
        refine AllReadyH.cons rfl (fun K' hK' => ?_) AllReadyH.nil
        rw [if_pos (by rfl)]
        go_simp
        refine hK'.out _ _ hBw16 (fun _ => ?_)
        clear hK' K'
        try simp only [List.getElem_toArray, List.getElem_cons_zero, List.getElem_cons_succ, Act.put, List.setIfInBounds_toArray, List.set_cons_zero, List.set_cons_succ]
        refine ⟨by kernel_rfl, ?_⟩
        refine NoPanic.normal ?_
        try simp only [List.getElem_toArray, List.getElem_cons_zero, List.getElem_cons_succ, Act.put, List.setIfInBounds_toArray, List.set_cons_zero, List.set_cons_succ]
        clear hch hno hb16 hcell
        have hcbb := HCBB.out
        have hc16 := HCELL.out w16 hBw16
        have hB16 : Below w.heap.size w w16 := hB3.trans (hBw16.mono hB3.size)
        cases bb
        · obtain rfl : Value.iface 34 (.int .i64 14) = vbb := hcbb
          go_wp2_with fail
          go_ret
          exact ⟨rfl, hB16⟩
        · obtain rfl : Value.nilIface = vbb := hcbb
          go_wp2_with fail
          have hm := HMET.out s (F.set j u') _ w16 hBw16 (by omega) (by rw [List.length_set]; have := HM.out; omega) (fun b hb => by
            rcases List.mem_or_eq_of_mem_set hb with hb | rfl
            · have := HF32.out b hb; omega
            · have := hu'.out.1; omega) hq16 HBB.out.symm (fun e => hFne.out e.2)
          refine hm.mono ?_
          rintro e w17 ⟨rfl, hb17⟩
          clear hm
          go_wp2_with fail
          go_ret
          exact ⟨rfl, hB16.trans (hb17.mono hB16.size)⟩
  · obtain rfl : Value.nilIface = vbl := hcbl
    clear HCBL
    go_wp2_with fail
    have hm := HMET.out (s ++ ⟨#[120]⟩) F _ w10 hBw10 (by rw [ByteArray.size_append, show (⟨#[120]⟩ : ByteArray).size = 1 from rfl]; omega) (by omega) (fun b hb => by have := HF32.out b hb; omega) (leaf_own (HPW.out w10 hBw10)) HBL.out.symm (fun e => leafx_ne s e.1)
    refine hm.mono ?_
    rintro e w11 ⟨rfl, hb11⟩
    clear hm
    go_wp2_with fail
    go_ret
    have hB10 := hB3.trans (hBw10.mono hB3.size)
    exact ⟨rfl, hB10.trans (hb11.mono hB10.size)⟩
end Go.Proofs.YteebdadnfaekmaaDoor
