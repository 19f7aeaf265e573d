import Derived.Test.YtijdnpoenpjnlaaGreatDoorRDecode
set_option linter.unusedVariables false
set_option linter.unusedSimpArgs false
namespace Go.Proofs.YtijdnpoenpjnlaaGreatDoor
open Go.RowKit

/-- The reference's Decode, at whatever bytes. -/
theorem rdecode_any (s : ByteArray) (w : World) :
    Calls Tryz.prog 64 #[.string s] w fun e w' => Below w.heap.size w w' ∧ ∃ (cs : List Value) (n : Int), e = .returned (.tuple #[.agg cs.toArray, .int .i64 n]) ∧
      ((goodB s = true ∧ cs = rEv s ∧ n = 0) ∨ (goodB s = false ∧ cs = zRefL ∧ n = 9)) := by
  by_cases h : s.size = 42
  · have hb : ((s.size : Int) != 42) = false := by simp [h]
    have hlt : 0 < s.size := by omega
    by_cases hm : bAt s 0 = 69
    · have hb2 : (((s[0]'hlt).toNat : Int) != 69) = false := by rw [bAt_eq, hm]; rfl
      refine (rdecode_on s w hb hlt hb2 (by omega) (by simp [h]) (ext_at s h)).mono ?_
      rintro e w' ⟨hB, cs, n, rfl, hc⟩
      refine ⟨hB, cs, n, rfl, ?_⟩
      simpa [goodB, h, hm] using hc
    · have hb2 : (((s[0]'hlt).toNat : Int) != 69) = true := by rw [bAt_eq, bne_iff_ne]; exact hm
      refine (rdecode_head s w hb hlt hb2).mono ?_
      rintro e w' ⟨rfl, hB⟩
      exact ⟨hB, zRefL, _, rfl, Or.inr ⟨by simp [goodB, hm], rfl, rfl⟩⟩
  · refine (rdecode_short s w h).mono ?_
    rintro e w' ⟨rfl, hB⟩
    exact ⟨hB, zRefL, _, rfl, Or.inr ⟨by simp [goodB, h], rfl, rfl⟩⟩
theorem rres_len (s : ByteArray) (cs : List Value) (n : Int) (h : (goodB s = true ∧ cs = rEv s ∧ n = 0) ∨ (goodB s = false ∧ cs = zRefL ∧ n = 9)) : cs.length = zRefL.length ∧ ∀ u ∈ cs, u.oneCell' = true := by
  rcases h with ⟨_, rfl, _⟩ | ⟨_, rfl, _⟩
  · exact ⟨rfl, ref_one _ _ _ _ _ _ _⟩
  · exact ⟨rfl, ref_one _ _ _ _ _ _ _⟩
theorem dsame (t : ByteArray) (h : t.size = 32) (w : World) (d : Nat) : (Op.equalIn (d + 2) 89 (.agg (bytesV (numsOf t)).toArray) (.agg (bytesV (numsOf t)).toArray)).run Tryz.prog w = .ok true w := by
  have hl : t.data.toList.length = 32 := by rw [← Lib.size_eq]; exact h
  have := run_equalIn_bytes (P := Tryz.prog) w d 89 5 32 Tryz.underlying89 Tryz.underlying5 size_byte t.data.toList t.data.toList hl hl
  have e : (t.data.toList.map Extern.Stop.cell) = bytesV (numsOf t) := by unfold bytesV numsOf; rw [List.map_map]; rfl
  rw [e] at this
  simpa using this
theorem zsame (w : World) : (Op.equalIn 9999 89 (.agg z32.toArray) (.agg z32.toArray)).run Tryz.prog w = .ok true w := by kernel_rfl

set_option maxRecDepth 10000 in
set_option maxHeartbeats 2000000 in
theorem decoded_any (s : ByteArray) (w : World) (hg : w.cell? ⟨1, 0, none⟩ = some errTypeV) (hlt : 1 < w.heap.size) :
    Calls Tryz.prog 32 #[.string s] w fun e w' => e = .returned (.bool true) ∧ Below w.heap.size w w' := by
  have HG : Hid (w.cell? ⟨1, 0, none⟩ = some errTypeV) := hg
  clear hg
  go_enter Tryz.func32, Tryz.ntmps32
  go_wp2_with fail
  refine (adecode_any s _).mono ?_
  rintro e w1 ⟨hb1, cs, v, rfl, hc⟩
  obtain ⟨hl, hone⟩ := res_len s cs v hc
  have HC : Hid ((goodB s = true ∧ cs = fEv s ∧ v = .nilIface) ∨ (goodB s = false ∧ cs = zEvL ∧ v = .iface 138 (.int .i64 9))) := hc
  have hi : (Tryz.prog.info? 104).map (·.size) = some cs.length := by rw [hl]; exact info_zev
  have ht : (w1.alloc (.cells zEvL.toArray 104)).there w1.heap.size 0 cs.length := by rw [hl]; exact there_zev w1
  clear hc hl
  go_wp2_with (first | (refine wpList_alloc_of rfl 104 rfl zEvL.toArray alloc_ev ?_) | (refine wpList_store_abs rfl 104 _ _ rfl w1.heap.size 0 cs rfl rfl ht hi hone ?_; intro w2 _hw2 hr2 _ht2 hb2; clear _hw2 _ht2))
  have hB2 : Below w.heap.size w w2 := hb1.trans (((Below.refl _ _).alloc hb1.size _).trans (hb2 _ hb1.size))
  have hs2 : w1.heap.size < w2.heap.size := by have := (hb2 _ (Nat.le_refl _)).size; simp at this; omega
  have hs1 := hb1.size
  clear ht hb2 hb1 hone
  refine (rdecode_any s w2).mono ?_
  rintro e w3 ⟨hb3, rs, n, rfl, hc3⟩
  obtain ⟨hl3, hone3⟩ := rres_len s rs n hc3
  have HC3 : Hid ((goodB s = true ∧ rs = rEv s ∧ n = 0) ∨ (goodB s = false ∧ rs = zRefL ∧ n = 9)) := hc3
  have hi3 : (Tryz.prog.info? 59).map (·.size) = some rs.length := by rw [hl3]; exact info_ref
  have ht3 : (w3.alloc (.cells zRefL.toArray 59)).there w3.heap.size 0 rs.length := by rw [hl3]; exact there_ref w3
  clear hc3 hl3
  go_wp2_with (first | (refine wpList_alloc_of rfl 59 rfl zRefL.toArray alloc_ref ?_) | (refine wpList_store_abs rfl 59 _ _ rfl w3.heap.size 0 rs rfl rfl ht3 hi3 hone3 ?_; intro w4 _hw4 hr4 _ht4 hb4; clear _hw4 _ht4))
  have hb34 : Below w3.heap.size w3 w4 := ((Below.refl _ _).alloc (Nat.le_refl _) _).trans (hb4 _ (Nat.le_refl _))
  have hs4 : w3.heap.size < w4.heap.size := by have := (hb4 _ (Nat.le_refl _)).size; simp at this; omega
  have hs3 := hb3.size
  have hB4 : Below w.heap.size w w4 := hB2.trans ((hb3.mono hB2.size).trans (hb34.mono (by omega)))
  have hr4e : w4.rangeAt w1.heap.size 0 cs := fun j u hu => (hb34.cell (p := ⟨w1.heap.size, 0 + j, none⟩) (by show w1.heap.size < _; omega)).trans ((hb3.cell (p := ⟨w1.heap.size, 0 + j, none⟩) hs2).trans (hr2 j u hu))
  clear ht3 hb4 hr2 hb34 hone3 hb3
  rcases HC.out with ⟨hgd, rfl, rfl⟩ | ⟨hgd, rfl, rfl⟩
  · obtain ⟨rfl, rfl⟩ : rs = rEv s ∧ n = 0 := by
      rcases HC3.out with ⟨_, h1, h2⟩ | ⟨h1, _⟩
      · exact ⟨h1, h2⟩
      · rw [hgd] at h1; cases h1
    clear HC HC3
    have h32 : (s.extract 10 s.size).size = 32 := by simp [good_len s hgd]
    refine (ltold_nil 0 w4).mono ?_
    rintro e w5 ⟨rfl, hw5⟩
    obtain rfl : w4 = w5 := hw5.symm
    clear hw5
    go_wp2_with fail
    have hdl : (numsOf (s.extract 10 s.size)).length = 32 := by rw [numsOf_length, h32]
    have es : ∀ w, (Op.equalIn 10000 104 (.agg (evCells (bAt s 1) (readI (bAt s 2) (bAt s 3) (bAt s 4) (bAt s 5)) (bAt s 6) (bAt s 7) (bAt s 8) (bAt s 9) (bytesV (numsOf (s.extract 10 s.size)))).toArray) (.agg (evCells (bAt s 1) (readI (bAt s 2) (bAt s 3) (bAt s 4) (bAt s 5)) (bAt s 6) (bAt s 7) (bAt s 8) (bAt s 9) (bytesV (numsOf (s.extract 10 s.size)))).toArray)).run Tryz.prog w = .ok true w := fun w => ev_same _ _ _ _ _ _ _ (by rw [bytesV_length, hdl]) w (fun d => dsame _ h32 w d)
    have es' : ∀ w, (Op.equal 104 (.agg (evCells (bAt s 1) (readI (bAt s 2) (bAt s 3) (bAt s 4) (bAt s 5)) (bAt s 6) (bAt s 7) (bAt s 8) (bAt s 9) (bytesV (numsOf (s.extract 10 s.size)))).toArray) (.agg (evCells (bAt s 1) (readI (bAt s 2) (bAt s 3) (bAt s 4) (bAt s 5)) (bAt s 6) (bAt s 7) (bAt s 8) (bAt s 9) (bytesV (numsOf (s.extract 10 s.size)))).toArray)).run Tryz.prog w = .ok true w := es
    have hlev : ∀ w, Calls Tryz.prog 59 #[.agg (rEv s).toArray] w fun e w' => e = .returned (.agg (evCells (bAt s 1) (readI (bAt s 2) (bAt s 3) (bAt s 4) (bAt s 5)) (bAt s 6) (bAt s 7) (bAt s 8) (bAt s 9) (bytesV (numsOf (s.extract 10 s.size)))).toArray) ∧ Below w.heap.size w w' := fun w => levent_any _ _ _ _ _ _ _ _ h32
    have hfe : fEv s = evCells (bAt s 1) (readI (bAt s 2) (bAt s 3) (bAt s 4) (bAt s 5)) (bAt s 6) (bAt s 7) (bAt s 8) (bAt s 9) (bytesV (numsOf (s.extract 10 s.size))) := rfl
    rw [hfe] at hi hr4e
    generalize evCells (bAt s 1) (readI (bAt s 2) (bAt s 3) (bAt s 4) (bAt s 5)) (bAt s 6) (bAt s 7) (bAt s 8) (bAt s 9) (bytesV (numsOf (s.extract 10 s.size))) = E at *
    clear hdl h32 hgd
    refine wp_region_noPanic ?_
    refine wp_region_held_drew (S := fun w' => Below w4.heap.size w4 w') (by kernel_rfl) ((Below.refl _ _).drew) (fun _ => ?_)
    refine wpAnyH_take (i := 0) (v := ?_) rfl (by kernel_rfl) (by kernel_rfl) (by kernel_rfl) (fun _ _ _ h => h) (Or.inl ⟨by rfl, ?_⟩) ((Below.refl _ _).drew) ?_
    rotate_left 1
    · intro w _; go_simp; try with_reducible rfl
    simp only [List.getElem_toArray, List.getElem_cons_zero, List.getElem_cons_succ, Act.put, List.setIfInBounds_toArray, List.set_cons_zero, List.set_cons_succ]
    refine wpAnyH_take (i := 1) (v := ?_) rfl (by kernel_rfl) (by kernel_rfl) (by kernel_rfl) (fun _ _ _ h => h) (Or.inl ⟨by rfl, ?_⟩) ((Below.refl _ _).drew) ?_
    rotate_left 1
    · intro w _; go_simp; try with_reducible rfl
    simp only [List.getElem_toArray, List.getElem_cons_zero, List.getElem_cons_succ, Act.put, List.setIfInBounds_toArray, List.set_cons_zero, List.set_cons_succ]
    refine wpAnyH_take (i := 2) (v := .agg E.toArray) rfl (by kernel_rfl) (by kernel_rfl) (by kernel_rfl) (fun _ _ _ h => h) (yieldsIf_load_mid (by rfl) 104 (.tmp 3) rfl w1.heap.size 0 rfl E _ (fun w' hw' j u hu => (hw'.cell (p := ⟨w1.heap.size, 0 + j, none⟩) (by show w1.heap.size < _; omega)).trans (hr4e j u hu)) Tryz.underlying104 rfl hi) ((Below.refl _ _).drew) ?_
    simp only [List.getElem_toArray, List.getElem_cons_zero, List.getElem_cons_succ, Act.put, List.setIfInBounds_toArray, List.set_cons_zero, List.set_cons_succ]
    refine wpAnyH_take (i := 3) (v := .agg (rEv s).toArray) rfl (by kernel_rfl) (by kernel_rfl) (by kernel_rfl) (fun _ _ _ h => h) (yieldsIf_load_mid (by rfl) 59 (.tmp 5) rfl w3.heap.size 0 rfl (rEv s) _ (fun w' hw' j u hu => (hw'.cell (p := ⟨w3.heap.size, 0 + j, none⟩) (by show w3.heap.size < _; omega)).trans (hr4 j u hu)) Tryz.underlying59 rfl hi3) ((Below.refl _ _).drew) ?_
    simp only [List.getElem_toArray, List.getElem_cons_zero, List.getElem_cons_succ, Act.put, List.setIfInBounds_toArray, List.set_cons_zero, List.set_cons_succ]
    refine wpAnyH_ready (rs := [4]) (by kernel_rfl) (by simp) ?_
    refine AllReadyH.cons rfl (fun K hK => ?_) AllReadyH.nil
    rw [if_pos (by rfl)]
    go_simp
    refine (hlev _).mono ?_
    rintro e w6 ⟨rfl, hb6⟩
    have hB6 : Below w4.heap.size w4 w6 := (Below.refl _ _).drew.trans (hb6.mono (by simp))
    refine hK.out _ _ hB6 (fun _ => ?_)
    clear hK K
    try simp only [List.getElem_toArray, List.getElem_cons_zero, List.getElem_cons_succ, Act.put, List.setIfInBounds_toArray, List.set_cons_zero, List.set_cons_succ]
    refine wpAnyH_take (i := 5) (v := ?_) rfl (by kernel_rfl) (by kernel_rfl) (by kernel_rfl) (fun _ _ _ h => h) (Or.inl ⟨by rfl, ?_⟩) hB6 ?_
    rotate_left 1
    · intro w _; go_simp; try with_reducible rfl
    simp only [List.getElem_toArray, List.getElem_cons_zero, List.getElem_cons_succ, Act.put, List.setIfInBounds_toArray, List.set_cons_zero, List.set_cons_succ]
    refine wpAnyH_take (i := 6) (v := ?_) rfl (by kernel_rfl) (by kernel_rfl) (by kernel_rfl) (fun _ _ _ h => h) (Or.inl ⟨by rfl, ?_⟩) hB6 ?_
    rotate_left 1
    · intro w _; go_simp; try with_reducible rfl
    simp only [List.getElem_toArray, List.getElem_cons_zero, List.getElem_cons_succ, Act.put, List.setIfInBounds_toArray, List.set_cons_zero, List.set_cons_succ]
    refine wpAnyH_ready (rs := [7]) (by kernel_rfl) (by simp) ?_
    refine AllReadyH.cons rfl (fun K hK => ?_) AllReadyH.nil
    rw [if_pos (by rfl)]
    go_simp
    refine hK.out _ _ hB6 (fun _ => ?_)
    clear hK K
    refine ⟨by kernel_rfl, ?_⟩
    refine NoPanic.normal ?_
    try simp only [List.getElem_toArray, List.getElem_cons_zero, List.getElem_cons_succ, Act.put, List.setIfInBounds_toArray, List.set_cons_zero, List.set_cons_succ]
    go_wp2_with fail
    go_ret
    exact ⟨rfl, hB4.trans (hB6.mono (by omega))⟩
  · obtain ⟨rfl, rfl⟩ : rs = zRefL ∧ n = 9 := by
      rcases HC3.out with ⟨h1, _⟩ | ⟨_, h1, h2⟩
      · rw [hgd] at h1; cases h1
      · exact ⟨h1, h2⟩
    clear HC HC3
    refine (ltold_hit 9 9 w4 ((hB4.cell (p := ⟨1, 0, none⟩) hlt).trans HG.out) (by omega)).mono ?_
    rintro e w5 ⟨rfl, hb5⟩
    have hr5 : w5.rangeAt w1.heap.size 0 zEvL := fun j v hv => (hb5.cell (p := ⟨w1.heap.size, 0 + j, none⟩) (by show w1.heap.size < _; omega)).trans (hr4e j v hv)
    have hB5 : Below w.heap.size w w5 := hB4.trans (hb5.mono (by omega))
    clear hb5 hr4e hB4 hr4
    have z0 : zEvL[0]? = some (.int .i64 0) := rfl
    have z1 : zEvL[1]? = some (.int .i64 0) := rfl
    have z2 : zEvL[2]? = some (.int .i64 0) := rfl
    have z3 : zEvL[3]? = some (.int .i64 0) := rfl
    have z4 : zEvL[4]? = some (.int .i64 0) := rfl
    have z5 : zEvL[5]? = some (.int .i64 0) := rfl
    have zx : zEvL.extract 6 38 = z32 := rfl
    have zb := zsame
    go_wp2_with (first | (refine wpList_load_wanted (by rfl) 104 (.tmp 3) rfl w1.heap.size 0 rfl zEvL _ hr5 Tryz.underlying104 rfl info_zev ?_) | (refine wpList_build_wanted (by rfl) 104 rfl zEvL.toArray build_ev ?_))
    go_ret
    exact ⟨rfl, hB5⟩
end Go.Proofs.YtijdnpoenpjnlaaGreatDoor
