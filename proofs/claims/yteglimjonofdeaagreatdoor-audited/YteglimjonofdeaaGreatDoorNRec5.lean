import Derived.Test.YteglimjonofdeaaGreatDoorNBookM
set_option linter.unusedVariables false
set_option linter.unusedSimpArgs false
namespace Go.Proofs.YteglimjonofdeaaGreatDoor
open Go.RowKit

theorem rc_built (mm : Nat) : Tryz.prog.built 284 [(2, .map (some mm))] = some (rcL 0 false mm).toArray := by kernel_rfl

set_option maxRecDepth 10000 in
set_option maxHeartbeats 2000000 in
theorem create_any (m cc : Nat) (G F : Nat → Prop) (c n o p v : Int) (t : ByteArray) (w : World) (h : RecsAt w m cc G F) (hp : 0 ≤ p ∧ p < 1000) (hv : 0 ≤ v ∧ v ≤ 8) (ht : t.size ≤ 8) (hc : cc < 900) :
    Calls Tryz.prog 181 #[.map (some m), .agg (rqCells c n o p v t).toArray] w (deedPost m cc G F w) := by
  obtain ⟨U, hU⟩ : ∃ U, U = w.alloc (.cells (rqCells c n o p v t).toArray 29) := ⟨_, rfl⟩
  obtain ⟨V, hV⟩ : ∃ V, V = U.alloc (.cells (anCells 0 0 ⟨#[]⟩).toArray 166) := ⟨_, rfl⟩
  obtain ⟨hUs, hVs, kV, rV, tV⟩ := deed_head hU hV
  have RV := h.kept kV (fun g _ => id)
  obtain ⟨u, hlook, hu⟩ := RV.map.look (t := 175) (e := 281) Tryz.underlying175 (zero_rp V) (by rw [ptr_nil]; rfl) p (by omega)
  have hcase := ptr_inv hu
  clear hu
  obtain ⟨es, clock, hb, hes⟩ := RV.map.block
  have hlen : (Builtin.len_ #[175] 3 #[.map (some m)]).run Tryz.prog V = .ok (goInt es.size) V := run_len_map (P := Tryz.prog) (w := V) (t := 175) (ty := 3) (r := m) (es := es) (clock := clock) (by kernel_rfl) hb
  have c3 : V.cell? ⟨w.heap.size, 3, none⟩ = some (.int .i64 p) := rV 3 _ rfl
  have c4 : V.cell? ⟨w.heap.size, 4, none⟩ = some (.int .i64 v) := rV 4 _ rfl
  have c5 : V.cell? ⟨w.heap.size, 5, none⟩ = some (.string t) := rV 5 _ rfl
  have HL : Hid (∀ g, G g → g < w.heap.size) := h.lts
  have HKV : Hid (Kept (fun _ => False) w V) := kV
  have HT : Hid (V.there (w.heap.size + 1) 0 3) := tV
  have HR : Hid (RecsAt V m cc G F) := RV
  obtain ⟨v0, v8⟩ := hv
  clear h kV tV RV rV
  clear hb
  rcases hcase with rfl | ⟨r, hr, rfl⟩
  · by_cases e20 : es.size = 20
    · have e20' : (es.size : Int) = 20 := by omega
      have HI := info_an 5 0 ⟨#[]⟩
      have HO := an_one 5 0 ⟨#[]⟩
      have hT : V.there (w.heap.size + 1) 0 (anCells 5 0 ⟨#[]⟩).length := HT.out
      go_enter Tryz.func181, Tryz.ntmps181
      unfold rqCells at hU
      unfold rqCells
      go_wp2_with (first
        | (rw [← hU]; clear hU)
        | (refine wpList_build_tm rfl 166 _ rfl _ (Eq.trans (congrArg (Tryz.prog.built _) (by simp [Act.eval])) (an_built1 5)) ?_)
        | (refine wpList_store_abs rfl 166 _ _ rfl (w.heap.size + 1) 0 (anCells 5 0 ⟨#[]⟩) rfl rfl hT HI HO ?_
           intro w5 hw5 hr5 _ht5 hb5
           clear _ht5)
        | (refine wpList_alloc_of rfl 166 rfl (anCells 0 0 ⟨#[]⟩).toArray alloc_an ?_; rw [← hV]; clear hV))
      exact ret_cell rfl (w.heap.size + 1) 0 (anCells 5 0 ⟨#[]⟩) _ rfl hr5 Tryz.underlying166 rfl HI rfl (deed_end (HR.out.mono (by omega)) (HKV.out.mono (fun _ _ h => h.elim)) (fun g hg => Or.inl hg) HL.out (by omega) (by omega) (by decide) hw5)
    · have e20' : ¬ (es.size : Int) = 20 := by omega
      have hmm := @run_makeMap Tryz.prog
      obtain ⟨W1, hW1⟩ : ∃ W, W = V.alloc (.map #[] 0) := ⟨_, rfl⟩
      obtain ⟨W2, hW2⟩ : ∃ W, W = W1.alloc (.cells (rcL 0 false (w.heap.size + 2)).toArray 284) := ⟨_, rfl⟩
      have hW1s : W1.heap.size = w.heap.size + 3 := by rw [hW1]; simp; omega
      have hW2s : W2.heap.size = w.heap.size + 4 := by rw [hW2]; simp; omega
      have b1 : Below V.heap.size V W1 := by rw [hW1]; exact (Below.refl _ _).alloc (Nat.le_refl _) _
      have b2 : Below W1.heap.size W1 W2 := by rw [hW2]; exact (Below.refl _ _).alloc (Nat.le_refl _) _
      have k2 : Kept (fun _ => False) V W2 := Kept.fresh (b1.trans (b2.mono (by omega)))
      have mm1 : MapOf W1 txtElem (w.heap.size + 2) 0 := by rw [hW1, ← hVs]; exact MapOf.made V txtElem
      have mm2 : MapOf W2 txtElem (w.heap.size + 2) 0 := mm1.same (b2.block _ (by omega))
      have r2 : W2.rangeAt (w.heap.size + 3) 0 (rcL 0 false (w.heap.size + 2)) := by
        have := range_new W1 (rcL 0 false (w.heap.size + 2)) 284
        rw [← hW2, hW1s] at this; exact this
      have t2 : W2.there (w.heap.size + 3) 0 3 := by
        have := there_new W1 (rcL 0 false (w.heap.size + 2)).toArray 284
        rw [← hW2, hW1s] at this; exact this
      obtain ⟨X, hrun, mX, gX⟩ := ((HR.out.kept k2 (fun g _ => id)).map.weak (R' := ptrElem (fun x => F x ∨ x = w.heap.size + 3)) (fun v z hz => ptr_mono (fun r h => Or.inl h) v z hz)).store (t := 175) (e := 281) Tryz.underlying175 (by omega) p (by omega) (.pointer (some ⟨w.heap.size + 3, 0, none⟩)) (by rw [ptr_of _ (Or.inr rfl)]; rfl)
      have kX : Kept (· = m) W2 X := Kept.grown gX (fun k e => Or.inl (by simpa using e.symm))
      have RX := HR.out.made k2 (r := w.heap.size + 3) (mm := w.heap.size + 2) (by omega) (by omega) (by omega) r2 t2 mm2 mX gX
      have hmw : m < w.heap.size := HL.out m HR.out.inM
      have hXs := kX.size
      have d3 : W2.cell? ⟨w.heap.size, 3, none⟩ = some (.int .i64 p) := (k2.cell (a := ⟨w.heap.size, 3, none⟩) (by show w.heap.size < _; omega) id).trans c3
      have d5 : X.cell? ⟨w.heap.size, 5, none⟩ = some (.string t) := (kX.cell (a := ⟨w.heap.size, 5, none⟩) (by show w.heap.size < _; omega) (by show ¬ w.heap.size = m; omega)).trans ((k2.cell (a := ⟨w.heap.size, 5, none⟩) (by show w.heap.size < _; omega) id).trans c5)
      have xv : X.cell? ⟨w.heap.size + 3, 0, none⟩ = some (.int .i64 0) := (kX.cell (a := ⟨w.heap.size + 3, 0, none⟩) (by show w.heap.size + 3 < _; omega) (by show ¬ w.heap.size + 3 = m; omega)).trans (r2 0 _ rfl)
      have KX : Hid (Kept G w X) := ((HKV.out.mono (fun _ _ h => h.elim)).trans k2 (fun _ _ h => h.elim)).trans kX (fun g _ e => by subst e; exact HR.out.inM)
      have TX : Hid (X.there (w.heap.size + 1) 0 3) := there_kept (there_kept HT.out k2 (by omega) id) kX (by omega) (by show ¬ w.heap.size + 1 = m; omega)
      have hadd := radd_any m (cc + 1) (w.heap.size + 3) _ _ 0 t X RX (Or.inr rfl) xv (by omega) ht (by omega)
      have hbr := rc_built (w.heap.size + 2)
      clear b1 b2 k2 mm1 mm2 r2 t2 mX gX kX RX xv
      go_enter Tryz.func181, Tryz.ntmps181
      unfold rqCells at hU
      unfold rqCells
      go_wp2_with (first
        | (rw [← hU]; clear hU)
        | (rw [← hW1]; clear hW1)
        | (refine wpList_build_tm rfl 284 _ rfl _ (Eq.trans (congrArg (Tryz.prog.built _) (by simp [Act.eval])) hbr) ?_)
        | (rw [← hW2]; clear hW2)
        | (refine wpList_alloc_of rfl 166 rfl (anCells 0 0 ⟨#[]⟩).toArray alloc_an ?_; rw [← hV]; clear hV))
      refine hadd.mono ?_
      rintro e Y ⟨rfl, RY, kY⟩
      have HKY : Hid (Kept G w Y) := KX.out.trans kY (fun g hg h => by rcases h with h | rfl | rfl; exact h; omega; omega)
      have HRY : Hid (RecsAt Y m (cc + 2) (fun x => G x ∨ x = w.heap.size + 3 ∨ x = w.heap.size + 2) (fun x => F x ∨ x = w.heap.size + 3)) := RY
      have HTY : Hid (Y.there (w.heap.size + 1) 0 3) := there_kept TX.out kY (by have := TX.out 0 (by omega); omega) (fun hg => by rcases hg with h | h | h; have := HL.out _ h; omega; omega; omega)
      clear RY kY hadd
      have HI := info_an 0 (0 + 1) ⟨#[]⟩
      have HO := an_one 0 (0 + 1) ⟨#[]⟩
      have hT : Y.there (w.heap.size + 1) 0 (anCells 0 (0 + 1) ⟨#[]⟩).length := HTY.out
      go_wp2_with (first
        | (refine wpList_build_tm rfl 166 _ rfl _ (Eq.trans (congrArg (Tryz.prog.built _) (by simp [Act.eval])) (an_built1 0)) ?_)
        | (refine wpList_store_abs rfl 166 _ _ rfl (w.heap.size + 1) 0 (anCells 0 (0 + 1) ⟨#[]⟩) rfl rfl hT HI HO ?_
           intro w5 hw5 hr5 _ht5 hb5
           clear _ht5))
      exact ret_cell rfl (w.heap.size + 1) 0 (anCells 0 (0 + 1) ⟨#[]⟩) _ rfl hr5 Tryz.underlying166 rfl HI rfl (deed_end2 HRY.out HKY.out (fun g hg => by rcases hg with h | rfl | rfl; exact Or.inl h; exact Or.inr (by omega); exact Or.inr (by omega)) HL.out (by omega) (by omega) (by decide) hw5)
  · have HI := info_an 2 0 ⟨#[]⟩
    have HO := an_one 2 0 ⟨#[]⟩
    have hT : V.there (w.heap.size + 1) 0 (anCells 2 0 ⟨#[]⟩).length := HT.out
    go_enter Tryz.func181, Tryz.ntmps181
    unfold rqCells at hU
    unfold rqCells
    go_wp2_with (first
      | (rw [← hU]; clear hU)
      | (refine wpList_build_tm rfl 166 _ rfl _ (Eq.trans (congrArg (Tryz.prog.built _) (by simp [Act.eval])) (an_built1 2)) ?_)
      | (refine wpList_store_abs rfl 166 _ _ rfl (w.heap.size + 1) 0 (anCells 2 0 ⟨#[]⟩) rfl rfl hT HI HO ?_
         intro w5 hw5 hr5 _ht5 hb5
         clear _ht5)
      | (refine wpList_alloc_of rfl 166 rfl (anCells 0 0 ⟨#[]⟩).toArray alloc_an ?_; rw [← hV]; clear hV))
    exact ret_cell rfl (w.heap.size + 1) 0 (anCells 2 0 ⟨#[]⟩) _ rfl hr5 Tryz.underlying166 rfl HI rfl (deed_end (HR.out.mono (by omega)) (HKV.out.mono (fun _ _ h => h.elim)) (fun g hg => Or.inl hg) HL.out (by omega) (by omega) (by decide) hw5)
end Go.Proofs.YteglimjonofdeaaGreatDoor
