import Derived.Test.YteglimjonofdeaaGreatDoorNRec5
set_option linter.unusedVariables false
set_option linter.unusedSimpArgs false
namespace Go.Proofs.YteglimjonofdeaaGreatDoor
open Go.RowKit

theorem wp_store_abs {P : Program} {op : Oper} {a : Act} {w : World} {K : Act → World → Prop} {Q : Exit → Act → World → Prop} (ty : TypeId) (x y : Operand) (ho : op.op = .store ty x y)
    (b o : Nat) (cells : List Value) (hx : a.eval x = .pointer (some ⟨b, o, none⟩)) (hy : a.eval y = .agg cells.toArray)
    (ht : w.there b o cells.length) (hi : (P.info? ty).map (·.size) = some cells.length) (h1 : ∀ u ∈ cells, u.oneCell' = true)
    (h : ∀ w', w' = w.setCells b o cells → w'.rangeAt b o cells → w'.there b o cells.length → (∀ B, B ≤ b → Below B w w') → K (a.put op.dst undef) w') : op.wp P a w K Q :=
  wp_store_mid ty x y ho b o cells.toArray hx hy (by simpa using ht) (by simpa using hi) (all_oneCell_toArray h1)
    (h _ rfl (World.rangeAt_setCells_same w b o cells ht) (World.there_setCells ht _ _ _) (fun _ hB => below_setCells hB _ _ _ (Below.refl _ _)))
/-- The deeds, by the operation's number. -/
def deedsL : List Value := [.nilFunc, .func (.func 181) #[] #[], .func (.func 182) #[] #[], .func (.func 183) #[] #[], .func (.func 184) #[] #[], .func (.func 185) #[] #[]]
theorem deeds_built : Tryz.prog.built 274 [(1, .func (.func 181) #[] #[]), (2, .func (.func 182) #[] #[]), (3, .func (.func 183) #[] #[]), (4, .func (.func 184) #[] #[]), (5, .func (.func 185) #[] #[])] = some deedsL.toArray := by kernel_rfl
theorem deeds_info : (Tryz.prog.info? 274).map (·.size) = some deedsL.length := by kernel_rfl
theorem deeds_one : ∀ u ∈ deedsL, u.oneCell' = true := by intro u hu; simp [deedsL] at hu; rcases hu with rfl | rfl | rfl | rfl | rfl | rfl <;> rfl
theorem alloc_deeds (w : World) : (Instr.alloc 274 true (.tuple #[])).run Tryz.prog w = .ok (.pointer (some ⟨w.heap.size, 0, none⟩)) (w.alloc (.cells (Array.replicate 6 .nilFunc) 274)) := by kernel_rfl
set_option maxRecDepth 10000 in
set_option maxHeartbeats 1000000 in
theorem deeds_any (w : World) : Calls Tryz.prog 179 #[] w fun e w' => e = .returned (.agg deedsL.toArray) ∧ Below w.heap.size w w' := by
  obtain ⟨V, hV⟩ : ∃ V, V = w.alloc (.cells (Array.replicate 6 .nilFunc) 274) := ⟨_, rfl⟩
  have hVs : V.heap.size = w.heap.size + 1 := by rw [hV]; simp
  have HB : Hid (Below w.heap.size w V) := by show Below _ _ _; rw [hV]; exact (Below.refl _ _).alloc (Nat.le_refl _) _
  have tV : V.there w.heap.size 0 deedsL.length := by rw [hV]; exact there_new w (Array.replicate 6 .nilFunc) _
  go_enter Tryz.func179, Tryz.ntmps179
  go_wp2_with (first
    | (refine wpList_alloc_of rfl 274 rfl (Array.replicate 6 .nilFunc) alloc_deeds ?_; rw [← hV]; clear hV)
    | (refine wpList_build_tm rfl 274 _ rfl _ (Eq.trans (congrArg (Tryz.prog.built _) (by simp [Act.eval])) deeds_built) ?_)
    | (refine wpList_store_abs rfl 274 _ _ rfl w.heap.size 0 deedsL rfl rfl tV deeds_info deeds_one ?_
       intro w5 _hw5 hr5 _ht5 hb5
       clear _hw5 _ht5))
  exact ret_cell rfl w.heap.size 0 deedsL _ rfl hr5 Tryz.underlying274 rfl deeds_info rfl ⟨rfl, HB.out.trans (hb5 w.heap.size (Nat.le_refl _))⟩
theorem info_rq (c n o p v : Int) (t : ByteArray) : (Tryz.prog.info? 29).map (·.size) = some (rqCells c n o p v t).length := by show _ = some 6; kernel_rfl

theorem ix1 (w : World) : (Instr.index 274 (.agg deedsL.toArray) (.int .i64 1)).run Tryz.prog w = .ok (.func (.func 181) #[] #[]) w := by kernel_rfl
theorem enter_create (w : World) : (callFunc 181 #[]).run Tryz.prog w = .ok (.enter 181 #[]) w := by kernel_rfl
set_option maxRecDepth 10000 in
set_option maxHeartbeats 2000000 in
theorem do_create (m cc : Nat) (G F : Nat → Prop) (c n p v : Int) (t : ByteArray) (w : World) (h : RecsAt w m cc G F) (hp : 0 ≤ p ∧ p < 1000) (hv : 0 ≤ v ∧ v ≤ 8) (ht : t.size ≤ 8) (hc : cc < 900) :
    Calls Tryz.prog 171 #[.map (some m), .agg (rqCells c n 1 p v t).toArray] w (deedPost m cc G F w) := by
  obtain ⟨U, hU⟩ : ∃ U, U = w.alloc (.cells (rqCells c n 1 p v t).toArray 29) := ⟨_, rfl⟩
  obtain ⟨V, hV⟩ : ∃ V, V = U.alloc (.cells (anCells 0 0 ⟨#[]⟩).toArray 166) := ⟨_, rfl⟩
  obtain ⟨hUs, hVs, kV, rV, tV⟩ := deed_head hU hV
  have RV := h.kept kV (fun g _ => id)
  have HL : Hid (∀ g, G g → g < w.heap.size) := h.lts
  have HKV : Hid (Kept (fun _ => False) w V) := kV
  have HT : Hid (V.there (w.heap.size + 1) 0 3) := tV
  have HR : Hid (RecsAt V m cc G F) := RV
  have HQ : Hid ((Tryz.prog.info? 29).map (·.size) = some (rqCells c n 1 p v t).length) := info_rq c n 1 p v t
  have J0 : V.drew.rangeAt w.heap.size 0 (rqCells c n 1 p v t) := rV
  have hVV : (w.alloc (.cells (rqCells c n 1 p v t).toArray 29)).alloc (.cells #[.int .i64 0, .int .i64 0, .string ⟨#[]⟩] 166) = V := by rw [hV, hU]; rfl
  clear h kV tV RV rV hV hU
  go_enter Tryz.func171, Tryz.ntmps171
  go_wp2_with fail
  try rw [hVV]
  clear hVV
  refine wp_region_noPanic ?_
  refine wp_region_held_drew (S := fun W => W.rangeAt w.heap.size 0 (rqCells c n 1 p v t)) (by kernel_rfl) J0 (fun _ => ?_)
  refine tk 1 J0 ?_
  refine tq (i := 2) (v := ?_) rfl J0 ?_ ?_
  rotate_left 1
  · intro W hSW; have qc : W.cell? ⟨w.heap.size, 2, none⟩ = some (.int .i64 1) := hSW 2 _ rfl; clear hSW; go_simp; try with_reducible rfl
  simp only [qA, qB, qC, Act.put, qD, qE, qF]
  refine tk 4 J0 ?_
  refine wpAnyH_take (i := 5) (v := .agg (rqCells c n 1 p v t).toArray) rfl (by kernel_rfl) (by kernel_rfl) (by kernel_rfl) (fun _ _ _ h => h) (yieldsIf_load_mid (by rfl) 29 _ rfl w.heap.size 0 rfl (rqCells c n 1 p v t) _ (fun W hW => hW) Tryz.underlying29 rfl HQ.out) J0 ?_
  simp only [qA, qB, qC, Act.put, qD, qE, qF]
  refine rk 0 (fun K' hK' => ?_)
  go_simp
  refine (deeds_any V.drew).mono ?_
  rintro e W3 ⟨rfl, hb3⟩
  have k3 : Kept (fun _ => False) V W3 := (Kept.drew _ V).trans (Kept.fresh hb3) (fun _ _ h => h)
  have s3 := k3.size
  have J3 : W3.rangeAt w.heap.size 0 (rqCells c n 1 p v t) := range_kept (W := V) J0 k3 (by omega) id
  have R3 : RecsAt W3 m cc G F := HR.out.kept k3 (fun g _ => id)
  have HT3 : Hid (W3.there (w.heap.size + 1) 0 3) := there_kept HT.out k3 (by omega) id
  have HK3 : Hid (Kept (fun _ => False) w W3) := HKV.out.trans k3 (fun _ _ h => h)
  clear hb3 k3
  refine hK'.out _ _ J3 (fun _ => ?_)
  clear hK' K'
  try simp only [qA, qB, qC, Act.put, qD, qE, qF]
  refine tq (i := 3) (v := ?_) rfl J3 ?_ ?_
  rotate_left 1
  · intro W hSW; have hix := ix1; clear hSW; go_simp; try with_reducible rfl
  simp only [qA, qB, qC, Act.put, qD, qE, qF]
  refine rk 6 (fun K' hK' => ?_)
  have hent := enter_create
  go_simp
  refine (create_any m cc G F c n 1 p v t W3 R3 hp hv ht hc).mono ?_
  rintro e W4 ⟨k4, v4, t4, G', F', rfl, a1, a2, a3, R4, K4, G4⟩
  have J4 : W4.rangeAt w.heap.size 0 (rqCells c n 1 p v t) := range_kept J3 K4 (by omega) (fun hg => by have := HL.out _ hg; omega)
  have s4 := K4.size
  have HT4 : W4.there (w.heap.size + 1) 0 (anCells k4 v4 t4).length := there_kept HT3.out K4 (by omega) (fun hg => by have := HL.out _ hg; omega)
  have HK4 : Hid (Kept G w W4) := (HK3.out.mono (fun _ _ h => h.elim)).trans K4 (fun _ _ h => h)
  have HG4 : Hid (∀ g, G' g → G g ∨ w.heap.size + 2 ≤ g) := fun g hg => (G4 g hg).imp id (fun h => by omega)
  have HR4 : Hid (RecsAt W4 m (cc + 2) G' F') := R4
  clear R4 K4 G4 R3
  refine hK'.out _ _ J4 (fun _ => ?_)
  clear hK' K'
  try simp only [qA, qB, qC, Act.put, qD, qE, qF]
  refine rk 7 (fun K' hK' => ?_)
  refine wp_store_abs 166 _ _ rfl (w.heap.size + 1) 0 (anCells k4 v4 t4) rfl rfl HT4 (info_an k4 v4 t4) (an_one k4 v4 t4) ?_
  intro w5 hw5 hr5 _ht5 hb5
  have J5 : w5.rangeAt w.heap.size 0 (rqCells c n 1 p v t) := by rw [hw5]; exact World.rangeAt_setCells_apart J4 _ _ _ (Or.inl (by omega))
  clear _ht5
  refine hK'.out _ _ J5 (fun _ => ?_)
  clear hK' K'
  try simp only [qA, qB, qC, Act.put, qD, qE, qF]
  refine ⟨by kernel_rfl, ?_⟩
  refine NoPanic.normal ?_
  try simp only [qA, qB, qC, Act.put, qD, qE, qF]
  go_wp2_with fail
  exact ret_cell rfl (w.heap.size + 1) 0 (anCells k4 v4 t4) _ rfl hr5 Tryz.underlying166 rfl (info_an k4 v4 t4) rfl (deed_end2 HR4.out HK4.out HG4.out HL.out a1 a2 a3 hw5)

theorem ix2 (w : World) : (Instr.index 274 (.agg deedsL.toArray) (.int .i64 2)).run Tryz.prog w = .ok (.func (.func 182) #[] #[]) w := by kernel_rfl
theorem enter_amend (w : World) : (callFunc 182 #[]).run Tryz.prog w = .ok (.enter 182 #[]) w := by kernel_rfl
set_option maxRecDepth 10000 in
set_option maxHeartbeats 2000000 in
theorem do_amend (m cc : Nat) (G F : Nat → Prop) (c n p v : Int) (t : ByteArray) (w : World) (h : RecsAt w m cc G F) (hp : 0 ≤ p ∧ p < 1000) (hv : 0 ≤ v ∧ v ≤ 8) (ht : t.size ≤ 8) (hc : cc < 900) :
    Calls Tryz.prog 171 #[.map (some m), .agg (rqCells c n 2 p v t).toArray] w (deedPost m cc G F w) := by
  obtain ⟨U, hU⟩ : ∃ U, U = w.alloc (.cells (rqCells c n 2 p v t).toArray 29) := ⟨_, rfl⟩
  obtain ⟨V, hV⟩ : ∃ V, V = U.alloc (.cells (anCells 0 0 ⟨#[]⟩).toArray 166) := ⟨_, rfl⟩
  obtain ⟨hUs, hVs, kV, rV, tV⟩ := deed_head hU hV
  have RV := h.kept kV (fun g _ => id)
  have HL : Hid (∀ g, G g → g < w.heap.size) := h.lts
  have HKV : Hid (Kept (fun _ => False) w V) := kV
  have HT : Hid (V.there (w.heap.size + 1) 0 3) := tV
  have HR : Hid (RecsAt V m cc G F) := RV
  have HQ : Hid ((Tryz.prog.info? 29).map (·.size) = some (rqCells c n 2 p v t).length) := info_rq c n 2 p v t
  have J0 : V.drew.rangeAt w.heap.size 0 (rqCells c n 2 p v t) := rV
  have hVV : (w.alloc (.cells (rqCells c n 2 p v t).toArray 29)).alloc (.cells #[.int .i64 0, .int .i64 0, .string ⟨#[]⟩] 166) = V := by rw [hV, hU]; rfl
  clear h kV tV RV rV hV hU
  go_enter Tryz.func171, Tryz.ntmps171
  go_wp2_with fail
  try rw [hVV]
  clear hVV
  refine wp_region_noPanic ?_
  refine wp_region_held_drew (S := fun W => W.rangeAt w.heap.size 0 (rqCells c n 2 p v t)) (by kernel_rfl) J0 (fun _ => ?_)
  refine tk 1 J0 ?_
  refine tq (i := 2) (v := ?_) rfl J0 ?_ ?_
  rotate_left 1
  · intro W hSW; have qc : W.cell? ⟨w.heap.size, 2, none⟩ = some (.int .i64 2) := hSW 2 _ rfl; clear hSW; go_simp; try with_reducible rfl
  simp only [qA, qB, qC, Act.put, qD, qE, qF]
  refine tk 4 J0 ?_
  refine wpAnyH_take (i := 5) (v := .agg (rqCells c n 2 p v t).toArray) rfl (by kernel_rfl) (by kernel_rfl) (by kernel_rfl) (fun _ _ _ h => h) (yieldsIf_load_mid (by rfl) 29 _ rfl w.heap.size 0 rfl (rqCells c n 2 p v t) _ (fun W hW => hW) Tryz.underlying29 rfl HQ.out) J0 ?_
  simp only [qA, qB, qC, Act.put, qD, qE, qF]
  refine rk 0 (fun K' hK' => ?_)
  go_simp
  refine (deeds_any V.drew).mono ?_
  rintro e W3 ⟨rfl, hb3⟩
  have k3 : Kept (fun _ => False) V W3 := (Kept.drew _ V).trans (Kept.fresh hb3) (fun _ _ h => h)
  have s3 := k3.size
  have J3 : W3.rangeAt w.heap.size 0 (rqCells c n 2 p v t) := range_kept (W := V) J0 k3 (by omega) id
  have R3 : RecsAt W3 m cc G F := HR.out.kept k3 (fun g _ => id)
  have HT3 : Hid (W3.there (w.heap.size + 1) 0 3) := there_kept HT.out k3 (by omega) id
  have HK3 : Hid (Kept (fun _ => False) w W3) := HKV.out.trans k3 (fun _ _ h => h)
  clear hb3 k3
  refine hK'.out _ _ J3 (fun _ => ?_)
  clear hK' K'
  try simp only [qA, qB, qC, Act.put, qD, qE, qF]
  refine tq (i := 3) (v := ?_) rfl J3 ?_ ?_
  rotate_left 1
  · intro W hSW; have hix := ix2; clear hSW; go_simp; try with_reducible rfl
  simp only [qA, qB, qC, Act.put, qD, qE, qF]
  refine rk 6 (fun K' hK' => ?_)
  have hent := enter_amend
  go_simp
  refine (amend_any m cc G F c n 2 p v t W3 R3 hp hv ht hc).mono ?_
  rintro e W4 ⟨k4, v4, t4, G', F', rfl, a1, a2, a3, R4, K4, G4⟩
  have J4 : W4.rangeAt w.heap.size 0 (rqCells c n 2 p v t) := range_kept J3 K4 (by omega) (fun hg => by have := HL.out _ hg; omega)
  have s4 := K4.size
  have HT4 : W4.there (w.heap.size + 1) 0 (anCells k4 v4 t4).length := there_kept HT3.out K4 (by omega) (fun hg => by have := HL.out _ hg; omega)
  have HK4 : Hid (Kept G w W4) := (HK3.out.mono (fun _ _ h => h.elim)).trans K4 (fun _ _ h => h)
  have HG4 : Hid (∀ g, G' g → G g ∨ w.heap.size + 2 ≤ g) := fun g hg => (G4 g hg).imp id (fun h => by omega)
  have HR4 : Hid (RecsAt W4 m (cc + 2) G' F') := R4
  clear R4 K4 G4 R3
  refine hK'.out _ _ J4 (fun _ => ?_)
  clear hK' K'
  try simp only [qA, qB, qC, Act.put, qD, qE, qF]
  refine rk 7 (fun K' hK' => ?_)
  refine wp_store_abs 166 _ _ rfl (w.heap.size + 1) 0 (anCells k4 v4 t4) rfl rfl HT4 (info_an k4 v4 t4) (an_one k4 v4 t4) ?_
  intro w5 hw5 hr5 _ht5 hb5
  have J5 : w5.rangeAt w.heap.size 0 (rqCells c n 2 p v t) := by rw [hw5]; exact World.rangeAt_setCells_apart J4 _ _ _ (Or.inl (by omega))
  clear _ht5
  refine hK'.out _ _ J5 (fun _ => ?_)
  clear hK' K'
  try simp only [qA, qB, qC, Act.put, qD, qE, qF]
  refine ⟨by kernel_rfl, ?_⟩
  refine NoPanic.normal ?_
  try simp only [qA, qB, qC, Act.put, qD, qE, qF]
  go_wp2_with fail
  exact ret_cell rfl (w.heap.size + 1) 0 (anCells k4 v4 t4) _ rfl hr5 Tryz.underlying166 rfl (info_an k4 v4 t4) rfl (deed_end2 HR4.out HK4.out HG4.out HL.out a1 a2 a3 hw5)

theorem ix3 (w : World) : (Instr.index 274 (.agg deedsL.toArray) (.int .i64 3)).run Tryz.prog w = .ok (.func (.func 183) #[] #[]) w := by kernel_rfl
theorem enter_read (w : World) : (callFunc 183 #[]).run Tryz.prog w = .ok (.enter 183 #[]) w := by kernel_rfl
set_option maxRecDepth 10000 in
set_option maxHeartbeats 2000000 in
theorem do_read (m cc : Nat) (G F : Nat → Prop) (c n p v : Int) (t : ByteArray) (w : World) (h : RecsAt w m cc G F) (hp : 0 ≤ p ∧ p < 1000) (hv : 0 ≤ v ∧ v ≤ 8) (ht : t.size ≤ 8) (hc : cc < 900) :
    Calls Tryz.prog 171 #[.map (some m), .agg (rqCells c n 3 p v t).toArray] w (deedPost m cc G F w) := by
  obtain ⟨U, hU⟩ : ∃ U, U = w.alloc (.cells (rqCells c n 3 p v t).toArray 29) := ⟨_, rfl⟩
  obtain ⟨V, hV⟩ : ∃ V, V = U.alloc (.cells (anCells 0 0 ⟨#[]⟩).toArray 166) := ⟨_, rfl⟩
  obtain ⟨hUs, hVs, kV, rV, tV⟩ := deed_head hU hV
  have RV := h.kept kV (fun g _ => id)
  have HL : Hid (∀ g, G g → g < w.heap.size) := h.lts
  have HKV : Hid (Kept (fun _ => False) w V) := kV
  have HT : Hid (V.there (w.heap.size + 1) 0 3) := tV
  have HR : Hid (RecsAt V m cc G F) := RV
  have HQ : Hid ((Tryz.prog.info? 29).map (·.size) = some (rqCells c n 3 p v t).length) := info_rq c n 3 p v t
  have J0 : V.drew.rangeAt w.heap.size 0 (rqCells c n 3 p v t) := rV
  have hVV : (w.alloc (.cells (rqCells c n 3 p v t).toArray 29)).alloc (.cells #[.int .i64 0, .int .i64 0, .string ⟨#[]⟩] 166) = V := by rw [hV, hU]; rfl
  clear h kV tV RV rV hV hU
  go_enter Tryz.func171, Tryz.ntmps171
  go_wp2_with fail
  try rw [hVV]
  clear hVV
  refine wp_region_noPanic ?_
  refine wp_region_held_drew (S := fun W => W.rangeAt w.heap.size 0 (rqCells c n 3 p v t)) (by kernel_rfl) J0 (fun _ => ?_)
  refine tk 1 J0 ?_
  refine tq (i := 2) (v := ?_) rfl J0 ?_ ?_
  rotate_left 1
  · intro W hSW; have qc : W.cell? ⟨w.heap.size, 2, none⟩ = some (.int .i64 3) := hSW 2 _ rfl; clear hSW; go_simp; try with_reducible rfl
  simp only [qA, qB, qC, Act.put, qD, qE, qF]
  refine tk 4 J0 ?_
  refine wpAnyH_take (i := 5) (v := .agg (rqCells c n 3 p v t).toArray) rfl (by kernel_rfl) (by kernel_rfl) (by kernel_rfl) (fun _ _ _ h => h) (yieldsIf_load_mid (by rfl) 29 _ rfl w.heap.size 0 rfl (rqCells c n 3 p v t) _ (fun W hW => hW) Tryz.underlying29 rfl HQ.out) J0 ?_
  simp only [qA, qB, qC, Act.put, qD, qE, qF]
  refine rk 0 (fun K' hK' => ?_)
  go_simp
  refine (deeds_any V.drew).mono ?_
  rintro e W3 ⟨rfl, hb3⟩
  have k3 : Kept (fun _ => False) V W3 := (Kept.drew _ V).trans (Kept.fresh hb3) (fun _ _ h => h)
  have s3 := k3.size
  have J3 : W3.rangeAt w.heap.size 0 (rqCells c n 3 p v t) := range_kept (W := V) J0 k3 (by omega) id
  have R3 : RecsAt W3 m cc G F := HR.out.kept k3 (fun g _ => id)
  have HT3 : Hid (W3.there (w.heap.size + 1) 0 3) := there_kept HT.out k3 (by omega) id
  have HK3 : Hid (Kept (fun _ => False) w W3) := HKV.out.trans k3 (fun _ _ h => h)
  clear hb3 k3
  refine hK'.out _ _ J3 (fun _ => ?_)
  clear hK' K'
  try simp only [qA, qB, qC, Act.put, qD, qE, qF]
  refine tq (i := 3) (v := ?_) rfl J3 ?_ ?_
  rotate_left 1
  · intro W hSW; have hix := ix3; clear hSW; go_simp; try with_reducible rfl
  simp only [qA, qB, qC, Act.put, qD, qE, qF]
  refine rk 6 (fun K' hK' => ?_)
  have hent := enter_read
  go_simp
  refine (rread_any m cc G F c n 3 p v t W3 R3 hp hv ht hc).mono ?_
  rintro e W4 ⟨k4, v4, t4, G', F', rfl, a1, a2, a3, R4, K4, G4⟩
  have J4 : W4.rangeAt w.heap.size 0 (rqCells c n 3 p v t) := range_kept J3 K4 (by omega) (fun hg => by have := HL.out _ hg; omega)
  have s4 := K4.size
  have HT4 : W4.there (w.heap.size + 1) 0 (anCells k4 v4 t4).length := there_kept HT3.out K4 (by omega) (fun hg => by have := HL.out _ hg; omega)
  have HK4 : Hid (Kept G w W4) := (HK3.out.mono (fun _ _ h => h.elim)).trans K4 (fun _ _ h => h)
  have HG4 : Hid (∀ g, G' g → G g ∨ w.heap.size + 2 ≤ g) := fun g hg => (G4 g hg).imp id (fun h => by omega)
  have HR4 : Hid (RecsAt W4 m (cc + 2) G' F') := R4
  clear R4 K4 G4 R3
  refine hK'.out _ _ J4 (fun _ => ?_)
  clear hK' K'
  try simp only [qA, qB, qC, Act.put, qD, qE, qF]
  refine rk 7 (fun K' hK' => ?_)
  refine wp_store_abs 166 _ _ rfl (w.heap.size + 1) 0 (anCells k4 v4 t4) rfl rfl HT4 (info_an k4 v4 t4) (an_one k4 v4 t4) ?_
  intro w5 hw5 hr5 _ht5 hb5
  have J5 : w5.rangeAt w.heap.size 0 (rqCells c n 3 p v t) := by rw [hw5]; exact World.rangeAt_setCells_apart J4 _ _ _ (Or.inl (by omega))
  clear _ht5
  refine hK'.out _ _ J5 (fun _ => ?_)
  clear hK' K'
  try simp only [qA, qB, qC, Act.put, qD, qE, qF]
  refine ⟨by kernel_rfl, ?_⟩
  refine NoPanic.normal ?_
  try simp only [qA, qB, qC, Act.put, qD, qE, qF]
  go_wp2_with fail
  exact ret_cell rfl (w.heap.size + 1) 0 (anCells k4 v4 t4) _ rfl hr5 Tryz.underlying166 rfl (info_an k4 v4 t4) rfl (deed_end2 HR4.out HK4.out HG4.out HL.out a1 a2 a3 hw5)

theorem ix4 (w : World) : (Instr.index 274 (.agg deedsL.toArray) (.int .i64 4)).run Tryz.prog w = .ok (.func (.func 184) #[] #[]) w := by kernel_rfl
theorem enter_redact (w : World) : (callFunc 184 #[]).run Tryz.prog w = .ok (.enter 184 #[]) w := by kernel_rfl
set_option maxRecDepth 10000 in
set_option maxHeartbeats 2000000 in
theorem do_redact (m cc : Nat) (G F : Nat → Prop) (c n p v : Int) (t : ByteArray) (w : World) (h : RecsAt w m cc G F) (hp : 0 ≤ p ∧ p < 1000) (hv : 0 ≤ v ∧ v ≤ 8) (ht : t.size ≤ 8) (hc : cc < 900) :
    Calls Tryz.prog 171 #[.map (some m), .agg (rqCells c n 4 p v t).toArray] w (deedPost m cc G F w) := by
  obtain ⟨U, hU⟩ : ∃ U, U = w.alloc (.cells (rqCells c n 4 p v t).toArray 29) := ⟨_, rfl⟩
  obtain ⟨V, hV⟩ : ∃ V, V = U.alloc (.cells (anCells 0 0 ⟨#[]⟩).toArray 166) := ⟨_, rfl⟩
  obtain ⟨hUs, hVs, kV, rV, tV⟩ := deed_head hU hV
  have RV := h.kept kV (fun g _ => id)
  have HL : Hid (∀ g, G g → g < w.heap.size) := h.lts
  have HKV : Hid (Kept (fun _ => False) w V) := kV
  have HT : Hid (V.there (w.heap.size + 1) 0 3) := tV
  have HR : Hid (RecsAt V m cc G F) := RV
  have HQ : Hid ((Tryz.prog.info? 29).map (·.size) = some (rqCells c n 4 p v t).length) := info_rq c n 4 p v t
  have J0 : V.drew.rangeAt w.heap.size 0 (rqCells c n 4 p v t) := rV
  have hVV : (w.alloc (.cells (rqCells c n 4 p v t).toArray 29)).alloc (.cells #[.int .i64 0, .int .i64 0, .string ⟨#[]⟩] 166) = V := by rw [hV, hU]; rfl
  clear h kV tV RV rV hV hU
  go_enter Tryz.func171, Tryz.ntmps171
  go_wp2_with fail
  try rw [hVV]
  clear hVV
  refine wp_region_noPanic ?_
  refine wp_region_held_drew (S := fun W => W.rangeAt w.heap.size 0 (rqCells c n 4 p v t)) (by kernel_rfl) J0 (fun _ => ?_)
  refine tk 1 J0 ?_
  refine tq (i := 2) (v := ?_) rfl J0 ?_ ?_
  rotate_left 1
  · intro W hSW; have qc : W.cell? ⟨w.heap.size, 2, none⟩ = some (.int .i64 4) := hSW 2 _ rfl; clear hSW; go_simp; try with_reducible rfl
  simp only [qA, qB, qC, Act.put, qD, qE, qF]
  refine tk 4 J0 ?_
  refine wpAnyH_take (i := 5) (v := .agg (rqCells c n 4 p v t).toArray) rfl (by kernel_rfl) (by kernel_rfl) (by kernel_rfl) (fun _ _ _ h => h) (yieldsIf_load_mid (by rfl) 29 _ rfl w.heap.size 0 rfl (rqCells c n 4 p v t) _ (fun W hW => hW) Tryz.underlying29 rfl HQ.out) J0 ?_
  simp only [qA, qB, qC, Act.put, qD, qE, qF]
  refine rk 0 (fun K' hK' => ?_)
  go_simp
  refine (deeds_any V.drew).mono ?_
  rintro e W3 ⟨rfl, hb3⟩
  have k3 : Kept (fun _ => False) V W3 := (Kept.drew _ V).trans (Kept.fresh hb3) (fun _ _ h => h)
  have s3 := k3.size
  have J3 : W3.rangeAt w.heap.size 0 (rqCells c n 4 p v t) := range_kept (W := V) J0 k3 (by omega) id
  have R3 : RecsAt W3 m cc G F := HR.out.kept k3 (fun g _ => id)
  have HT3 : Hid (W3.there (w.heap.size + 1) 0 3) := there_kept HT.out k3 (by omega) id
  have HK3 : Hid (Kept (fun _ => False) w W3) := HKV.out.trans k3 (fun _ _ h => h)
  clear hb3 k3
  refine hK'.out _ _ J3 (fun _ => ?_)
  clear hK' K'
  try simp only [qA, qB, qC, Act.put, qD, qE, qF]
  refine tq (i := 3) (v := ?_) rfl J3 ?_ ?_
  rotate_left 1
  · intro W hSW; have hix := ix4; clear hSW; go_simp; try with_reducible rfl
  simp only [qA, qB, qC, Act.put, qD, qE, qF]
  refine rk 6 (fun K' hK' => ?_)
  have hent := enter_redact
  go_simp
  refine (redact_any m cc G F c n 4 p v t W3 R3 hp hv ht hc).mono ?_
  rintro e W4 ⟨k4, v4, t4, G', F', rfl, a1, a2, a3, R4, K4, G4⟩
  have J4 : W4.rangeAt w.heap.size 0 (rqCells c n 4 p v t) := range_kept J3 K4 (by omega) (fun hg => by have := HL.out _ hg; omega)
  have s4 := K4.size
  have HT4 : W4.there (w.heap.size + 1) 0 (anCells k4 v4 t4).length := there_kept HT3.out K4 (by omega) (fun hg => by have := HL.out _ hg; omega)
  have HK4 : Hid (Kept G w W4) := (HK3.out.mono (fun _ _ h => h.elim)).trans K4 (fun _ _ h => h)
  have HG4 : Hid (∀ g, G' g → G g ∨ w.heap.size + 2 ≤ g) := fun g hg => (G4 g hg).imp id (fun h => by omega)
  have HR4 : Hid (RecsAt W4 m (cc + 2) G' F') := R4
  clear R4 K4 G4 R3
  refine hK'.out _ _ J4 (fun _ => ?_)
  clear hK' K'
  try simp only [qA, qB, qC, Act.put, qD, qE, qF]
  refine rk 7 (fun K' hK' => ?_)
  refine wp_store_abs 166 _ _ rfl (w.heap.size + 1) 0 (anCells k4 v4 t4) rfl rfl HT4 (info_an k4 v4 t4) (an_one k4 v4 t4) ?_
  intro w5 hw5 hr5 _ht5 hb5
  have J5 : w5.rangeAt w.heap.size 0 (rqCells c n 4 p v t) := by rw [hw5]; exact World.rangeAt_setCells_apart J4 _ _ _ (Or.inl (by omega))
  clear _ht5
  refine hK'.out _ _ J5 (fun _ => ?_)
  clear hK' K'
  try simp only [qA, qB, qC, Act.put, qD, qE, qF]
  refine ⟨by kernel_rfl, ?_⟩
  refine NoPanic.normal ?_
  try simp only [qA, qB, qC, Act.put, qD, qE, qF]
  go_wp2_with fail
  exact ret_cell rfl (w.heap.size + 1) 0 (anCells k4 v4 t4) _ rfl hr5 Tryz.underlying166 rfl (info_an k4 v4 t4) rfl (deed_end2 HR4.out HK4.out HG4.out HL.out a1 a2 a3 hw5)

theorem ix5 (w : World) : (Instr.index 274 (.agg deedsL.toArray) (.int .i64 5)).run Tryz.prog w = .ok (.func (.func 185) #[] #[]) w := by kernel_rfl
theorem enter_history (w : World) : (callFunc 185 #[]).run Tryz.prog w = .ok (.enter 185 #[]) w := by kernel_rfl
set_option maxRecDepth 10000 in
set_option maxHeartbeats 2000000 in
theorem do_history (m cc : Nat) (G F : Nat → Prop) (c n p v : Int) (t : ByteArray) (w : World) (h : RecsAt w m cc G F) (hp : 0 ≤ p ∧ p < 1000) (hv : 0 ≤ v ∧ v ≤ 8) (ht : t.size ≤ 8) (hc : cc < 900) :
    Calls Tryz.prog 171 #[.map (some m), .agg (rqCells c n 5 p v t).toArray] w (deedPost m cc G F w) := by
  obtain ⟨U, hU⟩ : ∃ U, U = w.alloc (.cells (rqCells c n 5 p v t).toArray 29) := ⟨_, rfl⟩
  obtain ⟨V, hV⟩ : ∃ V, V = U.alloc (.cells (anCells 0 0 ⟨#[]⟩).toArray 166) := ⟨_, rfl⟩
  obtain ⟨hUs, hVs, kV, rV, tV⟩ := deed_head hU hV
  have RV := h.kept kV (fun g _ => id)
  have HL : Hid (∀ g, G g → g < w.heap.size) := h.lts
  have HKV : Hid (Kept (fun _ => False) w V) := kV
  have HT : Hid (V.there (w.heap.size + 1) 0 3) := tV
  have HR : Hid (RecsAt V m cc G F) := RV
  have HQ : Hid ((Tryz.prog.info? 29).map (·.size) = some (rqCells c n 5 p v t).length) := info_rq c n 5 p v t
  have J0 : V.drew.rangeAt w.heap.size 0 (rqCells c n 5 p v t) := rV
  have hVV : (w.alloc (.cells (rqCells c n 5 p v t).toArray 29)).alloc (.cells #[.int .i64 0, .int .i64 0, .string ⟨#[]⟩] 166) = V := by rw [hV, hU]; rfl
  clear h kV tV RV rV hV hU
  go_enter Tryz.func171, Tryz.ntmps171
  go_wp2_with fail
  try rw [hVV]
  clear hVV
  refine wp_region_noPanic ?_
  refine wp_region_held_drew (S := fun W => W.rangeAt w.heap.size 0 (rqCells c n 5 p v t)) (by kernel_rfl) J0 (fun _ => ?_)
  refine tk 1 J0 ?_
  refine tq (i := 2) (v := ?_) rfl J0 ?_ ?_
  rotate_left 1
  · intro W hSW; have qc : W.cell? ⟨w.heap.size, 2, none⟩ = some (.int .i64 5) := hSW 2 _ rfl; clear hSW; go_simp; try with_reducible rfl
  simp only [qA, qB, qC, Act.put, qD, qE, qF]
  refine tk 4 J0 ?_
  refine wpAnyH_take (i := 5) (v := .agg (rqCells c n 5 p v t).toArray) rfl (by kernel_rfl) (by kernel_rfl) (by kernel_rfl) (fun _ _ _ h => h) (yieldsIf_load_mid (by rfl) 29 _ rfl w.heap.size 0 rfl (rqCells c n 5 p v t) _ (fun W hW => hW) Tryz.underlying29 rfl HQ.out) J0 ?_
  simp only [qA, qB, qC, Act.put, qD, qE, qF]
  refine rk 0 (fun K' hK' => ?_)
  go_simp
  refine (deeds_any V.drew).mono ?_
  rintro e W3 ⟨rfl, hb3⟩
  have k3 : Kept (fun _ => False) V W3 := (Kept.drew _ V).trans (Kept.fresh hb3) (fun _ _ h => h)
  have s3 := k3.size
  have J3 : W3.rangeAt w.heap.size 0 (rqCells c n 5 p v t) := range_kept (W := V) J0 k3 (by omega) id
  have R3 : RecsAt W3 m cc G F := HR.out.kept k3 (fun g _ => id)
  have HT3 : Hid (W3.there (w.heap.size + 1) 0 3) := there_kept HT.out k3 (by omega) id
  have HK3 : Hid (Kept (fun _ => False) w W3) := HKV.out.trans k3 (fun _ _ h => h)
  clear hb3 k3
  refine hK'.out _ _ J3 (fun _ => ?_)
  clear hK' K'
  try simp only [qA, qB, qC, Act.put, qD, qE, qF]
  refine tq (i := 3) (v := ?_) rfl J3 ?_ ?_
  rotate_left 1
  · intro W hSW; have hix := ix5; clear hSW; go_simp; try with_reducible rfl
  simp only [qA, qB, qC, Act.put, qD, qE, qF]
  refine rk 6 (fun K' hK' => ?_)
  have hent := enter_history
  go_simp
  refine (hist_any m cc G F c n 5 p v t W3 R3 hp hv ht hc).mono ?_
  rintro e W4 ⟨k4, v4, t4, G', F', rfl, a1, a2, a3, R4, K4, G4⟩
  have J4 : W4.rangeAt w.heap.size 0 (rqCells c n 5 p v t) := range_kept J3 K4 (by omega) (fun hg => by have := HL.out _ hg; omega)
  have s4 := K4.size
  have HT4 : W4.there (w.heap.size + 1) 0 (anCells k4 v4 t4).length := there_kept HT3.out K4 (by omega) (fun hg => by have := HL.out _ hg; omega)
  have HK4 : Hid (Kept G w W4) := (HK3.out.mono (fun _ _ h => h.elim)).trans K4 (fun _ _ h => h)
  have HG4 : Hid (∀ g, G' g → G g ∨ w.heap.size + 2 ≤ g) := fun g hg => (G4 g hg).imp id (fun h => by omega)
  have HR4 : Hid (RecsAt W4 m (cc + 2) G' F') := R4
  clear R4 K4 G4 R3
  refine hK'.out _ _ J4 (fun _ => ?_)
  clear hK' K'
  try simp only [qA, qB, qC, Act.put, qD, qE, qF]
  refine rk 7 (fun K' hK' => ?_)
  refine wp_store_abs 166 _ _ rfl (w.heap.size + 1) 0 (anCells k4 v4 t4) rfl rfl HT4 (info_an k4 v4 t4) (an_one k4 v4 t4) ?_
  intro w5 hw5 hr5 _ht5 hb5
  have J5 : w5.rangeAt w.heap.size 0 (rqCells c n 5 p v t) := by rw [hw5]; exact World.rangeAt_setCells_apart J4 _ _ _ (Or.inl (by omega))
  clear _ht5
  refine hK'.out _ _ J5 (fun _ => ?_)
  clear hK' K'
  try simp only [qA, qB, qC, Act.put, qD, qE, qF]
  refine ⟨by kernel_rfl, ?_⟩
  refine NoPanic.normal ?_
  try simp only [qA, qB, qC, Act.put, qD, qE, qF]
  go_wp2_with fail
  exact ret_cell rfl (w.heap.size + 1) 0 (anCells k4 v4 t4) _ rfl hr5 Tryz.underlying166 rfl (info_an k4 v4 t4) rfl (deed_end2 HR4.out HK4.out HG4.out HL.out a1 a2 a3 hw5)

/-- What a request does. -/
theorem do_any (m cc : Nat) (G F : Nat → Prop) (c n o p v : Int) (t : ByteArray) (w : World) (h : RecsAt w m cc G F) (ho : 1 ≤ o ∧ o ≤ 5) (hp : 0 ≤ p ∧ p < 1000) (hv : 0 ≤ v ∧ v ≤ 8) (ht : t.size ≤ 8) (hc : cc < 900) :
    Calls Tryz.prog 171 #[.map (some m), .agg (rqCells c n o p v t).toArray] w (deedPost m cc G F w) := by
  obtain rfl | rfl | rfl | rfl | rfl : o = 1 ∨ o = 2 ∨ o = 3 ∨ o = 4 ∨ o = 5 := by omega
  · exact do_create m cc G F c n p v t w h hp hv ht hc
  · exact do_amend m cc G F c n p v t w h hp hv ht hc
  · exact do_read m cc G F c n p v t w h hp hv ht hc
  · exact do_redact m cc G F c n p v t w h hp hv ht hc
  · exact do_history m cc G F c n p v t w h hp hv ht hc
/-- An entry of the log. -/
structure En where
  (c n o p v : Int)
  t : ByteArray
  (k vv : Int)
  tt : ByteArray
def En.cells (e : En) : List Value := enCells e.c e.n e.o e.p e.v e.t e.k e.vv e.tt
def En.ok (e : En) : Prop := (0 ≤ e.c ∧ e.c ≤ 9) ∧ (0 ≤ e.n ∧ e.n ≤ 2147483647) ∧ (0 ≤ e.k ∧ e.k < 256) ∧ (0 ≤ e.vv ∧ e.vv < 256) ∧ e.tt.size ≤ 8 ∧ e.k < 6 ∧ e.vv < 9 ∧ rqWhole e.c e.n e.o e.p e.v e.t = true
theorem En.len (e : En) : e.cells.length = 9 := rfl
theorem En.one (e : En) : ∀ u ∈ e.cells, u.oneCell' = true := by
  intro u hu; simp [En.cells, enCells, rqCells] at hu; rcases hu with rfl | rfl | rfl | rfl | rfl | rfl | rfl | rfl | rfl <;> rfl
def logC (L : List En) : List Value := L.flatMap En.cells
theorem logC_snoc (L : List En) (e : En) : logC (L ++ [e]) = logC L ++ e.cells := by unfold logC; rw [List.flatMap_append]; simp
theorem logC_get : ∀ (L : List En) (i j : Nat) (e : En), L[i]? = some e → j < 9 → (logC L)[i * 9 + j]? = e.cells[j]?
  | e0 :: L, 0, j, e, h, hj => by
    obtain rfl : e0 = e := by simpa using h
    unfold logC
    rw [List.flatMap_cons, List.getElem?_append_left (by rw [e0.len]; omega)]; simp
  | e0 :: L, i + 1, j, e, h, hj => by
    have := logC_get L i j e (by simpa using h) hj
    unfold logC at this ⊢
    rw [List.flatMap_cons, List.getElem?_append_right (by rw [e0.len]; omega), e0.len, show (i + 1) * 9 + j - 9 = i * 9 + j by omega, this]
/-- A book's cells. -/
def bkL (j lm m ky : Nat) (lv : Value) : List Value := [.pointer (some ⟨j, 0, none⟩), lv, .map (some lm), .map (some m), .int .i64 (ky : Nat)]
/-- The blocks that are a book's own. -/
def bkOwn (bk lm : Nat) (lv : Value) (G : Nat → Prop) (g : Nat) : Prop := g = bk ∨ g = lm ∨ G g ∨ lv.ownBlock = some g
/-- A book: its log, the clients' last entries, the records. -/
structure BookAt (w : World) (bk j lm m cc ky : Nat) (lv : Value) (L : List En) (G F : Nat → Prop) (D : DataW Unit) : Prop where
  lt : bk < w.heap.size
  cells : w.rangeAt bk 0 (bkL j lm m ky lv)
  room : w.there bk 0 5
  log : w.ownsRow 0 168 9 lv L.length (logC L)
  lasts : w.ownsMap Tryz.prog 3 (plainElem Tryz.prog 3) lm cc D
  recs : RecsAt w m cc G F
  ens : ∀ e ∈ L, e.ok
  apart : ¬ G bk ∧ ¬ G lm ∧ bk ≠ lm
  logs : ∀ g, lv.ownBlock = some g → g ≠ bk ∧ g ≠ lm ∧ ¬ G g
theorem BookAt.kept {w w' : World} {bk j lm m cc ky : Nat} {lv : Value} {L : List En} {G F S : Nat → Prop} {D : DataW Unit} (h : BookAt w bk j lm m cc ky lv L G F D) (hk : Kept S w w') (hn : ∀ g, bkOwn bk lm lv G g → ¬ S g) : BookAt w' bk j lm m cc ky lv L G F D :=
  ⟨Nat.lt_of_lt_of_le h.lt hk.size, range_kept h.cells hk h.lt (hn bk (Or.inl rfl)), there_kept h.room hk h.lt (hn bk (Or.inl rfl)), hk.own h.log (fun g hg => hn g (Or.inr (Or.inr (Or.inr hg)))), by
    obtain ⟨es, clock, h1, h2⟩ := h.lasts
    exact ⟨es, clock, (hk.block lm (block_lt h1) (hn lm (Or.inr (Or.inl rfl)))).trans h1, h2⟩, h.recs.kept hk (fun g hg => hn g (Or.inr (Or.inr (Or.inl hg)))), h.ens, h.apart, h.logs⟩
theorem BookAt.fresh {w w' : World} {bk j lm m cc ky : Nat} {lv : Value} {L : List En} {G F : Nat → Prop} {D : DataW Unit} (h : BookAt w bk j lm m cc ky lv L G F D) (hb : Below w.heap.size w w') : BookAt w' bk j lm m cc ky lv L G F D :=
  h.kept (Kept.fresh (S := fun _ => False) hb) (fun _ _ => id)
theorem BookAt.ownLt {w : World} {bk j lm m cc ky : Nat} {lv : Value} {L : List En} {G F : Nat → Prop} {D : DataW Unit} (h : BookAt w bk j lm m cc ky lv L G F D) (g : Nat) (hg : bkOwn bk lm lv G g) : g < w.heap.size := by
  rcases hg with rfl | rfl | hg | hg
  · exact h.lt
  · exact h.lasts.lt
  · exact h.recs.lts g hg
  · exact (h.log.lt g hg).2
/-- A deed was done. -/
theorem BookAt.did {w w' : World} {bk j lm m cc ky : Nat} {lv : Value} {L : List En} {G F G' F' : Nat → Prop} {D : DataW Unit} (h : BookAt w bk j lm m cc ky lv L G F D) (hR : RecsAt w' m (cc + 2) G' F') (hk : Kept G w w') (hG : ∀ g, G' g → G g ∨ w.heap.size ≤ g) : BookAt w' bk j lm m (cc + 2) ky lv L G' F' D := by
  have hml := h.lasts.lt
  refine ⟨Nat.lt_of_lt_of_le h.lt hk.size, range_kept h.cells hk h.lt h.apart.1, there_kept h.room hk h.lt h.apart.1, hk.own h.log (fun g hg => (h.logs g hg).2.2), ?_, hR, h.ens, ⟨fun e => ?_, fun e => ?_, h.apart.2.2⟩, fun g hg => ⟨(h.logs g hg).1, (h.logs g hg).2.1, fun e => ?_⟩⟩
  · obtain ⟨es, clock, h1, h2, h3, h4⟩ := h.lasts
    exact ⟨es, clock, (hk.block lm (block_lt h1) h.apart.2.1).trans h1, h2, by omega, h4⟩
  · rcases hG _ e with e | e
    · exact h.apart.1 e
    · have := h.lt; omega
  · rcases hG _ e with e | e
    · exact h.apart.2.1 e
    · omega
  · rcases hG _ e with e | e
    · exact (h.logs g hg).2.2 e
    · have := (h.log.lt g hg).2; omega
/-- An entry was laid behind the log. -/
theorem BookAt.logged {w w2 w3 : World} {bk j lm m cc ky : Nat} {lv : Value} {L : List En} {G F : Nat → Prop} {D : DataW Unit} {e : En} {o : Obj} {g5 cap5 : Nat} (h : BookAt w bk j lm m cc ky lv L G F D) (he : e.ok) (h2 : w2 = w.alloc o)
    (hg : w2.grownBy w3 lv.ownBlock) (ho : w3.ownsRow 0 168 9 (.slice (some ⟨g5, 0, none⟩) (L.length + 1) cap5) (L.length + 1) (logC L ++ e.cells)) (hat : lv.ownBlock = some g5 ∨ g5 = w2.heap.size) (hlt : g5 < w3.heap.size) :
    BookAt (w3.setCell ⟨bk, 1, none⟩ (.slice (some ⟨g5, 0, none⟩) (L.length + 1) cap5)) bk j lm m cc ky (.slice (some ⟨g5, 0, none⟩) (L.length + 1) cap5) (L ++ [e]) G F D ∧
    Kept (bkOwn bk lm lv G) w (w3.setCell ⟨bk, 1, none⟩ (.slice (some ⟨g5, 0, none⟩) (L.length + 1) cap5)) ∧ (lv.ownBlock = some g5 ∨ w.heap.size ≤ g5) := by
  have hbl := h.lt
  have h2s : w2.heap.size = w.heap.size + 1 := by rw [h2]; simp
  have k2 : Kept (fun _ => False) w w2 := by rw [h2]; exact Kept.alloc _ _ _
  have k3 : Kept (fun g => lv.ownBlock = some g) w2 w3 := Kept.grown hg (fun k e => Or.inl e)
  have k23 : Kept (fun g => lv.ownBlock = some g) w w3 := (k2.mono (fun _ _ h => h.elim)).trans k3 (fun _ _ h => h)
  have k4 : Kept (· = bk) w3 (w3.setCell ⟨bk, 1, none⟩ (.slice (some ⟨g5, 0, none⟩) (L.length + 1) cap5)) := Kept.setCell _ _ _ (Or.inl rfl)
  have hnb : ¬ lv.ownBlock = some bk := fun e => (h.logs bk e).1 rfl
  have hg5 : g5 ≠ bk ∧ g5 ≠ lm ∧ ¬ G g5 := by
    rcases hat with e | e
    · exact h.logs g5 e
    · refine ⟨by omega, by have := h.lasts.lt; omega, fun e => by have := h.recs.lts g5 e; omega⟩
  have k3b : bk < w3.heap.size := Nat.lt_of_lt_of_le hbl k23.size
  have r3 : w3.rangeAt bk 0 (bkL j lm m ky lv) := range_kept h.cells k23 hbl hnb
  have t3 : w3.there bk 0 5 := there_kept h.room k23 hbl hnb
  have kall : Kept (bkOwn bk lm lv G) w (w3.setCell ⟨bk, 1, none⟩ (.slice (some ⟨g5, 0, none⟩) (L.length + 1) cap5)) := (k23.mono (fun g _ e => Or.inr (Or.inr (Or.inr e)))).trans k4 (fun g _ e => Or.inl e)
  have blk : ∀ g, g < w.heap.size → g ≠ bk → ¬ lv.ownBlock = some g → (w3.setCell ⟨bk, 1, none⟩ (.slice (some ⟨g5, 0, none⟩) (L.length + 1) cap5)).heap[g]? = w.heap[g]? := fun g hg h1 h2 => (k4.block g (Nat.lt_of_lt_of_le hg k23.size) h1).trans (k23.block g hg h2)
  have kG : Kept (fun g => g = bk ∨ lv.ownBlock = some g) w (w3.setCell ⟨bk, 1, none⟩ (.slice (some ⟨g5, 0, none⟩) (L.length + 1) cap5)) := (k23.mono (fun g _ e => Or.inr e)).trans k4 (fun g _ e => Or.inl e)
  refine ⟨⟨by simpa using k3b, ?_, World.there_setCells t3 bk 1 [.slice (some ⟨g5, 0, none⟩) (L.length + 1) cap5], ?_, ?_, h.recs.kept kG (fun g hg e => ?_), ?_, h.apart, fun g hg => ?_⟩, kall, ?_⟩
  · intro i u hu
    match i, hu with
    | 0, hu => rw [World.cell?_setCell_other _ _ _ _ (by intro e; have := congrArg Addr.off e; simp at this)]; exact r3 0 _ hu
    | 1, hu => exact (World.cell?_setCell_same _ ⟨bk, 1, none⟩ _ (u := lv) (r3 1 _ rfl)).trans hu
    | 2, hu => rw [World.cell?_setCell_other _ _ _ _ (by intro e; have := congrArg Addr.off e; simp at this)]; exact r3 2 _ hu
    | 3, hu => rw [World.cell?_setCell_other _ _ _ _ (by intro e; have := congrArg Addr.off e; simp at this)]; exact r3 3 _ hu
    | 4, hu => rw [World.cell?_setCell_other _ _ _ _ (by intro e; have := congrArg Addr.off e; simp at this)]; exact r3 4 _ hu
    | i + 5, hu => cases hu
  · rw [logC_snoc, List.length_append, List.length_singleton]
    refine own_sameX ho (fun g hg => ?_)
    obtain rfl : g5 = g := by simpa [Value.ownBlock] using hg
    exact heap_setCell_other _ ⟨bk, 1, none⟩ g5 _ hg5.1
  · have hml := h.lasts.lt
    obtain ⟨es, clock, h1, h2⟩ := h.lasts
    exact ⟨es, clock, (blk lm hml (fun e => h.apart.2.2 e.symm) (fun e => (h.logs lm e).2.1 rfl)).trans h1, h2⟩
  · rcases e with rfl | e
    · exact h.apart.1 hg
    · exact (h.logs g e).2.2 hg
  · intro x hx
    rcases List.mem_append.1 hx with hx | hx
    · exact h.ens x hx
    · rw [List.mem_singleton.1 hx]; exact he
  · obtain rfl : g5 = g := by simpa [Value.ownBlock] using hg
    exact hg5
  · rcases hat with e | e
    · exact Or.inl e
    · right; omega
/-- A client's last entry was written down. -/
theorem BookAt.lasted {w w' : World} {bk j lm m cc ky : Nat} {lv : Value} {L : List En} {G F : Nat → Prop} {D D' : DataW Unit} (h : BookAt w bk j lm m cc ky lv L G F D) (hm : w'.ownsMap Tryz.prog 3 (plainElem Tryz.prog 3) lm (cc + 1) D') (hg : w.grownBy w' (some lm)) :
    BookAt w' bk j lm m (cc + 1) ky lv L G F D' ∧ Kept (bkOwn bk lm lv G) w w' := by
  have k : Kept (· = lm) w w' := Kept.grown hg (fun k e => Or.inl (by simpa using e.symm))
  refine ⟨⟨Nat.lt_of_lt_of_le h.lt k.size, range_kept h.cells k h.lt h.apart.2.2, there_kept h.room k h.lt h.apart.2.2, k.own h.log (fun g hg => (h.logs g hg).2.1), hm, (h.recs.kept k (fun g hg2 e => ?_)).mono (by omega), h.ens, h.apart, h.logs⟩, k.mono (fun g _ e => Or.inr (Or.inl e))⟩
  exact h.apart.2.1 (e ▸ hg2)
end Go.Proofs.YteglimjonofdeaaGreatDoor
