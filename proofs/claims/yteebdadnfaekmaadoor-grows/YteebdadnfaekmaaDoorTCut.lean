import Derived.Test.YteebdadnfaekmaaDoorTRead
set_option linter.unusedVariables false
set_option linter.unusedSimpArgs false
namespace Go.Proofs.YteebdadnfaekmaaDoor
open Go.RowKit

/-- Three results, the second a row in memory. -/
theorem ret_tmp_cell_tmp {P : Program} {fn : Func} {R : Ending → World → Prop} {a : Act} {w : World} {t p u : Tmp} {ty : TypeId} (h : fn.results = #[.tmp t, .cell p ty, .tmp u]) (b o : Nat) (cs : List Value) (d : TypeDesc) (x v : Value)
    (ht : a.tmps.getD t undef = x) (hp : a.tmps.getD p undef = .pointer (some ⟨b, o, none⟩)) (hu' : a.tmps.getD u undef = v) (hc : w.rangeAt b o cs) (hu : P.underlying ty = some d) (hd : d.isRow = true) (hi : (P.info? ty).map (·.size) = some cs.length)
    (hdf : a.defers = []) (hR : R (.returned (.tuple #[x, .agg cs.toArray, v])) w) : bodyPost P fn R .ret a w := by
  refine bodyPost_ret (v := .tuple #[x, .agg cs.toArray, v]) ?_ hdf hR
  have ht' : a.tmps[t]?.getD undef = x := by simpa using ht
  have hp' : a.tmps[p]?.getD undef = .pointer (some ⟨b, o, none⟩) := by simpa using hp
  have hu2 : a.tmps[u]?.getD undef = v := by simpa using hu'
  simp only [results, h]
  simp [Sem.run_bind, ht', hp', hu2, asAddr, run_loadVar_mid w b o ty cs d hc hu hd hi]

set_option maxHeartbeats 400000 in
theorem cut_nil (ao : Option Addr) (cap : Nat) (w : World) :
    Calls Tryd.prog 85 #[.slice ao 0 cap] w fun e w' => e = .returned (.tuple #[.slice none 0 0, .agg z32.toArray, .bool false]) ∧ Below w.heap.size w w' := by
  have ht := (rs_new w).t
  go_enter Tryd.func85, Tryd.ntmps85
  go_wp2_with (first | (refine wpList_alloc_of rfl 54 rfl z32.toArray alloc_32 ?_) | (refine wpList_build_of rfl 54 rfl z32.toArray build_h32 ?_) | (refine wpList_store_abs rfl 54 _ _ rfl w.heap.size 0 z32 rfl rfl ht z32_info z32_one ?_; intro w1 _hw1 hr1 ht1 hb1; clear _hw1))
  exact ret_tmp_cell_tmp rfl w.heap.size 0 z32 _ (.slice none 0 0) (.bool false) rfl rfl rfl hr1 Tryd.underlying54 rfl z32_info rfl ⟨rfl, ((Below.refl _ _).alloc (Nat.le_refl _) _).trans (hb1 _ (Nat.le_refl _))⟩

/-- What Read makes of a text. -/
def cutV (b : ByteArray) : List Value := if b.size = 32 then hV b else z32
theorem cutV_len (b : ByteArray) : (cutV b).length = 32 := by
  unfold cutV; split
  · rename_i h; exact hV_len h
  · rfl
theorem cutV_one (b : ByteArray) : ∀ u ∈ cutV b, u.oneCell' = true := by
  unfold cutV; split
  · exact hV_one b
  · exact z32_one
theorem hread_any (b : ByteArray) (W : World) : Calls Tryd.prog 61 #[.string b] W fun e w' => e = .returned (.tuple #[.agg (cutV b).toArray, .bool (b.size == 32)]) ∧ Below W.heap.size W w' := by
  by_cases h : b.size = 32
  · exact (read_yes b W h).mono fun e w' ⟨h1, h2⟩ => ⟨by rw [h1, h]; unfold cutV; rw [if_pos h]; rfl, h2⟩
  · exact (read_no b W h).mono fun e w' ⟨h1, h2⟩ => ⟨by rw [h1]; unfold cutV; rw [if_neg h]; simp [h], h2⟩

set_option maxRecDepth 10000 in
set_option maxHeartbeats 1000000 in
/-- The last hash is taken from a proof, as far as it is one. -/
theorem cut_any (g off n cap : Nat) (b : ByteArray) (w : World) (hc : w.cell? ⟨g, off + n, none⟩ = some (.string b)) (hcap : n + 1 ≤ cap) (hn : n ≤ 1000000000000) :
    Calls Tryd.prog 85 #[.slice (some ⟨g, off, none⟩) (n + 1) cap] w fun e w' => e = .returned (.tuple #[.slice (some ⟨g, off, none⟩) n cap, .agg (cutV b).toArray, .bool (b.size == 32)]) ∧ Below w.heap.size w w' := by
  have hrd := hread_any b
  have hl := cutV_len b
  have hone := cutV_one b
  generalize cutV b = cs at *
  generalize (b.size == 32) = ok at *
  have hcA : (w.alloc (.cells z32.toArray 54)).cell? ⟨g, off + n, none⟩ = some (.string b) := by rw [World.cell?_alloc_past _ _ _ (World.block_lt_of_cell? w _ hc)]; exact hc
  have R0 := rs_new w
  have n0 : ((n + 1 : Nat) : Int) = (n : Int) + 1 := by omega
  have n1 : ((n : Int) + 1 == 0) = false := by rw [beq_eq_false_iff_ne]; omega
  have n2 : (n : Int) < (n : Int) + 1 := by omega
  have n3 : (n : Int) ≤ (cap : Int) := by omega
  clear hc
  go_enter Tryd.func85, Tryd.ntmps85
  go_wp2_with (first | (refine wpList_alloc_of rfl 54 rfl z32.toArray alloc_32 ?_))
  refine (hrd _).mono ?_
  rintro e w1 ⟨rfl, hb1⟩
  have R1 := R0.step hb1
  have hinf : (Tryd.prog.info? 54).map (·.size) = some cs.length := by rw [hl]; exact info_hash
  have ht2 : (w1.alloc (.cells z32.toArray 54)).there w1.heap.size 0 cs.length := by rw [hl]; exact there_z32 w1
  clear hrd hcA hb1
  go_wp2_with (first | (refine wpList_alloc_of rfl 54 rfl z32.toArray alloc_32 ?_) | (refine wpList_store_abs rfl 54 _ _ rfl w1.heap.size 0 cs rfl rfl ht2 hinf hone ?_; intro w2 _hw2 hr2 _ht2 hb2; clear _hw2 _ht2))
  have R2 : RS w.heap.size w w2 := R1.step (((Below.refl _ _).alloc (Nat.le_refl _) _).trans (hb2 _ (Nat.le_refl _)))
  have hz := R1.z
  have J0 : RS w.heap.size w w2.drew ∧ w2.drew.rangeAt w1.heap.size 0 cs := ⟨⟨R2.b.drew, R2.t, R2.z⟩, hr2⟩
  refine wp_region_noPanic ?_
  refine wp_region_held_drew (S := fun w' => RS w.heap.size w w' ∧ w'.rangeAt w1.heap.size 0 cs) (by kernel_rfl) J0 (fun _ => ?_)
  refine wpAnyH_take (i := 0) (v := ?_) rfl (by kernel_rfl) (by kernel_rfl) (by kernel_rfl) (fun _ _ _ h => h) (Or.inl ⟨by rfl, ?_⟩) J0 ?_
  rotate_left 1
  · intro w hSw; clear hSw; go_simp; try with_reducible rfl
  simp only [List.getElem_toArray, List.getElem_cons_zero, List.getElem_cons_succ, Act.put, List.setIfInBounds_toArray, List.set_cons_zero, List.set_cons_succ]
  refine wpAnyH_take (i := 1) (v := ?_) rfl (by kernel_rfl) (by kernel_rfl) (by kernel_rfl) (fun _ _ _ h => h) (Or.inl ⟨by rfl, ?_⟩) J0 ?_
  rotate_left 1
  · intro w hSw; clear hSw; go_simp; try with_reducible rfl
  simp only [List.getElem_toArray, List.getElem_cons_zero, List.getElem_cons_succ, Act.put, List.setIfInBounds_toArray, List.set_cons_zero, List.set_cons_succ]
  refine wpAnyH_take (i := 2) (v := ?_) rfl (by kernel_rfl) (by kernel_rfl) (by kernel_rfl) (fun _ _ _ h => h) (Or.inl ⟨by rfl, ?_⟩) J0 ?_
  rotate_left 1
  · intro w hSw; clear hSw; go_simp; try with_reducible rfl
  simp only [List.getElem_toArray, List.getElem_cons_zero, List.getElem_cons_succ, Act.put, List.setIfInBounds_toArray, List.set_cons_zero, List.set_cons_succ]
  refine wpAnyH_take (i := 3) (v := .agg cs.toArray) rfl (by kernel_rfl) (by kernel_rfl) (by kernel_rfl) (fun _ _ _ h => h) (yieldsIf_load_mid (by rfl) 54 (.tmp 6) rfl w1.heap.size 0 rfl cs _ (fun w' hw' => hw'.2) Tryd.underlying54 rfl hinf) J0 ?_
  simp only [List.getElem_toArray, List.getElem_cons_zero, List.getElem_cons_succ, Act.put, List.setIfInBounds_toArray, List.set_cons_zero, List.set_cons_succ]
  refine wpAnyH_take (i := 4) (v := ?_) rfl (by kernel_rfl) (by kernel_rfl) (by kernel_rfl) (fun _ _ _ h => h) (Or.inl ⟨by rfl, ?_⟩) J0 ?_
  rotate_left 1
  · intro w hSw; clear hSw; go_simp; try with_reducible rfl
  simp only [List.getElem_toArray, List.getElem_cons_zero, List.getElem_cons_succ, Act.put, List.setIfInBounds_toArray, List.set_cons_zero, List.set_cons_succ]
  refine wpAnyH_take (i := 5) (v := ?_) rfl (by kernel_rfl) (by kernel_rfl) (by kernel_rfl) (fun _ _ _ h => h) (Or.inl ⟨by rfl, ?_⟩) J0 ?_
  rotate_left 1
  · intro w hSw; clear hSw; go_simp; try with_reducible rfl
  simp only [List.getElem_toArray, List.getElem_cons_zero, List.getElem_cons_succ, Act.put, List.setIfInBounds_toArray, List.set_cons_zero, List.set_cons_succ]
  refine wpAnyH_ready (rs := [6]) (by kernel_rfl) (by simp) ?_
  refine AllReadyH.cons rfl (fun K hK => ?_) AllReadyH.nil
  rw [if_pos (by rfl)]
  refine wp_store_mid 54 (.tmp 3) (.tmp 26) rfl w.heap.size 0 cs.toArray rfl rfl (by show w2.there w.heap.size 0 cs.length; rw [hl]; exact R2.t) (by show _ = some cs.length; exact hinf) (all_oneCell_toArray hone) ?_
  have J5 : RS w.heap.size w (w2.drew.setCells w.heap.size 0 cs.toArray.toList) ∧ (w2.drew.setCells w.heap.size 0 cs.toArray.toList).rangeAt w1.heap.size 0 cs := ⟨J0.1.store _, fun j u hu => by
    rw [World.cell?_setCells_out _ _ _ _ ⟨w1.heap.size, 0 + j, none⟩ (fun e _ => by exfalso; simp at e; omega)]
    exact J0.2 j u hu⟩
  refine hK.out _ _ J5 (fun _ => ?_)
  clear hK K
  try simp only [List.getElem_toArray, List.getElem_cons_zero, List.getElem_cons_succ, Act.put, List.setIfInBounds_toArray, List.set_cons_zero, List.set_cons_succ]
  refine wpAnyH_ready (rs := [7]) (by kernel_rfl) (by simp) ?_
  refine AllReadyH.cons rfl (fun K hK => ?_) AllReadyH.nil
  rw [if_pos (by rfl)]
  go_simp
  refine hK.out _ _ J5 (fun _ => ?_)
  clear hK K
  refine ⟨by kernel_rfl, ?_⟩
  refine NoPanic.normal ?_
  try simp only [List.getElem_toArray, List.getElem_cons_zero, List.getElem_cons_succ, Act.put, List.setIfInBounds_toArray, List.set_cons_zero, List.set_cons_succ]
  go_wp2_with fail
  exact ret_tmp_cell_tmp rfl w.heap.size 0 cs _ (.slice (some ⟨g, off, none⟩) n cap) (.bool ok) rfl rfl rfl (by have := World.rangeAt_setCells_same w2.drew w.heap.size 0 cs (by rw [hl]; exact R2.t); simpa using this) Tryd.underlying54 rfl hinf rfl ⟨rfl, J5.1.b⟩
end Go.Proofs.YteebdadnfaekmaaDoor
