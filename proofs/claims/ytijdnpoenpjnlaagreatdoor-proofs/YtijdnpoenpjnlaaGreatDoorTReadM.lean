import Derived.Test.YtijdnpoenpjnlaaGreatDoorMTreeM
set_option linter.unusedVariables false
set_option linter.unusedSimpArgs false
namespace Go.Proofs.YtijdnpoenpjnlaaGreatDoor
open Go.RowKit

theorem build_h32 (w : World) : (Instr.build 90 #[]).run Tryz.prog w = .ok (.agg z32.toArray) w := by kernel_rfl
theorem z32_one : ∀ u ∈ z32, u.oneCell' = true := by decide
theorem z32_len : z32.length = 32 := rfl
theorem z32_info : (Tryz.prog.info? 90).map (·.size) = some z32.length := info_hash
theorem str_cells (s : ByteArray) : (s.data.toList.map fun x => Value.int .u8 (x.toNat : Int)) = hV s := by unfold hV bytesV numsOf; rw [List.map_map]; rfl

set_option maxHeartbeats 400000 in
theorem read_no (s : ByteArray) (w : World) (h : s.size ≠ 32) :
    Calls Tryz.prog 167 #[.string s] w fun e w' => e = .returned (.tuple #[.agg z32.toArray, .bool false]) ∧ Below w.heap.size w w' := by
  have hb : ((s.size : Int) != 32) = true := by rw [bne_iff_ne]; omega
  have ht := (rs_new w).t
  go_enter Tryz.func167, Tryz.ntmps167
  go_wp2_with (first | (refine wpList_alloc_of rfl 90 rfl z32.toArray alloc_32 ?_) | (refine wpList_build_of rfl 90 rfl z32.toArray build_h32 ?_) | (refine wpList_store_abs rfl 90 _ _ rfl w.heap.size 0 z32 rfl rfl ht z32_info z32_one ?_; intro w1 _hw1 hr1 ht1 hb1; clear _hw1))
  exact ret_cell_tmp rfl w.heap.size 0 z32 _ (.bool false) rfl rfl hr1 Tryz.underlying90 rfl z32_info rfl ⟨rfl, ((Below.refl _ _).alloc (Nat.le_refl _) _).trans (hb1 _ (Nat.le_refl _))⟩

set_option maxRecDepth 10000 in
set_option maxHeartbeats 400000 in
theorem read_yes (s : ByteArray) (w : World) (h : s.size = 32) :
    Calls Tryz.prog 167 #[.string s] w fun e w' => e = .returned (.tuple #[.agg (hV s).toArray, .bool true]) ∧ Below w.heap.size w w' := by
  have hb : ((s.size : Int) != 32) = false := by rw [h]; rfl
  obtain ⟨wA, hwA⟩ : ∃ wA, wA = (w.alloc (.cells z32.toArray 90)).alloc (.cells z32.toArray 90) := ⟨_, rfl⟩
  have htA : wA.there (w.heap.size + 1) 0 32 := by
    rw [hwA]; have := there_z32 (w.alloc (.cells z32.toArray 90)); simpa using this
  have htB : wA.there w.heap.size 0 32 := by
    rw [hwA]; exact there_below ((Below.refl _ _).alloc (by simp) _) (Nat.lt_succ_self _) (there_z32 w)
  have hbA : Below w.heap.size w wA := by rw [hwA]; exact ((Below.refl _ _).alloc (Nat.le_refl _) _).alloc (by simp) _
  have hrun := run_copy_string (P := Tryz.prog) wA 42 9 3 5 (w.heap.size + 1) 0 32 32 s Tryz.underlying42 size_byte (by rw [h]; exact Nat.le_refl _) (fun j hj => by simpa using (htA j (by omega)).1) (fun j hj => by simpa using (htA j (by omega)).2)
  rw [str_cells, h] at hrun
  have hl : (hV s).length = 32 := hV_len h
  have hinf := hV_info h
  have hone := hV_one s
  have hrC : (wA.setCells (w.heap.size + 1) 0 (hV s)).rangeAt (w.heap.size + 1) 0 (hV s) := World.rangeAt_setCells_same wA _ 0 (hV s) (by rw [hl]; exact htA)
  have htC : (wA.setCells (w.heap.size + 1) 0 (hV s)).there w.heap.size 0 (hV s).length := by rw [hl]; exact World.there_setCells htB _ _ _
  have hbC : Below w.heap.size w (wA.setCells (w.heap.size + 1) 0 (hV s)) := below_setCells (by omega) _ _ _ hbA
  obtain ⟨wC, hwC⟩ : ∃ wC, wC = wA.setCells (w.heap.size + 1) 0 (hV s) := ⟨_, rfl⟩
  rw [← hwC] at hrun hrC htC hbC
  rw [hwA] at hrun
  clear hwC htA htB hbA hwA hl
  go_enter Tryz.func167, Tryz.ntmps167
  go_wp2_with (first | (refine wpList_alloc_of rfl 90 rfl z32.toArray alloc_32 ?_) | (at_builtin; refine Lib.wpList_copy_run _ rfl _ _ 42 9 rfl _ _ rfl rfl hrun ?_) | (refine wpList_load_mid rfl 90 _ rfl (w.heap.size + 1) 0 rfl (hV s) _ hrC Tryz.underlying90 rfl hinf ?_) | (refine wpList_store_abs rfl 90 _ _ rfl w.heap.size 0 (hV s) rfl rfl htC hinf hone ?_; intro w1 _hw1 hr1 ht1 hb1; clear _hw1))
  exact ret_cell_tmp rfl w.heap.size 0 (hV s) _ (.bool true) rfl rfl hr1 Tryz.underlying90 rfl hinf rfl ⟨rfl, hbC.trans (hb1 _ (Nat.le_refl _))⟩
end Go.Proofs.YtijdnpoenpjnlaaGreatDoor
set_option linter.unusedVariables false
set_option linter.unusedSimpArgs false
namespace Go.Proofs.YtijdnpoenpjnlaaGreatDoor
open Go.RowKit

/-- Three results, the second a row in memory. -/
theorem ret_tmp_cell_tmp {P : Program} {fn : Func} {R : Ending → World → Prop} {a : Act} {w : World} {t p u : Tmp} {ty : TypeId} (h : fn.results = #[.tmp t, .cell p ty, .tmp u]) (b o : Nat) (cs : List Value) (d : TypeDesc) (x v : Value)
    (ht : a.tmps.getD t undef = x) (hp : a.tmps.getD p undef = .pointer (some ⟨b, o, none⟩)) (hu' : a.tmps.getD u undef = v) (hc : w.rangeAt b o cs) (hu : P.underlying ty = some d) (hd : d.isRow = true) (hi : (P.info? ty).map (·.size) = some cs.length)
    (hdf : a.defers = []) (hR : R (.returned (.tuple #[x, .agg cs.toArray, v])) w) : bodyPost P fn R .ret a w := by
  refine bodyPost_ret (v := .tuple #[x, .agg cs.toArray, v]) ?_ hdf hR
  have ht' : a.tmps[t]?.getD undef = x := by simpa using ht
  have hp' : a.tmps[p]?.getD undef = .pointer (some ⟨b, o, none⟩) := by simpa using hp
  have hu2 : a.tmps[u]?.getD undef = v := by simpa using hu'
  simp only [results, h]
  simp [Sem.run_bind, ht', hp', hu2, asAddr, run_loadVar_mid w b o ty cs d hc hu hd hi]

set_option maxHeartbeats 400000 in
theorem cut_nil (ao : Option Addr) (cap : Nat) (w : World) :
    Calls Tryz.prog 214 #[.slice ao 0 cap] w fun e w' => e = .returned (.tuple #[.slice none 0 0, .agg z32.toArray, .bool false]) ∧ Below w.heap.size w w' := by
  have ht := (rs_new w).t
  go_enter Tryz.func214, Tryz.ntmps214
  go_wp2_with (first | (refine wpList_alloc_of rfl 90 rfl z32.toArray alloc_32 ?_) | (refine wpList_build_of rfl 90 rfl z32.toArray build_h32 ?_) | (refine wpList_store_abs rfl 90 _ _ rfl w.heap.size 0 z32 rfl rfl ht z32_info z32_one ?_; intro w1 _hw1 hr1 ht1 hb1; clear _hw1))
  exact ret_tmp_cell_tmp rfl w.heap.size 0 z32 _ (.slice none 0 0) (.bool false) rfl rfl rfl hr1 Tryz.underlying90 rfl z32_info rfl ⟨rfl, ((Below.refl _ _).alloc (Nat.le_refl _) _).trans (hb1 _ (Nat.le_refl _))⟩

/-- What Read makes of a text. -/
def cutV (b : ByteArray) : List Value := if b.size = 32 then hV b else z32
theorem cutV_len (b : ByteArray) : (cutV b).length = 32 := by
  unfold cutV; split
  · rename_i h; exact hV_len h
  · rfl
theorem cutV_one (b : ByteArray) : ∀ u ∈ cutV b, u.oneCell' = true := by
  unfold cutV; split
  · exact hV_one b
  · exact z32_one
theorem hread_any (b : ByteArray) (W : World) : Calls Tryz.prog 167 #[.string b] W fun e w' => e = .returned (.tuple #[.agg (cutV b).toArray, .bool (b.size == 32)]) ∧ Below W.heap.size W w' := by
  by_cases h : b.size = 32
  · exact (read_yes b W h).mono fun e w' ⟨h1, h2⟩ => ⟨by rw [h1, h]; unfold cutV; rw [if_pos h]; rfl, h2⟩
  · exact (read_no b W h).mono fun e w' ⟨h1, h2⟩ => ⟨by rw [h1]; unfold cutV; rw [if_neg h]; simp [h], h2⟩

set_option maxRecDepth 10000 in
set_option maxHeartbeats 1000000 in
/-- The last hash is taken from a proof, as far as it is one. -/
theorem cut_any (g off n cap : Nat) (b : ByteArray) (w : World) (hc : w.cell? ⟨g, off + n, none⟩ = some (.string b)) (hcap : n + 1 ≤ cap) (hn : n ≤ 1000000000000) :
    Calls Tryz.prog 214 #[.slice (some ⟨g, off, none⟩) (n + 1) cap] w fun e w' => e = .returned (.tuple #[.slice (some ⟨g, off, none⟩) n cap, .agg (cutV b).toArray, .bool (b.size == 32)]) ∧ Below w.heap.size w w' := by
  have hrd := hread_any b
  have hl := cutV_len b
  have hone := cutV_one b
  generalize cutV b = cs at *
  generalize (b.size == 32) = ok at *
  have hcA : (w.alloc (.cells z32.toArray 90)).cell? ⟨g, off + n, none⟩ = some (.string b) := by rw [World.cell?_alloc_past _ _ _ (World.block_lt_of_cell? w _ hc)]; exact hc
  have R0 := rs_new w
  have n0 : ((n + 1 : Nat) : Int) = (n : Int) + 1 := by omega
  have n1 : ((n : Int) + 1 == 0) = false := by rw [beq_eq_false_iff_ne]; omega
  have n2 : (n : Int) < (n : Int) + 1 := by omega
  have n3 : (n : Int) ≤ (cap : Int) := by omega
  clear hc
  go_enter Tryz.func214, Tryz.ntmps214
  go_wp2_with (first | (refine wpList_alloc_of rfl 90 rfl z32.toArray alloc_32 ?_))
  refine (hrd _).mono ?_
  rintro e w1 ⟨rfl, hb1⟩
  have R1 := R0.step hb1
  have hinf : (Tryz.prog.info? 90).map (·.size) = some cs.length := by rw [hl]; exact info_hash
  have ht2 : (w1.alloc (.cells z32.toArray 90)).there w1.heap.size 0 cs.length := by rw [hl]; exact there_z32 w1
  clear hrd hcA hb1
  go_wp2_with (first | (refine wpList_alloc_of rfl 90 rfl z32.toArray alloc_32 ?_) | (refine wpList_store_abs rfl 90 _ _ rfl w1.heap.size 0 cs rfl rfl ht2 hinf hone ?_; intro w2 _hw2 hr2 _ht2 hb2; clear _hw2 _ht2))
  have R2 : RS w.heap.size w w2 := R1.step (((Below.refl _ _).alloc (Nat.le_refl _) _).trans (hb2 _ (Nat.le_refl _)))
  have hz := R1.z
  have J0 : RS w.heap.size w w2.drew ∧ w2.drew.rangeAt w1.heap.size 0 cs := ⟨⟨R2.b.drew, R2.t, R2.z⟩, hr2⟩
  refine wp_region_noPanic ?_
  refine wp_region_held_drew (S := fun w' => RS w.heap.size w w' ∧ w'.rangeAt w1.heap.size 0 cs) (by kernel_rfl) J0 (fun _ => ?_)
  refine wpAnyH_take (i := 0) (v := ?_) rfl (by kernel_rfl) (by kernel_rfl) (by kernel_rfl) (fun _ _ _ h => h) (Or.inl ⟨by rfl, ?_⟩) J0 ?_
  rotate_left 1
  · intro w hSw; clear hSw; go_simp; try with_reducible rfl
  simp only [List.getElem_toArray, List.getElem_cons_zero, List.getElem_cons_succ, Act.put, List.setIfInBounds_toArray, List.set_cons_zero, List.set_cons_succ]
  refine wpAnyH_take (i := 1) (v := ?_) rfl (by kernel_rfl) (by kernel_rfl) (by kernel_rfl) (fun _ _ _ h => h) (Or.inl ⟨by rfl, ?_⟩) J0 ?_
  rotate_left 1
  · intro w hSw; clear hSw; go_simp; try with_reducible rfl
  simp only [List.getElem_toArray, List.getElem_cons_zero, List.getElem_cons_succ, Act.put, List.setIfInBounds_toArray, List.set_cons_zero, List.set_cons_succ]
  refine wpAnyH_take (i := 2) (v := ?_) rfl (by kernel_rfl) (by kernel_rfl) (by kernel_rfl) (fun _ _ _ h => h) (Or.inl ⟨by rfl, ?_⟩) J0 ?_
  rotate_left 1
  · intro w hSw; clear hSw; go_simp; try with_reducible rfl
  simp only [List.getElem_toArray, List.getElem_cons_zero, List.getElem_cons_succ, Act.put, List.setIfInBounds_toArray, List.set_cons_zero, List.set_cons_succ]
  refine wpAnyH_take (i := 3) (v := .agg cs.toArray) rfl (by kernel_rfl) (by kernel_rfl) (by kernel_rfl) (fun _ _ _ h => h) (yieldsIf_load_mid (by rfl) 90 (.tmp 6) rfl w1.heap.size 0 rfl cs _ (fun w' hw' => hw'.2) Tryz.underlying90 rfl hinf) J0 ?_
  simp only [List.getElem_toArray, List.getElem_cons_zero, List.getElem_cons_succ, Act.put, List.setIfInBounds_toArray, List.set_cons_zero, List.set_cons_succ]
  refine wpAnyH_take (i := 4) (v := ?_) rfl (by kernel_rfl) (by kernel_rfl) (by kernel_rfl) (fun _ _ _ h => h) (Or.inl ⟨by rfl, ?_⟩) J0 ?_
  rotate_left 1
  · intro w hSw; clear hSw; go_simp; try with_reducible rfl
  simp only [List.getElem_toArray, List.getElem_cons_zero, List.getElem_cons_succ, Act.put, List.setIfInBounds_toArray, List.set_cons_zero, List.set_cons_succ]
  refine wpAnyH_take (i := 5) (v := ?_) rfl (by kernel_rfl) (by kernel_rfl) (by kernel_rfl) (fun _ _ _ h => h) (Or.inl ⟨by rfl, ?_⟩) J0 ?_
  rotate_left 1
  · intro w hSw; clear hSw; go_simp; try with_reducible rfl
  simp only [List.getElem_toArray, List.getElem_cons_zero, List.getElem_cons_succ, Act.put, List.setIfInBounds_toArray, List.set_cons_zero, List.set_cons_succ]
  refine wpAnyH_ready (rs := [6]) (by kernel_rfl) (by simp) ?_
  refine AllReadyH.cons rfl (fun K hK => ?_) AllReadyH.nil
  rw [if_pos (by rfl)]
  refine wp_store_mid 90 (.tmp 3) (.tmp 26) rfl w.heap.size 0 cs.toArray rfl rfl (by show w2.there w.heap.size 0 cs.length; rw [hl]; exact R2.t) (by show _ = some cs.length; exact hinf) (all_oneCell_toArray hone) ?_
  have J5 : RS w.heap.size w (w2.drew.setCells w.heap.size 0 cs.toArray.toList) ∧ (w2.drew.setCells w.heap.size 0 cs.toArray.toList).rangeAt w1.heap.size 0 cs := ⟨J0.1.store _, fun j u hu => by
    rw [World.cell?_setCells_out _ _ _ _ ⟨w1.heap.size, 0 + j, none⟩ (fun e _ => by exfalso; simp at e; omega)]
    exact J0.2 j u hu⟩
  refine hK.out _ _ J5 (fun _ => ?_)
  clear hK K
  try simp only [List.getElem_toArray, List.getElem_cons_zero, List.getElem_cons_succ, Act.put, List.setIfInBounds_toArray, List.set_cons_zero, List.set_cons_succ]
  refine wpAnyH_ready (rs := [7]) (by kernel_rfl) (by simp) ?_
  refine AllReadyH.cons rfl (fun K hK => ?_) AllReadyH.nil
  rw [if_pos (by rfl)]
  go_simp
  refine hK.out _ _ J5 (fun _ => ?_)
  clear hK K
  refine ⟨by kernel_rfl, ?_⟩
  refine NoPanic.normal ?_
  try simp only [List.getElem_toArray, List.getElem_cons_zero, List.getElem_cons_succ, Act.put, List.setIfInBounds_toArray, List.set_cons_zero, List.set_cons_succ]
  go_wp2_with fail
  exact ret_tmp_cell_tmp rfl w.heap.size 0 cs _ (.slice (some ⟨g, off, none⟩) n cap) (.bool ok) rfl rfl rfl (by have := World.rangeAt_setCells_same w2.drew w.heap.size 0 cs (by rw [hl]; exact R2.t); simpa using this) Tryz.underlying90 rfl hinf rfl ⟨rfl, J5.1.b⟩
end Go.Proofs.YtijdnpoenpjnlaaGreatDoor
set_option linter.unusedVariables false
set_option linter.unusedSimpArgs false
namespace Go.Proofs.YtijdnpoenpjnlaaGreatDoor
open Go.RowKit

theorem z32_hV : hV (strOfNums (List.replicate 32 0)) = z32 := by
  unfold hV
  rw [nums_str _ (fun x hx => by rw [List.eq_of_mem_replicate hx]; omega)]; rfl

/-- What a check answers: nil, or ErrProof. -/
def chkV (ok : Bool) : Value := if ok then .nilIface else .iface 138 (.int .i64 14)
theorem hash_eq (a b : ByteArray) (ha : a.size = 32) (hb : b.size = 32) (w : World) : (Op.equalIn 10000 90 (.agg (hV a).toArray) (.agg (hV b).toArray)).run Tryz.prog w = .ok (decide (a = b)) w := by
  have la : a.data.toList.length = 32 := by rw [← Lib.size_eq]; exact ha
  have lb : b.data.toList.length = 32 := by rw [← Lib.size_eq]; exact hb
  have := run_equalIn_bytes (P := Tryz.prog) w 9998 90 5 32 Tryz.underlying90 Tryz.underlying5 size_byte a.data.toList b.data.toList la lb
  have e : ∀ t : ByteArray, (t.data.toList.map Extern.Stop.cell) = hV t := fun t => by unfold hV bytesV numsOf; rw [List.map_map]; rfl
  rw [e, e] at this
  have e2 : (a.data.toList == b.data.toList) = decide (a = b) := by
    rw [Bool.eq_iff_iff]
    simp only [beq_iff_eq, decide_eq_true_eq]
    constructor
    · intro h
      apply ByteArray.ext
      exact Array.toList_inj.1 h
    · rintro rfl; rfl
  rw [e2] at this
  exact this
end Go.Proofs.YtijdnpoenpjnlaaGreatDoor
set_option linter.unusedVariables false
set_option linter.unusedSimpArgs false
namespace Go.Proofs.YtijdnpoenpjnlaaGreatDoor
open Go.RowKit

set_option maxRecDepth 10000 in
set_option maxHeartbeats 1000000 in
theorem climb_one (s : ByteArray) (i : Int) (ao : Option Addr) (m cap : Nat) (h : ByteArray) (w : World) (h32 : h.size = 32)
    (hr : ∀ W, Below w.heap.size w W → Calls Tryz.prog 162 #[.string s] W fun e w' => e = .returned (.agg (hV h).toArray) ∧ Below W.heap.size W w') :
    Calls Tryz.prog 168 #[.string s, .int .i64 i, .int .i64 1, .slice ao m cap] w fun e w' => e = .returned (.tuple #[.agg (hV h).toArray, .bool ((m : Int) == 0)]) ∧ Below w.heap.size w w' := by
  have R0 := rs_new w
  have hr1 := hr _ R0.b
  have hinf := hV_info h32
  have hone := hV_one h
  have hl := hV_len h32
  clear hr
  go_enter Tryz.func168, Tryz.ntmps168
  go_wp2_with (first | (refine wpList_alloc_of rfl 90 rfl z32.toArray alloc_32 ?_))
  refine hr1.mono ?_
  rintro e w1 ⟨rfl, hb1⟩
  have R1 := R0.step hb1
  have ht : w1.there w.heap.size 0 (hV h).length := by rw [hl]; exact R1.t
  clear hr1
  go_wp2_with (refine wpList_store_abs rfl 90 _ _ rfl w.heap.size 0 (hV h) rfl rfl ht hinf hone ?_; intro w2 _hw2 hr2 _ht2 hb2; clear _hw2 _ht2)
  exact ret_cell_tmp rfl w.heap.size 0 (hV h) _ _ rfl rfl hr2 Tryz.underlying90 rfl hinf rfl ⟨rfl, R1.b.trans (hb2 _ (Nat.le_refl _))⟩

set_option maxRecDepth 10000 in
set_option maxHeartbeats 1000000 in
theorem climb_bad (s : ByteArray) (i n : Int) (v : Value) (v' : Value) (cs : List Value) (w : World) (hn : (n == 1) = false) (hl : cs.length = 32) (hone : ∀ u ∈ cs, u.oneCell' = true)
    (hcut : ∀ W, Below w.heap.size w W → Calls Tryz.prog 214 #[v] W fun e w' => e = .returned (.tuple #[v', .agg cs.toArray, .bool false]) ∧ Below W.heap.size W w') :
    Calls Tryz.prog 168 #[.string s, .int .i64 i, .int .i64 n, v] w fun e w' => e = .returned (.tuple #[.agg z32.toArray, .bool false]) ∧ Below w.heap.size w w' := by
  have R0 := rs_new w
  have hc1 := hcut _ R0.b
  have hinf : (Tryz.prog.info? 90).map (·.size) = some cs.length := by rw [hl]; exact info_hash
  clear hcut
  go_enter Tryz.func168, Tryz.ntmps168
  go_wp2_with (first | (refine wpList_alloc_of rfl 90 rfl z32.toArray alloc_32 ?_))
  refine hc1.mono ?_
  rintro e w1 ⟨rfl, hb1⟩
  have R1 := R0.step hb1
  have ht1 : (w1.alloc (.cells z32.toArray 90)).there w1.heap.size 0 cs.length := by rw [hl]; exact there_z32 w1
  clear hc1 hb1
  go_wp2_with (first | (refine wpList_alloc_of rfl 90 rfl z32.toArray alloc_32 ?_) | (refine wpList_store_abs rfl 90 _ _ rfl w1.heap.size 0 cs rfl rfl ht1 hinf hone ?_; intro w2 _hw2 hr2 _ht2 hb2; clear _hw2 _ht2; have R2 : RS w.heap.size w w2 := R1.step (((Below.refl _ _).alloc (Nat.le_refl _) _).trans (hb2 _ (Nat.le_refl _))); have ht2 : w2.there w.heap.size 0 z32.length := R2.t) | (refine wpList_build_of rfl 90 rfl z32.toArray build_h32 ?_) | (refine wpList_store_abs rfl 90 _ _ rfl w.heap.size 0 z32 rfl rfl ht2 z32_info z32_one ?_; intro w3 _hw3 hr3 _ht3 hb3; clear _hw3 _ht3))
  exact ret_cell_tmp rfl w.heap.size 0 z32 _ _ rfl rfl hr3 Tryz.underlying90 rfl z32_info rfl ⟨rfl, R2.b.trans (hb3 _ (Nat.le_refl _))⟩
end Go.Proofs.YtijdnpoenpjnlaaGreatDoor
set_option linter.unusedVariables false
set_option linter.unusedSimpArgs false
namespace Go.Proofs.YtijdnpoenpjnlaaGreatDoor
open Go.RowKit

set_option maxRecDepth 10000 in
set_option maxHeartbeats 1000000 in
theorem climb_left (s : ByteArray) (i n k : Nat) (v v' : Value) (b x h : ByteArray) (f : Bool) (w : World) (hn : 2 ≤ n) (hn1 : n ≤ 2147483647) (hk1 : k < n) (hi1 : i < n) (hik : i < k) (hb32 : b.size = 32) (hx32 : x.size = 32) (h32 : h.size = 32)
    (hcut : ∀ W, Below w.heap.size w W → Calls Tryz.prog 214 #[v] W fun e w' => e = .returned (.tuple #[v', .agg (hV b).toArray, .bool true]) ∧ Below W.heap.size W w')
    (hsp : ∀ W, Calls Tryz.prog 163 #[.int .i64 n] W fun e w' => e = .returned (.int .i64 k) ∧ w' = W)
    (hrec : ∀ W, Below w.heap.size w W → Calls Tryz.prog 168 #[.string s, .int .i64 i, .int .i64 k, v'] W fun e w' => e = .returned (.tuple #[.agg (hV x).toArray, .bool f]) ∧ Below W.heap.size W w')
    (hjn : ∀ W, Below w.heap.size w W → Calls Tryz.prog 164 #[.agg (hV x).toArray, .agg (hV b).toArray] W fun e w' => e = .returned (.agg (hV h).toArray) ∧ Below W.heap.size W w') :
    Calls Tryz.prog 168 #[.string s, .int .i64 i, .int .i64 n, v] w fun e w' => e = .returned (.tuple #[.agg (hV h).toArray, .bool f]) ∧ Below w.heap.size w w' := by
  have R0 := rs_new w
  have hc1 := hcut _ R0.b
  have hn2 : ((n : Int) == 1) = false := by rw [beq_eq_false_iff_ne]; omega
  have ik : (i : Int) < (k : Int) := by omega
  have lb := hV_len hb32
  have lx := hV_len hx32
  have lh := hV_len h32
  have ib := hV_info hb32
  have ix := hV_info hx32
  have ih := hV_info h32
  have ob := hV_one b
  have ox := hV_one x
  have oh := hV_one h
  have HREC : Hid (∀ W, Below w.heap.size w W → Calls Tryz.prog 168 #[.string s, .int .i64 i, .int .i64 k, v'] W fun e w' => e = .returned (.tuple #[.agg (hV x).toArray, .bool f]) ∧ Below W.heap.size W w') := hrec
  have HJN : Hid (∀ W, Below w.heap.size w W → Calls Tryz.prog 164 #[.agg (hV x).toArray, .agg (hV b).toArray] W fun e w' => e = .returned (.agg (hV h).toArray) ∧ Below W.heap.size W w') := hjn
  clear hcut hrec hjn
  go_enter Tryz.func168, Tryz.ntmps168
  go_wp2_with (first | (refine wpList_alloc_of rfl 90 rfl z32.toArray alloc_32 ?_))
  refine hc1.mono ?_
  rintro e w1 ⟨rfl, hb1⟩
  have R1 := R0.step hb1
  have ht1 : (w1.alloc (.cells z32.toArray 90)).there w1.heap.size 0 (hV b).length := by rw [lb]; exact there_z32 w1
  clear hc1 hb1
  go_wp2_with (first | (refine wpList_alloc_of rfl 90 rfl z32.toArray alloc_32 ?_) | (refine wpList_store_abs rfl 90 _ _ rfl w1.heap.size 0 (hV b) rfl rfl ht1 ib ob ?_; intro w2 _hw2 hr2 _ht2 hb2; clear _hw2 _ht2) | (go_at_call 163; refine (hsp _).mono ?_; rintro e wx ⟨rfl, hwx⟩; obtain rfl : w2 = wx := hwx.symm; clear hwx))
  have R2 : RS w.heap.size w w2 := R1.step (((Below.refl _ _).alloc (Nat.le_refl _) _).trans (hb2 _ (Nat.le_refl _)))
  have hs2 : w1.heap.size < w2.heap.size := by have := (hb2 _ (Nat.le_refl _)).size; simp at this; omega
  clear ht1 hb2 hsp
  refine (HREC.out w2 R2.b).mono ?_
  rintro e w3 ⟨rfl, hb3⟩
  have R3 := R2.step hb3
  have hr3 : w3.rangeAt w1.heap.size 0 (hV b) := fun j u hu => (hb3.cell (p := ⟨w1.heap.size, 0 + j, none⟩) hs2).trans (hr2 j u hu)
  have hs3 : w1.heap.size < w3.heap.size := Nat.lt_of_lt_of_le hs2 hb3.size
  have ht3 : (w3.alloc (.cells z32.toArray 90)).there w3.heap.size 0 (hV x).length := by rw [lx]; exact there_z32 w3
  clear hb3 hr2
  go_wp2_with (first | (refine wpList_alloc_of rfl 90 rfl z32.toArray alloc_32 ?_) | (refine wpList_store_abs rfl 90 _ _ rfl w3.heap.size 0 (hV x) rfl rfl ht3 ix ox ?_; intro w4 _hw4 hr4 _ht4 hb4; clear _hw4 _ht4; have hr4b : w4.rangeAt w1.heap.size 0 (hV b) := fun j u hu => ((hb4 _ (Nat.le_refl _)).cell (p := ⟨w1.heap.size, 0 + j, none⟩) hs3).trans ((World.cell?_alloc_past _ _ _ hs3).trans (hr3 j u hu))) | (refine wpList_load_mid rfl 90 (.tmp 14) rfl w3.heap.size 0 rfl (hV x) _ hr4 Tryz.underlying90 rfl ix ?_) | (refine wpList_load_mid rfl 90 (.tmp 11) rfl w1.heap.size 0 rfl (hV b) _ hr4b Tryz.underlying90 rfl ib ?_))
  have R4 : RS w.heap.size w w4 := R3.step (((Below.refl _ _).alloc (Nat.le_refl _) _).trans (hb4 _ (Nat.le_refl _)))
  refine (HJN.out w4 R4.b).mono ?_
  rintro e w5 ⟨rfl, hb5⟩
  have R5 := R4.step hb5
  have ht5 : w5.there w.heap.size 0 (hV h).length := by rw [lh]; exact R5.t
  clear hr4 hr4b hb4 hr3 ht3
  go_wp2_with (refine wpList_store_abs rfl 90 _ _ rfl w.heap.size 0 (hV h) rfl rfl ht5 ih oh ?_; intro w6 _hw6 hr6 _ht6 hb6; clear _hw6 _ht6)
  exact ret_cell_tmp rfl w.heap.size 0 (hV h) _ _ rfl rfl hr6 Tryz.underlying90 rfl ih rfl ⟨rfl, R5.b.trans (hb6 _ (Nat.le_refl _))⟩

set_option maxRecDepth 10000 in
set_option maxHeartbeats 1000000 in
theorem climb_right (s : ByteArray) (i n k : Nat) (v v' : Value) (b x h : ByteArray) (f : Bool) (w : World) (hn : 2 ≤ n) (hn1 : n ≤ 2147483647) (hk1 : k < n) (hi1 : i < n) (hik : k ≤ i) (hb32 : b.size = 32) (hx32 : x.size = 32) (h32 : h.size = 32)
    (hcut : ∀ W, Below w.heap.size w W → Calls Tryz.prog 214 #[v] W fun e w' => e = .returned (.tuple #[v', .agg (hV b).toArray, .bool true]) ∧ Below W.heap.size W w')
    (hsp : ∀ W, Calls Tryz.prog 163 #[.int .i64 n] W fun e w' => e = .returned (.int .i64 k) ∧ w' = W)
    (hrec : ∀ W, Below w.heap.size w W → Calls Tryz.prog 168 #[.string s, .int .i64 ((i : Int) - (k : Int)), .int .i64 ((n : Int) - (k : Int)), v'] W fun e w' => e = .returned (.tuple #[.agg (hV x).toArray, .bool f]) ∧ Below W.heap.size W w')
    (hjn : ∀ W, Below w.heap.size w W → Calls Tryz.prog 164 #[.agg (hV b).toArray, .agg (hV x).toArray] W fun e w' => e = .returned (.agg (hV h).toArray) ∧ Below W.heap.size W w') :
    Calls Tryz.prog 168 #[.string s, .int .i64 i, .int .i64 n, v] w fun e w' => e = .returned (.tuple #[.agg (hV h).toArray, .bool f]) ∧ Below w.heap.size w w' := by
  have R0 := rs_new w
  have hc1 := hcut _ R0.b
  have hn2 : ((n : Int) == 1) = false := by rw [beq_eq_false_iff_ne]; omega
  have ik : ¬ (i : Int) < (k : Int) := by omega
  have ik2 : (k : Int) ≤ (i : Int) := by omega
  have ik3 : (i : Int) < (n : Int) := by omega
  have lb := hV_len hb32
  have lx := hV_len hx32
  have lh := hV_len h32
  have ib := hV_info hb32
  have ix := hV_info hx32
  have ih := hV_info h32
  have ob := hV_one b
  have ox := hV_one x
  have oh := hV_one h
  have HREC : Hid (∀ W, Below w.heap.size w W → Calls Tryz.prog 168 #[.string s, .int .i64 ((i : Int) - (k : Int)), .int .i64 ((n : Int) - (k : Int)), v'] W fun e w' => e = .returned (.tuple #[.agg (hV x).toArray, .bool f]) ∧ Below W.heap.size W w') := hrec
  have HJN : Hid (∀ W, Below w.heap.size w W → Calls Tryz.prog 164 #[.agg (hV b).toArray, .agg (hV x).toArray] W fun e w' => e = .returned (.agg (hV h).toArray) ∧ Below W.heap.size W w') := hjn
  clear hcut hrec hjn
  go_enter Tryz.func168, Tryz.ntmps168
  go_wp2_with (first | (refine wpList_alloc_of rfl 90 rfl z32.toArray alloc_32 ?_))
  refine hc1.mono ?_
  rintro e w1 ⟨rfl, hb1⟩
  have R1 := R0.step hb1
  have ht1 : (w1.alloc (.cells z32.toArray 90)).there w1.heap.size 0 (hV b).length := by rw [lb]; exact there_z32 w1
  clear hc1 hb1
  go_wp2_with (first | (refine wpList_alloc_of rfl 90 rfl z32.toArray alloc_32 ?_) | (refine wpList_store_abs rfl 90 _ _ rfl w1.heap.size 0 (hV b) rfl rfl ht1 ib ob ?_; intro w2 _hw2 hr2 _ht2 hb2; clear _hw2 _ht2) | (go_at_call 163; refine (hsp _).mono ?_; rintro e wx ⟨rfl, hwx⟩; obtain rfl : w2 = wx := hwx.symm; clear hwx))
  have R2 : RS w.heap.size w w2 := R1.step (((Below.refl _ _).alloc (Nat.le_refl _) _).trans (hb2 _ (Nat.le_refl _)))
  have hs2 : w1.heap.size < w2.heap.size := by have := (hb2 _ (Nat.le_refl _)).size; simp at this; omega
  clear ht1 hb2 hsp
  refine (HREC.out w2 R2.b).mono ?_
  rintro e w3 ⟨rfl, hb3⟩
  have R3 := R2.step hb3
  have hr3 : w3.rangeAt w1.heap.size 0 (hV b) := fun j u hu => (hb3.cell (p := ⟨w1.heap.size, 0 + j, none⟩) hs2).trans (hr2 j u hu)
  have hs3 : w1.heap.size < w3.heap.size := Nat.lt_of_lt_of_le hs2 hb3.size
  have ht3 : (w3.alloc (.cells z32.toArray 90)).there w3.heap.size 0 (hV x).length := by rw [lx]; exact there_z32 w3
  clear hb3 hr2
  go_wp2_with (first | (refine wpList_alloc_of rfl 90 rfl z32.toArray alloc_32 ?_) | (refine wpList_store_abs rfl 90 _ _ rfl w3.heap.size 0 (hV x) rfl rfl ht3 ix ox ?_; intro w4 _hw4 hr4 _ht4 hb4; clear _hw4 _ht4; have hr4b : w4.rangeAt w1.heap.size 0 (hV b) := fun j u hu => ((hb4 _ (Nat.le_refl _)).cell (p := ⟨w1.heap.size, 0 + j, none⟩) hs3).trans ((World.cell?_alloc_past _ _ _ hs3).trans (hr3 j u hu))) | (refine wpList_load_mid rfl 90 (.tmp 16) rfl w3.heap.size 0 rfl (hV x) _ hr4 Tryz.underlying90 rfl ix ?_) | (refine wpList_load_mid rfl 90 (.tmp 11) rfl w1.heap.size 0 rfl (hV b) _ hr4b Tryz.underlying90 rfl ib ?_))
  have R4 : RS w.heap.size w w4 := R3.step (((Below.refl _ _).alloc (Nat.le_refl _) _).trans (hb4 _ (Nat.le_refl _)))
  refine (HJN.out w4 R4.b).mono ?_
  rintro e w5 ⟨rfl, hb5⟩
  have R5 := R4.step hb5
  have ht5 : w5.there w.heap.size 0 (hV h).length := by rw [lh]; exact R5.t
  clear hr4 hr4b hb4 hr3 ht3
  go_wp2_with (refine wpList_store_abs rfl 90 _ _ rfl w.heap.size 0 (hV h) rfl rfl ht5 ih oh ?_; intro w6 _hw6 hr6 _ht6 hb6; clear _hw6 _ht6)
  exact ret_cell_tmp rfl w.heap.size 0 (hV h) _ _ rfl rfl hr6 Tryz.underlying90 rfl ih rfl ⟨rfl, R5.b.trans (hb6 _ (Nat.le_refl _))⟩

/-- The program's climb: what a proof makes of a leaf. -/
theorem climb_any (K : Nat → Int) (s : ByteArray) (hs : s.size ≤ 140737488355000) : ∀ (m : Nat) (pf : List ByteArray) (v : Value) (i n : Nat) (w : World), pf.length = m → m ≤ 1000000000 → i < n → n ≤ 2147483647 → LeafAt w v pf → Tab K w →
    Calls Tryz.prog 168 #[.string s, .int .i64 i, .int .i64 n, v] w fun e w' => e = .returned (.tuple #[.agg (hV (climbF (sumOf K) s i n pf).1).toArray, .bool (climbF (sumOf K) s i n pf).2]) ∧ Below w.heap.size w w' := by
  intro m
  induction m with
  | zero =>
    intro pf v i n w hm hm1 hin hn1 hl T
    obtain rfl : pf = [] := List.eq_nil_of_length_eq_zero hm
    obtain ⟨ao, cap, rfl⟩ := leaf_form hl
    by_cases h1 : n = 1
    · subst h1
      rw [climbF_one]
      exact climb_one s i ao 0 cap _ w (sumOf_size K _) (fun W hb => rone_any s K W hs (T.below hb))
    · rw [climbF_none _ _ _ _ h1, z32_hV]
      exact climb_bad s i n _ (.slice none 0 0) z32 w (by rw [beq_eq_false_iff_ne]; omega) rfl z32_one (fun W hb => cut_nil ao cap W)
  | succ m ih =>
    intro pf v i n w hm hm1 hin hn1 hl T
    obtain ⟨rest, b, rfl⟩ : ∃ rest b, pf = rest ++ [b] := ⟨pf.dropLast, pf.getLast (by intro e; subst e; simp at hm), (List.dropLast_concat_getLast _).symm⟩
    have hrl : rest.length = m := by simp at hm; exact hm
    obtain ⟨g, off, cap, rfl, hcap, hc⟩ : ∃ g off cap, v = .slice (some ⟨g, off, none⟩) (rest ++ [b]).length cap ∧ (rest ++ [b]).length ≤ cap ∧ ∀ j (h : j < (rest ++ [b]).length), w.cell? ⟨g, off + j, none⟩ = some (.string ((rest ++ [b])[j]'h)) := by
      rcases hl with ⟨e, _⟩ | h
      · simp at e
      · exact h
    by_cases h1 : n = 1
    · subst h1
      rw [climbF_one]
      have := climb_one s i (some ⟨g, off, none⟩) (rest ++ [b]).length cap _ w (sumOf_size K (m0 ++ s)) (fun W hb => rone_any s K W hs (T.below hb))
      rw [show (((rest ++ [b]).length : Int) == 0) = (rest ++ [b]).isEmpty by rw [show (rest ++ [b]).isEmpty = false by simp]; rw [beq_eq_false_iff_ne]; simp; omega] at this
      exact this
    · have hlen : (rest ++ [b]).length = m + 1 := hm
      have hcm : w.cell? ⟨g, off + m, none⟩ = some (.string b) := by
        have := hc m (by omega)
        rw [this]; simp [← hrl]
      have hcut : ∀ W, Below w.heap.size w W → Calls Tryz.prog 214 #[.slice (some ⟨g, off, none⟩) (m + 1) cap] W fun e w' => e = .returned (.tuple #[.slice (some ⟨g, off, none⟩) m cap, .agg (cutV b).toArray, .bool (b.size == 32)]) ∧ Below W.heap.size W w' := fun W hb =>
        cut_any g off m cap b W ((hb.cell (World.block_lt_of_cell? w _ hcm)).trans hcm) (by omega) (by omega)
      rw [hlen]
      have lR : ∀ W, Below w.heap.size w W → LeafAt W (.slice (some ⟨g, off, none⟩) m cap) rest := fun W hb => by
        refine LeafAt.below (w := w) ?_ hb
        refine Or.inr ⟨g, off, cap, by rw [hrl], by omega, fun j hj => ?_⟩
        rw [hc j (by simp; omega), List.getElem_append_left hj]
      by_cases hb32 : b.size = 32
      · have hcV : cutV b = hV b := by unfold cutV; rw [if_pos hb32]
        have hok : (b.size == 32) = true := by rw [hb32]; rfl
        rw [hcV, hok] at hcut
        have h2 : 2 ≤ n := by omega
        have hk0 := halfN_pos n
        have hk1 := halfN_lt h2
        by_cases hik : i < halfN n
        · rw [climbF_left _ _ _ _ h1 _ _ hb32 hik]
          exact climb_left s i n (halfN n) _ _ b _ _ _ w h2 hn1 hk1 hin hik hb32 (climbF_size _ (sumOf_size K) _ _ _ _) (sumOf_size K _) hcut (fun W => split_any n W h2 hn1)
            (fun W hb => ih rest _ i (halfN n) W hrl (by omega) hik (by omega) (lR W hb) (T.below hb))
            (fun W hb => join_any _ _ K W (climbF_size _ (sumOf_size K) _ _ _ _) hb32 (T.below hb))
        · rw [climbF_right _ _ _ _ h1 _ _ hb32 hik]
          exact climb_right s i n (halfN n) _ _ b _ _ _ w h2 hn1 hk1 hin (by omega) hb32 (climbF_size _ (sumOf_size K) _ _ _ _) (sumOf_size K _) hcut (fun W => split_any n W h2 hn1)
            (fun W hb => by
              have := ih rest _ (i - halfN n) (n - halfN n) W hrl (by omega) (by omega) (by omega) (lR W hb) (T.below hb)
              rw [show ((i - halfN n : Nat) : Int) = (i : Int) - (halfN n : Int) by omega, show ((n - halfN n : Nat) : Int) = (n : Int) - (halfN n : Int) by omega] at this
              exact this)
            (fun W hb => join_any _ _ K W hb32 (climbF_size _ (sumOf_size K) _ _ _ _) (T.below hb))
      · rw [climbF_bad _ _ _ _ h1 _ _ hb32, z32_hV]
        have hok : (b.size == 32) = false := by simp [hb32]
        rw [hok] at hcut
        exact climb_bad s i n _ _ _ w (by rw [beq_eq_false_iff_ne]; omega) (cutV_len b) (cutV_one b) hcut
end Go.Proofs.YtijdnpoenpjnlaaGreatDoor
set_option linter.unusedVariables false
set_option linter.unusedSimpArgs false
namespace Go.Proofs.YtijdnpoenpjnlaaGreatDoor
open Go.RowKit

set_option maxRecDepth 10000 in
set_option maxHeartbeats 1000000 in
theorem chk_root (s r : ByteArray) (i n : Nat) (v : Value) (w : World) (hin : i < n) (hn1 : n ≤ 2147483647) (hr : r.size ≠ 32) :
    Calls Tryz.prog 120 #[.string s, .int .i64 i, .int .i64 n, .string r, v] w fun e w' => e = .returned (.iface 138 (.int .i64 14)) ∧ Below w.heap.size w w' := by
  have i0 : ¬ (i : Int) < 0 := by omega
  have i1 : ¬ (n : Int) ≤ (i : Int) := by omega
  have i2 : ¬ (2147483647 : Int) < (n : Int) := by omega
  have hrd := read_no r w hr
  have lz := z32_len
  have oz := z32_one
  go_enter Tryz.func120, Tryz.ntmps120
  go_wp2_with fail
  refine hrd.mono ?_
  rintro e w1 ⟨rfl, hb1⟩
  have ht1 : (w1.alloc (.cells z32.toArray 90)).there w1.heap.size 0 z32.length := there_z32 w1
  go_wp2_with (first | (refine wpList_alloc_of rfl 90 rfl z32.toArray alloc_32 ?_) | (refine wpList_store_abs rfl 90 _ _ rfl w1.heap.size 0 z32 rfl rfl ht1 z32_info oz ?_; intro w2 _hw2 hr2 _ht2 hb2; clear _hw2 _ht2))
  go_ret
  exact ⟨rfl, hb1.trans (((Below.refl _ _).alloc hb1.size _).trans (hb2 _ hb1.size))⟩

set_option maxRecDepth 10000 in
set_option maxHeartbeats 1000000 in
theorem chk_any (s r x : ByteArray) (f : Bool) (i n : Nat) (v : Value) (w : World) (hin : i < n) (hn1 : n ≤ 2147483647) (hr : r.size = 32) (hx : x.size = 32)
    (hcl : ∀ W, Below w.heap.size w W → Calls Tryz.prog 168 #[.string s, .int .i64 i, .int .i64 n, v] W fun e w' => e = .returned (.tuple #[.agg (hV x).toArray, .bool f]) ∧ Below W.heap.size W w') :
    Calls Tryz.prog 120 #[.string s, .int .i64 i, .int .i64 n, .string r, v] w fun e w' => e = .returned (chkV (f && decide (x = r))) ∧ Below w.heap.size w w' := by
  have i0 : ¬ (i : Int) < 0 := by omega
  have i1 : ¬ (n : Int) ≤ (i : Int) := by omega
  have i2 : ¬ (2147483647 : Int) < (n : Int) := by omega
  have hrd := read_yes r w hr
  have lr := hV_len hr
  have lx := hV_len hx
  have ir := hV_info hr
  have ix := hV_info hx
  have oR := hV_one r
  have oX := hV_one x
  have heq : ∀ W, (Op.equalIn 10000 90 (.agg (hV x).toArray) (.agg (hV r).toArray)).run Tryz.prog W = .ok (decide (x = r)) W := hash_eq x r hx hr
  have heq' : ∀ W, (Op.equal 90 (.agg (hV x).toArray) (.agg (hV r).toArray)).run Tryz.prog W = .ok (decide (x = r)) W := heq
  generalize decide (x = r) = same at *
  have HEQ : Hid (∀ W, (Op.equalIn 10000 90 (.agg (hV x).toArray) (.agg (hV r).toArray)).run Tryz.prog W = .ok same W) := heq
  have HEQ' : Hid (∀ W, (Op.equal 90 (.agg (hV x).toArray) (.agg (hV r).toArray)).run Tryz.prog W = .ok same W) := heq'
  have HCL : Hid (∀ W, Below w.heap.size w W → Calls Tryz.prog 168 #[.string s, .int .i64 i, .int .i64 n, v] W fun e w' => e = .returned (.tuple #[.agg (hV x).toArray, .bool f]) ∧ Below W.heap.size W w') := hcl
  clear heq heq' hcl
  go_enter Tryz.func120, Tryz.ntmps120
  go_wp2_with fail
  refine hrd.mono ?_
  rintro e w1 ⟨rfl, hb1⟩
  have ht1 : (w1.alloc (.cells z32.toArray 90)).there w1.heap.size 0 (hV r).length := by rw [lr]; exact there_z32 w1
  go_wp2_with (first | (refine wpList_alloc_of rfl 90 rfl z32.toArray alloc_32 ?_) | (refine wpList_store_abs rfl 90 _ _ rfl w1.heap.size 0 (hV r) rfl rfl ht1 ir oR ?_; intro w2 _hw2 hr2 _ht2 hb2; clear _hw2 _ht2))
  have hB2 : Below w.heap.size w w2 := hb1.trans (((Below.refl _ _).alloc hb1.size _).trans (hb2 _ hb1.size))
  have hs2 : w1.heap.size < w2.heap.size := by have := (hb2 _ (Nat.le_refl _)).size; simp at this; omega
  clear ht1 hb2 hrd
  refine (HCL.out w2 hB2).mono ?_
  rintro e w3 ⟨rfl, hb3⟩
  have hB3 : Below w.heap.size w w3 := hB2.trans (hb3.mono hB2.size)
  have hr3 : w3.rangeAt w1.heap.size 0 (hV r) := fun j u hu => (hb3.cell (p := ⟨w1.heap.size, 0 + j, none⟩) hs2).trans (hr2 j u hu)
  have hs3 : w1.heap.size < w3.heap.size := Nat.lt_of_lt_of_le hs2 hb3.size
  have ht3 : (w3.alloc (.cells z32.toArray 90)).there w3.heap.size 0 (hV x).length := by rw [lx]; exact there_z32 w3
  have heq := HEQ.out
  have heq' := HEQ'.out
  clear hb3 hr2
  cases f
  · go_wp2_with (first | (refine wpList_alloc_of rfl 90 rfl z32.toArray alloc_32 ?_) | (refine wpList_store_abs rfl 90 _ _ rfl w3.heap.size 0 (hV x) rfl rfl ht3 ix oX ?_; intro w4 _hw4 hr4 _ht4 hb4; clear _hw4 _ht4))
    go_ret
    exact ⟨rfl, hB3.trans (((Below.refl _ _).alloc hB3.size _).trans (hb4 _ hB3.size))⟩
  · cases same
    · go_wp2_with (first | (refine wpList_alloc_of rfl 90 rfl z32.toArray alloc_32 ?_) | (refine wpList_store_abs rfl 90 _ _ rfl w3.heap.size 0 (hV x) rfl rfl ht3 ix oX ?_; intro w4 _hw4 hr4 _ht4 hb4; clear _hw4 _ht4; have hr4b : w4.rangeAt w1.heap.size 0 (hV r) := fun j u hu => ((hb4 _ (Nat.le_refl _)).cell (p := ⟨w1.heap.size, 0 + j, none⟩) hs3).trans ((World.cell?_alloc_past _ _ _ hs3).trans (hr3 j u hu))) | (refine wpList_load_wanted (by rfl) 90 (.tmp 13) rfl w3.heap.size 0 rfl (hV x) _ hr4 Tryz.underlying90 rfl ix ?_) | (refine wpList_load_wanted (by rfl) 90 (.tmp 11) rfl w1.heap.size 0 rfl (hV r) _ hr4b Tryz.underlying90 rfl ir ?_))
      go_ret
      exact ⟨rfl, hB3.trans (((Below.refl _ _).alloc hB3.size _).trans (hb4 _ hB3.size))⟩
    · go_wp2_with (first | (refine wpList_alloc_of rfl 90 rfl z32.toArray alloc_32 ?_) | (refine wpList_store_abs rfl 90 _ _ rfl w3.heap.size 0 (hV x) rfl rfl ht3 ix oX ?_; intro w4 _hw4 hr4 _ht4 hb4; clear _hw4 _ht4; have hr4b : w4.rangeAt w1.heap.size 0 (hV r) := fun j u hu => ((hb4 _ (Nat.le_refl _)).cell (p := ⟨w1.heap.size, 0 + j, none⟩) hs3).trans ((World.cell?_alloc_past _ _ _ hs3).trans (hr3 j u hu))) | (refine wpList_load_wanted (by rfl) 90 (.tmp 13) rfl w3.heap.size 0 rfl (hV x) _ hr4 Tryz.underlying90 rfl ix ?_) | (refine wpList_load_wanted (by rfl) 90 (.tmp 11) rfl w1.heap.size 0 rfl (hV r) _ hr4b Tryz.underlying90 rfl ir ?_))
      go_ret
      exact ⟨rfl, hB3.trans (((Below.refl _ _).alloc hB3.size _).trans (hb4 _ hB3.size))⟩

/-- Does a check take the proof? -/
def inclOk (K : Nat → Int) (s : ByteArray) (i n : Nat) (r : ByteArray) (pf : List ByteArray) : Bool := decide (r.size = 32) && ((climbF (sumOf K) s i n pf).2 && decide ((climbF (sumOf K) s i n pf).1 = r))

set_option maxRecDepth 10000 in
set_option maxHeartbeats 400000 in
/-- CheckInclusion, at a place. -/
theorem achk_any (K : Nat → Int) (s r : ByteArray) (i n : Nat) (pf : List ByteArray) (v : Value) (w : World) (hs : s.size ≤ 140737488355000) (hin : i < n) (hn1 : n ≤ 2147483647) (hl : LeafAt w v pf) (hpf : pf.length ≤ 1000000000) (T : Tab K w) :
    Calls Tryz.prog 75 #[.string s, .int .i64 i, .int .i64 n, .string r, v] w fun e w' => e = .returned (chkV (inclOk K s i n r pf)) ∧ Below w.heap.size w w' := by
  have hc : Calls Tryz.prog 120 #[.string s, .int .i64 i, .int .i64 n, .string r, v] w fun e w' => e = .returned (chkV (inclOk K s i n r pf)) ∧ Below w.heap.size w w' := by
    by_cases hr : r.size = 32
    · have := chk_any s r _ _ i n v w hin hn1 hr (climbF_size _ (sumOf_size K) s i n pf) (fun W hb => climb_any K s hs _ pf v i n W rfl hpf hin hn1 (hl.below hb) (T.below hb))
      rw [show inclOk K s i n r pf = ((climbF (sumOf K) s i n pf).2 && decide ((climbF (sumOf K) s i n pf).1 = r)) by unfold inclOk; simp [hr]]
      exact this
    · have := chk_root s r i n v w hin hn1 hr
      rw [show inclOk K s i n r pf = false by unfold inclOk; simp [hr]]
      exact this
  generalize inclOk K s i n r pf = ok at *
  obtain ⟨ao, cap, rfl⟩ := leaf_form hl
  clear hl T
  generalize pf.length = m at *
  cases ok
  all_goals
    go_enter Tryz.func75, Tryz.ntmps75
    go_wp2_with fail
    refine hc.mono ?_
    rintro e w1 ⟨rfl, hb1⟩
    clear hc
    go_wp2_with fail
    go_ret
    exact ⟨rfl, hb1⟩
end Go.Proofs.YtijdnpoenpjnlaaGreatDoor
