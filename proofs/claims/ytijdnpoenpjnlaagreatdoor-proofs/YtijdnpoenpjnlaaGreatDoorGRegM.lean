import Derived.Test.YtijdnpoenpjnlaaGreatDoorTReadM
import Derived.Test.YtijdnpoenpjnlaaGreatDoorMTreeM
import Derived.Test.YtijdnpoenpjnlaaGreatDoorXRefM
set_option linter.unusedVariables false
set_option linter.unusedSimpArgs false
namespace Go.Proofs.YtijdnpoenpjnlaaGreatDoor
open Go.RowKit

/-- Three results, the first two rows in memory. -/
theorem ret_cell_cell_tmp {P : Program} {fn : Func} {R : Ending → World → Prop} {a : Act} {w : World} {t p u : Tmp} {ty : TypeId} (h : fn.results = #[.cell t ty, .cell p ty, .tmp u]) (b b2 o o2 : Nat) (cs cs2 : List Value) (d : TypeDesc) (v : Value)
    (ht : a.tmps.getD t undef = .pointer (some ⟨b, o, none⟩)) (hp : a.tmps.getD p undef = .pointer (some ⟨b2, o2, none⟩)) (hu' : a.tmps.getD u undef = v) (hc : w.rangeAt b o cs) (hc2 : w.rangeAt b2 o2 cs2) (hu : P.underlying ty = some d) (hd : d.isRow = true) (hi : (P.info? ty).map (·.size) = some cs.length) (hi2 : (P.info? ty).map (·.size) = some cs2.length)
    (hdf : a.defers = []) (hR : R (.returned (.tuple #[.agg cs.toArray, .agg cs2.toArray, v])) w) : bodyPost P fn R .ret a w := by
  refine bodyPost_ret (v := .tuple #[.agg cs.toArray, .agg cs2.toArray, v]) ?_ hdf hR
  have ht' : a.tmps[t]?.getD undef = .pointer (some ⟨b, o, none⟩) := by simpa using ht
  have hp' : a.tmps[p]?.getD undef = .pointer (some ⟨b2, o2, none⟩) := by simpa using hp
  have hu2 : a.tmps[u]?.getD undef = v := by simpa using hu'
  simp only [results, h]
  simp [Sem.run_bind, ht', hp', hu2, asAddr, run_loadVar_mid w b o ty cs d hc hu hd hi, run_loadVar_mid w b2 o2 ty cs2 d hc2 hu hd hi2]
theorem range_store {w : World} {b o q : Nat} {cs cs' : List Value} (h : w.rangeAt b o cs) (hne : b ≠ q) : (w.setCells q 0 cs').rangeAt b o cs := fun j u hu => by
  rw [World.cell?_setCells_out _ _ _ _ ⟨b, o + j, none⟩ (fun e _ => absurd e hne)]; exact h j u hu
theorem range_keep {w w' : World} {b o : Nat} {cs : List Value} (h : w.rangeAt b o cs) (hb : Below w.heap.size w w') (hlt : b < w.heap.size) : w'.rangeAt b o cs := fun j u hu => (hb.cell (p := ⟨b, o + j, none⟩) hlt).trans (h j u hu)
/-- Behind regrow's three blocks: the known root's, and its two results'. -/
structure GS (n : Nat) (w : World) (kn : ByteArray) (w' : World) : Prop where
  b : Below n w w'
  k : w'.rangeAt n 0 (hV kn)
  t1 : w'.there (n + 1) 0 32
  t2 : w'.there (n + 2) 0 32
  z : n + 3 ≤ w'.heap.size
theorem GS.step {n : Nat} {w w' w'' : World} {kn : ByteArray} (h : GS n w kn w') (hb : Below w'.heap.size w' w'') : GS n w kn w'' :=
  ⟨h.b.trans (hb.mono (by have := h.z; omega)), range_keep h.k hb (by have := h.z; omega), there_below hb (by have := h.z; omega) h.t1, there_below hb (by have := h.z; omega) h.t2, Nat.le_trans h.z hb.size⟩
theorem GS.store {n : Nat} {w w' : World} {kn : ByteArray} (h : GS n w kn w') {q : Nat} (hq : n + 1 ≤ q) (cs : List Value) : GS n w kn (w'.setCells q 0 cs) :=
  ⟨below_setCells (by omega) _ _ _ h.b, range_store h.k (by omega), World.there_setCells h.t1 _ _ _, World.there_setCells h.t2 _ _ _, by rw [size_setCells]; exact h.z⟩
theorem GS.stored {n : Nat} {w w' w2 : World} {kn : ByteArray} (h : GS n w kn w') {q : Nat} (hq : n + 1 ≤ q) {cs : List Value} (e : w2 = w'.setCells q 0 cs) : GS n w kn w2 := e ▸ h.store hq cs
theorem range_stored {w w2 : World} {b o q : Nat} {cs cs' : List Value} (h : w.rangeAt b o cs) (hne : b ≠ q) (e : w2 = w.setCells q 0 cs') : w2.rangeAt b o cs := e ▸ range_store h hne
theorem there_stored {w w2 : World} {b q n : Nat} {cs' : List Value} (h : w.there b 0 n) (e : w2 = w.setCells q 0 cs') : w2.there b 0 n := e ▸ World.there_setCells h _ _ _
theorem there_len {w : World} {b n : Nat} {cs : List Value} (e : cs.length = n) (h : w.there b 0 n) : w.there b 0 cs.length := by rw [e]; exact h
theorem GS.drew {n : Nat} {w w' : World} {kn : ByteArray} (h : GS n w kn w') : GS n w kn w'.drew := ⟨h.b.drew, h.k, h.t1, h.t2, h.z⟩
theorem gs_new (kn : ByteArray) (w : World) : GS w.heap.size w kn (((w.alloc (.cells (hV kn).toArray 90)).alloc (.cells z32.toArray 90)).alloc (.cells z32.toArray 90)) := by
  refine ⟨(((Below.refl _ _).alloc (Nat.le_refl _) _).alloc (by simp) _).alloc (by simp; omega) _, World.rangeAt_alloc (World.rangeAt_alloc (range_new w (hV kn) 90) _) _, ?_, ?_, by simp⟩
  · have := there_z32 (w.alloc (.cells (hV kn).toArray 90))
    rw [show (w.alloc (.cells (hV kn).toArray 90)).heap.size = w.heap.size + 1 by simp] at this
    exact there_below ((Below.refl _ _).alloc (Nat.le_refl _) _) (by simp) this
  · have := there_z32 ((w.alloc (.cells (hV kn).toArray 90)).alloc (.cells z32.toArray 90))
    simpa using this
/-- And behind the hash that was cut off. -/
structure GB (n q : Nat) (w : World) (kn b : ByteArray) (w' : World) : Prop where
  s : GS n w kn w'
  r : w'.rangeAt q 0 (hV b)
  lo : n + 3 ≤ q
  hi : q < w'.heap.size
theorem GB.step {n q : Nat} {w w' w'' : World} {kn b : ByteArray} (h : GB n q w kn b w') (hb : Below w'.heap.size w' w'') : GB n q w kn b w'' :=
  ⟨h.s.step hb, range_keep h.r hb h.hi, h.lo, Nat.lt_of_lt_of_le h.hi hb.size⟩
theorem GB.store {n q : Nat} {w w' : World} {kn b : ByteArray} (h : GB n q w kn b w') {p : Nat} (hp : n + 1 ≤ p) (hp2 : p < n + 3) (cs : List Value) : GB n q w kn b (w'.setCells p 0 cs) :=
  ⟨h.s.store hp cs, range_store h.r (by have := h.lo; omega), h.lo, by rw [size_setCells]; exact h.hi⟩
theorem GB.stored {n q : Nat} {w w' w2 : World} {kn b : ByteArray} (h : GB n q w kn b w') {p : Nat} (hp : n + 1 ≤ p) (hp2 : p < n + 3) {cs : List Value} (e : w2 = w'.setCells p 0 cs) : GB n q w kn b w2 := e ▸ h.store hp hp2 cs
theorem GB.drew {n q : Nat} {w w' : World} {kn b : ByteArray} (h : GB n q w kn b w') : GB n q w kn b w'.drew := ⟨h.s.drew, h.r, h.lo, h.hi⟩
theorem GB.b {n q : Nat} {w w' : World} {kn b : ByteArray} (h : GB n q w kn b w') : Below n w w' := h.s.b
def regPost (w : World) (x y : ByteArray) (f : Bool) (e : Ending) (w' : World) : Prop := e = .returned (.tuple #[.agg (hV x).toArray, .agg (hV y).toArray, .bool f]) ∧ Below w.heap.size w w'

set_option maxRecDepth 10000 in
set_option maxHeartbeats 1000000 in
theorem reg_known (kn : ByteArray) (N : Int) (ao : Option Addr) (M cap : Nat) (w : World) (hk32 : kn.size = 32) :
    Calls Tryz.prog 170 #[.int .i64 N, .int .i64 N, .agg (hV kn).toArray, .bool true, .slice ao M cap] w (regPost w kn kn ((M : Int) == 0)) := by
  obtain ⟨wB, hwB⟩ : ∃ wB, wB = ((w.alloc (.cells (hV kn).toArray 90)).alloc (.cells z32.toArray 90)).alloc (.cells z32.toArray 90) := ⟨_, rfl⟩
  have G0 : GS w.heap.size w kn wB := by rw [hwB]; exact gs_new kn w
  have lk := hV_len hk32
  have ik := hV_info hk32
  have ok := hV_one kn
  have G1 := G0.drew
  go_enter Tryz.func170, Tryz.ntmps170
  go_wp2_with (first | (refine wpList_alloc_of rfl 90 rfl z32.toArray alloc_32 ?_))
  rw [← hwB]
  clear hwB
  refine wp_region_noPanic ?_
  refine wp_region_held_drew (S := GS w.heap.size w kn) (by kernel_rfl) G1 (fun _ => ?_)
  refine wpAnyH_take (i := 0) (v := .agg (hV kn).toArray) rfl (by kernel_rfl) (by kernel_rfl) (by kernel_rfl) (fun _ _ _ h => h) (yieldsIf_load_mid (by rfl) 90 (.tmp 7) rfl w.heap.size 0 rfl (hV kn) _ (fun w' hw' => hw'.k) Tryz.underlying90 rfl ik) G1 ?_
  simp only [List.getElem_toArray, List.getElem_cons_zero, List.getElem_cons_succ, Act.put, List.setIfInBounds_toArray, List.set_cons_zero, List.set_cons_succ]
  refine wpAnyH_take (i := 1) (v := .agg (hV kn).toArray) rfl (by kernel_rfl) (by kernel_rfl) (by kernel_rfl) (fun _ _ _ h => h) (yieldsIf_load_mid (by rfl) 90 (.tmp 7) rfl w.heap.size 0 rfl (hV kn) _ (fun w' hw' => hw'.k) Tryz.underlying90 rfl ik) G1 ?_
  simp only [List.getElem_toArray, List.getElem_cons_zero, List.getElem_cons_succ, Act.put, List.setIfInBounds_toArray, List.set_cons_zero, List.set_cons_succ]
  refine wpAnyH_take (i := 2) (v := ?_) rfl (by kernel_rfl) (by kernel_rfl) (by kernel_rfl) (fun _ _ _ h => h) (Or.inl ⟨by rfl, ?_⟩) G1 ?_
  rotate_left 1
  · intro w hSw; clear hSw; go_simp; try with_reducible rfl
  simp only [List.getElem_toArray, List.getElem_cons_zero, List.getElem_cons_succ, Act.put, List.setIfInBounds_toArray, List.set_cons_zero, List.set_cons_succ]
  refine wpAnyH_take (i := 3) (v := ?_) rfl (by kernel_rfl) (by kernel_rfl) (by kernel_rfl) (fun _ _ _ h => h) (Or.inl ⟨by rfl, ?_⟩) G1 ?_
  rotate_left 1
  · intro w hSw; clear hSw; go_simp; try with_reducible rfl
  simp only [List.getElem_toArray, List.getElem_cons_zero, List.getElem_cons_succ, Act.put, List.setIfInBounds_toArray, List.set_cons_zero, List.set_cons_succ]
  refine wpAnyH_take (i := 4) (v := ?_) rfl (by kernel_rfl) (by kernel_rfl) (by kernel_rfl) (fun _ _ _ h => h) (Or.inl ⟨by rfl, ?_⟩) G1 ?_
  rotate_left 1
  · intro w hSw; clear hSw; go_simp; try with_reducible rfl
  simp only [List.getElem_toArray, List.getElem_cons_zero, List.getElem_cons_succ, Act.put, List.setIfInBounds_toArray, List.set_cons_zero, List.set_cons_succ]
  refine wpAnyH_ready (rs := [5]) (by kernel_rfl) (by simp) ?_
  refine AllReadyH.cons rfl (fun K hK => ?_) AllReadyH.nil
  rw [if_pos (by rfl)]
  refine wp_store_mid 90 (.tmp 10) (.tmp 23) rfl (w.heap.size + 1) 0 (hV kn).toArray rfl rfl (by show World.there _ _ _ (hV kn).length; rw [lk]; exact G1.t1) (by show _ = some (hV kn).length; exact ik) (all_oneCell_toArray ok) ?_
  have G2 : GS w.heap.size w kn (wB.drew.setCells (w.heap.size + 1) 0 (hV kn).toArray.toList) := G1.store (Nat.le_refl _) _
  refine hK.out _ _ G2 (fun _ => ?_)
  clear hK K
  try simp only [List.getElem_toArray, List.getElem_cons_zero, List.getElem_cons_succ, Act.put, List.setIfInBounds_toArray, List.set_cons_zero, List.set_cons_succ]
  refine wpAnyH_ready (rs := [6]) (by kernel_rfl) (by simp) ?_
  refine AllReadyH.cons rfl (fun K hK => ?_) AllReadyH.nil
  rw [if_pos (by rfl)]
  refine wp_store_mid 90 (.tmp 11) (.tmp 24) rfl (w.heap.size + 2) 0 (hV kn).toArray rfl rfl (by show World.there _ _ _ (hV kn).length; rw [lk]; exact G2.t2) (by show _ = some (hV kn).length; exact ik) (all_oneCell_toArray ok) ?_
  have G3 : GS w.heap.size w kn ((wB.drew.setCells (w.heap.size + 1) 0 (hV kn).toArray.toList).setCells (w.heap.size + 2) 0 (hV kn).toArray.toList) := G2.store (by omega) _
  refine hK.out _ _ G3 (fun _ => ?_)
  clear hK K
  try simp only [List.getElem_toArray, List.getElem_cons_zero, List.getElem_cons_succ, Act.put, List.setIfInBounds_toArray, List.set_cons_zero, List.set_cons_succ]
  refine wpAnyH_ready (rs := [7]) (by kernel_rfl) (by simp) ?_
  refine AllReadyH.cons rfl (fun K hK => ?_) AllReadyH.nil
  rw [if_pos (by rfl)]
  go_simp
  refine hK.out _ _ G3 (fun _ => ?_)
  clear hK K
  try simp only [List.getElem_toArray, List.getElem_cons_zero, List.getElem_cons_succ, Act.put, List.setIfInBounds_toArray, List.set_cons_zero, List.set_cons_succ]
  refine ⟨by kernel_rfl, ?_⟩
  refine NoPanic.normal ?_
  try simp only [List.getElem_toArray, List.getElem_cons_zero, List.getElem_cons_succ, Act.put, List.setIfInBounds_toArray, List.set_cons_zero, List.set_cons_succ]
  go_wp2_with fail
  exact ret_cell_cell_tmp rfl (w.heap.size + 1) (w.heap.size + 2) 0 0 (hV kn) (hV kn) _ _ rfl rfl rfl (range_store (by have := World.rangeAt_setCells_same wB.drew (w.heap.size + 1) 0 (hV kn) (by rw [lk]; exact G1.t1); simpa using this) (by omega)) (by have := World.rangeAt_setCells_same _ (w.heap.size + 2) 0 (hV kn) (by rw [lk]; exact G2.t2); simpa using this) Tryz.underlying90 rfl ik ik rfl ⟨rfl, G3.b⟩

set_option maxRecDepth 10000 in
set_option maxHeartbeats 1000000 in
theorem reg_bad (kn : ByteArray) (m n : Int) (whole : Bool) (v v' : Value) (cs : List Value) (w : World) (hk32 : kn.size = 32) (hn : ((m == n) && whole) = false) (hl : cs.length = 32) (hone : ∀ u ∈ cs, u.oneCell' = true)
    (hcut : ∀ W, Below w.heap.size w W → Calls Tryz.prog 214 #[v] W fun e w' => e = .returned (.tuple #[v', .agg cs.toArray, .bool false]) ∧ Below W.heap.size W w') :
    Calls Tryz.prog 170 #[.int .i64 m, .int .i64 n, .agg (hV kn).toArray, .bool whole, v] w fun e w' => e = .returned (.tuple #[.agg z32.toArray, .agg z32.toArray, .bool false]) ∧ Below w.heap.size w w' := by
  obtain ⟨wB, hwB⟩ : ∃ wB, wB = ((w.alloc (.cells (hV kn).toArray 90)).alloc (.cells z32.toArray 90)).alloc (.cells z32.toArray 90) := ⟨_, rfl⟩
  have G0 : GS w.heap.size w kn wB := by rw [hwB]; exact gs_new kn w
  have lk := hV_len hk32
  have ik := hV_info hk32
  have ok := hV_one kn
  have hinf : (Tryz.prog.info? 90).map (·.size) = some cs.length := by rw [hl]; exact info_hash
  have hc1 := hcut _ G0.b
  clear hcut
  rw [hwB] at hc1
  have hn' : (m == n) = false ∨ ((m == n) = true ∧ whole = false) := by cases h1 : (m == n) <;> cases whole <;> simp_all
  rcases hn' with hn' | ⟨hn', rfl⟩
  all_goals
    clear hn
    go_enter Tryz.func170, Tryz.ntmps170
    go_wp2_with (first | (refine wpList_alloc_of rfl 90 rfl z32.toArray alloc_32 ?_))
    refine hc1.mono ?_
    rintro e w1 ⟨rfl, hb1⟩
    rw [← hwB] at hb1
    have G1 := G0.step hb1
    have ht1 : (w1.alloc (.cells z32.toArray 90)).there w1.heap.size 0 cs.length := by rw [hl]; exact there_z32 w1
    clear hc1
    go_wp2_with (first | (refine wpList_alloc_of rfl 90 rfl z32.toArray alloc_32 ?_) | (refine wpList_store_abs rfl 90 _ _ rfl w1.heap.size 0 cs rfl rfl ht1 hinf hone ?_; intro w2 _hw2 hr2 _ht2 hb2; clear _hw2 _ht2; have G2 : GS w.heap.size w kn w2 := G1.step (((Below.refl _ _).alloc (Nat.le_refl _) _).trans (hb2 _ (Nat.le_refl _))); have t2 : w2.there (w.heap.size + 1) 0 z32.length := G2.t1) | (refine wpList_build_of rfl 90 rfl z32.toArray build_h32 ?_) | (refine wpList_store_abs rfl 90 _ _ rfl (w.heap.size + 1) 0 z32 rfl rfl t2 z32_info z32_one ?_; intro w3 hw3 hr3 _ht3 hb3; have G3 : GS w.heap.size w kn w3 := G2.stored (Nat.le_refl _) hw3; clear hw3; have t3 : w3.there (w.heap.size + 2) 0 z32.length := G3.t2) | (refine wpList_store_abs rfl 90 _ _ rfl (w.heap.size + 2) 0 z32 rfl rfl t3 z32_info z32_one ?_; intro w4 hw4 hr4 _ht4 hb4; have G4 : GS w.heap.size w kn w4 := G3.stored (by omega) hw4; have hr3' : w4.rangeAt (w.heap.size + 1) 0 z32 := range_stored hr3 (by omega) hw4; clear hw4))
    exact ret_cell_cell_tmp rfl (w.heap.size + 1) (w.heap.size + 2) 0 0 z32 z32 _ _ rfl rfl rfl hr3' hr4 Tryz.underlying90 rfl z32_info z32_info rfl ⟨rfl, G4.b⟩

set_option maxRecDepth 10000 in
set_option maxHeartbeats 1000000 in
theorem reg_all (kn b : ByteArray) (N : Int) (v : Value) (ao : Option Addr) (M cap : Nat) (w : World) (hk32 : kn.size = 32) (hb32 : b.size = 32)
    (hcut : ∀ W, Below w.heap.size w W → Calls Tryz.prog 214 #[v] W fun e w' => e = .returned (.tuple #[.slice ao M cap, .agg (hV b).toArray, .bool true]) ∧ Below W.heap.size W w') :
    Calls Tryz.prog 170 #[.int .i64 N, .int .i64 N, .agg (hV kn).toArray, .bool false, v] w (regPost w b b ((M : Int) == 0)) := by
  obtain ⟨wB, hwB⟩ : ∃ wB, wB = ((w.alloc (.cells (hV kn).toArray 90)).alloc (.cells z32.toArray 90)).alloc (.cells z32.toArray 90) := ⟨_, rfl⟩
  have G0 : GS w.heap.size w kn wB := by rw [hwB]; exact gs_new kn w
  have lk := hV_len hk32
  have ik := hV_info hk32
  have ok := hV_one kn
  have lb := hV_len hb32
  have ib := hV_info hb32
  have ob := hV_one b
  have hc1 := hcut _ G0.b
  rw [hwB] at hc1
  clear hcut
  go_enter Tryz.func170, Tryz.ntmps170
  go_wp2_with (first | (refine wpList_alloc_of rfl 90 rfl z32.toArray alloc_32 ?_))
  refine hc1.mono ?_
  rintro e w1 ⟨rfl, hb1⟩
  rw [← hwB] at hb1
  clear hwB
  have G1 := G0.step hb1
  have z1 := G1.z
  have ht1 : (w1.alloc (.cells z32.toArray 90)).there w1.heap.size 0 (hV b).length := by rw [lb]; exact there_z32 w1
  clear hc1 hb1
  go_wp2_with (first | (refine wpList_alloc_of rfl 90 rfl z32.toArray alloc_32 ?_) | (refine wpList_store_abs rfl 90 _ _ rfl w1.heap.size 0 (hV b) rfl rfl ht1 ib ob ?_; intro w2 _hw2 hr2 _ht2 hb2; clear _hw2 _ht2))
  have B2 : GB w.heap.size w1.heap.size w kn b w2 := ⟨G1.step (((Below.refl _ _).alloc (Nat.le_refl _) _).trans (hb2 _ (Nat.le_refl _))), hr2, z1, by have := (hb2 _ (Nat.le_refl _)).size; simp at this; omega⟩
  clear ht1 hb2 hr2
  have G1 := B2.drew
  refine wp_region_noPanic ?_
  refine wp_region_held_drew (S := GB w.heap.size w1.heap.size w kn b) (by kernel_rfl) G1 (fun _ => ?_)
  refine wpAnyH_take (i := 0) (v := .agg (hV b).toArray) rfl (by kernel_rfl) (by kernel_rfl) (by kernel_rfl) (fun _ _ _ h => h) (yieldsIf_load_mid (by rfl) 90 (.tmp 14) rfl w1.heap.size 0 rfl (hV b) _ (fun w' hw' => hw'.r) Tryz.underlying90 rfl ib) G1 ?_
  simp only [List.getElem_toArray, List.getElem_cons_zero, List.getElem_cons_succ, Act.put, List.setIfInBounds_toArray, List.set_cons_zero, List.set_cons_succ]
  refine wpAnyH_take (i := 1) (v := .agg (hV b).toArray) rfl (by kernel_rfl) (by kernel_rfl) (by kernel_rfl) (fun _ _ _ h => h) (yieldsIf_load_mid (by rfl) 90 (.tmp 14) rfl w1.heap.size 0 rfl (hV b) _ (fun w' hw' => hw'.r) Tryz.underlying90 rfl ib) G1 ?_
  simp only [List.getElem_toArray, List.getElem_cons_zero, List.getElem_cons_succ, Act.put, List.setIfInBounds_toArray, List.set_cons_zero, List.set_cons_succ]
  refine wpAnyH_take (i := 2) (v := ?_) rfl (by kernel_rfl) (by kernel_rfl) (by kernel_rfl) (fun _ _ _ h => h) (Or.inl ⟨by rfl, ?_⟩) G1 ?_
  rotate_left 1
  · intro w hSw; clear hSw; go_simp; try with_reducible rfl
  simp only [List.getElem_toArray, List.getElem_cons_zero, List.getElem_cons_succ, Act.put, List.setIfInBounds_toArray, List.set_cons_zero, List.set_cons_succ]
  refine wpAnyH_take (i := 3) (v := ?_) rfl (by kernel_rfl) (by kernel_rfl) (by kernel_rfl) (fun _ _ _ h => h) (Or.inl ⟨by rfl, ?_⟩) G1 ?_
  rotate_left 1
  · intro w hSw; clear hSw; go_simp; try with_reducible rfl
  simp only [List.getElem_toArray, List.getElem_cons_zero, List.getElem_cons_succ, Act.put, List.setIfInBounds_toArray, List.set_cons_zero, List.set_cons_succ]
  refine wpAnyH_take (i := 4) (v := ?_) rfl (by kernel_rfl) (by kernel_rfl) (by kernel_rfl) (fun _ _ _ h => h) (Or.inl ⟨by rfl, ?_⟩) G1 ?_
  rotate_left 1
  · intro w hSw; clear hSw; go_simp; try with_reducible rfl
  simp only [List.getElem_toArray, List.getElem_cons_zero, List.getElem_cons_succ, Act.put, List.setIfInBounds_toArray, List.set_cons_zero, List.set_cons_succ]
  refine wpAnyH_ready (rs := [5]) (by kernel_rfl) (by simp) ?_
  refine AllReadyH.cons rfl (fun K hK => ?_) AllReadyH.nil
  rw [if_pos (by rfl)]
  refine wp_store_mid 90 (.tmp 10) (.tmp 41) rfl (w.heap.size + 1) 0 (hV b).toArray rfl rfl (by show World.there _ _ _ (hV b).length; rw [lb]; exact G1.s.t1) (by show _ = some (hV b).length; exact ib) (all_oneCell_toArray ob) ?_
  have G2 : GB w.heap.size w1.heap.size w kn b (w2.drew.setCells (w.heap.size + 1) 0 (hV b).toArray.toList) := G1.store (Nat.le_refl _) (by omega) _
  refine hK.out _ _ G2 (fun _ => ?_)
  clear hK K
  try simp only [List.getElem_toArray, List.getElem_cons_zero, List.getElem_cons_succ, Act.put, List.setIfInBounds_toArray, List.set_cons_zero, List.set_cons_succ]
  refine wpAnyH_ready (rs := [6]) (by kernel_rfl) (by simp) ?_
  refine AllReadyH.cons rfl (fun K hK => ?_) AllReadyH.nil
  rw [if_pos (by rfl)]
  refine wp_store_mid 90 (.tmp 11) (.tmp 42) rfl (w.heap.size + 2) 0 (hV b).toArray rfl rfl (by show World.there _ _ _ (hV b).length; rw [lb]; exact G2.s.t2) (by show _ = some (hV b).length; exact ib) (all_oneCell_toArray ob) ?_
  have G3 : GB w.heap.size w1.heap.size w kn b ((w2.drew.setCells (w.heap.size + 1) 0 (hV b).toArray.toList).setCells (w.heap.size + 2) 0 (hV b).toArray.toList) := G2.store (by omega) (by omega) _
  refine hK.out _ _ G3 (fun _ => ?_)
  clear hK K
  try simp only [List.getElem_toArray, List.getElem_cons_zero, List.getElem_cons_succ, Act.put, List.setIfInBounds_toArray, List.set_cons_zero, List.set_cons_succ]
  refine wpAnyH_ready (rs := [7]) (by kernel_rfl) (by simp) ?_
  refine AllReadyH.cons rfl (fun K hK => ?_) AllReadyH.nil
  rw [if_pos (by rfl)]
  go_simp
  refine hK.out _ _ G3 (fun _ => ?_)
  clear hK K
  try simp only [List.getElem_toArray, List.getElem_cons_zero, List.getElem_cons_succ, Act.put, List.setIfInBounds_toArray, List.set_cons_zero, List.set_cons_succ]
  refine ⟨by kernel_rfl, ?_⟩
  refine NoPanic.normal ?_
  try simp only [List.getElem_toArray, List.getElem_cons_zero, List.getElem_cons_succ, Act.put, List.setIfInBounds_toArray, List.set_cons_zero, List.set_cons_succ]
  go_wp2_with fail
  exact ret_cell_cell_tmp rfl (w.heap.size + 1) (w.heap.size + 2) 0 0 (hV b) (hV b) _ _ rfl rfl rfl (range_store (by have := World.rangeAt_setCells_same w2.drew (w.heap.size + 1) 0 (hV b) (by rw [lb]; exact G1.s.t1); simpa using this) (by omega)) (by have := World.rangeAt_setCells_same _ (w.heap.size + 2) 0 (hV b) (by rw [lb]; exact G2.s.t2); simpa using this) Tryz.underlying90 rfl ib ib rfl ⟨rfl, G3.b⟩
end Go.Proofs.YtijdnpoenpjnlaaGreatDoor
set_option linter.unusedVariables false
set_option linter.unusedSimpArgs false
namespace Go.Proofs.YtijdnpoenpjnlaaGreatDoor
open Go.RowKit

set_option maxRecDepth 10000 in
set_option maxHeartbeats 2000000 in
theorem reg_left (kn b x y h : ByteArray) (m n k : Nat) (whole f : Bool) (v : Value) (ao : Option Addr) (M cap : Nat) (w : World) (hk32 : kn.size = 32) (hb32 : b.size = 32) (hx32 : x.size = 32) (hy32 : y.size = 32) (h32 : h.size = 32) (hn : 2 ≤ n) (hn1 : n ≤ 2147483647) (hm0 : 0 < m) (hmn : m < n) (hk1 : k < n) (hmk : m ≤ k)
    (hcut : ∀ W, Below w.heap.size w W → Calls Tryz.prog 214 #[v] W fun e w' => e = .returned (.tuple #[.slice ao M cap, .agg (hV b).toArray, .bool true]) ∧ Below W.heap.size W w')
    (hsp : ∀ W, Calls Tryz.prog 163 #[.int .i64 n] W fun e w' => e = .returned (.int .i64 k) ∧ w' = W)
    (hrec : ∀ W, Below w.heap.size w W → Calls Tryz.prog 170 #[.int .i64 m, .int .i64 k, .agg (hV kn).toArray, .bool whole, .slice ao M cap] W (regPost W x y f))
    (hj0 : ∀ W, Below w.heap.size w W → Calls Tryz.prog 164 #[.agg (hV y).toArray, .agg (hV b).toArray] W fun e w' => e = .returned (.agg (hV h).toArray) ∧ Below W.heap.size W w') :
    Calls Tryz.prog 170 #[.int .i64 m, .int .i64 n, .agg (hV kn).toArray, .bool whole, v] w (regPost w x h f) := by
  obtain ⟨wB, hwB⟩ : ∃ wB, wB = ((w.alloc (.cells (hV kn).toArray 90)).alloc (.cells z32.toArray 90)).alloc (.cells z32.toArray 90) := ⟨_, rfl⟩
  have G0 : GS w.heap.size w kn wB := by rw [hwB]; exact gs_new kn w
  have lk := hV_len hk32
  have ik := hV_info hk32
  have ok := hV_one kn
  have lb := hV_len hb32
  have ib := hV_info hb32
  have ob := hV_one b
  have hc1 := hcut _ G0.b
  rw [hwB] at hc1
  clear hcut
  have lx := hV_len hx32
  have ix := hV_info hx32
  have ox := hV_one x
  have ly := hV_len hy32
  have iy := hV_info hy32
  have oy := hV_one y
  have lh := hV_len h32
  have ih := hV_info h32
  have oh := hV_one h
  have mn : ((m : Int) == (n : Int)) = false := by rw [beq_eq_false_iff_ne]; omega
  have mk : (m : Int) ≤ (k : Int) := by omega
  have HREC : Hid (∀ W, Below w.heap.size w W → Calls Tryz.prog 170 #[.int .i64 m, .int .i64 k, .agg (hV kn).toArray, .bool whole, .slice ao M cap] W (regPost W x y f)) := hrec
  have HJ0 : Hid (∀ W, Below w.heap.size w W → Calls Tryz.prog 164 #[.agg (hV y).toArray, .agg (hV b).toArray] W fun e w' => e = .returned (.agg (hV h).toArray) ∧ Below W.heap.size W w') := hj0
  clear hrec hj0
  go_enter Tryz.func170, Tryz.ntmps170
  go_wp2_with (first | (refine wpList_alloc_of rfl 90 rfl z32.toArray alloc_32 ?_))
  refine hc1.mono ?_
  rintro e w1 ⟨rfl, hb1⟩
  rw [← hwB] at hb1
  clear hwB
  have G1 := G0.step hb1
  have z1 := G1.z
  have ht1 : (w1.alloc (.cells z32.toArray 90)).there w1.heap.size 0 (hV b).length := by rw [lb]; exact there_z32 w1
  clear hc1 hb1
  go_wp2_with (first | (refine wpList_alloc_of rfl 90 rfl z32.toArray alloc_32 ?_) | (refine wpList_store_abs rfl 90 _ _ rfl w1.heap.size 0 (hV b) rfl rfl ht1 ib ob ?_; intro w2 _hw2 hr2 _ht2 hb2; clear _hw2 _ht2) | (go_at_call 163; refine (hsp _).mono ?_; rintro e wx ⟨rfl, hwx⟩; obtain rfl : w2 = wx := hwx.symm; clear hwx) | (refine wpList_load_mid rfl 90 (.tmp 7) rfl w.heap.size 0 rfl (hV kn) _ (range_keep G1.k (((Below.refl _ _).alloc (Nat.le_refl _) _).trans (hb2 _ (Nat.le_refl _))) (by omega)) Tryz.underlying90 rfl ik ?_))
  have B2 : GB w.heap.size w1.heap.size w kn b w2 := ⟨G1.step (((Below.refl _ _).alloc (Nat.le_refl _) _).trans (hb2 _ (Nat.le_refl _))), hr2, z1, by have := (hb2 _ (Nat.le_refl _)).size; simp at this; omega⟩
  clear ht1 hb2 hr2
  clear hsp
  refine (HREC.out w2 B2.b).mono ?_
  rintro e w3 ⟨rfl, hb3⟩
  have B3 := B2.step hb3
  have t3 : w3.there (w.heap.size + 1) 0 (hV x).length := by rw [lx]; exact B3.s.t1
  clear hb3
  go_wp2_with (first | (refine wpList_store_abs rfl 90 _ _ rfl (w.heap.size + 1) 0 (hV x) rfl rfl t3 ix ox ?_; intro w4 hw4 hr4 _ht4 _hb4; have B4 : GB w.heap.size w1.heap.size w kn b w4 := B3.stored (Nat.le_refl _) (by omega) hw4; clear hw4 _ht4 _hb4; have t4 : w4.there (w.heap.size + 2) 0 (hV y).length := there_len ly B4.s.t2) | (refine wpList_store_abs rfl 90 _ _ rfl (w.heap.size + 2) 0 (hV y) rfl rfl t4 iy oy ?_; intro w5 hw5 hr5 _ht5 _hb5; have B5 : GB w.heap.size w1.heap.size w kn b w5 := B4.stored (by omega) (by omega) hw5; have hr4' : w5.rangeAt (w.heap.size + 1) 0 (hV x) := range_stored hr4 (by omega) hw5; clear hw5 _ht5 _hb5))
  have J0 : GB w.heap.size w1.heap.size w kn b w5.drew ∧ w5.drew.rangeAt (w.heap.size + 1) 0 (hV x) := ⟨B5.drew, hr4'⟩
  refine wp_region_noPanic ?_
  refine wp_region_held_drew (S := fun W => GB w.heap.size w1.heap.size w kn b W ∧ W.rangeAt (w.heap.size + 1) 0 (hV x)) (by kernel_rfl) J0 (fun _ => ?_)
  refine wpAnyH_take (i := 0) (v := .agg (hV x).toArray) rfl (by kernel_rfl) (by kernel_rfl) (by kernel_rfl) (fun _ _ _ h => h) (yieldsIf_load_mid (by rfl) 90 (.tmp 10) rfl (w.heap.size + 1) 0 rfl (hV x) _ (fun w' hw' => hw'.2) Tryz.underlying90 rfl ix) J0 ?_
  simp only [List.getElem_toArray, List.getElem_cons_zero, List.getElem_cons_succ, Act.put, List.setIfInBounds_toArray, List.set_cons_zero, List.set_cons_succ]
  refine wpAnyH_take (i := 2) (v := .agg (hV b).toArray) rfl (by kernel_rfl) (by kernel_rfl) (by kernel_rfl) (fun _ _ _ h => h) (yieldsIf_load_mid (by rfl) 90 (.tmp 14) rfl w1.heap.size 0 rfl (hV b) _ (fun w' hw' => hw'.1.r) Tryz.underlying90 rfl ib) J0 ?_
  simp only [List.getElem_toArray, List.getElem_cons_zero, List.getElem_cons_succ, Act.put, List.setIfInBounds_toArray, List.set_cons_zero, List.set_cons_succ]
  refine wpAnyH_take (i := 4) (v := ?_) rfl (by kernel_rfl) (by kernel_rfl) (by kernel_rfl) (fun _ _ _ h => h) (Or.inl ⟨by rfl, ?_⟩) J0 ?_
  rotate_left 1
  · intro w hSw; clear hSw; go_simp; try with_reducible rfl
  simp only [List.getElem_toArray, List.getElem_cons_zero, List.getElem_cons_succ, Act.put, List.setIfInBounds_toArray, List.set_cons_zero, List.set_cons_succ]
  refine wpAnyH_ready (rs := [1]) (by kernel_rfl) (by simp) ?_
  refine AllReadyH.cons rfl (fun K hK => ?_) AllReadyH.nil
  rw [if_pos (by rfl)]
  refine wp_load_mid 90 (.tmp 11) rfl (w.heap.size + 2) 0 rfl (hV y) _ hr5 Tryz.underlying90 rfl iy ?_
  refine hK.out _ _ J0 (fun _ => ?_)
  clear hK K
  try simp only [List.getElem_toArray, List.getElem_cons_zero, List.getElem_cons_succ, Act.put, List.setIfInBounds_toArray, List.set_cons_zero, List.set_cons_succ]
  refine wpAnyH_ready (rs := [3]) (by kernel_rfl) (by simp) ?_
  refine AllReadyH.cons rfl (fun K hK => ?_) AllReadyH.nil
  rw [if_pos (by rfl)]
  go_simp
  refine (HJ0.out _ J0.1.b).mono ?_
  rintro e w6 ⟨rfl, hb6⟩
  have J1 : GB w.heap.size w1.heap.size w kn b w6 ∧ w6.rangeAt (w.heap.size + 1) 0 (hV x) := ⟨J0.1.step hb6, range_keep J0.2 hb6 (by have := J0.1.s.z; omega)⟩
  refine hK.out _ _ J1 (fun _ => ?_)
  clear hK K
  try simp only [List.getElem_toArray, List.getElem_cons_zero, List.getElem_cons_succ, Act.put, List.setIfInBounds_toArray, List.set_cons_zero, List.set_cons_succ]
  refine wpAnyH_ready (rs := [5]) (by kernel_rfl) (by simp) ?_
  refine AllReadyH.cons rfl (fun K hK => ?_) AllReadyH.nil
  rw [if_pos (by rfl)]
  refine wp_store_mid 90 (.tmp 10) (.tmp 61) rfl (w.heap.size + 1) 0 (hV x).toArray rfl rfl (by show World.there _ _ _ (hV x).length; rw [lx]; exact J1.1.s.t1) (by show _ = some (hV x).length; exact ix) (all_oneCell_toArray ox) ?_
  have J2 : GB w.heap.size w1.heap.size w kn b (w6.setCells (w.heap.size + 1) 0 (hV x).toArray.toList) ∧ (w6.setCells (w.heap.size + 1) 0 (hV x).toArray.toList).rangeAt (w.heap.size + 1) 0 (hV x) := ⟨J1.1.store (Nat.le_refl _) (by omega) _, by have := World.rangeAt_setCells_same w6 (w.heap.size + 1) 0 (hV x) (by rw [lx]; exact J1.1.s.t1); simpa using this⟩
  refine hK.out _ _ J2 (fun _ => ?_)
  clear hK K
  try simp only [List.getElem_toArray, List.getElem_cons_zero, List.getElem_cons_succ, Act.put, List.setIfInBounds_toArray, List.set_cons_zero, List.set_cons_succ]
  refine wpAnyH_ready (rs := [6]) (by kernel_rfl) (by simp) ?_
  refine AllReadyH.cons rfl (fun K hK => ?_) AllReadyH.nil
  rw [if_pos (by rfl)]
  refine wp_store_mid 90 (.tmp 11) (.tmp 64) rfl (w.heap.size + 2) 0 (hV h).toArray rfl rfl (by show World.there _ _ _ (hV h).length; rw [lh]; exact J2.1.s.t2) (by show _ = some (hV h).length; exact ih) (all_oneCell_toArray oh) ?_
  have J3 : GB w.heap.size w1.heap.size w kn b ((w6.setCells (w.heap.size + 1) 0 (hV x).toArray.toList).setCells (w.heap.size + 2) 0 (hV h).toArray.toList) ∧ ((w6.setCells (w.heap.size + 1) 0 (hV x).toArray.toList).setCells (w.heap.size + 2) 0 (hV h).toArray.toList).rangeAt (w.heap.size + 1) 0 (hV x) := ⟨J2.1.store (by omega) (by omega) _, range_store J2.2 (by omega)⟩
  refine hK.out _ _ J3 (fun _ => ?_)
  clear hK K
  try simp only [List.getElem_toArray, List.getElem_cons_zero, List.getElem_cons_succ, Act.put, List.setIfInBounds_toArray, List.set_cons_zero, List.set_cons_succ]
  refine wpAnyH_ready (rs := [7]) (by kernel_rfl) (by simp) ?_
  refine AllReadyH.cons rfl (fun K hK => ?_) AllReadyH.nil
  rw [if_pos (by rfl)]
  go_simp
  refine hK.out _ _ J3 (fun _ => ?_)
  clear hK K
  try simp only [List.getElem_toArray, List.getElem_cons_zero, List.getElem_cons_succ, Act.put, List.setIfInBounds_toArray, List.set_cons_zero, List.set_cons_succ]
  refine ⟨by kernel_rfl, ?_⟩
  refine NoPanic.normal ?_
  try simp only [List.getElem_toArray, List.getElem_cons_zero, List.getElem_cons_succ, Act.put, List.setIfInBounds_toArray, List.set_cons_zero, List.set_cons_succ]
  go_wp2_with fail
  exact ret_cell_cell_tmp rfl (w.heap.size + 1) (w.heap.size + 2) 0 0 (hV x) (hV h) _ _ rfl rfl rfl (J3.2) (by have := World.rangeAt_setCells_same _ (w.heap.size + 2) 0 (hV h) (by rw [lh]; exact J2.1.s.t2); simpa using this) Tryz.underlying90 rfl ix ih rfl ⟨rfl, J3.1.b⟩

set_option maxRecDepth 10000 in
set_option maxHeartbeats 2000000 in
theorem reg_right (kn b x y g h : ByteArray) (m n k : Nat) (whole f : Bool) (v : Value) (ao : Option Addr) (M cap : Nat) (w : World) (hk32 : kn.size = 32) (hb32 : b.size = 32) (hx32 : x.size = 32) (hy32 : y.size = 32) (g32 : g.size = 32)  (h32 : h.size = 32) (hn : 2 ≤ n) (hn1 : n ≤ 2147483647) (hm0 : 0 < m) (hmn : m < n) (hk1 : k < n) (hmk : k < m)
    (hcut : ∀ W, Below w.heap.size w W → Calls Tryz.prog 214 #[v] W fun e w' => e = .returned (.tuple #[.slice ao M cap, .agg (hV b).toArray, .bool true]) ∧ Below W.heap.size W w')
    (hsp : ∀ W, Calls Tryz.prog 163 #[.int .i64 n] W fun e w' => e = .returned (.int .i64 k) ∧ w' = W)
    (hrec : ∀ W, Below w.heap.size w W → Calls Tryz.prog 170 #[.int .i64 ((m : Int) - (k : Int)), .int .i64 ((n : Int) - (k : Int)), .agg (hV kn).toArray, .bool false, .slice ao M cap] W (regPost W x y f))
    (hj0 : ∀ W, Below w.heap.size w W → Calls Tryz.prog 164 #[.agg (hV b).toArray, .agg (hV x).toArray] W fun e w' => e = .returned (.agg (hV g).toArray) ∧ Below W.heap.size W w')
    (hj1 : ∀ W, Below w.heap.size w W → Calls Tryz.prog 164 #[.agg (hV b).toArray, .agg (hV y).toArray] W fun e w' => e = .returned (.agg (hV h).toArray) ∧ Below W.heap.size W w') :
    Calls Tryz.prog 170 #[.int .i64 m, .int .i64 n, .agg (hV kn).toArray, .bool whole, v] w (regPost w g h f) := by
  obtain ⟨wB, hwB⟩ : ∃ wB, wB = ((w.alloc (.cells (hV kn).toArray 90)).alloc (.cells z32.toArray 90)).alloc (.cells z32.toArray 90) := ⟨_, rfl⟩
  have G0 : GS w.heap.size w kn wB := by rw [hwB]; exact gs_new kn w
  have lk := hV_len hk32
  have ik := hV_info hk32
  have ok := hV_one kn
  have lb := hV_len hb32
  have ib := hV_info hb32
  have ob := hV_one b
  have hc1 := hcut _ G0.b
  rw [hwB] at hc1
  clear hcut
  have lx := hV_len hx32
  have ix := hV_info hx32
  have ox := hV_one x
  have ly := hV_len hy32
  have iy := hV_info hy32
  have oy := hV_one y
  have lg := hV_len g32
  have ig := hV_info g32
  have og := hV_one g
  have lh := hV_len h32
  have ih := hV_info h32
  have oh := hV_one h
  have mn : ((m : Int) == (n : Int)) = false := by rw [beq_eq_false_iff_ne]; omega
  have mk : ¬ (m : Int) ≤ (k : Int) := by omega
  have mk2 : (k : Int) < (m : Int) := by omega
  have mk3 : (m : Int) < (n : Int) := by omega
  have HREC : Hid (∀ W, Below w.heap.size w W → Calls Tryz.prog 170 #[.int .i64 ((m : Int) - (k : Int)), .int .i64 ((n : Int) - (k : Int)), .agg (hV kn).toArray, .bool false, .slice ao M cap] W (regPost W x y f)) := hrec
  have HJ0 : Hid (∀ W, Below w.heap.size w W → Calls Tryz.prog 164 #[.agg (hV b).toArray, .agg (hV x).toArray] W fun e w' => e = .returned (.agg (hV g).toArray) ∧ Below W.heap.size W w') := hj0
  have HJ1 : Hid (∀ W, Below w.heap.size w W → Calls Tryz.prog 164 #[.agg (hV b).toArray, .agg (hV y).toArray] W fun e w' => e = .returned (.agg (hV h).toArray) ∧ Below W.heap.size W w') := hj1
  clear hrec hj0 hj1
  go_enter Tryz.func170, Tryz.ntmps170
  go_wp2_with (first | (refine wpList_alloc_of rfl 90 rfl z32.toArray alloc_32 ?_))
  refine hc1.mono ?_
  rintro e w1 ⟨rfl, hb1⟩
  rw [← hwB] at hb1
  clear hwB
  have G1 := G0.step hb1
  have z1 := G1.z
  have ht1 : (w1.alloc (.cells z32.toArray 90)).there w1.heap.size 0 (hV b).length := by rw [lb]; exact there_z32 w1
  clear hc1 hb1
  go_wp2_with (first | (refine wpList_alloc_of rfl 90 rfl z32.toArray alloc_32 ?_) | (refine wpList_store_abs rfl 90 _ _ rfl w1.heap.size 0 (hV b) rfl rfl ht1 ib ob ?_; intro w2 _hw2 hr2 _ht2 hb2; clear _hw2 _ht2) | (go_at_call 163; refine (hsp _).mono ?_; rintro e wx ⟨rfl, hwx⟩; obtain rfl : w2 = wx := hwx.symm; clear hwx) | (refine wpList_load_mid rfl 90 (.tmp 7) rfl w.heap.size 0 rfl (hV kn) _ (range_keep G1.k (((Below.refl _ _).alloc (Nat.le_refl _) _).trans (hb2 _ (Nat.le_refl _))) (by omega)) Tryz.underlying90 rfl ik ?_))
  have B2 : GB w.heap.size w1.heap.size w kn b w2 := ⟨G1.step (((Below.refl _ _).alloc (Nat.le_refl _) _).trans (hb2 _ (Nat.le_refl _))), hr2, z1, by have := (hb2 _ (Nat.le_refl _)).size; simp at this; omega⟩
  clear ht1 hb2 hr2
  clear hsp
  refine (HREC.out w2 B2.b).mono ?_
  rintro e w3 ⟨rfl, hb3⟩
  have B3 := B2.step hb3
  have t3 : w3.there (w.heap.size + 1) 0 (hV x).length := by rw [lx]; exact B3.s.t1
  clear hb3
  go_wp2_with (first | (refine wpList_store_abs rfl 90 _ _ rfl (w.heap.size + 1) 0 (hV x) rfl rfl t3 ix ox ?_; intro w4 hw4 hr4 _ht4 _hb4; have B4 : GB w.heap.size w1.heap.size w kn b w4 := B3.stored (Nat.le_refl _) (by omega) hw4; clear hw4 _ht4 _hb4; have t4 : w4.there (w.heap.size + 2) 0 (hV y).length := there_len ly B4.s.t2) | (refine wpList_store_abs rfl 90 _ _ rfl (w.heap.size + 2) 0 (hV y) rfl rfl t4 iy oy ?_; intro w5 hw5 hr5 _ht5 _hb5; have B5 : GB w.heap.size w1.heap.size w kn b w5 := B4.stored (by omega) (by omega) hw5; have hr4' : w5.rangeAt (w.heap.size + 1) 0 (hV x) := range_stored hr4 (by omega) hw5; clear hw5 _ht5 _hb5))
  have J0 := B5.drew
  have rx0 : w5.drew.rangeAt (w.heap.size + 1) 0 (hV x) := hr4'
  have ry0 : w5.drew.rangeAt (w.heap.size + 2) 0 (hV y) := hr5
  refine wp_region_noPanic ?_
  refine wp_region_held_drew (S := GB w.heap.size w1.heap.size w kn b) (by kernel_rfl) J0 (fun _ => ?_)
  refine wpAnyH_take (i := 0) (v := .agg (hV b).toArray) rfl (by kernel_rfl) (by kernel_rfl) (by kernel_rfl) (fun _ _ _ h => h) (yieldsIf_load_mid (by rfl) 90 (.tmp 14) rfl w1.heap.size 0 rfl (hV b) _ (fun w' hw' => hw'.r) Tryz.underlying90 rfl ib) J0 ?_
  simp only [List.getElem_toArray, List.getElem_cons_zero, List.getElem_cons_succ, Act.put, List.setIfInBounds_toArray, List.set_cons_zero, List.set_cons_succ]
  refine wpAnyH_take (i := 3) (v := .agg (hV b).toArray) rfl (by kernel_rfl) (by kernel_rfl) (by kernel_rfl) (fun _ _ _ h => h) (yieldsIf_load_mid (by rfl) 90 (.tmp 14) rfl w1.heap.size 0 rfl (hV b) _ (fun w' hw' => hw'.r) Tryz.underlying90 rfl ib) J0 ?_
  simp only [List.getElem_toArray, List.getElem_cons_zero, List.getElem_cons_succ, Act.put, List.setIfInBounds_toArray, List.set_cons_zero, List.set_cons_succ]
  refine wpAnyH_take (i := 6) (v := ?_) rfl (by kernel_rfl) (by kernel_rfl) (by kernel_rfl) (fun _ _ _ h => h) (Or.inl ⟨by rfl, ?_⟩) J0 ?_
  rotate_left 1
  · intro w hSw; clear hSw; go_simp; try with_reducible rfl
  simp only [List.getElem_toArray, List.getElem_cons_zero, List.getElem_cons_succ, Act.put, List.setIfInBounds_toArray, List.set_cons_zero, List.set_cons_succ]
  refine wpAnyH_ready (rs := [1, 4]) (by kernel_rfl) (by simp) ?_
  refine AllReadyH.cons rfl (fun K hK => ?_) (AllReadyH.cons rfl (fun K hK => ?_) AllReadyH.nil)
  · rw [if_pos (by rfl)]
    refine wp_load_mid 90 (.tmp 10) rfl (w.heap.size + 1) 0 rfl (hV x) _ rx0 Tryz.underlying90 rfl ix ?_
    refine hK.out _ _ J0 (fun _ => ?_)
    clear hK K
    try simp only [List.getElem_toArray, List.getElem_cons_zero, List.getElem_cons_succ, Act.put, List.setIfInBounds_toArray, List.set_cons_zero, List.set_cons_succ]
    refine wpAnyH_ready (rs := [2, 4]) (by kernel_rfl) (by simp) ?_
    refine AllReadyH.cons rfl (fun K hK => ?_) (AllReadyH.cons rfl (fun K hK => ?_) AllReadyH.nil)
    · rw [if_pos (by rfl)]
      go_simp
      refine (HJ0.out _ J0.b).mono ?_
      rintro e w11 ⟨rfl, hbw11⟩
      have Jw11 := J0.step hbw11
      have rxw11 := range_keep rx0 hbw11 (by have := J0.s.z; omega)
      have ryw11 := range_keep ry0 hbw11 (by have := J0.s.z; omega)
      refine hK.out _ _ Jw11 (fun _ => ?_)
      clear hK K
      try simp only [List.getElem_toArray, List.getElem_cons_zero, List.getElem_cons_succ, Act.put, List.setIfInBounds_toArray, List.set_cons_zero, List.set_cons_succ]
      refine wpAnyH_ready (rs := [4]) (by kernel_rfl) (by simp) ?_
      refine AllReadyH.cons rfl (fun K hK => ?_) AllReadyH.nil
      rw [if_pos (by rfl)]
      refine wp_load_mid 90 (.tmp 11) rfl (w.heap.size + 2) 0 rfl (hV y) _ ryw11 Tryz.underlying90 rfl iy ?_
      refine hK.out _ _ Jw11 (fun _ => ?_)
      clear hK K
      try simp only [List.getElem_toArray, List.getElem_cons_zero, List.getElem_cons_succ, Act.put, List.setIfInBounds_toArray, List.set_cons_zero, List.set_cons_succ]
      refine wpAnyH_ready (rs := [5]) (by kernel_rfl) (by simp) ?_
      refine AllReadyH.cons rfl (fun K hK => ?_) AllReadyH.nil
      rw [if_pos (by rfl)]
      go_simp
      refine (HJ1.out _ Jw11.b).mono ?_
      rintro e w13 ⟨rfl, hbw13⟩
      have Jw13 := Jw11.step hbw13
      have rxw13 := range_keep rxw11 hbw13 (by have := Jw11.s.z; omega)
      have ryw13 := range_keep ryw11 hbw13 (by have := Jw11.s.z; omega)
      refine hK.out _ _ Jw13 (fun _ => ?_)
      clear hK K
      try simp only [List.getElem_toArray, List.getElem_cons_zero, List.getElem_cons_succ, Act.put, List.setIfInBounds_toArray, List.set_cons_zero, List.set_cons_succ]
      refine wpAnyH_ready (rs := [7]) (by kernel_rfl) (by simp) ?_
      refine AllReadyH.cons rfl (fun K hK => ?_) AllReadyH.nil
      rw [if_pos (by rfl)]
      refine wp_store_mid 90 (.tmp 10) (.tmp 81) rfl (w.heap.size + 1) 0 (hV g).toArray rfl rfl (by show World.there _ _ _ (hV g).length; rw [lg]; exact Jw13.s.t1) (by show _ = some (hV g).length; exact ig) (all_oneCell_toArray og) ?_
      have Ja : GB w.heap.size w1.heap.size w kn b (w13.setCells (w.heap.size + 1) 0 (hV g).toArray.toList) := Jw13.store (Nat.le_refl _) (by omega) _
      refine hK.out _ _ Ja (fun _ => ?_)
      clear hK K
      try simp only [List.getElem_toArray, List.getElem_cons_zero, List.getElem_cons_succ, Act.put, List.setIfInBounds_toArray, List.set_cons_zero, List.set_cons_succ]
      refine wpAnyH_ready (rs := [8]) (by kernel_rfl) (by simp) ?_
      refine AllReadyH.cons rfl (fun K hK => ?_) AllReadyH.nil
      rw [if_pos (by rfl)]
      refine wp_store_mid 90 (.tmp 11) (.tmp 84) rfl (w.heap.size + 2) 0 (hV h).toArray rfl rfl (by show World.there _ _ _ (hV h).length; rw [lh]; exact Ja.s.t2) (by show _ = some (hV h).length; exact ih) (all_oneCell_toArray oh) ?_
      have Jb : GB w.heap.size w1.heap.size w kn b ((w13.setCells (w.heap.size + 1) 0 (hV g).toArray.toList).setCells (w.heap.size + 2) 0 (hV h).toArray.toList) := Ja.store (by omega) (by omega) _
      refine hK.out _ _ Jb (fun _ => ?_)
      clear hK K
      try simp only [List.getElem_toArray, List.getElem_cons_zero, List.getElem_cons_succ, Act.put, List.setIfInBounds_toArray, List.set_cons_zero, List.set_cons_succ]
      refine wpAnyH_ready (rs := [9]) (by kernel_rfl) (by simp) ?_
      refine AllReadyH.cons rfl (fun K hK => ?_) AllReadyH.nil
      rw [if_pos (by rfl)]
      go_simp
      refine hK.out _ _ Jb (fun _ => ?_)
      clear hK K
      try simp only [List.getElem_toArray, List.getElem_cons_zero, List.getElem_cons_succ, Act.put, List.setIfInBounds_toArray, List.set_cons_zero, List.set_cons_succ]
      refine ⟨by kernel_rfl, ?_⟩
      refine NoPanic.normal ?_
      try simp only [List.getElem_toArray, List.getElem_cons_zero, List.getElem_cons_succ, Act.put, List.setIfInBounds_toArray, List.set_cons_zero, List.set_cons_succ]
      go_wp2_with fail
      exact ret_cell_cell_tmp rfl (w.heap.size + 1) (w.heap.size + 2) 0 0 (hV g) (hV h) _ _ rfl rfl rfl (range_store (by have := World.rangeAt_setCells_same w13 (w.heap.size + 1) 0 (hV g) (by rw [lg]; exact Jw13.s.t1); simpa using this) (by omega)) (by have := World.rangeAt_setCells_same _ (w.heap.size + 2) 0 (hV h) (by rw [lh]; exact Ja.s.t2); simpa using this) Tryz.underlying90 rfl ig ih rfl ⟨rfl, Jb.b⟩
    · rw [if_pos (by rfl)]
      refine wp_load_mid 90 (.tmp 11) rfl (w.heap.size + 2) 0 rfl (hV y) _ ry0 Tryz.underlying90 rfl iy ?_
      refine hK.out _ _ J0 (fun _ => ?_)
      clear hK K
      try simp only [List.getElem_toArray, List.getElem_cons_zero, List.getElem_cons_succ, Act.put, List.setIfInBounds_toArray, List.set_cons_zero, List.set_cons_succ]
      refine wpAnyH_ready (rs := [2]) (by kernel_rfl) (by simp) ?_
      refine AllReadyH.cons rfl (fun K hK => ?_) AllReadyH.nil
      rw [if_pos (by rfl)]
      go_simp
      refine (HJ0.out _ J0.b).mono ?_
      rintro e w12 ⟨rfl, hbw12⟩
      have Jw12 := J0.step hbw12
      have rxw12 := range_keep rx0 hbw12 (by have := J0.s.z; omega)
      have ryw12 := range_keep ry0 hbw12 (by have := J0.s.z; omega)
      refine hK.out _ _ Jw12 (fun _ => ?_)
      clear hK K
      try simp only [List.getElem_toArray, List.getElem_cons_zero, List.getElem_cons_succ, Act.put, List.setIfInBounds_toArray, List.set_cons_zero, List.set_cons_succ]
      refine wpAnyH_ready (rs := [5]) (by kernel_rfl) (by simp) ?_
      refine AllReadyH.cons rfl (fun K hK => ?_) AllReadyH.nil
      rw [if_pos (by rfl)]
      go_simp
      refine (HJ1.out _ Jw12.b).mono ?_
      rintro e w13 ⟨rfl, hbw13⟩
      have Jw13 := Jw12.step hbw13
      have rxw13 := range_keep rxw12 hbw13 (by have := Jw12.s.z; omega)
      have ryw13 := range_keep ryw12 hbw13 (by have := Jw12.s.z; omega)
      refine hK.out _ _ Jw13 (fun _ => ?_)
      clear hK K
      try simp only [List.getElem_toArray, List.getElem_cons_zero, List.getElem_cons_succ, Act.put, List.setIfInBounds_toArray, List.set_cons_zero, List.set_cons_succ]
      refine wpAnyH_ready (rs := [7]) (by kernel_rfl) (by simp) ?_
      refine AllReadyH.cons rfl (fun K hK => ?_) AllReadyH.nil
      rw [if_pos (by rfl)]
      refine wp_store_mid 90 (.tmp 10) (.tmp 81) rfl (w.heap.size + 1) 0 (hV g).toArray rfl rfl (by show World.there _ _ _ (hV g).length; rw [lg]; exact Jw13.s.t1) (by show _ = some (hV g).length; exact ig) (all_oneCell_toArray og) ?_
      have Ja : GB w.heap.size w1.heap.size w kn b (w13.setCells (w.heap.size + 1) 0 (hV g).toArray.toList) := Jw13.store (Nat.le_refl _) (by omega) _
      refine hK.out _ _ Ja (fun _ => ?_)
      clear hK K
      try simp only [List.getElem_toArray, List.getElem_cons_zero, List.getElem_cons_succ, Act.put, List.setIfInBounds_toArray, List.set_cons_zero, List.set_cons_succ]
      refine wpAnyH_ready (rs := [8]) (by kernel_rfl) (by simp) ?_
      refine AllReadyH.cons rfl (fun K hK => ?_) AllReadyH.nil
      rw [if_pos (by rfl)]
      refine wp_store_mid 90 (.tmp 11) (.tmp 84) rfl (w.heap.size + 2) 0 (hV h).toArray rfl rfl (by show World.there _ _ _ (hV h).length; rw [lh]; exact Ja.s.t2) (by show _ = some (hV h).length; exact ih) (all_oneCell_toArray oh) ?_
      have Jb : GB w.heap.size w1.heap.size w kn b ((w13.setCells (w.heap.size + 1) 0 (hV g).toArray.toList).setCells (w.heap.size + 2) 0 (hV h).toArray.toList) := Ja.store (by omega) (by omega) _
      refine hK.out _ _ Jb (fun _ => ?_)
      clear hK K
      try simp only [List.getElem_toArray, List.getElem_cons_zero, List.getElem_cons_succ, Act.put, List.setIfInBounds_toArray, List.set_cons_zero, List.set_cons_succ]
      refine wpAnyH_ready (rs := [9]) (by kernel_rfl) (by simp) ?_
      refine AllReadyH.cons rfl (fun K hK => ?_) AllReadyH.nil
      rw [if_pos (by rfl)]
      go_simp
      refine hK.out _ _ Jb (fun _ => ?_)
      clear hK K
      try simp only [List.getElem_toArray, List.getElem_cons_zero, List.getElem_cons_succ, Act.put, List.setIfInBounds_toArray, List.set_cons_zero, List.set_cons_succ]
      refine ⟨by kernel_rfl, ?_⟩
      refine NoPanic.normal ?_
      try simp only [List.getElem_toArray, List.getElem_cons_zero, List.getElem_cons_succ, Act.put, List.setIfInBounds_toArray, List.set_cons_zero, List.set_cons_succ]
      go_wp2_with fail
      exact ret_cell_cell_tmp rfl (w.heap.size + 1) (w.heap.size + 2) 0 0 (hV g) (hV h) _ _ rfl rfl rfl (range_store (by have := World.rangeAt_setCells_same w13 (w.heap.size + 1) 0 (hV g) (by rw [lg]; exact Jw13.s.t1); simpa using this) (by omega)) (by have := World.rangeAt_setCells_same _ (w.heap.size + 2) 0 (hV h) (by rw [lh]; exact Ja.s.t2); simpa using this) Tryz.underlying90 rfl ig ih rfl ⟨rfl, Jb.b⟩
  · rw [if_pos (by rfl)]
    refine wp_load_mid 90 (.tmp 11) rfl (w.heap.size + 2) 0 rfl (hV y) _ ry0 Tryz.underlying90 rfl iy ?_
    refine hK.out _ _ J0 (fun _ => ?_)
    clear hK K
    try simp only [List.getElem_toArray, List.getElem_cons_zero, List.getElem_cons_succ, Act.put, List.setIfInBounds_toArray, List.set_cons_zero, List.set_cons_succ]
    refine wpAnyH_ready (rs := [1]) (by kernel_rfl) (by simp) ?_
    refine AllReadyH.cons rfl (fun K hK => ?_) AllReadyH.nil
    rw [if_pos (by rfl)]
    refine wp_load_mid 90 (.tmp 10) rfl (w.heap.size + 1) 0 rfl (hV x) _ rx0 Tryz.underlying90 rfl ix ?_
    refine hK.out _ _ J0 (fun _ => ?_)
    clear hK K
    try simp only [List.getElem_toArray, List.getElem_cons_zero, List.getElem_cons_succ, Act.put, List.setIfInBounds_toArray, List.set_cons_zero, List.set_cons_succ]
    refine wpAnyH_ready (rs := [2]) (by kernel_rfl) (by simp) ?_
    refine AllReadyH.cons rfl (fun K hK => ?_) AllReadyH.nil
    rw [if_pos (by rfl)]
    go_simp
    refine (HJ0.out _ J0.b).mono ?_
    rintro e w12 ⟨rfl, hbw12⟩
    have Jw12 := J0.step hbw12
    have rxw12 := range_keep rx0 hbw12 (by have := J0.s.z; omega)
    have ryw12 := range_keep ry0 hbw12 (by have := J0.s.z; omega)
    refine hK.out _ _ Jw12 (fun _ => ?_)
    clear hK K
    try simp only [List.getElem_toArray, List.getElem_cons_zero, List.getElem_cons_succ, Act.put, List.setIfInBounds_toArray, List.set_cons_zero, List.set_cons_succ]
    refine wpAnyH_ready (rs := [5]) (by kernel_rfl) (by simp) ?_
    refine AllReadyH.cons rfl (fun K hK => ?_) AllReadyH.nil
    rw [if_pos (by rfl)]
    go_simp
    refine (HJ1.out _ Jw12.b).mono ?_
    rintro e w13 ⟨rfl, hbw13⟩
    have Jw13 := Jw12.step hbw13
    have rxw13 := range_keep rxw12 hbw13 (by have := Jw12.s.z; omega)
    have ryw13 := range_keep ryw12 hbw13 (by have := Jw12.s.z; omega)
    refine hK.out _ _ Jw13 (fun _ => ?_)
    clear hK K
    try simp only [List.getElem_toArray, List.getElem_cons_zero, List.getElem_cons_succ, Act.put, List.setIfInBounds_toArray, List.set_cons_zero, List.set_cons_succ]
    refine wpAnyH_ready (rs := [7]) (by kernel_rfl) (by simp) ?_
    refine AllReadyH.cons rfl (fun K hK => ?_) AllReadyH.nil
    rw [if_pos (by rfl)]
    refine wp_store_mid 90 (.tmp 10) (.tmp 81) rfl (w.heap.size + 1) 0 (hV g).toArray rfl rfl (by show World.there _ _ _ (hV g).length; rw [lg]; exact Jw13.s.t1) (by show _ = some (hV g).length; exact ig) (all_oneCell_toArray og) ?_
    have Ja : GB w.heap.size w1.heap.size w kn b (w13.setCells (w.heap.size + 1) 0 (hV g).toArray.toList) := Jw13.store (Nat.le_refl _) (by omega) _
    refine hK.out _ _ Ja (fun _ => ?_)
    clear hK K
    try simp only [List.getElem_toArray, List.getElem_cons_zero, List.getElem_cons_succ, Act.put, List.setIfInBounds_toArray, List.set_cons_zero, List.set_cons_succ]
    refine wpAnyH_ready (rs := [8]) (by kernel_rfl) (by simp) ?_
    refine AllReadyH.cons rfl (fun K hK => ?_) AllReadyH.nil
    rw [if_pos (by rfl)]
    refine wp_store_mid 90 (.tmp 11) (.tmp 84) rfl (w.heap.size + 2) 0 (hV h).toArray rfl rfl (by show World.there _ _ _ (hV h).length; rw [lh]; exact Ja.s.t2) (by show _ = some (hV h).length; exact ih) (all_oneCell_toArray oh) ?_
    have Jb : GB w.heap.size w1.heap.size w kn b ((w13.setCells (w.heap.size + 1) 0 (hV g).toArray.toList).setCells (w.heap.size + 2) 0 (hV h).toArray.toList) := Ja.store (by omega) (by omega) _
    refine hK.out _ _ Jb (fun _ => ?_)
    clear hK K
    try simp only [List.getElem_toArray, List.getElem_cons_zero, List.getElem_cons_succ, Act.put, List.setIfInBounds_toArray, List.set_cons_zero, List.set_cons_succ]
    refine wpAnyH_ready (rs := [9]) (by kernel_rfl) (by simp) ?_
    refine AllReadyH.cons rfl (fun K hK => ?_) AllReadyH.nil
    rw [if_pos (by rfl)]
    go_simp
    refine hK.out _ _ Jb (fun _ => ?_)
    clear hK K
    try simp only [List.getElem_toArray, List.getElem_cons_zero, List.getElem_cons_succ, Act.put, List.setIfInBounds_toArray, List.set_cons_zero, List.set_cons_succ]
    refine ⟨by kernel_rfl, ?_⟩
    refine NoPanic.normal ?_
    try simp only [List.getElem_toArray, List.getElem_cons_zero, List.getElem_cons_succ, Act.put, List.setIfInBounds_toArray, List.set_cons_zero, List.set_cons_succ]
    go_wp2_with fail
    exact ret_cell_cell_tmp rfl (w.heap.size + 1) (w.heap.size + 2) 0 0 (hV g) (hV h) _ _ rfl rfl rfl (range_store (by have := World.rangeAt_setCells_same w13 (w.heap.size + 1) 0 (hV g) (by rw [lg]; exact Jw13.s.t1); simpa using this) (by omega)) (by have := World.rangeAt_setCells_same _ (w.heap.size + 2) 0 (hV h) (by rw [lh]; exact Ja.s.t2); simpa using this) Tryz.underlying90 rfl ig ih rfl ⟨rfl, Jb.b⟩

theorem zT_hV : hV zT = z32 := z32_hV
/-- The program's regrow: the two roots to which a proof leads. -/
theorem reg_any (K : Nat → Int) (kn : ByteArray) (hk32 : kn.size = 32) : ∀ (q : Nat) (pf : List ByteArray) (v : Value) (m n : Nat) (whole : Bool) (w : World), pf.length = q → q ≤ 1000000000 → 0 < m → m ≤ n → n ≤ 2147483647 → LeafAt w v pf → Tab K w →
    Calls Tryz.prog 170 #[.int .i64 m, .int .i64 n, .agg (hV kn).toArray, .bool whole, v] w (regPost w (regF (sumOf K) kn m n whole pf).1 (regF (sumOf K) kn m n whole pf).2.1 (regF (sumOf K) kn m n whole pf).2.2) := by
  intro q
  induction q with
  | zero =>
    intro pf v m n whole w hq hq1 hm0 hmn hn1 hl T
    obtain rfl : pf = [] := List.eq_nil_of_length_eq_zero hq
    obtain ⟨ao, cap, rfl⟩ := leaf_form hl
    by_cases h1 : m = n ∧ whole = true
    · obtain ⟨rfl, rfl⟩ := h1
      rw [regF_whole]
      exact reg_known kn m ao 0 cap w hk32
    · rw [regF_none _ _ _ _ _ h1]
      unfold regPost
      rw [zT_hV]
      refine reg_bad kn m n whole _ (.slice none 0 0) z32 w hk32 ?_ rfl z32_one (fun W hb => cut_nil ao cap W)
      cases whole
      · simp
      · have : m ≠ n := fun e => h1 ⟨e, rfl⟩
        have h3 : ((m : Int) == (n : Int)) = false := by rw [beq_eq_false_iff_ne]; omega
        rw [h3]; rfl
  | succ q ih =>
    intro pf v m n whole w hq hq1 hm0 hmn hn1 hl T
    obtain ⟨rest, b, rfl⟩ := snoc_of (pf := pf) (by intro e; subst e; simp at hq)
    have hrl : rest.length = q := by simp at hq; exact hq
    obtain ⟨g, off, cap, rfl, hcap, hc⟩ : ∃ g off cap, v = .slice (some ⟨g, off, none⟩) (rest ++ [b]).length cap ∧ (rest ++ [b]).length ≤ cap ∧ ∀ j (h : j < (rest ++ [b]).length), w.cell? ⟨g, off + j, none⟩ = some (.string ((rest ++ [b])[j]'h)) := by
      rcases hl with ⟨e, _⟩ | h
      · simp at e
      · exact h
    have hlen : (rest ++ [b]).length = q + 1 := hq
    by_cases h1 : m = n ∧ whole = true
    · obtain ⟨rfl, rfl⟩ := h1
      rw [regF_whole]
      have := reg_known kn m (some ⟨g, off, none⟩) (rest ++ [b]).length cap w hk32
      rw [show (((rest ++ [b]).length : Int) == 0) = (rest ++ [b]).isEmpty by rw [show (rest ++ [b]).isEmpty = false by simp]; rw [beq_eq_false_iff_ne]; simp; omega] at this
      exact this
    · have hcm : w.cell? ⟨g, off + q, none⟩ = some (.string b) := by
        have := hc q (by omega)
        rw [this]; simp [← hrl]
      have hcut : ∀ W, Below w.heap.size w W → Calls Tryz.prog 214 #[.slice (some ⟨g, off, none⟩) (q + 1) cap] W fun e w' => e = .returned (.tuple #[.slice (some ⟨g, off, none⟩) q cap, .agg (cutV b).toArray, .bool (b.size == 32)]) ∧ Below W.heap.size W w' := fun W hb =>
        cut_any g off q cap b W ((hb.cell (World.block_lt_of_cell? w _ hcm)).trans hcm) (by omega) (by omega)
      rw [hlen]
      have lR : ∀ W, Below w.heap.size w W → LeafAt W (.slice (some ⟨g, off, none⟩) q cap) rest := fun W hb => by
        refine LeafAt.below (w := w) ?_ hb
        refine Or.inr ⟨g, off, cap, by rw [hrl], by omega, fun j hj => ?_⟩
        rw [hc j (by simp; omega), List.getElem_append_left hj]
      by_cases hb32 : b.size = 32
      · have hcV : cutV b = hV b := by unfold cutV; rw [if_pos hb32]
        have hok : (b.size == 32) = true := by rw [hb32]; rfl
        rw [hcV, hok] at hcut
        have hsz := fun m n whole => regF_sizes (sumOf K) (sumOf_size K) kn hk32 _ rest m n whole rfl
        by_cases h2 : m = n
        · have hw : whole = false := by cases whole <;> simp_all
          subst h2 hw
          rw [regF_all _ _ _ _ _ hb32]
          have := reg_all kn b m (.slice (some ⟨g, off, none⟩) (q + 1) cap) (some ⟨g, off, none⟩) q cap w hk32 hb32 hcut
          rw [show ((q : Int) == 0) = rest.isEmpty by
            rw [← hrl]
            cases rest
            · rfl
            · rw [beq_eq_false_iff_ne.2 (by simp; omega)]; rfl] at this
          exact this
        · have h3 : 2 ≤ n := by omega
          have hk0 := halfN_pos n
          have hk1 := halfN_lt h3
          by_cases hik : m ≤ halfN n
          · rw [regF_left _ _ _ _ _ h2 _ _ hb32 hik]
            exact reg_left kn b _ _ _ m n (halfN n) whole _ _ (some ⟨g, off, none⟩) q cap w hk32 hb32 (hsz _ _ _).1 (hsz _ _ _).2 (sumOf_size K _) h3 hn1 hm0 (by omega) hk1 hik hcut (fun W => split_any n W h3 hn1)
              (fun W hb => ih rest _ m (halfN n) whole W hrl (by omega) hm0 hik (by omega) (lR W hb) (T.below hb))
              (fun W hb => join_any _ _ K W (hsz _ _ _).2 hb32 (T.below hb))
          · rw [regF_right _ _ _ _ _ h2 _ _ hb32 hik]
            exact reg_right kn b _ _ _ _ m n (halfN n) whole _ _ (some ⟨g, off, none⟩) q cap w hk32 hb32 (hsz _ _ _).1 (hsz _ _ _).2 (sumOf_size K _) (sumOf_size K _) h3 hn1 hm0 (by omega) hk1 (by omega) hcut (fun W => split_any n W h3 hn1)
              (fun W hb => by
                have := ih rest (.slice (some ⟨g, off, none⟩) q cap) (m - halfN n) (n - halfN n) false W hrl (by omega) (by omega) (by omega) (by omega) (lR W hb) (T.below hb)
                rw [show ((m - halfN n : Nat) : Int) = (m : Int) - (halfN n : Int) by omega, show ((n - halfN n : Nat) : Int) = (n : Int) - (halfN n : Int) by omega] at this
                exact this)
              (fun W hb => join_any _ _ K W hb32 (hsz _ _ _).1 (T.below hb)) (fun W hb => join_any _ _ K W hb32 (hsz _ _ _).2 (T.below hb))
      · rw [regF_bad _ _ _ _ _ h1 _ _ hb32]
        have hok : (b.size == 32) = false := by simp [hb32]
        rw [hok] at hcut
        unfold regPost
        rw [zT_hV]
        refine reg_bad kn m n whole _ _ _ w hk32 ?_ (cutV_len b) (cutV_one b) hcut
        cases whole
        · simp
        · have : m ≠ n := fun e => h1 ⟨e, rfl⟩
          have h3 : ((m : Int) == (n : Int)) = false := by rw [beq_eq_false_iff_ne]; omega
          rw [h3]; rfl
end Go.Proofs.YtijdnpoenpjnlaaGreatDoor
set_option linter.unusedVariables false
set_option linter.unusedSimpArgs false
namespace Go.Proofs.YtijdnpoenpjnlaaGreatDoor
open Go.RowKit

def ckPost (w : World) (ok : Bool) (e : Ending) (w' : World) : Prop := e = .returned (chkV ok) ∧ Below w.heap.size w w'
/-- A store to a block whose number is spelt otherwise. -/
theorem wpList_store_at {P : Program} {ops : Array Oper} {rest : List Oper} {op : Oper} {a : Act} {w : World} {Q : Exit → Act → World → Prop} (hgd : op.guard = none) (ty : TypeId) (x y : Operand) (ho : op.op = .store ty x y)
    (b o : Nat) (cells : List Value) (b' : Nat) (e : b' = b) (hx : a.eval x = .pointer (some ⟨b', o, none⟩)) (hy : a.eval y = .agg cells.toArray)
    (ht : w.there b o cells.length) (hi : (P.info? ty).map (·.size) = some cells.length) (h1 : ∀ u ∈ cells, u.oneCell' = true)
    (h : ∀ w', w' = w.setCells b o cells → w'.rangeAt b o cells → w'.there b o cells.length → (∀ B, B ≤ b → Below B w w') → wpList P ops Q rest (a.put op.dst undef) w') : wpList P ops Q (op :: rest) a w := by
  subst e; exact wpList_store_abs hgd ty x y ho b' o cells hx hy ht hi h1 h
structure CS (n q : Nat) (w : World) (s : ByteArray) (w' : World) : Prop where
  b : Below n w w'
  r : w'.rangeAt q 0 (hV s)
  hi : q < w'.heap.size
theorem CS.step {n q : Nat} {w w' w'' : World} {b : ByteArray} (h : CS n q w b w') (hn : n ≤ q) (hb : Below w'.heap.size w' w'') : CS n q w b w'' :=
  ⟨h.b.trans (hb.mono (by have := h.hi; omega)), range_keep h.r hb h.hi, Nat.lt_of_lt_of_le h.hi hb.size⟩
theorem CS.stored {n q p : Nat} {w w' w2 : World} {b : ByteArray} {cs : List Value} (h : CS n q w b w') (hn : n ≤ p) (hne : q ≠ p) (e : w2 = w'.setCells p 0 cs) : CS n q w b w2 := by
  subst e; exact ⟨below_setCells hn _ _ _ h.b, range_store h.r hne, by rw [size_setCells]; exact h.hi⟩
theorem CS.drew {n q : Nat} {w w' : World} {b : ByteArray} (h : CS n q w b w') : CS n q w b w'.drew := ⟨h.b.drew, h.r, h.hi⟩

set_option maxRecDepth 10000 in
set_option maxHeartbeats 1000000 in
theorem nothing_size (n : Int) (first second : ByteArray) (v : Value) (w : World) (hf : first.size ≠ 32) :
    Calls Tryz.prog 169 #[.int .i64 n, .string first, .string second, v] w (ckPost w false) := by
  have hrd := read_no first w hf
  have oz := z32_one
  go_enter Tryz.func169, Tryz.ntmps169
  go_wp2_with fail
  refine hrd.mono ?_
  rintro e w1 ⟨rfl, hb1⟩
  have ht1 : (w1.alloc (.cells z32.toArray 90)).there w1.heap.size 0 z32.length := there_z32 w1
  go_wp2_with (first | (refine wpList_alloc_of rfl 90 rfl z32.toArray alloc_32 ?_) | (refine wpList_store_abs rfl 90 _ _ rfl w1.heap.size 0 z32 rfl rfl ht1 z32_info oz ?_; intro w2 _hw2 hr2 _ht2 hb2; clear _hw2 _ht2))
  have hB2 : Below w.heap.size w w2 := hb1.trans (((Below.refl _ _).alloc hb1.size _).trans (hb2 _ hb1.size))
  have J0 : Below w.heap.size w w2.drew := hB2.drew
  refine wp_region_noPanic ?_
  refine wp_region_held_drew (S := fun w' => Below w.heap.size w w') (by kernel_rfl) J0 (fun _ => ?_)
  refine wpAnyH_take (i := 0) (v := ?_) rfl (by kernel_rfl) (by kernel_rfl) (by kernel_rfl) (fun _ _ _ h => h) (Or.inl ⟨by rfl, ?_⟩) J0 ?_
  rotate_left 1
  · intro w hSw; clear hSw; go_simp; try with_reducible rfl
  simp only [List.getElem_toArray, List.getElem_cons_zero, List.getElem_cons_succ, Act.put, List.setIfInBounds_toArray, List.set_cons_zero, List.set_cons_succ]
  refine wpAnyH_take (i := 1) (v := ?_) rfl (by kernel_rfl) (by kernel_rfl) (by kernel_rfl) (fun _ _ _ h => h) (Or.inl ⟨by rfl, ?_⟩) J0 ?_
  rotate_left 1
  · intro w hSw; clear hSw; go_simp; try with_reducible rfl
  simp only [List.getElem_toArray, List.getElem_cons_zero, List.getElem_cons_succ, Act.put, List.setIfInBounds_toArray, List.set_cons_zero, List.set_cons_succ]
  refine wpAnyH_take (i := 2) (v := ?_) rfl (by kernel_rfl) (by kernel_rfl) (by kernel_rfl) (fun _ _ _ h => h) (Or.inl ⟨by rfl, ?_⟩) J0 ?_
  rotate_left 1
  · intro w hSw; clear hSw; go_simp; try with_reducible rfl
  simp only [List.getElem_toArray, List.getElem_cons_zero, List.getElem_cons_succ, Act.put, List.setIfInBounds_toArray, List.set_cons_zero, List.set_cons_succ]
  refine wpAnyH_take (i := 3) (v := undef) rfl (by kernel_rfl) (by kernel_rfl) (by kernel_rfl) (fun _ _ _ h => h) (Or.inr ⟨by rfl, rfl⟩) J0 ?_
  simp only [List.getElem_toArray, List.getElem_cons_zero, List.getElem_cons_succ, Act.put, List.setIfInBounds_toArray, List.set_cons_zero, List.set_cons_succ]
  refine wpAnyH_take (i := 4) (v := undef) rfl (by kernel_rfl) (by kernel_rfl) (by kernel_rfl) (fun _ _ _ h => h) (Or.inr ⟨by rfl, rfl⟩) J0 ?_
  simp only [List.getElem_toArray, List.getElem_cons_zero, List.getElem_cons_succ, Act.put, List.setIfInBounds_toArray, List.set_cons_zero, List.set_cons_succ]
  refine wpAnyH_take (i := 5) (v := undef) rfl (by kernel_rfl) (by kernel_rfl) (by kernel_rfl) (fun _ _ _ h => h) (Or.inr ⟨by rfl, rfl⟩) J0 ?_
  simp only [List.getElem_toArray, List.getElem_cons_zero, List.getElem_cons_succ, Act.put, List.setIfInBounds_toArray, List.set_cons_zero, List.set_cons_succ]
  refine wpAnyH_take (i := 6) (v := ?_) rfl (by kernel_rfl) (by kernel_rfl) (by kernel_rfl) (fun _ _ _ h => h) (Or.inl ⟨by rfl, ?_⟩) J0 ?_
  rotate_left 1
  · intro w hSw; clear hSw; go_simp; try with_reducible rfl
  simp only [List.getElem_toArray, List.getElem_cons_zero, List.getElem_cons_succ, Act.put, List.setIfInBounds_toArray, List.set_cons_zero, List.set_cons_succ]
  refine wpAnyH_take (i := 7) (v := ?_) rfl (by kernel_rfl) (by kernel_rfl) (by kernel_rfl) (fun _ _ _ h => h) (Or.inl ⟨by rfl, ?_⟩) J0 ?_
  rotate_left 1
  · intro w hSw; clear hSw; go_simp; try with_reducible rfl
  simp only [List.getElem_toArray, List.getElem_cons_zero, List.getElem_cons_succ, Act.put, List.setIfInBounds_toArray, List.set_cons_zero, List.set_cons_succ]
  refine wpAnyH_take (i := 8) (v := undef) rfl (by kernel_rfl) (by kernel_rfl) (by kernel_rfl) (fun _ _ _ h => h) (Or.inr ⟨by rfl, rfl⟩) J0 ?_
  simp only [List.getElem_toArray, List.getElem_cons_zero, List.getElem_cons_succ, Act.put, List.setIfInBounds_toArray, List.set_cons_zero, List.set_cons_succ]
  refine wpAnyH_take (i := 9) (v := undef) rfl (by kernel_rfl) (by kernel_rfl) (by kernel_rfl) (fun _ _ _ h => h) (Or.inr ⟨by rfl, rfl⟩) J0 ?_
  simp only [List.getElem_toArray, List.getElem_cons_zero, List.getElem_cons_succ, Act.put, List.setIfInBounds_toArray, List.set_cons_zero, List.set_cons_succ]
  refine wpAnyH_take (i := 10) (v := undef) rfl (by kernel_rfl) (by kernel_rfl) (by kernel_rfl) (fun _ _ _ h => h) (Or.inr ⟨by rfl, rfl⟩) J0 ?_
  simp only [List.getElem_toArray, List.getElem_cons_zero, List.getElem_cons_succ, Act.put, List.setIfInBounds_toArray, List.set_cons_zero, List.set_cons_succ]
  refine wpAnyH_take (i := 11) (v := ?_) rfl (by kernel_rfl) (by kernel_rfl) (by kernel_rfl) (fun _ _ _ h => h) (Or.inl ⟨by rfl, ?_⟩) J0 ?_
  rotate_left 1
  · intro w hSw; clear hSw; go_simp; try with_reducible rfl
  simp only [List.getElem_toArray, List.getElem_cons_zero, List.getElem_cons_succ, Act.put, List.setIfInBounds_toArray, List.set_cons_zero, List.set_cons_succ]
  refine ⟨by kernel_rfl, ?_⟩
  refine NoPanic.normal ?_
  try simp only [List.getElem_toArray, List.getElem_cons_zero, List.getElem_cons_succ, Act.put, List.setIfInBounds_toArray, List.set_cons_zero, List.set_cons_succ]
  go_wp2_with fail
  go_ret
  exact ⟨rfl, J0⟩

set_option maxRecDepth 10000 in
set_option maxHeartbeats 1000000 in
theorem nothing_any (n : Nat) (first second R : ByteArray) (ao : Option Addr) (M cap : Nat) (w : World) (hf : first.size = 32) (hR32 : R.size = 32)
    (hR : ∀ W, Below w.heap.size w W → Calls Tryz.prog 115 #[.slice none 0 0] W fun e w' => e = .returned (.agg (hV R).toArray) ∧ Below W.heap.size W w') :
    Calls Tryz.prog 169 #[.int .i64 n, .string first, .string second, .slice ao M cap] w (ckPost w (decide (first = R) && decide (M = 0) && (decide (n ≠ 0) || decide (second = first)))) := by
  have hrd := read_yes first w hf
  have lf := hV_len hf
  have if' := hV_info hf
  have of' := hV_one first
  have heq : ∀ W, (Op.equalIn 10000 90 (.agg (hV first).toArray) (.agg (hV R).toArray)).run Tryz.prog W = .ok (decide (first = R)) W := hash_eq first R hf hR32
  have heq' : ∀ W, (Op.equal 90 (.agg (hV first).toArray) (.agg (hV R).toArray)).run Tryz.prog W = .ok (decide (first = R)) W := heq
  generalize decide (first = R) = same at *
  have HEQ : Hid (∀ W, (Op.equalIn 10000 90 (.agg (hV first).toArray) (.agg (hV R).toArray)).run Tryz.prog W = .ok same W) := heq
  have HEQ' : Hid (∀ W, (Op.equal 90 (.agg (hV first).toArray) (.agg (hV R).toArray)).run Tryz.prog W = .ok same W) := heq'
  have HR : Hid (∀ W, Below w.heap.size w W → Calls Tryz.prog 115 #[.slice none 0 0] W fun e w' => e = .returned (.agg (hV R).toArray) ∧ Below W.heap.size W w') := hR
  clear heq heq' hR
  go_enter Tryz.func169, Tryz.ntmps169
  go_wp2_with fail
  refine hrd.mono ?_
  rintro e w1 ⟨rfl, hb1⟩
  have ht1 : (w1.alloc (.cells z32.toArray 90)).there w1.heap.size 0 (hV first).length := by rw [lf]; exact there_z32 w1
  clear hrd
  go_wp2_with (first | (refine wpList_alloc_of rfl 90 rfl z32.toArray alloc_32 ?_) | (refine wpList_store_abs rfl 90 _ _ rfl w1.heap.size 0 (hV first) rfl rfl ht1 if' of' ?_; intro w2 _hw2 hr2 _ht2 hb2; clear _hw2 _ht2))
  have hs1 := hb1.size
  have C2 : CS w.heap.size w1.heap.size w first w2 := ⟨hb1.trans (((Below.refl _ _).alloc hb1.size _).trans (hb2 _ hb1.size)), hr2, by have := (hb2 _ (Nat.le_refl _)).size; simp at this; omega⟩
  have J0 := C2.drew
  clear ht1 hb2 hr2
  refine wp_region_noPanic ?_
  refine wp_region_held_drew (S := CS w.heap.size w1.heap.size w first) (by kernel_rfl) J0 (fun _ => ?_)
  refine wpAnyH_take (i := 0) (v := ?_) rfl (by kernel_rfl) (by kernel_rfl) (by kernel_rfl) (fun _ _ _ h => h) (Or.inl ⟨by rfl, ?_⟩) J0 ?_
  rotate_left 1
  · intro w hSw; clear hSw; go_simp; try with_reducible rfl
  simp only [List.getElem_toArray, List.getElem_cons_zero, List.getElem_cons_succ, Act.put, List.setIfInBounds_toArray, List.set_cons_zero, List.set_cons_succ]
  refine wpAnyH_take (i := 1) (v := ?_) rfl (by kernel_rfl) (by kernel_rfl) (by kernel_rfl) (fun _ _ _ h => h) (Or.inl ⟨by rfl, ?_⟩) J0 ?_
  rotate_left 1
  · intro w hSw; clear hSw; go_simp; try with_reducible rfl
  simp only [List.getElem_toArray, List.getElem_cons_zero, List.getElem_cons_succ, Act.put, List.setIfInBounds_toArray, List.set_cons_zero, List.set_cons_succ]
  refine wpAnyH_take (i := 2) (v := ?_) rfl (by kernel_rfl) (by kernel_rfl) (by kernel_rfl) (fun _ _ _ h => h) (Or.inl ⟨by rfl, ?_⟩) J0 ?_
  rotate_left 1
  · intro w hSw; clear hSw; go_simp; try with_reducible rfl
  simp only [List.getElem_toArray, List.getElem_cons_zero, List.getElem_cons_succ, Act.put, List.setIfInBounds_toArray, List.set_cons_zero, List.set_cons_succ]
  refine wpAnyH_take (i := 3) (v := .agg (hV first).toArray) rfl (by kernel_rfl) (by kernel_rfl) (by kernel_rfl) (fun _ _ _ h => h) (yieldsIf_load_mid (by rfl) 90 (.tmp 9) rfl w1.heap.size 0 rfl (hV first) _ (fun w' hw' => hw'.r) Tryz.underlying90 rfl if') J0 ?_
  simp only [List.getElem_toArray, List.getElem_cons_zero, List.getElem_cons_succ, Act.put, List.setIfInBounds_toArray, List.set_cons_zero, List.set_cons_succ]
  refine wpAnyH_ready (rs := [4]) (by kernel_rfl) (by simp) ?_
  refine AllReadyH.cons rfl (fun K hK => ?_) AllReadyH.nil
  rw [if_pos (by rfl)]
  go_simp
  refine (HR.out _ J0.b).mono ?_
  rintro e w3 ⟨rfl, hb3⟩
  have J1 := J0.step hs1 hb3
  refine hK.out _ _ J1 (fun _ => ?_)
  clear hK K J0
  have J0 := J1
  try simp only [List.getElem_toArray, List.getElem_cons_zero, List.getElem_cons_succ, Act.put, List.setIfInBounds_toArray, List.set_cons_zero, List.set_cons_succ]
  refine wpAnyH_take (i := 5) (v := ?_) rfl (by kernel_rfl) (by kernel_rfl) (by kernel_rfl) (fun _ _ _ h => h) (Or.inl ⟨by rfl, ?_⟩) J0 ?_
  rotate_left 1
  · intro w hSw; clear hSw; have heq := HEQ.out w; have heq' := HEQ'.out w; go_simp; try with_reducible rfl
  simp only [List.getElem_toArray, List.getElem_cons_zero, List.getElem_cons_succ, Act.put, List.setIfInBounds_toArray, List.set_cons_zero, List.set_cons_succ]
  refine wpAnyH_take (i := 6) (v := ?_) rfl (by kernel_rfl) (by kernel_rfl) (by kernel_rfl) (fun _ _ _ h => h) (Or.inl ⟨by rfl, ?_⟩) J0 ?_
  rotate_left 1
  · intro w hSw; clear hSw; go_simp; try with_reducible rfl
  simp only [List.getElem_toArray, List.getElem_cons_zero, List.getElem_cons_succ, Act.put, List.setIfInBounds_toArray, List.set_cons_zero, List.set_cons_succ]
  refine wpAnyH_take (i := 7) (v := ?_) rfl (by kernel_rfl) (by kernel_rfl) (by kernel_rfl) (fun _ _ _ h => h) (Or.inl ⟨by rfl, ?_⟩) J0 ?_
  rotate_left 1
  · intro w hSw; clear hSw; go_simp; try with_reducible rfl
  simp only [List.getElem_toArray, List.getElem_cons_zero, List.getElem_cons_succ, Act.put, List.setIfInBounds_toArray, List.set_cons_zero, List.set_cons_succ]
  cases same
  · refine wpAnyH_take (i := 8) (v := undef) rfl (by kernel_rfl) (by kernel_rfl) (by kernel_rfl) (fun _ _ _ h => h) (Or.inr ⟨by rfl, rfl⟩) J0 ?_
    simp only [List.getElem_toArray, List.getElem_cons_zero, List.getElem_cons_succ, Act.put, List.setIfInBounds_toArray, List.set_cons_zero, List.set_cons_succ]
    refine wpAnyH_take (i := 9) (v := undef) rfl (by kernel_rfl) (by kernel_rfl) (by kernel_rfl) (fun _ _ _ h => h) (Or.inr ⟨by rfl, rfl⟩) J0 ?_
    simp only [List.getElem_toArray, List.getElem_cons_zero, List.getElem_cons_succ, Act.put, List.setIfInBounds_toArray, List.set_cons_zero, List.set_cons_succ]
    refine wpAnyH_take (i := 10) (v := undef) rfl (by kernel_rfl) (by kernel_rfl) (by kernel_rfl) (fun _ _ _ h => h) (Or.inr ⟨by rfl, rfl⟩) J0 ?_
    simp only [List.getElem_toArray, List.getElem_cons_zero, List.getElem_cons_succ, Act.put, List.setIfInBounds_toArray, List.set_cons_zero, List.set_cons_succ]
    refine wpAnyH_take (i := 11) (v := ?_) rfl (by kernel_rfl) (by kernel_rfl) (by kernel_rfl) (fun _ _ _ h => h) (Or.inl ⟨by rfl, ?_⟩) J0 ?_
    rotate_left 1
    · intro w hSw; clear hSw; go_simp; try with_reducible rfl
    simp only [List.getElem_toArray, List.getElem_cons_zero, List.getElem_cons_succ, Act.put, List.setIfInBounds_toArray, List.set_cons_zero, List.set_cons_succ]
    refine ⟨by kernel_rfl, ?_⟩
    refine NoPanic.normal ?_
    try simp only [List.getElem_toArray, List.getElem_cons_zero, List.getElem_cons_succ, Act.put, List.setIfInBounds_toArray, List.set_cons_zero, List.set_cons_succ]
    go_wp2_with fail
    go_ret
    exact ⟨rfl, J0.b⟩
  · by_cases hM : M = 0
    · subst hM
      refine wpAnyH_take (i := 8) (v := ?_) rfl (by kernel_rfl) (by kernel_rfl) (by kernel_rfl) (fun _ _ _ h => h) (Or.inl ⟨by rfl, ?_⟩) J0 ?_
      rotate_left 1
      · intro w hSw; clear hSw; go_simp; try with_reducible rfl
      simp only [List.getElem_toArray, List.getElem_cons_zero, List.getElem_cons_succ, Act.put, List.setIfInBounds_toArray, List.set_cons_zero, List.set_cons_succ]
      refine wpAnyH_take (i := 9) (v := ?_) rfl (by kernel_rfl) (by kernel_rfl) (by kernel_rfl) (fun _ _ _ h => h) (Or.inl ⟨by rfl, ?_⟩) J0 ?_
      rotate_left 1
      · intro w hSw; clear hSw; go_simp; try with_reducible rfl
      simp only [List.getElem_toArray, List.getElem_cons_zero, List.getElem_cons_succ, Act.put, List.setIfInBounds_toArray, List.set_cons_zero, List.set_cons_succ]
      refine wpAnyH_take (i := 10) (v := ?_) rfl (by kernel_rfl) (by kernel_rfl) (by kernel_rfl) (fun _ _ _ h => h) (Or.inl ⟨by rfl, ?_⟩) J0 ?_
      rotate_left 1
      · intro w hSw; clear hSw; go_simp; try with_reducible rfl
      simp only [List.getElem_toArray, List.getElem_cons_zero, List.getElem_cons_succ, Act.put, List.setIfInBounds_toArray, List.set_cons_zero, List.set_cons_succ]
      refine wpAnyH_take (i := 11) (v := ?_) rfl (by kernel_rfl) (by kernel_rfl) (by kernel_rfl) (fun _ _ _ h => h) (Or.inl ⟨by rfl, ?_⟩) J0 ?_
      rotate_left 1
      · intro w hSw; clear hSw; go_simp; try with_reducible rfl
      simp only [List.getElem_toArray, List.getElem_cons_zero, List.getElem_cons_succ, Act.put, List.setIfInBounds_toArray, List.set_cons_zero, List.set_cons_succ]
      refine ⟨by kernel_rfl, ?_⟩
      refine NoPanic.normal ?_
      try simp only [List.getElem_toArray, List.getElem_cons_zero, List.getElem_cons_succ, Act.put, List.setIfInBounds_toArray, List.set_cons_zero, List.set_cons_succ]
      by_cases hn : n = 0
      · subst hn
        by_cases hs : second = first
        · subst hs
          have bb : (second.toList == second.toList) = true := by rw [← beq_toListBytes]; show (second.data == second.data) = true; simp
          go_wp2_with fail
          go_ret
          exact ⟨by simp [chkV], J0.b⟩
        · have bb : (second.toList == first.toList) = false := by rw [← beq_toListBytes]; show (second.data == first.data) = false; rw [beq_eq_false_iff_ne]; exact fun e => hs (ByteArray.ext e)
          go_wp2_with fail
          go_ret
          exact ⟨by simp [chkV, hs], J0.b⟩
      · have n0 : ((n : Int) == 0) = false := by rw [beq_eq_false_iff_ne]; omega
        go_wp2_with fail
        go_ret
        exact ⟨by simp [chkV, hn], J0.b⟩
    · have m0 : (0 : Int) < (M : Int) := by omega
      refine wpAnyH_take (i := 8) (v := ?_) rfl (by kernel_rfl) (by kernel_rfl) (by kernel_rfl) (fun _ _ _ h => h) (Or.inl ⟨by rfl, ?_⟩) J0 ?_
      rotate_left 1
      · intro w hSw; clear hSw; go_simp; try with_reducible rfl
      simp only [List.getElem_toArray, List.getElem_cons_zero, List.getElem_cons_succ, Act.put, List.setIfInBounds_toArray, List.set_cons_zero, List.set_cons_succ]
      refine wpAnyH_take (i := 9) (v := ?_) rfl (by kernel_rfl) (by kernel_rfl) (by kernel_rfl) (fun _ _ _ h => h) (Or.inl ⟨by rfl, ?_⟩) J0 ?_
      rotate_left 1
      · intro w hSw; clear hSw; go_simp; try with_reducible rfl
      simp only [List.getElem_toArray, List.getElem_cons_zero, List.getElem_cons_succ, Act.put, List.setIfInBounds_toArray, List.set_cons_zero, List.set_cons_succ]
      refine wpAnyH_take (i := 10) (v := ?_) rfl (by kernel_rfl) (by kernel_rfl) (by kernel_rfl) (fun _ _ _ h => h) (Or.inl ⟨by rfl, ?_⟩) J0 ?_
      rotate_left 1
      · intro w hSw; clear hSw; go_simp; try with_reducible rfl
      simp only [List.getElem_toArray, List.getElem_cons_zero, List.getElem_cons_succ, Act.put, List.setIfInBounds_toArray, List.set_cons_zero, List.set_cons_succ]
      refine wpAnyH_take (i := 11) (v := ?_) rfl (by kernel_rfl) (by kernel_rfl) (by kernel_rfl) (fun _ _ _ h => h) (Or.inl ⟨by rfl, ?_⟩) J0 ?_
      rotate_left 1
      · intro w hSw; clear hSw; go_simp; try with_reducible rfl
      simp only [List.getElem_toArray, List.getElem_cons_zero, List.getElem_cons_succ, Act.put, List.setIfInBounds_toArray, List.set_cons_zero, List.set_cons_succ]
      refine ⟨by kernel_rfl, ?_⟩
      refine NoPanic.normal ?_
      try simp only [List.getElem_toArray, List.getElem_cons_zero, List.getElem_cons_succ, Act.put, List.setIfInBounds_toArray, List.set_cons_zero, List.set_cons_succ]
      go_wp2_with fail
      go_ret
      exact ⟨by simp [chkV, hM], J0.b⟩

set_option maxRecDepth 10000 in
set_option maxHeartbeats 2000000 in
theorem ccon_zero (first second : ByteArray) (ok : Bool) (m n : Nat) (v : Value) (w : World) (hmn : m ≤ n) (hn1 : n ≤ 2147483647) (hm : m = 0) (hz : Calls Tryz.prog 169 #[.int .i64 n, .string first, .string second, v] w (ckPost w ok)) :
    Calls Tryz.prog 123 #[.int .i64 m, .int .i64 n, .string first, .string second, v] w (ckPost w (ok)) := by
  have i0 : ¬ (m : Int) < 0 := by omega
  have i1 : ¬ (n : Int) < (m : Int) := by omega
  have i2 : ¬ (2147483647 : Int) < (n : Int) := by omega
  subst hm
  have HZ : Hid (Calls Tryz.prog 169 #[.int .i64 n, .string first, .string second, v] w (ckPost w ok)) := hz
  clear hz
  go_enter Tryz.func123, Tryz.ntmps123
  go_wp2_with fail
  refine HZ.out.mono ?_
  rintro e w1 ⟨rfl, hb1⟩
  generalize hc : chkV ok = vc at *
  go_wp2_with fail
  go_ret
  exact ⟨by rw [hc]; rfl, hb1⟩

set_option maxRecDepth 10000 in
set_option maxHeartbeats 2000000 in
theorem ccon_first (first second : ByteArray) (m n : Nat) (v : Value) (w : World) (hmn : m ≤ n) (hn1 : n ≤ 2147483647) (hm : 0 < m) (hf : first.size ≠ 32) :
    Calls Tryz.prog 123 #[.int .i64 m, .int .i64 n, .string first, .string second, v] w (ckPost w (false)) := by
  have i0 : ¬ (m : Int) < 0 := by omega
  have i1 : ¬ (n : Int) < (m : Int) := by omega
  have i2 : ¬ (2147483647 : Int) < (n : Int) := by omega
  have m0 : ((m : Int) == 0) = false := by rw [beq_eq_false_iff_ne]; omega
  have hrd := read_no first w hf
  have oz := z32_one
  go_enter Tryz.func123, Tryz.ntmps123
  go_wp2_with fail
  refine hrd.mono ?_
  rintro e w1 ⟨rfl, hb1⟩
  have ht1 : (w1.alloc (.cells z32.toArray 90)).there w1.heap.size 0 z32.length := there_z32 w1
  go_wp2_with (first | (refine wpList_alloc_of rfl 90 rfl z32.toArray alloc_32 ?_) | (refine wpList_store_abs rfl 90 _ _ rfl w1.heap.size 0 z32 rfl rfl ht1 z32_info oz ?_; intro w2 _hw2 hr2 _ht2 hb2; clear _hw2 _ht2))
  go_ret
  exact ⟨rfl, hb1.trans (((Below.refl _ _).alloc hb1.size _).trans (hb2 _ hb1.size))⟩

set_option maxRecDepth 10000 in
set_option maxHeartbeats 2000000 in
theorem ccon_second (first second : ByteArray) (m n : Nat) (v : Value) (w : World) (hmn : m ≤ n) (hn1 : n ≤ 2147483647) (hm : 0 < m) (hf : first.size = 32) (hg : second.size ≠ 32) :
    Calls Tryz.prog 123 #[.int .i64 m, .int .i64 n, .string first, .string second, v] w (ckPost w (false)) := by
  have i0 : ¬ (m : Int) < 0 := by omega
  have i1 : ¬ (n : Int) < (m : Int) := by omega
  have i2 : ¬ (2147483647 : Int) < (n : Int) := by omega
  have m0 : ((m : Int) == 0) = false := by rw [beq_eq_false_iff_ne]; omega
  have hrd := read_yes first w hf
  have oz := z32_one
  have lf := hV_len hf
  have jf := hV_info hf
  have of' := hV_one first
  go_enter Tryz.func123, Tryz.ntmps123
  go_wp2_with fail
  refine hrd.mono ?_
  rintro e w1 ⟨rfl, hb1⟩
  have hs1 := hb1.size
  have ht1 : (w1.alloc (.cells z32.toArray 90)).there w1.heap.size 0 (hV first).length := by rw [lf]; exact there_z32 w1
  clear hrd
  go_wp2_with (first | (refine wpList_alloc_of rfl 90 rfl z32.toArray alloc_32 ?_) | (refine wpList_store_abs rfl 90 _ _ rfl w1.heap.size 0 (hV first) rfl rfl ht1 jf of' ?_; intro w2 _hw2 hr2 _ht2 hb2; clear _hw2 _ht2))
  have C2 : CS w.heap.size w1.heap.size w first w2 := ⟨hb1.trans (((Below.refl _ _).alloc hb1.size _).trans (hb2 _ hb1.size)), hr2, by have := (hb2 _ (Nat.le_refl _)).size; simp at this; omega⟩
  have hs2 := C2.b.size
  clear ht1 hb2 hr2
  refine (read_no second w2 hg).mono ?_
  rintro e w3 ⟨rfl, hb3⟩
  have C3 := C2.step hs1 hb3
  have hs3 := C3.b.size
  have ht3 : (w3.alloc (.cells z32.toArray 90)).there w3.heap.size 0 z32.length := there_z32 w3
  go_wp2_with (first | (refine wpList_alloc_of rfl 90 rfl z32.toArray alloc_32 ?_) | (refine wpList_store_abs rfl 90 _ _ rfl w3.heap.size 0 z32 rfl rfl ht3 z32_info oz ?_; intro w4 _hw4 hr4 _ht4 hb4; clear _hw4 _ht4))
  go_ret
  exact ⟨rfl, C3.b.trans (((Below.refl _ _).alloc hs3 _).trans (hb4 _ hs3))⟩

set_option maxRecDepth 10000 in
set_option maxHeartbeats 2000000 in
theorem ccon_any (first second x y : ByteArray) (f : Bool) (m n : Nat) (v : Value) (w : World) (hmn : m ≤ n) (hn1 : n ≤ 2147483647) (hm : 0 < m) (hf : first.size = 32) (hg : second.size = 32) (hx : x.size = 32) (hy : y.size = 32)
    (hreg : ∀ W, Below w.heap.size w W → Calls Tryz.prog 170 #[.int .i64 m, .int .i64 n, .agg (hV first).toArray, .bool true, v] W (regPost W x y f)) :
    Calls Tryz.prog 123 #[.int .i64 m, .int .i64 n, .string first, .string second, v] w (ckPost w (f && (decide (x = first) && decide (y = second)))) := by
  have i0 : ¬ (m : Int) < 0 := by omega
  have i1 : ¬ (n : Int) < (m : Int) := by omega
  have i2 : ¬ (2147483647 : Int) < (n : Int) := by omega
  have m0 : ((m : Int) == 0) = false := by rw [beq_eq_false_iff_ne]; omega
  have hrd := read_yes first w hf
  have oz := z32_one
  have lf := hV_len hf
  have jf := hV_info hf
  have of' := hV_one first
  have lg := hV_len hg
  have jg := hV_info hg
  have og := hV_one second
  have lx := hV_len hx
  have jx := hV_info hx
  have ox := hV_one x
  have ly := hV_len hy
  have jy := hV_info hy
  have oy := hV_one y
  have h1 : ∀ W, (Op.equalIn 10000 90 (.agg (hV x).toArray) (.agg (hV first).toArray)).run Tryz.prog W = .ok (decide (x = first)) W := hash_eq x first hx hf
  have h1' : ∀ W, (Op.equal 90 (.agg (hV x).toArray) (.agg (hV first).toArray)).run Tryz.prog W = .ok (decide (x = first)) W := h1
  have h2 : ∀ W, (Op.equalIn 10000 90 (.agg (hV y).toArray) (.agg (hV second).toArray)).run Tryz.prog W = .ok (decide (y = second)) W := hash_eq y second hy hg
  have h2' : ∀ W, (Op.equal 90 (.agg (hV y).toArray) (.agg (hV second).toArray)).run Tryz.prog W = .ok (decide (y = second)) W := h2
  generalize decide (x = first) = s1 at *
  generalize decide (y = second) = s2 at *
  have E1 : Hid (∀ W, (Op.equalIn 10000 90 (.agg (hV x).toArray) (.agg (hV first).toArray)).run Tryz.prog W = .ok s1 W) := h1
  have E1' : Hid (∀ W, (Op.equal 90 (.agg (hV x).toArray) (.agg (hV first).toArray)).run Tryz.prog W = .ok s1 W) := h1'
  have E2 : Hid (∀ W, (Op.equalIn 10000 90 (.agg (hV y).toArray) (.agg (hV second).toArray)).run Tryz.prog W = .ok s2 W) := h2
  have E2' : Hid (∀ W, (Op.equal 90 (.agg (hV y).toArray) (.agg (hV second).toArray)).run Tryz.prog W = .ok s2 W) := h2'
  have HREG : Hid (∀ W, Below w.heap.size w W → Calls Tryz.prog 170 #[.int .i64 m, .int .i64 n, .agg (hV first).toArray, .bool true, v] W (regPost W x y f)) := hreg
  clear h1 h1' h2 h2' hreg
  go_enter Tryz.func123, Tryz.ntmps123
  go_wp2_with fail
  refine hrd.mono ?_
  rintro e w1 ⟨rfl, hb1⟩
  have hs1 := hb1.size
  have ht1 : (w1.alloc (.cells z32.toArray 90)).there w1.heap.size 0 (hV first).length := by rw [lf]; exact there_z32 w1
  clear hrd
  go_wp2_with (first | (refine wpList_alloc_of rfl 90 rfl z32.toArray alloc_32 ?_) | (refine wpList_store_abs rfl 90 _ _ rfl w1.heap.size 0 (hV first) rfl rfl ht1 jf of' ?_; intro w2 _hw2 hr2 _ht2 hb2; clear _hw2 _ht2))
  have C2 : CS w.heap.size w1.heap.size w first w2 := ⟨hb1.trans (((Below.refl _ _).alloc hb1.size _).trans (hb2 _ hb1.size)), hr2, by have := (hb2 _ (Nat.le_refl _)).size; simp at this; omega⟩
  have hs2 := C2.b.size
  clear ht1 hb2 hr2
  refine (read_yes second w2 hg).mono ?_
  rintro e w3 ⟨rfl, hb3⟩
  have C3 := C2.step hs1 hb3
  have hs3 := C3.b.size
  have ht3 : (w3.alloc (.cells z32.toArray 90)).there w3.heap.size 0 (hV second).length := by rw [lg]; exact there_z32 w3
  clear hb3
  go_wp2_with (first | (refine wpList_alloc_of rfl 90 rfl z32.toArray alloc_32 ?_) | (refine wpList_store_abs rfl 90 _ _ rfl w3.heap.size 0 (hV second) rfl rfl ht3 jg og ?_; intro w4 _hw4 hr4 _ht4 hb4; clear _hw4 _ht4; have r4a : w4.rangeAt w1.heap.size 0 (hV first) := (C3.step hs1 (((Below.refl _ _).alloc (Nat.le_refl _) _).trans (hb4 _ (Nat.le_refl _)))).r) | (refine wpList_load_mid rfl 90 (.tmp 11) rfl w1.heap.size 0 rfl (hV first) _ r4a Tryz.underlying90 rfl jf ?_))
  have C4 := C3.step hs1 (((Below.refl _ _).alloc (Nat.le_refl _) _).trans (hb4 _ (Nat.le_refl _)))
  have hz4 : w3.heap.size < w4.heap.size := by have := (hb4 _ (Nat.le_refl _)).size; simp at this; omega
  clear ht3 hb4 r4a
  refine (HREG.out w4 C4.b).mono ?_
  rintro e w5 ⟨rfl, hb5⟩
  have C5 := C4.step hs1 hb5
  have hs5 := C5.b.size
  have r5 := range_keep hr4 hb5 hz4
  have hz5 : w3.heap.size < w5.heap.size := Nat.lt_of_lt_of_le hz4 hb5.size
  obtain ⟨wA, hwA⟩ : ∃ wA, wA = (w5.alloc (.cells z32.toArray 90)).alloc (.cells z32.toArray 90) := ⟨_, rfl⟩
  have hbA : Below w5.heap.size w5 wA := by rw [hwA]; exact ((Below.refl _ _).alloc (Nat.le_refl _) _).alloc (by simp) _
  have tA : wA.there w5.heap.size 0 (hV x).length := by
    rw [lx, hwA]; exact there_below ((Below.refl _ _).alloc (by simp) _) (Nat.lt_succ_self _) (there_z32 w5)
  have tA2 : wA.there (w5.heap.size + 1) 0 (hV y).length := by
    rw [ly, hwA]; have := there_z32 (w5.alloc (.cells z32.toArray 90)); simpa using this
  have CA := C5.step hs1 hbA
  have rA := range_keep r5 hbA hz5
  have hsA := hbA.size
  have c11 := C5.hi
  clear hb5 hr4 r5 C4 C3 C2
  rw [hwA] at tA tA2
  have e1 := E1.out
  have e1' := E1'.out
  have e2 := E2.out
  have e2' := E2'.out
  cases f
  · go_wp2_with (first | (refine wpList_alloc_of rfl 90 rfl z32.toArray alloc_32 ?_) | (refine wpList_store_abs rfl 90 _ _ rfl w5.heap.size 0 (hV x) rfl rfl tA jx ox ?_; intro w6 hw6 hr6 _ht6 hb6; have t6 : w6.there (w5.heap.size + 1) 0 (hV y).length := there_stored tA2 hw6; rw [← hwA] at hw6; have C6 : CS w.heap.size w1.heap.size w first w6 := CA.stored (by omega) (by omega) hw6; have r6 : w6.rangeAt w3.heap.size 0 (hV second) := range_stored rA (by omega) hw6; clear hw6) | (refine wpList_store_at rfl 90 _ _ rfl (w5.heap.size + 1) 0 (hV y) _ ?_ rfl rfl t6 jy oy ?_; (first | rfl | simp); intro w7 hw7 hr7 _ht7 hb7; have C7 : CS w.heap.size w1.heap.size w first w7 := C6.stored (by omega) (by omega) hw7; have r7 : w7.rangeAt w3.heap.size 0 (hV second) := range_stored r6 (by omega) hw7; have x7 : w7.rangeAt w5.heap.size 0 (hV x) := range_stored hr6 (by omega) hw7; have f7 := C7.r; clear hw7))
    go_ret
    exact ⟨rfl, C7.b⟩
  · cases s1
    · go_wp2_with (first | (refine wpList_alloc_of rfl 90 rfl z32.toArray alloc_32 ?_) | (refine wpList_store_abs rfl 90 _ _ rfl w5.heap.size 0 (hV x) rfl rfl tA jx ox ?_; intro w6 hw6 hr6 _ht6 hb6; have t6 : w6.there (w5.heap.size + 1) 0 (hV y).length := there_stored tA2 hw6; rw [← hwA] at hw6; have C6 : CS w.heap.size w1.heap.size w first w6 := CA.stored (by omega) (by omega) hw6; have r6 : w6.rangeAt w3.heap.size 0 (hV second) := range_stored rA (by omega) hw6; clear hw6) | (refine wpList_store_at rfl 90 _ _ rfl (w5.heap.size + 1) 0 (hV y) _ ?_ rfl rfl t6 jy oy ?_; (first | rfl | simp); intro w7 hw7 hr7 _ht7 hb7; have C7 : CS w.heap.size w1.heap.size w first w7 := C6.stored (by omega) (by omega) hw7; have r7 : w7.rangeAt w3.heap.size 0 (hV second) := range_stored r6 (by omega) hw7; have x7 : w7.rangeAt w5.heap.size 0 (hV x) := range_stored hr6 (by omega) hw7; have f7 := C7.r; clear hw7) | (refine wpList_load_wanted (by rfl) 90 (.tmp 14) rfl w5.heap.size 0 rfl (hV x) _ x7 Tryz.underlying90 rfl jx ?_) | (refine wpList_load_wanted (by rfl) 90 (.tmp 11) rfl w1.heap.size 0 rfl (hV first) _ f7 Tryz.underlying90 rfl jf ?_) | (refine wpList_load_wanted (by rfl) 90 (.tmp 15) rfl (w5.heap.size + 1) 0 rfl (hV y) _ hr7 Tryz.underlying90 rfl jy ?_) | (refine wpList_load_wanted (by rfl) 90 (.tmp 13) rfl w3.heap.size 0 rfl (hV second) _ r7 Tryz.underlying90 rfl jg ?_))
      go_ret
      exact ⟨rfl, C7.b⟩
    · cases s2
      · go_wp2_with (first | (refine wpList_alloc_of rfl 90 rfl z32.toArray alloc_32 ?_) | (refine wpList_store_abs rfl 90 _ _ rfl w5.heap.size 0 (hV x) rfl rfl tA jx ox ?_; intro w6 hw6 hr6 _ht6 hb6; have t6 : w6.there (w5.heap.size + 1) 0 (hV y).length := there_stored tA2 hw6; rw [← hwA] at hw6; have C6 : CS w.heap.size w1.heap.size w first w6 := CA.stored (by omega) (by omega) hw6; have r6 : w6.rangeAt w3.heap.size 0 (hV second) := range_stored rA (by omega) hw6; clear hw6) | (refine wpList_store_at rfl 90 _ _ rfl (w5.heap.size + 1) 0 (hV y) _ ?_ rfl rfl t6 jy oy ?_; (first | rfl | simp); intro w7 hw7 hr7 _ht7 hb7; have C7 : CS w.heap.size w1.heap.size w first w7 := C6.stored (by omega) (by omega) hw7; have r7 : w7.rangeAt w3.heap.size 0 (hV second) := range_stored r6 (by omega) hw7; have x7 : w7.rangeAt w5.heap.size 0 (hV x) := range_stored hr6 (by omega) hw7; have f7 := C7.r; clear hw7) | (refine wpList_load_wanted (by rfl) 90 (.tmp 14) rfl w5.heap.size 0 rfl (hV x) _ x7 Tryz.underlying90 rfl jx ?_) | (refine wpList_load_wanted (by rfl) 90 (.tmp 11) rfl w1.heap.size 0 rfl (hV first) _ f7 Tryz.underlying90 rfl jf ?_) | (refine wpList_load_wanted (by rfl) 90 (.tmp 15) rfl (w5.heap.size + 1) 0 rfl (hV y) _ hr7 Tryz.underlying90 rfl jy ?_) | (refine wpList_load_wanted (by rfl) 90 (.tmp 13) rfl w3.heap.size 0 rfl (hV second) _ r7 Tryz.underlying90 rfl jg ?_))
        go_ret
        exact ⟨rfl, C7.b⟩
      · go_wp2_with (first | (refine wpList_alloc_of rfl 90 rfl z32.toArray alloc_32 ?_) | (refine wpList_store_abs rfl 90 _ _ rfl w5.heap.size 0 (hV x) rfl rfl tA jx ox ?_; intro w6 hw6 hr6 _ht6 hb6; have t6 : w6.there (w5.heap.size + 1) 0 (hV y).length := there_stored tA2 hw6; rw [← hwA] at hw6; have C6 : CS w.heap.size w1.heap.size w first w6 := CA.stored (by omega) (by omega) hw6; have r6 : w6.rangeAt w3.heap.size 0 (hV second) := range_stored rA (by omega) hw6; clear hw6) | (refine wpList_store_at rfl 90 _ _ rfl (w5.heap.size + 1) 0 (hV y) _ ?_ rfl rfl t6 jy oy ?_; (first | rfl | simp); intro w7 hw7 hr7 _ht7 hb7; have C7 : CS w.heap.size w1.heap.size w first w7 := C6.stored (by omega) (by omega) hw7; have r7 : w7.rangeAt w3.heap.size 0 (hV second) := range_stored r6 (by omega) hw7; have x7 : w7.rangeAt w5.heap.size 0 (hV x) := range_stored hr6 (by omega) hw7; have f7 := C7.r; clear hw7) | (refine wpList_load_wanted (by rfl) 90 (.tmp 14) rfl w5.heap.size 0 rfl (hV x) _ x7 Tryz.underlying90 rfl jx ?_) | (refine wpList_load_wanted (by rfl) 90 (.tmp 11) rfl w1.heap.size 0 rfl (hV first) _ f7 Tryz.underlying90 rfl jf ?_) | (refine wpList_load_wanted (by rfl) 90 (.tmp 15) rfl (w5.heap.size + 1) 0 rfl (hV y) _ hr7 Tryz.underlying90 rfl jy ?_) | (refine wpList_load_wanted (by rfl) 90 (.tmp 13) rfl w3.heap.size 0 rfl (hV second) _ r7 Tryz.underlying90 rfl jg ?_))
        go_ret
        exact ⟨rfl, C7.b⟩

/-- Does a check take the proof? -/
def consOk (K : Nat → Int) (m n : Nat) (first second : ByteArray) (pf : List ByteArray) : Bool :=
  if m = 0 then decide (first.size = 32) && (decide (first = rootF (sumOf K) []) && decide (pf.length = 0) && (decide (n ≠ 0) || decide (second = first)))
  else decide (first.size = 32) && (decide (second.size = 32) && ((regF (sumOf K) first m n true pf).2.2 && (decide ((regF (sumOf K) first m n true pf).1 = first) && decide ((regF (sumOf K) first m n true pf).2.1 = second))))

theorem ccon_tree (K : Nat → Int) (first second : ByteArray) (m n : Nat) (pf : List ByteArray) (v : Value) (w : World) (hmn : m ≤ n) (hn1 : n ≤ 2147483647) (hl : LeafAt w v pf) (hpf : pf.length ≤ 1000000000) (T : Tab K w) :
    Calls Tryz.prog 123 #[.int .i64 m, .int .i64 n, .string first, .string second, v] w (ckPost w (consOk K m n first second pf)) := by
  unfold consOk
  by_cases hm : m = 0
  · rw [if_pos hm]
    refine ccon_zero first second _ m n v w hmn hn1 hm ?_
    by_cases hf : first.size = 32
    · rw [decide_eq_true hf, Bool.true_and]
      obtain ⟨ao, cap, rfl⟩ := leaf_form hl
      exact nothing_any n first second _ ao pf.length cap w hf (rootF_size _ (sumOf_size K) _) (fun W hb => root_nil K none 0 W (T.below hb))
    · rw [decide_eq_false hf, Bool.false_and]
      exact nothing_size n first second v w hf
  · rw [if_neg hm]
    by_cases hf : first.size = 32
    · rw [decide_eq_true hf, Bool.true_and]
      by_cases hg : second.size = 32
      · rw [decide_eq_true hg, Bool.true_and]
        have hsz := regF_sizes (sumOf K) (sumOf_size K) first hf _ pf m n true rfl
        exact ccon_any first second _ _ _ m n v w hmn hn1 (by omega) hf hg hsz.1 hsz.2 (fun W hb => reg_any K first hf _ pf v m n true W rfl hpf (by omega) hmn hn1 (hl.below hb) (T.below hb))
      · rw [decide_eq_false hg, Bool.false_and]
        exact ccon_second first second m n v w hmn hn1 (by omega) hf hg
    · rw [decide_eq_false hf, Bool.false_and]
      exact ccon_first first second m n v w hmn hn1 (by omega) hf

set_option maxRecDepth 10000 in
set_option maxHeartbeats 400000 in
/-- CheckConsistency. -/
theorem ccon_all (K : Nat → Int) (first second : ByteArray) (m n : Nat) (pf : List ByteArray) (v : Value) (w : World) (hmn : m ≤ n) (hn1 : n ≤ 2147483647) (hl : LeafAt w v pf) (hpf : pf.length ≤ 1000000000) (T : Tab K w) :
    Calls Tryz.prog 77 #[.int .i64 m, .int .i64 n, .string first, .string second, v] w (ckPost w (consOk K m n first second pf)) := by
  have hc := ccon_tree K first second m n pf v w hmn hn1 hl hpf T
  generalize consOk K m n first second pf = ok at *
  obtain ⟨ao, cap, rfl⟩ := leaf_form hl
  clear hl T
  generalize pf.length = M at *
  go_enter Tryz.func77, Tryz.ntmps77
  go_wp2_with fail
  refine hc.mono ?_
  rintro e w1 ⟨rfl, hb1⟩
  generalize hcv : chkV ok = vc at *
  clear hc
  go_wp2_with fail
  go_ret
  exact ⟨by rw [hcv]; rfl, hb1⟩
end Go.Proofs.YtijdnpoenpjnlaaGreatDoor
