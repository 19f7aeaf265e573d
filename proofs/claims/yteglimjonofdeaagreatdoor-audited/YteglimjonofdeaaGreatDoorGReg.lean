import Derived.Test.YteglimjonofdeaaGreatDoorTPathM
import Derived.Test.YteglimjonofdeaaGreatDoorTClimb2M
set_option linter.unusedVariables false
set_option linter.unusedSimpArgs false
namespace Go.Proofs.YteglimjonofdeaaGreatDoor
open Go.RowKit

/-- Three results, the first two rows in memory. -/
theorem ret_cell_cell_tmp {P : Program} {fn : Func} {R : Ending → World → Prop} {a : Act} {w : World} {t p u : Tmp} {ty : TypeId} (h : fn.results = #[.cell t ty, .cell p ty, .tmp u]) (b b2 o o2 : Nat) (cs cs2 : List Value) (d : TypeDesc) (v : Value)
    (ht : a.tmps.getD t undef = .pointer (some ⟨b, o, none⟩)) (hp : a.tmps.getD p undef = .pointer (some ⟨b2, o2, none⟩)) (hu' : a.tmps.getD u undef = v) (hc : w.rangeAt b o cs) (hc2 : w.rangeAt b2 o2 cs2) (hu : P.underlying ty = some d) (hd : d.isRow = true) (hi : (P.info? ty).map (·.size) = some cs.length) (hi2 : (P.info? ty).map (·.size) = some cs2.length)
    (hdf : a.defers = []) (hR : R (.returned (.tuple #[.agg cs.toArray, .agg cs2.toArray, v])) w) : bodyPost P fn R .ret a w := by
  refine bodyPost_ret (v := .tuple #[.agg cs.toArray, .agg cs2.toArray, v]) ?_ hdf hR
  have ht' : a.tmps[t]?.getD undef = .pointer (some ⟨b, o, none⟩) := by simpa using ht
  have hp' : a.tmps[p]?.getD undef = .pointer (some ⟨b2, o2, none⟩) := by simpa using hp
  have hu2 : a.tmps[u]?.getD undef = v := by simpa using hu'
  simp only [results, h]
  simp [Sem.run_bind, ht', hp', hu2, asAddr, run_loadVar_mid w b o ty cs d hc hu hd hi, run_loadVar_mid w b2 o2 ty cs2 d hc2 hu hd hi2]
theorem range_store {w : World} {b o q : Nat} {cs cs' : List Value} (h : w.rangeAt b o cs) (hne : b ≠ q) : (w.setCells q 0 cs').rangeAt b o cs := fun j u hu => by
  rw [World.cell?_setCells_out _ _ _ _ ⟨b, o + j, none⟩ (fun e _ => absurd e hne)]; exact h j u hu
theorem range_keep {w w' : World} {b o : Nat} {cs : List Value} (h : w.rangeAt b o cs) (hb : Below w.heap.size w w') (hlt : b < w.heap.size) : w'.rangeAt b o cs := fun j u hu => (hb.cell (p := ⟨b, o + j, none⟩) hlt).trans (h j u hu)
/-- Behind regrow's three blocks: the known root's, and its two results'. -/
structure GS (n : Nat) (w : World) (kn : ByteArray) (w' : World) : Prop where
  b : Below n w w'
  k : w'.rangeAt n 0 (hV kn)
  t1 : w'.there (n + 1) 0 32
  t2 : w'.there (n + 2) 0 32
  z : n + 3 ≤ w'.heap.size
theorem GS.step {n : Nat} {w w' w'' : World} {kn : ByteArray} (h : GS n w kn w') (hb : Below w'.heap.size w' w'') : GS n w kn w'' :=
  ⟨h.b.trans (hb.mono (by have := h.z; omega)), range_keep h.k hb (by have := h.z; omega), there_below hb (by have := h.z; omega) h.t1, there_below hb (by have := h.z; omega) h.t2, Nat.le_trans h.z hb.size⟩
theorem GS.store {n : Nat} {w w' : World} {kn : ByteArray} (h : GS n w kn w') {q : Nat} (hq : n + 1 ≤ q) (cs : List Value) : GS n w kn (w'.setCells q 0 cs) :=
  ⟨below_setCells (by omega) _ _ _ h.b, range_store h.k (by omega), World.there_setCells h.t1 _ _ _, World.there_setCells h.t2 _ _ _, by rw [size_setCells]; exact h.z⟩
theorem GS.stored {n : Nat} {w w' w2 : World} {kn : ByteArray} (h : GS n w kn w') {q : Nat} (hq : n + 1 ≤ q) {cs : List Value} (e : w2 = w'.setCells q 0 cs) : GS n w kn w2 := e ▸ h.store hq cs
theorem range_stored {w w2 : World} {b o q : Nat} {cs cs' : List Value} (h : w.rangeAt b o cs) (hne : b ≠ q) (e : w2 = w.setCells q 0 cs') : w2.rangeAt b o cs := e ▸ range_store h hne
theorem there_stored {w w2 : World} {b q n : Nat} {cs' : List Value} (h : w.there b 0 n) (e : w2 = w.setCells q 0 cs') : w2.there b 0 n := e ▸ World.there_setCells h _ _ _
theorem there_len {w : World} {b n : Nat} {cs : List Value} (e : cs.length = n) (h : w.there b 0 n) : w.there b 0 cs.length := by rw [e]; exact h
theorem GS.drew {n : Nat} {w w' : World} {kn : ByteArray} (h : GS n w kn w') : GS n w kn w'.drew := ⟨h.b.drew, h.k, h.t1, h.t2, h.z⟩
theorem gs_new (kn : ByteArray) (w : World) : GS w.heap.size w kn (((w.alloc (.cells (hV kn).toArray 104)).alloc (.cells z32.toArray 104)).alloc (.cells z32.toArray 104)) := by
  refine ⟨(((Below.refl _ _).alloc (Nat.le_refl _) _).alloc (by simp) _).alloc (by simp; omega) _, World.rangeAt_alloc (World.rangeAt_alloc (range_new w (hV kn) 104) _) _, ?_, ?_, by simp⟩
  · have := there_z32 (w.alloc (.cells (hV kn).toArray 104))
    rw [show (w.alloc (.cells (hV kn).toArray 104)).heap.size = w.heap.size + 1 by simp] at this
    exact there_below ((Below.refl _ _).alloc (Nat.le_refl _) _) (by simp) this
  · have := there_z32 ((w.alloc (.cells (hV kn).toArray 104)).alloc (.cells z32.toArray 104))
    simpa using this
/-- And behind the hash that was cut off. -/
structure GB (n q : Nat) (w : World) (kn b : ByteArray) (w' : World) : Prop where
  s : GS n w kn w'
  r : w'.rangeAt q 0 (hV b)
  lo : n + 3 ≤ q
  hi : q < w'.heap.size
theorem GB.step {n q : Nat} {w w' w'' : World} {kn b : ByteArray} (h : GB n q w kn b w') (hb : Below w'.heap.size w' w'') : GB n q w kn b w'' :=
  ⟨h.s.step hb, range_keep h.r hb h.hi, h.lo, Nat.lt_of_lt_of_le h.hi hb.size⟩
theorem GB.store {n q : Nat} {w w' : World} {kn b : ByteArray} (h : GB n q w kn b w') {p : Nat} (hp : n + 1 ≤ p) (hp2 : p < n + 3) (cs : List Value) : GB n q w kn b (w'.setCells p 0 cs) :=
  ⟨h.s.store hp cs, range_store h.r (by have := h.lo; omega), h.lo, by rw [size_setCells]; exact h.hi⟩
theorem GB.stored {n q : Nat} {w w' w2 : World} {kn b : ByteArray} (h : GB n q w kn b w') {p : Nat} (hp : n + 1 ≤ p) (hp2 : p < n + 3) {cs : List Value} (e : w2 = w'.setCells p 0 cs) : GB n q w kn b w2 := e ▸ h.store hp hp2 cs
theorem GB.drew {n q : Nat} {w w' : World} {kn b : ByteArray} (h : GB n q w kn b w') : GB n q w kn b w'.drew := ⟨h.s.drew, h.r, h.lo, h.hi⟩
theorem GB.b {n q : Nat} {w w' : World} {kn b : ByteArray} (h : GB n q w kn b w') : Below n w w' := h.s.b
def regPost (w : World) (x y : ByteArray) (f : Bool) (e : Ending) (w' : World) : Prop := e = .returned (.tuple #[.agg (hV x).toArray, .agg (hV y).toArray, .bool f]) ∧ Below w.heap.size w w'

set_option maxRecDepth 10000 in
set_option maxHeartbeats 1000000 in
theorem reg_known (kn : ByteArray) (N : Int) (ao : Option Addr) (M cap : Nat) (w : World) (hk32 : kn.size = 32) :
    Calls Tryz.prog 156 #[.int .i64 N, .int .i64 N, .agg (hV kn).toArray, .bool true, .slice ao M cap] w (regPost w kn kn ((M : Int) == 0)) := by
  obtain ⟨wB, hwB⟩ : ∃ wB, wB = ((w.alloc (.cells (hV kn).toArray 104)).alloc (.cells z32.toArray 104)).alloc (.cells z32.toArray 104) := ⟨_, rfl⟩
  have G0 : GS w.heap.size w kn wB := by rw [hwB]; exact gs_new kn w
  have lk := hV_len hk32
  have ik := hV_info hk32
  have ok := hV_one kn
  have G1 := G0.drew
  go_enter Tryz.func156, Tryz.ntmps156
  go_wp2_with (first | (refine wpList_alloc_of rfl 104 rfl z32.toArray alloc_32 ?_))
  rw [← hwB]
  clear hwB
  refine wp_region_noPanic ?_
  refine wp_region_held_drew (S := GS w.heap.size w kn) (by kernel_rfl) G1 (fun _ => ?_)
  refine wpAnyH_take (i := 0) (v := .agg (hV kn).toArray) rfl (by kernel_rfl) (by kernel_rfl) (by kernel_rfl) (fun _ _ _ h => h) (yieldsIf_load_mid (by rfl) 104 (.tmp 7) rfl w.heap.size 0 rfl (hV kn) _ (fun w' hw' => hw'.k) Tryz.underlying104 rfl ik) G1 ?_
  simp only [qA, qB, qC, Act.put, qD, qE, qF]
  refine wpAnyH_take (i := 1) (v := .agg (hV kn).toArray) rfl (by kernel_rfl) (by kernel_rfl) (by kernel_rfl) (fun _ _ _ h => h) (yieldsIf_load_mid (by rfl) 104 (.tmp 7) rfl w.heap.size 0 rfl (hV kn) _ (fun w' hw' => hw'.k) Tryz.underlying104 rfl ik) G1 ?_
  simp only [qA, qB, qC, Act.put, qD, qE, qF]
  refine tk 2 G1 ?_
  refine tk 3 G1 ?_
  refine tk 4 G1 ?_
  refine rk 5 (fun K hK => ?_)
  refine wp_store_mid 104 (.tmp 10) (.tmp 23) rfl (w.heap.size + 1) 0 (hV kn).toArray rfl rfl (by show World.there _ _ _ (hV kn).length; rw [lk]; exact G1.t1) (by show _ = some (hV kn).length; exact ik) (all_oneCell_toArray ok) ?_
  have G2 : GS w.heap.size w kn (wB.drew.setCells (w.heap.size + 1) 0 (hV kn).toArray.toList) := G1.store (Nat.le_refl _) _
  refine hK.out _ _ G2 (fun _ => ?_)
  clear hK K
  try simp only [qA, qB, qC, Act.put, qD, qE, qF]
  refine rk 6 (fun K hK => ?_)
  refine wp_store_mid 104 (.tmp 11) (.tmp 24) rfl (w.heap.size + 2) 0 (hV kn).toArray rfl rfl (by show World.there _ _ _ (hV kn).length; rw [lk]; exact G2.t2) (by show _ = some (hV kn).length; exact ik) (all_oneCell_toArray ok) ?_
  have G3 : GS w.heap.size w kn ((wB.drew.setCells (w.heap.size + 1) 0 (hV kn).toArray.toList).setCells (w.heap.size + 2) 0 (hV kn).toArray.toList) := G2.store (by omega) _
  refine hK.out _ _ G3 (fun _ => ?_)
  clear hK K
  try simp only [qA, qB, qC, Act.put, qD, qE, qF]
  refine rk 7 (fun K hK => ?_)
  go_simp
  refine hK.out _ _ G3 (fun _ => ?_)
  clear hK K
  try simp only [qA, qB, qC, Act.put, qD, qE, qF]
  refine ⟨by kernel_rfl, ?_⟩
  refine NoPanic.normal ?_
  try simp only [qA, qB, qC, Act.put, qD, qE, qF]
  go_wp2_with fail
  exact ret_cell_cell_tmp rfl (w.heap.size + 1) (w.heap.size + 2) 0 0 (hV kn) (hV kn) _ _ rfl rfl rfl (range_store (by have := World.rangeAt_setCells_same wB.drew (w.heap.size + 1) 0 (hV kn) (by rw [lk]; exact G1.t1); simpa using this) (by omega)) (by have := World.rangeAt_setCells_same _ (w.heap.size + 2) 0 (hV kn) (by rw [lk]; exact G2.t2); simpa using this) Tryz.underlying104 rfl ik ik rfl ⟨rfl, G3.b⟩

set_option maxRecDepth 10000 in
set_option maxHeartbeats 1000000 in
theorem reg_bad (kn : ByteArray) (m n : Int) (whole : Bool) (v v' : Value) (cs : List Value) (w : World) (hk32 : kn.size = 32) (hn : ((m == n) && whole) = false) (hl : cs.length = 32) (hone : ∀ u ∈ cs, u.oneCell' = true)
    (hcut : ∀ W, Below w.heap.size w W → Calls Tryz.prog 157 #[v] W fun e w' => e = .returned (.tuple #[v', .agg cs.toArray, .bool false]) ∧ Below W.heap.size W w') :
    Calls Tryz.prog 156 #[.int .i64 m, .int .i64 n, .agg (hV kn).toArray, .bool whole, v] w fun e w' => e = .returned (.tuple #[.agg z32.toArray, .agg z32.toArray, .bool false]) ∧ Below w.heap.size w w' := by
  obtain ⟨wB, hwB⟩ : ∃ wB, wB = ((w.alloc (.cells (hV kn).toArray 104)).alloc (.cells z32.toArray 104)).alloc (.cells z32.toArray 104) := ⟨_, rfl⟩
  have G0 : GS w.heap.size w kn wB := by rw [hwB]; exact gs_new kn w
  have lk := hV_len hk32
  have ik := hV_info hk32
  have ok := hV_one kn
  have hinf : (Tryz.prog.info? 104).map (·.size) = some cs.length := by rw [hl]; exact info_hash
  have hc1 := hcut _ G0.b
  clear hcut
  rw [hwB] at hc1
  have hn' : (m == n) = false ∨ ((m == n) = true ∧ whole = false) := by cases h1 : (m == n) <;> cases whole <;> simp_all
  rcases hn' with hn' | ⟨hn', rfl⟩
  all_goals
    clear hn
    go_enter Tryz.func156, Tryz.ntmps156
    go_wp2_with (first | (refine wpList_alloc_of rfl 104 rfl z32.toArray alloc_32 ?_))
    refine hc1.mono ?_
    rintro e w1 ⟨rfl, hb1⟩
    rw [← hwB] at hb1
    have G1 := G0.step hb1
    have ht1 : (w1.alloc (.cells z32.toArray 104)).there w1.heap.size 0 cs.length := by rw [hl]; exact there_z32 w1
    clear hc1
    go_wp2_with (first | (refine wpList_alloc_of rfl 104 rfl z32.toArray alloc_32 ?_) | (refine wpList_store_abs rfl 104 _ _ rfl w1.heap.size 0 cs rfl rfl ht1 hinf hone ?_; intro w2 _hw2 hr2 _ht2 hb2; clear _hw2 _ht2; have G2 : GS w.heap.size w kn w2 := G1.step (((Below.refl _ _).alloc (Nat.le_refl _) _).trans (hb2 _ (Nat.le_refl _))); have t2 : w2.there (w.heap.size + 1) 0 z32.length := G2.t1) | (refine wpList_build_of rfl 104 rfl z32.toArray build_h32t ?_) | (refine wpList_store_abs rfl 104 _ _ rfl (w.heap.size + 1) 0 z32 rfl rfl t2 z32_info z32_onet ?_; intro w3 hw3 hr3 _ht3 hb3; have G3 : GS w.heap.size w kn w3 := G2.stored (Nat.le_refl _) hw3; clear hw3; have t3 : w3.there (w.heap.size + 2) 0 z32.length := G3.t2) | (refine wpList_store_abs rfl 104 _ _ rfl (w.heap.size + 2) 0 z32 rfl rfl t3 z32_info z32_onet ?_; intro w4 hw4 hr4 _ht4 hb4; have G4 : GS w.heap.size w kn w4 := G3.stored (by omega) hw4; have hr3' : w4.rangeAt (w.heap.size + 1) 0 z32 := range_stored hr3 (by omega) hw4; clear hw4))
    exact ret_cell_cell_tmp rfl (w.heap.size + 1) (w.heap.size + 2) 0 0 z32 z32 _ _ rfl rfl rfl hr3' hr4 Tryz.underlying104 rfl z32_info z32_info rfl ⟨rfl, G4.b⟩

set_option maxRecDepth 10000 in
set_option maxHeartbeats 1000000 in
theorem reg_all (kn b : ByteArray) (N : Int) (v : Value) (ao : Option Addr) (M cap : Nat) (w : World) (hk32 : kn.size = 32) (hb32 : b.size = 32)
    (hcut : ∀ W, Below w.heap.size w W → Calls Tryz.prog 157 #[v] W fun e w' => e = .returned (.tuple #[.slice ao M cap, .agg (hV b).toArray, .bool true]) ∧ Below W.heap.size W w') :
    Calls Tryz.prog 156 #[.int .i64 N, .int .i64 N, .agg (hV kn).toArray, .bool false, v] w (regPost w b b ((M : Int) == 0)) := by
  obtain ⟨wB, hwB⟩ : ∃ wB, wB = ((w.alloc (.cells (hV kn).toArray 104)).alloc (.cells z32.toArray 104)).alloc (.cells z32.toArray 104) := ⟨_, rfl⟩
  have G0 : GS w.heap.size w kn wB := by rw [hwB]; exact gs_new kn w
  have lk := hV_len hk32
  have ik := hV_info hk32
  have ok := hV_one kn
  have lb := hV_len hb32
  have ib := hV_info hb32
  have ob := hV_one b
  have hc1 := hcut _ G0.b
  rw [hwB] at hc1
  clear hcut
  go_enter Tryz.func156, Tryz.ntmps156
  go_wp2_with (first | (refine wpList_alloc_of rfl 104 rfl z32.toArray alloc_32 ?_))
  refine hc1.mono ?_
  rintro e w1 ⟨rfl, hb1⟩
  rw [← hwB] at hb1
  clear hwB
  have G1 := G0.step hb1
  have z1 := G1.z
  have ht1 : (w1.alloc (.cells z32.toArray 104)).there w1.heap.size 0 (hV b).length := by rw [lb]; exact there_z32 w1
  clear hc1 hb1
  go_wp2_with (first | (refine wpList_alloc_of rfl 104 rfl z32.toArray alloc_32 ?_) | (refine wpList_store_abs rfl 104 _ _ rfl w1.heap.size 0 (hV b) rfl rfl ht1 ib ob ?_; intro w2 _hw2 hr2 _ht2 hb2; clear _hw2 _ht2))
  have B2 : GB w.heap.size w1.heap.size w kn b w2 := ⟨G1.step (((Below.refl _ _).alloc (Nat.le_refl _) _).trans (hb2 _ (Nat.le_refl _))), hr2, z1, by have := (hb2 _ (Nat.le_refl _)).size; simp at this; omega⟩
  clear ht1 hb2 hr2
  have G1 := B2.drew
  refine wp_region_noPanic ?_
  refine wp_region_held_drew (S := GB w.heap.size w1.heap.size w kn b) (by kernel_rfl) G1 (fun _ => ?_)
  refine wpAnyH_take (i := 0) (v := .agg (hV b).toArray) rfl (by kernel_rfl) (by kernel_rfl) (by kernel_rfl) (fun _ _ _ h => h) (yieldsIf_load_mid (by rfl) 104 (.tmp 14) rfl w1.heap.size 0 rfl (hV b) _ (fun w' hw' => hw'.r) Tryz.underlying104 rfl ib) G1 ?_
  simp only [qA, qB, qC, Act.put, qD, qE, qF]
  refine wpAnyH_take (i := 1) (v := .agg (hV b).toArray) rfl (by kernel_rfl) (by kernel_rfl) (by kernel_rfl) (fun _ _ _ h => h) (yieldsIf_load_mid (by rfl) 104 (.tmp 14) rfl w1.heap.size 0 rfl (hV b) _ (fun w' hw' => hw'.r) Tryz.underlying104 rfl ib) G1 ?_
  simp only [qA, qB, qC, Act.put, qD, qE, qF]
  refine tk 2 G1 ?_
  refine tk 3 G1 ?_
  refine tk 4 G1 ?_
  refine rk 5 (fun K hK => ?_)
  refine wp_store_mid 104 (.tmp 10) (.tmp 41) rfl (w.heap.size + 1) 0 (hV b).toArray rfl rfl (by show World.there _ _ _ (hV b).length; rw [lb]; exact G1.s.t1) (by show _ = some (hV b).length; exact ib) (all_oneCell_toArray ob) ?_
  have G2 : GB w.heap.size w1.heap.size w kn b (w2.drew.setCells (w.heap.size + 1) 0 (hV b).toArray.toList) := G1.store (Nat.le_refl _) (by omega) _
  refine hK.out _ _ G2 (fun _ => ?_)
  clear hK K
  try simp only [qA, qB, qC, Act.put, qD, qE, qF]
  refine rk 6 (fun K hK => ?_)
  refine wp_store_mid 104 (.tmp 11) (.tmp 42) rfl (w.heap.size + 2) 0 (hV b).toArray rfl rfl (by show World.there _ _ _ (hV b).length; rw [lb]; exact G2.s.t2) (by show _ = some (hV b).length; exact ib) (all_oneCell_toArray ob) ?_
  have G3 : GB w.heap.size w1.heap.size w kn b ((w2.drew.setCells (w.heap.size + 1) 0 (hV b).toArray.toList).setCells (w.heap.size + 2) 0 (hV b).toArray.toList) := G2.store (by omega) (by omega) _
  refine hK.out _ _ G3 (fun _ => ?_)
  clear hK K
  try simp only [qA, qB, qC, Act.put, qD, qE, qF]
  refine rk 7 (fun K hK => ?_)
  go_simp
  refine hK.out _ _ G3 (fun _ => ?_)
  clear hK K
  try simp only [qA, qB, qC, Act.put, qD, qE, qF]
  refine ⟨by kernel_rfl, ?_⟩
  refine NoPanic.normal ?_
  try simp only [qA, qB, qC, Act.put, qD, qE, qF]
  go_wp2_with fail
  exact ret_cell_cell_tmp rfl (w.heap.size + 1) (w.heap.size + 2) 0 0 (hV b) (hV b) _ _ rfl rfl rfl (range_store (by have := World.rangeAt_setCells_same w2.drew (w.heap.size + 1) 0 (hV b) (by rw [lb]; exact G1.s.t1); simpa using this) (by omega)) (by have := World.rangeAt_setCells_same _ (w.heap.size + 2) 0 (hV b) (by rw [lb]; exact G2.s.t2); simpa using this) Tryz.underlying104 rfl ib ib rfl ⟨rfl, G3.b⟩
end Go.Proofs.YteglimjonofdeaaGreatDoor
