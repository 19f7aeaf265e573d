import Derived.Test.YteglimjonofdeaaGreatDoorGReg
set_option linter.unusedVariables false
set_option linter.unusedSimpArgs false
namespace Go.Proofs.YteglimjonofdeaaGreatDoor
open Go.RowKit

set_option maxRecDepth 10000 in
set_option maxHeartbeats 2000000 in
theorem reg_left (kn b x y h : ByteArray) (m n k : Nat) (whole f : Bool) (v : Value) (ao : Option Addr) (M cap : Nat) (w : World) (hk32 : kn.size = 32) (hb32 : b.size = 32) (hx32 : x.size = 32) (hy32 : y.size = 32) (h32 : h.size = 32) (hn : 2 ≤ n) (hn1 : n ≤ 2147483647) (hm0 : 0 < m) (hmn : m < n) (hk1 : k < n) (hmk : m ≤ k)
    (hcut : ∀ W, Below w.heap.size w W → Calls Tryz.prog 157 #[v] W fun e w' => e = .returned (.tuple #[.slice ao M cap, .agg (hV b).toArray, .bool true]) ∧ Below W.heap.size W w')
    (hsp : ∀ W, Calls Tryz.prog 112 #[.int .i64 n] W fun e w' => e = .returned (.int .i64 k) ∧ w' = W)
    (hrec : ∀ W, Below w.heap.size w W → Calls Tryz.prog 156 #[.int .i64 m, .int .i64 k, .agg (hV kn).toArray, .bool whole, .slice ao M cap] W (regPost W x y f))
    (hj0 : ∀ W, Below w.heap.size w W → Calls Tryz.prog 113 #[.agg (hV y).toArray, .agg (hV b).toArray] W fun e w' => e = .returned (.agg (hV h).toArray) ∧ Below W.heap.size W w') :
    Calls Tryz.prog 156 #[.int .i64 m, .int .i64 n, .agg (hV kn).toArray, .bool whole, v] w (regPost w x h f) := by
  obtain ⟨wB, hwB⟩ : ∃ wB, wB = ((w.alloc (.cells (hV kn).toArray 104)).alloc (.cells z32.toArray 104)).alloc (.cells z32.toArray 104) := ⟨_, rfl⟩
  have G0 : GS w.heap.size w kn wB := by rw [hwB]; exact gs_new kn w
  have lk := hV_len hk32
  have ik := hV_info hk32
  have ok := hV_one kn
  have lb := hV_len hb32
  have ib := hV_info hb32
  have ob := hV_one b
  have hc1 := hcut _ G0.b
  rw [hwB] at hc1
  clear hcut
  have lx := hV_len hx32
  have ix := hV_info hx32
  have ox := hV_one x
  have ly := hV_len hy32
  have iy := hV_info hy32
  have oy := hV_one y
  have lh := hV_len h32
  have ih := hV_info h32
  have oh := hV_one h
  have mn : ((m : Int) == (n : Int)) = false := by rw [beq_eq_false_iff_ne]; omega
  have mk : (m : Int) ≤ (k : Int) := by omega
  have HREC : Hid (∀ W, Below w.heap.size w W → Calls Tryz.prog 156 #[.int .i64 m, .int .i64 k, .agg (hV kn).toArray, .bool whole, .slice ao M cap] W (regPost W x y f)) := hrec
  have HJ0 : Hid (∀ W, Below w.heap.size w W → Calls Tryz.prog 113 #[.agg (hV y).toArray, .agg (hV b).toArray] W fun e w' => e = .returned (.agg (hV h).toArray) ∧ Below W.heap.size W w') := hj0
  clear hrec hj0
  go_enter Tryz.func156, Tryz.ntmps156
  go_wp2_with (first | (refine wpList_alloc_of rfl 104 rfl z32.toArray alloc_32 ?_))
  refine hc1.mono ?_
  rintro e w1 ⟨rfl, hb1⟩
  rw [← hwB] at hb1
  clear hwB
  have G1 := G0.step hb1
  have z1 := G1.z
  have ht1 : (w1.alloc (.cells z32.toArray 104)).there w1.heap.size 0 (hV b).length := by rw [lb]; exact there_z32 w1
  clear hc1 hb1
  go_wp2_with (first | (refine wpList_alloc_of rfl 104 rfl z32.toArray alloc_32 ?_) | (refine wpList_store_abs rfl 104 _ _ rfl w1.heap.size 0 (hV b) rfl rfl ht1 ib ob ?_; intro w2 _hw2 hr2 _ht2 hb2; clear _hw2 _ht2) | (go_at_call 112; refine (hsp _).mono ?_; rintro e wx ⟨rfl, hwx⟩; obtain rfl : w2 = wx := hwx.symm; clear hwx) | (refine wpList_load_mid rfl 104 (.tmp 7) rfl w.heap.size 0 rfl (hV kn) _ (range_keep G1.k (((Below.refl _ _).alloc (Nat.le_refl _) _).trans (hb2 _ (Nat.le_refl _))) (by omega)) Tryz.underlying104 rfl ik ?_))
  have B2 : GB w.heap.size w1.heap.size w kn b w2 := ⟨G1.step (((Below.refl _ _).alloc (Nat.le_refl _) _).trans (hb2 _ (Nat.le_refl _))), hr2, z1, by have := (hb2 _ (Nat.le_refl _)).size; simp at this; omega⟩
  clear ht1 hb2 hr2
  clear hsp
  refine (HREC.out w2 B2.b).mono ?_
  rintro e w3 ⟨rfl, hb3⟩
  have B3 := B2.step hb3
  have t3 : w3.there (w.heap.size + 1) 0 (hV x).length := by rw [lx]; exact B3.s.t1
  clear hb3
  go_wp2_with (first | (refine wpList_store_abs rfl 104 _ _ rfl (w.heap.size + 1) 0 (hV x) rfl rfl t3 ix ox ?_; intro w4 hw4 hr4 _ht4 _hb4; have B4 : GB w.heap.size w1.heap.size w kn b w4 := B3.stored (Nat.le_refl _) (by omega) hw4; clear hw4 _ht4 _hb4; have t4 : w4.there (w.heap.size + 2) 0 (hV y).length := there_len ly B4.s.t2) | (refine wpList_store_abs rfl 104 _ _ rfl (w.heap.size + 2) 0 (hV y) rfl rfl t4 iy oy ?_; intro w5 hw5 hr5 _ht5 _hb5; have B5 : GB w.heap.size w1.heap.size w kn b w5 := B4.stored (by omega) (by omega) hw5; have hr4' : w5.rangeAt (w.heap.size + 1) 0 (hV x) := range_stored hr4 (by omega) hw5; clear hw5 _ht5 _hb5))
  have J0 : GB w.heap.size w1.heap.size w kn b w5.drew ∧ w5.drew.rangeAt (w.heap.size + 1) 0 (hV x) := ⟨B5.drew, hr4'⟩
  refine wp_region_noPanic ?_
  refine wp_region_held_drew (S := fun W => GB w.heap.size w1.heap.size w kn b W ∧ W.rangeAt (w.heap.size + 1) 0 (hV x)) (by kernel_rfl) J0 (fun _ => ?_)
  refine wpAnyH_take (i := 0) (v := .agg (hV x).toArray) rfl (by kernel_rfl) (by kernel_rfl) (by kernel_rfl) (fun _ _ _ h => h) (yieldsIf_load_mid (by rfl) 104 (.tmp 10) rfl (w.heap.size + 1) 0 rfl (hV x) _ (fun w' hw' => hw'.2) Tryz.underlying104 rfl ix) J0 ?_
  simp only [qA, qB, qC, Act.put, qD, qE, qF]
  refine wpAnyH_take (i := 2) (v := .agg (hV b).toArray) rfl (by kernel_rfl) (by kernel_rfl) (by kernel_rfl) (fun _ _ _ h => h) (yieldsIf_load_mid (by rfl) 104 (.tmp 14) rfl w1.heap.size 0 rfl (hV b) _ (fun w' hw' => hw'.1.r) Tryz.underlying104 rfl ib) J0 ?_
  simp only [qA, qB, qC, Act.put, qD, qE, qF]
  refine tk 4 J0 ?_
  refine rk 1 (fun K hK => ?_)
  refine wp_load_mid 104 (.tmp 11) rfl (w.heap.size + 2) 0 rfl (hV y) _ hr5 Tryz.underlying104 rfl iy ?_
  refine hK.out _ _ J0 (fun _ => ?_)
  clear hK K
  try simp only [qA, qB, qC, Act.put, qD, qE, qF]
  refine rk 3 (fun K hK => ?_)
  go_simp
  refine (HJ0.out _ J0.1.b).mono ?_
  rintro e w6 ⟨rfl, hb6⟩
  have J1 : GB w.heap.size w1.heap.size w kn b w6 ∧ w6.rangeAt (w.heap.size + 1) 0 (hV x) := ⟨J0.1.step hb6, range_keep J0.2 hb6 (by have := J0.1.s.z; omega)⟩
  refine hK.out _ _ J1 (fun _ => ?_)
  clear hK K
  try simp only [qA, qB, qC, Act.put, qD, qE, qF]
  refine rk 5 (fun K hK => ?_)
  refine wp_store_mid 104 (.tmp 10) (.tmp 61) rfl (w.heap.size + 1) 0 (hV x).toArray rfl rfl (by show World.there _ _ _ (hV x).length; rw [lx]; exact J1.1.s.t1) (by show _ = some (hV x).length; exact ix) (all_oneCell_toArray ox) ?_
  have J2 : GB w.heap.size w1.heap.size w kn b (w6.setCells (w.heap.size + 1) 0 (hV x).toArray.toList) ∧ (w6.setCells (w.heap.size + 1) 0 (hV x).toArray.toList).rangeAt (w.heap.size + 1) 0 (hV x) := ⟨J1.1.store (Nat.le_refl _) (by omega) _, by have := World.rangeAt_setCells_same w6 (w.heap.size + 1) 0 (hV x) (by rw [lx]; exact J1.1.s.t1); simpa using this⟩
  refine hK.out _ _ J2 (fun _ => ?_)
  clear hK K
  try simp only [qA, qB, qC, Act.put, qD, qE, qF]
  refine rk 6 (fun K hK => ?_)
  refine wp_store_mid 104 (.tmp 11) (.tmp 64) rfl (w.heap.size + 2) 0 (hV h).toArray rfl rfl (by show World.there _ _ _ (hV h).length; rw [lh]; exact J2.1.s.t2) (by show _ = some (hV h).length; exact ih) (all_oneCell_toArray oh) ?_
  have J3 : GB w.heap.size w1.heap.size w kn b ((w6.setCells (w.heap.size + 1) 0 (hV x).toArray.toList).setCells (w.heap.size + 2) 0 (hV h).toArray.toList) ∧ ((w6.setCells (w.heap.size + 1) 0 (hV x).toArray.toList).setCells (w.heap.size + 2) 0 (hV h).toArray.toList).rangeAt (w.heap.size + 1) 0 (hV x) := ⟨J2.1.store (by omega) (by omega) _, range_store J2.2 (by omega)⟩
  refine hK.out _ _ J3 (fun _ => ?_)
  clear hK K
  try simp only [qA, qB, qC, Act.put, qD, qE, qF]
  refine rk 7 (fun K hK => ?_)
  go_simp
  refine hK.out _ _ J3 (fun _ => ?_)
  clear hK K
  try simp only [qA, qB, qC, Act.put, qD, qE, qF]
  refine ⟨by kernel_rfl, ?_⟩
  refine NoPanic.normal ?_
  try simp only [qA, qB, qC, Act.put, qD, qE, qF]
  go_wp2_with fail
  exact ret_cell_cell_tmp rfl (w.heap.size + 1) (w.heap.size + 2) 0 0 (hV x) (hV h) _ _ rfl rfl rfl (J3.2) (by have := World.rangeAt_setCells_same _ (w.heap.size + 2) 0 (hV h) (by rw [lh]; exact J2.1.s.t2); simpa using this) Tryz.underlying104 rfl ix ih rfl ⟨rfl, J3.1.b⟩

set_option maxRecDepth 10000 in
set_option maxHeartbeats 2000000 in
theorem reg_right (kn b x y g h : ByteArray) (m n k : Nat) (whole f : Bool) (v : Value) (ao : Option Addr) (M cap : Nat) (w : World) (hk32 : kn.size = 32) (hb32 : b.size = 32) (hx32 : x.size = 32) (hy32 : y.size = 32) (g32 : g.size = 32)  (h32 : h.size = 32) (hn : 2 ≤ n) (hn1 : n ≤ 2147483647) (hm0 : 0 < m) (hmn : m < n) (hk1 : k < n) (hmk : k < m)
    (hcut : ∀ W, Below w.heap.size w W → Calls Tryz.prog 157 #[v] W fun e w' => e = .returned (.tuple #[.slice ao M cap, .agg (hV b).toArray, .bool true]) ∧ Below W.heap.size W w')
    (hsp : ∀ W, Calls Tryz.prog 112 #[.int .i64 n] W fun e w' => e = .returned (.int .i64 k) ∧ w' = W)
    (hrec : ∀ W, Below w.heap.size w W → Calls Tryz.prog 156 #[.int .i64 ((m : Int) - (k : Int)), .int .i64 ((n : Int) - (k : Int)), .agg (hV kn).toArray, .bool false, .slice ao M cap] W (regPost W x y f))
    (hj0 : ∀ W, Below w.heap.size w W → Calls Tryz.prog 113 #[.agg (hV b).toArray, .agg (hV x).toArray] W fun e w' => e = .returned (.agg (hV g).toArray) ∧ Below W.heap.size W w')
    (hj1 : ∀ W, Below w.heap.size w W → Calls Tryz.prog 113 #[.agg (hV b).toArray, .agg (hV y).toArray] W fun e w' => e = .returned (.agg (hV h).toArray) ∧ Below W.heap.size W w') :
    Calls Tryz.prog 156 #[.int .i64 m, .int .i64 n, .agg (hV kn).toArray, .bool whole, v] w (regPost w g h f) := by
  obtain ⟨wB, hwB⟩ : ∃ wB, wB = ((w.alloc (.cells (hV kn).toArray 104)).alloc (.cells z32.toArray 104)).alloc (.cells z32.toArray 104) := ⟨_, rfl⟩
  have G0 : GS w.heap.size w kn wB := by rw [hwB]; exact gs_new kn w
  have lk := hV_len hk32
  have ik := hV_info hk32
  have ok := hV_one kn
  have lb := hV_len hb32
  have ib := hV_info hb32
  have ob := hV_one b
  have hc1 := hcut _ G0.b
  rw [hwB] at hc1
  clear hcut
  have lx := hV_len hx32
  have ix := hV_info hx32
  have ox := hV_one x
  have ly := hV_len hy32
  have iy := hV_info hy32
  have oy := hV_one y
  have lg := hV_len g32
  have ig := hV_info g32
  have og := hV_one g
  have lh := hV_len h32
  have ih := hV_info h32
  have oh := hV_one h
  have mn : ((m : Int) == (n : Int)) = false := by rw [beq_eq_false_iff_ne]; omega
  have mk : ¬ (m : Int) ≤ (k : Int) := by omega
  have mk2 : (k : Int) < (m : Int) := by omega
  have mk3 : (m : Int) < (n : Int) := by omega
  have HREC : Hid (∀ W, Below w.heap.size w W → Calls Tryz.prog 156 #[.int .i64 ((m : Int) - (k : Int)), .int .i64 ((n : Int) - (k : Int)), .agg (hV kn).toArray, .bool false, .slice ao M cap] W (regPost W x y f)) := hrec
  have HJ0 : Hid (∀ W, Below w.heap.size w W → Calls Tryz.prog 113 #[.agg (hV b).toArray, .agg (hV x).toArray] W fun e w' => e = .returned (.agg (hV g).toArray) ∧ Below W.heap.size W w') := hj0
  have HJ1 : Hid (∀ W, Below w.heap.size w W → Calls Tryz.prog 113 #[.agg (hV b).toArray, .agg (hV y).toArray] W fun e w' => e = .returned (.agg (hV h).toArray) ∧ Below W.heap.size W w') := hj1
  clear hrec hj0 hj1
  go_enter Tryz.func156, Tryz.ntmps156
  go_wp2_with (first | (refine wpList_alloc_of rfl 104 rfl z32.toArray alloc_32 ?_))
  refine hc1.mono ?_
  rintro e w1 ⟨rfl, hb1⟩
  rw [← hwB] at hb1
  clear hwB
  have G1 := G0.step hb1
  have z1 := G1.z
  have ht1 : (w1.alloc (.cells z32.toArray 104)).there w1.heap.size 0 (hV b).length := by rw [lb]; exact there_z32 w1
  clear hc1 hb1
  go_wp2_with (first | (refine wpList_alloc_of rfl 104 rfl z32.toArray alloc_32 ?_) | (refine wpList_store_abs rfl 104 _ _ rfl w1.heap.size 0 (hV b) rfl rfl ht1 ib ob ?_; intro w2 _hw2 hr2 _ht2 hb2; clear _hw2 _ht2) | (go_at_call 112; refine (hsp _).mono ?_; rintro e wx ⟨rfl, hwx⟩; obtain rfl : w2 = wx := hwx.symm; clear hwx) | (refine wpList_load_mid rfl 104 (.tmp 7) rfl w.heap.size 0 rfl (hV kn) _ (range_keep G1.k (((Below.refl _ _).alloc (Nat.le_refl _) _).trans (hb2 _ (Nat.le_refl _))) (by omega)) Tryz.underlying104 rfl ik ?_))
  have B2 : GB w.heap.size w1.heap.size w kn b w2 := ⟨G1.step (((Below.refl _ _).alloc (Nat.le_refl _) _).trans (hb2 _ (Nat.le_refl _))), hr2, z1, by have := (hb2 _ (Nat.le_refl _)).size; simp at this; omega⟩
  clear ht1 hb2 hr2
  clear hsp
  refine (HREC.out w2 B2.b).mono ?_
  rintro e w3 ⟨rfl, hb3⟩
  have B3 := B2.step hb3
  have t3 : w3.there (w.heap.size + 1) 0 (hV x).length := by rw [lx]; exact B3.s.t1
  clear hb3
  go_wp2_with (first | (refine wpList_store_abs rfl 104 _ _ rfl (w.heap.size + 1) 0 (hV x) rfl rfl t3 ix ox ?_; intro w4 hw4 hr4 _ht4 _hb4; have B4 : GB w.heap.size w1.heap.size w kn b w4 := B3.stored (Nat.le_refl _) (by omega) hw4; clear hw4 _ht4 _hb4; have t4 : w4.there (w.heap.size + 2) 0 (hV y).length := there_len ly B4.s.t2) | (refine wpList_store_abs rfl 104 _ _ rfl (w.heap.size + 2) 0 (hV y) rfl rfl t4 iy oy ?_; intro w5 hw5 hr5 _ht5 _hb5; have B5 : GB w.heap.size w1.heap.size w kn b w5 := B4.stored (by omega) (by omega) hw5; have hr4' : w5.rangeAt (w.heap.size + 1) 0 (hV x) := range_stored hr4 (by omega) hw5; clear hw5 _ht5 _hb5))
  have J0 := B5.drew
  have rx0 : w5.drew.rangeAt (w.heap.size + 1) 0 (hV x) := hr4'
  have ry0 : w5.drew.rangeAt (w.heap.size + 2) 0 (hV y) := hr5
  refine wp_region_noPanic ?_
  refine wp_region_held_drew (S := GB w.heap.size w1.heap.size w kn b) (by kernel_rfl) J0 (fun _ => ?_)
  refine wpAnyH_take (i := 0) (v := .agg (hV b).toArray) rfl (by kernel_rfl) (by kernel_rfl) (by kernel_rfl) (fun _ _ _ h => h) (yieldsIf_load_mid (by rfl) 104 (.tmp 14) rfl w1.heap.size 0 rfl (hV b) _ (fun w' hw' => hw'.r) Tryz.underlying104 rfl ib) J0 ?_
  simp only [qA, qB, qC, Act.put, qD, qE, qF]
  refine wpAnyH_take (i := 3) (v := .agg (hV b).toArray) rfl (by kernel_rfl) (by kernel_rfl) (by kernel_rfl) (fun _ _ _ h => h) (yieldsIf_load_mid (by rfl) 104 (.tmp 14) rfl w1.heap.size 0 rfl (hV b) _ (fun w' hw' => hw'.r) Tryz.underlying104 rfl ib) J0 ?_
  simp only [qA, qB, qC, Act.put, qD, qE, qF]
  refine tk 6 J0 ?_
  refine wpAnyH_ready (rs := [1, 4]) (by kernel_rfl) (by simp) ?_
  refine AllReadyH.cons rfl (fun K hK => ?_) (AllReadyH.cons rfl (fun K hK => ?_) AllReadyH.nil)
  · rw [if_pos (by rfl)]
    refine wp_load_mid 104 (.tmp 10) rfl (w.heap.size + 1) 0 rfl (hV x) _ rx0 Tryz.underlying104 rfl ix ?_
    refine hK.out _ _ J0 (fun _ => ?_)
    clear hK K
    try simp only [qA, qB, qC, Act.put, qD, qE, qF]
    refine wpAnyH_ready (rs := [2, 4]) (by kernel_rfl) (by simp) ?_
    refine AllReadyH.cons rfl (fun K hK => ?_) (AllReadyH.cons rfl (fun K hK => ?_) AllReadyH.nil)
    · rw [if_pos (by rfl)]
      go_simp
      refine (HJ0.out _ J0.b).mono ?_
      rintro e w11 ⟨rfl, hbw11⟩
      have Jw11 := J0.step hbw11
      have rxw11 := range_keep rx0 hbw11 (by have := J0.s.z; omega)
      have ryw11 := range_keep ry0 hbw11 (by have := J0.s.z; omega)
      refine hK.out _ _ Jw11 (fun _ => ?_)
      clear hK K
      try simp only [qA, qB, qC, Act.put, qD, qE, qF]
      refine rk 4 (fun K hK => ?_)
      refine wp_load_mid 104 (.tmp 11) rfl (w.heap.size + 2) 0 rfl (hV y) _ ryw11 Tryz.underlying104 rfl iy ?_
      refine hK.out _ _ Jw11 (fun _ => ?_)
      clear hK K
      try simp only [qA, qB, qC, Act.put, qD, qE, qF]
      refine rk 5 (fun K hK => ?_)
      go_simp
      refine (HJ1.out _ Jw11.b).mono ?_
      rintro e w13 ⟨rfl, hbw13⟩
      have Jw13 := Jw11.step hbw13
      have rxw13 := range_keep rxw11 hbw13 (by have := Jw11.s.z; omega)
      have ryw13 := range_keep ryw11 hbw13 (by have := Jw11.s.z; omega)
      refine hK.out _ _ Jw13 (fun _ => ?_)
      clear hK K
      try simp only [qA, qB, qC, Act.put, qD, qE, qF]
      refine rk 7 (fun K hK => ?_)
      refine wp_store_mid 104 (.tmp 10) (.tmp 81) rfl (w.heap.size + 1) 0 (hV g).toArray rfl rfl (by show World.there _ _ _ (hV g).length; rw [lg]; exact Jw13.s.t1) (by show _ = some (hV g).length; exact ig) (all_oneCell_toArray og) ?_
      have Ja : GB w.heap.size w1.heap.size w kn b (w13.setCells (w.heap.size + 1) 0 (hV g).toArray.toList) := Jw13.store (Nat.le_refl _) (by omega) _
      refine hK.out _ _ Ja (fun _ => ?_)
      clear hK K
      try simp only [qA, qB, qC, Act.put, qD, qE, qF]
      refine rk 8 (fun K hK => ?_)
      refine wp_store_mid 104 (.tmp 11) (.tmp 84) rfl (w.heap.size + 2) 0 (hV h).toArray rfl rfl (by show World.there _ _ _ (hV h).length; rw [lh]; exact Ja.s.t2) (by show _ = some (hV h).length; exact ih) (all_oneCell_toArray oh) ?_
      have Jb : GB w.heap.size w1.heap.size w kn b ((w13.setCells (w.heap.size + 1) 0 (hV g).toArray.toList).setCells (w.heap.size + 2) 0 (hV h).toArray.toList) := Ja.store (by omega) (by omega) _
      refine hK.out _ _ Jb (fun _ => ?_)
      clear hK K
      try simp only [qA, qB, qC, Act.put, qD, qE, qF]
      refine rk 9 (fun K hK => ?_)
      go_simp
      refine hK.out _ _ Jb (fun _ => ?_)
      clear hK K
      try simp only [qA, qB, qC, Act.put, qD, qE, qF]
      refine ⟨by kernel_rfl, ?_⟩
      refine NoPanic.normal ?_
      try simp only [qA, qB, qC, Act.put, qD, qE, qF]
      go_wp2_with fail
      exact ret_cell_cell_tmp rfl (w.heap.size + 1) (w.heap.size + 2) 0 0 (hV g) (hV h) _ _ rfl rfl rfl (range_store (by have := World.rangeAt_setCells_same w13 (w.heap.size + 1) 0 (hV g) (by rw [lg]; exact Jw13.s.t1); simpa using this) (by omega)) (by have := World.rangeAt_setCells_same _ (w.heap.size + 2) 0 (hV h) (by rw [lh]; exact Ja.s.t2); simpa using this) Tryz.underlying104 rfl ig ih rfl ⟨rfl, Jb.b⟩
    · rw [if_pos (by rfl)]
      refine wp_load_mid 104 (.tmp 11) rfl (w.heap.size + 2) 0 rfl (hV y) _ ry0 Tryz.underlying104 rfl iy ?_
      refine hK.out _ _ J0 (fun _ => ?_)
      clear hK K
      try simp only [qA, qB, qC, Act.put, qD, qE, qF]
      refine rk 2 (fun K hK => ?_)
      go_simp
      refine (HJ0.out _ J0.b).mono ?_
      rintro e w12 ⟨rfl, hbw12⟩
      have Jw12 := J0.step hbw12
      have rxw12 := range_keep rx0 hbw12 (by have := J0.s.z; omega)
      have ryw12 := range_keep ry0 hbw12 (by have := J0.s.z; omega)
      refine hK.out _ _ Jw12 (fun _ => ?_)
      clear hK K
      try simp only [qA, qB, qC, Act.put, qD, qE, qF]
      refine rk 5 (fun K hK => ?_)
      go_simp
      refine (HJ1.out _ Jw12.b).mono ?_
      rintro e w13 ⟨rfl, hbw13⟩
      have Jw13 := Jw12.step hbw13
      have rxw13 := range_keep rxw12 hbw13 (by have := Jw12.s.z; omega)
      have ryw13 := range_keep ryw12 hbw13 (by have := Jw12.s.z; omega)
      refine hK.out _ _ Jw13 (fun _ => ?_)
      clear hK K
      try simp only [qA, qB, qC, Act.put, qD, qE, qF]
      refine rk 7 (fun K hK => ?_)
      refine wp_store_mid 104 (.tmp 10) (.tmp 81) rfl (w.heap.size + 1) 0 (hV g).toArray rfl rfl (by show World.there _ _ _ (hV g).length; rw [lg]; exact Jw13.s.t1) (by show _ = some (hV g).length; exact ig) (all_oneCell_toArray og) ?_
      have Ja : GB w.heap.size w1.heap.size w kn b (w13.setCells (w.heap.size + 1) 0 (hV g).toArray.toList) := Jw13.store (Nat.le_refl _) (by omega) _
      refine hK.out _ _ Ja (fun _ => ?_)
      clear hK K
      try simp only [qA, qB, qC, Act.put, qD, qE, qF]
      refine rk 8 (fun K hK => ?_)
      refine wp_store_mid 104 (.tmp 11) (.tmp 84) rfl (w.heap.size + 2) 0 (hV h).toArray rfl rfl (by show World.there _ _ _ (hV h).length; rw [lh]; exact Ja.s.t2) (by show _ = some (hV h).length; exact ih) (all_oneCell_toArray oh) ?_
      have Jb : GB w.heap.size w1.heap.size w kn b ((w13.setCells (w.heap.size + 1) 0 (hV g).toArray.toList).setCells (w.heap.size + 2) 0 (hV h).toArray.toList) := Ja.store (by omega) (by omega) _
      refine hK.out _ _ Jb (fun _ => ?_)
      clear hK K
      try simp only [qA, qB, qC, Act.put, qD, qE, qF]
      refine rk 9 (fun K hK => ?_)
      go_simp
      refine hK.out _ _ Jb (fun _ => ?_)
      clear hK K
      try simp only [qA, qB, qC, Act.put, qD, qE, qF]
      refine ⟨by kernel_rfl, ?_⟩
      refine NoPanic.normal ?_
      try simp only [qA, qB, qC, Act.put, qD, qE, qF]
      go_wp2_with fail
      exact ret_cell_cell_tmp rfl (w.heap.size + 1) (w.heap.size + 2) 0 0 (hV g) (hV h) _ _ rfl rfl rfl (range_store (by have := World.rangeAt_setCells_same w13 (w.heap.size + 1) 0 (hV g) (by rw [lg]; exact Jw13.s.t1); simpa using this) (by omega)) (by have := World.rangeAt_setCells_same _ (w.heap.size + 2) 0 (hV h) (by rw [lh]; exact Ja.s.t2); simpa using this) Tryz.underlying104 rfl ig ih rfl ⟨rfl, Jb.b⟩
  · rw [if_pos (by rfl)]
    refine wp_load_mid 104 (.tmp 11) rfl (w.heap.size + 2) 0 rfl (hV y) _ ry0 Tryz.underlying104 rfl iy ?_
    refine hK.out _ _ J0 (fun _ => ?_)
    clear hK K
    try simp only [qA, qB, qC, Act.put, qD, qE, qF]
    refine rk 1 (fun K hK => ?_)
    refine wp_load_mid 104 (.tmp 10) rfl (w.heap.size + 1) 0 rfl (hV x) _ rx0 Tryz.underlying104 rfl ix ?_
    refine hK.out _ _ J0 (fun _ => ?_)
    clear hK K
    try simp only [qA, qB, qC, Act.put, qD, qE, qF]
    refine rk 2 (fun K hK => ?_)
    go_simp
    refine (HJ0.out _ J0.b).mono ?_
    rintro e w12 ⟨rfl, hbw12⟩
    have Jw12 := J0.step hbw12
    have rxw12 := range_keep rx0 hbw12 (by have := J0.s.z; omega)
    have ryw12 := range_keep ry0 hbw12 (by have := J0.s.z; omega)
    refine hK.out _ _ Jw12 (fun _ => ?_)
    clear hK K
    try simp only [qA, qB, qC, Act.put, qD, qE, qF]
    refine rk 5 (fun K hK => ?_)
    go_simp
    refine (HJ1.out _ Jw12.b).mono ?_
    rintro e w13 ⟨rfl, hbw13⟩
    have Jw13 := Jw12.step hbw13
    have rxw13 := range_keep rxw12 hbw13 (by have := Jw12.s.z; omega)
    have ryw13 := range_keep ryw12 hbw13 (by have := Jw12.s.z; omega)
    refine hK.out _ _ Jw13 (fun _ => ?_)
    clear hK K
    try simp only [qA, qB, qC, Act.put, qD, qE, qF]
    refine rk 7 (fun K hK => ?_)
    refine wp_store_mid 104 (.tmp 10) (.tmp 81) rfl (w.heap.size + 1) 0 (hV g).toArray rfl rfl (by show World.there _ _ _ (hV g).length; rw [lg]; exact Jw13.s.t1) (by show _ = some (hV g).length; exact ig) (all_oneCell_toArray og) ?_
    have Ja : GB w.heap.size w1.heap.size w kn b (w13.setCells (w.heap.size + 1) 0 (hV g).toArray.toList) := Jw13.store (Nat.le_refl _) (by omega) _
    refine hK.out _ _ Ja (fun _ => ?_)
    clear hK K
    try simp only [qA, qB, qC, Act.put, qD, qE, qF]
    refine rk 8 (fun K hK => ?_)
    refine wp_store_mid 104 (.tmp 11) (.tmp 84) rfl (w.heap.size + 2) 0 (hV h).toArray rfl rfl (by show World.there _ _ _ (hV h).length; rw [lh]; exact Ja.s.t2) (by show _ = some (hV h).length; exact ih) (all_oneCell_toArray oh) ?_
    have Jb : GB w.heap.size w1.heap.size w kn b ((w13.setCells (w.heap.size + 1) 0 (hV g).toArray.toList).setCells (w.heap.size + 2) 0 (hV h).toArray.toList) := Ja.store (by omega) (by omega) _
    refine hK.out _ _ Jb (fun _ => ?_)
    clear hK K
    try simp only [qA, qB, qC, Act.put, qD, qE, qF]
    refine rk 9 (fun K hK => ?_)
    go_simp
    refine hK.out _ _ Jb (fun _ => ?_)
    clear hK K
    try simp only [qA, qB, qC, Act.put, qD, qE, qF]
    refine ⟨by kernel_rfl, ?_⟩
    refine NoPanic.normal ?_
    try simp only [qA, qB, qC, Act.put, qD, qE, qF]
    go_wp2_with fail
    exact ret_cell_cell_tmp rfl (w.heap.size + 1) (w.heap.size + 2) 0 0 (hV g) (hV h) _ _ rfl rfl rfl (range_store (by have := World.rangeAt_setCells_same w13 (w.heap.size + 1) 0 (hV g) (by rw [lg]; exact Jw13.s.t1); simpa using this) (by omega)) (by have := World.rangeAt_setCells_same _ (w.heap.size + 2) 0 (hV h) (by rw [lh]; exact Ja.s.t2); simpa using this) Tryz.underlying104 rfl ig ih rfl ⟨rfl, Jb.b⟩

theorem zT_hV : hV zT = z32 := z32_hV
/-- The program's regrow: the two roots to which a proof leads. -/
theorem reg_any (K : Nat → Int) (kn : ByteArray) (hk32 : kn.size = 32) : ∀ (q : Nat) (pf : List ByteArray) (v : Value) (m n : Nat) (whole : Bool) (w : World), pf.length = q → q ≤ 1000000000 → 0 < m → m ≤ n → n ≤ 2147483647 → LeafAt w v pf → Tab K w →
    Calls Tryz.prog 156 #[.int .i64 m, .int .i64 n, .agg (hV kn).toArray, .bool whole, v] w (regPost w (regF (sumOf K) kn m n whole pf).1 (regF (sumOf K) kn m n whole pf).2.1 (regF (sumOf K) kn m n whole pf).2.2) := by
  intro q
  induction q with
  | zero =>
    intro pf v m n whole w hq hq1 hm0 hmn hn1 hl T
    obtain rfl : pf = [] := List.eq_nil_of_length_eq_zero hq
    obtain ⟨ao, cap, rfl⟩ := leaf_form hl
    by_cases h1 : m = n ∧ whole = true
    · obtain ⟨rfl, rfl⟩ := h1
      rw [regF_whole]
      exact reg_known kn m ao 0 cap w hk32
    · rw [regF_none _ _ _ _ _ h1]
      unfold regPost
      rw [zT_hV]
      refine reg_bad kn m n whole _ (.slice none 0 0) z32 w hk32 ?_ rfl z32_onet (fun W hb => cut_nil ao cap W)
      cases whole
      · simp
      · have : m ≠ n := fun e => h1 ⟨e, rfl⟩
        have h3 : ((m : Int) == (n : Int)) = false := by rw [beq_eq_false_iff_ne]; omega
        rw [h3]; rfl
  | succ q ih =>
    intro pf v m n whole w hq hq1 hm0 hmn hn1 hl T
    obtain ⟨rest, b, rfl⟩ := snoc_of (pf := pf) (by intro e; subst e; simp at hq)
    have hrl : rest.length = q := by simp at hq; exact hq
    obtain ⟨g, off, cap, rfl, hcap, hc⟩ : ∃ g off cap, v = .slice (some ⟨g, off, none⟩) (rest ++ [b]).length cap ∧ (rest ++ [b]).length ≤ cap ∧ ∀ j (h : j < (rest ++ [b]).length), w.cell? ⟨g, off + j, none⟩ = some (.string ((rest ++ [b])[j]'h)) := by
      rcases hl with ⟨e, _⟩ | h
      · simp at e
      · exact h
    have hlen : (rest ++ [b]).length = q + 1 := hq
    by_cases h1 : m = n ∧ whole = true
    · obtain ⟨rfl, rfl⟩ := h1
      rw [regF_whole]
      have := reg_known kn m (some ⟨g, off, none⟩) (rest ++ [b]).length cap w hk32
      rw [show (((rest ++ [b]).length : Int) == 0) = (rest ++ [b]).isEmpty by rw [show (rest ++ [b]).isEmpty = false by simp]; rw [beq_eq_false_iff_ne]; simp; omega] at this
      exact this
    · have hcm : w.cell? ⟨g, off + q, none⟩ = some (.string b) := by
        have := hc q (by omega)
        rw [this]; simp [← hrl]
      have hcut : ∀ W, Below w.heap.size w W → Calls Tryz.prog 157 #[.slice (some ⟨g, off, none⟩) (q + 1) cap] W fun e w' => e = .returned (.tuple #[.slice (some ⟨g, off, none⟩) q cap, .agg (cutV b).toArray, .bool (b.size == 32)]) ∧ Below W.heap.size W w' := fun W hb =>
        cut_any g off q cap b W ((hb.cell (World.block_lt_of_cell? w _ hcm)).trans hcm) (by omega) (by omega)
      rw [hlen]
      have lR : ∀ W, Below w.heap.size w W → LeafAt W (.slice (some ⟨g, off, none⟩) q cap) rest := fun W hb => by
        refine LeafAt.below (w := w) ?_ hb
        refine Or.inr ⟨g, off, cap, by rw [hrl], by omega, fun j hj => ?_⟩
        rw [hc j (by simp; omega), List.getElem_append_left hj]
      by_cases hb32 : b.size = 32
      · have hcV : cutV b = hV b := by unfold cutV; rw [if_pos hb32]
        have hok : (b.size == 32) = true := by rw [hb32]; rfl
        rw [hcV, hok] at hcut
        have hsz := fun m n whole => regF_sizes (sumOf K) (sumOf_size K) kn hk32 _ rest m n whole rfl
        by_cases h2 : m = n
        · have hw : whole = false := by cases whole <;> simp_all
          subst h2 hw
          rw [regF_all _ _ _ _ _ hb32]
          have := reg_all kn b m (.slice (some ⟨g, off, none⟩) (q + 1) cap) (some ⟨g, off, none⟩) q cap w hk32 hb32 hcut
          rw [show ((q : Int) == 0) = rest.isEmpty by
            rw [← hrl]
            cases rest
            · rfl
            · rw [beq_eq_false_iff_ne.2 (by simp; omega)]; rfl] at this
          exact this
        · have h3 : 2 ≤ n := by omega
          have hk0 := halfN_pos n
          have hk1 := halfN_lt h3
          by_cases hik : m ≤ halfN n
          · rw [regF_left _ _ _ _ _ h2 _ _ hb32 hik]
            exact reg_left kn b _ _ _ m n (halfN n) whole _ _ (some ⟨g, off, none⟩) q cap w hk32 hb32 (hsz _ _ _).1 (hsz _ _ _).2 (sumOf_size K _) h3 hn1 hm0 (by omega) hk1 hik hcut (fun W => split_any n W h3 hn1)
              (fun W hb => ih rest _ m (halfN n) whole W hrl (by omega) hm0 hik (by omega) (lR W hb) (T.below hb))
              (fun W hb => join_any _ _ K W (hsz _ _ _).2 hb32 (T.below hb))
          · rw [regF_right _ _ _ _ _ h2 _ _ hb32 hik]
            exact reg_right kn b _ _ _ _ m n (halfN n) whole _ _ (some ⟨g, off, none⟩) q cap w hk32 hb32 (hsz _ _ _).1 (hsz _ _ _).2 (sumOf_size K _) (sumOf_size K _) h3 hn1 hm0 (by omega) hk1 (by omega) hcut (fun W => split_any n W h3 hn1)
              (fun W hb => by
                have := ih rest (.slice (some ⟨g, off, none⟩) q cap) (m - halfN n) (n - halfN n) false W hrl (by omega) (by omega) (by omega) (by omega) (lR W hb) (T.below hb)
                rw [show ((m - halfN n : Nat) : Int) = (m : Int) - (halfN n : Int) by omega, show ((n - halfN n : Nat) : Int) = (n : Int) - (halfN n : Int) by omega] at this
                exact this)
              (fun W hb => join_any _ _ K W hb32 (hsz _ _ _).1 (T.below hb)) (fun W hb => join_any _ _ K W hb32 (hsz _ _ _).2 (T.below hb))
      · rw [regF_bad _ _ _ _ _ h1 _ _ hb32]
        have hok : (b.size == 32) = false := by simp [hb32]
        rw [hok] at hcut
        unfold regPost
        rw [zT_hV]
        refine reg_bad kn m n whole _ _ _ w hk32 ?_ (cutV_len b) (cutV_one b) hcut
        cases whole
        · simp
        · have : m ≠ n := fun e => h1 ⟨e, rfl⟩
          have h3 : ((m : Int) == (n : Int)) = false := by rw [beq_eq_false_iff_ne]; omega
          rw [h3]; rfl
end Go.Proofs.YteglimjonofdeaaGreatDoor
