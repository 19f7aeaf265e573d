import Derived.Test.YteebdadnfaekmaaDoorPKey
set_option linter.unusedVariables false
set_option linter.unusedSimpArgs false
namespace Go.Proofs.YteebdadnfaekmaaDoor
open Go.RowKit

/-- copy of a string that is as long at least. -/
theorem run_copy_cut (w : World) (b dLen dCap : Nat) (t : ByteArray) (hle : dLen ≤ t.size) (ht : w.there b 0 dLen) :
    (Builtin.copy_ #[27, 9] 3 #[.slice (some ⟨b, 0, none⟩) dLen dCap, .string t]).run Tryd.prog w = .ok (goInt dLen) (w.setCells b 0 ((hV t).take dLen)) := by
  have hmin : Nat.min t.size dLen = dLen := Nat.min_eq_right hle
  have hl : ((hV t).take dLen).length = dLen := by rw [List.length_take]; unfold hV; rw [bytesV_length, numsOf_length]; omega
  have hst := run_storeCells_cells (P := Tryd.prog) b 0 ((hV t).take dLen) 0 w (by rw [hl]; intro j hj; simpa using (ht j hj).1) (by rw [hl]; intro j hj; simpa using (ht j hj).2) (fun v hv => hV_one t v (List.mem_of_mem_take hv))
  have e : (t.data.toList.map fun x => Value.int .u8 (x.toNat : Int)) = hV t := by unfold hV bytesV numsOf; rw [List.map_map]; rfl
  simp [Builtin.copy_, run_underlying Tryd.underlying27, Builtin.lenOf, Builtin.firstCells, size_byte, hmin]
  rw [e, hst]
  rfl
def zT0 : ByteArray := strOfNums (List.replicate 32 0)
/-- The c-th hash of a text of hashes. -/
def pieceF (V : ByteArray) (c : Nat) : ByteArray := V.extract (32 * c) (32 * c + 32)
theorem pieceF_size (V : ByteArray) (c : Nat) (h : 32 * c + 32 ≤ V.size) : (pieceF V c).size = 32 := by unfold pieceF; rw [ByteArray.size_extract]; omega

theorem nums_extract (V : ByteArray) (a b : Nat) : numsOf (V.extract a b) = ((numsOf V).drop a).take (b - a) := by
  unfold numsOf
  rw [ByteArray.data_extract, Array.toList_extract, List.extract_eq_take_drop, List.map_take, List.map_drop]
theorem piece_take (V : ByteArray) (c : Nat) (hc : 32 * c + 32 ≤ V.size) : (hV (V.extract (32 * c) V.size)).take 32 = hV (pieceF V c) := by
  unfold pieceF hV bytesV
  rw [nums_extract, nums_extract, ← List.map_take, List.take_take, Nat.min_eq_left (by omega), show 32 * c + 32 - 32 * c = 32 by omega]

set_option maxRecDepth 10000 in
set_option maxHeartbeats 1000000 in
theorem finish1_any (V : ByteArray) (c bv : Nat) (w : World) (hc : 32 * c + 32 ≤ V.size) (hV1 : V.size ≤ 1000000) (cv : w.cell? ⟨bv, 0, none⟩ = some (.string V)) :
    Calls Tryd.prog 88 #[.int .i64 c, .pointer (some ⟨bv, 0, none⟩)] w fun e w' => e = .returned (.agg (hV (pieceF V c)).toArray) ∧ Below w.heap.size w w' := by
  have l1 := World.block_lt_of_cell? w _ cv
  have k1 : (c : Int) * 32 ≤ (V.size : Int) := by omega
  have k0 : (0 : Int) ≤ (c : Int) * 32 := by omega
  have hwr : IntKind.i64.wrap ((c : Int) * 32) = (c : Int) * 32 := wrap_small _ (by omega) (by omega)
  have htn : ((c : Int) * 32).toNat = 32 * c := by omega
  obtain ⟨wB, hwB⟩ : ∃ wB, wB = (w.alloc (.cells z32.toArray 54)).alloc (.cells z32.toArray 54) := ⟨_, rfl⟩
  have cB : wB.cell? ⟨bv, 0, none⟩ = some (.string V) := by rw [hwB, World.cell?_alloc_past _ _ _ (by simp; exact Nat.lt_succ_of_lt l1), World.cell?_alloc_past _ _ _ l1]; exact cv
  go_enter Tryd.func88, Tryd.ntmps88
  go_wp2_with (first | (refine wpList_alloc_of rfl 54 rfl z32.toArray alloc_32 ?_))
  rw [← hwB]
  have J0 : wB.drew.cell? ⟨bv, 0, none⟩ = some (.string V) := cB
  refine wp_region_noPanic ?_
  refine wp_region_held_drew (S := fun W => W.cell? ⟨bv, 0, none⟩ = some (.string V)) (by kernel_rfl) J0 (fun _ => ?_)
  refine wpAnyH_take (i := 0) (v := ?_) rfl (by kernel_rfl) (by kernel_rfl) (by kernel_rfl) (fun _ _ _ h => h) (Or.inl ⟨by rfl, ?_⟩) J0 ?_
  rotate_left 1
  · intro W hSW; go_simp; try with_reducible rfl
  simp only [List.getElem_toArray, List.getElem_cons_zero, List.getElem_cons_succ, Act.put, List.setIfInBounds_toArray, List.set_cons_zero, List.set_cons_succ]
  refine wpAnyH_take (i := 1) (v := ?_) rfl (by kernel_rfl) (by kernel_rfl) (by kernel_rfl) (fun _ _ _ h => h) (Or.inl ⟨by rfl, ?_⟩) J0 ?_
  rotate_left 1
  · intro W hSW; go_simp; try with_reducible rfl
  simp only [List.getElem_toArray, List.getElem_cons_zero, List.getElem_cons_succ, Act.put, List.setIfInBounds_toArray, List.set_cons_zero, List.set_cons_succ]
  refine wpAnyH_take (i := 2) (v := ?_) rfl (by kernel_rfl) (by kernel_rfl) (by kernel_rfl) (fun _ _ _ h => h) (Or.inl ⟨by rfl, ?_⟩) J0 ?_
  rotate_left 1
  · intro W hSW; go_simp; try with_reducible rfl
  simp only [List.getElem_toArray, List.getElem_cons_zero, List.getElem_cons_succ, Act.put, List.setIfInBounds_toArray, List.set_cons_zero, List.set_cons_succ]
  refine wpAnyH_take (i := 3) (v := ?_) rfl (by kernel_rfl) (by kernel_rfl) (by kernel_rfl) (fun _ _ _ h => h) (Or.inl ⟨by rfl, ?_⟩) J0 ?_
  rotate_left 1
  · intro W hSW; go_simp; try with_reducible rfl
  simp only [List.getElem_toArray, List.getElem_cons_zero, List.getElem_cons_succ, Act.put, List.setIfInBounds_toArray, List.set_cons_zero, List.set_cons_succ]
  refine wpAnyH_take (i := 4) (v := ?_) rfl (by kernel_rfl) (by kernel_rfl) (by kernel_rfl) (fun _ _ _ h => h) (Or.inl ⟨by rfl, ?_⟩) J0 ?_
  rotate_left 1
  · intro W hSW; go_simp; try with_reducible rfl
  simp only [List.getElem_toArray, List.getElem_cons_zero, List.getElem_cons_succ, Act.put, List.setIfInBounds_toArray, List.set_cons_zero, List.set_cons_succ]
  refine wpAnyH_ready (rs := [5]) (by kernel_rfl) (by simp) ?_
  refine AllReadyH.cons rfl (fun K hK => ?_) AllReadyH.nil
  rw [if_pos (by rfl)]
  have htA : wB.drew.there (w.heap.size + 1) 0 32 := by
    show wB.there (w.heap.size + 1) 0 32
    rw [hwB]; have := there_z32 (w.alloc (.cells z32.toArray 54)); simpa using this
  have htR : wB.there w.heap.size 0 32 := by
    rw [hwB]; exact there_below ((Below.refl _ _).alloc (by simp) _) (Nat.lt_succ_self _) (there_z32 w)
  have hbB : Below w.heap.size w wB := by rw [hwB]; exact ((Below.refl _ _).alloc (Nat.le_refl _) _).alloc (by simp) _
  have hrun := run_copy_cut wB.drew (w.heap.size + 1) 32 32 (V.extract (32 * c) V.size) (by rw [ByteArray.size_extract]; omega) htA
  have h32 := pieceF_size V c hc
  rw [piece_take V c hc] at hrun
  have ip := hV_info h32
  have op := hV_one (pieceF V c)
  have lp := hV_len h32
  obtain ⟨L, hL⟩ : ∃ L, L = hV (pieceF V c) := ⟨_, rfl⟩
  rw [← hL] at hrun ip op lp
  refine Lib.wp_copy_run _ (.tmp 5) (.tmp 9) 27 9 rfl _ _ rfl rfl hrun ?_
  have J1 : (wB.drew.setCells (w.heap.size + 1) 0 L).cell? ⟨bv, 0, none⟩ = some (.string V) := by
    rw [World.cell?_setCells_out _ _ _ _ ⟨bv, 0, none⟩ (fun e _ => by exfalso; simp at e; omega)]; exact J0
  have hrC : (wB.drew.setCells (w.heap.size + 1) 0 L).rangeAt (w.heap.size + 1) 0 L := World.rangeAt_setCells_same _ _ _ _ (by rw [lp]; exact htA)
  have htC : (wB.drew.setCells (w.heap.size + 1) 0 L).there w.heap.size 0 L.length := by rw [lp]; exact World.there_setCells (show wB.drew.there w.heap.size 0 32 from htR) _ _ _
  have hbC : Below w.heap.size w (wB.drew.setCells (w.heap.size + 1) 0 L) := below_setCells (by omega) _ _ _ hbB.drew
  clear hrun
  generalize wB.drew.setCells (w.heap.size + 1) 0 L = wC at *
  refine hK.out _ _ J1 (fun _ => ?_)
  clear hK K
  refine ⟨by kernel_rfl, ?_⟩
  refine NoPanic.normal ?_
  try simp only [List.getElem_toArray, List.getElem_cons_zero, List.getElem_cons_succ, Act.put, List.setIfInBounds_toArray, List.set_cons_zero, List.set_cons_succ]
  go_wp2_with (first | (refine wpList_load_mid rfl 54 _ rfl (w.heap.size + 1) 0 rfl L _ hrC Tryd.underlying54 rfl ip ?_) | (refine wpList_store_abs rfl 54 _ _ rfl w.heap.size 0 L rfl rfl htC ip op ?_; intro w2 _hw2 hr2 _ht2 hb2; clear _hw2 _ht2))
  exact ret_cell rfl w.heap.size 0 L _ rfl hr2 Tryd.underlying54 rfl ip rfl ⟨by rw [hL], hbC.trans (hb2 _ (Nat.le_refl _))⟩
/-- The hash of one text. -/
theorem of_msg (K : Nat → Int) (x : ByteArray) (W : World) (hx : x.size ≤ 140737488355000) (T : Tab K W) :
    Calls Tryd.prog 26 #[.slice (some ⟨W.heap.size, 0, none⟩) 1 1] (W.alloc (.cells #[.string x] 9)) fun e w' => e = .returned (.agg (hV (sumOf K x)).toArray) ∧ Below (W.heap.size + 1) (W.alloc (.cells #[.string x] 9)) w' := by
  have T0 := T.below ((Below.refl _ W).alloc (Nat.le_refl _) (.cells #[.string x] 9))
  have hof := of_any [x] W.heap.size 1 K (W.alloc (.cells #[.string x] 9)) (by simp) (by simp)
    (by simp [joinN, numsOf_length]; omega)
    (fun j hj => by
      rw [World.cell?_alloc_at _ _ _ _ (by simp)]
      have hj2 : j < 1 := hj
      obtain rfl : j = 0 := by omega
      rfl) T0.lt T0.cells
  rw [hV_sum K (joinN [x]) x (by simp [joinN])] at hof
  rw [show [x].length = 1 from rfl] at hof
  simpa using hof
def finB (V : ByteArray) (c : Nat) : ByteArray := if c < 67 then pieceF V c else zT0
/-- The leaf to which a signature's values lead. -/
def finT (H : ByteArray → ByteArray) (V msg : ByteArray) : ByteArray := chainsT H (finB V) (fun c => 15 - dig (H msg) c) 67

set_option maxRecDepth 10000 in
set_option maxHeartbeats 1000000 in
theorem finish_any (K : Nat → Int) (V msg : ByteArray) (w : World) (hV1 : V.size = 2144) (hm : msg.size ≤ 140737488355000) (T : Tab K w) :
    Calls Tryd.prog 74 #[.string V, .string msg] w (strPost1 (finT (sumOf K) V msg) w) := by
  have hmf : ∀ (fn : Fn) (first cap : Array Value) (w : World), (Instr.makeFunc fn first cap).run Tryd.prog w = .ok (.func fn first cap) w := fun _ _ _ _ => rfl
  have hb0 : Below w.heap.size w (w.alloc (.cells #[.string V] 9)) := (Below.refl _ _).alloc (Nat.le_refl _) _
  have cv : (w.alloc (.cells #[.string V] 9)).cell? ⟨w.heap.size, 0, none⟩ = some (.string V) := by rw [World.cell?_alloc_at _ _ _ _ rfl]; rfl
  have hof := of_msg K msg (w.alloc (.cells #[.string V] 9)) hm (T.below hb0)
  have hz0 : (w.alloc (.cells #[.string V] 9)).heap.size = w.heap.size + 1 := by simp
  rw [hz0] at hof
  have h32 := sumOf_size K msg
  have hdg := fun W => digits_any (sumOf K msg) h32 W
  have HAL : Hid (∀ W (bd : Nat), Below w.heap.size w W → W.cell? ⟨w.heap.size, 0, none⟩ = some (.string V) → W.rangeAt bd 0 (digV (sumOf K msg)) → bd < W.heap.size → w.heap.size < W.heap.size → Calls Tryd.prog 70 #[.func (.func 88) #[] #[.pointer (some ⟨w.heap.size, 0, none⟩)], .func (.func 89) #[] #[.pointer (some ⟨bd, 0, none⟩)]] W (strPost1 (finT (sumOf K) V msg) W)) := fun W bd hb hc hr hbd hzz =>
    along_fin K (finB V) (fun c => 15 - dig (sumOf K msg) c) w.heap.size bd W (T.below hb) (fun c => by unfold finB; split; exact pieceF_size V c (by omega); rfl) (fun c => by omega)
      (fun W' hb' c hc' => by
        have := finish1_any V c w.heap.size W' (by omega) (by omega) ((hb'.cell (p := ⟨w.heap.size, 0, none⟩) hzz).trans hc)
        rw [show finB V c = pieceF V c by unfold finB; rw [if_pos hc']]
        exact this)
      (fun W' hb' c hc' => finish2_any (sumOf K msg) c bd W' hc' (fun j u hu => (hb'.cell (p := ⟨bd, 0 + j, none⟩) hbd).trans (hr j u hu)))
  have HT : Hid (Tab K w) := T
  have idv := digV_info (sumOf K msg)
  have odv := digV_one (sumOf K msg)
  have ldv := digV_len (sumOf K msg)
  generalize finT (sumOf K) V msg = R at *
  generalize digV (sumOf K msg) = D at *
  generalize sumOf K msg = hm0 at *
  clear T
  go_enter Tryd.func74, Tryd.ntmps74
  go_wp2_with fail
  refine hof.mono ?_
  rintro e w1 ⟨rfl, hb1⟩
  clear hof
  have hb1' : Below (w.heap.size + 1) (w.alloc (.cells #[.string V] 9)) w1 := ((Below.refl _ _).alloc (by simp) _).trans (hb1.mono (by omega))
  have hB1 : Below w.heap.size w w1 := hb0.trans (hb1'.mono (by omega))
  have cv1 : w1.cell? ⟨w.heap.size, 0, none⟩ = some (.string V) := (hb1'.cell (p := ⟨w.heap.size, 0, none⟩) (by show w.heap.size < w.heap.size + 1; omega)).trans cv
  have hz1 : w.heap.size < w1.heap.size := by have := hb1'.size; simp at this; omega
  clear hb1 hb1' cv hb0
  go_wp2_with fail
  refine (hdg w1).mono ?_
  rintro e w2 ⟨rfl, hb2⟩
  clear hdg
  have hB2 : Below w.heap.size w w2 := hB1.trans (hb2.mono hB1.size)
  have cv2 : w2.cell? ⟨w.heap.size, 0, none⟩ = some (.string V) := (hb2.cell (p := ⟨w.heap.size, 0, none⟩) hz1).trans cv1
  have hz2 : w.heap.size < w2.heap.size := Nat.lt_of_lt_of_le hz1 hb2.size
  have ht2 : (w2.alloc (.cells z67.toArray 105)).there w2.heap.size 0 D.length := by rw [ldv]; exact there_z67 w2
  clear hb2 cv1
  go_wp2_with (first | (refine wpList_alloc_of rfl 105 rfl z67.toArray alloc_67 ?_) | (refine wpList_store_abs rfl 105 _ _ rfl w2.heap.size 0 D rfl rfl ht2 idv odv ?_; intro w3 _hw3 hr3 _ht3 hb3; clear _hw3 _ht3))
  have hb23 : Below w2.heap.size w2 w3 := ((Below.refl _ _).alloc (Nat.le_refl _) _).trans (hb3 _ (Nat.le_refl _))
  have hB3 : Below w.heap.size w w3 := hB2.trans (hb23.mono hB2.size)
  have cv3 : w3.cell? ⟨w.heap.size, 0, none⟩ = some (.string V) := (hb23.cell (p := ⟨w.heap.size, 0, none⟩) hz2).trans cv2
  have hq3 : w2.heap.size < w3.heap.size := by have := (hb3 _ (Nat.le_refl _)).size; simp at this; omega
  refine (HAL.out w3 w2.heap.size hB3 cv3 hr3 hq3 (by omega)).mono ?_
  rintro e w4 ⟨rfl, hb4⟩
  go_wp2_with fail
  go_ret
  exact ⟨rfl, hB3.trans (hb4.mono hB3.size)⟩
end Go.Proofs.YteebdadnfaekmaaDoor
