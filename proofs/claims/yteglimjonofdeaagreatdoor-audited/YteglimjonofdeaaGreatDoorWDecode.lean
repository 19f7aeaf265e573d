import Derived.Test.YteglimjonofdeaaGreatDoorConstsM
import Derived.Test.YteglimjonofdeaaGreatDoorWEncode
import Derived.Lib.LazyBuf
set_option linter.unusedVariables false
set_option linter.unusedSimpArgs false
namespace Go.Proofs.YteglimjonofdeaaGreatDoor
open Go.RowKit


def zEvL : List Value := evCells 0 0 0 0 0 0 (bytesV (List.replicate 32 0))
theorem zEv_len : zEvL.length = 38 := by decide +kernel
theorem zEv_one : ∀ u ∈ zEvL, u.oneCell' = true := by decide +kernel
theorem alloc_evZ (w : World) : (Instr.alloc 144 true (.tuple #[])).run Tryz.prog w = .ok (.pointer (some ⟨w.heap.size, 0, none⟩)) (w.alloc (.cells zEvL.toArray 144)) := by kernel_rfl
theorem build_ev (w : World) : (Instr.build 144 #[]).run Tryz.prog w = .ok (.agg zEvL.toArray) w := by kernel_rfl
theorem info_zev : (Tryz.prog.info? 144).map (·.size) = some zEvL.length := by rw [info25, zEv_len]
theorem info_raw : (Tryz.prog.info? 144).map (·.size) = some 38 := info25
theorem there_zev (w : World) : (w.alloc (.cells zEvL.toArray 144)).there w.heap.size 0 zEvL.length := by simpa using there_new w zEvL.toArray 144

set_option maxHeartbeats 400000 in
theorem decode_short (s : ByteArray) (w : World) (h : s.size ≠ 42) :
    Calls Tryz.prog 86 #[.string s] w fun e w' => e = .returned (.tuple #[.agg zEvL.toArray, .iface 41 (.int .i64 9)]) ∧ Below w.heap.size w w' := by
  have hb : ((s.size : Int) != 42) = true := by rw [bne_iff_ne]; omega
  go_enter Tryz.func86, Tryz.ntmps86
  go_wp2_with (first | (refine wpList_alloc_of rfl 144 rfl zEvL.toArray alloc_evZ ?_) | (refine wpList_build_of rfl 144 rfl zEvL.toArray build_ev ?_) | (refine wpList_store_abs rfl 144 _ _ rfl w.heap.size 0 zEvL rfl rfl (there_zev w) info_zev zEv_one ?_; intro w1 _hw1 hr1 ht1 hb1; clear _hw1))
  exact ret_cell_tmp rfl w.heap.size 0 zEvL _ (.iface 41 (.int .i64 9)) rfl rfl hr1 Tryz.underlying144 rfl info_zev rfl ⟨rfl, ((Below.refl _ _).alloc (Nat.le_refl _) _).trans (hb1 _ (Nat.le_refl _))⟩

set_option maxHeartbeats 400000 in
theorem decode_mark (s : ByteArray) (w : World) (hb : ((s.size : Int) != 42) = false) (hlt : 0 < s.size) (hb2 : (((s[0]'hlt).toNat : Int) != 69) = true) :
    Calls Tryz.prog 86 #[.string s] w fun e w' => e = .returned (.tuple #[.agg zEvL.toArray, .iface 41 (.int .i64 9)]) ∧ Below w.heap.size w w' := by
  go_enter Tryz.func86, Tryz.ntmps86
  go_wp2_with (first | (refine wpList_alloc_of rfl 144 rfl zEvL.toArray alloc_evZ ?_) | (refine wpList_build_of rfl 144 rfl zEvL.toArray build_ev ?_) | (refine wpList_store_abs rfl 144 _ _ rfl w.heap.size 0 zEvL rfl rfl (there_zev w) info_zev zEv_one ?_; intro w1 _hw1 hr1 ht1 hb1; clear _hw1))
  exact ret_cell_tmp rfl w.heap.size 0 zEvL _ (.iface 41 (.int .i64 9)) rfl rfl hr1 Tryz.underlying144 rfl info_zev rfl ⟨rfl, ((Below.refl _ _).alloc (Nat.le_refl _) _).trans (hb1 _ (Nat.le_refl _))⟩


/-- What Decode makes of the bytes, ahead of the digest. -/
def dEv (s : ByteArray) : List Value := evCells (bAt s 1) (readI (bAt s 2) (bAt s 3) (bAt s 4) (bAt s 5)) (bAt s 6) (bAt s 7) (bAt s 8) (bAt s 9) (bytesV (List.replicate 32 0))
theorem wrap_small (x : Int) (h0 : 0 ≤ x) (h1 : x ≤ 4294967295) : IntKind.i64.wrap x = x := by
  simp [IntKind.wrap, IntKind.bits, IntKind.signed]; omega
/-- The digest that lies in the bytes. -/
def dg (s : ByteArray) : List Int := (s.extract 10 s.size).data.toList.map fun x => (x.toNat : Int)
theorem dg_cells (s : ByteArray) : ((s.extract 10 s.size).data.toList.map fun x => Value.int .u8 (x.toNat : Int)) = bytesV (dg s) := by
  unfold dg bytesV; rw [List.map_map]; rfl
theorem dg_length (s : ByteArray) (h : (s.extract 10 s.size).size = 32) : (dg s).length = 32 := by
  unfold dg; rw [List.length_map, ← Lib.size_eq]; exact h
/-- What Decode makes of the bytes. -/
def fEv (s : ByteArray) : List Value := evCells (bAt s 1) (readI (bAt s 2) (bAt s 3) (bAt s 4) (bAt s 5)) (bAt s 6) (bAt s 7) (bAt s 8) (bAt s 9) (bytesV (dg s))
def wholeD (s : ByteArray) : Bool := wholeB (bAt s 1) (readI (bAt s 2) (bAt s 3) (bAt s 4) (bAt s 5)) (bAt s 6) (bAt s 7) (bAt s 8) (bAt s 9)
theorem fEv_len (s : ByteArray) (h : (s.extract 10 s.size).size = 32) : (fEv s).length = 38 := by simp [fEv, evCells, bytesV_length, dg_length s h]
theorem fEv_one (s : ByteArray) : ∀ u ∈ fEv s, u.oneCell' = true := by
  intro u hu
  simp only [fEv, evCells, List.mem_cons] at hu
  rcases hu with rfl | rfl | rfl | rfl | rfl | rfl | hu
  · rfl
  · rfl
  · rfl
  · rfl
  · rfl
  · rfl
  · exact bytesV_one _ u hu
/-- The digest goes over the noughts. -/
theorem dig_over {w : World} {g : Nat} (s : ByteArray) (h : (s.extract 10 s.size).size = 32) (hr : w.rangeAt g 0 (dEv s)) (ht : w.there g 0 38) : (w.setCells g 6 (bytesV (dg s))).rangeAt g 0 (fEv s) := by
  have hl : (bytesV (dg s)).length = 32 := by rw [bytesV_length, dg_length s h]
  have h2 := World.rangeAt_setCells_same w g 6 (bytesV (dg s)) (fun j hj => by have := ht (6 + j) (by omega); simpa using this)
  intro j v hv
  by_cases hj : j < 6
  · have : (w.setCells g 6 (bytesV (dg s))).cell? ⟨g, 0 + j, none⟩ = w.cell? ⟨g, 0 + j, none⟩ := World.cell?_setCells_out g _ 6 w ⟨g, 0 + j, none⟩ (fun _ _ => Or.inl (by simp; omega))
    rw [this]
    refine hr j v ?_
    rw [← hv]
    obtain rfl | rfl | rfl | rfl | rfl | rfl : j = 0 ∨ j = 1 ∨ j = 2 ∨ j = 3 ∨ j = 4 ∨ j = 5 := by omega
    · rw [fEv, dEv, ev0, ev0]
    · rw [fEv, dEv, ev1, ev1]
    · rw [fEv, dEv, ev2, ev2]
    · rw [fEv, dEv, ev3, ev3]
    · rw [fEv, dEv, ev4, ev4]
    · rw [fEv, dEv, ev5, ev5]
  · obtain ⟨k, rfl⟩ : ∃ k, j = k + 6 := ⟨j - 6, by omega⟩
    rw [show 0 + (k + 6) = 6 + k by omega]
    exact h2 k v (by rw [← hv]; rfl)
theorem raw_one (a b c d e f : Int) : ∀ u ∈ evCells a b c d e f (bytesV (List.replicate 32 0)), u.oneCell' = true := by
  intro u hu
  simp only [evCells, List.mem_cons] at hu
  rcases hu with rfl | rfl | rfl | rfl | rfl | rfl | hu
  · rfl
  · rfl
  · rfl
  · rfl
  · rfl
  · rfl
  · exact bytesV_one _ u hu
theorem dEv_raw (s : ByteArray) (h9 : 9 < s.size) : evCells (IntKind.i64.wrap ((s[1]'(by omega)).toNat : Int)) (IntKind.i64.wrap (readI (bAt s (2 + 0)) (bAt s (2 + 1)) (bAt s (2 + 2)) (bAt s (2 + 3)))) (IntKind.i64.wrap ((s[6]'(by omega)).toNat : Int)) (IntKind.i64.wrap ((s[7]'(by omega)).toNat : Int)) (IntKind.i64.wrap ((s[8]'(by omega)).toNat : Int)) (IntKind.i64.wrap ((s[9]'(by omega)).toNat : Int)) (bytesV (List.replicate 32 0)) = dEv s := by
  have hb : ∀ i (h : i < s.size), IntKind.i64.wrap ((s[i]'h).toNat : Int) = bAt s i := fun i h => by
    rw [bAt_eq s i h]; exact wrap_small _ (bAt_lo s i) (by have := bAt_hi s i; omega)
  have hr : IntKind.i64.wrap (readI (bAt s (2 + 0)) (bAt s (2 + 1)) (bAt s (2 + 2)) (bAt s (2 + 3))) = readI (bAt s 2) (bAt s 3) (bAt s 4) (bAt s 5) :=
    wrap_small _ (bits_lo_u32 _ _ _) (bits_hi_u32 _ _ _)
  rw [hb 1, hb 6, hb 7, hb 8, hb 9, hr, dEv]
set_option maxRecDepth 100000 in
set_option maxHeartbeats 2000000 in
theorem decode_on (s : ByteArray) (w : World) (hb : ((s.size : Int) != 42) = false) (hlt : 0 < s.size) (hb2 : (((s[0]'hlt).toNat : Int) != 69) = false) (h9 : 9 < s.size) (hsz : (s.extract 2 6).size = 4) (hat : ∀ j, j < 4 → bAt (s.extract 2 6) j = bAt s (2 + j)) (h32 : (s.extract 10 s.size).size = 32) :
    Calls Tryz.prog 86 #[.string s] w fun e w' => Below w.heap.size w w' ∧ ∃ (cs : List Value) (v : Value), e = .returned (.tuple #[.agg cs.toArray, v]) ∧
      ((wholeD s = true ∧ cs = fEv s ∧ v = .nilIface) ∨ (wholeD s = false ∧ cs = zEvL ∧ v = .iface 41 (.int .i64 9))) := by
  have k1 : (1 : Int) < (s.size : Int) := by omega
  have k6 : (6 : Int) < (s.size : Int) := by omega
  have k7 : (7 : Int) < (s.size : Int) := by omega
  have k8 : (8 : Int) < (s.size : Int) := by omega
  have k9 : (9 : Int) < (s.size : Int) := by omega
  have k6' : (6 : Int) ≤ (s.size : Int) := by omega
  have k26 : (2 : Int) ≤ (s.size : Int) := by omega
  have HS : Hid ((s.extract 2 6).size = 4) := hsz
  have HA : Hid (∀ j, j < 4 → bAt (s.extract 2 6) j = bAt s (2 + j)) := hat
  have H32 : Hid ((s.extract 10 s.size).size = 32) := h32
  have k10 : (10 : Int) ≤ (s.size : Int) := by have := h32; simp at this; omega
  clear hsz hat h32
  go_enter Tryz.func86, Tryz.ntmps86
  go_wp2_with (first | (refine wpList_alloc_of rfl 144 rfl zEvL.toArray alloc_evZ ?_))
  go_cut [4] (fun v4 wc => ∃ g, v4 = .pointer (some ⟨g, 0, none⟩) ∧ w.heap.size + 1 ≤ g ∧ wc.rangeAt g 0 (dEv s) ∧ wc.there g 0 38 ∧ Below (w.heap.size + 1) (w.alloc (.cells zEvL.toArray 144)) wc)
  case rest =>
    obtain ⟨g, rfl, hg, hr, ht, hB⟩ := hcut
    clear HS HA
    go_wp2_with fail
    go_cut [] (fun wd => wd.rangeAt g 0 (fEv s) ∧ Below (w.heap.size + 1) (w.alloc (.cells zEvL.toArray 144)) wd)
    case first =>
      refine wp_region_noPanic ?_
      refine wp_region_held_drew (S := fun _ => True) (by kernel_rfl) trivial (fun _ => ?_)
      refine tq (i := 0) (v := ?_) rfl trivial ?_ ?_
      rotate_left 1
      · intro w _; go_simp; try with_reducible rfl
      simp only [qA, qB, qC, Act.put, qD, qE, qF]
      refine tq (i := 1) (v := ?_) rfl trivial ?_ ?_
      rotate_left 1
      · intro w _; go_simp; try with_reducible rfl
      simp only [qA, qB, qC, Act.put, qD, qE, qF]
      refine tq (i := 2) (v := ?_) rfl trivial ?_ ?_
      rotate_left 1
      · intro w _; go_simp; try with_reducible rfl
      simp only [qA, qB, qC, Act.put, qD, qE, qF]
      refine tq (i := 3) (v := ?_) rfl trivial ?_ ?_
      rotate_left 1
      · intro w _; go_simp; try with_reducible rfl
      simp only [qA, qB, qC, Act.put, qD, qE, qF]
      refine rk 4 (fun K hK => ?_)
      have h32 := H32.out
      refine Lib.wp_copy_run _ (.tmp 37) (.tmp 39) 85 9 rfl _ _ rfl rfl (run_copy_string (P := Tryz.prog) _ 85 9 _ 5 g 6 32 32 (s.extract 10 s.size) Tryz.underlying85 size_byte (by rw [h32]; exact Nat.le_refl _) (fun j hj => (ht (6 + j) (by omega)).1 |> fun q => by simpa using q) (fun j hj => (ht (6 + j) (by omega)).2 |> fun q => by simpa using q)) ?_
      refine hK.out _ _ trivial (fun _ => ?_)
      clear hK K
      refine ⟨by kernel_rfl, ?_⟩
      refine NoPanic.normal ?_
      try simp only [qA, qB, qC, Act.put, qD, qE, qF]
      go_wp2_with fail
      go_meet
      rw [dg_cells]
      exact ⟨dig_over s h32 (w := wc.drew) (by simpa using hr) (by simpa using ht), below_setCells hg _ _ _ hB.drew⟩
    case rest =>
      obtain ⟨hr2, hB2⟩ := hcut
      clear hr ht hB
      have h32 := H32.out
      have hi2 : (Tryz.prog.info? 144).map (·.size) = some (fEv s).length := by rw [info25, fEv_len s h32]
      clear H32 h32
      go_wp2_with (first | (refine wpList_load_mid rfl 144 _ rfl g 0 rfl (fEv s) _ hr2 Tryz.underlying144 rfl hi2 ?_))
      refine (whole_any _ _ _ _ _ _ _ _).mono ?_
      rintro e w3 ⟨rfl, hw3⟩
      have hB3 : Below (w.heap.size + 1) (w.alloc (.cells zEvL.toArray 144)) w3 := by rw [hw3]; exact hB2.alloc (by have := hB2.size; simp at this; omega) _
      have hr3 : w3.rangeAt g 0 (fEv s) := by rw [hw3]; exact World.rangeAt_alloc hr2 _
      have ht3 : w3.there w.heap.size 0 zEvL.length := there_below hB3 (Nat.lt_succ_self _) (there_zev w)
      have hl : (fEv s).length = zEvL.length := by rw [info_zev] at hi2; exact (Option.some.inj hi2).symm
      clear hw3 hr2 hB2
      cases hwh : wholeD s
      · have hwb : wholeB (bAt s 1) (readI (bAt s 2) (bAt s 3) (bAt s 4) (bAt s 5)) (bAt s 6) (bAt s 7) (bAt s 8) (bAt s 9) = false := hwh
        rw [hwb]
        clear hwb
        go_wp2_with (first | (refine wpList_build_of rfl 144 rfl zEvL.toArray build_ev ?_) | (refine wpList_store_abs rfl 144 _ _ rfl w.heap.size 0 zEvL rfl rfl ht3 info_zev zEv_one ?_; intro w4 _hw4 hr4 ht4 hb4; clear _hw4))
        exact ret_cell_tmp rfl w.heap.size 0 zEvL _ (.iface 41 (.int .i64 9)) rfl rfl hr4 Tryz.underlying144 rfl info_zev rfl ⟨((Below.refl _ _).alloc (Nat.le_refl _) _).trans ((hB3.mono (Nat.le_succ _)).trans (hb4 _ (Nat.le_refl _))), zEvL, _, rfl, Or.inr ⟨hwh, rfl, rfl⟩⟩
      · have hwb : wholeB (bAt s 1) (readI (bAt s 2) (bAt s 3) (bAt s 4) (bAt s 5)) (bAt s 6) (bAt s 7) (bAt s 8) (bAt s 9) = true := hwh
        rw [hwb]
        clear hwb
        rw [← hl] at ht3
        clear hl
        go_wp2_with (first | (refine wpList_load_mid rfl 144 _ rfl g 0 rfl (fEv s) _ hr3 Tryz.underlying144 rfl hi2 ?_) | (refine wpList_store_abs rfl 144 _ _ rfl w.heap.size 0 (fEv s) rfl rfl ht3 hi2 (fEv_one s) ?_; intro w4 _hw4 hr4 ht4 hb4; clear _hw4))
        exact ret_cell_tmp rfl w.heap.size 0 (fEv s) _ .nilIface rfl rfl hr4 Tryz.underlying144 rfl hi2 rfl ⟨((Below.refl _ _).alloc (Nat.le_refl _) _).trans ((hB3.mono (Nat.le_succ _)).trans (hb4 _ (Nat.le_refl _))), fEv s, _, rfl, Or.inl ⟨hwh, rfl, rfl⟩⟩
  case first =>
  refine wp_region_noPanic ?_
  refine wp_region_held_drew (S := fun _ => True) (by kernel_rfl) trivial (fun _ => ?_)
  refine tq (i := 0) (v := ?_) rfl trivial ?_ ?_
  rotate_left 1
  · intro w _; go_simp; try with_reducible rfl
  simp only [qA, qB, qC, Act.put, qD, qE, qF]
  refine tq (i := 1) (v := ?_) rfl trivial ?_ ?_
  rotate_left 1
  · intro w _; go_simp; try with_reducible rfl
  simp only [qA, qB, qC, Act.put, qD, qE, qF]
  refine tq (i := 2) (v := ?_) rfl trivial ?_ ?_
  rotate_left 1
  · intro w _; go_simp; try with_reducible rfl
  simp only [qA, qB, qC, Act.put, qD, qE, qF]
  refine tq (i := 3) (v := ?_) rfl trivial ?_ ?_
  rotate_left 1
  · intro w _; go_simp; try with_reducible rfl
  simp only [qA, qB, qC, Act.put, qD, qE, qF]
  refine tq (i := 4) (v := ?_) rfl trivial ?_ ?_
  rotate_left 1
  · intro w _; go_simp; try with_reducible rfl
  simp only [qA, qB, qC, Act.put, qD, qE, qF]
  refine tq (i := 8) (v := ?_) rfl trivial ?_ ?_
  rotate_left 1
  · intro w _; go_simp; try with_reducible rfl
  simp only [qA, qB, qC, Act.put, qD, qE, qF]
  refine tq (i := 9) (v := ?_) rfl trivial ?_ ?_
  rotate_left 1
  · intro w _; go_simp; try with_reducible rfl
  simp only [qA, qB, qC, Act.put, qD, qE, qF]
  refine tq (i := 10) (v := ?_) rfl trivial ?_ ?_
  rotate_left 1
  · intro w _; go_simp; try with_reducible rfl
  simp only [qA, qB, qC, Act.put, qD, qE, qF]
  refine tq (i := 11) (v := ?_) rfl trivial ?_ ?_
  rotate_left 1
  · intro w _; go_simp; try with_reducible rfl
  simp only [qA, qB, qC, Act.put, qD, qE, qF]
  refine tq (i := 12) (v := ?_) rfl trivial ?_ ?_
  rotate_left 1
  · intro w _; go_simp; try with_reducible rfl
  simp only [qA, qB, qC, Act.put, qD, qE, qF]
  refine tq (i := 13) (v := ?_) rfl trivial ?_ ?_
  rotate_left 1
  · intro w _; go_simp; try with_reducible rfl
  simp only [qA, qB, qC, Act.put, qD, qE, qF]
  refine tq (i := 14) (v := ?_) rfl trivial ?_ ?_
  rotate_left 1
  · intro w _; go_simp; try with_reducible rfl
  simp only [qA, qB, qC, Act.put, qD, qE, qF]
  refine tq (i := 15) (v := ?_) rfl trivial ?_ ?_
  rotate_left 1
  · intro w _; go_simp; try with_reducible rfl
  simp only [qA, qB, qC, Act.put, qD, qE, qF]
  refine tq (i := 16) (v := ?_) rfl trivial ?_ ?_
  rotate_left 1
  · intro w _; go_simp; try with_reducible rfl
  simp only [qA, qB, qC, Act.put, qD, qE, qF]
  refine tq (i := 17) (v := ?_) rfl trivial ?_ ?_
  rotate_left 1
  · intro w _; go_simp; try with_reducible rfl
  simp only [qA, qB, qC, Act.put, qD, qE, qF]
  refine tq (i := 18) (v := ?_) rfl trivial ?_ ?_
  rotate_left 1
  · intro w _; go_simp; try with_reducible rfl
  simp only [qA, qB, qC, Act.put, qD, qE, qF]
  refine tq (i := 19) (v := ?_) rfl trivial ?_ ?_
  rotate_left 1
  · intro w _; go_simp; try with_reducible rfl
  simp only [qA, qB, qC, Act.put, qD, qE, qF]
  have hsz := HS.out
  have hat := HA.out
  clear HS HA
  have hB : Below (w.heap.size + 1) (w.alloc (.cells zEvL.toArray 144)) (w.alloc (.cells zEvL.toArray 144)).drew := (Below.refl _ _).drew
  have hz : w.heap.size + 1 ≤ (w.alloc (.cells zEvL.toArray 144)).drew.heap.size := by simp
  refine wpAnyH_ready (rs := [5, 21]) (by kernel_rfl) (by simp) ?_
  refine AllReadyH.cons rfl (fun K hK => ?_) (AllReadyH.cons rfl (fun K hK => ?_) AllReadyH.nil)
  · rw [if_pos (by rfl)]
    refine wp_conv_abs (.tmp 19) rfl (s.extract 2 6) rfl ?_
    intro W1 gc cap hb5 hz4 hz5 hc5
    rw [hsz]
    replace hB := hB.trans (hb5.mono hz)
    have hc : ∀ j, j < 4 → W1.cell? ⟨gc, j, none⟩ = some (.int .u8 (bAt s (2 + j))) := fun j hj => by rw [hc5 j (by rw [hsz]; exact hj), hat j hj]
    replace hz := Nat.le_trans hz hb5.size
    clear hb5 hz4 hc5
    refine hK.out _ _ trivial (fun _ => ?_)
    clear hK K
    try simp only [qA, qB, qC, Act.put, qD, qE, qF]
    refine wpAnyH_ready (rs := [6, 21]) (by kernel_rfl) (by simp) ?_
    refine AllReadyH.cons rfl (fun K hK => ?_) (AllReadyH.cons rfl (fun K hK => ?_) AllReadyH.nil)
    · rw [if_pos (by rfl)]
      go_simp
      refine (read_any gc 0 4 cap _ _ _ _ W1 (by omega) (by omega) (hc 0 (by omega)) (hc 1 (by omega)) (hc 2 (by omega)) (hc 3 (by omega))).mono ?_
      rintro e w9 ⟨rfl, m, rfl⟩
      replace hB := below_draws hB m
      refine hK.out _ _ trivial (fun _ => ?_)
      clear hK K
      try simp only [qA, qB, qC, Act.put, qD, qE, qF]
      refine tq (i := 7) (v := ?_) rfl trivial ?_ ?_
      rotate_left 1
      · intro w _; go_simp; try with_reducible rfl
      simp only [qA, qB, qC, Act.put, qD, qE, qF]
      refine tq (i := 20) (v := ?_) rfl trivial ?_ ?_
      rotate_left 1
      · intro w _; go_simp; try with_reducible rfl
      simp only [qA, qB, qC, Act.put, qD, qE, qF]
      refine rk 21 (fun K hK => ?_)
      refine wp_alloc_abs 144 rfl zEvL alloc_evZ ?_
      intro W2 g hb2 hg0 hgz ht
      have hg := Nat.le_trans hz hg0
      replace hB := hB.trans (hb2.mono hz)
      replace hz := Nat.le_trans hz hb2.size
      clear hb2 hg0
      refine hK.out _ _ trivial (fun _ => ?_)
      clear hK K
      try simp only [qA, qB, qC, Act.put, qD, qE, qF]
      refine rk 22 (fun K hK => ?_)
      refine wp_store_mid 144 (.tmp 4) (.tmp 35) rfl g 0 (evCells _ _ _ _ _ _ (bytesV (List.replicate 32 0))).toArray rfl rfl (by exact ht) info_raw (all_oneCell_toArray (raw_one _ _ _ _ _ _)) ?_
      refine hK.out _ _ trivial (fun _ => ?_)
      clear hK K
      refine ⟨by kernel_rfl, ?_⟩
      refine NoPanic.normal ?_
      try simp only [qA, qB, qC, Act.put, qD, qE, qF]
      go_wp2_with fail
      go_meet
      exact ⟨g, rfl, hg, by rw [← dEv_raw s h9]; exact World.rangeAt_setCells_same _ _ _ _ ht, World.there_setCells ht _ _ _, below_setCells hg _ _ _ hB⟩
    · rw [if_pos (by rfl)]
      refine wp_alloc_abs 144 rfl zEvL alloc_evZ ?_
      intro W2 g hb2 hg0 hgz ht
      replace hc : ∀ j, j < 4 → W2.cell? ⟨gc, j, none⟩ = some (.int .u8 (bAt s (2 + j))) := fun j hj => (hb2.cell (p := ⟨gc, j, none⟩) hz5).trans (hc j hj)
      replace hz5 := Nat.lt_of_lt_of_le hz5 hb2.size
      have hg := Nat.le_trans hz hg0
      replace hB := hB.trans (hb2.mono hz)
      replace hz := Nat.le_trans hz hb2.size
      clear hb2 hg0
      refine hK.out _ _ trivial (fun _ => ?_)
      clear hK K
      try simp only [qA, qB, qC, Act.put, qD, qE, qF]
      refine rk 6 (fun K hK => ?_)
      go_simp
      refine (read_any gc 0 4 cap _ _ _ _ W2 (by omega) (by omega) (hc 0 (by omega)) (hc 1 (by omega)) (hc 2 (by omega)) (hc 3 (by omega))).mono ?_
      rintro e w9 ⟨rfl, m, rfl⟩
      replace hB := below_draws hB m
      replace ht : (W2.drewN m).there g 0 zEvL.length := ht
      refine hK.out _ _ trivial (fun _ => ?_)
      clear hK K
      try simp only [qA, qB, qC, Act.put, qD, qE, qF]
      refine tq (i := 7) (v := ?_) rfl trivial ?_ ?_
      rotate_left 1
      · intro w _; go_simp; try with_reducible rfl
      simp only [qA, qB, qC, Act.put, qD, qE, qF]
      refine tq (i := 20) (v := ?_) rfl trivial ?_ ?_
      rotate_left 1
      · intro w _; go_simp; try with_reducible rfl
      simp only [qA, qB, qC, Act.put, qD, qE, qF]
      refine rk 22 (fun K hK => ?_)
      refine wp_store_mid 144 (.tmp 4) (.tmp 35) rfl g 0 (evCells _ _ _ _ _ _ (bytesV (List.replicate 32 0))).toArray rfl rfl (by exact ht) info_raw (all_oneCell_toArray (raw_one _ _ _ _ _ _)) ?_
      refine hK.out _ _ trivial (fun _ => ?_)
      clear hK K
      refine ⟨by kernel_rfl, ?_⟩
      refine NoPanic.normal ?_
      try simp only [qA, qB, qC, Act.put, qD, qE, qF]
      go_wp2_with fail
      go_meet
      exact ⟨g, rfl, hg, by rw [← dEv_raw s h9]; exact World.rangeAt_setCells_same _ _ _ _ ht, World.there_setCells ht _ _ _, below_setCells hg _ _ _ hB⟩
  · rw [if_pos (by rfl)]
    refine wp_alloc_abs 144 rfl zEvL alloc_evZ ?_
    intro W1 g hb2 hg0 hgz ht
    have hg := Nat.le_trans hz hg0
    replace hB := hB.trans (hb2.mono hz)
    replace hz := Nat.le_trans hz hb2.size
    clear hb2 hg0
    refine hK.out _ _ trivial (fun _ => ?_)
    clear hK K
    try simp only [qA, qB, qC, Act.put, qD, qE, qF]
    refine rk 5 (fun K hK => ?_)
    refine wp_conv_abs (.tmp 19) rfl (s.extract 2 6) rfl ?_
    intro W2 gc cap hb5 hz4 hz5 hc5
    rw [hsz]
    replace hB := hB.trans (hb5.mono hz)
    have hc : ∀ j, j < 4 → W2.cell? ⟨gc, j, none⟩ = some (.int .u8 (bAt s (2 + j))) := fun j hj => by rw [hc5 j (by rw [hsz]; exact hj), hat j hj]
    replace ht := there_below hb5 hgz ht
    replace hgz := Nat.lt_of_lt_of_le hgz hb5.size
    replace hz := Nat.le_trans hz hb5.size
    clear hb5 hz4 hc5
    refine hK.out _ _ trivial (fun _ => ?_)
    clear hK K
    try simp only [qA, qB, qC, Act.put, qD, qE, qF]
    refine rk 6 (fun K hK => ?_)
    go_simp
    refine (read_any gc 0 4 cap _ _ _ _ W2 (by omega) (by omega) (hc 0 (by omega)) (hc 1 (by omega)) (hc 2 (by omega)) (hc 3 (by omega))).mono ?_
    rintro e w9 ⟨rfl, m, rfl⟩
    replace hB := below_draws hB m
    replace ht : (W2.drewN m).there g 0 zEvL.length := ht
    refine hK.out _ _ trivial (fun _ => ?_)
    clear hK K
    try simp only [qA, qB, qC, Act.put, qD, qE, qF]
    refine tq (i := 7) (v := ?_) rfl trivial ?_ ?_
    rotate_left 1
    · intro w _; go_simp; try with_reducible rfl
    simp only [qA, qB, qC, Act.put, qD, qE, qF]
    refine tq (i := 20) (v := ?_) rfl trivial ?_ ?_
    rotate_left 1
    · intro w _; go_simp; try with_reducible rfl
    simp only [qA, qB, qC, Act.put, qD, qE, qF]
    refine rk 22 (fun K hK => ?_)
    refine wp_store_mid 144 (.tmp 4) (.tmp 35) rfl g 0 (evCells _ _ _ _ _ _ (bytesV (List.replicate 32 0))).toArray rfl rfl (by exact ht) info_raw (all_oneCell_toArray (raw_one _ _ _ _ _ _)) ?_
    refine hK.out _ _ trivial (fun _ => ?_)
    clear hK K
    refine ⟨by kernel_rfl, ?_⟩
    refine NoPanic.normal ?_
    try simp only [qA, qB, qC, Act.put, qD, qE, qF]
    go_wp2_with fail
    go_meet
    exact ⟨g, rfl, hg, by rw [← dEv_raw s h9]; exact World.rangeAt_setCells_same _ _ _ _ ht, World.there_setCells ht _ _ _, below_setCells hg _ _ _ hB⟩
end Go.Proofs.YteglimjonofdeaaGreatDoor
