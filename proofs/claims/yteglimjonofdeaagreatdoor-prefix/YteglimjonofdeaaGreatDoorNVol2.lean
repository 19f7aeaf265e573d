import Derived.Test.YteglimjonofdeaaGreatDoorNVol
set_option linter.unusedVariables false
set_option linter.unusedSimpArgs false
namespace Go.Proofs.YteglimjonofdeaaGreatDoor
open Go.RowKit

def zB : List Value := bytesV z128
theorem alloc_blk (w : World) : (Instr.alloc 254 true (.tuple #[])).run Tryz.prog w = .ok (.pointer (some ⟨w.heap.size, 0, none⟩)) (w.alloc (.cells zB.toArray 254)) := by kernel_rfl
theorem build_blk (w : World) : (Instr.build 254 #[]).run Tryz.prog w = .ok (.agg zB.toArray) w := by kernel_rfl
theorem there_blk (w : World) : (w.alloc (.cells zB.toArray 254)).there w.heap.size 0 128 := by
  have h := there_new w zB.toArray 254
  rwa [show zB.toArray.size = 128 by decide +kernel] at h

set_option maxRecDepth 10000 in
set_option maxHeartbeats 400000 in
theorem vsize_any (p n : Nat) (w : World) : Calls Tryz.prog 165 #[.agg (volL p n).toArray] w fun e w' => e = .returned (.int .i64 n) ∧ Below w.heap.size w w' := by
  go_enter Tryz.func165, Tryz.ntmps165
  unfold volL devV
  go_wp2_with fail
  go_ret
  exact ⟨rfl, (Below.refl _ _).alloc (Nat.le_refl _) _⟩

set_option maxRecDepth 10000 in
set_option maxHeartbeats 400000 in
theorem vsettle_any (p bb n : Nat) (C : Nat → List Int) (cv : Value) (L : List (Nat × List Int)) (w : World) (hn : n ≤ 1000) (hL : L.length ≤ 100000) (h : DiskAt w p bb n C cv L) :
    Calls Tryz.prog 164 #[.agg (volL p n).toArray] w fun e w' => e = .returned (.tuple #[]) ∧ DiskAt w' p bb n (putAll C L) (.slice none 0 0) [] ∧ Kept (fun g => g = p ∨ g = bb) w w' := by
  have hm := m_flush (.pointer (some ⟨p, 0, none⟩))
  have hB : Below w.heap.size w (w.alloc (.cells (volL p n).toArray 222)) := (Below.refl _ _).alloc (Nat.le_refl _) _
  have hf := dflush_any p bb n C cv L _ hn hL (h.fresh hB)
  have HB : Hid (Below w.heap.size w (w.alloc (.cells (volL p n).toArray 222))) := hB
  clear hB h
  go_enter Tryz.func164, Tryz.ntmps164
  unfold volL devV at *
  go_wp2_with fail
  refine hf.mono ?_
  rintro e w1 ⟨rfl, hD, hk⟩
  clear hf
  go_wp2_with (go_at_call 176; refine (throw_nil _).mono ?_; rintro e w2 ⟨rfl, hw2⟩; obtain rfl : w1 = w2 := hw2.symm; clear hw2)
  go_end0
  exact ⟨rfl, hD, (Kept.fresh HB.out).trans hk (fun g _ h => h)⟩

set_option maxRecDepth 10000 in
set_option maxHeartbeats 1000000 in
theorem vblock_any (p bb n i : Nat) (C : Nat → List Int) (w : World) (hi : i < n) (hn : n ≤ 1000) (h : DiskAt w p bb n C (.slice none 0 0) []) :
    Calls Tryz.prog 175 #[.agg (volL p n).toArray, .int .i64 i] w fun e w' => e = .returned (.agg (bytesV (C i)).toArray) ∧ DiskAt w' p bb n C (.slice none 0 0) [] ∧ Kept (· = p) w w' := by
  have hm := m_read (.pointer (some ⟨p, 0, none⟩))
  have hB : Below w.heap.size w ((w.alloc (.cells (volL p n).toArray 222)).alloc (.cells zB.toArray 254)) := ((Below.refl _ _).alloc (Nat.le_refl _) _).alloc (by simp) _
  have hf := dread_any p bb n i C _ hi hn (h.fresh hB)
  have HB : Hid (Below w.heap.size w ((w.alloc (.cells (volL p n).toArray 222)).alloc (.cells zB.toArray 254))) := hB
  have hpl := h.lt.1
  have hcl : (C i).length = 128 := h.len i hi
  have hbl := h.lt.2
  have HT : Hid (((w.alloc (.cells (volL p n).toArray 222)).alloc (.cells zB.toArray 254)).there (w.heap.size + 1) 0 128) := by show World.there _ _ _ _; have := there_blk (w.alloc (.cells (volL p n).toArray 222)); simpa using this
  have hs0 : ((w.alloc (.cells (volL p n).toArray 222)).alloc (.cells zB.toArray 254)).heap.size = w.heap.size + 2 := by simp
  clear hB h
  go_enter Tryz.func175, Tryz.ntmps175
  unfold volL devV at *
  go_wp2_with (refine wpList_alloc_of rfl 254 rfl zB.toArray alloc_blk ?_)
  refine hf.mono ?_
  rintro e w1 ⟨g, rfl, hrg, hg0, hg1, hD, hk⟩
  clear hf
  rw [hs0] at hg0
  have hz1 := hk.size
  rw [hs0] at hz1
  have hk1 : Kept (· = p) w w1 := (Kept.fresh HB.out).trans hk (fun g _ h => h)
  have ht1 : w1.there (w.heap.size + 1) 0 128 := fun j hj => by
    have := HT.out j hj
    rw [hk.cell (a := ⟨w.heap.size + 1, 0 + j, none⟩) (by rw [hs0]; show w.heap.size + 1 < _; omega) (by show ¬ w.heap.size + 1 = p; omega), hk.frozen (a := ⟨w.heap.size + 1, 0 + j, none⟩) (by rw [hs0]; show w.heap.size + 1 < _; omega) (by show ¬ w.heap.size + 1 = p; omega)]
    exact this
  have hlen : (bytesV (C i)).length = 128 := by rw [bytesV_length, hcl]
  have hq := there_blk w1
  have hrun := run_copy_cells (P := Tryz.prog) (w1.alloc (.cells zB.toArray 254)) 85 85 3 5 w1.heap.size 0 128 128 ⟨g, 0, none⟩ 128 128 (bytesV (C i)) Tryz.underlying85 (by kernel_rfl) (by rw [hlen]; rfl) (fun j v hv => by rw [addr_add]; exact World.rangeAt_alloc hrg _ j v hv) (fun j hj => (hq j (by omega)).1) (fun j hj => (hq j (by omega)).2) (bytesV_one _)
  rw [hlen] at hrun
  have hr3 : ((w1.alloc (.cells zB.toArray 254)).setCells w1.heap.size 0 (bytesV (C i))).rangeAt w1.heap.size 0 (bytesV (C i)) := World.rangeAt_setCells_same _ _ _ _ (by rw [hlen]; exact hq)
  have hB3 : Below w1.heap.size w1 ((w1.alloc (.cells zB.toArray 254)).setCells w1.heap.size 0 (bytesV (C i))) := below_setCells (Nat.le_refl _) _ _ _ ((Below.refl _ _).alloc (Nat.le_refl _) _)
  have HD : Hid (DiskAt w1 p bb n C (.slice none 0 0) []) := hD
  clear hD hk hq hs0 hrg
  generalize (w1.alloc (.cells zB.toArray 254)).setCells w1.heap.size 0 (bytesV (C i)) = w3 at *
  have ht3 : w3.there (w.heap.size + 1) 0 (bytesV (C i)).length := by rw [hlen]; exact there_below hB3 (by omega) ht1
  have hin := info_dblk (C i) hcl
  have HIN : Hid ((Tryz.prog.info? 254).map (·.size) = some (bytesV (C i)).length) := hin
  clear hin hlen ht1
  obtain ⟨b, hbe⟩ : ∃ b, b = C i := ⟨_, rfl⟩
  have HBE : Hid (b = C i) := hbe
  rw [← hbe] at hr3 ht3 HIN hcl
  clear hbe
  go_wp2_with (first
    | (go_at_call 176; refine (throw_nil _).mono ?_; rintro e w2 ⟨rfl, hw2⟩; obtain rfl : w1 = w2 := hw2.symm; clear hw2)
    | (refine wpList_alloc_of rfl 254 rfl zB.toArray alloc_blk ?_)
    | (at_builtin; refine Lib.wpList_copy_run _ rfl _ _ 85 85 rfl _ _ rfl rfl hrun ?_)
    | (refine wpList_load_mid rfl 254 _ rfl w1.heap.size 0 rfl (bytesV b) _ hr3 Tryz.underlying254 rfl HIN.out ?_)
    | (refine wpList_store_abs rfl 254 _ _ rfl (w.heap.size + 1) 0 (bytesV b) rfl rfl ht3 HIN.out (bytesV_one b) ?_; intro w5 _hw5 hr5 _ht5 hb5; clear _hw5 _ht5))
  exact ret_cell rfl (w.heap.size + 1) 0 (bytesV b) _ rfl hr5 Tryz.underlying254 rfl HIN.out rfl ⟨by rw [HBE.out], (HD.out.fresh hB3).kept (Kept.below (S := (w.heap.size + 1 ≤ ·)) (hb5 _ (Nat.le_refl _)) (fun g h1 _ => h1)) (by omega) (by omega) (fun g hg => by cases hg), (hk1.trans (Kept.fresh (S := fun _ => False) hB3) (fun g _ h => h.elim)).trans (Kept.below (S := (w.heap.size + 1 ≤ ·)) (hb5 _ (Nat.le_refl _)) (fun g h1 _ => h1)) (fun g h1 h2 => by omega)⟩

/-- What laying a block leaves. -/
def layPost (w : World) (p bb n : Nat) (C : Nat → List Int) (cv : Value) (L : List (Nat × List Int)) (i : Nat) (b : List Int) (e : Ending) (w' : World) : Prop :=
  e = .returned (.tuple #[]) ∧ ∃ cv', DiskAt w' p bb n C cv' (L ++ [(i, b)]) ∧ (∀ g, cv'.ownBlock = some g → cv.ownBlock = some g ∨ w.heap.size ≤ g) ∧ Kept (fun g => g = p ∨ cv.ownBlock = some g) w w'
set_option maxRecDepth 10000 in
set_option maxHeartbeats 1000000 in
theorem vlay_any (p bb n i : Nat) (C : Nat → List Int) (cv : Value) (L : List (Nat × List Int)) (b : List Int) (w : World) (hi : i < n) (hn : n ≤ 1000) (hL : L.length ≤ 100000) (hb : b.length = 128) (h : DiskAt w p bb n C cv L) :
    Calls Tryz.prog 163 #[.agg (volL p n).toArray, .int .i64 i, .agg (bytesV b).toArray] w (layPost w p bb n C cv L i b) := by
  have hm := m_write (.pointer (some ⟨p, 0, none⟩))
  have hpl := h.lt.1
  have hB : Below w.heap.size w ((w.alloc (.cells (volL p n).toArray 222)).alloc (.cells (bytesV b).toArray 254)) := ((Below.refl _ _).alloc (Nat.le_refl _) _).alloc (by simp) _
  have hs0 : ((w.alloc (.cells (volL p n).toArray 222)).alloc (.cells (bytesV b).toArray 254)).heap.size = w.heap.size + 2 := by simp
  have hcvl := h.cache.lt
  have D1 := h.fresh hB
  have hB2 : Below w.heap.size w ((w.alloc (.cells (volL p n).toArray 222)).alloc (.cells (bytesV b).toArray 254)).drew := hB.drew
  have D2 : DiskAt ((w.alloc (.cells (volL p n).toArray 222)).alloc (.cells (bytesV b).toArray 254)).drew p bb n C cv L := D1.fresh (Below.refl _ _).drew
  have hrg : ((w.alloc (.cells (volL p n).toArray 222)).alloc (.cells (bytesV b).toArray 254)).drew.rangeAt (w.heap.size + 1) 0 (bytesV b) := by
    rw [World.rangeAt_drew]
    have := range_new (w.alloc (.cells (volL p n).toArray 222)) (bytesV b) 254
    simpa using this
  have hw := dwrite_any p bb n i C cv L b (w.heap.size + 1) _ hi hn hL hb D2 hrg (by omega) (by show w.heap.size + 1 < ((w.alloc (.cells (volL p n).toArray 222)).alloc (.cells (bytesV b).toArray 254)).heap.size; omega)
  have HB : Hid (Below w.heap.size w ((w.alloc (.cells (volL p n).toArray 222)).alloc (.cells (bytesV b).toArray 254)).drew) := hB2
  have HS : Hid (((w.alloc (.cells (volL p n).toArray 222)).alloc (.cells (bytesV b).toArray 254)).drew.heap.size = w.heap.size + 2) := hs0
  clear hB hB2 D1 D2 h hrg hs0
  go_enter Tryz.func163, Tryz.ntmps163
  unfold volL devV at *
  go_wp2_with fail
  have J0 : ((w.alloc (.cells [.iface 23 (.pointer (some ⟨p, 0, none⟩)), .int .i64 (n : Nat)].toArray 222)).alloc (.cells (bytesV b).toArray 254)).drew.cell? ⟨w.heap.size, 0, none⟩ = some (.iface 23 (.pointer (some ⟨p, 0, none⟩))) := by
    show ((w.alloc _).alloc _).cell? _ = _
    rw [World.cell?_alloc_past _ _ _ (by simp), World.cell?_alloc_at _ _ _ _ rfl]; rfl
  refine wp_region_noPanic ?_
  refine wp_region_held_drew (S := fun W => W.cell? ⟨w.heap.size, 0, none⟩ = some (.iface 23 (.pointer (some ⟨p, 0, none⟩)))) (by kernel_rfl) J0 (fun _ => ?_)
  refine wpAnyH_take (i := 0) (v := ?_) rfl (by kernel_rfl) (by kernel_rfl) (by kernel_rfl) (fun _ _ _ h => h) (Or.inl ⟨by rfl, ?_⟩) J0 ?_
  rotate_left 1
  · intro W hSW; clear hSW; go_simp; try with_reducible rfl
  simp only [qA, qB, qC, Act.put, qD, qE, qF]
  refine wpAnyH_take (i := 1) (v := ?_) rfl (by kernel_rfl) (by kernel_rfl) (by kernel_rfl) (fun _ _ _ h => h) (Or.inl ⟨by rfl, ?_⟩) J0 ?_
  rotate_left 1
  · intro W hSW; have cW := hSW; clear hSW; go_simp; try with_reducible rfl
  simp only [qA, qB, qC, Act.put, qD, qE, qF]
  refine wpAnyH_take (i := 2) (v := ?_) rfl (by kernel_rfl) (by kernel_rfl) (by kernel_rfl) (fun _ _ _ h => h) (Or.inl ⟨by rfl, ?_⟩) J0 ?_
  rotate_left 1
  · intro W hSW; clear hSW; go_simp; try with_reducible rfl
  simp only [qA, qB, qC, Act.put, qD, qE, qF]
  refine wpAnyH_take (i := 3) (v := ?_) rfl (by kernel_rfl) (by kernel_rfl) (by kernel_rfl) (fun _ _ _ h => h) (Or.inl ⟨by rfl, ?_⟩) J0 ?_
  rotate_left 1
  · intro W hSW; clear hSW; go_simp; try with_reducible rfl
  simp only [qA, qB, qC, Act.put, qD, qE, qF]
  refine wpAnyH_take (i := 4) (v := ?_) rfl (by kernel_rfl) (by kernel_rfl) (by kernel_rfl) (fun _ _ _ h => h) (Or.inl ⟨by rfl, ?_⟩) J0 ?_
  rotate_left 1
  · intro W hSW; clear hSW; go_simp; try with_reducible rfl
  simp only [qA, qB, qC, Act.put, qD, qE, qF]
  refine wpAnyH_take (i := 5) (v := ?_) rfl (by kernel_rfl) (by kernel_rfl) (by kernel_rfl) (fun _ _ _ h => h) (Or.inl ⟨by rfl, ?_⟩) J0 ?_
  rotate_left 1
  · intro W hSW; clear hSW; go_simp; try with_reducible rfl
  simp only [qA, qB, qC, Act.put, qD, qE, qF]
  refine wpAnyH_ready (rs := [6]) (by kernel_rfl) (by simp) ?_
  refine AllReadyH.cons rfl (fun K' hK' => ?_) AllReadyH.nil
  rw [if_pos (by rfl)]
  go_simp
  refine hw.mono ?_
  rintro e w1 ⟨rfl, cv', hD, hcv, hk⟩
  clear hw
  have J1 : w1.cell? ⟨w.heap.size, 0, none⟩ = some (.iface 23 (.pointer (some ⟨p, 0, none⟩))) := (hk.cell (a := ⟨w.heap.size, 0, none⟩) (by rw [HS.out]; show w.heap.size < _; omega) (by rintro (e | e); (have e' : w.heap.size = p := e; omega); (have := (hcvl w.heap.size e).2; omega))).trans J0
  refine hK'.out _ _ J1 (fun _ => ?_)
  clear hK' K'
  try simp only [qA, qB, qC, Act.put, qD, qE, qF]
  refine wpAnyH_ready (rs := [7]) (by kernel_rfl) (by simp) ?_
  refine AllReadyH.cons rfl (fun K' hK' => ?_) AllReadyH.nil
  rw [if_pos (by rfl)]
  go_simp
  refine (throw_nil w1).mono ?_
  rintro e w2 ⟨rfl, hw2⟩
  obtain rfl : w1 = w2 := hw2.symm
  clear hw2
  refine hK'.out _ _ J1 (fun _ => ?_)
  clear hK' K'
  try simp only [qA, qB, qC, Act.put, qD, qE, qF]
  refine ⟨by kernel_rfl, ?_⟩
  refine NoPanic.normal ?_
  try simp only [qA, qB, qC, Act.put, qD, qE, qF]
  go_wp2_with fail
  go_end0
  refine ⟨rfl, cv', hD, fun g hg => ?_, (Kept.fresh HB.out).trans hk (fun g _ h => h)⟩
  rcases hcv g hg with e | e
  · exact Or.inl e
  · rw [HS.out] at e; right; omega
end Go.Proofs.YteglimjonofdeaaGreatDoor
