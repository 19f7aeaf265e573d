import Derived.Test.YteglimjonofdeaaGreatDoorWSpreadM
import Derived.Test.YteglimjonofdeaaGreatDoorWTake
set_option linter.unusedVariables false
set_option linter.unusedSimpArgs false
namespace Go.Proofs.YteglimjonofdeaaGreatDoor
open Go.RowKit

def startL : List Int := [1779033703, 3144134277, 1013904242, 2773480762, 1359893119, 2600822924, 528734635, 1541459225]

set_option maxRecDepth 10000 in
set_option maxHeartbeats 400000 in
theorem start_any (w : World) : Calls Tryz.prog 91 #[] w fun e w' => e = .returned (.agg (stV startL).toArray) ∧ Below w.heap.size w w' := by
  have hroom := there_z8 w
  have hone := ints_oneCell .u32 startL
  go_enter Tryz.func91, Tryz.ntmps91
  go_wp2_with (first | (refine wpList_alloc_of rfl 160 rfl z8.toArray alloc_8 ?_) | (refine wpList_store_abs rfl 160 _ _ rfl w.heap.size 0 (stV startL) rfl rfl hroom info_state hone ?_; intro w4 _hw4 hr4 ht4 hb4; clear _hw4))
  exact ret_cell rfl w.heap.size 0 (stV startL) _ rfl hr4 Tryz.underlying160 rfl info_state rfl ⟨rfl, ((Below.refl _ _).alloc (Nat.le_refl _) _).trans (hb4 _ (Nat.le_refl _))⟩

theorem roundL_length (W K : Int) (l : List Int) (h : l.length = 8) : (roundL W K l).length = 8 := by
  match l, h with
  | [_, _, _, _, _, _, _, _], _ => rfl
theorem roundsL_length (W K : Nat → Int) (l : List Int) (h : l.length = 8) : ∀ k, (roundsL W K l k).length = 8
  | 0 => h
  | k + 1 => roundL_length _ _ _ (roundsL_length W K l h k)
theorem takeL_length (x K : Nat → Int) (l : List Int) (h : l.length = 8) : (takeL x K l).length = 8 := by
  unfold takeL; rw [List.length_zipWith, h, roundsL_length _ _ _ h]; rfl
/-- The state behind k blocks. -/
def blocksL (K : Nat → Int) (D : List Int) : Nat → List Int
  | 0 => startL
  | k + 1 => takeL (fun j => D.getD (64 * k + j) 0) K (blocksL K D k)
theorem blocksL_length (K : Nat → Int) (D : List Int) : ∀ k, (blocksL K D k).length = 8
  | 0 => rfl
  | k + 1 => takeL_length _ _ _ (blocksL_length K D k)
theorem take_list (l : List Int) (hl : l.length = 8) (b o cap : Nat) (x K : Nat → Int) (w : World) (hcap : 64 ≤ cap) (hcap2 : cap ≤ 281474976710656) (hb : b < w.heap.size) (hx : ∀ j, j < 64 → w.cell? ⟨b, o + j, none⟩ = some (.int .u8 (x j)))
    (hg : 1 < w.heap.size) (hK : ∀ j, j < 64 → w.cell? ⟨1, j, none⟩ = some (.int .u32 (K j))) :
    Calls Tryz.prog 92 #[.agg (stV l).toArray, .slice (some ⟨b, o, none⟩) 64 cap] w fun e w' => e = .returned (.agg (stV (takeL x K l)).toArray) ∧ Below w.heap.size w w' := by
  match l, hl with
  | [l0, l1, l2, l3, l4, l5, l6, l7], _ => exact take_any l0 l1 l2 l3 l4 l5 l6 l7 b o cap x K w hcap hcap2 hb hx hg hK

/-- The hash of texts. -/
def hashN (K : Nat → Int) (D : List Int) : List Int := spreadN (blocksL K (padL D) (padLen D.length / 64))
theorem hashN_length (K : Nat → Int) (D : List Int) : (hashN K D).length = 32 := by unfold hashN; rw [spreadN_length, blocksL_length]

/-- What the walk over the blocks leans on. -/
structure OfAt (w0 w : World) (B S g : Nat) (D : List Int) (K : Nat → Int) (l : List Int) : Prop where
  st : w.rangeAt S 0 (stV l)
  room : w.there S 0 8
  bytes : w.rangeAt g 0 (bytesV D)
  consts : ∀ j, j < 64 → w.cell? ⟨1, j, none⟩ = some (.int .u32 (K j))
  below : Below B w0 w
  sb : S < w.heap.size
  gb : g < w.heap.size
  gS : g < S
  BS : B ≤ S
theorem OfAt.go {w0 w w' : World} {B S g : Nat} {D : List Int} {K : Nat → Int} {l : List Int} (h : OfAt w0 w B S g D K l) (hc : 1 < B) (hb : Below w.heap.size w w') : OfAt w0 w' B S g D K l :=
  ⟨fun j v hv => (hb.cell (p := ⟨S, 0 + j, none⟩) h.sb).trans (h.st j v hv), there_below hb h.sb h.room, fun j v hv => (hb.cell (p := ⟨g, 0 + j, none⟩) h.gb).trans (h.bytes j v hv),
   fun j hj => (hb.cell (p := ⟨1, j, none⟩) (Nat.lt_trans (Nat.lt_of_lt_of_le hc h.BS) h.sb)).trans (h.consts j hj), h.below.trans (hb.mono (Nat.le_of_lt (Nat.lt_of_le_of_lt h.BS h.sb))), Nat.lt_of_lt_of_le h.sb hb.size, Nat.lt_of_lt_of_le h.gb hb.size, h.gS, h.BS⟩
theorem OfAt.put {w0 w : World} {B S g : Nat} {D : List Int} {K : Nat → Int} {l : List Int} (h : OfAt w0 w B S g D K l) (hc : 1 < B) (l' : List Int) (hl : l'.length = 8) : OfAt w0 (w.setCells S 0 (stV l')) B S g D K l' := by
  have hlen : (stV l').length = 8 := by unfold stV; rw [List.length_map, hl]
  have ho : ∀ (b j : Nat), b ≠ S → (w.setCells S 0 (stV l')).cell? ⟨b, j, none⟩ = w.cell? ⟨b, j, none⟩ := fun b j hb => World.cell?_setCells_out S _ 0 w ⟨b, j, none⟩ (fun e _ => absurd e hb)
  refine ⟨World.rangeAt_setCells_same _ _ _ _ (by rw [hlen]; exact h.room), World.there_setCells h.room _ _ _, fun j v hv => ?_, fun j hj => ?_, below_setCells h.BS _ _ _ h.below, by rw [size_setCells]; exact h.sb, by rw [size_setCells]; exact h.gb, h.gS, h.BS⟩
  · rw [ho g _ (Nat.ne_of_lt h.gS)]; exact h.bytes j v hv
  · rw [ho 1 _ (by have := h.BS; omega)]; exact h.consts j hj
theorem OfAt.drew {w0 w : World} {B S g : Nat} {D : List Int} {K : Nat → Int} {l : List Int} (h : OfAt w0 w B S g D K l) : OfAt w0 w.drew B S g D K l :=
  ⟨h.st, h.room, h.bytes, h.consts, h.below.drew, h.sb, h.gb, h.gS, h.BS⟩
theorem range_nums {w : World} {g : Nat} {D : List Int} (h : w.rangeAt g 0 (bytesV D)) (j : Nat) (hj : j < D.length) : w.cell? ⟨g, j, none⟩ = some (.int .u8 (D.getD j 0)) := by
  have := h j (.int .u8 (D.getD j 0)) (by simp [bytesV, List.getD, List.getElem?_eq_getElem hj])
  simpa using this
theorem info_st (l : List Int) (hl : l.length = 8) : (Tryz.prog.info? 160).map (·.size) = some (stV l).length := by rw [info_state, stV, List.length_map, hl]

set_option maxRecDepth 10000 in
set_option maxHeartbeats 1000000 in
theorem of_gen (ts : List ByteArray) (ao : Option Addr) (cap : Nat) (K : Nat → Int) (w : World) (hn : ts.length ≤ 1000) (htot : (joinN ts).length ≤ 140737488355328) (hts : textsAt w ao ts)
    (hg : 1 < w.heap.size) (hK : ∀ j, j < 64 → w.cell? ⟨1, j, none⟩ = some (.int .u32 (K j))) :
    Calls Tryz.prog 54 #[.slice ao ts.length cap] w fun e w' => e = .returned (.agg (bytesV (hashN K (joinN ts))).toArray) ∧ Below w.heap.size w w' := by
  have HT : Hid (textsAt w ao ts) := hts
  have HK : Hid (∀ j, j < 64 → w.cell? ⟨1, j, none⟩ = some (.int .u32 (K j))) := hK
  clear hts hK
  go_enter Tryz.func54, Tryz.ntmps54
  go_wp2_with (first | (refine wpList_alloc_of rfl 104 rfl z32.toArray alloc_32 ?_))
  refine (pad_gen ts ao cap _ hn htot (fun h0 => by
    obtain ⟨tb, e, htb, hts⟩ := HT.out h0
    exact ⟨tb, e, by simp; omega, fun j hj => by rw [World.cell?_alloc_past _ _ _ htb]; exact hts j hj⟩)).mono ?_
  rintro e w1 ⟨g, rfl, hg1, hg2, hr1, hb1⟩
  have hs1 := hb1.size
  simp at hs1 hg1
  go_wp2_with fail
  refine (start_any _).mono ?_
  rintro e w2 ⟨rfl, hb2⟩
  have hs2 := hb2.size
  have hroom := there_z8 w2
  have hone := ints_oneCell .u32 startL
  go_wp2_with (first | (refine wpList_alloc_of rfl 160 rfl z8.toArray alloc_8 ?_) | (refine wpList_store_abs rfl 160 _ _ rfl w2.heap.size 0 (stV startL) rfl rfl hroom info_state hone ?_; intro w3 _hw3 hr3 ht3 hb3; clear _hw3))
  have hgl : 1 < w.heap.size + 1 := by omega
  have O3 : OfAt (w.alloc (.cells z32.toArray 104)) w3 (w.heap.size + 1) w2.heap.size g (padL (joinN ts)) K startL := by
    have hbz : Below (w.heap.size + 1) (w.alloc (.cells z32.toArray 104)) w2 := (hb1.mono (by simp)).trans (hb2.mono (by omega))
    have hb3' : Below (w.heap.size + 1) (w2.alloc (.cells z8.toArray 160)) w3 := hb3 _ (by omega)
    have hbw : Below w2.heap.size w2 w3 := ((Below.refl _ _).alloc (Nat.le_refl _) _).trans (hb3 _ (Nat.le_refl _))
    have hs3 := (hb3 _ (Nat.le_refl _)).size
    simp at hs3
    refine ⟨hr3, ht3, fun j v hv => (hbw.cell (p := ⟨g, 0 + j, none⟩) (by show g < w2.heap.size; omega)).trans ((hb2.cell (p := ⟨g, 0 + j, none⟩) hg2).trans (hr1 j v hv)), fun j hj => ?_, hbz.trans (((Below.refl _ _).alloc (by omega) _).trans hb3'), by omega, by omega, by omega, by omega⟩
    rw [(hbz.trans (((Below.refl _ _).alloc (by omega) _).trans hb3')).cell (p := ⟨1, j, none⟩) hgl, World.cell?_alloc_past _ _ _ hg]
    exact HK.out j hj
  clear hr1 hb1 hb2 hr3 ht3 hb3 hroom hone
  obtain ⟨M, hM⟩ : ∃ M, padLen (joinN ts).length = 64 * M := ⟨(padLen (joinN ts).length) / 64, by unfold padLen; omega⟩
  have hM2 : 64 * M ≤ 140737488355400 := by rw [← hM]; unfold padLen; omega
  have hpl := padL_length (joinN ts)
  have HM : Hid (padLen (joinN ts).length = 64 * M) := hM
  rw [hM] at hpl ⊢
  clear hM
  go_wp2_with fail
  go_loopw [5] (fun at' wr => ∃ k : Nat, k ≤ M ∧ at' = .int .i64 ((64 * k : Nat) : Int) ∧ OfAt (w.alloc (.cells z32.toArray 104)) wr (w.heap.size + 1) w2.heap.size g (padL (joinN ts)) K (blocksL K (padL (joinN ts)) k)) (fun at' _ => 64 * M - (intOf at').toNat)
  case atStart => exact ⟨0, Nat.zero_le _, rfl, O3⟩
  case round =>
    clear O3
    obtain ⟨k, hk, rfl, O⟩ := hrel
    by_cases hlt : k < M
    · obtain ⟨a, ha⟩ : ∃ a, a = 64 * k := ⟨_, rfl⟩
      rw [← ha]
      have ha2 : a + 64 ≤ 64 * M := by omega
      have HA : Hid (a = 64 * k) := ha
      clear ha
      have b1 : (a : Int) < ((64 * M : Nat) : Int) := by omega
      have b2 : (0 : Int) ≤ (a : Int) := by omega
      have b3 : (a : Int) ≤ (a : Int) + 64 := by omega
      have b4 : (a : Int) + 64 ≤ ((64 * M : Nat) : Int) := by omega
      generalize 64 * M = N at *
      go_wp2_with fail
      have b5 : ((a : Int) + 64).toNat = a + 64 := by omega
      have b6 : a + 64 - a = 64 := by omega
      have b7 : a ≤ a + 64 := by omega
      refine wp_region_noPanic ?_
      refine wp_region_held_drew (S := fun _ => True) (by kernel_rfl) trivial (fun _ => ?_)
      refine wpAnyH_take (i := 1) (v := ?_) rfl (by kernel_rfl) (by kernel_rfl) (by kernel_rfl) (fun _ _ _ h => h) (Or.inl ⟨by rfl, ?_⟩) trivial ?_
      rotate_left 1
      · intro w hSw; go_simp; try with_reducible rfl
      simp only [qA, qB, qC, Act.put, qD, qE, qF]
      refine wpAnyH_take (i := 2) (v := ?_) rfl (by kernel_rfl) (by kernel_rfl) (by kernel_rfl) (fun _ _ _ h => h) (Or.inl ⟨by rfl, ?_⟩) trivial ?_
      rotate_left 1
      · intro w hSw; go_simp; try with_reducible rfl
      simp only [qA, qB, qC, Act.put, qD, qE, qF]
      refine wpAnyH_take (i := 3) (v := ?_) rfl (by kernel_rfl) (by kernel_rfl) (by kernel_rfl) (fun _ _ _ h => h) (Or.inl ⟨by rfl, ?_⟩) trivial ?_
      rotate_left 1
      · intro w hSw; go_simp; try with_reducible rfl
      simp only [qA, qB, qC, Act.put, qD, qE, qF]
      refine wpAnyH_take (i := 4) (v := ?_) rfl (by kernel_rfl) (by kernel_rfl) (by kernel_rfl) (fun _ _ _ h => h) (Or.inl ⟨by rfl, ?_⟩) trivial ?_
      rotate_left 1
      · intro w hSw; go_simp; try with_reducible rfl
      simp only [qA, qB, qC, Act.put, qD, qE, qF]
      refine wpAnyH_take (i := 5) (v := ?_) rfl (by kernel_rfl) (by kernel_rfl) (by kernel_rfl) (fun _ _ _ h => h) (Or.inl ⟨by rfl, ?_⟩) trivial ?_
      rotate_left 1
      · intro w hSw; go_simp; try with_reducible rfl
      simp only [qA, qB, qC, Act.put, qD, qE, qF]
      have hl := blocksL_length K (padL (joinN ts)) k
      have hl' := blocksL_length K (padL (joinN ts)) (k + 1)
      have O1 := O.drew
      have hcells : ∀ j, j < 64 → wr.drew.cell? ⟨g, a + j, none⟩ = some (.int .u8 ((padL (joinN ts)).getD (64 * k + j) 0)) := fun j hj => by
        rw [← HA.out]; exact range_nums O1.bytes (a + j) (by rw [hpl]; omega)
      refine wpAnyH_ready (rs := [0]) (by kernel_rfl) (by simp) ?_
      refine AllReadyH.cons rfl (fun K' hK => ?_) AllReadyH.nil
      rw [if_pos (by rfl)]
      refine wp_load_mid 160 (.tmp 4) rfl w2.heap.size 0 rfl (stV (blocksL K (padL (joinN ts)) k)) _ O1.st Tryz.underlying160 rfl (info_st _ hl) ?_
      refine hK.out _ _ trivial (fun _ => ?_)
      clear hK K'
      try simp only [qA, qB, qC, Act.put, qD, qE, qF]
      refine wpAnyH_ready (rs := [6]) (by kernel_rfl) (by simp) ?_
      refine AllReadyH.cons rfl (fun K' hK => ?_) AllReadyH.nil
      rw [if_pos (by rfl)]
      go_simp
      refine (take_list _ hl g a 64 _ K wr.drew (Nat.le_refl _) (by omega) O1.gb hcells (by have h1 := O1.BS; have h2 := O1.sb; omega) O1.consts).mono ?_
      rintro e w4 ⟨rfl, hb4⟩
      have O4 := (O1.go hgl hb4).put hgl (blocksL K (padL (joinN ts)) (k + 1)) hl'
      have ht4 := (O1.go hgl hb4).room
      have HB : Hid (takeL (fun j => (padL (joinN ts)).getD (64 * k + j) 0) K (blocksL K (padL (joinN ts)) k) = blocksL K (padL (joinN ts)) (k + 1)) := rfl
      have hsz8 : (stV (blocksL K (padL (joinN ts)) (k + 1))).toArray.size = 8 := by simp [stV, hl']
      clear hb4 hcells O1 O
      refine hK.out _ _ trivial (fun _ => ?_)
      clear hK K'
      try simp only [qA, qB, qC, Act.put, qD, qE, qF]
      rw [HB.out]
      refine wpAnyH_ready (rs := [7]) (by kernel_rfl) (by simp) ?_
      refine AllReadyH.cons rfl (fun K' hK => ?_) AllReadyH.nil
      rw [if_pos (by rfl)]
      refine wp_store_mid 160 (.tmp 4) (.tmp 24) rfl w2.heap.size 0 (stV (blocksL K (padL (joinN ts)) (k + 1))).toArray rfl rfl (by rw [hsz8]; exact ht4) (by rw [hsz8]; exact info_state) (all_oneCell_toArray (ints_oneCell _ _)) ?_
      refine hK.out _ _ trivial (fun _ => ?_)
      clear hK K'
      refine ⟨by kernel_rfl, ?_⟩
      refine NoPanic.normal ?_
      try simp only [qA, qB, qC, Act.put, qD, qE, qF]
      clear b1 b2 b3 b4 b5 b6 b7 ht4
      go_wp2_with fail
      go_roundw
      case rel => exact ⟨k + 1, by omega, by rw [HA.out]; go_num, O4⟩
      case measure => simp [intOf]; omega
    · have : k = M := by omega
      subst this
      have hl := blocksL_length K (padL (joinN ts)) k
      have hi := info_st _ hl
      go_wp2_with (first | (refine wpList_load_mid rfl 160 _ rfl w2.heap.size 0 rfl (stV (blocksL K (padL (joinN ts)) k)) _ O.st Tryz.underlying160 rfl hi ?_))
      refine (spread_any _ hl _).mono ?_
      rintro e w5 ⟨rfl, hb5⟩
      have O5 := O.go hgl hb5
      have ht5 : w5.there w.heap.size 0 (bytesV (hashN K (joinN ts))).length := by
        rw [bytesV_length, hashN_length]
        exact there_old O5.below (there_z32 w)
      have hiH : (Tryz.prog.info? 104).map (·.size) = some (bytesV (hashN K (joinN ts))).length := by rw [info_hash, bytesV_length, hashN_length]
      have hone := bytesV_one (hashN K (joinN ts))
      have hB5 := O5.below
      have eh : hashN K (joinN ts) = spreadN (blocksL K (padL (joinN ts)) k) := by
        unfold hashN; rw [HM.out, Nat.mul_div_cancel_left _ (by omega)]
      rw [← eh]
      clear eh O O5 hb5
      obtain ⟨L, hL⟩ : ∃ L, L = bytesV (hashN K (joinN ts)) := ⟨_, rfl⟩
      rw [← hL] at ht5 hiH hone ⊢
      have HL : Hid (L = bytesV (hashN K (joinN ts))) := hL
      clear hL
      go_wp2_with (first | (refine wpList_store_abs rfl 104 _ _ rfl w.heap.size 0 L rfl rfl ht5 hiH hone ?_; intro w6 _hw6 hr6 ht6 hb6; clear _hw6))
      exact ret_cell rfl w.heap.size 0 L _ rfl hr6 Tryz.underlying104 rfl hiH rfl ⟨by rw [HL.out], ((Below.refl _ _).alloc (Nat.le_refl _) _).trans ((hB5.mono (Nat.le_succ _)).trans (hb6 _ (Nat.le_refl _)))⟩
theorem of_any (ts : List ByteArray) (tb cap : Nat) (K : Nat → Int) (w : World) (htb : tb < w.heap.size) (hn : ts.length ≤ 1000) (htot : (joinN ts).length ≤ 140737488355328) (hts : ∀ j, j < ts.length → w.cell? ⟨tb, j, none⟩ = some (.string (ts.getD j ByteArray.empty)))
    (hg : 1 < w.heap.size) (hK : ∀ j, j < 64 → w.cell? ⟨1, j, none⟩ = some (.int .u32 (K j))) :
    Calls Tryz.prog 54 #[.slice (some ⟨tb, 0, none⟩) ts.length cap] w fun e w' => e = .returned (.agg (bytesV (hashN K (joinN ts))).toArray) ∧ Below w.heap.size w w' :=
  of_gen ts (some ⟨tb, 0, none⟩) cap K w hn htot (textsAt_of htb hts) hg hK
end Go.Proofs.YteglimjonofdeaaGreatDoor
