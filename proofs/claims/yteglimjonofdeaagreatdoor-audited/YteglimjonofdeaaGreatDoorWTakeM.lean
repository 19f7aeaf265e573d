import Derived.Test.YteglimjonofdeaaGreatDoorWSched
import Derived.Test.YteglimjonofdeaaGreatDoorConstsM
import Derived.Test.YteglimjonofdeaaGreatDoorWPad
import Derived.Stop.BytesEq
import Derived.Deep.AppendLies
import Derived.ArgAppend
import Derived.BigQuiet
import Derived.OwnWalk
set_option linter.unusedVariables false
set_option linter.unusedSimpArgs false
namespace Go.Proofs.YteglimjonofdeaaGreatDoor
open Go.RowKit

def z8 : List Value := stV (List.replicate 8 0)
theorem alloc_8 (w : World) : (Instr.alloc 160 true (.tuple #[])).run Tryz.prog w = .ok (.pointer (some ⟨w.heap.size, 0, none⟩)) (w.alloc (.cells z8.toArray 160)) := by kernel_rfl
theorem there_z8 (w : World) : (w.alloc (.cells z8.toArray 160)).there w.heap.size 0 8 := by
  have h := there_new w z8.toArray 160
  rwa [show z8.toArray.size = 8 by decide +kernel] at h
/-- What the walk through the rounds leans on, in one world. -/
structure TakeAt (w : World) (g H : Nat) (W K : Nat → Int) (l0 l1 l2 l3 l4 l5 l6 l7 : Int) : Prop where
  words : ∀ j, j < 64 → w.cell? ⟨g, j, none⟩ = some (.int .u32 (W j))
  consts : ∀ j, j < 64 → w.cell? ⟨1, j, none⟩ = some (.int .u32 (K j))
  c0 : w.cell? ⟨H, 0, none⟩ = some (.int .u32 l0)
  c1 : w.cell? ⟨H, 1, none⟩ = some (.int .u32 l1)
  c2 : w.cell? ⟨H, 2, none⟩ = some (.int .u32 l2)
  c3 : w.cell? ⟨H, 3, none⟩ = some (.int .u32 l3)
  c4 : w.cell? ⟨H, 4, none⟩ = some (.int .u32 l4)
  c5 : w.cell? ⟨H, 5, none⟩ = some (.int .u32 l5)
  c6 : w.cell? ⟨H, 6, none⟩ = some (.int .u32 l6)
  c7 : w.cell? ⟨H, 7, none⟩ = some (.int .u32 l7)
  room : w.there (H + 1) 0 8

theorem TakeAt.draws {w : World} {g H : Nat} {W K : Nat → Int} {l0 l1 l2 l3 l4 l5 l6 l7 : Int} (h : TakeAt w g H W K l0 l1 l2 l3 l4 l5 l6 l7) (m : Nat) : TakeAt (w.drewN m) g H W K l0 l1 l2 l3 l4 l5 l6 l7 := ⟨h.words, h.consts, h.c0, h.c1, h.c2, h.c3, h.c4, h.c5, h.c6, h.c7, h.room⟩
theorem take_at (w w2 : World) (g : Nat) (L : List Int) (K : Nat → Int) (l0 l1 l2 l3 l4 l5 l6 l7 : Int)
    (hB : Below (w.heap.size + 2) ((w.alloc (.cells (stV [l0, l1, l2, l3, l4, l5, l6, l7]).toArray 160)).alloc (.cells z8.toArray 160)) w2) (hg : 1 < w.heap.size)
    (hK : ∀ j, j < 64 → w.cell? ⟨1, j, none⟩ = some (.int .u32 (K j))) (hr : w2.rangeAt g 0 (L.map (Value.int .u32))) (hL : L.length = 64) :
    TakeAt w2 g w.heap.size (fun j => L.getD j 0) K l0 l1 l2 l3 l4 l5 l6 l7 := by
  have hc : ∀ i v, (stV [l0, l1, l2, l3, l4, l5, l6, l7])[i]? = some v → w2.cell? ⟨w.heap.size, i, none⟩ = some v := fun i v hv => by
    rw [hB.cell (p := ⟨w.heap.size, i, none⟩) (by show w.heap.size < w.heap.size + 2; omega), World.cell?_alloc_past _ _ _ (by simp)]
    have := range_new w (stV [l0, l1, l2, l3, l4, l5, l6, l7]) 160 i v hv
    simpa using this
  refine ⟨fun j hj => ?_, fun j hj => ?_, hc 0 _ rfl, hc 1 _ rfl, hc 2 _ rfl, hc 3 _ rfl, hc 4 _ rfl, hc 5 _ rfl, hc 6 _ rfl, hc 7 _ rfl, fun j hj => ?_⟩
  · have := hr j (.int .u32 (L.getD j 0)) (by simp [List.getD, List.getElem?_eq_getElem (show j < L.length by omega)])
    simpa using this
  · rw [hB.cell (p := ⟨1, j, none⟩) (by show 1 < w.heap.size + 2; omega), World.cell?_alloc_past _ _ _ (by simp <;> omega), World.cell?_alloc_past _ _ _ hg]
    exact hK j hj
  · rw [hB.cell (p := ⟨w.heap.size + 1, 0 + j, none⟩) (by show w.heap.size + 1 < w.heap.size + 2; omega), hB.frozen (p := ⟨w.heap.size + 1, 0 + j, none⟩) (by show w.heap.size + 1 < w.heap.size + 2; omega)]
    have h := there_z8 (w.alloc (.cells (stV [l0, l1, l2, l3, l4, l5, l6, l7]).toArray 160)) j hj
    simpa using h
def firstI (e f g h W K : Int) : Int := (h + turnI e 26 21 7 + bits .xor .u32 (bits .and .u32 e f) (bits .and .u32 (bits .xor .u32 IntKind.u32.max e) g) + K + W) % 4294967296
def secondI (a b c : Int) : Int := (turnI a 30 19 10 + bits .xor .u32 (bits .xor .u32 (bits .and .u32 a b) (bits .and .u32 a c)) (bits .and .u32 b c)) % 4294967296
/-- One round. -/
def roundL (W K : Int) : List Int → List Int
  | [a, b, c, d, e, f, g, h] => [(firstI e f g h W K + secondI a b c) % 4294967296, a, b, c, (d + firstI e f g h W K) % 4294967296, e, f, g]
  | _ => []
def roundsL (W K : Nat → Int) (l : List Int) : Nat → List Int
  | 0 => l
  | k + 1 => roundL (W k) (K k) (roundsL W K l k)
/-- The state behind one more block. -/
def takeL (x K : Nat → Int) (l : List Int) : List Int := List.zipWith (fun p q => (p + q) % 4294967296) l (roundsL (fun j => (wordsL x 64).getD j 0) K l 64)

set_option maxRecDepth 10000 in
set_option maxHeartbeats 1000000 in
theorem take_any (l0 l1 l2 l3 l4 l5 l6 l7 : Int) (b o cap : Nat) (x K : Nat → Int) (w : World) (hcap : 64 ≤ cap) (hcap2 : cap ≤ 281474976710656) (hb : b < w.heap.size) (hx : ∀ j, j < 64 → w.cell? ⟨b, o + j, none⟩ = some (.int .u8 (x j)))
    (hg : 1 < w.heap.size) (hK : ∀ j, j < 64 → w.cell? ⟨1, j, none⟩ = some (.int .u32 (K j))) :
    Calls Tryz.prog 92 #[.agg (stV [l0, l1, l2, l3, l4, l5, l6, l7]).toArray, .slice (some ⟨b, o, none⟩) 64 cap] w fun e w' => e = .returned (.agg (stV (takeL x K [l0, l1, l2, l3, l4, l5, l6, l7])).toArray) ∧ Below w.heap.size w w' := by
  have HX : Hid (∀ j, j < 64 → w.cell? ⟨b, o + j, none⟩ = some (.int .u8 (x j))) := hx
  have HK : Hid (∀ j, j < 64 → w.cell? ⟨1, j, none⟩ = some (.int .u32 (K j))) := hK
  clear hx hK
  go_enter Tryz.func92, Tryz.ntmps92
  go_wp2_with (first | (refine wpList_alloc_of rfl 160 rfl z8.toArray alloc_8 ?_))
  refine (sched_any b o cap x _ hcap hcap2 (by simp; omega) (fun j hj => by rw [World.cell?_alloc_past _ _ _ (by simp; omega), World.cell?_alloc_past _ _ _ hb]; exact HX.out j hj)).mono ?_
  rintro e w1 ⟨rfl, hb1⟩
  have hz1 := hb1.size
  simp at hz1
  have hl64 : ((wordsL x 64).map (Value.int .u32)).length = 64 := by rw [List.length_map, wordsL_length]
  have hi64 : (Tryz.prog.info? 230).map (·.size) = some ((wordsL x 64).map (Value.int .u32)).length := by rw [hl64]; exact info_64
  have ht64 : (w1.alloc (.cells z64.toArray 230)).there w1.heap.size 0 ((wordsL x 64).map (Value.int .u32)).length := by rw [hl64]; exact there_z64 w1
  have hone := ints_oneCell .u32 (wordsL x 64)
  go_wp2_with (first | (refine wpList_alloc_of rfl 230 rfl z64.toArray alloc_64 ?_) | (refine wpList_store_abs rfl 230 _ _ rfl w1.heap.size 0 _ rfl rfl ht64 hi64 hone ?_; intro w2 _hw2 hr2 _ht2 hb2; clear _hw2 _ht2))
  have hB : Below (w.heap.size + 2) ((w.alloc (.cells (stV [l0, l1, l2, l3, l4, l5, l6, l7]).toArray 160)).alloc (.cells z8.toArray 160)) w2 := (hb1.mono (by simp)).trans (((Below.refl _ _).alloc (by omega) _).trans (hb2 _ (by omega)))
  have T : TakeAt w2 w1.heap.size w.heap.size (fun j => (wordsL x 64).getD j 0) K l0 l1 l2 l3 l4 l5 l6 l7 := take_at w w2 w1.heap.size _ K l0 l1 l2 l3 l4 l5 l6 l7 hB hg HK.out hr2 (wordsL_length x 64)
  clear hb1 hb2 hr2 hl64 hi64 ht64 hone
  have t0 := T.c0
  have t1 := T.c1
  have t2 := T.c2
  have t3 := T.c3
  have t4 := T.c4
  have t5 := T.c5
  have t6 := T.c6
  have t7 := T.c7
  go_quiet (fail)
  go_wp2_with fail
  clear t0 t1 t2 t3 t4 t5 t6 t7
  go_loopw [6, 7, 8, 9, 10, 11, 12, 13, 37] (fun a b c d e f g h i wr => ∃ (k : Nat) (a' b' c' d' e' f' g' h' : Int), k ≤ 64 ∧ i = .int .i64 k ∧ a = .int .u32 a' ∧ b = .int .u32 b' ∧ c = .int .u32 c' ∧ d = .int .u32 d' ∧ e = .int .u32 e' ∧ f = .int .u32 f' ∧ g = .int .u32 g' ∧ h = .int .u32 h' ∧
      Hid ([a', b', c', d', e', f', g', h'] = roundsL (fun j => (wordsL x 64).getD j 0) K [l0, l1, l2, l3, l4, l5, l6, l7] k) ∧ TakeAt wr w1.heap.size w.heap.size (fun j => (wordsL x 64).getD j 0) K l0 l1 l2 l3 l4 l5 l6 l7 ∧ Below (w.heap.size + 2) ((w.alloc (.cells (stV [l0, l1, l2, l3, l4, l5, l6, l7]).toArray 160)).alloc (.cells z8.toArray 160)) wr) (fun _ _ _ _ _ _ _ _ i _ => 64 - (intOf i).toNat)
  case atStart => exact ⟨0, l0, l1, l2, l3, l4, l5, l6, l7, by omega, rfl, rfl, rfl, rfl, rfl, rfl, rfl, rfl, rfl, rfl, T.draws _, below_draws hB _⟩
  case round =>
    obtain ⟨k, a, b', c, d, e, f, g, h0, hk, rfl, rfl, rfl, rfl, rfl, rfl, rfl, rfl, rfl, HR, T', hB'⟩ := hrel
    by_cases hlt : k < 64
    · have hw := T'.words k hlt
      have hc := T'.consts k hlt
      clear hB T
      have k64 : (k : Int) < 64 := by omega
      go_wp2_with fail
      go_quiet ((go_at_call 137; exact Calls.quiet_of_same (turns_a _ _)))
      clear hw hc
      go_wp2_with (go_at_call 137; refine (turns_b _ _).mono ?_; rintro e w' ⟨rfl, rfl⟩)
      go_roundw
      case rel => exact ⟨k + 1, _, a, b', c, _, e, f, g, by omega, by go_num, rfl, rfl, rfl, rfl, rfl, rfl, rfl, rfl, by show _ = roundL _ _ _; rw [← HR.out]; rfl, T'.draws _, below_draws hB' _⟩
      case measure => simp [intOf]; omega
    · have : k = 64 := by omega
      subst this
      clear hB T
      have t0 := T'.c0
      have t1 := T'.c1
      have t2 := T'.c2
      have t3 := T'.c3
      have t4 := T'.c4
      have t5 := T'.c5
      have t6 := T'.c6
      have t7 := T'.c7
      have hroom := T'.room
      have hone := ints_oneCell .u32 [(l0 + a) % 4294967296, (l1 + b') % 4294967296, (l2 + c) % 4294967296, (l3 + d) % 4294967296, (l4 + e) % 4294967296, (l5 + f) % 4294967296, (l6 + g) % 4294967296, (l7 + h0) % 4294967296]
      go_wp2_with (first | (refine wpList_store_abs rfl 160 _ _ rfl (w.heap.size + 1) 0 _ rfl rfl hroom info_state hone ?_; intro w4 _hw4 hr4 ht4 hb4; clear _hw4))
      refine ret_cell rfl (w.heap.size + 1) 0 _ _ rfl hr4 Tryz.underlying160 rfl info_state rfl ⟨?_, (((Below.refl _ _).alloc (Nat.le_refl _) _).alloc (by simp) _).trans ((hB'.mono (by omega)).trans (hb4 _ (by omega)))⟩
      rw [takeL, ← HR.out]
      rfl
def startL : List Int := [1779033703, 3144134277, 1013904242, 2773480762, 1359893119, 2600822924, 528734635, 1541459225]

set_option maxRecDepth 10000 in
set_option maxHeartbeats 400000 in
theorem start_any (w : World) : Calls Tryz.prog 91 #[] w fun e w' => e = .returned (.agg (stV startL).toArray) ∧ Below w.heap.size w w' := by
  have hroom := there_z8 w
  have hone := ints_oneCell .u32 startL
  go_enter Tryz.func91, Tryz.ntmps91
  go_wp2_with (first | (refine wpList_alloc_of rfl 160 rfl z8.toArray alloc_8 ?_) | (refine wpList_store_abs rfl 160 _ _ rfl w.heap.size 0 (stV startL) rfl rfl hroom info_state hone ?_; intro w4 _hw4 hr4 ht4 hb4; clear _hw4))
  exact ret_cell rfl w.heap.size 0 (stV startL) _ rfl hr4 Tryz.underlying160 rfl info_state rfl ⟨rfl, ((Below.refl _ _).alloc (Nat.le_refl _) _).trans (hb4 _ (Nat.le_refl _))⟩

theorem roundL_length (W K : Int) (l : List Int) (h : l.length = 8) : (roundL W K l).length = 8 := by
  match l, h with
  | [_, _, _, _, _, _, _, _], _ => rfl
theorem roundsL_length (W K : Nat → Int) (l : List Int) (h : l.length = 8) : ∀ k, (roundsL W K l k).length = 8
  | 0 => h
  | k + 1 => roundL_length _ _ _ (roundsL_length W K l h k)
theorem takeL_length (x K : Nat → Int) (l : List Int) (h : l.length = 8) : (takeL x K l).length = 8 := by
  unfold takeL; rw [List.length_zipWith, h, roundsL_length _ _ _ h]; rfl
/-- The state behind k blocks. -/
def blocksL (K : Nat → Int) (D : List Int) : Nat → List Int
  | 0 => startL
  | k + 1 => takeL (fun j => D.getD (64 * k + j) 0) K (blocksL K D k)
theorem blocksL_length (K : Nat → Int) (D : List Int) : ∀ k, (blocksL K D k).length = 8
  | 0 => rfl
  | k + 1 => takeL_length _ _ _ (blocksL_length K D k)
theorem take_list (l : List Int) (hl : l.length = 8) (b o cap : Nat) (x K : Nat → Int) (w : World) (hcap : 64 ≤ cap) (hcap2 : cap ≤ 281474976710656) (hb : b < w.heap.size) (hx : ∀ j, j < 64 → w.cell? ⟨b, o + j, none⟩ = some (.int .u8 (x j)))
    (hg : 1 < w.heap.size) (hK : ∀ j, j < 64 → w.cell? ⟨1, j, none⟩ = some (.int .u32 (K j))) :
    Calls Tryz.prog 92 #[.agg (stV l).toArray, .slice (some ⟨b, o, none⟩) 64 cap] w fun e w' => e = .returned (.agg (stV (takeL x K l)).toArray) ∧ Below w.heap.size w w' := by
  match l, hl with
  | [l0, l1, l2, l3, l4, l5, l6, l7], _ => exact take_any l0 l1 l2 l3 l4 l5 l6 l7 b o cap x K w hcap hcap2 hb hx hg hK

/-- The hash of texts. -/
def hashN (K : Nat → Int) (D : List Int) : List Int := spreadN (blocksL K (padL D) (padLen D.length / 64))
theorem hashN_length (K : Nat → Int) (D : List Int) : (hashN K D).length = 32 := by unfold hashN; rw [spreadN_length, blocksL_length]

/-- What the walk over the blocks leans on. -/
structure OfAt (w0 w : World) (B S g : Nat) (D : List Int) (K : Nat → Int) (l : List Int) : Prop where
  st : w.rangeAt S 0 (stV l)
  room : w.there S 0 8
  bytes : w.rangeAt g 0 (bytesV D)
  consts : ∀ j, j < 64 → w.cell? ⟨1, j, none⟩ = some (.int .u32 (K j))
  below : Below B w0 w
  sb : S < w.heap.size
  gb : g < w.heap.size
  gS : g < S
  BS : B ≤ S
theorem OfAt.go {w0 w w' : World} {B S g : Nat} {D : List Int} {K : Nat → Int} {l : List Int} (h : OfAt w0 w B S g D K l) (hc : 1 < B) (hb : Below w.heap.size w w') : OfAt w0 w' B S g D K l :=
  ⟨fun j v hv => (hb.cell (p := ⟨S, 0 + j, none⟩) h.sb).trans (h.st j v hv), there_below hb h.sb h.room, fun j v hv => (hb.cell (p := ⟨g, 0 + j, none⟩) h.gb).trans (h.bytes j v hv),
   fun j hj => (hb.cell (p := ⟨1, j, none⟩) (Nat.lt_trans (Nat.lt_of_lt_of_le hc h.BS) h.sb)).trans (h.consts j hj), h.below.trans (hb.mono (Nat.le_of_lt (Nat.lt_of_le_of_lt h.BS h.sb))), Nat.lt_of_lt_of_le h.sb hb.size, Nat.lt_of_lt_of_le h.gb hb.size, h.gS, h.BS⟩
theorem OfAt.put {w0 w : World} {B S g : Nat} {D : List Int} {K : Nat → Int} {l : List Int} (h : OfAt w0 w B S g D K l) (hc : 1 < B) (l' : List Int) (hl : l'.length = 8) : OfAt w0 (w.setCells S 0 (stV l')) B S g D K l' := by
  have hlen : (stV l').length = 8 := by unfold stV; rw [List.length_map, hl]
  have ho : ∀ (b j : Nat), b ≠ S → (w.setCells S 0 (stV l')).cell? ⟨b, j, none⟩ = w.cell? ⟨b, j, none⟩ := fun b j hb => World.cell?_setCells_out S _ 0 w ⟨b, j, none⟩ (fun e _ => absurd e hb)
  refine ⟨World.rangeAt_setCells_same _ _ _ _ (by rw [hlen]; exact h.room), World.there_setCells h.room _ _ _, fun j v hv => ?_, fun j hj => ?_, below_setCells h.BS _ _ _ h.below, by rw [size_setCells]; exact h.sb, by rw [size_setCells]; exact h.gb, h.gS, h.BS⟩
  · rw [ho g _ (Nat.ne_of_lt h.gS)]; exact h.bytes j v hv
  · rw [ho 1 _ (by have := h.BS; omega)]; exact h.consts j hj
theorem OfAt.drew {w0 w : World} {B S g : Nat} {D : List Int} {K : Nat → Int} {l : List Int} (h : OfAt w0 w B S g D K l) : OfAt w0 w.drew B S g D K l :=
  ⟨h.st, h.room, h.bytes, h.consts, h.below.drew, h.sb, h.gb, h.gS, h.BS⟩
theorem range_nums {w : World} {g : Nat} {D : List Int} (h : w.rangeAt g 0 (bytesV D)) (j : Nat) (hj : j < D.length) : w.cell? ⟨g, j, none⟩ = some (.int .u8 (D.getD j 0)) := by
  have := h j (.int .u8 (D.getD j 0)) (by simp [bytesV, List.getD, List.getElem?_eq_getElem hj])
  simpa using this
theorem info_st (l : List Int) (hl : l.length = 8) : (Tryz.prog.info? 160).map (·.size) = some (stV l).length := by rw [info_state, stV, List.length_map, hl]

set_option maxRecDepth 10000 in
set_option maxHeartbeats 1000000 in
theorem of_gen (ts : List ByteArray) (ao : Option Addr) (cap : Nat) (K : Nat → Int) (w : World) (hn : ts.length ≤ 1000) (htot : (joinN ts).length ≤ 140737488355328) (hts : textsAt w ao ts)
    (hg : 1 < w.heap.size) (hK : ∀ j, j < 64 → w.cell? ⟨1, j, none⟩ = some (.int .u32 (K j))) :
    Calls Tryz.prog 54 #[.slice ao ts.length cap] w fun e w' => e = .returned (.agg (bytesV (hashN K (joinN ts))).toArray) ∧ Below w.heap.size w w' := by
  have HT : Hid (textsAt w ao ts) := hts
  have HK : Hid (∀ j, j < 64 → w.cell? ⟨1, j, none⟩ = some (.int .u32 (K j))) := hK
  clear hts hK
  go_enter Tryz.func54, Tryz.ntmps54
  go_wp2_with (first | (refine wpList_alloc_of rfl 104 rfl z32.toArray alloc_32 ?_))
  refine (pad_gen ts ao cap _ hn htot (fun h0 => by
    obtain ⟨tb, e, htb, hts⟩ := HT.out h0
    exact ⟨tb, e, by simp; omega, fun j hj => by rw [World.cell?_alloc_past _ _ _ htb]; exact hts j hj⟩)).mono ?_
  rintro e w1 ⟨g, rfl, hg1, hg2, hr1, hb1⟩
  have hs1 := hb1.size
  simp at hs1 hg1
  go_wp2_with fail
  refine (start_any _).mono ?_
  rintro e w2 ⟨rfl, hb2⟩
  have hs2 := hb2.size
  have hroom := there_z8 w2
  have hone := ints_oneCell .u32 startL
  go_wp2_with (first | (refine wpList_alloc_of rfl 160 rfl z8.toArray alloc_8 ?_) | (refine wpList_store_abs rfl 160 _ _ rfl w2.heap.size 0 (stV startL) rfl rfl hroom info_state hone ?_; intro w3 _hw3 hr3 ht3 hb3; clear _hw3))
  have hgl : 1 < w.heap.size + 1 := by omega
  have O3 : OfAt (w.alloc (.cells z32.toArray 104)) w3 (w.heap.size + 1) w2.heap.size g (padL (joinN ts)) K startL := by
    have hbz : Below (w.heap.size + 1) (w.alloc (.cells z32.toArray 104)) w2 := (hb1.mono (by simp)).trans (hb2.mono (by omega))
    have hb3' : Below (w.heap.size + 1) (w2.alloc (.cells z8.toArray 160)) w3 := hb3 _ (by omega)
    have hbw : Below w2.heap.size w2 w3 := ((Below.refl _ _).alloc (Nat.le_refl _) _).trans (hb3 _ (Nat.le_refl _))
    have hs3 := (hb3 _ (Nat.le_refl _)).size
    simp at hs3
    refine ⟨hr3, ht3, fun j v hv => (hbw.cell (p := ⟨g, 0 + j, none⟩) (by show g < w2.heap.size; omega)).trans ((hb2.cell (p := ⟨g, 0 + j, none⟩) hg2).trans (hr1 j v hv)), fun j hj => ?_, hbz.trans (((Below.refl _ _).alloc (by omega) _).trans hb3'), by omega, by omega, by omega, by omega⟩
    rw [(hbz.trans (((Below.refl _ _).alloc (by omega) _).trans hb3')).cell (p := ⟨1, j, none⟩) hgl, World.cell?_alloc_past _ _ _ hg]
    exact HK.out j hj
  clear hr1 hb1 hb2 hr3 ht3 hb3 hroom hone
  obtain ⟨M, hM⟩ : ∃ M, padLen (joinN ts).length = 64 * M := ⟨(padLen (joinN ts).length) / 64, by unfold padLen; omega⟩
  have hM2 : 64 * M ≤ 140737488355400 := by rw [← hM]; unfold padLen; omega
  have hpl := padL_length (joinN ts)
  have HM : Hid (padLen (joinN ts).length = 64 * M) := hM
  rw [hM] at hpl ⊢
  clear hM
  go_wp2_with fail
  go_loopw [5] (fun at' wr => ∃ k : Nat, k ≤ M ∧ at' = .int .i64 ((64 * k : Nat) : Int) ∧ OfAt (w.alloc (.cells z32.toArray 104)) wr (w.heap.size + 1) w2.heap.size g (padL (joinN ts)) K (blocksL K (padL (joinN ts)) k)) (fun at' _ => 64 * M - (intOf at').toNat)
  case atStart => exact ⟨0, Nat.zero_le _, rfl, O3⟩
  case round =>
    clear O3
    obtain ⟨k, hk, rfl, O⟩ := hrel
    by_cases hlt : k < M
    · obtain ⟨a, ha⟩ : ∃ a, a = 64 * k := ⟨_, rfl⟩
      rw [← ha]
      have ha2 : a + 64 ≤ 64 * M := by omega
      have HA : Hid (a = 64 * k) := ha
      clear ha
      have b1 : (a : Int) < ((64 * M : Nat) : Int) := by omega
      have b2 : (0 : Int) ≤ (a : Int) := by omega
      have b3 : (a : Int) ≤ (a : Int) + 64 := by omega
      have b4 : (a : Int) + 64 ≤ ((64 * M : Nat) : Int) := by omega
      generalize 64 * M = N at *
      go_wp2_with fail
      have b5 : ((a : Int) + 64).toNat = a + 64 := by omega
      have b6 : a + 64 - a = 64 := by omega
      have b7 : a ≤ a + 64 := by omega
      refine wp_region_noPanic ?_
      refine wp_region_held_drew (S := fun _ => True) (by kernel_rfl) trivial (fun _ => ?_)
      refine tq (i := 1) (v := ?_) rfl trivial ?_ ?_
      rotate_left 1
      · intro w hSw; go_simp; try with_reducible rfl
      simp only [qA, qB, qC, Act.put, qD, qE, qF]
      refine tq (i := 2) (v := ?_) rfl trivial ?_ ?_
      rotate_left 1
      · intro w hSw; go_simp; try with_reducible rfl
      simp only [qA, qB, qC, Act.put, qD, qE, qF]
      refine tq (i := 3) (v := ?_) rfl trivial ?_ ?_
      rotate_left 1
      · intro w hSw; go_simp; try with_reducible rfl
      simp only [qA, qB, qC, Act.put, qD, qE, qF]
      refine tq (i := 4) (v := ?_) rfl trivial ?_ ?_
      rotate_left 1
      · intro w hSw; go_simp; try with_reducible rfl
      simp only [qA, qB, qC, Act.put, qD, qE, qF]
      refine tq (i := 5) (v := ?_) rfl trivial ?_ ?_
      rotate_left 1
      · intro w hSw; go_simp; try with_reducible rfl
      simp only [qA, qB, qC, Act.put, qD, qE, qF]
      have hl := blocksL_length K (padL (joinN ts)) k
      have hl' := blocksL_length K (padL (joinN ts)) (k + 1)
      have O1 := O.drew
      have hcells : ∀ j, j < 64 → wr.drew.cell? ⟨g, a + j, none⟩ = some (.int .u8 ((padL (joinN ts)).getD (64 * k + j) 0)) := fun j hj => by
        rw [← HA.out]; exact range_nums O1.bytes (a + j) (by rw [hpl]; omega)
      refine rk 0 (fun K' hK => ?_)
      refine wp_load_mid 160 (.tmp 4) rfl w2.heap.size 0 rfl (stV (blocksL K (padL (joinN ts)) k)) _ O1.st Tryz.underlying160 rfl (info_st _ hl) ?_
      refine hK.out _ _ trivial (fun _ => ?_)
      clear hK K'
      try simp only [qA, qB, qC, Act.put, qD, qE, qF]
      refine rk 6 (fun K' hK => ?_)
      go_simp
      refine (take_list _ hl g a 64 _ K wr.drew (Nat.le_refl _) (by omega) O1.gb hcells (by have h1 := O1.BS; have h2 := O1.sb; omega) O1.consts).mono ?_
      rintro e w4 ⟨rfl, hb4⟩
      have O4 := (O1.go hgl hb4).put hgl (blocksL K (padL (joinN ts)) (k + 1)) hl'
      have ht4 := (O1.go hgl hb4).room
      have HB : Hid (takeL (fun j => (padL (joinN ts)).getD (64 * k + j) 0) K (blocksL K (padL (joinN ts)) k) = blocksL K (padL (joinN ts)) (k + 1)) := rfl
      have hsz8 : (stV (blocksL K (padL (joinN ts)) (k + 1))).toArray.size = 8 := by simp [stV, hl']
      clear hb4 hcells O1 O
      refine hK.out _ _ trivial (fun _ => ?_)
      clear hK K'
      try simp only [qA, qB, qC, Act.put, qD, qE, qF]
      rw [HB.out]
      refine rk 7 (fun K' hK => ?_)
      refine wp_store_mid 160 (.tmp 4) (.tmp 24) rfl w2.heap.size 0 (stV (blocksL K (padL (joinN ts)) (k + 1))).toArray rfl rfl (by rw [hsz8]; exact ht4) (by rw [hsz8]; exact info_state) (all_oneCell_toArray (ints_oneCell _ _)) ?_
      refine hK.out _ _ trivial (fun _ => ?_)
      clear hK K'
      refine ⟨by kernel_rfl, ?_⟩
      refine NoPanic.normal ?_
      try simp only [qA, qB, qC, Act.put, qD, qE, qF]
      clear b1 b2 b3 b4 b5 b6 b7 ht4
      go_wp2_with fail
      go_roundw
      case rel => exact ⟨k + 1, by omega, by rw [HA.out]; go_num, O4⟩
      case measure => simp [intOf]; omega
    · have : k = M := by omega
      subst this
      have hl := blocksL_length K (padL (joinN ts)) k
      have hi := info_st _ hl
      go_wp2_with (first | (refine wpList_load_mid rfl 160 _ rfl w2.heap.size 0 rfl (stV (blocksL K (padL (joinN ts)) k)) _ O.st Tryz.underlying160 rfl hi ?_))
      refine (spread_any _ hl _).mono ?_
      rintro e w5 ⟨rfl, hb5⟩
      have O5 := O.go hgl hb5
      have ht5 : w5.there w.heap.size 0 (bytesV (hashN K (joinN ts))).length := by
        rw [bytesV_length, hashN_length]
        exact there_old O5.below (there_z32 w)
      have hiH : (Tryz.prog.info? 104).map (·.size) = some (bytesV (hashN K (joinN ts))).length := by rw [info_hash, bytesV_length, hashN_length]
      have hone := bytesV_one (hashN K (joinN ts))
      have hB5 := O5.below
      have eh : hashN K (joinN ts) = spreadN (blocksL K (padL (joinN ts)) k) := by
        unfold hashN; rw [HM.out, Nat.mul_div_cancel_left _ (by omega)]
      rw [← eh]
      clear eh O O5 hb5
      obtain ⟨L, hL⟩ : ∃ L, L = bytesV (hashN K (joinN ts)) := ⟨_, rfl⟩
      rw [← hL] at ht5 hiH hone ⊢
      have HL : Hid (L = bytesV (hashN K (joinN ts))) := hL
      clear hL
      go_wp2_with (first | (refine wpList_store_abs rfl 104 _ _ rfl w.heap.size 0 L rfl rfl ht5 hiH hone ?_; intro w6 _hw6 hr6 ht6 hb6; clear _hw6))
      exact ret_cell rfl w.heap.size 0 L _ rfl hr6 Tryz.underlying104 rfl hiH rfl ⟨by rw [HL.out], ((Below.refl _ _).alloc (Nat.le_refl _) _).trans ((hB5.mono (Nat.le_succ _)).trans (hb6 _ (Nat.le_refl _)))⟩
theorem of_any (ts : List ByteArray) (tb cap : Nat) (K : Nat → Int) (w : World) (htb : tb < w.heap.size) (hn : ts.length ≤ 1000) (htot : (joinN ts).length ≤ 140737488355328) (hts : ∀ j, j < ts.length → w.cell? ⟨tb, j, none⟩ = some (.string (ts.getD j ByteArray.empty)))
    (hg : 1 < w.heap.size) (hK : ∀ j, j < 64 → w.cell? ⟨1, j, none⟩ = some (.int .u32 (K j))) :
    Calls Tryz.prog 54 #[.slice (some ⟨tb, 0, none⟩) ts.length cap] w fun e w' => e = .returned (.agg (bytesV (hashN K (joinN ts))).toArray) ∧ Below w.heap.size w w' :=
  of_gen ts (some ⟨tb, 0, none⟩) cap K w hn htot (textsAt_of htb hts) hg hK
theorem convert_range {w : World} {b cap : Nat} {ns : List Int} (n : Nat) (hn : ns.length = n) (hr : w.rangeAt b 0 (bytesV ns)) : (convert 85 9 (.slice (some ⟨b, 0, none⟩) n cap)).run Tryz.prog w = .ok (.string (strOfNums ns)) w := by
  refine run_convert_bytes_arg w 85 5 Tryz.underlying85 Tryz.underlying5 b 0 n cap ns hn ?_ 9 Tryz.underlying9
  intro i hi
  rw [Nat.zero_add]; exact range_nums hr i (by omega)

theorem join_one (s : ByteArray) : joinN [s] = numsOf s := by simp [joinN]
/-- The hash of a text, as a text. -/
def sumOf (K : Nat → Int) (s : ByteArray) : ByteArray := strOfNums (hashN K (numsOf s))
theorem sumOf_size (K : Nat → Int) (s : ByteArray) : (sumOf K s).size = 32 := by unfold sumOf; rw [strOfNums_size, hashN_length]

set_option maxRecDepth 10000 in
set_option maxHeartbeats 1000000 in
theorem htext_any (ns : List Int) (w : World) (hn : ns.length = 32) :
    Calls Tryz.prog 55 #[.agg (bytesV ns).toArray] w fun e w' => e = .returned (.string (strOfNums ns)) ∧ Below w.heap.size w w' := by
  have hr0 := range_new w (bytesV ns) 104
  have hcv := convert_range (cap := 32) 32 hn hr0
  clear hr0
  go_enter Tryz.func55, Tryz.ntmps55
  go_wp2_with fail
  go_ret
  exact ⟨rfl, (Below.refl _ _).alloc (Nat.le_refl _) _⟩

set_option maxRecDepth 10000 in
set_option maxHeartbeats 1000000 in
theorem sum_any (s : ByteArray) (K : Nat → Int) (w : World) (hs : s.size ≤ 140737488355328) (hg : 1 < w.heap.size) (hK : ∀ j, j < 64 → w.cell? ⟨1, j, none⟩ = some (.int .u32 (K j))) :
    Calls Tryz.prog 32 #[.string s] w fun e w' => e = .returned (.string (sumOf K s)) ∧ Below w.heap.size w w' := by
  have HK : Hid (∀ j, j < 64 → w.cell? ⟨1, j, none⟩ = some (.int .u32 (K j))) := hK
  clear hK
  go_enter Tryz.func32, Tryz.ntmps32
  go_wp2_with fail
  refine (of_any [s] w.heap.size 1 K _ (by simp) (by simp) (by rw [join_one, numsOf_length]; exact hs)
    (fun j hj => by
      obtain rfl : j = 0 := by simpa using hj
      rw [World.cell?_alloc_at _ _ _ _ rfl]; rfl) (by simp <;> omega) (fun j hj => by rw [World.cell?_alloc_past _ _ _ hg]; exact HK.out j hj)).mono ?_
  rw [join_one]
  rintro e w1 ⟨rfl, hb1⟩
  go_wp2_with fail
  refine (htext_any (hashN K (numsOf s)) w1 (hashN_length K (numsOf s))).mono ?_
  rintro e w2 ⟨rfl, hb2⟩
  go_wp2_with fail
  go_ret
  refine ⟨rfl, ?_⟩
  have hs1 := hb1.size
  simp at hs1
  exact ((Below.refl _ _).alloc (Nat.le_refl _) _).trans ((hb1.mono (by simp)).trans (hb2.mono (by omega)))
theorem bAt_nums (s : ByteArray) (i : Nat) : bAt s i = (numsOf s).getD i 0 := by
  unfold bAt numsOf
  rw [List.getD, List.getD, List.getElem?_map]
  cases s.data.toList[i]? <;> rfl
theorem nums_str (l : List Int) (h : ∀ x ∈ l, 0 ≤ x ∧ x < 256) : numsOf (strOfNums l) = l := by
  unfold numsOf
  rw [strOfNums_data, List.map_map]
  have : ∀ x ∈ l, ((fun b : UInt8 => (b.toNat : Int)) ∘ fun n : Int => UInt8.ofNat n.toNat) x = id x := fun x hx => by
    have hx' := h x hx
    have e : (UInt8.ofNat x.toNat).toNat = x.toNat % 256 := UInt8.toNat_ofNat'
    simp only [Function.comp_apply, e, id]
    omega
  rw [List.map_congr_left this, List.map_id]
theorem str_nums (s : ByteArray) : strOfNums (numsOf s) = s := by
  have : (numsOf s).map (fun n => UInt8.ofNat n.toNat) = s.data.toList := by
    unfold numsOf
    rw [List.map_map]
    have : ∀ x ∈ s.data.toList, ((fun n : Int => UInt8.ofNat n.toNat) ∘ fun b : UInt8 => (b.toNat : Int)) x = id x := fun x _ => by simp
    rw [List.map_congr_left this, List.map_id]
  unfold strOfNums
  rw [this]
theorem nums_range (s : ByteArray) : ∀ x ∈ numsOf s, 0 ≤ x ∧ x < 256 := by
  intro x hx
  simp only [numsOf, List.mem_map] at hx
  obtain ⟨b, _, rfl⟩ := hx
  have := b.toNat_lt
  omega
theorem fourN_range (n : Int) : ∀ x ∈ fourN n, 0 ≤ x ∧ x < 256 := by
  intro x hx
  simp only [fourN, List.mem_cons, List.not_mem_nil, or_false] at hx
  rcases hx with rfl | rfl | rfl | rfl <;> exact ⟨Int.emod_nonneg _ (by omega), Int.emod_lt_of_pos _ (by omega)⟩
theorem hashN_range (K : Nat → Int) (D : List Int) : ∀ x ∈ hashN K D, 0 ≤ x ∧ x < 256 := by
  intro x hx
  unfold hashN spreadN at hx
  obtain ⟨n, _, h⟩ := List.mem_flatMap.1 hx
  exact fourN_range n x h
theorem nums_app (a b : ByteArray) : numsOf (a ++ b) = numsOf a ++ numsOf b := by
  unfold numsOf; simp [ByteArray.data_append]
/-- A hash as the program holds it: the bytes of its text. -/
def hV (h : ByteArray) : List Value := bytesV (numsOf h)
theorem hV_sum (K : Nat → Int) (D : List Int) (s : ByteArray) (h : D = numsOf s) : bytesV (hashN K D) = hV (sumOf K s) := by
  subst h
  unfold hV sumOf
  rw [nums_str _ (hashN_range _ _)]
theorem hV_len {h : ByteArray} (e : h.size = 32) : (hV h).length = 32 := by unfold hV; rw [bytesV_length, numsOf_length, e]
theorem hV_info {h : ByteArray} (e : h.size = 32) : (Tryz.prog.info? 104).map (·.size) = some (hV h).length := by rw [hV_len e]; exact info_hash
theorem hV_one (h : ByteArray) : ∀ u ∈ hV h, u.oneCell' = true := bytesV_one _
/-- The table of rounds, below block B. -/
structure Tab (K : Nat → Int) (w : World) : Prop where
  lt : 1 < w.heap.size
  cells : ∀ j, j < 64 → w.cell? ⟨1, j, none⟩ = some (.int .u32 (K j))
theorem Tab.below {K : Nat → Int} {w w' : World} (h : Tab K w) (hb : Below w.heap.size w w') : Tab K w' :=
  ⟨Nat.lt_of_lt_of_le h.lt hb.size, fun j hj => (hb.cell (p := ⟨1, j, none⟩) h.lt).trans (h.cells j hj)⟩
theorem own_below' {B : Nat} {e : TypeId} {k : Nat} {v : Value} {n : Nat} {xs : List Value} {w w' : World} (h : w.ownsRow B e k v n xs) (hb : Below w.heap.size w w') : w'.ownsRow B e k v n xs :=
  h.kept (row := none) ⟨hb.os, hb.tape, hb.output, hb.size, fun j hj _ => hb.block j hj⟩ (by cases hv : v.ownBlock <;> simp)
theorem info_strT : ∃ i, Tryz.prog.info? 9 = some i ∧ i.zero = some (.string ⟨#[]⟩) ∧ i.size = 1 ∧ i.bytes = 16 := by
  obtain ⟨i, hi⟩ : ∃ i, Tryz.prog.info? 9 = some i := Option.isSome_iff_exists.1 (by kernel_rfl)
  refine ⟨i, hi, ?_, ?_, ?_⟩
  · have : (Tryz.prog.info? 9).bind (·.zero) = some (.string ⟨#[]⟩) := by kernel_rfl
    rw [hi] at this; exact this
  · have : (Tryz.prog.info? 9).map (·.size) = some 1 := by kernel_rfl
    rw [hi] at this; exact Option.some.inj this
  · have : (Tryz.prog.info? 9).map (·.bytes) = some 16 := by kernel_rfl
    rw [hi] at this; exact Option.some.inj this
theorem htx_any (s : ByteArray) (e : s.size = 32) (w1 : World) : Calls Tryz.prog 55 #[.agg (hV s).toArray] w1 fun e w' => e = .returned (.string s) ∧ Below w1.heap.size w1 w' := by
  have := htext_any (numsOf s) w1 (by rw [numsOf_length, e])
  rw [str_nums] at this
  exact this
theorem info_u8 : ∃ i, Tryz.prog.info? 5 = some i ∧ i.zero = some (.int .u8 0) ∧ i.size = 1 ∧ i.bytes = 1 := by
  obtain ⟨i, hi⟩ : ∃ i, Tryz.prog.info? 5 = some i := Option.isSome_iff_exists.1 (by kernel_rfl)
  refine ⟨i, hi, ?_, ?_, ?_⟩
  · have : (Tryz.prog.info? 5).bind (·.zero) = some (.int .u8 0) := by kernel_rfl
    rw [hi] at this; exact this
  · have : (Tryz.prog.info? 5).map (·.size) = some 1 := by kernel_rfl
    rw [hi] at this; exact Option.some.inj this
  · have : (Tryz.prog.info? 5).map (·.bytes) = some 1 := by kernel_rfl
    rw [hi] at this; exact Option.some.inj this
theorem hV_app (a b : ByteArray) : hV (a ++ b) = hV a ++ hV b := by unfold hV; rw [nums_app, bytesV_append]
theorem own_sameX {w w' : World} {B : Nat} {e : TypeId} {k : Nat} {v : Value} {n : Nat} {xs : List Value} (h : w.ownsRow B e k v n xs) (hb : ∀ g, v.ownBlock = some g → w'.heap[g]? = w.heap[g]?) : w'.ownsRow B e k v n xs := by
  refine ⟨h.1, ?_⟩
  rcases h.2 with hn | ⟨g, cap, cur, rfl, h1, h2, rest⟩
  · exact Or.inl hn
  · exact Or.inr ⟨g, cap, cur, rfl, h1, (hb g rfl).trans h2, rest⟩
theorem heap_setCells_other' (cs : List Value) : ∀ (w : World) (b o g : Nat), g ≠ b → (w.setCells b o cs).heap[g]? = w.heap[g]? := by
  induction cs with
  | nil => intro w b o g h; rfl
  | cons c cs ih => intro w b o g h; rw [World.setCells, ih _ b (o + 1) g h]; exact heap_setCell_other w ⟨b, o, none⟩ g c h
theorem cell_sameB {w w' : World} {g o : Nat} (h : w'.heap[g]? = w.heap[g]?) : w'.cell? ⟨g, o, none⟩ = w.cell? ⟨g, o, none⟩ := by
  unfold World.cell?; simp only [h]
/-- Bytes that the call has made: n of them lie at the head of block g, which has room for cap, and may be written. -/
structure BufAt (B : Nat) (w : World) (g n cap : Nat) (xs : List Int) : Prop where
  len : xs.length = n
  cells : w.rangeAt g 0 (bytesV xs)
  room : w.there g 0 cap
  le : n ≤ cap
  lo : B ≤ g
  hi : g < w.heap.size
theorem BufAt.below {B : Nat} {w w' : World} {g n cap : Nat} {xs : List Int} (h : BufAt B w g n cap xs) {C : Nat} (hb : Below C w w') (hg : g < C) : BufAt B w' g n cap xs :=
  ⟨h.len, fun j v hv => (hb.cell (p := ⟨g, 0 + j, none⟩) hg).trans (h.cells j v hv), there_below hb hg h.room, h.le, h.lo, Nat.lt_of_lt_of_le h.hi hb.size⟩
theorem BufAt.alloc {B : Nat} {w : World} {g n cap : Nat} {xs : List Int} (h : BufAt B w g n cap xs) (o : Obj) : BufAt B (w.alloc o) g n cap xs :=
  h.below ((Below.refl _ _).alloc (Nat.le_refl _) _) h.hi
/-- '[]byte(s)', at the list of operations. -/
theorem wpList_conv_buf {ops : Array Oper} {rest : List Oper} {o : Oper} {a : Act} {w : World} {Q : Exit → Act → World → Prop} (hg : o.guard = none) (x : Operand) (ho : o.op = .convert 9 85 x) (t : ByteArray) (hx : a.eval x = .string t)
    (hK : ∀ w' g cap, BufAt w.heap.size w' g t.size cap (numsOf t) → Below w.heap.size w w' → wpList Tryz.prog ops Q rest (a.put o.dst (.slice (some ⟨g, 0, none⟩) t.size cap)) w') : wpList Tryz.prog ops Q (o :: rest) a w := by
  refine wpList_plain hg fun K hK' => ?_
  unfold Oper.wp
  have hr := run_bytes_of_string (P := Tryz.prog) w 9 85 5 t Tryz.underlying9 Tryz.underlying85 Tryz.underlying5
  simp only [execOp, ho, hx, Sem.run_bind, hr, Result.andThen_ok, Sem.run_pure]
  have hcap : t.size ≤ grownCap w t.size 0 5 := grownCap_ge w t.size 0 5
  obtain ⟨cap, hc⟩ : ∃ cap, cap = grownCap w t.size 0 5 := ⟨_, rfl⟩
  rw [← hc] at hcap ⊢
  have hsz : (bytesRow t cap).size = cap := by
    have : t.data.size = t.size := rfl
    simp [bytesRow, this]; omega
  have hh : (w.drew.alloc (.cells (bytesRow t cap) 5 ((bytesRow t cap).size, (bytesRow t cap).size + 1))).heap[w.heap.size]? = some (.cells (bytesRow t cap) 5 ((bytesRow t cap).size, (bytesRow t cap).size + 1)) := heap_alloc_new w.drew _
  refine hK' _ _ (hK _ w.heap.size cap ⟨numsOf_length t, fun j v hv => ?_, fun j hj => ?_, hcap, Nat.le_refl _, by simp⟩ ((Below.refl _ _).drew.alloc (Nat.le_refl _) _))
  · have hj : j < t.data.size := by
      have := (List.getElem?_eq_some_iff.1 hv).1
      rw [bytesV_length, numsOf_length] at this; exact this
    rw [cell_of_row _ _ _ _ _ _ hh, Nat.zero_add, bytesRow_at t cap j hj]
    rw [← hv]
    have hj2 : j < t.data.toList.length := by simpa using hj
    simp [bytesV, numsOf, List.getElem?_eq_getElem hj2, hj]
  · rw [cell_of_row _ _ _ _ _ _ hh]
    refine ⟨by rw [Nat.zero_add]; simp [hsz, hj], ?_⟩
    have hn : ¬ cap ≤ 0 + j := by omega
    rw [hsz] at hh ⊢
    simp only [World.frozen?]
    rw [hh]
    simp only [hn, decide_false, Bool.false_and]
/-- All blocks but those of S are as they were; there may be new ones. -/
structure Kept (S : Nat → Prop) (w w' : World) : Prop where
  os : w'.os = w.os
  tape : w'.tape = w.tape
  output : w'.output = w.output
  size : w.heap.size ≤ w'.heap.size
  block : ∀ g, g < w.heap.size → ¬ S g → w'.heap[g]? = w.heap[g]?
theorem Kept.refl (S : Nat → Prop) (w : World) : Kept S w w := ⟨rfl, rfl, rfl, Nat.le_refl _, fun _ _ _ => rfl⟩
theorem Kept.mono {S S' : Nat → Prop} {w w' : World} (h : Kept S w w') (hs : ∀ g, g < w.heap.size → S g → S' g) : Kept S' w w' :=
  ⟨h.os, h.tape, h.output, h.size, fun g hg hn => h.block g hg (fun e => hn (hs g hg e))⟩
theorem Kept.trans {S S' : Nat → Prop} {w w1 w2 : World} (h : Kept S w w1) (h' : Kept S' w1 w2) (hs : ∀ g, g < w.heap.size → S' g → S g) : Kept S w w2 :=
  ⟨h'.os.trans h.os, h'.tape.trans h.tape, h'.output.trans h.output, Nat.le_trans h.size h'.size, fun g hg hn => (h'.block g (Nat.lt_of_lt_of_le hg h.size) (fun e => hn (hs g hg e))).trans (h.block g hg hn)⟩
theorem Kept.below {S : Nat → Prop} {B : Nat} {w w' : World} (h : Below B w w') (hB : ∀ g, B ≤ g → g < w.heap.size → S g) : Kept S w w' :=
  ⟨h.os, h.tape, h.output, h.size, fun g hg hn => h.block g (by rcases Nat.lt_or_ge g B with h1 | h1; exact h1; exact absurd (hB g h1 hg) hn)⟩
theorem Kept.fresh {S : Nat → Prop} {w w' : World} (h : Below w.heap.size w w') : Kept S w w' := Kept.below h (fun g h1 h2 => by omega)
theorem Kept.alloc (S : Nat → Prop) (w : World) (o : Obj) : Kept S w (w.alloc o) := Kept.fresh ((Below.refl _ _).alloc (Nat.le_refl _) _)
theorem Kept.drew (S : Nat → Prop) (w : World) : Kept S w w.drew := Kept.fresh (Below.refl _ _).drew
theorem Kept.setCell {S : Nat → Prop} (w : World) (p : Addr) (v : Value) (h : S p.block ∨ w.heap.size ≤ p.block) : Kept S w (w.setCell p v) :=
  have hb := (Below.refl 0 w).setCell (p := p) (Nat.zero_le _) v
  ⟨hb.os, hb.tape, hb.output, hb.size, fun g hg hn => heap_setCell_other w p g v (by rintro rfl; rcases h with h | h; exact hn h; omega)⟩
theorem Kept.setCells {S : Nat → Prop} (b o : Nat) (cs : List Value) (w : World) (h : S b ∨ w.heap.size ≤ b) : Kept S w (w.setCells b o cs) := by
  induction cs generalizing w o with
  | nil => exact Kept.refl _ _
  | cons c cs ih =>
    rw [World.setCells]
    exact (Kept.setCell w ⟨b, o, none⟩ c h).trans (ih (o + 1) _ (h.imp id (fun h => by simpa using h))) (fun g _ h => h)
theorem Kept.grown {S : Nat → Prop} {w w' : World} {row : Option Nat} (h : w.grownBy w' row) (hr : ∀ k, row = some k → S k ∨ w.heap.size ≤ k) : Kept S w w' :=
  ⟨h.os, h.tape, h.output, h.size, fun g hg hn => h.block g hg (fun e => by rcases hr g e.symm with h1 | h1; exact hn h1; omega)⟩
/-- What is kept, below a bound that all of S lies above. -/
theorem Kept.toBelow {S : Nat → Prop} {w w' : World} {B : Nat} (h : Kept S w w') (hB : B ≤ w.heap.size) (hS : ∀ g, S g → B ≤ g) : Below B w w' :=
  ⟨h.os, h.tape, h.output, h.size, fun g hg => h.block g (by omega) (fun e => by have := hS g e; omega)⟩
theorem Kept.cell {S : Nat → Prop} {w w' : World} (h : Kept S w w') {a : Addr} (ha : a.block < w.heap.size) (hn : ¬ S a.block) : w'.cell? a = w.cell? a := World.cell?_of_block (h.block a.block ha hn)
theorem Kept.frozen {S : Nat → Prop} {w w' : World} (h : Kept S w w') {a : Addr} (ha : a.block < w.heap.size) (hn : ¬ S a.block) : w'.frozen? a = w.frozen? a := World.frozen?_of_block (h.block a.block ha hn)
theorem Kept.own {S : Nat → Prop} {w w' : World} (h : Kept S w w') {B : Nat} {e : TypeId} {k : Nat} {v : Value} {n : Nat} {xs : List Value} (ho : w.ownsRow B e k v n xs) (hn : ∀ g, v.ownBlock = some g → ¬ S g) : w'.ownsRow B e k v n xs :=
  own_sameX ho (fun g hg => h.block g (ho.lt g hg).2 (hn g hg))
theorem Tab.kept {K : Nat → Int} {w w' : World} {S : Nat → Prop} (h : Tab K w) (hk : Kept S w w') (hn : ¬ S 1) : Tab K w' :=
  ⟨Nat.lt_of_lt_of_le h.lt hk.size, fun j hj => (hk.cell (a := ⟨1, j, none⟩) h.lt hn).trans (h.cells j hj)⟩
theorem addr_add (b o j : Nat) : (⟨b, o, none⟩ : Addr).add j = ⟨b, o + j, none⟩ := by
  unfold Addr.add
  by_cases h : j = 0
  · subst h; simp
  · simp [h]
theorem block_lt {w : World} {g : Nat} {o : Obj} (h : w.heap[g]? = some o) : g < w.heap.size := (Array.getElem?_eq_some_iff.1 h).1
theorem range_kept {S : Nat → Prop} {W W' : World} {j o : Nat} {xs : List Value} (h : W.rangeAt j o xs) (hk : Kept S W W') (hj : j < W.heap.size) (hn : ¬ S j) : W'.rangeAt j o xs :=
  fun i v hv => (hk.cell (a := ⟨j, o + i, none⟩) hj hn).trans (h i v hv)
theorem there_kept {S : Nat → Prop} {W W' : World} {j o m : Nat} (h : W.there j o m) (hk : Kept S W W') (hj : j < W.heap.size) (hn : ¬ S j) : W'.there j o m :=
  fun i hi => by rw [hk.cell (a := ⟨j, o + i, none⟩) hj hn, hk.frozen (a := ⟨j, o + i, none⟩) hj hn]; exact h i hi
theorem wp_build_to {op : Oper} {a : Act} {w : World} {K : Act → World → Prop} {Q : Exit → Act → World → Prop} (t : TypeId) (parts : Array (Nat × Operand)) (ho : op.op = .build t parts) (cells : Array Value)
    (hf : Tryz.prog.built t (parts.map fun (i, x) => (i, a.eval x)).toList = some cells) (h : K (a.put op.dst (.agg cells)) w) : op.wp Tryz.prog a w K Q := by
  unfold Oper.wp execOp
  simp only [ho, Sem.run_bind, run_build w t _ cells hf, Result.andThen_ok]
  exact h
end Go.Proofs.YteglimjonofdeaaGreatDoor
