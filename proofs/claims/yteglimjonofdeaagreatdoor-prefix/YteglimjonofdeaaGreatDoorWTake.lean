import Derived.Test.YteglimjonofdeaaGreatDoorWSched
import Derived.Test.YteglimjonofdeaaGreatDoorWSpreadM
set_option linter.unusedVariables false
set_option linter.unusedSimpArgs false
namespace Go.Proofs.YteglimjonofdeaaGreatDoor
open Go.RowKit

def z8 : List Value := stV (List.replicate 8 0)
theorem alloc_8 (w : World) : (Instr.alloc 160 true (.tuple #[])).run Tryz.prog w = .ok (.pointer (some ⟨w.heap.size, 0, none⟩)) (w.alloc (.cells z8.toArray 160)) := by kernel_rfl
theorem there_z8 (w : World) : (w.alloc (.cells z8.toArray 160)).there w.heap.size 0 8 := by
  have h := there_new w z8.toArray 160
  rwa [show z8.toArray.size = 8 by decide +kernel] at h
/-- What the walk through the rounds leans on, in one world. -/
structure TakeAt (w : World) (g H : Nat) (W K : Nat → Int) (l0 l1 l2 l3 l4 l5 l6 l7 : Int) : Prop where
  words : ∀ j, j < 64 → w.cell? ⟨g, j, none⟩ = some (.int .u32 (W j))
  consts : ∀ j, j < 64 → w.cell? ⟨1, j, none⟩ = some (.int .u32 (K j))
  c0 : w.cell? ⟨H, 0, none⟩ = some (.int .u32 l0)
  c1 : w.cell? ⟨H, 1, none⟩ = some (.int .u32 l1)
  c2 : w.cell? ⟨H, 2, none⟩ = some (.int .u32 l2)
  c3 : w.cell? ⟨H, 3, none⟩ = some (.int .u32 l3)
  c4 : w.cell? ⟨H, 4, none⟩ = some (.int .u32 l4)
  c5 : w.cell? ⟨H, 5, none⟩ = some (.int .u32 l5)
  c6 : w.cell? ⟨H, 6, none⟩ = some (.int .u32 l6)
  c7 : w.cell? ⟨H, 7, none⟩ = some (.int .u32 l7)
  room : w.there (H + 1) 0 8

theorem TakeAt.draws {w : World} {g H : Nat} {W K : Nat → Int} {l0 l1 l2 l3 l4 l5 l6 l7 : Int} (h : TakeAt w g H W K l0 l1 l2 l3 l4 l5 l6 l7) (m : Nat) : TakeAt (w.drewN m) g H W K l0 l1 l2 l3 l4 l5 l6 l7 := ⟨h.words, h.consts, h.c0, h.c1, h.c2, h.c3, h.c4, h.c5, h.c6, h.c7, h.room⟩
theorem take_at (w w2 : World) (g : Nat) (L : List Int) (K : Nat → Int) (l0 l1 l2 l3 l4 l5 l6 l7 : Int)
    (hB : Below (w.heap.size + 2) ((w.alloc (.cells (stV [l0, l1, l2, l3, l4, l5, l6, l7]).toArray 160)).alloc (.cells z8.toArray 160)) w2) (hg : 1 < w.heap.size)
    (hK : ∀ j, j < 64 → w.cell? ⟨1, j, none⟩ = some (.int .u32 (K j))) (hr : w2.rangeAt g 0 (L.map (Value.int .u32))) (hL : L.length = 64) :
    TakeAt w2 g w.heap.size (fun j => L.getD j 0) K l0 l1 l2 l3 l4 l5 l6 l7 := by
  have hc : ∀ i v, (stV [l0, l1, l2, l3, l4, l5, l6, l7])[i]? = some v → w2.cell? ⟨w.heap.size, i, none⟩ = some v := fun i v hv => by
    rw [hB.cell (p := ⟨w.heap.size, i, none⟩) (by show w.heap.size < w.heap.size + 2; omega), World.cell?_alloc_past _ _ _ (by simp)]
    have := range_new w (stV [l0, l1, l2, l3, l4, l5, l6, l7]) 160 i v hv
    simpa using this
  refine ⟨fun j hj => ?_, fun j hj => ?_, hc 0 _ rfl, hc 1 _ rfl, hc 2 _ rfl, hc 3 _ rfl, hc 4 _ rfl, hc 5 _ rfl, hc 6 _ rfl, hc 7 _ rfl, fun j hj => ?_⟩
  · have := hr j (.int .u32 (L.getD j 0)) (by simp [List.getD, List.getElem?_eq_getElem (show j < L.length by omega)])
    simpa using this
  · rw [hB.cell (p := ⟨1, j, none⟩) (by show 1 < w.heap.size + 2; omega), World.cell?_alloc_past _ _ _ (by simp <;> omega), World.cell?_alloc_past _ _ _ hg]
    exact hK j hj
  · rw [hB.cell (p := ⟨w.heap.size + 1, 0 + j, none⟩) (by show w.heap.size + 1 < w.heap.size + 2; omega), hB.frozen (p := ⟨w.heap.size + 1, 0 + j, none⟩) (by show w.heap.size + 1 < w.heap.size + 2; omega)]
    have h := there_z8 (w.alloc (.cells (stV [l0, l1, l2, l3, l4, l5, l6, l7]).toArray 160)) j hj
    simpa using h
def firstI (e f g h W K : Int) : Int := (h + turnI e 26 21 7 + bits .xor .u32 (bits .and .u32 e f) (bits .and .u32 (bits .xor .u32 IntKind.u32.max e) g) + K + W) % 4294967296
def secondI (a b c : Int) : Int := (turnI a 30 19 10 + bits .xor .u32 (bits .xor .u32 (bits .and .u32 a b) (bits .and .u32 a c)) (bits .and .u32 b c)) % 4294967296
/-- One round. -/
def roundL (W K : Int) : List Int → List Int
  | [a, b, c, d, e, f, g, h] => [(firstI e f g h W K + secondI a b c) % 4294967296, a, b, c, (d + firstI e f g h W K) % 4294967296, e, f, g]
  | _ => []
def roundsL (W K : Nat → Int) (l : List Int) : Nat → List Int
  | 0 => l
  | k + 1 => roundL (W k) (K k) (roundsL W K l k)
/-- The state behind one more block. -/
def takeL (x K : Nat → Int) (l : List Int) : List Int := List.zipWith (fun p q => (p + q) % 4294967296) l (roundsL (fun j => (wordsL x 64).getD j 0) K l 64)

set_option maxRecDepth 10000 in
set_option maxHeartbeats 1000000 in
theorem take_any (l0 l1 l2 l3 l4 l5 l6 l7 : Int) (b o cap : Nat) (x K : Nat → Int) (w : World) (hcap : 64 ≤ cap) (hcap2 : cap ≤ 281474976710656) (hb : b < w.heap.size) (hx : ∀ j, j < 64 → w.cell? ⟨b, o + j, none⟩ = some (.int .u8 (x j)))
    (hg : 1 < w.heap.size) (hK : ∀ j, j < 64 → w.cell? ⟨1, j, none⟩ = some (.int .u32 (K j))) :
    Calls Tryz.prog 92 #[.agg (stV [l0, l1, l2, l3, l4, l5, l6, l7]).toArray, .slice (some ⟨b, o, none⟩) 64 cap] w fun e w' => e = .returned (.agg (stV (takeL x K [l0, l1, l2, l3, l4, l5, l6, l7])).toArray) ∧ Below w.heap.size w w' := by
  have HX : Hid (∀ j, j < 64 → w.cell? ⟨b, o + j, none⟩ = some (.int .u8 (x j))) := hx
  have HK : Hid (∀ j, j < 64 → w.cell? ⟨1, j, none⟩ = some (.int .u32 (K j))) := hK
  clear hx hK
  go_enter Tryz.func92, Tryz.ntmps92
  go_wp2_with (first | (refine wpList_alloc_of rfl 160 rfl z8.toArray alloc_8 ?_))
  refine (sched_any b o cap x _ hcap hcap2 (by simp; omega) (fun j hj => by rw [World.cell?_alloc_past _ _ _ (by simp; omega), World.cell?_alloc_past _ _ _ hb]; exact HX.out j hj)).mono ?_
  rintro e w1 ⟨rfl, hb1⟩
  have hz1 := hb1.size
  simp at hz1
  have hl64 : ((wordsL x 64).map (Value.int .u32)).length = 64 := by rw [List.length_map, wordsL_length]
  have hi64 : (Tryz.prog.info? 230).map (·.size) = some ((wordsL x 64).map (Value.int .u32)).length := by rw [hl64]; exact info_64
  have ht64 : (w1.alloc (.cells z64.toArray 230)).there w1.heap.size 0 ((wordsL x 64).map (Value.int .u32)).length := by rw [hl64]; exact there_z64 w1
  have hone := ints_oneCell .u32 (wordsL x 64)
  go_wp2_with (first | (refine wpList_alloc_of rfl 230 rfl z64.toArray alloc_64 ?_) | (refine wpList_store_abs rfl 230 _ _ rfl w1.heap.size 0 _ rfl rfl ht64 hi64 hone ?_; intro w2 _hw2 hr2 _ht2 hb2; clear _hw2 _ht2))
  have hB : Below (w.heap.size + 2) ((w.alloc (.cells (stV [l0, l1, l2, l3, l4, l5, l6, l7]).toArray 160)).alloc (.cells z8.toArray 160)) w2 := (hb1.mono (by simp)).trans (((Below.refl _ _).alloc (by omega) _).trans (hb2 _ (by omega)))
  have T : TakeAt w2 w1.heap.size w.heap.size (fun j => (wordsL x 64).getD j 0) K l0 l1 l2 l3 l4 l5 l6 l7 := take_at w w2 w1.heap.size _ K l0 l1 l2 l3 l4 l5 l6 l7 hB hg HK.out hr2 (wordsL_length x 64)
  clear hb1 hb2 hr2 hl64 hi64 ht64 hone
  have t0 := T.c0
  have t1 := T.c1
  have t2 := T.c2
  have t3 := T.c3
  have t4 := T.c4
  have t5 := T.c5
  have t6 := T.c6
  have t7 := T.c7
  go_quiet (fail)
  go_wp2_with fail
  clear t0 t1 t2 t3 t4 t5 t6 t7
  go_loopw [6, 7, 8, 9, 10, 11, 12, 13, 37] (fun a b c d e f g h i wr => ∃ (k : Nat) (a' b' c' d' e' f' g' h' : Int), k ≤ 64 ∧ i = .int .i64 k ∧ a = .int .u32 a' ∧ b = .int .u32 b' ∧ c = .int .u32 c' ∧ d = .int .u32 d' ∧ e = .int .u32 e' ∧ f = .int .u32 f' ∧ g = .int .u32 g' ∧ h = .int .u32 h' ∧
      Hid ([a', b', c', d', e', f', g', h'] = roundsL (fun j => (wordsL x 64).getD j 0) K [l0, l1, l2, l3, l4, l5, l6, l7] k) ∧ TakeAt wr w1.heap.size w.heap.size (fun j => (wordsL x 64).getD j 0) K l0 l1 l2 l3 l4 l5 l6 l7 ∧ Below (w.heap.size + 2) ((w.alloc (.cells (stV [l0, l1, l2, l3, l4, l5, l6, l7]).toArray 160)).alloc (.cells z8.toArray 160)) wr) (fun _ _ _ _ _ _ _ _ i _ => 64 - (intOf i).toNat)
  case atStart => exact ⟨0, l0, l1, l2, l3, l4, l5, l6, l7, by omega, rfl, rfl, rfl, rfl, rfl, rfl, rfl, rfl, rfl, rfl, T.draws _, below_draws hB _⟩
  case round =>
    obtain ⟨k, a, b', c, d, e, f, g, h0, hk, rfl, rfl, rfl, rfl, rfl, rfl, rfl, rfl, rfl, HR, T', hB'⟩ := hrel
    by_cases hlt : k < 64
    · have hw := T'.words k hlt
      have hc := T'.consts k hlt
      clear hB T
      have k64 : (k : Int) < 64 := by omega
      go_wp2_with fail
      go_quiet ((go_at_call 137; exact Calls.quiet_of_same (turns_a _ _)))
      clear hw hc
      go_wp2_with (go_at_call 137; refine (turns_b _ _).mono ?_; rintro e w' ⟨rfl, rfl⟩)
      go_roundw
      case rel => exact ⟨k + 1, _, a, b', c, _, e, f, g, by omega, by go_num, rfl, rfl, rfl, rfl, rfl, rfl, rfl, rfl, by show _ = roundL _ _ _; rw [← HR.out]; rfl, T'.draws _, below_draws hB' _⟩
      case measure => simp [intOf]; omega
    · have : k = 64 := by omega
      subst this
      clear hB T
      have t0 := T'.c0
      have t1 := T'.c1
      have t2 := T'.c2
      have t3 := T'.c3
      have t4 := T'.c4
      have t5 := T'.c5
      have t6 := T'.c6
      have t7 := T'.c7
      have hroom := T'.room
      have hone := ints_oneCell .u32 [(l0 + a) % 4294967296, (l1 + b') % 4294967296, (l2 + c) % 4294967296, (l3 + d) % 4294967296, (l4 + e) % 4294967296, (l5 + f) % 4294967296, (l6 + g) % 4294967296, (l7 + h0) % 4294967296]
      go_wp2_with (first | (refine wpList_store_abs rfl 160 _ _ rfl (w.heap.size + 1) 0 _ rfl rfl hroom info_state hone ?_; intro w4 _hw4 hr4 ht4 hb4; clear _hw4))
      refine ret_cell rfl (w.heap.size + 1) 0 _ _ rfl hr4 Tryz.underlying160 rfl info_state rfl ⟨?_, (((Below.refl _ _).alloc (Nat.le_refl _) _).alloc (by simp) _).trans ((hB'.mono (by omega)).trans (hb4 _ (by omega)))⟩
      rw [takeL, ← HR.out]
      rfl
end Go.Proofs.YteglimjonofdeaaGreatDoor
