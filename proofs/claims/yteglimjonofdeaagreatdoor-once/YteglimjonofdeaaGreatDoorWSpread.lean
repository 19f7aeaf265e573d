import Derived.Test.YteglimjonofdeaaGreatDoorAid2
set_option linter.unusedVariables false
set_option linter.unusedSimpArgs false
namespace Go.Proofs.YteglimjonofdeaaGreatDoor
open Go.RowKit

/-- A state's eight numbers. -/
def stV (l : List Int) : List Value := l.map (Value.int .u32)
def spreadN (l : List Int) : List Int := l.flatMap fourN
theorem spreadN_length (l : List Int) : (spreadN l).length = 4 * l.length := by
  induction l with
  | nil => rfl
  | cons a l ih => simp only [spreadN, List.flatMap_cons, List.length_append, List.length_cons] at *; rw [ih]; simp [fourN]; omega
theorem index8 (a b c d e f g h : Int) (k : Nat) (hk : k < 8) (w : World) : (Instr.index 160 (.agg (stV [a, b, c, d, e, f, g, h]).toArray) (.int .i64 (k : Int))).run Tryz.prog w = .ok (.int .u32 ([a, b, c, d, e, f, g, h].getD k 0)) w := by
  obtain rfl | rfl | rfl | rfl | rfl | rfl | rfl | rfl : k = 0 ∨ k = 1 ∨ k = 2 ∨ k = 3 ∨ k = 4 ∨ k = 5 ∨ k = 6 ∨ k = 7 := by omega
  · kernel_rfl
  · kernel_rfl
  · kernel_rfl
  · kernel_rfl
  · kernel_rfl
  · kernel_rfl
  · kernel_rfl
  · kernel_rfl
theorem index_st (l : List Int) (hl : l.length = 8) (k : Nat) (hk : k < 8) (w : World) : (Instr.index 160 (.agg (stV l).toArray) (.int .i64 (k : Int))).run Tryz.prog w = .ok (.int .u32 (l.getD k 0)) w := by
  match l, hl with
  | [a, b, c, d, e, f, g, h], _ => exact index8 a b c d e f g h k hk w
theorem spread_snoc (l : List Int) (hl : l.length = 8) (k : Nat) (hk : k < 8) : spreadN (l.take (k + 1)) = spreadN (l.take k) ++ fourN (l.getD k 0) := by
  have hk' : k < l.length := by omega
  unfold spreadN
  rw [List.take_succ_eq_append_getElem hk', List.flatMap_append, List.getD, List.getElem?_eq_getElem hk']
  simp
theorem info_state : (Tryz.prog.info? 160).map (·.size) = some 8 := by kernel_rfl

theorem make32 (w : World) : (Instr.makeSlice 85 (.int .i64 0) (.int .i64 32)).run Tryz.prog w = .ok (.slice (some ⟨w.heap.size, 0, none⟩) 0 32) (w.alloc (.cells (Array.replicate 32 (.int .u8 0)) 5)) := by kernel_rfl
def z32 : List Value := bytesV (List.replicate 32 0)
theorem alloc_32 (w : World) : (Instr.alloc 104 true (.tuple #[])).run Tryz.prog w = .ok (.pointer (some ⟨w.heap.size, 0, none⟩)) (w.alloc (.cells z32.toArray 104)) := by kernel_rfl
theorem info_hash : (Tryz.prog.info? 104).map (·.size) = some 32 := by kernel_rfl

/-- An owned row that holds something, laid open. -/
theorem own_open {w : World} {base e n : Nat} {v : Value} {xs : List Value} (h : w.ownsRow base e 1 v n xs) (hn : 0 < n) : ∃ g cap, v = .slice (some ⟨g, 0, none⟩) n cap ∧ base ≤ g ∧ g < w.heap.size ∧ w.rangeAt g 0 xs := by
  rcases h.2 with ⟨_, h0⟩ | ⟨g, cap, cur, rfl, hb, hg, _⟩
  · omega
  · refine ⟨g, cap, rfl, hb, (h.lt g rfl).2, fun j u hu => ?_⟩
    have := h.cells (g := g) rfl j u hu
    rwa [Addr.add_mid] at this
theorem there_z32 (w : World) : (w.alloc (.cells z32.toArray 104)).there w.heap.size 0 32 := by
  have h := there_new w z32.toArray 104
  rwa [show z32.toArray.size = 32 by decide +kernel] at h

set_option maxRecDepth 10000 in
set_option maxHeartbeats 1000000 in
theorem spread_any (l : List Int) (hl : l.length = 8) (w : World) :
    Calls Tryz.prog 93 #[.agg (stV l).toArray] w fun en w' => en = .returned (.agg (bytesV (spreadN l)).toArray) ∧ Below w.heap.size w w' := by
  have hmk := make32
  have hi : (Tryz.prog.info? 160).map (·.size) = some (stV l).length := by rw [info_state, stV, List.length_map, hl]
  have HL : Hid (l.length = 8) := hl
  clear hl
  go_enter Tryz.func93, Tryz.ntmps93
  go_wp2_with (first | (refine wpList_alloc_of rfl 104 rfl z32.toArray alloc_32 ?_) | (refine wpList_load_mid rfl 160 _ rfl w.heap.size 0 rfl (stV l) _ (World.rangeAt_alloc (World.rangeAt_alloc (range_new _ _ _) _) _) Tryz.underlying160 rfl hi ?_))
  go_loopw [3, 9] (fun v i wr => ∃ k : Nat, k ≤ 8 ∧ i = .int .i64 k ∧ wr.ownsRow (w.heap.size + 2) 5 1 v (4 * k) (bytesV (spreadN (l.take k))) ∧ Below (w.heap.size + 2) ((w.alloc (.cells (stV l).toArray 160)).alloc (.cells z32.toArray 104)) wr) (fun _ i _ => 8 - (intOf i).toNat)
  case atStart =>
    refine ⟨0, by omega, rfl, ?_, (Below.refl _ _).alloc (by simp) _⟩
    have h := World.ownsRow_made (base := w.heap.size + 2) (e := 5) (size := 1) ((w.alloc (.cells (stV l).toArray 160)).alloc (.cells z32.toArray 104)) (Array.replicate 32 (.int .u8 0)) 32 (by simp) (by unfold maxLen; omega) (by simp)
    simpa [spreadN, bytesV] using h
  case round =>
    obtain ⟨k, hk, rfl, hown, hB⟩ := hrel
    have hz := hB.size
    simp at hz
    by_cases hlt : k < 8
    · have hix := index_st l HL.out k hlt
      go_wp2_with fail
      refine (append_any (w.heap.size + 2) (4 * k) _ _ _ _ hown (by omega) (by omega)).mono ?_
      rintro e w1 ⟨v1, rfl, ho1, hb1⟩
      clear hix
      go_wp2
      go_roundw
      case rel =>
        refine ⟨k + 1, by omega, by go_num, ?_, hB.trans hb1⟩
        rw [spread_snoc l HL.out k hlt, bytesV_append]
        rw [show 4 * (k + 1) = 4 * k + 4 by omega]
        exact ho1
      case measure => simp [intOf]; omega
    · have : k = 8 := by omega
      subst this
      have h8 : l.take 8 = l := List.take_of_length_le (by rw [HL.out]; exact Nat.le_refl _)
      rw [h8] at hown
      obtain ⟨g2, cap, rfl, hg2, hg3, hr2⟩ := own_open hown (by omega)
      have hlen : (bytesV (spreadN l)).length = 32 := by rw [bytesV_length, spreadN_length, HL.out]
      obtain ⟨wC, hwC⟩ : ∃ wC, wC = (wr.alloc (.cells z32.toArray 104)).setCells wr.heap.size 0 (bytesV (spreadN l)) := ⟨_, rfl⟩
      have htA := there_z32 wr
      have hrun : (Builtin.copy_ #[85, 85] 3 #[.slice (some ⟨wr.heap.size, 0, none⟩) 32 32, .slice (some ⟨g2, 0, none⟩) 32 cap]).run Tryz.prog (wr.alloc (.cells z32.toArray 104)) = .ok (goInt 32) wC := by
        have h := run_copy_cells (P := Tryz.prog) (wr.alloc (.cells z32.toArray 104)) 85 85 3 5 wr.heap.size 0 32 32 ⟨g2, 0, none⟩ 32 cap (bytesV (spreadN l)) Tryz.underlying85 (by kernel_rfl) (by rw [hlen]; rfl)
          (fun j v hv => by rw [Addr.add_mid]; exact World.rangeAt_alloc hr2 _ j v hv) (fun j hj => (htA j (by omega)).1) (fun j hj => (htA j (by omega)).2) (bytesV_one _)
        rw [hlen] at h
        rw [hwC]; exact h
      have hrC : wC.rangeAt wr.heap.size 0 (bytesV (spreadN l)) := by rw [hwC]; exact World.rangeAt_setCells_same _ _ _ _ (by rw [hlen]; exact htA)
      have hBC : Below (w.heap.size + 2) ((w.alloc (.cells (stV l).toArray 160)).alloc (.cells z32.toArray 104)) wC := by
        rw [hwC]; exact below_setCells (by omega) _ _ _ (hB.alloc (by omega) _)
      have hiH : (Tryz.prog.info? 104).map (·.size) = some (bytesV (spreadN l)).length := by rw [info_hash, hlen]
      have htC : wC.there (w.heap.size + 1) 0 (bytesV (spreadN l)).length := by
        rw [hlen]
        have h := there_z32 (w.alloc (.cells (stV l).toArray 160))
        rw [show (w.alloc (.cells (stV l).toArray 160)).heap.size = w.heap.size + 1 by simp] at h
        intro j hj
        rw [hBC.cell (p := ⟨w.heap.size + 1, 0 + j, none⟩) (by show w.heap.size + 1 < w.heap.size + 2; omega), hBC.frozen (p := ⟨w.heap.size + 1, 0 + j, none⟩) (by show w.heap.size + 1 < w.heap.size + 2; omega)]
        exact h j hj
      have hone := bytesV_one (spreadN l)
      clear hwC htA hr2 hown hB
      obtain ⟨L, hL⟩ : ∃ L, L = bytesV (spreadN l) := ⟨_, rfl⟩
      rw [← hL] at hrC hiH htC hone
      have HB : Hid (L = bytesV (spreadN l)) := hL
      clear hL hlen h8
      go_wp2_with (first | (refine wpList_alloc_of rfl 104 rfl z32.toArray alloc_32 ?_) | (at_builtin; refine Lib.wpList_copy_run _ rfl (.tmp 16) (.tmp 17) 85 85 rfl _ _ rfl rfl hrun ?_) | (refine wpList_load_mid rfl 104 _ rfl wr.heap.size 0 rfl L _ hrC Tryz.underlying104 rfl hiH ?_) | (refine wpList_store_abs rfl 104 _ _ rfl (w.heap.size + 1) 0 L rfl rfl htC hiH hone ?_; intro w4 _hw4 hr4 ht4 hb4; clear _hw4))
      exact ret_cell rfl (w.heap.size + 1) 0 L _ rfl hr4 Tryz.underlying104 rfl hiH rfl ⟨by rw [HB.out], (((Below.refl _ _).alloc (Nat.le_refl _) _).alloc (by simp) _).trans ((hBC.mono (by omega)).trans (hb4 _ (by omega)))⟩
end Go.Proofs.YteglimjonofdeaaGreatDoor
