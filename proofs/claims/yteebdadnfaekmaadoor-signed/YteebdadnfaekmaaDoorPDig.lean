import Derived.Test.YteebdadnfaekmaaDoorPChain
set_option linter.unusedVariables false
set_option linter.unusedSimpArgs false
namespace Go.Proofs.YteebdadnfaekmaaDoor
open Go.RowKit

theorem hV_get (h : ByteArray) (k : Nat) (hk : k < h.size) : (hV h)[k]? = some (.int .u8 (bAt h k)) := by
  have hl : k < h.data.toList.length := by rw [← Lib.size_eq]; exact hk
  unfold hV bytesV numsOf bAt
  rw [List.map_map, List.getElem?_map, List.getElem?_eq_getElem hl, List.getD, List.getElem?_eq_getElem hl]; rfl
theorem index_hash (h : ByteArray) (hh : h.size = 32) (k : Nat) (hk : k < 32) (w : World) : (Instr.index 54 (.agg (hV h).toArray) (.int .i64 (k : Int))).run Tryd.prog w = .ok (.int .u8 (bAt h k)) w := by
  have hn : (0 : Int) ≤ (k : Int) ∧ (k : Int) < 32 := by omega
  have h1 : (k : Int) < 32 := by omega
  obtain ⟨i, hi, hz, hsz, hby⟩ := info_u8
  simp [Instr.index, run_underlying Tryd.underlying54, asIntOf, hn, h1, go_sem]
  rw [if_pos hk, hV_get h k (by omega)]
  rfl
theorem and15 : ∀ x : Fin 256, bits .and .u8 (x.val : Int) 15 = (x.val : Int) % 16 := by decide +kernel
set_option maxRecDepth 100000 in
theorem and15i : ∀ x : Fin 1024, bits .and .i64 (x.val : Int) 15 = (x.val : Int) % 16 := by decide +kernel
/-- A hash's half bytes, the high one first. -/
def nib (h : ByteArray) (c : Nat) : Nat := if c % 2 = 0 then (bAt h (c / 2)).toNat / 16 else (bAt h (c / 2)).toNat % 16
theorem bAt_lt (h : ByteArray) (i : Nat) : (bAt h i).toNat < 256 := by have := bAt_hi h i; have := bAt_lo h i; omega
theorem nib_lt (h : ByteArray) (c : Nat) : nib h c < 16 := by
  have := bAt_lt h (c / 2)
  unfold nib; split <;> omega
/-- How much the first k lack of 15 each. -/
def lackN (h : ByteArray) : Nat → Nat
  | 0 => 0
  | c + 1 => lackN h c + (15 - nib h c)
theorem lackN_le (h : ByteArray) : ∀ c, lackN h c ≤ 15 * c
  | 0 => Nat.le_refl _
  | c + 1 => by have := lackN_le h c; simp only [lackN]; omega
/-- How many steps of a chain a signature of this hash shows. -/
def dig (h : ByteArray) (c : Nat) : Nat := if c < 64 then nib h c else if c = 64 then lackN h 64 / 256 else if c = 65 then lackN h 64 / 16 % 16 else lackN h 64 % 16
theorem dig_le (h : ByteArray) (c : Nat) : dig h c ≤ 15 := by
  have h1 := nib_lt h c
  have h2 := lackN_le h 64
  unfold dig
  split
  · omega
  · split
    · omega
    · split <;> omega
def digV (h : ByteArray) : List Value := (List.range 67).map fun c => .int .i64 (dig h c : Nat)
theorem digV_len (h : ByteArray) : (digV h).length = 67 := by unfold digV; simp
theorem digV_get (h : ByteArray) (c : Nat) (hc : c < 67) : (digV h)[c]? = some (.int .i64 (dig h c : Nat)) := by unfold digV; simp [hc]
theorem digV_one (h : ByteArray) : ∀ u ∈ digV h, u.oneCell' = true := fun u hu => by unfold digV at hu; simp at hu; obtain ⟨c, _, rfl⟩ := hu; rfl
def z67 : List Value := List.replicate 67 (.int .i64 0)
theorem alloc_67 (w : World) : (Instr.alloc 105 true (.tuple #[])).run Tryd.prog w = .ok (.pointer (some ⟨w.heap.size, 0, none⟩)) (w.alloc (.cells z67.toArray 105)) := by kernel_rfl
theorem info_67 : (Tryd.prog.info? 105).map (·.size) = some 67 := by kernel_rfl
theorem digV_info (h : ByteArray) : (Tryd.prog.info? 105).map (·.size) = some (digV h).length := by rw [digV_len]; exact info_67
theorem there_z67 (w : World) : (w.alloc (.cells z67.toArray 105)).there w.heap.size 0 67 := by
  have h := there_new w z67.toArray 105
  rwa [show z67.toArray.size = 67 by decide +kernel] at h
theorem lack_two (h : ByteArray) (i : Nat) : lackN h (2 * (i + 1)) = lackN h (2 * i) + (15 - (bAt h i).toNat / 16) + (15 - (bAt h i).toNat % 16) := by
  have e0 : nib h (2 * i) = (bAt h i).toNat / 16 := by unfold nib; rw [if_pos (by omega), show 2 * i / 2 = i by omega]
  have e1 : nib h (2 * i + 1) = (bAt h i).toNat % 16 := by unfold nib; rw [if_neg (by omega), show (2 * i + 1) / 2 = i by omega]
  rw [show 2 * (i + 1) = 2 * i + 1 + 1 by omega, lackN, lackN, e0, e1]

def cellI (w : World) (q j : Nat) (x : Nat) : Prop := w.cell? ⟨q, j, none⟩ = some (.int .i64 (x : Nat))

set_option maxRecDepth 10000 in
set_option maxHeartbeats 2000000 in
theorem digits_any (h : ByteArray) (hh : h.size = 32) (w : World) :
    Calls Tryd.prog 69 #[.agg (hV h).toArray] w fun e w' => e = .returned (.agg (digV h).toArray) ∧ Below w.heap.size w w' := by
  obtain ⟨wB, hwB⟩ : ∃ wB, wB = ((w.alloc (.cells (hV h).toArray 54)).alloc (.cells z67.toArray 105)).alloc (.cells z67.toArray 105) := ⟨_, rfl⟩
  have hbB : Below w.heap.size w wB := by rw [hwB]; exact (((Below.refl _ _).alloc (Nat.le_refl _) _).alloc (by simp) _).alloc (by simp; omega) _
  have hr0 : wB.rangeAt w.heap.size 0 (hV h) := by rw [hwB]; exact World.rangeAt_alloc (World.rangeAt_alloc (range_new w (hV h) 54) _) _
  have ht1 : wB.there (w.heap.size + 1) 0 67 := by
    rw [hwB]
    have := there_z67 (w.alloc (.cells (hV h).toArray 54))
    rw [show (w.alloc (.cells (hV h).toArray 54)).heap.size = w.heap.size + 1 by simp] at this
    exact there_below ((Below.refl _ _).alloc (Nat.le_refl _) _) (by simp) this
  have ht2 : wB.there (w.heap.size + 1 + 1) 0 67 := by
    rw [hwB]
    have := there_z67 ((w.alloc (.cells (hV h).toArray 54)).alloc (.cells z67.toArray 105))
    simpa using this
  have hc2 : ∀ j, j < 67 → wB.cell? ⟨w.heap.size + 1 + 1, j, none⟩ = some (.int .i64 0) := fun j hj => by
    rw [hwB]
    have := range_new ((w.alloc (.cells (hV h).toArray 54)).alloc (.cells z67.toArray 105)) z67 105 j (.int .i64 0) (by show (List.replicate 67 (Value.int .i64 0))[j]? = _; rw [List.getElem?_replicate, if_pos hj])
    simpa using this
  have ih := hV_info hh
  have HIX : Hid (∀ (k : Nat) (w : World), k < 32 → (Instr.index 54 (.agg (hV h).toArray) (.int .i64 (k : Int))).run Tryd.prog w = .ok (.int .u8 (bAt h k)) w) := fun k w hk => index_hash h hh k hk w
  have idv := digV_info h
  have odv := digV_one h
  go_enter Tryd.func69, Tryd.ntmps69
  rw [hwB] at hr0
  go_wp2_with (first | (refine wpList_alloc_of rfl 105 rfl z67.toArray alloc_67 ?_) | (refine wpList_load_mid rfl 54 _ rfl w.heap.size 0 rfl (hV h) _ hr0 Tryd.underlying54 rfl ih ?_))
  rw [← hwB]
  clear hr0 hwB
  go_loopw [4, 11] (fun l i wr => ∃ k : Nat, k ≤ 32 ∧ i = .int .i64 k ∧ l = .int .i64 (lackN h (2 * k) : Nat) ∧ Hid ((∀ j, j < 67 → cellI wr (w.heap.size + 1 + 1) j (if j < 2 * k then nib h j else 0)) ∧ wr.there (w.heap.size + 1 + 1) 0 67 ∧ wr.there (w.heap.size + 1) 0 67 ∧ Below w.heap.size w wr)) (fun _ i _ => 32 - (intOf i).toNat)
  case atStart => exact ⟨0, by omega, rfl, rfl, fun j hj => by rw [if_neg (by omega)]; exact hc2 j hj, ht2, ht1, hbB⟩
  case round =>
    clear hc2 ht1 ht2 hbB
    obtain ⟨k, hk, rfl, rfl, hI⟩ := hrel
    by_cases hlt : k < 32
    · have k1 : (k : Int) < 32 := by omega
      have hix := fun w => HIX.out k w hlt
      have b8 := bAt_lt h k
      have blo := bAt_lo h k
      obtain ⟨x, hx⟩ : ∃ x, x = (bAt h k).toNat := ⟨_, rfl⟩
      have hx2 : bAt h k = (x : Int) := by omega
      rw [← hx] at b8
      simp only [hx2] at hix
      have ha := and15 ⟨x, b8⟩
      simp only at ha
      have hl2 := lack_two h k
      rw [← hx] at hl2
      have hlk := lackN_le h (2 * k)
      obtain ⟨L, hL⟩ : ∃ L, L = lackN h (2 * k) := ⟨_, rfl⟩
      rw [← hL] at hl2 hlk ⊢
      have HL2 : Hid (lackN h (2 * (k + 1)) = L + (15 - x / 16) + (15 - x % 16)) := hl2
      have e0 : nib h (2 * k) = x / 16 := by unfold nib; rw [if_pos (by omega), show 2 * k / 2 = k by omega, hx]
      have e1 : nib h (2 * k + 1) = x % 16 := by unfold nib; rw [if_neg (by omega), show (2 * k + 1) / 2 = k by omega, hx]
      have HE0 : Hid (nib h (2 * k) = x / 16) := e0
      have HE1 : Hid (nib h (2 * k + 1) = x % 16) := e1
      have f0 : wr.frozen? ⟨w.heap.size + 1 + 1, 2 * k, none⟩ = false := by have := (hI.out.2.1 (2 * k) (by omega)).2; rwa [Nat.zero_add] at this
      have c0 : wr.cell? ⟨w.heap.size + 1 + 1, 2 * k, none⟩ = some (.int .i64 0) := by have := hI.out.1 (2 * k) (by omega); rw [if_neg (by omega)] at this; exact this
      obtain ⟨wx, hwx⟩ : ∃ wx, wx = wr.setCell ⟨w.heap.size + 1 + 1, 2 * k, none⟩ (.int .i64 ((x : Int) / 16)) := ⟨_, rfl⟩
      have f1 : wx.frozen? ⟨w.heap.size + 1 + 1, 2 * k + 1, none⟩ = false := by rw [hwx]; have := (World.there_setCells hI.out.2.1 (w.heap.size + 1 + 1) (2 * k) [.int .i64 ((x : Int) / 16)] (2 * k + 1) (by omega)).2; rwa [Nat.zero_add] at this
      have c1 : wx.cell? ⟨w.heap.size + 1 + 1, 2 * k + 1, none⟩ = some (.int .i64 0) := by
        rw [hwx, World.cell?_setCell_other (w := wr) (a := ⟨w.heap.size + 1 + 1, 2 * k, none⟩) (b := ⟨w.heap.size + 1 + 1, 2 * k + 1, none⟩) _ (by intro e; have := congrArg Addr.off e; simp at this)]
        have := hI.out.1 (2 * k + 1) (by omega); rw [if_neg (by omega)] at this; exact this
      rw [hwx] at f1 c1
      clear hwx hx hx2 hL e0 e1 hl2
      go_wp2_with fail
      refine ⟨⟨k + 1, by omega, by go_num, ?_, ?_, ?_, ?_, ?_⟩, ?_⟩
      · rw [HL2.out]; congr 2; omega
      · intro j hj
        by_cases e1 : j = 2 * k + 1
        · subst e1
          rw [if_pos (by omega), HE1.out]
          show World.cell? _ _ = some (.int .i64 ((x % 16 : Nat) : Int))
          rw [show ((x % 16 : Nat) : Int) = (x : Int) % 16 by omega]
          exact World.cell?_setCell_same _ _ _ c1
        · show World.cell? _ _ = _
          rw [World.cell?_setCell_other (w := wr.setCell ⟨w.heap.size + 1 + 1, 2 * k, none⟩ (.int .i64 ((x : Int) / 16))) (a := ⟨w.heap.size + 1 + 1, 2 * k + 1, none⟩) (b := ⟨w.heap.size + 1 + 1, j, none⟩) _ (by intro e; have := congrArg Addr.off e; simp at this; omega)]
          by_cases e0 : j = 2 * k
          · subst e0
            rw [if_pos (by omega), HE0.out]
            rw [show ((x / 16 : Nat) : Int) = (x : Int) / 16 by omega]
            exact World.cell?_setCell_same _ _ _ c0
          · rw [World.cell?_setCell_other (w := wr) (a := ⟨w.heap.size + 1 + 1, 2 * k, none⟩) (b := ⟨w.heap.size + 1 + 1, j, none⟩) _ (by intro e; have := congrArg Addr.off e; simp at this; omega)]
            have := hI.out.1 j hj
            rw [show (if j < 2 * (k + 1) then nib h j else 0) = (if j < 2 * k then nib h j else 0) by
              by_cases e2 : j < 2 * k
              · rw [if_pos e2, if_pos (by omega)]
              · rw [if_neg e2, if_neg (by omega)]]
            exact this
      · exact World.there_setCells (World.there_setCells hI.out.2.1 (w.heap.size + 1 + 1) (2 * k) [_]) (w.heap.size + 1 + 1) (2 * k + 1) [_]
      · exact World.there_setCells (World.there_setCells hI.out.2.2.1 (w.heap.size + 1 + 1) (2 * k) [_]) (w.heap.size + 1 + 1) (2 * k + 1) [_]
      · exact (hI.out.2.2.2.setCell (p := ⟨w.heap.size + 1 + 1, 2 * k, none⟩) (by show w.heap.size ≤ w.heap.size + 1 + 1; omega) _).setCell (p := ⟨w.heap.size + 1 + 1, 2 * k + 1, none⟩) (by show w.heap.size ≤ w.heap.size + 1 + 1; omega) _
      · simp [intOf]; omega
    · obtain rfl : k = 32 := by omega
      have hlk := lackN_le h 64
      obtain ⟨L, hL⟩ : ∃ L, L = lackN h 64 := ⟨_, rfl⟩
      rw [show 2 * 32 = 64 from rfl, ← hL]
      rw [← hL] at hlk
      have HL : Hid (L = lackN h 64) := hL
      clear hL HIX
      go_wp2_with fail
      go_loopw [38] (fun i w2 => ∃ r : Nat, r ≤ 3 ∧ i = .int .i64 r ∧ Hid ((∀ j, j < 67 → cellI w2 (w.heap.size + 1 + 1) j (if j < 64 then nib h j else if 66 < j + r then dig h j else 0)) ∧ w2.there (w.heap.size + 1 + 1) 0 67 ∧ w2.there (w.heap.size + 1) 0 67 ∧ Below w.heap.size w w2)) (fun i _ => 3 - (intOf i).toNat)
      case atStart =>
        refine ⟨0, by omega, rfl, fun j hj => ?_, hI.out.2⟩
        have := hI.out.1 j hj
        rw [show (if j < 64 then nib h j else if 66 < j + 0 then dig h j else 0) = (if j < 2 * 32 then nib h j else 0) by
          by_cases e : j < 64
          · rw [if_pos e, if_pos (by omega)]
          · rw [if_neg e, if_neg (by omega), if_neg (by omega)]]
        exact this
      case round =>
        clear hI
        obtain ⟨r, hr, rfl, hI⟩ := hrel
        by_cases hlt2 : r < 3
        · have r1 : (r : Int) < 3 := by omega
          have fz : wr.frozen? ⟨w.heap.size + 1 + 1, 66 - r, none⟩ = false := by have := (hI.out.2.1 (66 - r) (by omega)).2; rwa [Nat.zero_add] at this
          obtain ⟨y, cz⟩ : ∃ y, wr.cell? ⟨w.heap.size + 1 + 1, 66 - r, none⟩ = some y := ⟨_, hI.out.1 (66 - r) (by omega)⟩
          have hb : ∀ z, Below w.heap.size w (wr.setCell ⟨w.heap.size + 1 + 1, 66 - r, none⟩ z) := fun z => hI.out.2.2.2.setCell (p := ⟨w.heap.size + 1 + 1, 66 - r, none⟩) (by show w.heap.size ≤ w.heap.size + 1 + 1; omega) _
          have fin : ∀ (d : Nat), d = dig h (66 - r) → (∀ j, j < 67 → cellI (wr.setCell ⟨w.heap.size + 1 + 1, 66 - r, none⟩ (.int .i64 (d : Nat))) (w.heap.size + 1 + 1) j (if j < 64 then nib h j else if 66 < j + (r + 1) then dig h j else 0)) ∧ (wr.setCell ⟨w.heap.size + 1 + 1, 66 - r, none⟩ (.int .i64 (d : Nat))).there (w.heap.size + 1 + 1) 0 67 ∧ (wr.setCell ⟨w.heap.size + 1 + 1, 66 - r, none⟩ (.int .i64 (d : Nat))).there (w.heap.size + 1) 0 67 ∧ Below w.heap.size w (wr.setCell ⟨w.heap.size + 1 + 1, 66 - r, none⟩ (.int .i64 (d : Nat))) := fun d hd => by
            refine ⟨fun j hj => ?_, World.there_setCells hI.out.2.1 (w.heap.size + 1 + 1) (66 - r) [_], World.there_setCells hI.out.2.2.1 (w.heap.size + 1 + 1) (66 - r) [_], hb _⟩
            by_cases e : j = 66 - r
            · subst e
              rw [if_neg (by omega), if_pos (by omega), ← hd]
              exact World.cell?_setCell_same _ _ _ cz
            · show World.cell? _ _ = _
              rw [World.cell?_setCell_other (w := wr) (a := ⟨w.heap.size + 1 + 1, 66 - r, none⟩) (b := ⟨w.heap.size + 1 + 1, j, none⟩) _ (by intro e'; have := congrArg Addr.off e'; simp at this; omega)]
              have := hI.out.1 j hj
              rw [show (if j < 64 then nib h j else if 66 < j + (r + 1) then dig h j else 0) = (if j < 64 then nib h j else if 66 < j + r then dig h j else 0) by
                by_cases e1 : j < 64
                · rw [if_pos e1, if_pos e1]
                · rw [if_neg e1, if_neg e1]
                  by_cases e2 : 66 < j + r
                  · rw [if_pos e2, if_pos (by omega)]
                  · rw [if_neg e2, if_neg (by omega)]]
              exact this
          have FIN : Hid (∀ (d : Nat), d = dig h (66 - r) → (∀ j, j < 67 → cellI (wr.setCell ⟨w.heap.size + 1 + 1, 66 - r, none⟩ (.int .i64 (d : Nat))) (w.heap.size + 1 + 1) j (if j < 64 then nib h j else if 66 < j + (r + 1) then dig h j else 0)) ∧ (wr.setCell ⟨w.heap.size + 1 + 1, 66 - r, none⟩ (.int .i64 (d : Nat))).there (w.heap.size + 1 + 1) 0 67 ∧ (wr.setCell ⟨w.heap.size + 1 + 1, 66 - r, none⟩ (.int .i64 (d : Nat))).there (w.heap.size + 1) 0 67 ∧ Below w.heap.size w (wr.setCell ⟨w.heap.size + 1 + 1, 66 - r, none⟩ (.int .i64 (d : Nat)))) := fin
          clear fin hb hI
          have hd0 : Hid (dig h 66 = L % 16 ∧ dig h 65 = L / 16 % 16 ∧ dig h 64 = L / 256) := by
            show dig h 66 = L % 16 ∧ dig h 65 = L / 16 % 16 ∧ dig h 64 = L / 256
            rw [HL.out]; exact ⟨rfl, rfl, rfl⟩
          have a0 := and15i ⟨L, by omega⟩
          have a1 := and15i ⟨L / 16, by omega⟩
          have a2 := and15i ⟨L / 256, by omega⟩
          have d1 : ((L / 16 : Nat) : Int) = (L : Int) / 16 := by omega
          have d2 : ((L / 256 : Nat) : Int) = (L : Int) / 256 := by omega
          simp only [d1, d2] at a0 a1 a2
          obtain rfl | rfl | rfl : r = 0 ∨ r = 1 ∨ r = 2 := by omega
          · clear a1 a2 d1 d2
            go_wp2_with fail
            refine ⟨⟨1, by omega, rfl, ?_⟩, ?_⟩
            · have := FIN.out (L % 16) (by rw [hd0.out.1])
              rw [show ((L % 16 : Nat) : Int) = (L : Int) % 16 by omega] at this
              exact this
            · simp [intOf]
          · clear a0 a2 d1 d2
            go_wp2_with fail
            refine ⟨⟨2, by omega, rfl, ?_⟩, ?_⟩
            · have := FIN.out (L / 16 % 16) (by rw [hd0.out.2.1])
              rw [show ((L / 16 % 16 : Nat) : Int) = (L : Int) / 16 % 16 by omega] at this
              exact this
            · simp [intOf]
          · clear a0 a1 d1 d2
            go_wp2_with fail
            refine ⟨⟨3, by omega, rfl, ?_⟩, ?_⟩
            · have := FIN.out (L / 256) (by rw [hd0.out.2.2])
              rw [show ((L / 256 : Nat) : Int) = (L : Int) / 256 % 16 by omega] at this
              exact this
            · simp [intOf]
        · obtain rfl : r = 3 := by omega
          have hrg : wr.rangeAt (w.heap.size + 1 + 1) 0 (digV h) := fun j u hu => by
            have hj : j < 67 := by
              rcases Nat.lt_or_ge j 67 with e | e
              · exact e
              · rw [List.getElem?_eq_none (by rw [digV_len]; exact e)] at hu; cases hu
            rw [digV_get h j hj] at hu
            obtain rfl := Option.some.inj hu
            rw [Nat.zero_add]
            have := hI.out.1 j hj
            rw [show (if j < 64 then nib h j else if 66 < j + 3 then dig h j else 0) = dig h j by
              by_cases e : j < 64
              · rw [if_pos e]; unfold dig; rw [if_pos e]
              · rw [if_neg e, if_pos (by omega)]] at this
            exact this
          have ht : wr.there (w.heap.size + 1) 0 (digV h).length := by rw [digV_len]; exact hI.out.2.2.1
          have hBr := hI.out.2.2.2
          clear hI
          go_wp2_with (first | (refine wpList_load_mid rfl 105 _ rfl (w.heap.size + 1 + 1) 0 rfl (digV h) _ hrg Tryd.underlying105 rfl idv ?_) | (refine wpList_store_abs rfl 105 _ _ rfl (w.heap.size + 1) 0 (digV h) rfl rfl ht idv odv ?_; intro w9 _hw9 hr9 _ht9 hb9; clear _hw9 _ht9))
          exact ret_cell rfl (w.heap.size + 1) 0 (digV h) _ rfl hr9 Tryd.underlying105 rfl idv rfl ⟨rfl, hBr.trans (hb9 _ (by omega))⟩
end Go.Proofs.YteebdadnfaekmaaDoor
