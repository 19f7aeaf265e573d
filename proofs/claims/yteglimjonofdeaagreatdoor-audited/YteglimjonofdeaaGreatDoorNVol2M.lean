import Derived.Test.YteglimjonofdeaaGreatDoorNWriteM
set_option linter.unusedVariables false
set_option linter.unusedSimpArgs false
namespace Go.Proofs.YteglimjonofdeaaGreatDoor
open Go.RowKit

def zB : List Value := bytesV z128
theorem alloc_blk (w : World) : (Instr.alloc 254 true (.tuple #[])).run Tryz.prog w = .ok (.pointer (some ⟨w.heap.size, 0, none⟩)) (w.alloc (.cells zB.toArray 254)) := by kernel_rfl
theorem build_blk (w : World) : (Instr.build 254 #[]).run Tryz.prog w = .ok (.agg zB.toArray) w := by kernel_rfl
theorem there_blk (w : World) : (w.alloc (.cells zB.toArray 254)).there w.heap.size 0 128 := by
  have h := there_new w zB.toArray 254
  rwa [show zB.toArray.size = 128 by decide +kernel] at h

set_option maxRecDepth 10000 in
set_option maxHeartbeats 400000 in
theorem vsize_any (p n : Nat) (w : World) : Calls Tryz.prog 165 #[.agg (volL p n).toArray] w fun e w' => e = .returned (.int .i64 n) ∧ Below w.heap.size w w' := by
  go_enter Tryz.func165, Tryz.ntmps165
  unfold volL devV
  go_wp2_with fail
  go_ret
  exact ⟨rfl, (Below.refl _ _).alloc (Nat.le_refl _) _⟩

set_option maxRecDepth 10000 in
set_option maxHeartbeats 400000 in
theorem vsettle_any (p bb n : Nat) (C : Nat → List Int) (cv : Value) (L : List (Nat × List Int)) (w : World) (hn : n ≤ 1000) (hL : L.length ≤ 100000) (h : DiskAt w p bb n C cv L) :
    Calls Tryz.prog 164 #[.agg (volL p n).toArray] w fun e w' => e = .returned (.tuple #[]) ∧ DiskAt w' p bb n (putAll C L) (.slice none 0 0) [] ∧ Kept (fun g => g = p ∨ g = bb) w w' := by
  have hm := m_flush (.pointer (some ⟨p, 0, none⟩))
  have hB : Below w.heap.size w (w.alloc (.cells (volL p n).toArray 222)) := (Below.refl _ _).alloc (Nat.le_refl _) _
  have hf := dflush_any p bb n C cv L _ hn hL (h.fresh hB)
  have HB : Hid (Below w.heap.size w (w.alloc (.cells (volL p n).toArray 222))) := hB
  clear hB h
  go_enter Tryz.func164, Tryz.ntmps164
  unfold volL devV at *
  go_wp2_with fail
  refine hf.mono ?_
  rintro e w1 ⟨rfl, hD, hk⟩
  clear hf
  go_wp2_with (go_at_call 176; refine (throw_nil _).mono ?_; rintro e w2 ⟨rfl, hw2⟩; obtain rfl : w1 = w2 := hw2.symm; clear hw2)
  go_end0
  exact ⟨rfl, hD, (Kept.fresh HB.out).trans hk (fun g _ h => h)⟩

set_option maxRecDepth 10000 in
set_option maxHeartbeats 1000000 in
theorem vblock_any (p bb n i : Nat) (C : Nat → List Int) (w : World) (hi : i < n) (hn : n ≤ 1000) (h : DiskAt w p bb n C (.slice none 0 0) []) :
    Calls Tryz.prog 175 #[.agg (volL p n).toArray, .int .i64 i] w fun e w' => e = .returned (.agg (bytesV (C i)).toArray) ∧ DiskAt w' p bb n C (.slice none 0 0) [] ∧ Kept (· = p) w w' := by
  have hm := m_read (.pointer (some ⟨p, 0, none⟩))
  have hB : Below w.heap.size w ((w.alloc (.cells (volL p n).toArray 222)).alloc (.cells zB.toArray 254)) := ((Below.refl _ _).alloc (Nat.le_refl _) _).alloc (by simp) _
  have hf := dread_any p bb n i C _ hi hn (h.fresh hB)
  have HB : Hid (Below w.heap.size w ((w.alloc (.cells (volL p n).toArray 222)).alloc (.cells zB.toArray 254))) := hB
  have hpl := h.lt.1
  have hcl : (C i).length = 128 := h.len i hi
  have hbl := h.lt.2
  have HT : Hid (((w.alloc (.cells (volL p n).toArray 222)).alloc (.cells zB.toArray 254)).there (w.heap.size + 1) 0 128) := by show World.there _ _ _ _; have := there_blk (w.alloc (.cells (volL p n).toArray 222)); simpa using this
  have hs0 : ((w.alloc (.cells (volL p n).toArray 222)).alloc (.cells zB.toArray 254)).heap.size = w.heap.size + 2 := by simp
  clear hB h
  go_enter Tryz.func175, Tryz.ntmps175
  unfold volL devV at *
  go_wp2_with (refine wpList_alloc_of rfl 254 rfl zB.toArray alloc_blk ?_)
  refine hf.mono ?_
  rintro e w1 ⟨g, rfl, hrg, hg0, hg1, hD, hk⟩
  clear hf
  rw [hs0] at hg0
  have hz1 := hk.size
  rw [hs0] at hz1
  have hk1 : Kept (· = p) w w1 := (Kept.fresh HB.out).trans hk (fun g _ h => h)
  have ht1 : w1.there (w.heap.size + 1) 0 128 := fun j hj => by
    have := HT.out j hj
    rw [hk.cell (a := ⟨w.heap.size + 1, 0 + j, none⟩) (by rw [hs0]; show w.heap.size + 1 < _; omega) (by show ¬ w.heap.size + 1 = p; omega), hk.frozen (a := ⟨w.heap.size + 1, 0 + j, none⟩) (by rw [hs0]; show w.heap.size + 1 < _; omega) (by show ¬ w.heap.size + 1 = p; omega)]
    exact this
  have hlen : (bytesV (C i)).length = 128 := by rw [bytesV_length, hcl]
  have hq := there_blk w1
  have hrun := run_copy_cells (P := Tryz.prog) (w1.alloc (.cells zB.toArray 254)) 85 85 3 5 w1.heap.size 0 128 128 ⟨g, 0, none⟩ 128 128 (bytesV (C i)) Tryz.underlying85 (by kernel_rfl) (by rw [hlen]; rfl) (fun j v hv => by rw [addr_add]; exact World.rangeAt_alloc hrg _ j v hv) (fun j hj => (hq j (by omega)).1) (fun j hj => (hq j (by omega)).2) (bytesV_one _)
  rw [hlen] at hrun
  have hr3 : ((w1.alloc (.cells zB.toArray 254)).setCells w1.heap.size 0 (bytesV (C i))).rangeAt w1.heap.size 0 (bytesV (C i)) := World.rangeAt_setCells_same _ _ _ _ (by rw [hlen]; exact hq)
  have hB3 : Below w1.heap.size w1 ((w1.alloc (.cells zB.toArray 254)).setCells w1.heap.size 0 (bytesV (C i))) := below_setCells (Nat.le_refl _) _ _ _ ((Below.refl _ _).alloc (Nat.le_refl _) _)
  have HD : Hid (DiskAt w1 p bb n C (.slice none 0 0) []) := hD
  clear hD hk hq hs0 hrg
  generalize (w1.alloc (.cells zB.toArray 254)).setCells w1.heap.size 0 (bytesV (C i)) = w3 at *
  have ht3 : w3.there (w.heap.size + 1) 0 (bytesV (C i)).length := by rw [hlen]; exact there_below hB3 (by omega) ht1
  have hin := info_dblk (C i) hcl
  have HIN : Hid ((Tryz.prog.info? 254).map (·.size) = some (bytesV (C i)).length) := hin
  clear hin hlen ht1
  obtain ⟨b, hbe⟩ : ∃ b, b = C i := ⟨_, rfl⟩
  have HBE : Hid (b = C i) := hbe
  rw [← hbe] at hr3 ht3 HIN hcl
  clear hbe
  go_wp2_with (first
    | (go_at_call 176; refine (throw_nil _).mono ?_; rintro e w2 ⟨rfl, hw2⟩; obtain rfl : w1 = w2 := hw2.symm; clear hw2)
    | (refine wpList_alloc_of rfl 254 rfl zB.toArray alloc_blk ?_)
    | (at_builtin; refine Lib.wpList_copy_run _ rfl _ _ 85 85 rfl _ _ rfl rfl hrun ?_)
    | (refine wpList_load_mid rfl 254 _ rfl w1.heap.size 0 rfl (bytesV b) _ hr3 Tryz.underlying254 rfl HIN.out ?_)
    | (refine wpList_store_abs rfl 254 _ _ rfl (w.heap.size + 1) 0 (bytesV b) rfl rfl ht3 HIN.out (bytesV_one b) ?_; intro w5 _hw5 hr5 _ht5 hb5; clear _hw5 _ht5))
  exact ret_cell rfl (w.heap.size + 1) 0 (bytesV b) _ rfl hr5 Tryz.underlying254 rfl HIN.out rfl ⟨by rw [HBE.out], (HD.out.fresh hB3).kept (Kept.below (S := (w.heap.size + 1 ≤ ·)) (hb5 _ (Nat.le_refl _)) (fun g h1 _ => h1)) (by omega) (by omega) (fun g hg => by cases hg), (hk1.trans (Kept.fresh (S := fun _ => False) hB3) (fun g _ h => h.elim)).trans (Kept.below (S := (w.heap.size + 1 ≤ ·)) (hb5 _ (Nat.le_refl _)) (fun g h1 _ => h1)) (fun g h1 h2 => by omega)⟩

/-- What laying a block leaves. -/
def layPost (w : World) (p bb n : Nat) (C : Nat → List Int) (cv : Value) (L : List (Nat × List Int)) (i : Nat) (b : List Int) (e : Ending) (w' : World) : Prop :=
  e = .returned (.tuple #[]) ∧ ∃ cv', DiskAt w' p bb n C cv' (L ++ [(i, b)]) ∧ (∀ g, cv'.ownBlock = some g → cv.ownBlock = some g ∨ w.heap.size ≤ g) ∧ Kept (fun g => g = p ∨ cv.ownBlock = some g) w w'
set_option maxRecDepth 10000 in
set_option maxHeartbeats 1000000 in
theorem vlay_any (p bb n i : Nat) (C : Nat → List Int) (cv : Value) (L : List (Nat × List Int)) (b : List Int) (w : World) (hi : i < n) (hn : n ≤ 1000) (hL : L.length ≤ 100000) (hb : b.length = 128) (h : DiskAt w p bb n C cv L) :
    Calls Tryz.prog 163 #[.agg (volL p n).toArray, .int .i64 i, .agg (bytesV b).toArray] w (layPost w p bb n C cv L i b) := by
  have hm := m_write (.pointer (some ⟨p, 0, none⟩))
  have hpl := h.lt.1
  have hB : Below w.heap.size w ((w.alloc (.cells (volL p n).toArray 222)).alloc (.cells (bytesV b).toArray 254)) := ((Below.refl _ _).alloc (Nat.le_refl _) _).alloc (by simp) _
  have hs0 : ((w.alloc (.cells (volL p n).toArray 222)).alloc (.cells (bytesV b).toArray 254)).heap.size = w.heap.size + 2 := by simp
  have hcvl := h.cache.lt
  have D1 := h.fresh hB
  have hB2 : Below w.heap.size w ((w.alloc (.cells (volL p n).toArray 222)).alloc (.cells (bytesV b).toArray 254)).drew := hB.drew
  have D2 : DiskAt ((w.alloc (.cells (volL p n).toArray 222)).alloc (.cells (bytesV b).toArray 254)).drew p bb n C cv L := D1.fresh (Below.refl _ _).drew
  have hrg : ((w.alloc (.cells (volL p n).toArray 222)).alloc (.cells (bytesV b).toArray 254)).drew.rangeAt (w.heap.size + 1) 0 (bytesV b) := by
    rw [World.rangeAt_drew]
    have := range_new (w.alloc (.cells (volL p n).toArray 222)) (bytesV b) 254
    simpa using this
  have hw := dwrite_any p bb n i C cv L b (w.heap.size + 1) _ hi hn hL hb D2 hrg (by omega) (by show w.heap.size + 1 < ((w.alloc (.cells (volL p n).toArray 222)).alloc (.cells (bytesV b).toArray 254)).heap.size; omega)
  have HB : Hid (Below w.heap.size w ((w.alloc (.cells (volL p n).toArray 222)).alloc (.cells (bytesV b).toArray 254)).drew) := hB2
  have HS : Hid (((w.alloc (.cells (volL p n).toArray 222)).alloc (.cells (bytesV b).toArray 254)).drew.heap.size = w.heap.size + 2) := hs0
  clear hB hB2 D1 D2 h hrg hs0
  go_enter Tryz.func163, Tryz.ntmps163
  unfold volL devV at *
  go_wp2_with fail
  have J0 : ((w.alloc (.cells [.iface 23 (.pointer (some ⟨p, 0, none⟩)), .int .i64 (n : Nat)].toArray 222)).alloc (.cells (bytesV b).toArray 254)).drew.cell? ⟨w.heap.size, 0, none⟩ = some (.iface 23 (.pointer (some ⟨p, 0, none⟩))) := by
    show ((w.alloc _).alloc _).cell? _ = _
    rw [World.cell?_alloc_past _ _ _ (by simp), World.cell?_alloc_at _ _ _ _ rfl]; rfl
  refine wp_region_noPanic ?_
  refine wp_region_held_drew (S := fun W => W.cell? ⟨w.heap.size, 0, none⟩ = some (.iface 23 (.pointer (some ⟨p, 0, none⟩)))) (by kernel_rfl) J0 (fun _ => ?_)
  refine tk 0 J0 ?_
  refine tq (i := 1) (v := ?_) rfl J0 ?_ ?_
  rotate_left 1
  · intro W hSW; have cW := hSW; clear hSW; go_simp; try with_reducible rfl
  simp only [qA, qB, qC, Act.put, qD, qE, qF]
  refine tk 2 J0 ?_
  refine tk 3 J0 ?_
  refine tk 4 J0 ?_
  refine tk 5 J0 ?_
  refine rk 6 (fun K' hK' => ?_)
  go_simp
  refine hw.mono ?_
  rintro e w1 ⟨rfl, cv', hD, hcv, hk⟩
  clear hw
  have J1 : w1.cell? ⟨w.heap.size, 0, none⟩ = some (.iface 23 (.pointer (some ⟨p, 0, none⟩))) := (hk.cell (a := ⟨w.heap.size, 0, none⟩) (by rw [HS.out]; show w.heap.size < _; omega) (by rintro (e | e); (have e' : w.heap.size = p := e; omega); (have := (hcvl w.heap.size e).2; omega))).trans J0
  refine hK'.out _ _ J1 (fun _ => ?_)
  clear hK' K'
  try simp only [qA, qB, qC, Act.put, qD, qE, qF]
  refine rk 7 (fun K' hK' => ?_)
  go_simp
  refine (throw_nil w1).mono ?_
  rintro e w2 ⟨rfl, hw2⟩
  obtain rfl : w1 = w2 := hw2.symm
  clear hw2
  refine hK'.out _ _ J1 (fun _ => ?_)
  clear hK' K'
  try simp only [qA, qB, qC, Act.put, qD, qE, qF]
  refine ⟨by kernel_rfl, ?_⟩
  refine NoPanic.normal ?_
  try simp only [qA, qB, qC, Act.put, qD, qE, qF]
  go_wp2_with fail
  go_end0
  refine ⟨rfl, cv', hD, fun g hg => ?_, (Kept.fresh HB.out).trans hk (fun g _ h => h)⟩
  rcases hcv g hg with e | e
  · exact Or.inl e
  · rw [HS.out] at e; right; omega
/-- The bytes of a record's block. -/
def packN (K : Nat → Int) (l rec : ByteArray) : List Int := (rec.size : Int) :: (numsOf rec ++ (List.replicate (18 - rec.size) 0 ++ ((numsOf (sumOf K (l ++ rec))).take 13 ++ List.replicate 96 0)))
theorem packN_len (K : Nat → Int) (l rec : ByteArray) (h : rec.size ≤ 18) : (packN K l rec).length = 128 := by
  unfold packN
  simp only [List.length_cons, List.length_append, List.length_replicate, List.length_take, numsOf_length, sumOf_size]
  omega
theorem zB_len : zB.length = 128 := by decide +kernel
theorem zB_get (j : Nat) (h : j < 128) : zB[j]? = some (.int .u8 0) := by
  unfold zB z128
  rw [bytesV, List.getElem?_map, List.getElem?_replicate, if_pos h]; rfl
theorem pack_row (rec : ByteArray) (h : rec.size ≤ 18) (T : List Int) (hT : 13 ≤ T.length) (L : List Int) (hL : L = (rec.size : Int) :: (numsOf rec ++ (List.replicate (18 - rec.size) 0 ++ (T.take 13 ++ List.replicate 96 0)))) :
    setR (setR (zB.toArray.setIfInBounds 0 (.int .u8 (rec.size : Int))) 1 (bytesV (numsOf rec))) 19 (bytesV (T.take 13)) = (bytesV L).toArray := by
  have e1 : ∀ (l : List Int), (bytesV l).length = l.length := bytesV_length
  have hn := numsOf_length rec
  have sz : ∀ (vs : List Value) (cur : Array Value) (o : Nat), (setR cur o vs).size = cur.size := by
    intro vs
    induction vs with
    | nil => intro cur o; rfl
    | cons v vs ih => intro cur o; rw [setR, ih, Array.size_setIfInBounds]
  have hz : zB.toArray.size = 128 := by rw [List.size_toArray, zB_len]
  apply Array.ext_getElem?
  intro j
  rw [setR_get, setR_get, sz, Array.size_setIfInBounds, hz, e1, e1, hn, List.length_take, Nat.min_eq_left hT]
  have eR : (bytesV L).toArray[j]? = (L[j]?).map (Value.int .u8) := by unfold bytesV; rw [List.getElem?_toArray, List.getElem?_map]
  rw [eR]
  unfold bytesV
  rw [List.getElem?_map, List.getElem?_map, hL]
  by_cases hj : j < 128
  · by_cases h0 : j = 0
    · subst h0
      rw [if_neg (by omega), if_neg (by omega), Array.getElem?_setIfInBounds_self_of_lt (by omega)]; rfl
    · obtain ⟨i, rfl⟩ : ∃ i, j = i + 1 := ⟨j - 1, by omega⟩
      rw [List.getElem?_cons_succ]
      by_cases h1 : i < rec.size
      · rw [if_neg (by omega), if_pos (by omega), List.getElem?_append_left (by omega), Nat.add_sub_cancel]
      · rw [List.getElem?_append_right (by omega), hn]
        by_cases h2 : i < 18
        · rw [if_neg (by omega), if_neg (by omega), List.getElem?_append_left (by rw [List.length_replicate]; omega), List.getElem?_replicate, if_pos (by omega), Array.getElem?_setIfInBounds_ne (by omega), List.getElem?_toArray, zB_get _ hj]; rfl
        · rw [List.getElem?_append_right (by rw [List.length_replicate]; omega), List.length_replicate]
          by_cases h3 : i < 31
          · rw [if_pos (by omega), List.getElem?_append_left (by rw [List.length_take]; omega), show i + 1 - 19 = i - rec.size - (18 - rec.size) by omega]
          · rw [if_neg (by omega), if_neg (by omega), List.getElem?_append_right (by rw [List.length_take]; omega), List.getElem?_replicate, if_pos (by rw [List.length_take]; omega), Array.getElem?_setIfInBounds_ne (by omega), List.getElem?_toArray, zB_get _ hj]; rfl
  · rw [if_neg (by omega), if_neg (by omega), Array.getElem?_eq_none (by rw [Array.size_setIfInBounds]; omega), List.getElem?_eq_none (by simp only [List.length_cons, List.length_append, List.length_replicate, List.length_take]; omega)]; rfl
theorem results_cell_cell {fn : Func} {p u : Tmp} {ty tu : TypeId} (h : fn.results = #[.cell p ty, .cell u tu]) (tmps : Array Value) (P : Program) (w : World) :
    (results fn tmps).run P w = ((asAddr (tmps.getD p undef)).run P w).andThen fun a w1 => ((loadVar ty a).run P w1).andThen fun v w2 => ((asAddr (tmps.getD u undef)).run P w2).andThen fun a' w3 => ((loadVar tu a').run P w3).andThen fun v' w4 => .ok (.tuple #[v, v']) w4 := by
  simp only [results, h]
  simp [Sem.run_bind, Result.andThen]
/-- Two results, both rows in memory. -/
theorem ret_cell_cell {P : Program} {fn : Func} {R : Ending → World → Prop} {a : Act} {w : World} {p u : Tmp} {ty tu : TypeId} (h : fn.results = #[.cell p ty, .cell u tu]) (b o b' o' : Nat) (cs cs' : List Value) (d d' : TypeDesc)
    (hp : a.tmps.getD p undef = .pointer (some ⟨b, o, none⟩)) (hu' : a.tmps.getD u undef = .pointer (some ⟨b', o', none⟩)) (hc : w.rangeAt b o cs) (hc' : w.rangeAt b' o' cs') (hu : P.underlying ty = some d) (hd : d.isRow = true) (hi : (P.info? ty).map (·.size) = some cs.length) (hu2 : P.underlying tu = some d') (hd2 : d'.isRow = true) (hi2 : (P.info? tu).map (·.size) = some cs'.length)
    (hdf : a.defers = []) (hR : R (.returned (.tuple #[.agg cs.toArray, .agg cs'.toArray])) w) : bodyPost P fn R .ret a w := by
  refine bodyPost_ret (v := .tuple #[.agg cs.toArray, .agg cs'.toArray]) ?_ hdf hR
  rw [results_cell_cell h, hp, hu']
  simp [asAddr, run_loadVar_mid w b o ty cs d hc hu hd hi, run_loadVar_mid w b' o' tu cs' d' hc' hu2 hd2 hi2]

theorem copy_rec (w3 : World) (rec : ByteArray) (hr : rec.size ≤ 18) : ∃ wC, (Builtin.copy_ #[85, 9] 3 #[.slice (some ⟨w3.heap.size, 1, none⟩) 18 127, .string rec]).run Tryz.prog (w3.alloc (.cells (zB.set 0 (.int .u8 (rec.size : Int))).toArray 254)) = .ok (goInt rec.size) wC ∧
    Hid (wC.heap[w3.heap.size]? = some (.cells (setR (zB.toArray.setIfInBounds 0 (.int .u8 (rec.size : Int))) 1 (bytesV (numsOf rec))) 254 (0, 0))) ∧ Below w3.heap.size w3 wC ∧ Hid (wC.heap.size = w3.heap.size + 1) ∧ wC.there w3.heap.size 0 128 := by
  have erec : (rec.data.toList.map fun x => Value.int .u8 (x.toNat : Int)) = bytesV (numsOf rec) := by unfold bytesV numsOf; rw [List.map_map]; rfl
  have htB : (w3.alloc (.cells (zB.set 0 (.int .u8 (rec.size : Int))).toArray 254)).there w3.heap.size 0 128 := by
    have := there_new w3 (zB.set 0 (.int .u8 (rec.size : Int))).toArray 254
    have e : (zB.set 0 (.int .u8 (rec.size : Int))).toArray.size = 128 := by rw [List.size_toArray]; simp [zB_len]
    rwa [e] at this
  have hrun := run_copy_string (P := Tryz.prog) (w3.alloc (.cells (zB.set 0 (.int .u8 (rec.size : Int))).toArray 254)) 85 9 3 5 w3.heap.size 1 18 127 rec Tryz.underlying85 size_byte hr (fun j hj => by have := (htB (1 + j) (by omega)).1; rwa [Nat.zero_add] at this) (fun j hj => by have := (htB (1 + j) (by omega)).2; rwa [Nat.zero_add] at this)
  rw [erec] at hrun
  refine ⟨_, hrun, ?_, below_setCells (Nat.le_refl _) _ _ _ ((Below.refl _ _).alloc (Nat.le_refl _) _), ?_, World.there_setCells htB _ _ _⟩
  · show _ = _
    rw [heap_setCells _ _ _ _ _ _ (heap_alloc_new w3 _), List.setIfInBounds_toArray]
  · show _ = _
    rw [size_setCells]; simp
def packPost (K : Nat → Int) (l rec : ByteArray) (w : World) (e : Ending) (w' : World) : Prop :=
  e = .returned (.tuple #[.agg (bytesV (packN K l rec)).toArray, .agg (hV (sumOf K (l ++ rec))).toArray]) ∧ Below w.heap.size w w'
set_option maxRecDepth 10000 in
set_option maxHeartbeats 1000000 in
theorem pack_any (K : Nat → Int) (l rec : ByteArray) (w : World) (hl : l.size = 32) (hr : rec.size ≤ 18) (T : Tab K w) :
    Calls Tryz.prog 161 #[.agg (hV l).toArray, .string rec] w (packPost K l rec w) := by
  obtain ⟨W0, hW0⟩ : ∃ W0, W0 = ((w.alloc (.cells (hV l).toArray 104)).alloc (.cells zB.toArray 254)).alloc (.cells z32.toArray 104) := ⟨_, rfl⟩
  have hs0 : W0.heap.size = w.heap.size + 3 := by rw [hW0]; simp
  have hB0 : Below w.heap.size w W0 := by rw [hW0]; exact (((Below.refl _ _).alloc (Nat.le_refl _) _).alloc (by simp) _).alloc (by simp; omega) _
  have hr0 : W0.rangeAt w.heap.size 0 (hV l) := by rw [hW0]; exact World.rangeAt_alloc (World.rangeAt_alloc (range_new _ _ _) _) _
  have ht1 : W0.there (w.heap.size + 1) 0 128 := by
    rw [hW0]; have := World.there_alloc (there_blk (w.alloc (.cells (hV l).toArray 104))) (.cells z32.toArray 104); simpa using this
  have ht2 : W0.there (w.heap.size + 1 + 1) 0 32 := by
    rw [hW0]; have := there_z32 ((w.alloc (.cells (hV l).toArray 104)).alloc (.cells zB.toArray 254)); simpa using this
  have htx := htx_any l hl W0
  have HIL : Hid ((Tryz.prog.info? 104).map (·.size) = some (hV l).length) := hV_info hl
  have HT0 : Hid (Tab K W0) := T.below hB0
  clear T
  obtain ⟨N, hN⟩ : ∃ N, N = sumOf K (l ++ rec) := ⟨_, rfl⟩
  have hN32 : N.size = 32 := by rw [hN]; exact sumOf_size K _
  have HN : Hid (N = sumOf K (l ++ rec)) := hN
  have HIN : Hid ((Tryz.prog.info? 104).map (·.size) = some (hV N).length) := hV_info hN32
  go_enter Tryz.func161, Tryz.ntmps161
  go_wp2_with (first
    | (refine wpList_alloc_of rfl 254 rfl zB.toArray alloc_blk ?_)
    | (refine wpList_alloc_of rfl 104 rfl z32.toArray alloc_32 ?_; rw [← hW0])
    | (refine wpList_load_mid rfl 104 _ rfl w.heap.size 0 rfl (hV l) _ hr0 Tryz.underlying104 rfl HIL.out ?_))
  rw [← hW0]
  refine htx.mono ?_
  rintro e w1 ⟨rfl, hb1⟩
  have HB1 : Hid (Below w.heap.size w w1) := hB0.trans (hb1.mono hB0.size)
  have HS1 : Hid (w.heap.size + 3 ≤ w1.heap.size) := by have := hb1.size; rw [hs0] at this; exact this
  have HR1 : Hid (w1.there (w.heap.size + 1) 0 128 ∧ w1.there (w.heap.size + 1 + 1) 0 32) := ⟨there_below hb1 (by omega) ht1, there_below hb1 (by omega) ht2⟩
  have HT1 : Hid (Tab K w1) := HT0.out.below hb1
  have T1 : Tab K (w1.alloc (.cells #[.string l, .string rec] 9)) := HT1.out.below ((Below.refl _ _).alloc (Nat.le_refl _) _)
  have hof := of_any [l, rec] w1.heap.size 2 K (w1.alloc (.cells #[.string l, .string rec] 9)) (by simp) (by simp)
    (by simp [joinN, numsOf_length]; omega)
    (fun j hj => by
      rw [World.cell?_alloc_at _ _ _ _ rfl]
      have hj2 : j < 2 := hj
      obtain rfl | rfl : j = 0 ∨ j = 1 := by omega
      all_goals rfl) T1.lt T1.cells
  rw [hV_sum K (joinN [l, rec]) (l ++ rec) (by rw [nums_app]; simp [joinN]), ← hN, show [l, rec].length = 2 from rfl] at hof
  clear hW0 hs0 hB0 hr0 ht1 ht2 htx HT0 hb1 T1 hN
  go_wp2_with fail
  refine hof.mono ?_
  rintro e w2 ⟨rfl, hb2⟩
  clear hof
  have hb2' : Below w1.heap.size w1 w2 := ((Below.refl _ _).alloc (Nat.le_refl _) _).trans (hb2.mono (by simp))
  have HB2 : Hid (Below w.heap.size w w2) := HB1.out.trans (hb2'.mono (by have := HS1.out; omega))
  have HS2 : Hid (w.heap.size + 3 ≤ w2.heap.size) := by have := hb2'.size; have := HS1.out; show _ ≤ _; omega
  have HR2 : Hid (w2.there (w.heap.size + 1) 0 128 ∧ w2.there (w.heap.size + 1 + 1) 0 32) := ⟨there_below hb2' (by have := HS1.out; omega) HR1.out.1, there_below hb2' (by have := HS1.out; omega) HR1.out.2⟩
  have htq : (w2.alloc (.cells z32.toArray 104)).there w2.heap.size 0 (hV N).length := by rw [hV_len hN32]; exact there_z32 w2
  clear HB1 HS1 HR1 hb2 hb2'
  go_wp2_with (first
    | (refine wpList_alloc_of rfl 254 rfl zB.toArray alloc_blk ?_)
    | (refine wpList_alloc_of rfl 104 rfl z32.toArray alloc_32 ?_)
    | (at_builtin; refine Lib.wpList_copy_run _ rfl _ _ 85 9 rfl _ _ rfl rfl hrun ?_)
    | (refine wpList_store_abs rfl 104 _ _ rfl w2.heap.size 0 (hV N) rfl rfl htq HIN.out (hV_one N) ?_
       intro w3 hw3 hr3 ht3 hb3
       have HS3 : Hid (w3.heap.size = w2.heap.size + 1) := (by show _ = _; rw [hw3, size_setCells]; simp)
       clear hw3
       have hB3 : Below w2.heap.size w2 w3 := ((Below.refl _ _).alloc (Nat.le_refl _) _).trans (hb3 _ (Nat.le_refl _))
       have cA : (w3.alloc (.cells zB.toArray 254)).cell? ⟨w3.heap.size, 0, none⟩ = some (.int .u8 0) := (by rw [World.cell?_alloc_at _ _ _ _ rfl, List.getElem?_toArray, zB_get 0 (by omega)])
       have fA : (w3.alloc (.cells zB.toArray 254)).frozen? ⟨w3.heap.size, 0, none⟩ = false := (by rw [World.frozen?_alloc_at _ _ _ _ rfl])
       obtain ⟨wC, hrun, HhC, hBC, HSC, htC⟩ := copy_rec w3 rec hr))
  have hr6 : wC.drew.rangeAt w2.heap.size 0 (hV N) := by
    rw [World.rangeAt_drew]
    exact fun j v hv => (hBC.cell (p := ⟨w2.heap.size, 0 + j, none⟩) (by show w2.heap.size < w3.heap.size; rw [HS3.out]; omega)).trans (hr3 j v hv)
  have etk : (hV N).take 13 = bytesV ((numsOf N).take 13) := by unfold hV bytesV; rw [List.map_take]
  have hlt : (bytesV ((numsOf N).take 13)).length = 13 := by rw [bytesV_length, List.length_take, numsOf_length, hN32]; rfl
  have hrun2 := run_copy_cells (P := Tryz.prog) wC.drew 85 85 3 5 w3.heap.size 19 13 109 ⟨w2.heap.size, 0, none⟩ 32 32 (bytesV ((numsOf N).take 13)) Tryz.underlying85 (by kernel_rfl) (by rw [hlt]; rfl) (fun j v hv => by rw [addr_add]; rw [← etk] at hv; exact hr6 j v (by rw [List.getElem?_take] at hv; split at hv; exact hv; cases hv)) (fun j hj => by have := (htC (19 + j) (by omega)).1; rw [Nat.zero_add] at this; exact this) (fun j hj => by have := (htC (19 + j) (by omega)).2; rw [Nat.zero_add] at this; exact this) (bytesV_one _)
  rw [hlt] at hrun2
  obtain ⟨pk, hpk⟩ : ∃ pk, pk = packN K l rec := ⟨_, rfl⟩
  have HPK : Hid (pk = packN K l rec) := hpk
  have hpl : pk.length = 128 := by rw [hpk]; exact packN_len K l rec hr
  have hhD : (wC.drew.setCells w3.heap.size 19 (bytesV ((numsOf N).take 13))).heap[w3.heap.size]? = some (.cells (bytesV pk).toArray 254 (0, 0)) := by
    rw [heap_setCells _ _ _ _ _ _ (show wC.drew.heap[w3.heap.size]? = _ from HhC.out), pack_row rec hr (numsOf N) (by rw [numsOf_length, hN32]; omega) pk (by rw [hpk, HN.out]; rfl)]
  have hr7 : (wC.drew.setCells w3.heap.size 19 (bytesV ((numsOf N).take 13))).rangeAt w3.heap.size 0 (bytesV pk) := fun j v hv => by rw [cell_of_row _ _ _ _ _ _ hhD, List.getElem?_toArray, Nat.zero_add]; exact hv
  have hr6' : (wC.drew.setCells w3.heap.size 19 (bytesV ((numsOf N).take 13))).rangeAt w2.heap.size 0 (hV N) := World.rangeAt_setCells_apart hr6 _ _ _ (Or.inl (by rw [HS3.out]; omega))
  have hBD : Below w.heap.size w (wC.drew.setCells w3.heap.size 19 (bytesV ((numsOf N).take 13))) := below_setCells (by have := HS2.out; rw [HS3.out]; omega) _ _ _ ((HB2.out.trans (hB3.mono (by have := HS2.out; omega))).trans (hBC.mono (by have := HS2.out; rw [HS3.out]; omega))).drew
  have ht3' : ∀ q m, q < w2.heap.size → w2.there q 0 m → (wC.drew.setCells w3.heap.size 19 (bytesV ((numsOf N).take 13))).there q 0 m := fun q m hq hm => World.there_setCells (show wC.drew.there q 0 m from there_below (B := w3.heap.size) hBC.drew (by rw [HS3.out]; omega) (there_below hB3 hq hm)) _ _ _
  have HD1 : Hid ((wC.drew.setCells w3.heap.size 19 (bytesV ((numsOf N).take 13))).there (w.heap.size + 1) 0 128) := ht3' _ _ (by have := HS2.out; omega) HR2.out.1
  have HD2 : Hid ((wC.drew.setCells w3.heap.size 19 (bytesV ((numsOf N).take 13))).there (w.heap.size + 1 + 1) 0 32) := ht3' _ _ (by have := HS2.out; omega) HR2.out.2
  clear hpk hhD ht3' etk hr6
  refine wp_region_noPanic ?_
  refine wp_region_held_drew (S := fun _ => True) (by kernel_rfl) trivial (fun _ => ?_)
  refine tk 0 trivial ?_
  refine tk 1 trivial ?_
  refine rk 2 (fun K' hK' => ?_)
  refine Lib.wp_copy_run _ (.tmp 20) (.tmp 21) 85 85 rfl _ _ rfl rfl hrun2 ?_
  clear hrun2
  refine hK'.out _ _ trivial (fun _ => ?_)
  clear hK' K'
  try simp only [qA, qB, qC, Act.put, qD, qE, qF]
  refine ⟨by kernel_rfl, ?_⟩
  refine NoPanic.normal ?_
  try simp only [qA, qB, qC, Act.put, qD, qE, qF]
  generalize wC.drew.setCells w3.heap.size 19 (bytesV ((numsOf N).take 13)) = wD at *
  have hq7 : w.heap.size + 1 ≠ w3.heap.size := by have := HS2.out; rw [HS3.out]; omega
  have hq7' : w.heap.size + 1 + 1 ≠ w3.heap.size := by have := HS2.out; rw [HS3.out]; omega
  have hq6 : w.heap.size + 1 ≠ w2.heap.size := by have := HS2.out; omega
  have hq6' : w.heap.size + 1 + 1 ≠ w2.heap.size := by have := HS2.out; omega
  have HIB : Hid ((Tryz.prog.info? 254).map (·.size) = some (bytesV pk).length) := info_dblk pk hpl
  have J0 : wD.drew.rangeAt w3.heap.size 0 (bytesV pk) ∧ wD.drew.rangeAt w2.heap.size 0 (hV N) := ⟨by rw [World.rangeAt_drew]; exact hr7, by rw [World.rangeAt_drew]; exact hr6'⟩
  have HBD : Hid (Below w.heap.size w wD) := hBD
  clear hr7 hr6' hlt hrun hr3 ht3 hb3 hB3 cA fA hBC htC htq hBD
  go_wp2_with fail
  refine wp_region_noPanic ?_
  refine wp_region_held_drew (S := fun W => W.rangeAt w3.heap.size 0 (bytesV pk) ∧ W.rangeAt w2.heap.size 0 (hV N)) (by kernel_rfl) J0 (fun _ => ?_)
  refine wpAnyH_take (i := 0) (v := .agg (bytesV pk).toArray) rfl (by kernel_rfl) (by kernel_rfl) (by kernel_rfl) (fun _ _ _ h => h) (yieldsIf_load_mid (by rfl) 254 _ rfl w3.heap.size 0 rfl (bytesV pk) _ (fun W hW => hW.1) Tryz.underlying254 rfl HIB.out) J0 ?_
  simp only [qA, qB, qC, Act.put, qD, qE, qF]
  refine wpAnyH_take (i := 1) (v := .agg (hV N).toArray) rfl (by kernel_rfl) (by kernel_rfl) (by kernel_rfl) (fun _ _ _ h => h) (yieldsIf_load_mid (by rfl) 104 _ rfl w2.heap.size 0 rfl (hV N) _ (fun W hW => hW.2) Tryz.underlying104 rfl HIN.out) J0 ?_
  simp only [qA, qB, qC, Act.put, qD, qE, qF]
  have e128 : (bytesV pk).toArray.size = 128 := by rw [List.size_toArray, bytesV_length, hpl]
  have e32 : (hV N).toArray.size = 32 := by rw [List.size_toArray, hV_len hN32]
  have T4a : wD.drew.there (w.heap.size + 1) 0 128 := HD1.out
  have T5a : wD.drew.there (w.heap.size + 1 + 1) 0 32 := HD2.out
  have T5b : (wD.drew.setCells (w.heap.size + 1) 0 (bytesV pk)).there (w.heap.size + 1 + 1) 0 32 := World.there_setCells T5a _ _ _
  have J4 : (wD.drew.setCells (w.heap.size + 1) 0 (bytesV pk)).rangeAt w3.heap.size 0 (bytesV pk) ∧ (wD.drew.setCells (w.heap.size + 1) 0 (bytesV pk)).rangeAt w2.heap.size 0 (hV N) := ⟨World.rangeAt_setCells_apart J0.1 _ _ _ (Or.inl hq7.symm), World.rangeAt_setCells_apart J0.2 _ _ _ (Or.inl hq6.symm)⟩
  have J45 : ((wD.drew.setCells (w.heap.size + 1) 0 (bytesV pk)).setCells (w.heap.size + 1 + 1) 0 (hV N)).rangeAt w3.heap.size 0 (bytesV pk) ∧ ((wD.drew.setCells (w.heap.size + 1) 0 (bytesV pk)).setCells (w.heap.size + 1 + 1) 0 (hV N)).rangeAt w2.heap.size 0 (hV N) := ⟨World.rangeAt_setCells_apart J4.1 _ _ _ (Or.inl hq7'.symm), World.rangeAt_setCells_apart J4.2 _ _ _ (Or.inl hq6'.symm)⟩
  have R4 : (wD.drew.setCells (w.heap.size + 1) 0 (bytesV pk)).rangeAt (w.heap.size + 1) 0 (bytesV pk) := World.rangeAt_setCells_same _ _ _ _ (by rw [bytesV_length, hpl]; exact T4a)
  refine wpAnyH_ready (rs := [2]) (by kernel_rfl) (by simp) ?_
  refine AllReadyH.cons rfl (fun K' hK' => ?_) AllReadyH.nil
  · rw [if_pos (by rfl)]
    refine wp_store_mid 254 _ _ rfl (w.heap.size + 1) 0 (bytesV pk).toArray rfl rfl (by rw [e128]; exact T4a) (by rw [List.size_toArray]; exact HIB.out) (all_oneCell_toArray (bytesV_one pk)) ?_
    rw [List.toList_toArray]
    refine hK'.out _ _ J4 (fun _ => ?_)
    clear hK' K'
    try simp only [qA, qB, qC, Act.put, qD, qE, qF]
    refine rk 3 (fun K' hK' => ?_)
    refine wp_store_mid 104 _ _ rfl (w.heap.size + 1 + 1) 0 (hV N).toArray rfl rfl (by rw [e32]; exact T5b) (by rw [List.size_toArray]; exact HIN.out) (all_oneCell_toArray (hV_one N)) ?_
    rw [List.toList_toArray]
    refine hK'.out _ _ J45 (fun _ => ?_)
    clear hK' K'
    try simp only [qA, qB, qC, Act.put, qD, qE, qF]
    refine ⟨by kernel_rfl, ?_⟩
    refine NoPanic.normal ?_
    try simp only [qA, qB, qC, Act.put, qD, qE, qF]
    go_wp2_with fail
    exact ret_cell_cell rfl (w.heap.size + 1) 0 (w.heap.size + 1 + 1) 0 (bytesV pk) (hV N) _ _ rfl rfl (World.rangeAt_setCells_apart R4 _ _ _ (Or.inl (by omega))) (World.rangeAt_setCells_same _ _ _ _ (by rw [hV_len hN32]; exact T5b)) Tryz.underlying254 rfl HIB.out Tryz.underlying104 rfl HIN.out rfl ⟨by rw [HPK.out, HN.out], below_setCells (by omega) _ _ _ (below_setCells (by omega) _ _ _ HBD.out.drew)⟩
theorem alloc_s32 (w : World) : (Instr.alloc 103 true (.tuple #[])).run Tryz.prog w = .ok (.pointer (some ⟨w.heap.size, 0, none⟩)) (w.alloc (.cells z32.toArray 103)) := by kernel_rfl
theorem build_h32 (w : World) : (Instr.build 104 #[]).run Tryz.prog w = .ok (.agg z32.toArray) w := by kernel_rfl
theorem arr_at (q : Nat) (w : World) : (Instr.arrayAt 103 (.slice (some ⟨q, 0, none⟩) 32 128)).run Tryz.prog w = .ok (.pointer (some ⟨q, 0, none⟩)) w := by kernel_rfl
theorem info_s32 (s : List Int) (h : s.length = 32) : (Tryz.prog.info? 103).map (·.size) = some (bytesV s).length := by rw [bytesV_length, h]; kernel_rfl
theorem sec_eq (a b : List Int) (ha : a.length = 32) (hb : b.length = 32) (ra : ∀ x ∈ a, 0 ≤ x ∧ x < 256) (rb : ∀ x ∈ b, 0 ≤ x ∧ x < 256) (w : World) : (Op.equalIn 10000 103 (.agg (bytesV a).toArray) (.agg (bytesV b).toArray)).run Tryz.prog w = .ok (decide (a = b)) w := by
  have sa : (strOfNums a).data.toList.length = 32 := by rw [← Lib.size_eq, strOfNums_size, ha]
  have sb : (strOfNums b).data.toList.length = 32 := by rw [← Lib.size_eq, strOfNums_size, hb]
  have := run_equalIn_bytes (P := Tryz.prog) w 9998 103 5 32 Tryz.underlying103 Tryz.underlying5 size_byte (strOfNums a).data.toList (strOfNums b).data.toList sa sb
  have e : ∀ t : ByteArray, (t.data.toList.map Extern.Stop.cell) = bytesV (numsOf t) := fun t => by unfold bytesV numsOf; rw [List.map_map]; rfl
  rw [e, e, nums_str a ra, nums_str b rb] at this
  have e2 : ((strOfNums a).data.toList == (strOfNums b).data.toList) = decide (a = b) := by
    rw [Bool.eq_iff_iff]
    simp only [beq_iff_eq, decide_eq_true_eq]
    constructor
    · intro h
      have h2 : strOfNums a = strOfNums b := ByteArray.ext (Array.toList_inj.1 h)
      rw [← nums_str a ra, h2, nums_str b rb]
    · rintro rfl; rfl
  rw [e2] at this
  exact this

set_option maxRecDepth 10000 in
set_option maxHeartbeats 400000 in
theorem sector_any (b : List Int) (hb : b.length = 128) (w : World) : Calls Tryz.prog 186 #[.agg (bytesV b).toArray] w fun e w' => e = .returned (.agg (bytesV (b.take 32)).toArray) ∧ Below w.heap.size w w' := by
  have hl : (b.take 32).length = 32 := by rw [List.length_take, hb]; rfl
  have hB : Below w.heap.size w ((w.alloc (.cells (bytesV b).toArray 254)).alloc (.cells z32.toArray 103)) := ((Below.refl _ _).alloc (Nat.le_refl _) _).alloc (by simp) _
  have hr : ((w.alloc (.cells (bytesV b).toArray 254)).alloc (.cells z32.toArray 103)).rangeAt w.heap.size 0 (bytesV (b.take 32)) := fun j v hv => by
    refine World.rangeAt_alloc (range_new w (bytesV b) 254) _ j v ?_
    unfold bytesV at hv ⊢
    rw [List.getElem?_map, List.getElem?_take] at hv
    split at hv
    · rw [List.getElem?_map]; exact hv
    · cases hv
  have ht : ((w.alloc (.cells (bytesV b).toArray 254)).alloc (.cells z32.toArray 103)).there (w.heap.size + 1) 0 (bytesV (b.take 32)).length := by
    rw [bytesV_length, hl]
    have h := there_new (w.alloc (.cells (bytesV b).toArray 254)) z32.toArray 103
    have e : z32.toArray.size = 32 := by decide +kernel
    rw [e] at h
    simpa using h
  have HI : Hid ((Tryz.prog.info? 103).map (·.size) = some (bytesV (b.take 32)).length) := info_s32 _ hl
  obtain ⟨s, hs⟩ : ∃ s, s = b.take 32 := ⟨_, rfl⟩
  have HS : Hid (s = b.take 32) := hs
  rw [← hs] at hr ht HI
  clear hs hl
  have haa := arr_at w.heap.size
  go_enter Tryz.func186, Tryz.ntmps186
  go_wp2_with (first
    | (refine wpList_alloc_of rfl 103 rfl z32.toArray alloc_s32 ?_)
    | (refine wpList_load_mid rfl 103 _ rfl w.heap.size 0 rfl (bytesV s) _ hr Tryz.underlying103 rfl HI.out ?_)
    | (refine wpList_store_abs rfl 103 _ _ rfl (w.heap.size + 1) 0 (bytesV s) rfl rfl ht HI.out (bytesV_one s) ?_; intro w2 _hw2 hr2 _ht2 hb2; clear _hw2 _ht2))
  exact ret_cell rfl (w.heap.size + 1) 0 (bytesV s) _ rfl hr2 Tryz.underlying103 rfl HI.out rfl ⟨by rw [HS.out], hB.trans (hb2 _ (by omega))⟩

theorem results_tmp_cell_tmp {fn : Func} {p u v : Tmp} {ty : TypeId} (h : fn.results = #[.tmp p, .cell u ty, .tmp v]) (tmps : Array Value) (P : Program) (w : World) :
    (results fn tmps).run P w = ((asAddr (tmps.getD u undef)).run P w).andThen fun a w1 => ((loadVar ty a).run P w1).andThen fun x w2 => .ok (.tuple #[tmps.getD p undef, x, tmps.getD v undef]) w2 := by
  simp only [results, h]
  simp [Sem.run_bind, Result.andThen]
/-- Three results, the second a row in memory. -/
theorem ret_tmp_cell_tmp {P : Program} {fn : Func} {R : Ending → World → Prop} {a : Act} {w : World} {p u v : Tmp} {ty : TypeId} (h : fn.results = #[.tmp p, .cell u ty, .tmp v]) (x y : Value) (b o : Nat) (cs : List Value) (d : TypeDesc)
    (hp : a.tmps.getD p undef = x) (hv : a.tmps.getD v undef = y) (hu' : a.tmps.getD u undef = .pointer (some ⟨b, o, none⟩)) (hc : w.rangeAt b o cs) (hu : P.underlying ty = some d) (hd : d.isRow = true) (hi : (P.info? ty).map (·.size) = some cs.length)
    (hdf : a.defers = []) (hR : R (.returned (.tuple #[x, .agg cs.toArray, y])) w) : bodyPost P fn R .ret a w := by
  refine bodyPost_ret (v := .tuple #[x, .agg cs.toArray, y]) ?_ hdf hR
  rw [results_tmp_cell_tmp h, hp, hu', hv]
  simp [asAddr, run_loadVar_mid w b o ty cs d hc hu hd hi]
theorem info_z32 : (Tryz.prog.info? 104).map (·.size) = some z32.length := by rw [show z32.length = 32 by decide +kernel]; exact info_hash
theorem z32_one : ∀ u ∈ z32, u.oneCell' = true := bytesV_one _

theorem slice_rec (q n : Nat) (hn : n ≤ 18) (w : World) : (Instr.sliceAt 254 (.pointer (some ⟨q, 0, none⟩)) (some (.int .i64 1)) (some (.int .i64 (1 + (n : Int)))) none).run Tryz.prog w = .ok (.slice (some ⟨q, 1, none⟩) n 127) w := by
  obtain rfl | rfl | rfl | rfl | rfl | rfl | rfl | rfl | rfl | rfl | rfl | rfl | rfl | rfl | rfl | rfl | rfl | rfl | rfl : n = 0 ∨ n = 1 ∨ n = 2 ∨ n = 3 ∨ n = 4 ∨ n = 5 ∨ n = 6 ∨ n = 7 ∨ n = 8 ∨ n = 9 ∨ n = 10 ∨ n = 11 ∨ n = 12 ∨ n = 13 ∨ n = 14 ∨ n = 15 ∨ n = 16 ∨ n = 17 ∨ n = 18 := by omega
  all_goals kernel_rfl
/-- What a block's record is, if it stands behind a link. -/
def unpackV (K : Nat → Int) (l rec : ByteArray) (ok : Bool) : Value :=
  if ok then .tuple #[.string rec, .agg (hV (sumOf K (l ++ rec))).toArray, .bool true] else .tuple #[.string ⟨#[]⟩, .agg z32.toArray, .bool false]

set_option maxRecDepth 10000 in
set_option maxHeartbeats 1000000 in
theorem unpack_any (K : Nat → Int) (l rec : ByteArray) (b : List Int) (w : World) (hl : l.size = 32) (hr : rec.size ≤ 18) (hb : b.length = 128) (hbr : ∀ x ∈ b, 0 ≤ x ∧ x < 256) (hb0 : b[0]? = some (rec.size : Int)) (hbs : (b.drop 1).take rec.size = numsOf rec) (T : Tab K w) :
    Calls Tryz.prog 180 #[.agg (hV l).toArray, .agg (bytesV b).toArray] w fun e w' => e = .returned (unpackV K l rec (decide (b.take 32 = (packN K l rec).take 32))) ∧ Below w.heap.size w w' := by
  obtain ⟨W0, hW0⟩ : ∃ W0, W0 = ((w.alloc (.cells (hV l).toArray 104)).alloc (.cells (bytesV b).toArray 254)).alloc (.cells z32.toArray 104) := ⟨_, rfl⟩
  have hs0 : W0.heap.size = w.heap.size + 3 := by rw [hW0]; simp
  have hB0 : Below w.heap.size w W0 := by rw [hW0]; exact (((Below.refl _ _).alloc (Nat.le_refl _) _).alloc (by simp) _).alloc (by simp; omega) _
  have hr0 : W0.rangeAt w.heap.size 0 (hV l) := by rw [hW0]; exact World.rangeAt_alloc (World.rangeAt_alloc (range_new _ _ _) _) _
  have hr1 : W0.rangeAt (w.heap.size + 1) 0 (bytesV b) := by
    rw [hW0]; have := World.rangeAt_alloc (range_new (w.alloc (.cells (hV l).toArray 104)) (bytesV b) 254) (.cells z32.toArray 104); simpa using this
  have ht2 : W0.there (w.heap.size + 1 + 1) 0 32 := by
    rw [hW0]; have := there_z32 ((w.alloc (.cells (hV l).toArray 104)).alloc (.cells (bytesV b).toArray 254)); simpa using this
  have c0 : W0.cell? ⟨w.heap.size + 1, 0, none⟩ = some (.int .u8 (rec.size : Int)) := by
    have := hr1 0 (.int .u8 (rec.size : Int)) (by unfold bytesV; rw [List.getElem?_map, hb0]; rfl)
    rwa [Nat.zero_add] at this
  have hcv : (convert 85 9 (.slice (some ⟨w.heap.size + 1, 1, none⟩) rec.size 127)).run Tryz.prog W0 = .ok (.string rec) W0 := by
    have := run_convert_bytes_arg (P := Tryz.prog) W0 85 5 Tryz.underlying85 Tryz.underlying5 (w.heap.size + 1) 1 rec.size 127 (numsOf rec) (by rw [numsOf_length]) (fun i hi => by
      have h2 : b[1 + i]? = some ((numsOf rec).getD i 0) := by
        have h3 : ((b.drop 1).take rec.size)[i]? = (numsOf rec)[i]? := by rw [hbs]
        rw [List.getElem?_take_of_lt hi, List.getElem?_drop] at h3
        rw [h3, List.getD_eq_getElem?_getD, List.getElem?_eq_getElem (by rw [numsOf_length]; exact hi)]; rfl
      have := hr1 (1 + i) (.int .u8 ((numsOf rec).getD i 0)) (by unfold bytesV; rw [List.getElem?_map, h2]; rfl)
      rwa [Nat.zero_add] at this) 9 Tryz.underlying9
    rw [str_nums] at this
    exact this
  have hpk := pack_any K l rec W0 hl hr (T.below hB0)
  have HW0 : Hid (Tab K W0) := T.below hB0
  clear T
  obtain ⟨N, hN⟩ : ∃ N, N = sumOf K (l ++ rec) := ⟨_, rfl⟩
  have hN32 : N.size = 32 := by rw [hN]; exact sumOf_size K _
  have HN : Hid (N = sumOf K (l ++ rec)) := hN
  obtain ⟨pk, hpe⟩ : ∃ pk, pk = packN K l rec := ⟨_, rfl⟩
  have hpl : pk.length = 128 := by rw [hpe]; exact packN_len K l rec hr
  have HPE : Hid (pk = packN K l rec) := hpe
  have hpr : ∀ x ∈ pk, 0 ≤ x ∧ x < 256 := by
    rw [hpe]; unfold packN
    intro x hx
    simp only [List.mem_cons, List.mem_append] at hx
    rcases hx with rfl | hx | hx | hx | hx
    · omega
    · exact nums_range _ x hx
    · rw [List.eq_of_mem_replicate hx]; omega
    · exact nums_range _ x (List.mem_of_mem_take hx)
    · rw [List.eq_of_mem_replicate hx]; omega
  have hpk' : Calls Tryz.prog 161 #[.agg (hV l).toArray, .string rec] W0 fun e w' => e = .returned (.tuple #[.agg (bytesV pk).toArray, .agg (hV N).toArray]) ∧ Below W0.heap.size W0 w' := hpk.mono (fun e w' ⟨h1, h2⟩ => ⟨by rw [h1, hpe, hN], h2⟩)
  clear hpk
  have HIL : Hid ((Tryz.prog.info? 104).map (·.size) = some (hV l).length) := hV_info hl
  have HIN : Hid ((Tryz.prog.info? 104).map (·.size) = some (hV N).length) := hV_info hN32
  have HIB : Hid ((Tryz.prog.info? 254).map (·.size) = some (bytesV b).length) := info_dblk b hb
  have HIP : Hid ((Tryz.prog.info? 254).map (·.size) = some (bytesV pk).length) := info_dblk pk hpl
  have heq := sec_eq (b.take 32) (pk.take 32) (by rw [List.length_take, hb]; rfl) (by rw [List.length_take, hpl]; rfl) (fun x hx => hbr x (List.mem_of_mem_take hx)) (fun x hx => hpr x (List.mem_of_mem_take hx))
  have heq' : ∀ W, (Op.equal 103 (.agg (bytesV (b.take 32)).toArray) (.agg (bytesV (pk.take 32)).toArray)).run Tryz.prog W = .ok (decide (b.take 32 = pk.take 32)) W := heq
  obtain ⟨same, hsm⟩ : ∃ same, same = decide (b.take 32 = pk.take 32) := ⟨_, rfl⟩
  rw [← hpe, ← hsm]
  rw [← hsm] at heq heq'
  have HEQ : Hid ((∀ W, (Op.equalIn 10000 103 (.agg (bytesV (b.take 32)).toArray) (.agg (bytesV (pk.take 32)).toArray)).run Tryz.prog W = .ok same W) ∧ ∀ W, (Op.equal 103 (.agg (bytesV (b.take 32)).toArray) (.agg (bytesV (pk.take 32)).toArray)).run Tryz.prog W = .ok same W) := ⟨heq, heq'⟩
  have hrs : ¬ (18 : Int) < (rec.size : Int) := by omega
  have hsl := slice_rec (w.heap.size + 1) rec.size hr
  clear heq heq' hsm hpe hN hpr hbs hb0 hbr
  go_enter Tryz.func180, Tryz.ntmps180
  go_wp2_with (first
    | (refine wpList_alloc_of rfl 104 rfl z32.toArray alloc_32 ?_; rw [← hW0]; clear hW0)
    | (refine wpList_load_mid rfl 104 _ rfl w.heap.size 0 rfl (hV l) _ hr0 Tryz.underlying104 rfl HIL.out ?_))
  refine hpk'.mono ?_
  rintro e w1 ⟨rfl, hb1⟩
  clear hpk' hcv hsl c0 hr0
  have hz1 : w.heap.size + 3 ≤ w1.heap.size := by have := hb1.size; omega
  have HB1 : Hid (Below w.heap.size w w1) := hB0.trans (hb1.mono hB0.size)
  have hr1' : w1.rangeAt (w.heap.size + 1) 0 (bytesV b) := fun j v hv => (hb1.cell (p := ⟨w.heap.size + 1, 0 + j, none⟩) (by show w.heap.size + 1 < _; omega)).trans (hr1 j v hv)
  have ht2' : w1.there (w.heap.size + 1 + 1) 0 32 := there_below hb1 (by omega) ht2
  have ht9 : ((w1.alloc (.cells zB.toArray 254)).alloc (.cells z32.toArray 104)).there w1.heap.size 0 (bytesV pk).length := by rw [bytesV_length, hpl]; exact World.there_alloc (there_blk w1) _
  have ht10 : ((w1.alloc (.cells zB.toArray 254)).alloc (.cells z32.toArray 104)).there (w1.heap.size + 1) 0 (hV N).length := by rw [hV_len hN32]; have := there_z32 (w1.alloc (.cells zB.toArray 254)); simpa using this
  clear hr1 ht2 hb1 hB0 hs0
  go_wp2_with (first
    | (refine wpList_alloc_of rfl 254 rfl zB.toArray alloc_blk ?_)
    | (refine wpList_alloc_of rfl 104 rfl z32.toArray alloc_32 ?_)
    | (refine wpList_store_abs rfl 254 _ _ rfl w1.heap.size 0 (bytesV pk) rfl rfl ht9 HIP.out (bytesV_one pk) ?_
       intro w2 hw2 hr9 _ht9 hb2
       have ht10' : w2.there (w1.alloc (.cells zB.toArray 254)).heap.size 0 (hV N).length := (by rw [hw2, show (w1.alloc (.cells zB.toArray 254)).heap.size = w1.heap.size + 1 by simp]; exact World.there_setCells ht10 _ _ _)
       clear hw2 _ht9)
    | (refine wpList_store_abs rfl 104 _ _ rfl (w1.alloc (.cells zB.toArray 254)).heap.size 0 (hV N) rfl rfl ht10' HIN.out (hV_one N) ?_
       intro w3 hw3 hr10 _ht10 hb3
       rw [show (w1.alloc (.cells zB.toArray 254)).heap.size = w1.heap.size + 1 by simp] at hw3 hr10 hb3
       have hr9' : w3.rangeAt w1.heap.size 0 (bytesV pk) := (by rw [hw3]; exact World.rangeAt_setCells_apart hr9 _ _ _ (Or.inl (by omega)))
       clear hw3 _ht10))
  have hB3 : Below w1.heap.size w1 w3 := (((Below.refl _ _).alloc (Nat.le_refl _) _).alloc (by simp) _).trans ((hb2 _ (Nat.le_refl _)).trans (hb3 _ (by omega)))
  have hs3 : w1.heap.size + 2 ≤ w3.heap.size := by
    have h1 := (hb2 0 (Nat.zero_le _)).size
    have h2 := (hb3 0 (Nat.zero_le _)).size
    simp at h1; omega
  have hr1q : w3.rangeAt (w.heap.size + 1) 0 (bytesV b) := fun j v hv => (hB3.cell (p := ⟨w.heap.size + 1, 0 + j, none⟩) (by show w.heap.size + 1 < _; omega)).trans (hr1' j v hv)
  have ht2q : w3.there (w.heap.size + 1 + 1) 0 32 := there_below hB3 (by omega) ht2'
  have HB3 : Hid (Below w.heap.size w w3) := HB1.out.trans (hB3.mono (by omega))
  clear hb2 hb3 hr9 hr1' ht2' ht9 ht10 ht10' hB3
  have J0 : w3.drew.rangeAt (w.heap.size + 1) 0 (bytesV b) ∧ w3.drew.rangeAt w1.heap.size 0 (bytesV pk) := ⟨by rw [World.rangeAt_drew]; exact hr1q, by rw [World.rangeAt_drew]; exact hr9'⟩
  refine wp_region_noPanic ?_
  refine wp_region_held_drew (S := fun W => W.rangeAt (w.heap.size + 1) 0 (bytesV b) ∧ W.rangeAt w1.heap.size 0 (bytesV pk)) (by kernel_rfl) J0 (fun _ => ?_)
  refine wpAnyH_take (i := 0) (v := .agg (bytesV b).toArray) rfl (by kernel_rfl) (by kernel_rfl) (by kernel_rfl) (fun _ _ _ h => h) (yieldsIf_load_mid (by rfl) 254 _ rfl (w.heap.size + 1) 0 rfl (bytesV b) _ (fun W hW => hW.1) Tryz.underlying254 rfl HIB.out) J0 ?_
  simp only [qA, qB, qC, Act.put, qD, qE, qF]
  refine wpAnyH_take (i := 2) (v := .agg (bytesV pk).toArray) rfl (by kernel_rfl) (by kernel_rfl) (by kernel_rfl) (fun _ _ _ h => h) (yieldsIf_load_mid (by rfl) 254 _ rfl w1.heap.size 0 rfl (bytesV pk) _ (fun W hW => hW.2) Tryz.underlying254 rfl HIP.out) J0 ?_
  simp only [qA, qB, qC, Act.put, qD, qE, qF]
  refine rk 1 (fun K' hK' => ?_)
  go_simp
  refine (sector_any b hb _).mono ?_
  rintro e w4 ⟨rfl, hb4⟩
  have hb4' : Below w3.heap.size w3 w4 := (Below.refl _ _).drew.trans hb4
  have J4 : w4.rangeAt (w.heap.size + 1) 0 (bytesV b) ∧ w4.rangeAt w1.heap.size 0 (bytesV pk) := ⟨fun j v hv => (hb4'.cell (p := ⟨w.heap.size + 1, 0 + j, none⟩) (by show w.heap.size + 1 < _; omega)).trans (hr1q j v hv), fun j v hv => (hb4'.cell (p := ⟨w1.heap.size, 0 + j, none⟩) (by show w1.heap.size < _; omega)).trans (hr9' j v hv)⟩
  refine hK'.out _ _ J4 (fun _ => ?_)
  clear hK' K'
  try simp only [qA, qB, qC, Act.put, qD, qE, qF]
  refine rk 3 (fun K' hK' => ?_)
  go_simp
  refine (sector_any pk hpl _).mono ?_
  rintro e w5 ⟨rfl, hb5⟩
  have hb5' : Below w3.heap.size w3 w5 := hb4'.trans (hb5.mono hb4'.size)
  have J5 : w5.rangeAt (w.heap.size + 1) 0 (bytesV b) ∧ w5.rangeAt w1.heap.size 0 (bytesV pk) := ⟨fun j v hv => (hb5'.cell (p := ⟨w.heap.size + 1, 0 + j, none⟩) (by show w.heap.size + 1 < _; omega)).trans (hr1q j v hv), fun j v hv => (hb5'.cell (p := ⟨w1.heap.size, 0 + j, none⟩) (by show w1.heap.size < _; omega)).trans (hr9' j v hv)⟩
  refine hK'.out _ _ J5 (fun _ => ?_)
  clear hK' K'
  try simp only [qA, qB, qC, Act.put, qD, qE, qF]
  have ht5 : w5.there (w.heap.size + 1 + 1) 0 32 := there_below hb5' (by omega) ht2q
  have hr10' : w5.rangeAt (w1.heap.size + 1) 0 (hV N) := fun j v hv => (hb5'.cell (p := ⟨w1.heap.size + 1, 0 + j, none⟩) (by show w1.heap.size + 1 < _; omega)).trans (hr10 j v hv)
  have HB5 : Hid (Below w.heap.size w w5) := HB3.out.trans (hb5'.mono (by omega))
  clear hr1q hr9' hr10 ht2q hb4 hb4' hb5 hb5' J4 J0
  obtain ⟨heq1, heq2⟩ := HEQ.out
  clear HEQ
  cases same with
  | true =>
    refine tk 4 J5 ?_
    refine ⟨by kernel_rfl, ?_⟩
    refine NoPanic.normal ?_
    try simp only [qA, qB, qC, Act.put, qD, qE, qF]
    clear heq1 heq2 J5
    have J6 : w5.drew.rangeAt (w1.heap.size + 1) 0 (hV N) := by rw [World.rangeAt_drew]; exact hr10'
    have ht5d : w5.drew.there (w.heap.size + 1 + 1) 0 32 := ht5
    have hne : w1.heap.size + 1 ≠ w.heap.size + 1 + 1 := by omega
    have e32 : (hV N).toArray.size = 32 := by rw [List.size_toArray, hV_len hN32]
    go_wp2_with fail
    refine wp_region_noPanic ?_
    refine wp_region_held_drew (S := fun W => W.rangeAt (w1.heap.size + 1) 0 (hV N)) (by kernel_rfl) J6 (fun _ => ?_)
    refine tk 0 J6 ?_
    refine wpAnyH_take (i := 1) (v := .agg (hV N).toArray) rfl (by kernel_rfl) (by kernel_rfl) (by kernel_rfl) (fun _ _ _ h => h) (yieldsIf_load_mid (by rfl) 104 _ rfl (w1.heap.size + 1) 0 rfl (hV N) _ (fun W hW => hW) Tryz.underlying104 rfl HIN.out) J6 ?_
    simp only [qA, qB, qC, Act.put, qD, qE, qF]
    refine tk 2 J6 ?_
    refine rk 3 (fun K' hK' => ?_)
    refine wp_store_mid 104 _ _ rfl (w.heap.size + 1 + 1) 0 (hV N).toArray rfl rfl (by rw [e32]; exact ht5d) (by rw [List.size_toArray]; exact HIN.out) (all_oneCell_toArray (hV_one N)) ?_
    rw [List.toList_toArray]
    have J7 : (w5.drew.setCells (w.heap.size + 1 + 1) 0 (hV N)).rangeAt (w1.heap.size + 1) 0 (hV N) := World.rangeAt_setCells_apart J6 _ _ _ (Or.inl hne)
    have J8 : (w5.drew.setCells (w.heap.size + 1 + 1) 0 (hV N)).rangeAt (w.heap.size + 1 + 1) 0 (hV N) := World.rangeAt_setCells_same _ _ _ _ (by rw [hV_len hN32]; exact ht5d)
    have J9 : Below w.heap.size w (w5.drew.setCells (w.heap.size + 1 + 1) 0 (hV N)) := below_setCells (by omega) _ _ _ HB5.out.drew
    refine hK'.out _ _ J7 (fun _ => ?_)
    clear hK' K'
    try simp only [qA, qB, qC, Act.put, qD, qE, qF]
    refine tk 4 J7 ?_
    refine ⟨by kernel_rfl, ?_⟩
    refine NoPanic.normal ?_
    try simp only [qA, qB, qC, Act.put, qD, qE, qF]
    generalize w5.drew.setCells (w.heap.size + 1 + 1) 0 (hV N) = w6 at *
    go_wp2_with fail
    exact ret_tmp_cell_tmp rfl (.string rec) (.bool true) (w.heap.size + 1 + 1) 0 (hV N) _ rfl rfl rfl J8 Tryz.underlying104 rfl HIN.out rfl ⟨by rw [HN.out]; rfl, J9⟩
  | false =>
    refine tk 4 J5 ?_
    refine ⟨by kernel_rfl, ?_⟩
    refine NoPanic.normal ?_
    try simp only [qA, qB, qC, Act.put, qD, qE, qF]
    clear heq1 heq2 J5
    have ht5z : w5.there (w.heap.size + 1 + 1) 0 z32.length := ht5
    go_wp2_with (first
      | (refine wpList_build_of rfl 104 rfl z32.toArray build_h32 ?_)
      | (refine wpList_store_abs rfl 104 _ _ rfl (w.heap.size + 1 + 1) 0 z32 rfl rfl ht5z info_z32 z32_one ?_; intro w6 _hw6 hr6 _ht6 hb6; clear _hw6 _ht6))
    exact ret_tmp_cell_tmp rfl (.string ⟨#[]⟩) (.bool false) (w.heap.size + 1 + 1) 0 z32 _ rfl rfl rfl hr6 Tryz.underlying104 rfl info_z32 rfl ⟨rfl, HB5.out.trans (hb6 _ (by omega))⟩
/-- A journal's cells: its volume, its link, the blocks that are used. -/
def jL (p n : Nat) (l : ByteArray) (u : Nat) : List Value := volL p n ++ (hV l ++ [.int .i64 (u : Nat)])
theorem jL_len (p n : Nat) (l : ByteArray) (u : Nat) (hl : l.size = 32) : (jL p n l u).length = 35 := by unfold jL volL; simp [hV_len hl]
theorem j_vol {w : World} {j p n u : Nat} {l : ByteArray} (h : w.rangeAt j 0 (jL p n l u)) : w.rangeAt j 0 (volL p n) := fun i v hv => h i v (by unfold jL; rw [List.getElem?_append_left (List.getElem?_eq_some_iff.1 hv).1]; exact hv)
theorem j_link {w : World} {j p n u : Nat} {l : ByteArray} (h : w.rangeAt j 0 (jL p n l u)) : w.rangeAt j 2 (hV l) := fun i v hv => by
  have := h (2 + i) v (by
    unfold jL
    rw [List.getElem?_append_right (by show 2 ≤ 2 + i; omega), show 2 + i - (volL p n).length = i by show 2 + i - 2 = i; omega, List.getElem?_append_left (List.getElem?_eq_some_iff.1 hv).1]; exact hv)
  rwa [Nat.zero_add] at this
theorem j_used {w : World} {j p n u : Nat} {l : ByteArray} (hl : l.size = 32) (h : w.rangeAt j 0 (jL p n l u)) : w.cell? ⟨j, 34, none⟩ = some (.int .i64 (u : Nat)) := by
  have := h 34 (.int .i64 (u : Nat)) (by
    unfold jL
    rw [List.getElem?_append_right (by show 2 ≤ 34; omega), show 34 - (volL p n).length = 32 from rfl, List.getElem?_append_right (by rw [hV_len hl]; exact Nat.le_refl _), hV_len hl]; rfl)
  rwa [Nat.zero_add] at this

set_option maxRecDepth 10000 in
set_option maxHeartbeats 400000 in
theorem jfull_any (j p n u : Nat) (l : ByteArray) (w : World) (hl : l.size = 32) (hj : j < w.heap.size) (h : w.rangeAt j 0 (jL p n l u)) :
    Calls Tryz.prog 169 #[.pointer (some ⟨j, 0, none⟩)] w fun e w' => e = .returned (.bool (decide (u = n))) ∧ Below w.heap.size w w' := by
  have HIV : Hid ((Tryz.prog.info? 222).map (·.size) = some (volL p n).length) := info_vol p n
  have hq : decide ((u : Int) = (n : Int)) = decide (u = n) := by rw [decide_eq_decide]; omega
  have hqb : ((u : Int) == (n : Int)) = decide (u = n) := by rw [Bool.eq_iff_iff]; simp; omega
  obtain ⟨b, hb⟩ : ∃ b, b = decide (u = n) := ⟨_, rfl⟩
  rw [← hb] at hqb ⊢
  clear hq hb
  go_enter Tryz.func169, Tryz.ntmps169
  go_wp2_with fail
  have J0 : w.drew.rangeAt j 0 (jL p n l u) := by rw [World.rangeAt_drew]; exact h
  refine wp_region_noPanic ?_
  refine wp_region_held_drew (S := fun W => W.rangeAt j 0 (jL p n l u)) (by kernel_rfl) J0 (fun _ => ?_)
  refine tk 0 J0 ?_
  refine tk 1 J0 ?_
  refine tk 2 J0 ?_
  refine tq (i := 3) (v := ?_) rfl J0 ?_ ?_
  rotate_left 1
  · intro W hSW; have cW := j_used hl hSW; clear hSW; go_simp; try with_reducible rfl
  simp only [qA, qB, qC, Act.put, qD, qE, qF]
  refine tk 4 J0 ?_
  refine tk 5 J0 ?_
  refine tk 6 J0 ?_
  refine wpAnyH_take (i := 7) (v := .agg (volL p n).toArray) rfl (by kernel_rfl) (by kernel_rfl) (by kernel_rfl) (fun _ _ _ h => h) (yieldsIf_load_mid (by rfl) 222 _ rfl j 0 rfl (volL p n) _ (fun W hW => j_vol hW) Tryz.underlying222 rfl HIV.out) J0 ?_
  simp only [qA, qB, qC, Act.put, qD, qE, qF]
  refine rk 8 (fun K' hK' => ?_)
  go_simp
  refine (vsize_any p n _).mono ?_
  rintro e w1 ⟨rfl, hb1⟩
  have hB1 : Below w.heap.size w w1 := (Below.refl _ _).drew.trans hb1
  have J1 : w1.rangeAt j 0 (jL p n l u) := fun i v hv => (hB1.cell (p := ⟨j, 0 + i, none⟩) hj).trans (h i v hv)
  refine hK'.out _ _ J1 (fun _ => ?_)
  clear hK' K'
  try simp only [qA, qB, qC, Act.put, qD, qE, qF]
  refine tk 9 J1 ?_
  refine tk 10 J1 ?_
  refine ⟨by kernel_rfl, ?_⟩
  refine NoPanic.normal ?_
  try simp only [qA, qB, qC, Act.put, qD, qE, qF]
  go_wp2_with fail
  go_ret
  exact ⟨rfl, hB1⟩
end Go.Proofs.YteglimjonofdeaaGreatDoor
