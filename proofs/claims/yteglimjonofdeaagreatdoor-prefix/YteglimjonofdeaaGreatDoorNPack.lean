import Derived.Test.YteglimjonofdeaaGreatDoorNVol2
set_option linter.unusedVariables false
set_option linter.unusedSimpArgs false
namespace Go.Proofs.YteglimjonofdeaaGreatDoor
open Go.RowKit

/-- The bytes of a record's block. -/
def packN (K : Nat → Int) (l rec : ByteArray) : List Int := (rec.size : Int) :: (numsOf rec ++ (List.replicate (18 - rec.size) 0 ++ ((numsOf (sumOf K (l ++ rec))).take 13 ++ List.replicate 96 0)))
theorem packN_len (K : Nat → Int) (l rec : ByteArray) (h : rec.size ≤ 18) : (packN K l rec).length = 128 := by
  unfold packN
  simp only [List.length_cons, List.length_append, List.length_replicate, List.length_take, numsOf_length, sumOf_size]
  omega
theorem zB_len : zB.length = 128 := by decide +kernel
theorem zB_get (j : Nat) (h : j < 128) : zB[j]? = some (.int .u8 0) := by
  unfold zB z128
  rw [bytesV, List.getElem?_map, List.getElem?_replicate, if_pos h]; rfl
theorem pack_row (rec : ByteArray) (h : rec.size ≤ 18) (T : List Int) (hT : 13 ≤ T.length) (L : List Int) (hL : L = (rec.size : Int) :: (numsOf rec ++ (List.replicate (18 - rec.size) 0 ++ (T.take 13 ++ List.replicate 96 0)))) :
    setR (setR (zB.toArray.setIfInBounds 0 (.int .u8 (rec.size : Int))) 1 (bytesV (numsOf rec))) 19 (bytesV (T.take 13)) = (bytesV L).toArray := by
  have e1 : ∀ (l : List Int), (bytesV l).length = l.length := bytesV_length
  have hn := numsOf_length rec
  have sz : ∀ (vs : List Value) (cur : Array Value) (o : Nat), (setR cur o vs).size = cur.size := by
    intro vs
    induction vs with
    | nil => intro cur o; rfl
    | cons v vs ih => intro cur o; rw [setR, ih, Array.size_setIfInBounds]
  have hz : zB.toArray.size = 128 := by rw [List.size_toArray, zB_len]
  apply Array.ext_getElem?
  intro j
  rw [setR_get, setR_get, sz, Array.size_setIfInBounds, hz, e1, e1, hn, List.length_take, Nat.min_eq_left hT]
  have eR : (bytesV L).toArray[j]? = (L[j]?).map (Value.int .u8) := by unfold bytesV; rw [List.getElem?_toArray, List.getElem?_map]
  rw [eR]
  unfold bytesV
  rw [List.getElem?_map, List.getElem?_map, hL]
  by_cases hj : j < 128
  · by_cases h0 : j = 0
    · subst h0
      rw [if_neg (by omega), if_neg (by omega), Array.getElem?_setIfInBounds_self_of_lt (by omega)]; rfl
    · obtain ⟨i, rfl⟩ : ∃ i, j = i + 1 := ⟨j - 1, by omega⟩
      rw [List.getElem?_cons_succ]
      by_cases h1 : i < rec.size
      · rw [if_neg (by omega), if_pos (by omega), List.getElem?_append_left (by omega), Nat.add_sub_cancel]
      · rw [List.getElem?_append_right (by omega), hn]
        by_cases h2 : i < 18
        · rw [if_neg (by omega), if_neg (by omega), List.getElem?_append_left (by rw [List.length_replicate]; omega), List.getElem?_replicate, if_pos (by omega), Array.getElem?_setIfInBounds_ne (by omega), List.getElem?_toArray, zB_get _ hj]; rfl
        · rw [List.getElem?_append_right (by rw [List.length_replicate]; omega), List.length_replicate]
          by_cases h3 : i < 31
          · rw [if_pos (by omega), List.getElem?_append_left (by rw [List.length_take]; omega), show i + 1 - 19 = i - rec.size - (18 - rec.size) by omega]
          · rw [if_neg (by omega), if_neg (by omega), List.getElem?_append_right (by rw [List.length_take]; omega), List.getElem?_replicate, if_pos (by rw [List.length_take]; omega), Array.getElem?_setIfInBounds_ne (by omega), List.getElem?_toArray, zB_get _ hj]; rfl
  · rw [if_neg (by omega), if_neg (by omega), Array.getElem?_eq_none (by rw [Array.size_setIfInBounds]; omega), List.getElem?_eq_none (by simp only [List.length_cons, List.length_append, List.length_replicate, List.length_take]; omega)]; rfl
theorem results_cell_cell {fn : Func} {p u : Tmp} {ty tu : TypeId} (h : fn.results = #[.cell p ty, .cell u tu]) (tmps : Array Value) (P : Program) (w : World) :
    (results fn tmps).run P w = ((asAddr (tmps.getD p undef)).run P w).andThen fun a w1 => ((loadVar ty a).run P w1).andThen fun v w2 => ((asAddr (tmps.getD u undef)).run P w2).andThen fun a' w3 => ((loadVar tu a').run P w3).andThen fun v' w4 => .ok (.tuple #[v, v']) w4 := by
  simp only [results, h]
  simp [Sem.run_bind, Result.andThen]
/-- Two results, both rows in memory. -/
theorem ret_cell_cell {P : Program} {fn : Func} {R : Ending → World → Prop} {a : Act} {w : World} {p u : Tmp} {ty tu : TypeId} (h : fn.results = #[.cell p ty, .cell u tu]) (b o b' o' : Nat) (cs cs' : List Value) (d d' : TypeDesc)
    (hp : a.tmps.getD p undef = .pointer (some ⟨b, o, none⟩)) (hu' : a.tmps.getD u undef = .pointer (some ⟨b', o', none⟩)) (hc : w.rangeAt b o cs) (hc' : w.rangeAt b' o' cs') (hu : P.underlying ty = some d) (hd : d.isRow = true) (hi : (P.info? ty).map (·.size) = some cs.length) (hu2 : P.underlying tu = some d') (hd2 : d'.isRow = true) (hi2 : (P.info? tu).map (·.size) = some cs'.length)
    (hdf : a.defers = []) (hR : R (.returned (.tuple #[.agg cs.toArray, .agg cs'.toArray])) w) : bodyPost P fn R .ret a w := by
  refine bodyPost_ret (v := .tuple #[.agg cs.toArray, .agg cs'.toArray]) ?_ hdf hR
  rw [results_cell_cell h, hp, hu']
  simp [asAddr, run_loadVar_mid w b o ty cs d hc hu hd hi, run_loadVar_mid w b' o' tu cs' d' hc' hu2 hd2 hi2]

theorem copy_rec (w3 : World) (rec : ByteArray) (hr : rec.size ≤ 18) : ∃ wC, (Builtin.copy_ #[85, 9] 3 #[.slice (some ⟨w3.heap.size, 1, none⟩) 18 127, .string rec]).run Tryz.prog (w3.alloc (.cells (zB.set 0 (.int .u8 (rec.size : Int))).toArray 254)) = .ok (goInt rec.size) wC ∧
    Hid (wC.heap[w3.heap.size]? = some (.cells (setR (zB.toArray.setIfInBounds 0 (.int .u8 (rec.size : Int))) 1 (bytesV (numsOf rec))) 254 (0, 0))) ∧ Below w3.heap.size w3 wC ∧ Hid (wC.heap.size = w3.heap.size + 1) ∧ wC.there w3.heap.size 0 128 := by
  have erec : (rec.data.toList.map fun x => Value.int .u8 (x.toNat : Int)) = bytesV (numsOf rec) := by unfold bytesV numsOf; rw [List.map_map]; rfl
  have htB : (w3.alloc (.cells (zB.set 0 (.int .u8 (rec.size : Int))).toArray 254)).there w3.heap.size 0 128 := by
    have := there_new w3 (zB.set 0 (.int .u8 (rec.size : Int))).toArray 254
    have e : (zB.set 0 (.int .u8 (rec.size : Int))).toArray.size = 128 := by rw [List.size_toArray]; simp [zB_len]
    rwa [e] at this
  have hrun := run_copy_string (P := Tryz.prog) (w3.alloc (.cells (zB.set 0 (.int .u8 (rec.size : Int))).toArray 254)) 85 9 3 5 w3.heap.size 1 18 127 rec Tryz.underlying85 size_byte hr (fun j hj => by have := (htB (1 + j) (by omega)).1; rwa [Nat.zero_add] at this) (fun j hj => by have := (htB (1 + j) (by omega)).2; rwa [Nat.zero_add] at this)
  rw [erec] at hrun
  refine ⟨_, hrun, ?_, below_setCells (Nat.le_refl _) _ _ _ ((Below.refl _ _).alloc (Nat.le_refl _) _), ?_, World.there_setCells htB _ _ _⟩
  · show _ = _
    rw [heap_setCells _ _ _ _ _ _ (heap_alloc_new w3 _), List.setIfInBounds_toArray]
  · show _ = _
    rw [size_setCells]; simp
def packPost (K : Nat → Int) (l rec : ByteArray) (w : World) (e : Ending) (w' : World) : Prop :=
  e = .returned (.tuple #[.agg (bytesV (packN K l rec)).toArray, .agg (hV (sumOf K (l ++ rec))).toArray]) ∧ Below w.heap.size w w'
set_option maxRecDepth 10000 in
set_option maxHeartbeats 1000000 in
theorem pack_any (K : Nat → Int) (l rec : ByteArray) (w : World) (hl : l.size = 32) (hr : rec.size ≤ 18) (T : Tab K w) :
    Calls Tryz.prog 161 #[.agg (hV l).toArray, .string rec] w (packPost K l rec w) := by
  obtain ⟨W0, hW0⟩ : ∃ W0, W0 = ((w.alloc (.cells (hV l).toArray 104)).alloc (.cells zB.toArray 254)).alloc (.cells z32.toArray 104) := ⟨_, rfl⟩
  have hs0 : W0.heap.size = w.heap.size + 3 := by rw [hW0]; simp
  have hB0 : Below w.heap.size w W0 := by rw [hW0]; exact (((Below.refl _ _).alloc (Nat.le_refl _) _).alloc (by simp) _).alloc (by simp; omega) _
  have hr0 : W0.rangeAt w.heap.size 0 (hV l) := by rw [hW0]; exact World.rangeAt_alloc (World.rangeAt_alloc (range_new _ _ _) _) _
  have ht1 : W0.there (w.heap.size + 1) 0 128 := by
    rw [hW0]; have := World.there_alloc (there_blk (w.alloc (.cells (hV l).toArray 104))) (.cells z32.toArray 104); simpa using this
  have ht2 : W0.there (w.heap.size + 1 + 1) 0 32 := by
    rw [hW0]; have := there_z32 ((w.alloc (.cells (hV l).toArray 104)).alloc (.cells zB.toArray 254)); simpa using this
  have htx := htx_any l hl W0
  have HIL : Hid ((Tryz.prog.info? 104).map (·.size) = some (hV l).length) := hV_info hl
  have HT0 : Hid (Tab K W0) := T.below hB0
  clear T
  obtain ⟨N, hN⟩ : ∃ N, N = sumOf K (l ++ rec) := ⟨_, rfl⟩
  have hN32 : N.size = 32 := by rw [hN]; exact sumOf_size K _
  have HN : Hid (N = sumOf K (l ++ rec)) := hN
  have HIN : Hid ((Tryz.prog.info? 104).map (·.size) = some (hV N).length) := hV_info hN32
  go_enter Tryz.func161, Tryz.ntmps161
  go_wp2_with (first
    | (refine wpList_alloc_of rfl 254 rfl zB.toArray alloc_blk ?_)
    | (refine wpList_alloc_of rfl 104 rfl z32.toArray alloc_32 ?_; rw [← hW0])
    | (refine wpList_load_mid rfl 104 _ rfl w.heap.size 0 rfl (hV l) _ hr0 Tryz.underlying104 rfl HIL.out ?_))
  rw [← hW0]
  refine htx.mono ?_
  rintro e w1 ⟨rfl, hb1⟩
  have HB1 : Hid (Below w.heap.size w w1) := hB0.trans (hb1.mono hB0.size)
  have HS1 : Hid (w.heap.size + 3 ≤ w1.heap.size) := by have := hb1.size; rw [hs0] at this; exact this
  have HR1 : Hid (w1.there (w.heap.size + 1) 0 128 ∧ w1.there (w.heap.size + 1 + 1) 0 32) := ⟨there_below hb1 (by omega) ht1, there_below hb1 (by omega) ht2⟩
  have HT1 : Hid (Tab K w1) := HT0.out.below hb1
  have T1 : Tab K (w1.alloc (.cells #[.string l, .string rec] 9)) := HT1.out.below ((Below.refl _ _).alloc (Nat.le_refl _) _)
  have hof := of_any [l, rec] w1.heap.size 2 K (w1.alloc (.cells #[.string l, .string rec] 9)) (by simp) (by simp)
    (by simp [joinN, numsOf_length]; omega)
    (fun j hj => by
      rw [World.cell?_alloc_at _ _ _ _ rfl]
      have hj2 : j < 2 := hj
      obtain rfl | rfl : j = 0 ∨ j = 1 := by omega
      all_goals rfl) T1.lt T1.cells
  rw [hV_sum K (joinN [l, rec]) (l ++ rec) (by rw [nums_app]; simp [joinN]), ← hN, show [l, rec].length = 2 from rfl] at hof
  clear hW0 hs0 hB0 hr0 ht1 ht2 htx HT0 hb1 T1 hN
  go_wp2_with fail
  refine hof.mono ?_
  rintro e w2 ⟨rfl, hb2⟩
  clear hof
  have hb2' : Below w1.heap.size w1 w2 := ((Below.refl _ _).alloc (Nat.le_refl _) _).trans (hb2.mono (by simp))
  have HB2 : Hid (Below w.heap.size w w2) := HB1.out.trans (hb2'.mono (by have := HS1.out; omega))
  have HS2 : Hid (w.heap.size + 3 ≤ w2.heap.size) := by have := hb2'.size; have := HS1.out; show _ ≤ _; omega
  have HR2 : Hid (w2.there (w.heap.size + 1) 0 128 ∧ w2.there (w.heap.size + 1 + 1) 0 32) := ⟨there_below hb2' (by have := HS1.out; omega) HR1.out.1, there_below hb2' (by have := HS1.out; omega) HR1.out.2⟩
  have htq : (w2.alloc (.cells z32.toArray 104)).there w2.heap.size 0 (hV N).length := by rw [hV_len hN32]; exact there_z32 w2
  clear HB1 HS1 HR1 hb2 hb2'
  go_wp2_with (first
    | (refine wpList_alloc_of rfl 254 rfl zB.toArray alloc_blk ?_)
    | (refine wpList_alloc_of rfl 104 rfl z32.toArray alloc_32 ?_)
    | (at_builtin; refine Lib.wpList_copy_run _ rfl _ _ 85 9 rfl _ _ rfl rfl hrun ?_)
    | (refine wpList_store_abs rfl 104 _ _ rfl w2.heap.size 0 (hV N) rfl rfl htq HIN.out (hV_one N) ?_
       intro w3 hw3 hr3 ht3 hb3
       have HS3 : Hid (w3.heap.size = w2.heap.size + 1) := (by show _ = _; rw [hw3, size_setCells]; simp)
       clear hw3
       have hB3 : Below w2.heap.size w2 w3 := ((Below.refl _ _).alloc (Nat.le_refl _) _).trans (hb3 _ (Nat.le_refl _))
       have cA : (w3.alloc (.cells zB.toArray 254)).cell? ⟨w3.heap.size, 0, none⟩ = some (.int .u8 0) := (by rw [World.cell?_alloc_at _ _ _ _ rfl, List.getElem?_toArray, zB_get 0 (by omega)])
       have fA : (w3.alloc (.cells zB.toArray 254)).frozen? ⟨w3.heap.size, 0, none⟩ = false := (by rw [World.frozen?_alloc_at _ _ _ _ rfl])
       obtain ⟨wC, hrun, HhC, hBC, HSC, htC⟩ := copy_rec w3 rec hr))
  have hr6 : wC.drew.rangeAt w2.heap.size 0 (hV N) := by
    rw [World.rangeAt_drew]
    exact fun j v hv => (hBC.cell (p := ⟨w2.heap.size, 0 + j, none⟩) (by show w2.heap.size < w3.heap.size; rw [HS3.out]; omega)).trans (hr3 j v hv)
  have etk : (hV N).take 13 = bytesV ((numsOf N).take 13) := by unfold hV bytesV; rw [List.map_take]
  have hlt : (bytesV ((numsOf N).take 13)).length = 13 := by rw [bytesV_length, List.length_take, numsOf_length, hN32]; rfl
  have hrun2 := run_copy_cells (P := Tryz.prog) wC.drew 85 85 3 5 w3.heap.size 19 13 109 ⟨w2.heap.size, 0, none⟩ 32 32 (bytesV ((numsOf N).take 13)) Tryz.underlying85 (by kernel_rfl) (by rw [hlt]; rfl) (fun j v hv => by rw [addr_add]; rw [← etk] at hv; exact hr6 j v (by rw [List.getElem?_take] at hv; split at hv; exact hv; cases hv)) (fun j hj => by have := (htC (19 + j) (by omega)).1; rw [Nat.zero_add] at this; exact this) (fun j hj => by have := (htC (19 + j) (by omega)).2; rw [Nat.zero_add] at this; exact this) (bytesV_one _)
  rw [hlt] at hrun2
  obtain ⟨pk, hpk⟩ : ∃ pk, pk = packN K l rec := ⟨_, rfl⟩
  have HPK : Hid (pk = packN K l rec) := hpk
  have hpl : pk.length = 128 := by rw [hpk]; exact packN_len K l rec hr
  have hhD : (wC.drew.setCells w3.heap.size 19 (bytesV ((numsOf N).take 13))).heap[w3.heap.size]? = some (.cells (bytesV pk).toArray 254 (0, 0)) := by
    rw [heap_setCells _ _ _ _ _ _ (show wC.drew.heap[w3.heap.size]? = _ from HhC.out), pack_row rec hr (numsOf N) (by rw [numsOf_length, hN32]; omega) pk (by rw [hpk, HN.out]; rfl)]
  have hr7 : (wC.drew.setCells w3.heap.size 19 (bytesV ((numsOf N).take 13))).rangeAt w3.heap.size 0 (bytesV pk) := fun j v hv => by rw [cell_of_row _ _ _ _ _ _ hhD, List.getElem?_toArray, Nat.zero_add]; exact hv
  have hr6' : (wC.drew.setCells w3.heap.size 19 (bytesV ((numsOf N).take 13))).rangeAt w2.heap.size 0 (hV N) := World.rangeAt_setCells_apart hr6 _ _ _ (Or.inl (by rw [HS3.out]; omega))
  have hBD : Below w.heap.size w (wC.drew.setCells w3.heap.size 19 (bytesV ((numsOf N).take 13))) := below_setCells (by have := HS2.out; rw [HS3.out]; omega) _ _ _ ((HB2.out.trans (hB3.mono (by have := HS2.out; omega))).trans (hBC.mono (by have := HS2.out; rw [HS3.out]; omega))).drew
  have ht3' : ∀ q m, q < w2.heap.size → w2.there q 0 m → (wC.drew.setCells w3.heap.size 19 (bytesV ((numsOf N).take 13))).there q 0 m := fun q m hq hm => World.there_setCells (show wC.drew.there q 0 m from there_below (B := w3.heap.size) hBC.drew (by rw [HS3.out]; omega) (there_below hB3 hq hm)) _ _ _
  have HD1 : Hid ((wC.drew.setCells w3.heap.size 19 (bytesV ((numsOf N).take 13))).there (w.heap.size + 1) 0 128) := ht3' _ _ (by have := HS2.out; omega) HR2.out.1
  have HD2 : Hid ((wC.drew.setCells w3.heap.size 19 (bytesV ((numsOf N).take 13))).there (w.heap.size + 1 + 1) 0 32) := ht3' _ _ (by have := HS2.out; omega) HR2.out.2
  clear hpk hhD ht3' etk hr6
  refine wp_region_noPanic ?_
  refine wp_region_held_drew (S := fun _ => True) (by kernel_rfl) trivial (fun _ => ?_)
  refine wpAnyH_take (i := 0) (v := ?_) rfl (by kernel_rfl) (by kernel_rfl) (by kernel_rfl) (fun _ _ _ h => h) (Or.inl ⟨by rfl, ?_⟩) trivial ?_
  rotate_left 1
  · intro W hSW; clear hSW; go_simp; try with_reducible rfl
  simp only [qA, qB, qC, Act.put, qD, qE, qF]
  refine wpAnyH_take (i := 1) (v := ?_) rfl (by kernel_rfl) (by kernel_rfl) (by kernel_rfl) (fun _ _ _ h => h) (Or.inl ⟨by rfl, ?_⟩) trivial ?_
  rotate_left 1
  · intro W hSW; clear hSW; go_simp; try with_reducible rfl
  simp only [qA, qB, qC, Act.put, qD, qE, qF]
  refine wpAnyH_ready (rs := [2]) (by kernel_rfl) (by simp) ?_
  refine AllReadyH.cons rfl (fun K' hK' => ?_) AllReadyH.nil
  rw [if_pos (by rfl)]
  refine Lib.wp_copy_run _ (.tmp 20) (.tmp 21) 85 85 rfl _ _ rfl rfl hrun2 ?_
  clear hrun2
  refine hK'.out _ _ trivial (fun _ => ?_)
  clear hK' K'
  try simp only [qA, qB, qC, Act.put, qD, qE, qF]
  refine ⟨by kernel_rfl, ?_⟩
  refine NoPanic.normal ?_
  try simp only [qA, qB, qC, Act.put, qD, qE, qF]
  generalize wC.drew.setCells w3.heap.size 19 (bytesV ((numsOf N).take 13)) = wD at *
  have hq7 : w.heap.size + 1 ≠ w3.heap.size := by have := HS2.out; rw [HS3.out]; omega
  have hq7' : w.heap.size + 1 + 1 ≠ w3.heap.size := by have := HS2.out; rw [HS3.out]; omega
  have hq6 : w.heap.size + 1 ≠ w2.heap.size := by have := HS2.out; omega
  have hq6' : w.heap.size + 1 + 1 ≠ w2.heap.size := by have := HS2.out; omega
  have HIB : Hid ((Tryz.prog.info? 254).map (·.size) = some (bytesV pk).length) := info_dblk pk hpl
  have J0 : wD.drew.rangeAt w3.heap.size 0 (bytesV pk) ∧ wD.drew.rangeAt w2.heap.size 0 (hV N) := ⟨by rw [World.rangeAt_drew]; exact hr7, by rw [World.rangeAt_drew]; exact hr6'⟩
  have HBD : Hid (Below w.heap.size w wD) := hBD
  clear hr7 hr6' hlt hrun hr3 ht3 hb3 hB3 cA fA hBC htC htq hBD
  go_wp2_with fail
  refine wp_region_noPanic ?_
  refine wp_region_held_drew (S := fun W => W.rangeAt w3.heap.size 0 (bytesV pk) ∧ W.rangeAt w2.heap.size 0 (hV N)) (by kernel_rfl) J0 (fun _ => ?_)
  refine wpAnyH_take (i := 0) (v := .agg (bytesV pk).toArray) rfl (by kernel_rfl) (by kernel_rfl) (by kernel_rfl) (fun _ _ _ h => h) (yieldsIf_load_mid (by rfl) 254 _ rfl w3.heap.size 0 rfl (bytesV pk) _ (fun W hW => hW.1) Tryz.underlying254 rfl HIB.out) J0 ?_
  simp only [qA, qB, qC, Act.put, qD, qE, qF]
  refine wpAnyH_take (i := 1) (v := .agg (hV N).toArray) rfl (by kernel_rfl) (by kernel_rfl) (by kernel_rfl) (fun _ _ _ h => h) (yieldsIf_load_mid (by rfl) 104 _ rfl w2.heap.size 0 rfl (hV N) _ (fun W hW => hW.2) Tryz.underlying104 rfl HIN.out) J0 ?_
  simp only [qA, qB, qC, Act.put, qD, qE, qF]
  have e128 : (bytesV pk).toArray.size = 128 := by rw [List.size_toArray, bytesV_length, hpl]
  have e32 : (hV N).toArray.size = 32 := by rw [List.size_toArray, hV_len hN32]
  have T4a : wD.drew.there (w.heap.size + 1) 0 128 := HD1.out
  have T5a : wD.drew.there (w.heap.size + 1 + 1) 0 32 := HD2.out
  have T5b : (wD.drew.setCells (w.heap.size + 1) 0 (bytesV pk)).there (w.heap.size + 1 + 1) 0 32 := World.there_setCells T5a _ _ _
  have J4 : (wD.drew.setCells (w.heap.size + 1) 0 (bytesV pk)).rangeAt w3.heap.size 0 (bytesV pk) ∧ (wD.drew.setCells (w.heap.size + 1) 0 (bytesV pk)).rangeAt w2.heap.size 0 (hV N) := ⟨World.rangeAt_setCells_apart J0.1 _ _ _ (Or.inl hq7.symm), World.rangeAt_setCells_apart J0.2 _ _ _ (Or.inl hq6.symm)⟩
  have J45 : ((wD.drew.setCells (w.heap.size + 1) 0 (bytesV pk)).setCells (w.heap.size + 1 + 1) 0 (hV N)).rangeAt w3.heap.size 0 (bytesV pk) ∧ ((wD.drew.setCells (w.heap.size + 1) 0 (bytesV pk)).setCells (w.heap.size + 1 + 1) 0 (hV N)).rangeAt w2.heap.size 0 (hV N) := ⟨World.rangeAt_setCells_apart J4.1 _ _ _ (Or.inl hq7'.symm), World.rangeAt_setCells_apart J4.2 _ _ _ (Or.inl hq6'.symm)⟩
  have R4 : (wD.drew.setCells (w.heap.size + 1) 0 (bytesV pk)).rangeAt (w.heap.size + 1) 0 (bytesV pk) := World.rangeAt_setCells_same _ _ _ _ (by rw [bytesV_length, hpl]; exact T4a)
  refine wpAnyH_ready (rs := [2]) (by kernel_rfl) (by simp) ?_
  refine AllReadyH.cons rfl (fun K' hK' => ?_) AllReadyH.nil
  · rw [if_pos (by rfl)]
    refine wp_store_mid 254 _ _ rfl (w.heap.size + 1) 0 (bytesV pk).toArray rfl rfl (by rw [e128]; exact T4a) (by rw [List.size_toArray]; exact HIB.out) (all_oneCell_toArray (bytesV_one pk)) ?_
    rw [List.toList_toArray]
    refine hK'.out _ _ J4 (fun _ => ?_)
    clear hK' K'
    try simp only [qA, qB, qC, Act.put, qD, qE, qF]
    refine wpAnyH_ready (rs := [3]) (by kernel_rfl) (by simp) ?_
    refine AllReadyH.cons rfl (fun K' hK' => ?_) AllReadyH.nil
    rw [if_pos (by rfl)]
    refine wp_store_mid 104 _ _ rfl (w.heap.size + 1 + 1) 0 (hV N).toArray rfl rfl (by rw [e32]; exact T5b) (by rw [List.size_toArray]; exact HIN.out) (all_oneCell_toArray (hV_one N)) ?_
    rw [List.toList_toArray]
    refine hK'.out _ _ J45 (fun _ => ?_)
    clear hK' K'
    try simp only [qA, qB, qC, Act.put, qD, qE, qF]
    refine ⟨by kernel_rfl, ?_⟩
    refine NoPanic.normal ?_
    try simp only [qA, qB, qC, Act.put, qD, qE, qF]
    go_wp2_with fail
    exact ret_cell_cell rfl (w.heap.size + 1) 0 (w.heap.size + 1 + 1) 0 (bytesV pk) (hV N) _ _ rfl rfl (World.rangeAt_setCells_apart R4 _ _ _ (Or.inl (by omega))) (World.rangeAt_setCells_same _ _ _ _ (by rw [hV_len hN32]; exact T5b)) Tryz.underlying254 rfl HIB.out Tryz.underlying104 rfl HIN.out rfl ⟨by rw [HPK.out, HN.out], below_setCells (by omega) _ _ _ (below_setCells (by omega) _ _ _ HBD.out.drew)⟩
end Go.Proofs.YteglimjonofdeaaGreatDoor
