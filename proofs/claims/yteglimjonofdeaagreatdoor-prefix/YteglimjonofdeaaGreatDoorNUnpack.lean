import Derived.Test.YteglimjonofdeaaGreatDoorNPack
set_option linter.unusedVariables false
set_option linter.unusedSimpArgs false
namespace Go.Proofs.YteglimjonofdeaaGreatDoor
open Go.RowKit

theorem alloc_s32 (w : World) : (Instr.alloc 103 true (.tuple #[])).run Tryz.prog w = .ok (.pointer (some ⟨w.heap.size, 0, none⟩)) (w.alloc (.cells z32.toArray 103)) := by kernel_rfl
theorem build_h32 (w : World) : (Instr.build 104 #[]).run Tryz.prog w = .ok (.agg z32.toArray) w := by kernel_rfl
theorem arr_at (q : Nat) (w : World) : (Instr.arrayAt 103 (.slice (some ⟨q, 0, none⟩) 32 128)).run Tryz.prog w = .ok (.pointer (some ⟨q, 0, none⟩)) w := by kernel_rfl
theorem info_s32 (s : List Int) (h : s.length = 32) : (Tryz.prog.info? 103).map (·.size) = some (bytesV s).length := by rw [bytesV_length, h]; kernel_rfl
theorem sec_eq (a b : List Int) (ha : a.length = 32) (hb : b.length = 32) (ra : ∀ x ∈ a, 0 ≤ x ∧ x < 256) (rb : ∀ x ∈ b, 0 ≤ x ∧ x < 256) (w : World) : (Op.equalIn 10000 103 (.agg (bytesV a).toArray) (.agg (bytesV b).toArray)).run Tryz.prog w = .ok (decide (a = b)) w := by
  have sa : (strOfNums a).data.toList.length = 32 := by rw [← Lib.size_eq, strOfNums_size, ha]
  have sb : (strOfNums b).data.toList.length = 32 := by rw [← Lib.size_eq, strOfNums_size, hb]
  have := run_equalIn_bytes (P := Tryz.prog) w 9998 103 5 32 Tryz.underlying103 Tryz.underlying5 size_byte (strOfNums a).data.toList (strOfNums b).data.toList sa sb
  have e : ∀ t : ByteArray, (t.data.toList.map Extern.Stop.cell) = bytesV (numsOf t) := fun t => by unfold bytesV numsOf; rw [List.map_map]; rfl
  rw [e, e, nums_str a ra, nums_str b rb] at this
  have e2 : ((strOfNums a).data.toList == (strOfNums b).data.toList) = decide (a = b) := by
    rw [Bool.eq_iff_iff]
    simp only [beq_iff_eq, decide_eq_true_eq]
    constructor
    · intro h
      have h2 : strOfNums a = strOfNums b := ByteArray.ext (Array.toList_inj.1 h)
      rw [← nums_str a ra, h2, nums_str b rb]
    · rintro rfl; rfl
  rw [e2] at this
  exact this

set_option maxRecDepth 10000 in
set_option maxHeartbeats 400000 in
theorem sector_any (b : List Int) (hb : b.length = 128) (w : World) : Calls Tryz.prog 186 #[.agg (bytesV b).toArray] w fun e w' => e = .returned (.agg (bytesV (b.take 32)).toArray) ∧ Below w.heap.size w w' := by
  have hl : (b.take 32).length = 32 := by rw [List.length_take, hb]; rfl
  have hB : Below w.heap.size w ((w.alloc (.cells (bytesV b).toArray 254)).alloc (.cells z32.toArray 103)) := ((Below.refl _ _).alloc (Nat.le_refl _) _).alloc (by simp) _
  have hr : ((w.alloc (.cells (bytesV b).toArray 254)).alloc (.cells z32.toArray 103)).rangeAt w.heap.size 0 (bytesV (b.take 32)) := fun j v hv => by
    refine World.rangeAt_alloc (range_new w (bytesV b) 254) _ j v ?_
    unfold bytesV at hv ⊢
    rw [List.getElem?_map, List.getElem?_take] at hv
    split at hv
    · rw [List.getElem?_map]; exact hv
    · cases hv
  have ht : ((w.alloc (.cells (bytesV b).toArray 254)).alloc (.cells z32.toArray 103)).there (w.heap.size + 1) 0 (bytesV (b.take 32)).length := by
    rw [bytesV_length, hl]
    have h := there_new (w.alloc (.cells (bytesV b).toArray 254)) z32.toArray 103
    have e : z32.toArray.size = 32 := by decide +kernel
    rw [e] at h
    simpa using h
  have HI : Hid ((Tryz.prog.info? 103).map (·.size) = some (bytesV (b.take 32)).length) := info_s32 _ hl
  obtain ⟨s, hs⟩ : ∃ s, s = b.take 32 := ⟨_, rfl⟩
  have HS : Hid (s = b.take 32) := hs
  rw [← hs] at hr ht HI
  clear hs hl
  have haa := arr_at w.heap.size
  go_enter Tryz.func186, Tryz.ntmps186
  go_wp2_with (first
    | (refine wpList_alloc_of rfl 103 rfl z32.toArray alloc_s32 ?_)
    | (refine wpList_load_mid rfl 103 _ rfl w.heap.size 0 rfl (bytesV s) _ hr Tryz.underlying103 rfl HI.out ?_)
    | (refine wpList_store_abs rfl 103 _ _ rfl (w.heap.size + 1) 0 (bytesV s) rfl rfl ht HI.out (bytesV_one s) ?_; intro w2 _hw2 hr2 _ht2 hb2; clear _hw2 _ht2))
  exact ret_cell rfl (w.heap.size + 1) 0 (bytesV s) _ rfl hr2 Tryz.underlying103 rfl HI.out rfl ⟨by rw [HS.out], hB.trans (hb2 _ (by omega))⟩

theorem results_tmp_cell_tmp {fn : Func} {p u v : Tmp} {ty : TypeId} (h : fn.results = #[.tmp p, .cell u ty, .tmp v]) (tmps : Array Value) (P : Program) (w : World) :
    (results fn tmps).run P w = ((asAddr (tmps.getD u undef)).run P w).andThen fun a w1 => ((loadVar ty a).run P w1).andThen fun x w2 => .ok (.tuple #[tmps.getD p undef, x, tmps.getD v undef]) w2 := by
  simp only [results, h]
  simp [Sem.run_bind, Result.andThen]
/-- Three results, the second a row in memory. -/
theorem ret_tmp_cell_tmp {P : Program} {fn : Func} {R : Ending → World → Prop} {a : Act} {w : World} {p u v : Tmp} {ty : TypeId} (h : fn.results = #[.tmp p, .cell u ty, .tmp v]) (x y : Value) (b o : Nat) (cs : List Value) (d : TypeDesc)
    (hp : a.tmps.getD p undef = x) (hv : a.tmps.getD v undef = y) (hu' : a.tmps.getD u undef = .pointer (some ⟨b, o, none⟩)) (hc : w.rangeAt b o cs) (hu : P.underlying ty = some d) (hd : d.isRow = true) (hi : (P.info? ty).map (·.size) = some cs.length)
    (hdf : a.defers = []) (hR : R (.returned (.tuple #[x, .agg cs.toArray, y])) w) : bodyPost P fn R .ret a w := by
  refine bodyPost_ret (v := .tuple #[x, .agg cs.toArray, y]) ?_ hdf hR
  rw [results_tmp_cell_tmp h, hp, hu', hv]
  simp [asAddr, run_loadVar_mid w b o ty cs d hc hu hd hi]
theorem info_z32 : (Tryz.prog.info? 104).map (·.size) = some z32.length := by rw [show z32.length = 32 by decide +kernel]; exact info_hash
theorem z32_one : ∀ u ∈ z32, u.oneCell' = true := bytesV_one _

theorem slice_rec (q n : Nat) (hn : n ≤ 18) (w : World) : (Instr.sliceAt 254 (.pointer (some ⟨q, 0, none⟩)) (some (.int .i64 1)) (some (.int .i64 (1 + (n : Int)))) none).run Tryz.prog w = .ok (.slice (some ⟨q, 1, none⟩) n 127) w := by
  obtain rfl | rfl | rfl | rfl | rfl | rfl | rfl | rfl | rfl | rfl | rfl | rfl | rfl | rfl | rfl | rfl | rfl | rfl | rfl : n = 0 ∨ n = 1 ∨ n = 2 ∨ n = 3 ∨ n = 4 ∨ n = 5 ∨ n = 6 ∨ n = 7 ∨ n = 8 ∨ n = 9 ∨ n = 10 ∨ n = 11 ∨ n = 12 ∨ n = 13 ∨ n = 14 ∨ n = 15 ∨ n = 16 ∨ n = 17 ∨ n = 18 := by omega
  all_goals kernel_rfl
/-- What a block's record is, if it stands behind a link. -/
def unpackV (K : Nat → Int) (l rec : ByteArray) (ok : Bool) : Value :=
  if ok then .tuple #[.string rec, .agg (hV (sumOf K (l ++ rec))).toArray, .bool true] else .tuple #[.string ⟨#[]⟩, .agg z32.toArray, .bool false]

set_option maxRecDepth 10000 in
set_option maxHeartbeats 1000000 in
theorem unpack_any (K : Nat → Int) (l rec : ByteArray) (b : List Int) (w : World) (hl : l.size = 32) (hr : rec.size ≤ 18) (hb : b.length = 128) (hbr : ∀ x ∈ b, 0 ≤ x ∧ x < 256) (hb0 : b[0]? = some (rec.size : Int)) (hbs : (b.drop 1).take rec.size = numsOf rec) (T : Tab K w) :
    Calls Tryz.prog 180 #[.agg (hV l).toArray, .agg (bytesV b).toArray] w fun e w' => e = .returned (unpackV K l rec (decide (b.take 32 = (packN K l rec).take 32))) ∧ Below w.heap.size w w' := by
  obtain ⟨W0, hW0⟩ : ∃ W0, W0 = ((w.alloc (.cells (hV l).toArray 104)).alloc (.cells (bytesV b).toArray 254)).alloc (.cells z32.toArray 104) := ⟨_, rfl⟩
  have hs0 : W0.heap.size = w.heap.size + 3 := by rw [hW0]; simp
  have hB0 : Below w.heap.size w W0 := by rw [hW0]; exact (((Below.refl _ _).alloc (Nat.le_refl _) _).alloc (by simp) _).alloc (by simp; omega) _
  have hr0 : W0.rangeAt w.heap.size 0 (hV l) := by rw [hW0]; exact World.rangeAt_alloc (World.rangeAt_alloc (range_new _ _ _) _) _
  have hr1 : W0.rangeAt (w.heap.size + 1) 0 (bytesV b) := by
    rw [hW0]; have := World.rangeAt_alloc (range_new (w.alloc (.cells (hV l).toArray 104)) (bytesV b) 254) (.cells z32.toArray 104); simpa using this
  have ht2 : W0.there (w.heap.size + 1 + 1) 0 32 := by
    rw [hW0]; have := there_z32 ((w.alloc (.cells (hV l).toArray 104)).alloc (.cells (bytesV b).toArray 254)); simpa using this
  have c0 : W0.cell? ⟨w.heap.size + 1, 0, none⟩ = some (.int .u8 (rec.size : Int)) := by
    have := hr1 0 (.int .u8 (rec.size : Int)) (by unfold bytesV; rw [List.getElem?_map, hb0]; rfl)
    rwa [Nat.zero_add] at this
  have hcv : (convert 85 9 (.slice (some ⟨w.heap.size + 1, 1, none⟩) rec.size 127)).run Tryz.prog W0 = .ok (.string rec) W0 := by
    have := run_convert_bytes_arg (P := Tryz.prog) W0 85 5 Tryz.underlying85 Tryz.underlying5 (w.heap.size + 1) 1 rec.size 127 (numsOf rec) (by rw [numsOf_length]) (fun i hi => by
      have h2 : b[1 + i]? = some ((numsOf rec).getD i 0) := by
        have h3 : ((b.drop 1).take rec.size)[i]? = (numsOf rec)[i]? := by rw [hbs]
        rw [List.getElem?_take_of_lt hi, List.getElem?_drop] at h3
        rw [h3, List.getD_eq_getElem?_getD, List.getElem?_eq_getElem (by rw [numsOf_length]; exact hi)]; rfl
      have := hr1 (1 + i) (.int .u8 ((numsOf rec).getD i 0)) (by unfold bytesV; rw [List.getElem?_map, h2]; rfl)
      rwa [Nat.zero_add] at this) 9 Tryz.underlying9
    rw [str_nums] at this
    exact this
  have hpk := pack_any K l rec W0 hl hr (T.below hB0)
  have HW0 : Hid (Tab K W0) := T.below hB0
  clear T
  obtain ⟨N, hN⟩ : ∃ N, N = sumOf K (l ++ rec) := ⟨_, rfl⟩
  have hN32 : N.size = 32 := by rw [hN]; exact sumOf_size K _
  have HN : Hid (N = sumOf K (l ++ rec)) := hN
  obtain ⟨pk, hpe⟩ : ∃ pk, pk = packN K l rec := ⟨_, rfl⟩
  have hpl : pk.length = 128 := by rw [hpe]; exact packN_len K l rec hr
  have HPE : Hid (pk = packN K l rec) := hpe
  have hpr : ∀ x ∈ pk, 0 ≤ x ∧ x < 256 := by
    rw [hpe]; unfold packN
    intro x hx
    simp only [List.mem_cons, List.mem_append] at hx
    rcases hx with rfl | hx | hx | hx | hx
    · omega
    · exact nums_range _ x hx
    · rw [List.eq_of_mem_replicate hx]; omega
    · exact nums_range _ x (List.mem_of_mem_take hx)
    · rw [List.eq_of_mem_replicate hx]; omega
  have hpk' : Calls Tryz.prog 161 #[.agg (hV l).toArray, .string rec] W0 fun e w' => e = .returned (.tuple #[.agg (bytesV pk).toArray, .agg (hV N).toArray]) ∧ Below W0.heap.size W0 w' := hpk.mono (fun e w' ⟨h1, h2⟩ => ⟨by rw [h1, hpe, hN], h2⟩)
  clear hpk
  have HIL : Hid ((Tryz.prog.info? 104).map (·.size) = some (hV l).length) := hV_info hl
  have HIN : Hid ((Tryz.prog.info? 104).map (·.size) = some (hV N).length) := hV_info hN32
  have HIB : Hid ((Tryz.prog.info? 254).map (·.size) = some (bytesV b).length) := info_dblk b hb
  have HIP : Hid ((Tryz.prog.info? 254).map (·.size) = some (bytesV pk).length) := info_dblk pk hpl
  have heq := sec_eq (b.take 32) (pk.take 32) (by rw [List.length_take, hb]; rfl) (by rw [List.length_take, hpl]; rfl) (fun x hx => hbr x (List.mem_of_mem_take hx)) (fun x hx => hpr x (List.mem_of_mem_take hx))
  have heq' : ∀ W, (Op.equal 103 (.agg (bytesV (b.take 32)).toArray) (.agg (bytesV (pk.take 32)).toArray)).run Tryz.prog W = .ok (decide (b.take 32 = pk.take 32)) W := heq
  obtain ⟨same, hsm⟩ : ∃ same, same = decide (b.take 32 = pk.take 32) := ⟨_, rfl⟩
  rw [← hpe, ← hsm]
  rw [← hsm] at heq heq'
  have HEQ : Hid ((∀ W, (Op.equalIn 10000 103 (.agg (bytesV (b.take 32)).toArray) (.agg (bytesV (pk.take 32)).toArray)).run Tryz.prog W = .ok same W) ∧ ∀ W, (Op.equal 103 (.agg (bytesV (b.take 32)).toArray) (.agg (bytesV (pk.take 32)).toArray)).run Tryz.prog W = .ok same W) := ⟨heq, heq'⟩
  have hrs : ¬ (18 : Int) < (rec.size : Int) := by omega
  have hsl := slice_rec (w.heap.size + 1) rec.size hr
  clear heq heq' hsm hpe hN hpr hbs hb0 hbr
  go_enter Tryz.func180, Tryz.ntmps180
  go_wp2_with (first
    | (refine wpList_alloc_of rfl 104 rfl z32.toArray alloc_32 ?_; rw [← hW0]; clear hW0)
    | (refine wpList_load_mid rfl 104 _ rfl w.heap.size 0 rfl (hV l) _ hr0 Tryz.underlying104 rfl HIL.out ?_))
  refine hpk'.mono ?_
  rintro e w1 ⟨rfl, hb1⟩
  clear hpk' hcv hsl c0 hr0
  have hz1 : w.heap.size + 3 ≤ w1.heap.size := by have := hb1.size; omega
  have HB1 : Hid (Below w.heap.size w w1) := hB0.trans (hb1.mono hB0.size)
  have hr1' : w1.rangeAt (w.heap.size + 1) 0 (bytesV b) := fun j v hv => (hb1.cell (p := ⟨w.heap.size + 1, 0 + j, none⟩) (by show w.heap.size + 1 < _; omega)).trans (hr1 j v hv)
  have ht2' : w1.there (w.heap.size + 1 + 1) 0 32 := there_below hb1 (by omega) ht2
  have ht9 : ((w1.alloc (.cells zB.toArray 254)).alloc (.cells z32.toArray 104)).there w1.heap.size 0 (bytesV pk).length := by rw [bytesV_length, hpl]; exact World.there_alloc (there_blk w1) _
  have ht10 : ((w1.alloc (.cells zB.toArray 254)).alloc (.cells z32.toArray 104)).there (w1.heap.size + 1) 0 (hV N).length := by rw [hV_len hN32]; have := there_z32 (w1.alloc (.cells zB.toArray 254)); simpa using this
  clear hr1 ht2 hb1 hB0 hs0
  go_wp2_with (first
    | (refine wpList_alloc_of rfl 254 rfl zB.toArray alloc_blk ?_)
    | (refine wpList_alloc_of rfl 104 rfl z32.toArray alloc_32 ?_)
    | (refine wpList_store_abs rfl 254 _ _ rfl w1.heap.size 0 (bytesV pk) rfl rfl ht9 HIP.out (bytesV_one pk) ?_
       intro w2 hw2 hr9 _ht9 hb2
       have ht10' : w2.there (w1.alloc (.cells zB.toArray 254)).heap.size 0 (hV N).length := (by rw [hw2, show (w1.alloc (.cells zB.toArray 254)).heap.size = w1.heap.size + 1 by simp]; exact World.there_setCells ht10 _ _ _)
       clear hw2 _ht9)
    | (refine wpList_store_abs rfl 104 _ _ rfl (w1.alloc (.cells zB.toArray 254)).heap.size 0 (hV N) rfl rfl ht10' HIN.out (hV_one N) ?_
       intro w3 hw3 hr10 _ht10 hb3
       rw [show (w1.alloc (.cells zB.toArray 254)).heap.size = w1.heap.size + 1 by simp] at hw3 hr10 hb3
       have hr9' : w3.rangeAt w1.heap.size 0 (bytesV pk) := (by rw [hw3]; exact World.rangeAt_setCells_apart hr9 _ _ _ (Or.inl (by omega)))
       clear hw3 _ht10))
  have hB3 : Below w1.heap.size w1 w3 := (((Below.refl _ _).alloc (Nat.le_refl _) _).alloc (by simp) _).trans ((hb2 _ (Nat.le_refl _)).trans (hb3 _ (by omega)))
  have hs3 : w1.heap.size + 2 ≤ w3.heap.size := by
    have h1 := (hb2 0 (Nat.zero_le _)).size
    have h2 := (hb3 0 (Nat.zero_le _)).size
    simp at h1; omega
  have hr1q : w3.rangeAt (w.heap.size + 1) 0 (bytesV b) := fun j v hv => (hB3.cell (p := ⟨w.heap.size + 1, 0 + j, none⟩) (by show w.heap.size + 1 < _; omega)).trans (hr1' j v hv)
  have ht2q : w3.there (w.heap.size + 1 + 1) 0 32 := there_below hB3 (by omega) ht2'
  have HB3 : Hid (Below w.heap.size w w3) := HB1.out.trans (hB3.mono (by omega))
  clear hb2 hb3 hr9 hr1' ht2' ht9 ht10 ht10' hB3
  have J0 : w3.drew.rangeAt (w.heap.size + 1) 0 (bytesV b) ∧ w3.drew.rangeAt w1.heap.size 0 (bytesV pk) := ⟨by rw [World.rangeAt_drew]; exact hr1q, by rw [World.rangeAt_drew]; exact hr9'⟩
  refine wp_region_noPanic ?_
  refine wp_region_held_drew (S := fun W => W.rangeAt (w.heap.size + 1) 0 (bytesV b) ∧ W.rangeAt w1.heap.size 0 (bytesV pk)) (by kernel_rfl) J0 (fun _ => ?_)
  refine wpAnyH_take (i := 0) (v := .agg (bytesV b).toArray) rfl (by kernel_rfl) (by kernel_rfl) (by kernel_rfl) (fun _ _ _ h => h) (yieldsIf_load_mid (by rfl) 254 _ rfl (w.heap.size + 1) 0 rfl (bytesV b) _ (fun W hW => hW.1) Tryz.underlying254 rfl HIB.out) J0 ?_
  simp only [qA, qB, qC, Act.put, qD, qE, qF]
  refine wpAnyH_take (i := 2) (v := .agg (bytesV pk).toArray) rfl (by kernel_rfl) (by kernel_rfl) (by kernel_rfl) (fun _ _ _ h => h) (yieldsIf_load_mid (by rfl) 254 _ rfl w1.heap.size 0 rfl (bytesV pk) _ (fun W hW => hW.2) Tryz.underlying254 rfl HIP.out) J0 ?_
  simp only [qA, qB, qC, Act.put, qD, qE, qF]
  refine wpAnyH_ready (rs := [1]) (by kernel_rfl) (by simp) ?_
  refine AllReadyH.cons rfl (fun K' hK' => ?_) AllReadyH.nil
  rw [if_pos (by rfl)]
  go_simp
  refine (sector_any b hb _).mono ?_
  rintro e w4 ⟨rfl, hb4⟩
  have hb4' : Below w3.heap.size w3 w4 := (Below.refl _ _).drew.trans hb4
  have J4 : w4.rangeAt (w.heap.size + 1) 0 (bytesV b) ∧ w4.rangeAt w1.heap.size 0 (bytesV pk) := ⟨fun j v hv => (hb4'.cell (p := ⟨w.heap.size + 1, 0 + j, none⟩) (by show w.heap.size + 1 < _; omega)).trans (hr1q j v hv), fun j v hv => (hb4'.cell (p := ⟨w1.heap.size, 0 + j, none⟩) (by show w1.heap.size < _; omega)).trans (hr9' j v hv)⟩
  refine hK'.out _ _ J4 (fun _ => ?_)
  clear hK' K'
  try simp only [qA, qB, qC, Act.put, qD, qE, qF]
  refine wpAnyH_ready (rs := [3]) (by kernel_rfl) (by simp) ?_
  refine AllReadyH.cons rfl (fun K' hK' => ?_) AllReadyH.nil
  rw [if_pos (by rfl)]
  go_simp
  refine (sector_any pk hpl _).mono ?_
  rintro e w5 ⟨rfl, hb5⟩
  have hb5' : Below w3.heap.size w3 w5 := hb4'.trans (hb5.mono hb4'.size)
  have J5 : w5.rangeAt (w.heap.size + 1) 0 (bytesV b) ∧ w5.rangeAt w1.heap.size 0 (bytesV pk) := ⟨fun j v hv => (hb5'.cell (p := ⟨w.heap.size + 1, 0 + j, none⟩) (by show w.heap.size + 1 < _; omega)).trans (hr1q j v hv), fun j v hv => (hb5'.cell (p := ⟨w1.heap.size, 0 + j, none⟩) (by show w1.heap.size < _; omega)).trans (hr9' j v hv)⟩
  refine hK'.out _ _ J5 (fun _ => ?_)
  clear hK' K'
  try simp only [qA, qB, qC, Act.put, qD, qE, qF]
  have ht5 : w5.there (w.heap.size + 1 + 1) 0 32 := there_below hb5' (by omega) ht2q
  have hr10' : w5.rangeAt (w1.heap.size + 1) 0 (hV N) := fun j v hv => (hb5'.cell (p := ⟨w1.heap.size + 1, 0 + j, none⟩) (by show w1.heap.size + 1 < _; omega)).trans (hr10 j v hv)
  have HB5 : Hid (Below w.heap.size w w5) := HB3.out.trans (hb5'.mono (by omega))
  clear hr1q hr9' hr10 ht2q hb4 hb4' hb5 hb5' J4 J0
  obtain ⟨heq1, heq2⟩ := HEQ.out
  clear HEQ
  cases same with
  | true =>
    refine wpAnyH_take (i := 4) (v := ?_) rfl (by kernel_rfl) (by kernel_rfl) (by kernel_rfl) (fun _ _ _ h => h) (Or.inl ⟨by rfl, ?_⟩) J5 ?_
    rotate_left 1
    · intro W hSW; clear hSW; go_simp; try with_reducible rfl
    simp only [qA, qB, qC, Act.put, qD, qE, qF]
    refine ⟨by kernel_rfl, ?_⟩
    refine NoPanic.normal ?_
    try simp only [qA, qB, qC, Act.put, qD, qE, qF]
    clear heq1 heq2 J5
    have J6 : w5.drew.rangeAt (w1.heap.size + 1) 0 (hV N) := by rw [World.rangeAt_drew]; exact hr10'
    have ht5d : w5.drew.there (w.heap.size + 1 + 1) 0 32 := ht5
    have hne : w1.heap.size + 1 ≠ w.heap.size + 1 + 1 := by omega
    have e32 : (hV N).toArray.size = 32 := by rw [List.size_toArray, hV_len hN32]
    go_wp2_with fail
    refine wp_region_noPanic ?_
    refine wp_region_held_drew (S := fun W => W.rangeAt (w1.heap.size + 1) 0 (hV N)) (by kernel_rfl) J6 (fun _ => ?_)
    refine wpAnyH_take (i := 0) (v := ?_) rfl (by kernel_rfl) (by kernel_rfl) (by kernel_rfl) (fun _ _ _ h => h) (Or.inl ⟨by rfl, ?_⟩) J6 ?_
    rotate_left 1
    · intro W hSW; clear hSW; go_simp; try with_reducible rfl
    simp only [qA, qB, qC, Act.put, qD, qE, qF]
    refine wpAnyH_take (i := 1) (v := .agg (hV N).toArray) rfl (by kernel_rfl) (by kernel_rfl) (by kernel_rfl) (fun _ _ _ h => h) (yieldsIf_load_mid (by rfl) 104 _ rfl (w1.heap.size + 1) 0 rfl (hV N) _ (fun W hW => hW) Tryz.underlying104 rfl HIN.out) J6 ?_
    simp only [qA, qB, qC, Act.put, qD, qE, qF]
    refine wpAnyH_take (i := 2) (v := ?_) rfl (by kernel_rfl) (by kernel_rfl) (by kernel_rfl) (fun _ _ _ h => h) (Or.inl ⟨by rfl, ?_⟩) J6 ?_
    rotate_left 1
    · intro W hSW; clear hSW; go_simp; try with_reducible rfl
    simp only [qA, qB, qC, Act.put, qD, qE, qF]
    refine wpAnyH_ready (rs := [3]) (by kernel_rfl) (by simp) ?_
    refine AllReadyH.cons rfl (fun K' hK' => ?_) AllReadyH.nil
    rw [if_pos (by rfl)]
    refine wp_store_mid 104 _ _ rfl (w.heap.size + 1 + 1) 0 (hV N).toArray rfl rfl (by rw [e32]; exact ht5d) (by rw [List.size_toArray]; exact HIN.out) (all_oneCell_toArray (hV_one N)) ?_
    rw [List.toList_toArray]
    have J7 : (w5.drew.setCells (w.heap.size + 1 + 1) 0 (hV N)).rangeAt (w1.heap.size + 1) 0 (hV N) := World.rangeAt_setCells_apart J6 _ _ _ (Or.inl hne)
    have J8 : (w5.drew.setCells (w.heap.size + 1 + 1) 0 (hV N)).rangeAt (w.heap.size + 1 + 1) 0 (hV N) := World.rangeAt_setCells_same _ _ _ _ (by rw [hV_len hN32]; exact ht5d)
    have J9 : Below w.heap.size w (w5.drew.setCells (w.heap.size + 1 + 1) 0 (hV N)) := below_setCells (by omega) _ _ _ HB5.out.drew
    refine hK'.out _ _ J7 (fun _ => ?_)
    clear hK' K'
    try simp only [qA, qB, qC, Act.put, qD, qE, qF]
    refine wpAnyH_take (i := 4) (v := ?_) rfl (by kernel_rfl) (by kernel_rfl) (by kernel_rfl) (fun _ _ _ h => h) (Or.inl ⟨by rfl, ?_⟩) J7 ?_
    rotate_left 1
    · intro W hSW; clear hSW; go_simp; try with_reducible rfl
    simp only [qA, qB, qC, Act.put, qD, qE, qF]
    refine ⟨by kernel_rfl, ?_⟩
    refine NoPanic.normal ?_
    try simp only [qA, qB, qC, Act.put, qD, qE, qF]
    generalize w5.drew.setCells (w.heap.size + 1 + 1) 0 (hV N) = w6 at *
    go_wp2_with fail
    exact ret_tmp_cell_tmp rfl (.string rec) (.bool true) (w.heap.size + 1 + 1) 0 (hV N) _ rfl rfl rfl J8 Tryz.underlying104 rfl HIN.out rfl ⟨by rw [HN.out]; rfl, J9⟩
  | false =>
    refine wpAnyH_take (i := 4) (v := ?_) rfl (by kernel_rfl) (by kernel_rfl) (by kernel_rfl) (fun _ _ _ h => h) (Or.inl ⟨by rfl, ?_⟩) J5 ?_
    rotate_left 1
    · intro W hSW; clear hSW; go_simp; try with_reducible rfl
    simp only [qA, qB, qC, Act.put, qD, qE, qF]
    refine ⟨by kernel_rfl, ?_⟩
    refine NoPanic.normal ?_
    try simp only [qA, qB, qC, Act.put, qD, qE, qF]
    clear heq1 heq2 J5
    have ht5z : w5.there (w.heap.size + 1 + 1) 0 z32.length := ht5
    go_wp2_with (first
      | (refine wpList_build_of rfl 104 rfl z32.toArray build_h32 ?_)
      | (refine wpList_store_abs rfl 104 _ _ rfl (w.heap.size + 1 + 1) 0 z32 rfl rfl ht5z info_z32 z32_one ?_; intro w6 _hw6 hr6 _ht6 hb6; clear _hw6 _ht6))
    exact ret_tmp_cell_tmp rfl (.string ⟨#[]⟩) (.bool false) (w.heap.size + 1 + 1) 0 z32 _ rfl rfl rfl hr6 Tryz.underlying104 rfl info_z32 rfl ⟨rfl, HB5.out.trans (hb6 _ (by omega))⟩
end Go.Proofs.YteglimjonofdeaaGreatDoor
