import Derived.Test.YteglimjonofdeaaGreatDoorNRead
import Derived.Deep.RegionLaw
import Derived.Great.BuildSlice
set_option linter.unusedVariables false
set_option linter.unusedSimpArgs false
namespace Go.Proofs.YteglimjonofdeaaGreatDoor
open Go.RowKit

theorem wpList_build_one {P : Program} {ops : Array Oper} {rest : List Oper} {op : Oper} {a : Act} {w : World} {Q : Exit → Act → World → Prop} (hgd : op.guard = none) (ty : TypeId) (x : Operand) (ho : op.op = .build ty #[(0, x)]) (v : Value) (hx : a.eval x = v) (Z : Array Value)
    (hz : ∀ w, (Instr.build ty #[(0, v)]).run P w = .ok (.agg Z) w)
    (h : wpList P ops Q rest (a.put op.dst (.agg Z)) w) : wpList P ops Q (op :: rest) a w :=
  wpList_plain hgd fun _ hK => by
    subst hx
    unfold Oper.wp
    simp only [execOp, ho, Sem.run_bind, List.map_toArray, List.map_cons, List.map_nil, hz, Result.andThen_ok, Sem.run_pure]
    exact hK _ _ h
/-- A write's cells. -/
def wrL (i : Nat) (b : List Int) : List Value := .int .i64 (i : Nat) :: bytesV b
def z128 : List Int := List.replicate 128 0
theorem wrL_len (i : Nat) (b : List Int) (h : b.length = 128) : (wrL i b).length = 129 := by unfold wrL; rw [List.length_cons, bytesV_length, h]
theorem wrL_one (i : Nat) (b : List Int) : ∀ u ∈ wrL i b, u.oneCell' = true := fun u hu => by
  rcases List.mem_cons.1 hu with rfl | h
  · rfl
  · exact bytesV_one _ u h
theorem alloc_wr (w : World) : (Instr.alloc 304 true (.tuple #[])).run Tryz.prog w = .ok (.pointer (some ⟨w.heap.size, 0, none⟩)) (w.alloc (.cells (wrL 0 z128).toArray 304)) := by kernel_rfl
theorem info_wr : (Tryz.prog.info? 304).map (·.size) = some 129 := by kernel_rfl
theorem build_wr (i : Nat) (w : World) : (Instr.build 304 #[(0, .int .i64 (i : Nat))]).run Tryz.prog w = .ok (.agg (wrL i z128).toArray) w := by kernel_rfl
theorem there_wr (w : World) (i : Nat) : (w.alloc (.cells (wrL 0 z128).toArray 304)).there w.heap.size 0 (wrL i z128).length := by
  have h := there_new w (wrL 0 z128).toArray 304
  have e : (wrL 0 z128).toArray.size = (wrL i z128).length := by rw [List.size_toArray, wrL_len 0 z128 (by decide +kernel), wrL_len i z128 (by decide +kernel)]
  rw [e] at h
  exact h
theorem info_wrI (i : Nat) : (Tryz.prog.info? 304).map (·.size) = some (wrL i z128).length := by rw [wrL_len i z128 (by decide +kernel)]; exact info_wr
theorem range_wr {w : World} {q : Nat} {i : Nat} {a b : List Int} (ha : a.length = 128) (hb : b.length = 128) (hr : w.rangeAt q 0 (wrL i a)) (ht : w.there q 0 129) : (w.setCells q 1 (bytesV b)).rangeAt q 0 (wrL i b) := by
  intro j v hv
  rw [Nat.zero_add]
  have h1 := World.rangeAt_setCells_same w q 1 (bytesV b) (fun j hj => by rw [bytesV_length, hb] at hj; have := ht (1 + j) (by omega); rwa [Nat.zero_add] at this)
  cases j with
  | zero =>
    rw [World.cell?_setCells_out q _ 1 w ⟨q, 0, none⟩ (fun _ _ => by left; show 0 < 1; omega)]
    have := hr 0 v (by unfold wrL at hv ⊢; exact hv)
    rwa [Nat.zero_add] at this
  | succ j =>
    have := h1 j v (by unfold wrL at hv; exact hv)
    rwa [Nat.add_comm] at this
theorem info_wrT : ∃ i, Tryz.prog.info? 304 = some i ∧ i.zero = some (.agg (wrL 0 z128).toArray) ∧ i.size = 129 ∧ i.bytes = 136 := by
  obtain ⟨i, hi⟩ : ∃ i, Tryz.prog.info? 304 = some i := Option.isSome_iff_exists.1 (by kernel_rfl)
  refine ⟨i, hi, ?_, ?_, ?_⟩
  · have : (Tryz.prog.info? 304).bind (·.zero) = some (.agg (wrL 0 z128).toArray) := by kernel_rfl
    rw [hi] at this; exact this
  · have : (Tryz.prog.info? 304).map (·.size) = some 129 := by kernel_rfl
    rw [hi] at this; exact Option.some.inj this
  · have : (Tryz.prog.info? 304).map (·.bytes) = some 136 := by kernel_rfl
    rw [hi] at this; exact Option.some.inj this
/-- A slice of one struct. -/
theorem run_slice_one (t e : TypeId) (cs : List Value) (ie : TypeInfo) (z : Value) (hu : Tryz.prog.underlying t = some (.slice e)) (hie : Tryz.prog.info? e = some ie) (hz : ie.zero = some z) (hl : ie.size = cs.length) (h0 : 0 < cs.length) (h1 : cs.length ≤ 1000) (w : World) :
    (Instr.buildSlice t 1 #[(0, .agg cs.toArray)]).run Tryz.prog w = .ok (.slice (some ⟨w.heap.size, 0, none⟩) 1 1) (w.alloc (.cells cs.toArray e)) := by
  refine run_buildSlice w t e 1 _ cs.toArray ie z hu hie hz (by rw [hl]; omega) (by rw [hl]; omega) ?_
  have := Great.fill_whole (s := ie.size) (by omega) [.agg cs.toArray] ((Array.range (1 * ie.size)).map (z.cells[· % z.cells.size]!)) (fun v hv => by rw [List.mem_singleton.1 hv, hl]; simp [Value.cells]) (by simp)
  simpa [Value.cells] using this
theorem wp_slice_one {o : Oper} {a : Act} {w : World} {K : Act → World → Prop} {Q : Exit → Act → World → Prop} (t e : TypeId) (x : Operand) (ho : o.op = .buildSlice t 1 #[(0, x)]) (cs : List Value) (hx : a.eval x = .agg cs.toArray)
    (hbs : ∀ w, (Instr.buildSlice t 1 #[(0, .agg cs.toArray)]).run Tryz.prog w = .ok (.slice (some ⟨w.heap.size, 0, none⟩) 1 1) (w.alloc (.cells cs.toArray e)))
    (h : K (a.put o.dst (.slice (some ⟨w.heap.size, 0, none⟩) 1 1)) (w.alloc (.cells cs.toArray e))) : o.wp Tryz.prog a w K Q := by
  unfold Oper.wp execOp
  simp only [ho, hx, Sem.run_bind, List.map_toArray, List.map_cons, List.map_nil, hbs, Result.andThen_ok]
  exact h
/-- What a write leaves. -/
def wrPost (w : World) (p bb n : Nat) (C : Nat → List Int) (cv : Value) (L : List (Nat × List Int)) (i : Nat) (b : List Int) (e : Ending) (w' : World) : Prop :=
  e = .returned .nilIface ∧ ∃ cv', DiskAt w' p bb n C cv' (L ++ [(i, b)]) ∧ (∀ g, cv'.ownBlock = some g → cv.ownBlock = some g ∨ w.heap.size ≤ g) ∧ Kept (fun g => g = p ∨ cv.ownBlock = some g) w w'

theorem cacheL_snoc (L : List (Nat × List Int)) (i : Nat) (b : List Int) : cacheL (L ++ [(i, b)]) = cacheL L ++ wrL i b := by
  unfold cacheL; rw [List.flatMap_append]; simp [wrL]
theorem write_done {w w1 w3 w5 : World} {p bb n i : Nat} {C : Nat → List Int} {cv : Value} {L : List (Nat × List Int)} {b : List Int} {c r : Int} {g5 cap5 : Nat} {o : Obj} (hi : i < n) (hb : b.length = 128) (hk1 : Kept (· = p) w w1) (D1 : DiskAt w1 p bb n C cv L) (hh1 : w1.heap[p]? = some (.cells (diskH bb n cv c r) 151 (0, 0)))
    (hB3 : Below w1.heap.size w1 w3) (hgr5 : (w3.drew.alloc o).grownBy w5 cv.ownBlock) (ho5 : w5.ownsRow 0 304 129 (.slice (some ⟨g5, 0, none⟩) (L.length + 1) cap5) (L.length + 1) (cacheL L ++ wrL i b)) (hat5 : cv.ownBlock = some g5 ∨ g5 = (w3.drew.alloc o).heap.size) (hlt5 : g5 < w5.heap.size) (x : Int) :
    wrPost w p bb n C cv L i b (.returned .nilIface) ((w5.setCell ⟨p, 1, none⟩ (.slice (some ⟨g5, 0, none⟩) (L.length + 1) cap5)).setCell ⟨p, 3, none⟩ (.int .i64 x)) := by
  have hp1 := D1.lt.1
  have hbb1 := D1.lt.2
  have hs3 := hB3.size
  have hs5 := hgr5.size
  have e5 : (w3.drew.alloc o).heap.size = w3.heap.size + 1 := by simp
  rw [e5] at hs5 hat5
  have hnp : some p ≠ cv.ownBlock := fun e => D1.apart.2.1 e.symm
  have hnb : some bb ≠ cv.ownBlock := fun e => D1.apart.2.2 e.symm
  have old : ∀ g, g < w1.heap.size → some g ≠ cv.ownBlock → w5.heap[g]? = w1.heap[g]? := fun g hg hn => (hgr5.block g (by omega) hn).trans ((heap_alloc_old w3.drew o (by show g < w3.heap.size; omega)).trans (hB3.block g hg))
  have hh5 : w5.heap[p]? = some (.cells (diskH bb n cv c r) 151 (0, 0)) := (old p hp1 hnp).trans hh1
  have hg5p : g5 ≠ p := by
    rcases hat5 with e | e
    · rintro rfl; exact hnp e.symm
    · omega
  have hg5b : g5 ≠ bb := by
    rcases hat5 with e | e
    · rintro rfl; exact hnb e.symm
    · omega
  have hsz1 := hk1.size
  have hp0 : p < w.heap.size ∨ w.heap.size ≤ p := by omega
  refine ⟨rfl, .slice (some ⟨g5, 0, none⟩) (L.length + 1) cap5, ⟨⟨c, x, ?_⟩, ?_, ?_, ⟨D1.apart.1, ?_, ?_⟩, D1.len, ?_⟩, ?_, ?_⟩
  · rw [heap_setCell_same _ p 3 _ _ _ (heap_setCell_same w5 p 1 _ _ _ hh5)]; rfl
  · rw [heap_setCell_other _ ⟨p, 3, none⟩ bb _ (fun e => D1.apart.1 e.symm), heap_setCell_other _ ⟨p, 1, none⟩ bb _ (fun e => D1.apart.1 e.symm), old bb hbb1 hnb]
    exact D1.blocks
  · rw [cacheL_snoc, List.length_append, List.length_singleton]
    refine own_sameX ho5 (fun g hg => ?_)
    obtain rfl : g5 = g := by simpa [Value.ownBlock] using hg
    rw [heap_setCell_other _ ⟨p, 3, none⟩ g5 _ hg5p, heap_setCell_other _ ⟨p, 1, none⟩ g5 _ hg5p]
  · intro e; exact hg5p (by simpa [Value.ownBlock] using e)
  · intro e; exact hg5b (by simpa [Value.ownBlock] using e)
  · intro y hy
    rcases List.mem_append.1 hy with hy | hy
    · exact D1.lens y hy
    · rw [List.mem_singleton.1 hy]; exact ⟨hi, hb⟩
  · intro g hg
    obtain rfl : g5 = g := by simpa [Value.ownBlock] using hg
    rcases hat5 with e | e
    · exact Or.inl e
    · right; omega
  · have k1 : Kept (fun g => g = p ∨ cv.ownBlock = some g) w1 w5 := ⟨hgr5.os.trans hB3.os, hgr5.tape.trans hB3.tape, hgr5.output.trans hB3.output, by omega, fun g hg hn => old g hg (fun e => hn (Or.inr e.symm))⟩
    refine (hk1.mono (fun g _ e => Or.inl e)).trans ((k1.trans (Kept.setCell (S := (· = p)) _ _ _ (Or.inl rfl)) (fun g _ e => Or.inl e)).trans (Kept.setCell (S := (· = p)) _ _ _ (Or.inl rfl)) (fun g _ e => Or.inl e)) (fun g _ h => h)

set_option maxRecDepth 10000 in
set_option maxHeartbeats 1000000 in
theorem dwrite_any (p bb n i : Nat) (C : Nat → List Int) (cv : Value) (L : List (Nat × List Int)) (b : List Int) (sb : Nat) (w : World) (hi : i < n) (hn : n ≤ 1000) (hL : L.length ≤ 100000) (hb : b.length = 128) (h : DiskAt w p bb n C cv L) (hsrc : w.rangeAt sb 0 (bytesV b)) (hsp : sb ≠ p) (hsb : sb < w.heap.size) :
    Calls Tryz.prog 211 #[.pointer (some ⟨p, 0, none⟩), .int .i64 i, .slice (some ⟨sb, 0, none⟩) 128 128] w (wrPost w p bb n C cv L i b) := by
  obtain ⟨c, r, hh⟩ := h.head
  have hf := dfails_any p bb n _ c r w hh
  obtain ⟨i0, hi9, hz9, hs9, hb9⟩ := info_wrT
  go_enter Tryz.func211, Tryz.ntmps211
  go_wp2_with fail
  refine hf.mono ?_
  rintro e w1 ⟨rfl, hw1⟩
  have hh1 : w1.heap[p]? = some (.cells (diskH bb n cv (wrap64 (c + 1)) r) 151 (0, 0)) := by rw [hw1, heap_setCell_same w p 2 _ _ _ hh]; rfl
  have hk1 : Kept (· = p) w w1 := by rw [hw1]; exact Kept.setCell _ _ _ (Or.inl rfl)
  have HD1 : Hid (DiskAt w1 p bb n C cv L) := h.turn hk1 ⟨_, _, hh1⟩
  have hsrc1 : w1.rangeAt sb 0 (bytesV b) := fun j v hv => (hk1.cell (a := ⟨sb, 0 + j, none⟩) hsb hsp).trans (hsrc j v hv)
  have hsb1 : sb < w1.heap.size := Nat.lt_of_lt_of_le hsb hk1.size
  have hno := dnone_any p bb n i _ _ r w1 hi hh1
  have HH1 : Hid (w1.heap[p]? = some (.cells (diskH bb n cv (wrap64 (c + 1)) r) 151 (0, 0))) := hh1
  clear hf hw1 hh h hh1
  go_wp2_with fail
  refine hno.mono ?_
  rintro e w1' ⟨rfl, hw⟩
  obtain rfl : w1 = w1' := hw.symm
  clear hw hno
  have htA : (w1.alloc (.cells (wrL 0 z128).toArray 304)).there w1.heap.size 0 (wrL i z128).length := there_wr w1 i
  go_wp2_with (first
    | (refine wpList_build_one rfl 304 _ rfl (.int .i64 ((i : Nat) : Int)) rfl (wrL i z128).toArray (build_wr i) ?_)
    | (refine wpList_alloc_of rfl 304 rfl (wrL 0 z128).toArray alloc_wr ?_)
    | (at_builtin; refine Lib.wpList_copy_run _ rfl _ _ 85 85 rfl _ _ rfl rfl hrun ?_)
    | (refine wpList_store_abs rfl 304 _ _ rfl w1.heap.size 0 (wrL i z128) rfl rfl htA (info_wrI i) (wrL_one i z128) ?_
       intro w2 hw2 hr2 ht2 hb2
       have HW2 : Hid (w2.heap.size = w1.heap.size + 1) := (by show _ = _; rw [hw2, size_setCells]; simp)
       clear hw2
       have hB2 : Below w1.heap.size w1 w2 := ((Below.refl _ _).alloc (Nat.le_refl _) _).trans (hb2 _ (Nat.le_refl _))
       have ht129 : w2.there w1.heap.size 0 129 := by rw [wrL_len i z128 (by decide +kernel)] at ht2; exact ht2
       have hlen : (bytesV b).length = 128 := by rw [bytesV_length, hb]
       have hsrc2 : w2.rangeAt sb 0 (bytesV b) := fun j v hv => (hB2.cell (p := ⟨sb, 0 + j, none⟩) hsb1).trans (hsrc1 j v hv)
       have hrun := run_copy_cells (P := Tryz.prog) w2 85 85 3 5 w1.heap.size 1 128 128 ⟨sb, 0, none⟩ 128 128 (bytesV b) Tryz.underlying85 (by kernel_rfl) (by rw [hlen]; rfl) (fun j v hv => by rw [addr_add]; exact hsrc2 j v hv) (fun j hj => by have := (ht129 (1 + j) (by omega)).1; rwa [Nat.zero_add] at this) (fun j hj => by have := (ht129 (1 + j) (by omega)).2; rwa [Nat.zero_add] at this) (bytesV_one _)
       rw [hlen] at hrun
       have hr3 := range_wr (a := z128) (by decide +kernel) hb hr2 ht129
       have hB3 : Below w1.heap.size w1 (w2.setCells w1.heap.size 1 (bytesV b)) := below_setCells (Nat.le_refl _) _ _ _ hB2
       have hz3 : (w2.setCells w1.heap.size 1 (bytesV b)).heap.size = w1.heap.size + 1 := by rw [size_setCells]; exact HW2.out
       generalize w2.setCells w1.heap.size 1 (bytesV b) = w3 at *
       have HZ3 : Hid (w3.heap.size = w1.heap.size + 1) := hz3
       clear hsrc2 hB2 hb2 hr2 ht2 ht129 htA hz3
       have hh3 : w3.heap[p]? = some (.cells (diskH bb n cv (wrap64 (c + 1)) r) 151 (0, 0)) := (hB3.block p HD1.out.lt.1).trans HH1.out
       have c1 : w3.cell? ⟨p, 1, none⟩ = some cv := by rw [cell_of_row w3 p 1 _ _ _ hh3]; rfl
       have f1 : w3.frozen? ⟨p, 1, none⟩ = false := frozen_of_row w3 p 1 _ _ hh3
       have hbs := run_slice_one 149 304 (wrL i b) i0 _ Tryz.underlying149 hi9 hz9 (by rw [hs9, wrL_len i b hb]) (by rw [wrL_len i b hb]; omega) (by rw [wrL_len i b hb]; omega)
       have HBS : Hid (∀ w, (Instr.buildSlice 149 1 #[(0, .agg (wrL i b).toArray)]).run Tryz.prog w = .ok (.slice (some ⟨w.heap.size, 0, none⟩) 1 1) (w.alloc (.cells (wrL i b).toArray 304))) := hbs
       have HI : Hid ((Tryz.prog.info? 304).map (·.size) = some (wrL i b).length) := (by show _ = _; rw [wrL_len i b hb]; exact info_wr)
       clear hbs
       have ho : (w3.drew.alloc (.cells (wrL i b).toArray 304)).ownsRow 0 304 129 cv L.length (cacheL L) := (own_below' HD1.out.cache hB3).drew.alloc _
       have hnews : ∀ j u, (wrL i b)[j]? = some u → (w3.drew.alloc (.cells (wrL i b).toArray 304)).cell? ((⟨w3.heap.size, 0, none⟩ : Addr).add j) = some u := World.news_of_block (heap_alloc_new w3.drew (.cells (wrL i b).toArray 304))
       have hnp : some p ≠ cv.ownBlock := fun e => HD1.out.apart.2.1 e.symm
       have hp3 : p < w3.heap.size := Nat.lt_of_lt_of_le HD1.out.lt.1 hB3.size
       have HH3 : Hid (w3.heap[p]? = some (.cells (diskH bb n cv (wrap64 (c + 1)) r) 151 (0, 0))) := hh3
       clear hh3 hsrc hsrc1))
  refine wp_region_any (by kernel_rfl) ?_
  try (change wpAny _ _ _ _ _ _ _ (World.drew _))
  refine wpAny_take (i := 0) (v := ?_) rfl (by kernel_rfl) (by kernel_rfl) (by kernel_rfl) (fun _ _ _ h => h) (Or.inl ⟨by rfl, ?_⟩) ?_
  rotate_left 1
  · intro W; go_simp; try with_reducible rfl
  simp only [qA, qB, qC, Act.put, qD, qE, qF]
  refine wpAny_take (i := 1) (v := ?_) rfl (by kernel_rfl) (by kernel_rfl) (by kernel_rfl) (fun _ _ _ h => h) (Or.inl ⟨by rfl, ?_⟩) ?_
  rotate_left 1
  · intro W; go_simp; try with_reducible rfl
  simp only [qA, qB, qC, Act.put, qD, qE, qF]
  refine wpAny_take (i := 2) (v := ?_) rfl (by kernel_rfl) (by kernel_rfl) (by kernel_rfl) (fun _ _ _ h => h) (Or.inl ⟨by rfl, ?_⟩) ?_
  rotate_left 1
  · intro W; go_simp; try with_reducible rfl
  simp only [qA, qB, qC, Act.put, qD, qE, qF]
  refine wpAny_take (i := 3) (v := ?_) rfl (by kernel_rfl) (by kernel_rfl) (by kernel_rfl) (fun _ _ _ h => h) (Or.inl ⟨by rfl, ?_⟩) ?_
  rotate_left 1
  · intro W; go_simp; try with_reducible rfl
  simp only [qA, qB, qC, Act.put, qD, qE, qF]
  refine wpAny_ready (rs := [4, 5]) (by kernel_rfl) (by simp) ?_
  refine AllReady.cons rfl (fun K hK => ?_) (AllReady.cons rfl (fun K hK => ?_) AllReady.nil)
  · rw [if_pos (by rfl)]
    go_simp
    refine hK _ _ ?_
    clear hK K
    try simp only [qA, qB, qC, Act.put, qD, qE, qF]
    refine wpAny_ready (rs := [5]) (by kernel_rfl) (by simp) ?_
    refine AllReady.cons rfl (fun K hK => ?_) AllReady.nil
    rw [if_pos (by rfl)]
    refine wp_load_mid 304 _ rfl w1.heap.size 0 rfl (wrL i b) _ (by rw [World.rangeAt_drew]; exact hr3) Tryz.underlying304 rfl HI.out ?_
    refine hK _ _ ?_
    clear hK K
    try simp only [qA, qB, qC, Act.put, qD, qE, qF]
    refine wpAny_ready (rs := [6]) (by kernel_rfl) (by simp) ?_
    refine AllReady.cons rfl (fun K hK => ?_) AllReady.nil
    rw [if_pos (by rfl)]
    refine wp_slice_one 149 304 _ rfl (wrL i b) rfl HBS.out ?_
    refine hK _ _ ?_
    clear hK K
    try simp only [qA, qB, qC, Act.put, qD, qE, qF]
    refine wpAny_ready (rs := [7]) (by kernel_rfl) (by simp) ?_
    refine AllReady.cons rfl (fun K hK => ?_) AllReady.nil
    refine step_append_lies _ rfl _ _ 149 rfl 0 304 i0 _ 129 136 Tryz.underlying149 hi9 hz9 hs9 hb9 rfl (by decide) cv L.length _ rfl ho ⟨w3.heap.size, 0, none⟩ 1 1 (wrL i b) rfl (by rw [wrL_len i b hb]) hnews (wrL_one i b) (by decide) (by unfold maxLen; omega) (by omega) (Nat.zero_le _) _ rfl ?_
    intro g5 cap5 w5 ho5 hgr5 hat5 hlt5
    have hp5 : w5.cell? ⟨p, 1, none⟩ = some cv := (hgr5.cell_far ⟨p, 1, none⟩ (by simp; omega) hnp).trans ((World.cell?_alloc_past _ _ _ hp3).trans c1)
    have hf5 : w5.frozen? ⟨p, 1, none⟩ = false := (hgr5.frozen_far ⟨p, 1, none⟩ (by simp; omega) hnp).trans ((World.frozen?_alloc_past _ _ _ hp3).trans f1)
    refine hK _ _ ?_
    clear hK K
    try simp only [qA, qB, qC, Act.put, qD, qE, qF]
    refine wpAny_take (i := 8) (v := ?_) rfl (by kernel_rfl) (by kernel_rfl) (by kernel_rfl) (fun _ _ _ h => h) (Or.inl ⟨by rfl, ?_⟩) ?_
    rotate_left 1
    · intro W; go_simp; try with_reducible rfl
    simp only [qA, qB, qC, Act.put, qD, qE, qF]
    refine wpAny_take (i := 9) (v := ?_) rfl (by kernel_rfl) (by kernel_rfl) (by kernel_rfl) (fun _ _ _ h => h) (Or.inl ⟨by rfl, ?_⟩) ?_
    rotate_left 1
    · intro W; go_simp; try with_reducible rfl
    simp only [qA, qB, qC, Act.put, qD, qE, qF]
    refine wpAny_ready (rs := [10]) (by kernel_rfl) (by simp) ?_
    refine AllReady.cons rfl (fun K hK => ?_) AllReady.nil
    rw [if_pos (by rfl)]
    go_simp
    refine hK _ _ ?_
    clear hK K
    try simp only [qA, qB, qC, Act.put, qD, qE, qF]
    refine wpAny_done (by kernel_rfl) ?_ _
    have hh5 : w5.heap[p]? = some (.cells (diskH bb n cv (wrap64 (c + 1)) r) 151 (0, 0)) := (hgr5.block p (by simp; omega) hnp).trans ((heap_alloc_old w3.drew _ (by show p < w3.heap.size; omega)).trans HH3.out)
    have hh6 := heap_setCell_same w5 p 1 _ _ (.slice (some ⟨g5, 0, none⟩) (L.length + 1) cap5) hh5
    have c3 : (w5.setCell ⟨p, 1, none⟩ (.slice (some ⟨g5, 0, none⟩) (L.length + 1) cap5)).cell? ⟨p, 3, none⟩ = some (.int .i64 r) := by rw [cell_of_row _ p 3 _ _ _ hh6]; rfl
    have f3 : (w5.setCell ⟨p, 1, none⟩ (.slice (some ⟨g5, 0, none⟩) (L.length + 1) cap5)).frozen? ⟨p, 3, none⟩ = false := frozen_of_row _ p 3 _ _ hh6
    clear hh5 hh6
    go_wp2_with fail
    go_ret
    exact write_done hi hb hk1 HD1.out HH1.out hB3 hgr5 ho5 hat5 hlt5 _
  · rw [if_pos (by rfl)]
    refine wp_load_mid 304 _ rfl w1.heap.size 0 rfl (wrL i b) _ (by rw [World.rangeAt_drew]; exact hr3) Tryz.underlying304 rfl HI.out ?_
    refine hK _ _ ?_
    clear hK K
    try simp only [qA, qB, qC, Act.put, qD, qE, qF]
    refine wpAny_ready (rs := [4, 6]) (by kernel_rfl) (by simp) ?_
    refine AllReady.cons rfl (fun K hK => ?_) (AllReady.cons rfl (fun K hK => ?_) AllReady.nil)
    · rw [if_pos (by rfl)]
      go_simp
      refine hK _ _ ?_
      clear hK K
      try simp only [qA, qB, qC, Act.put, qD, qE, qF]
      refine wpAny_ready (rs := [6]) (by kernel_rfl) (by simp) ?_
      refine AllReady.cons rfl (fun K hK => ?_) AllReady.nil
      rw [if_pos (by rfl)]
      refine wp_slice_one 149 304 _ rfl (wrL i b) rfl HBS.out ?_
      refine hK _ _ ?_
      clear hK K
      try simp only [qA, qB, qC, Act.put, qD, qE, qF]
      refine wpAny_ready (rs := [7]) (by kernel_rfl) (by simp) ?_
      refine AllReady.cons rfl (fun K hK => ?_) AllReady.nil
      refine step_append_lies _ rfl _ _ 149 rfl 0 304 i0 _ 129 136 Tryz.underlying149 hi9 hz9 hs9 hb9 rfl (by decide) cv L.length _ rfl ho ⟨w3.heap.size, 0, none⟩ 1 1 (wrL i b) rfl (by rw [wrL_len i b hb]) hnews (wrL_one i b) (by decide) (by unfold maxLen; omega) (by omega) (Nat.zero_le _) _ rfl ?_
      intro g5 cap5 w5 ho5 hgr5 hat5 hlt5
      have hp5 : w5.cell? ⟨p, 1, none⟩ = some cv := (hgr5.cell_far ⟨p, 1, none⟩ (by simp; omega) hnp).trans ((World.cell?_alloc_past _ _ _ hp3).trans c1)
      have hf5 : w5.frozen? ⟨p, 1, none⟩ = false := (hgr5.frozen_far ⟨p, 1, none⟩ (by simp; omega) hnp).trans ((World.frozen?_alloc_past _ _ _ hp3).trans f1)
      refine hK _ _ ?_
      clear hK K
      try simp only [qA, qB, qC, Act.put, qD, qE, qF]
      refine wpAny_take (i := 8) (v := ?_) rfl (by kernel_rfl) (by kernel_rfl) (by kernel_rfl) (fun _ _ _ h => h) (Or.inl ⟨by rfl, ?_⟩) ?_
      rotate_left 1
      · intro W; go_simp; try with_reducible rfl
      simp only [qA, qB, qC, Act.put, qD, qE, qF]
      refine wpAny_take (i := 9) (v := ?_) rfl (by kernel_rfl) (by kernel_rfl) (by kernel_rfl) (fun _ _ _ h => h) (Or.inl ⟨by rfl, ?_⟩) ?_
      rotate_left 1
      · intro W; go_simp; try with_reducible rfl
      simp only [qA, qB, qC, Act.put, qD, qE, qF]
      refine wpAny_ready (rs := [10]) (by kernel_rfl) (by simp) ?_
      refine AllReady.cons rfl (fun K hK => ?_) AllReady.nil
      rw [if_pos (by rfl)]
      go_simp
      refine hK _ _ ?_
      clear hK K
      try simp only [qA, qB, qC, Act.put, qD, qE, qF]
      refine wpAny_done (by kernel_rfl) ?_ _
      have hh5 : w5.heap[p]? = some (.cells (diskH bb n cv (wrap64 (c + 1)) r) 151 (0, 0)) := (hgr5.block p (by simp; omega) hnp).trans ((heap_alloc_old w3.drew _ (by show p < w3.heap.size; omega)).trans HH3.out)
      have hh6 := heap_setCell_same w5 p 1 _ _ (.slice (some ⟨g5, 0, none⟩) (L.length + 1) cap5) hh5
      have c3 : (w5.setCell ⟨p, 1, none⟩ (.slice (some ⟨g5, 0, none⟩) (L.length + 1) cap5)).cell? ⟨p, 3, none⟩ = some (.int .i64 r) := by rw [cell_of_row _ p 3 _ _ _ hh6]; rfl
      have f3 : (w5.setCell ⟨p, 1, none⟩ (.slice (some ⟨g5, 0, none⟩) (L.length + 1) cap5)).frozen? ⟨p, 3, none⟩ = false := frozen_of_row _ p 3 _ _ hh6
      clear hh5 hh6
      go_wp2_with fail
      go_ret
      exact write_done hi hb hk1 HD1.out HH1.out hB3 hgr5 ho5 hat5 hlt5 _
    · rw [if_pos (by rfl)]
      refine wp_slice_one 149 304 _ rfl (wrL i b) rfl HBS.out ?_
      refine hK _ _ ?_
      clear hK K
      try simp only [qA, qB, qC, Act.put, qD, qE, qF]
      refine wpAny_ready (rs := [4]) (by kernel_rfl) (by simp) ?_
      refine AllReady.cons rfl (fun K hK => ?_) AllReady.nil
      rw [if_pos (by rfl)]
      go_simp
      refine hK _ _ ?_
      clear hK K
      try simp only [qA, qB, qC, Act.put, qD, qE, qF]
      refine wpAny_ready (rs := [7]) (by kernel_rfl) (by simp) ?_
      refine AllReady.cons rfl (fun K hK => ?_) AllReady.nil
      refine step_append_lies _ rfl _ _ 149 rfl 0 304 i0 _ 129 136 Tryz.underlying149 hi9 hz9 hs9 hb9 rfl (by decide) cv L.length _ rfl ho ⟨w3.heap.size, 0, none⟩ 1 1 (wrL i b) rfl (by rw [wrL_len i b hb]) hnews (wrL_one i b) (by decide) (by unfold maxLen; omega) (by omega) (Nat.zero_le _) _ rfl ?_
      intro g5 cap5 w5 ho5 hgr5 hat5 hlt5
      have hp5 : w5.cell? ⟨p, 1, none⟩ = some cv := (hgr5.cell_far ⟨p, 1, none⟩ (by simp; omega) hnp).trans ((World.cell?_alloc_past _ _ _ hp3).trans c1)
      have hf5 : w5.frozen? ⟨p, 1, none⟩ = false := (hgr5.frozen_far ⟨p, 1, none⟩ (by simp; omega) hnp).trans ((World.frozen?_alloc_past _ _ _ hp3).trans f1)
      refine hK _ _ ?_
      clear hK K
      try simp only [qA, qB, qC, Act.put, qD, qE, qF]
      refine wpAny_take (i := 8) (v := ?_) rfl (by kernel_rfl) (by kernel_rfl) (by kernel_rfl) (fun _ _ _ h => h) (Or.inl ⟨by rfl, ?_⟩) ?_
      rotate_left 1
      · intro W; go_simp; try with_reducible rfl
      simp only [qA, qB, qC, Act.put, qD, qE, qF]
      refine wpAny_take (i := 9) (v := ?_) rfl (by kernel_rfl) (by kernel_rfl) (by kernel_rfl) (fun _ _ _ h => h) (Or.inl ⟨by rfl, ?_⟩) ?_
      rotate_left 1
      · intro W; go_simp; try with_reducible rfl
      simp only [qA, qB, qC, Act.put, qD, qE, qF]
      refine wpAny_ready (rs := [10]) (by kernel_rfl) (by simp) ?_
      refine AllReady.cons rfl (fun K hK => ?_) AllReady.nil
      rw [if_pos (by rfl)]
      go_simp
      refine hK _ _ ?_
      clear hK K
      try simp only [qA, qB, qC, Act.put, qD, qE, qF]
      refine wpAny_done (by kernel_rfl) ?_ _
      have hh5 : w5.heap[p]? = some (.cells (diskH bb n cv (wrap64 (c + 1)) r) 151 (0, 0)) := (hgr5.block p (by simp; omega) hnp).trans ((heap_alloc_old w3.drew _ (by show p < w3.heap.size; omega)).trans HH3.out)
      have hh6 := heap_setCell_same w5 p 1 _ _ (.slice (some ⟨g5, 0, none⟩) (L.length + 1) cap5) hh5
      have c3 : (w5.setCell ⟨p, 1, none⟩ (.slice (some ⟨g5, 0, none⟩) (L.length + 1) cap5)).cell? ⟨p, 3, none⟩ = some (.int .i64 r) := by rw [cell_of_row _ p 3 _ _ _ hh6]; rfl
      have f3 : (w5.setCell ⟨p, 1, none⟩ (.slice (some ⟨g5, 0, none⟩) (L.length + 1) cap5)).frozen? ⟨p, 3, none⟩ = false := frozen_of_row _ p 3 _ _ hh6
      clear hh5 hh6
      go_wp2_with fail
      go_ret
      exact write_done hi hb hk1 HD1.out HH1.out hB3 hgr5 ho5 hat5 hlt5 _
end Go.Proofs.YteglimjonofdeaaGreatDoor
