import Derived.Test.YteglimjonofdeaaGreatDoorNPktM
import Derived.Deep.RegionLaw
import Derived.Great.BuildSlice
import Derived.Test.YteglimjonofdeaaGreatDoorWTakeM
import Derived.Defers
import Derived.Recover
set_option linter.unusedVariables false
set_option linter.unusedSimpArgs false
namespace Go.Proofs.YteglimjonofdeaaGreatDoor
open Go.RowKit

theorem wpList_build_one {P : Program} {ops : Array Oper} {rest : List Oper} {op : Oper} {a : Act} {w : World} {Q : Exit → Act → World → Prop} (hgd : op.guard = none) (ty : TypeId) (x : Operand) (ho : op.op = .build ty #[(0, x)]) (v : Value) (hx : a.eval x = v) (Z : Array Value)
    (hz : ∀ w, (Instr.build ty #[(0, v)]).run P w = .ok (.agg Z) w)
    (h : wpList P ops Q rest (a.put op.dst (.agg Z)) w) : wpList P ops Q (op :: rest) a w :=
  wpList_plain hgd fun _ hK => by
    subst hx
    unfold Oper.wp
    simp only [execOp, ho, Sem.run_bind, List.map_toArray, List.map_cons, List.map_nil, hz, Result.andThen_ok, Sem.run_pure]
    exact hK _ _ h
/-- A write's cells. -/
def wrL (i : Nat) (b : List Int) : List Value := .int .i64 (i : Nat) :: bytesV b
def z128 : List Int := List.replicate 128 0
theorem wrL_len (i : Nat) (b : List Int) (h : b.length = 128) : (wrL i b).length = 129 := by unfold wrL; rw [List.length_cons, bytesV_length, h]
theorem wrL_one (i : Nat) (b : List Int) : ∀ u ∈ wrL i b, u.oneCell' = true := fun u hu => by
  rcases List.mem_cons.1 hu with rfl | h
  · rfl
  · exact bytesV_one _ u h
theorem alloc_wr (w : World) : (Instr.alloc 304 true (.tuple #[])).run Tryz.prog w = .ok (.pointer (some ⟨w.heap.size, 0, none⟩)) (w.alloc (.cells (wrL 0 z128).toArray 304)) := by kernel_rfl
theorem info_wr : (Tryz.prog.info? 304).map (·.size) = some 129 := by kernel_rfl
theorem build_wr (i : Nat) (w : World) : (Instr.build 304 #[(0, .int .i64 (i : Nat))]).run Tryz.prog w = .ok (.agg (wrL i z128).toArray) w := by kernel_rfl
theorem there_wr (w : World) (i : Nat) : (w.alloc (.cells (wrL 0 z128).toArray 304)).there w.heap.size 0 (wrL i z128).length := by
  have h := there_new w (wrL 0 z128).toArray 304
  have e : (wrL 0 z128).toArray.size = (wrL i z128).length := by rw [List.size_toArray, wrL_len 0 z128 (by decide +kernel), wrL_len i z128 (by decide +kernel)]
  rw [e] at h
  exact h
theorem info_wrI (i : Nat) : (Tryz.prog.info? 304).map (·.size) = some (wrL i z128).length := by rw [wrL_len i z128 (by decide +kernel)]; exact info_wr
theorem range_wr {w : World} {q : Nat} {i : Nat} {a b : List Int} (ha : a.length = 128) (hb : b.length = 128) (hr : w.rangeAt q 0 (wrL i a)) (ht : w.there q 0 129) : (w.setCells q 1 (bytesV b)).rangeAt q 0 (wrL i b) := by
  intro j v hv
  rw [Nat.zero_add]
  have h1 := World.rangeAt_setCells_same w q 1 (bytesV b) (fun j hj => by rw [bytesV_length, hb] at hj; have := ht (1 + j) (by omega); rwa [Nat.zero_add] at this)
  cases j with
  | zero =>
    rw [World.cell?_setCells_out q _ 1 w ⟨q, 0, none⟩ (fun _ _ => by left; show 0 < 1; omega)]
    have := hr 0 v (by unfold wrL at hv ⊢; exact hv)
    rwa [Nat.zero_add] at this
  | succ j =>
    have := h1 j v (by unfold wrL at hv; exact hv)
    rwa [Nat.add_comm] at this
theorem info_wrT : ∃ i, Tryz.prog.info? 304 = some i ∧ i.zero = some (.agg (wrL 0 z128).toArray) ∧ i.size = 129 ∧ i.bytes = 136 := by
  obtain ⟨i, hi⟩ : ∃ i, Tryz.prog.info? 304 = some i := Option.isSome_iff_exists.1 (by kernel_rfl)
  refine ⟨i, hi, ?_, ?_, ?_⟩
  · have : (Tryz.prog.info? 304).bind (·.zero) = some (.agg (wrL 0 z128).toArray) := by kernel_rfl
    rw [hi] at this; exact this
  · have : (Tryz.prog.info? 304).map (·.size) = some 129 := by kernel_rfl
    rw [hi] at this; exact Option.some.inj this
  · have : (Tryz.prog.info? 304).map (·.bytes) = some 136 := by kernel_rfl
    rw [hi] at this; exact Option.some.inj this
/-- A slice of one struct. -/
theorem run_slice_one (t e : TypeId) (cs : List Value) (ie : TypeInfo) (z : Value) (hu : Tryz.prog.underlying t = some (.slice e)) (hie : Tryz.prog.info? e = some ie) (hz : ie.zero = some z) (hl : ie.size = cs.length) (h0 : 0 < cs.length) (h1 : cs.length ≤ 1000) (w : World) :
    (Instr.buildSlice t 1 #[(0, .agg cs.toArray)]).run Tryz.prog w = .ok (.slice (some ⟨w.heap.size, 0, none⟩) 1 1) (w.alloc (.cells cs.toArray e)) := by
  refine run_buildSlice w t e 1 _ cs.toArray ie z hu hie hz (by rw [hl]; omega) (by rw [hl]; omega) ?_
  have := Great.fill_whole (s := ie.size) (by omega) [.agg cs.toArray] ((Array.range (1 * ie.size)).map (z.cells[· % z.cells.size]!)) (fun v hv => by rw [List.mem_singleton.1 hv, hl]; simp [Value.cells]) (by simp)
  simpa [Value.cells] using this
theorem wp_slice_one {o : Oper} {a : Act} {w : World} {K : Act → World → Prop} {Q : Exit → Act → World → Prop} (t e : TypeId) (x : Operand) (ho : o.op = .buildSlice t 1 #[(0, x)]) (cs : List Value) (hx : a.eval x = .agg cs.toArray)
    (hbs : ∀ w, (Instr.buildSlice t 1 #[(0, .agg cs.toArray)]).run Tryz.prog w = .ok (.slice (some ⟨w.heap.size, 0, none⟩) 1 1) (w.alloc (.cells cs.toArray e)))
    (h : K (a.put o.dst (.slice (some ⟨w.heap.size, 0, none⟩) 1 1)) (w.alloc (.cells cs.toArray e))) : o.wp Tryz.prog a w K Q := by
  unfold Oper.wp execOp
  simp only [ho, hx, Sem.run_bind, List.map_toArray, List.map_cons, List.map_nil, hbs, Result.andThen_ok]
  exact h
/-- What a write leaves. -/
def wrPost (w : World) (p bb n : Nat) (C : Nat → List Int) (cv : Value) (L : List (Nat × List Int)) (i : Nat) (b : List Int) (e : Ending) (w' : World) : Prop :=
  e = .returned .nilIface ∧ ∃ cv', DiskAt w' p bb n C cv' (L ++ [(i, b)]) ∧ (∀ g, cv'.ownBlock = some g → cv.ownBlock = some g ∨ w.heap.size ≤ g) ∧ Kept (fun g => g = p ∨ cv.ownBlock = some g) w w'

theorem cacheL_snoc (L : List (Nat × List Int)) (i : Nat) (b : List Int) : cacheL (L ++ [(i, b)]) = cacheL L ++ wrL i b := by
  unfold cacheL; rw [List.flatMap_append]; simp [wrL]
theorem write_done {w w1 w3 w5 : World} {p bb n i : Nat} {C : Nat → List Int} {cv : Value} {L : List (Nat × List Int)} {b : List Int} {c r : Int} {g5 cap5 : Nat} {o : Obj} (hi : i < n) (hb : b.length = 128) (hk1 : Kept (· = p) w w1) (D1 : DiskAt w1 p bb n C cv L) (hh1 : w1.heap[p]? = some (.cells (diskH bb n cv c r) 151 (0, 0)))
    (hB3 : Below w1.heap.size w1 w3) (hgr5 : (w3.drew.alloc o).grownBy w5 cv.ownBlock) (ho5 : w5.ownsRow 0 304 129 (.slice (some ⟨g5, 0, none⟩) (L.length + 1) cap5) (L.length + 1) (cacheL L ++ wrL i b)) (hat5 : cv.ownBlock = some g5 ∨ g5 = (w3.drew.alloc o).heap.size) (hlt5 : g5 < w5.heap.size) (x : Int) :
    wrPost w p bb n C cv L i b (.returned .nilIface) ((w5.setCell ⟨p, 1, none⟩ (.slice (some ⟨g5, 0, none⟩) (L.length + 1) cap5)).setCell ⟨p, 3, none⟩ (.int .i64 x)) := by
  have hp1 := D1.lt.1
  have hbb1 := D1.lt.2
  have hs3 := hB3.size
  have hs5 := hgr5.size
  have e5 : (w3.drew.alloc o).heap.size = w3.heap.size + 1 := by simp
  rw [e5] at hs5 hat5
  have hnp : some p ≠ cv.ownBlock := fun e => D1.apart.2.1 e.symm
  have hnb : some bb ≠ cv.ownBlock := fun e => D1.apart.2.2 e.symm
  have old : ∀ g, g < w1.heap.size → some g ≠ cv.ownBlock → w5.heap[g]? = w1.heap[g]? := fun g hg hn => (hgr5.block g (by omega) hn).trans ((heap_alloc_old w3.drew o (by show g < w3.heap.size; omega)).trans (hB3.block g hg))
  have hh5 : w5.heap[p]? = some (.cells (diskH bb n cv c r) 151 (0, 0)) := (old p hp1 hnp).trans hh1
  have hg5p : g5 ≠ p := by
    rcases hat5 with e | e
    · rintro rfl; exact hnp e.symm
    · omega
  have hg5b : g5 ≠ bb := by
    rcases hat5 with e | e
    · rintro rfl; exact hnb e.symm
    · omega
  have hsz1 := hk1.size
  have hp0 : p < w.heap.size ∨ w.heap.size ≤ p := by omega
  refine ⟨rfl, .slice (some ⟨g5, 0, none⟩) (L.length + 1) cap5, ⟨⟨c, x, ?_⟩, ?_, ?_, ⟨D1.apart.1, ?_, ?_⟩, D1.len, ?_⟩, ?_, ?_⟩
  · rw [heap_setCell_same _ p 3 _ _ _ (heap_setCell_same w5 p 1 _ _ _ hh5)]; rfl
  · rw [heap_setCell_other _ ⟨p, 3, none⟩ bb _ (fun e => D1.apart.1 e.symm), heap_setCell_other _ ⟨p, 1, none⟩ bb _ (fun e => D1.apart.1 e.symm), old bb hbb1 hnb]
    exact D1.blocks
  · rw [cacheL_snoc, List.length_append, List.length_singleton]
    refine own_sameX ho5 (fun g hg => ?_)
    obtain rfl : g5 = g := by simpa [Value.ownBlock] using hg
    rw [heap_setCell_other _ ⟨p, 3, none⟩ g5 _ hg5p, heap_setCell_other _ ⟨p, 1, none⟩ g5 _ hg5p]
  · intro e; exact hg5p (by simpa [Value.ownBlock] using e)
  · intro e; exact hg5b (by simpa [Value.ownBlock] using e)
  · intro y hy
    rcases List.mem_append.1 hy with hy | hy
    · exact D1.lens y hy
    · rw [List.mem_singleton.1 hy]; exact ⟨hi, hb⟩
  · intro g hg
    obtain rfl : g5 = g := by simpa [Value.ownBlock] using hg
    rcases hat5 with e | e
    · exact Or.inl e
    · right; omega
  · have k1 : Kept (fun g => g = p ∨ cv.ownBlock = some g) w1 w5 := ⟨hgr5.os.trans hB3.os, hgr5.tape.trans hB3.tape, hgr5.output.trans hB3.output, by omega, fun g hg hn => old g hg (fun e => hn (Or.inr e.symm))⟩
    refine (hk1.mono (fun g _ e => Or.inl e)).trans ((k1.trans (Kept.setCell (S := (· = p)) _ _ _ (Or.inl rfl)) (fun g _ e => Or.inl e)).trans (Kept.setCell (S := (· = p)) _ _ _ (Or.inl rfl)) (fun g _ e => Or.inl e)) (fun g _ h => h)

set_option maxRecDepth 10000 in
set_option maxHeartbeats 1000000 in
theorem dwrite_any (p bb n i : Nat) (C : Nat → List Int) (cv : Value) (L : List (Nat × List Int)) (b : List Int) (sb : Nat) (w : World) (hi : i < n) (hn : n ≤ 1000) (hL : L.length ≤ 100000) (hb : b.length = 128) (h : DiskAt w p bb n C cv L) (hsrc : w.rangeAt sb 0 (bytesV b)) (hsp : sb ≠ p) (hsb : sb < w.heap.size) :
    Calls Tryz.prog 211 #[.pointer (some ⟨p, 0, none⟩), .int .i64 i, .slice (some ⟨sb, 0, none⟩) 128 128] w (wrPost w p bb n C cv L i b) := by
  obtain ⟨c, r, hh⟩ := h.head
  have hf := dfails_any p bb n _ c r w hh
  obtain ⟨i0, hi9, hz9, hs9, hb9⟩ := info_wrT
  go_enter Tryz.func211, Tryz.ntmps211
  go_wp2_with fail
  refine hf.mono ?_
  rintro e w1 ⟨rfl, hw1⟩
  have hh1 : w1.heap[p]? = some (.cells (diskH bb n cv (wrap64 (c + 1)) r) 151 (0, 0)) := by rw [hw1, heap_setCell_same w p 2 _ _ _ hh]; rfl
  have hk1 : Kept (· = p) w w1 := by rw [hw1]; exact Kept.setCell _ _ _ (Or.inl rfl)
  have HD1 : Hid (DiskAt w1 p bb n C cv L) := h.turn hk1 ⟨_, _, hh1⟩
  have hsrc1 : w1.rangeAt sb 0 (bytesV b) := fun j v hv => (hk1.cell (a := ⟨sb, 0 + j, none⟩) hsb hsp).trans (hsrc j v hv)
  have hsb1 : sb < w1.heap.size := Nat.lt_of_lt_of_le hsb hk1.size
  have hno := dnone_any p bb n i _ _ r w1 hi hh1
  have HH1 : Hid (w1.heap[p]? = some (.cells (diskH bb n cv (wrap64 (c + 1)) r) 151 (0, 0))) := hh1
  clear hf hw1 hh h hh1
  go_wp2_with fail
  refine hno.mono ?_
  rintro e w1' ⟨rfl, hw⟩
  obtain rfl : w1 = w1' := hw.symm
  clear hw hno
  have htA : (w1.alloc (.cells (wrL 0 z128).toArray 304)).there w1.heap.size 0 (wrL i z128).length := there_wr w1 i
  go_wp2_with (first
    | (refine wpList_build_one rfl 304 _ rfl (.int .i64 ((i : Nat) : Int)) rfl (wrL i z128).toArray (build_wr i) ?_)
    | (refine wpList_alloc_of rfl 304 rfl (wrL 0 z128).toArray alloc_wr ?_)
    | (at_builtin; refine Lib.wpList_copy_run _ rfl _ _ 85 85 rfl _ _ rfl rfl hrun ?_)
    | (refine wpList_store_abs rfl 304 _ _ rfl w1.heap.size 0 (wrL i z128) rfl rfl htA (info_wrI i) (wrL_one i z128) ?_
       intro w2 hw2 hr2 ht2 hb2
       have HW2 : Hid (w2.heap.size = w1.heap.size + 1) := (by show _ = _; rw [hw2, size_setCells]; simp)
       clear hw2
       have hB2 : Below w1.heap.size w1 w2 := ((Below.refl _ _).alloc (Nat.le_refl _) _).trans (hb2 _ (Nat.le_refl _))
       have ht129 : w2.there w1.heap.size 0 129 := by rw [wrL_len i z128 (by decide +kernel)] at ht2; exact ht2
       have hlen : (bytesV b).length = 128 := by rw [bytesV_length, hb]
       have hsrc2 : w2.rangeAt sb 0 (bytesV b) := fun j v hv => (hB2.cell (p := ⟨sb, 0 + j, none⟩) hsb1).trans (hsrc1 j v hv)
       have hrun := run_copy_cells (P := Tryz.prog) w2 85 85 3 5 w1.heap.size 1 128 128 ⟨sb, 0, none⟩ 128 128 (bytesV b) Tryz.underlying85 (by kernel_rfl) (by rw [hlen]; rfl) (fun j v hv => by rw [addr_add]; exact hsrc2 j v hv) (fun j hj => by have := (ht129 (1 + j) (by omega)).1; rwa [Nat.zero_add] at this) (fun j hj => by have := (ht129 (1 + j) (by omega)).2; rwa [Nat.zero_add] at this) (bytesV_one _)
       rw [hlen] at hrun
       have hr3 := range_wr (a := z128) (by decide +kernel) hb hr2 ht129
       have hB3 : Below w1.heap.size w1 (w2.setCells w1.heap.size 1 (bytesV b)) := below_setCells (Nat.le_refl _) _ _ _ hB2
       have hz3 : (w2.setCells w1.heap.size 1 (bytesV b)).heap.size = w1.heap.size + 1 := by rw [size_setCells]; exact HW2.out
       generalize w2.setCells w1.heap.size 1 (bytesV b) = w3 at *
       have HZ3 : Hid (w3.heap.size = w1.heap.size + 1) := hz3
       clear hsrc2 hB2 hb2 hr2 ht2 ht129 htA hz3
       have hh3 : w3.heap[p]? = some (.cells (diskH bb n cv (wrap64 (c + 1)) r) 151 (0, 0)) := (hB3.block p HD1.out.lt.1).trans HH1.out
       have c1 : w3.cell? ⟨p, 1, none⟩ = some cv := by rw [cell_of_row w3 p 1 _ _ _ hh3]; rfl
       have f1 : w3.frozen? ⟨p, 1, none⟩ = false := frozen_of_row w3 p 1 _ _ hh3
       have hbs := run_slice_one 149 304 (wrL i b) i0 _ Tryz.underlying149 hi9 hz9 (by rw [hs9, wrL_len i b hb]) (by rw [wrL_len i b hb]; omega) (by rw [wrL_len i b hb]; omega)
       have HBS : Hid (∀ w, (Instr.buildSlice 149 1 #[(0, .agg (wrL i b).toArray)]).run Tryz.prog w = .ok (.slice (some ⟨w.heap.size, 0, none⟩) 1 1) (w.alloc (.cells (wrL i b).toArray 304))) := hbs
       have HI : Hid ((Tryz.prog.info? 304).map (·.size) = some (wrL i b).length) := (by show _ = _; rw [wrL_len i b hb]; exact info_wr)
       clear hbs
       have ho : (w3.drew.alloc (.cells (wrL i b).toArray 304)).ownsRow 0 304 129 cv L.length (cacheL L) := (own_below' HD1.out.cache hB3).drew.alloc _
       have hnews : ∀ j u, (wrL i b)[j]? = some u → (w3.drew.alloc (.cells (wrL i b).toArray 304)).cell? ((⟨w3.heap.size, 0, none⟩ : Addr).add j) = some u := World.news_of_block (heap_alloc_new w3.drew (.cells (wrL i b).toArray 304))
       have hnp : some p ≠ cv.ownBlock := fun e => HD1.out.apart.2.1 e.symm
       have hp3 : p < w3.heap.size := Nat.lt_of_lt_of_le HD1.out.lt.1 hB3.size
       have HH3 : Hid (w3.heap[p]? = some (.cells (diskH bb n cv (wrap64 (c + 1)) r) 151 (0, 0))) := hh3
       clear hh3 hsrc hsrc1))
  refine wp_region_any (by kernel_rfl) ?_
  try (change wpAny _ _ _ _ _ _ _ (World.drew _))
  refine wpAny_take (i := 0) (v := ?_) rfl (by kernel_rfl) (by kernel_rfl) (by kernel_rfl) (fun _ _ _ h => h) (Or.inl ⟨by rfl, ?_⟩) ?_
  rotate_left 1
  · intro W; go_simp; try with_reducible rfl
  simp only [qA, qB, qC, Act.put, qD, qE, qF]
  refine wpAny_take (i := 1) (v := ?_) rfl (by kernel_rfl) (by kernel_rfl) (by kernel_rfl) (fun _ _ _ h => h) (Or.inl ⟨by rfl, ?_⟩) ?_
  rotate_left 1
  · intro W; go_simp; try with_reducible rfl
  simp only [qA, qB, qC, Act.put, qD, qE, qF]
  refine wpAny_take (i := 2) (v := ?_) rfl (by kernel_rfl) (by kernel_rfl) (by kernel_rfl) (fun _ _ _ h => h) (Or.inl ⟨by rfl, ?_⟩) ?_
  rotate_left 1
  · intro W; go_simp; try with_reducible rfl
  simp only [qA, qB, qC, Act.put, qD, qE, qF]
  refine wpAny_take (i := 3) (v := ?_) rfl (by kernel_rfl) (by kernel_rfl) (by kernel_rfl) (fun _ _ _ h => h) (Or.inl ⟨by rfl, ?_⟩) ?_
  rotate_left 1
  · intro W; go_simp; try with_reducible rfl
  simp only [qA, qB, qC, Act.put, qD, qE, qF]
  refine wpAny_ready (rs := [4, 5]) (by kernel_rfl) (by simp) ?_
  refine AllReady.cons rfl (fun K hK => ?_) (AllReady.cons rfl (fun K hK => ?_) AllReady.nil)
  · rw [if_pos (by rfl)]
    go_simp
    refine hK _ _ ?_
    clear hK K
    try simp only [qA, qB, qC, Act.put, qD, qE, qF]
    refine wpAny_ready (rs := [5]) (by kernel_rfl) (by simp) ?_
    refine AllReady.cons rfl (fun K hK => ?_) AllReady.nil
    rw [if_pos (by rfl)]
    refine wp_load_mid 304 _ rfl w1.heap.size 0 rfl (wrL i b) _ (by rw [World.rangeAt_drew]; exact hr3) Tryz.underlying304 rfl HI.out ?_
    refine hK _ _ ?_
    clear hK K
    try simp only [qA, qB, qC, Act.put, qD, qE, qF]
    refine wpAny_ready (rs := [6]) (by kernel_rfl) (by simp) ?_
    refine AllReady.cons rfl (fun K hK => ?_) AllReady.nil
    rw [if_pos (by rfl)]
    refine wp_slice_one 149 304 _ rfl (wrL i b) rfl HBS.out ?_
    refine hK _ _ ?_
    clear hK K
    try simp only [qA, qB, qC, Act.put, qD, qE, qF]
    refine wpAny_ready (rs := [7]) (by kernel_rfl) (by simp) ?_
    refine AllReady.cons rfl (fun K hK => ?_) AllReady.nil
    refine step_append_lies _ rfl _ _ 149 rfl 0 304 i0 _ 129 136 Tryz.underlying149 hi9 hz9 hs9 hb9 rfl (by decide) cv L.length _ rfl ho ⟨w3.heap.size, 0, none⟩ 1 1 (wrL i b) rfl (by rw [wrL_len i b hb]) hnews (wrL_one i b) (by decide) (by unfold maxLen; omega) (by omega) (Nat.zero_le _) _ rfl ?_
    intro g5 cap5 w5 ho5 hgr5 hat5 hlt5
    have hp5 : w5.cell? ⟨p, 1, none⟩ = some cv := (hgr5.cell_far ⟨p, 1, none⟩ (by simp; omega) hnp).trans ((World.cell?_alloc_past _ _ _ hp3).trans c1)
    have hf5 : w5.frozen? ⟨p, 1, none⟩ = false := (hgr5.frozen_far ⟨p, 1, none⟩ (by simp; omega) hnp).trans ((World.frozen?_alloc_past _ _ _ hp3).trans f1)
    refine hK _ _ ?_
    clear hK K
    try simp only [qA, qB, qC, Act.put, qD, qE, qF]
    refine wpAny_take (i := 8) (v := ?_) rfl (by kernel_rfl) (by kernel_rfl) (by kernel_rfl) (fun _ _ _ h => h) (Or.inl ⟨by rfl, ?_⟩) ?_
    rotate_left 1
    · intro W; go_simp; try with_reducible rfl
    simp only [qA, qB, qC, Act.put, qD, qE, qF]
    refine wpAny_take (i := 9) (v := ?_) rfl (by kernel_rfl) (by kernel_rfl) (by kernel_rfl) (fun _ _ _ h => h) (Or.inl ⟨by rfl, ?_⟩) ?_
    rotate_left 1
    · intro W; go_simp; try with_reducible rfl
    simp only [qA, qB, qC, Act.put, qD, qE, qF]
    refine wpAny_ready (rs := [10]) (by kernel_rfl) (by simp) ?_
    refine AllReady.cons rfl (fun K hK => ?_) AllReady.nil
    rw [if_pos (by rfl)]
    go_simp
    refine hK _ _ ?_
    clear hK K
    try simp only [qA, qB, qC, Act.put, qD, qE, qF]
    refine wpAny_done (by kernel_rfl) ?_ _
    have hh5 : w5.heap[p]? = some (.cells (diskH bb n cv (wrap64 (c + 1)) r) 151 (0, 0)) := (hgr5.block p (by simp; omega) hnp).trans ((heap_alloc_old w3.drew _ (by show p < w3.heap.size; omega)).trans HH3.out)
    have hh6 := heap_setCell_same w5 p 1 _ _ (.slice (some ⟨g5, 0, none⟩) (L.length + 1) cap5) hh5
    have c3 : (w5.setCell ⟨p, 1, none⟩ (.slice (some ⟨g5, 0, none⟩) (L.length + 1) cap5)).cell? ⟨p, 3, none⟩ = some (.int .i64 r) := by rw [cell_of_row _ p 3 _ _ _ hh6]; rfl
    have f3 : (w5.setCell ⟨p, 1, none⟩ (.slice (some ⟨g5, 0, none⟩) (L.length + 1) cap5)).frozen? ⟨p, 3, none⟩ = false := frozen_of_row _ p 3 _ _ hh6
    clear hh5 hh6
    go_wp2_with fail
    go_ret
    exact write_done hi hb hk1 HD1.out HH1.out hB3 hgr5 ho5 hat5 hlt5 _
  · rw [if_pos (by rfl)]
    refine wp_load_mid 304 _ rfl w1.heap.size 0 rfl (wrL i b) _ (by rw [World.rangeAt_drew]; exact hr3) Tryz.underlying304 rfl HI.out ?_
    refine hK _ _ ?_
    clear hK K
    try simp only [qA, qB, qC, Act.put, qD, qE, qF]
    refine wpAny_ready (rs := [4, 6]) (by kernel_rfl) (by simp) ?_
    refine AllReady.cons rfl (fun K hK => ?_) (AllReady.cons rfl (fun K hK => ?_) AllReady.nil)
    · rw [if_pos (by rfl)]
      go_simp
      refine hK _ _ ?_
      clear hK K
      try simp only [qA, qB, qC, Act.put, qD, qE, qF]
      refine wpAny_ready (rs := [6]) (by kernel_rfl) (by simp) ?_
      refine AllReady.cons rfl (fun K hK => ?_) AllReady.nil
      rw [if_pos (by rfl)]
      refine wp_slice_one 149 304 _ rfl (wrL i b) rfl HBS.out ?_
      refine hK _ _ ?_
      clear hK K
      try simp only [qA, qB, qC, Act.put, qD, qE, qF]
      refine wpAny_ready (rs := [7]) (by kernel_rfl) (by simp) ?_
      refine AllReady.cons rfl (fun K hK => ?_) AllReady.nil
      refine step_append_lies _ rfl _ _ 149 rfl 0 304 i0 _ 129 136 Tryz.underlying149 hi9 hz9 hs9 hb9 rfl (by decide) cv L.length _ rfl ho ⟨w3.heap.size, 0, none⟩ 1 1 (wrL i b) rfl (by rw [wrL_len i b hb]) hnews (wrL_one i b) (by decide) (by unfold maxLen; omega) (by omega) (Nat.zero_le _) _ rfl ?_
      intro g5 cap5 w5 ho5 hgr5 hat5 hlt5
      have hp5 : w5.cell? ⟨p, 1, none⟩ = some cv := (hgr5.cell_far ⟨p, 1, none⟩ (by simp; omega) hnp).trans ((World.cell?_alloc_past _ _ _ hp3).trans c1)
      have hf5 : w5.frozen? ⟨p, 1, none⟩ = false := (hgr5.frozen_far ⟨p, 1, none⟩ (by simp; omega) hnp).trans ((World.frozen?_alloc_past _ _ _ hp3).trans f1)
      refine hK _ _ ?_
      clear hK K
      try simp only [qA, qB, qC, Act.put, qD, qE, qF]
      refine wpAny_take (i := 8) (v := ?_) rfl (by kernel_rfl) (by kernel_rfl) (by kernel_rfl) (fun _ _ _ h => h) (Or.inl ⟨by rfl, ?_⟩) ?_
      rotate_left 1
      · intro W; go_simp; try with_reducible rfl
      simp only [qA, qB, qC, Act.put, qD, qE, qF]
      refine wpAny_take (i := 9) (v := ?_) rfl (by kernel_rfl) (by kernel_rfl) (by kernel_rfl) (fun _ _ _ h => h) (Or.inl ⟨by rfl, ?_⟩) ?_
      rotate_left 1
      · intro W; go_simp; try with_reducible rfl
      simp only [qA, qB, qC, Act.put, qD, qE, qF]
      refine wpAny_ready (rs := [10]) (by kernel_rfl) (by simp) ?_
      refine AllReady.cons rfl (fun K hK => ?_) AllReady.nil
      rw [if_pos (by rfl)]
      go_simp
      refine hK _ _ ?_
      clear hK K
      try simp only [qA, qB, qC, Act.put, qD, qE, qF]
      refine wpAny_done (by kernel_rfl) ?_ _
      have hh5 : w5.heap[p]? = some (.cells (diskH bb n cv (wrap64 (c + 1)) r) 151 (0, 0)) := (hgr5.block p (by simp; omega) hnp).trans ((heap_alloc_old w3.drew _ (by show p < w3.heap.size; omega)).trans HH3.out)
      have hh6 := heap_setCell_same w5 p 1 _ _ (.slice (some ⟨g5, 0, none⟩) (L.length + 1) cap5) hh5
      have c3 : (w5.setCell ⟨p, 1, none⟩ (.slice (some ⟨g5, 0, none⟩) (L.length + 1) cap5)).cell? ⟨p, 3, none⟩ = some (.int .i64 r) := by rw [cell_of_row _ p 3 _ _ _ hh6]; rfl
      have f3 : (w5.setCell ⟨p, 1, none⟩ (.slice (some ⟨g5, 0, none⟩) (L.length + 1) cap5)).frozen? ⟨p, 3, none⟩ = false := frozen_of_row _ p 3 _ _ hh6
      clear hh5 hh6
      go_wp2_with fail
      go_ret
      exact write_done hi hb hk1 HD1.out HH1.out hB3 hgr5 ho5 hat5 hlt5 _
    · rw [if_pos (by rfl)]
      refine wp_slice_one 149 304 _ rfl (wrL i b) rfl HBS.out ?_
      refine hK _ _ ?_
      clear hK K
      try simp only [qA, qB, qC, Act.put, qD, qE, qF]
      refine wpAny_ready (rs := [4]) (by kernel_rfl) (by simp) ?_
      refine AllReady.cons rfl (fun K hK => ?_) AllReady.nil
      rw [if_pos (by rfl)]
      go_simp
      refine hK _ _ ?_
      clear hK K
      try simp only [qA, qB, qC, Act.put, qD, qE, qF]
      refine wpAny_ready (rs := [7]) (by kernel_rfl) (by simp) ?_
      refine AllReady.cons rfl (fun K hK => ?_) AllReady.nil
      refine step_append_lies _ rfl _ _ 149 rfl 0 304 i0 _ 129 136 Tryz.underlying149 hi9 hz9 hs9 hb9 rfl (by decide) cv L.length _ rfl ho ⟨w3.heap.size, 0, none⟩ 1 1 (wrL i b) rfl (by rw [wrL_len i b hb]) hnews (wrL_one i b) (by decide) (by unfold maxLen; omega) (by omega) (Nat.zero_le _) _ rfl ?_
      intro g5 cap5 w5 ho5 hgr5 hat5 hlt5
      have hp5 : w5.cell? ⟨p, 1, none⟩ = some cv := (hgr5.cell_far ⟨p, 1, none⟩ (by simp; omega) hnp).trans ((World.cell?_alloc_past _ _ _ hp3).trans c1)
      have hf5 : w5.frozen? ⟨p, 1, none⟩ = false := (hgr5.frozen_far ⟨p, 1, none⟩ (by simp; omega) hnp).trans ((World.frozen?_alloc_past _ _ _ hp3).trans f1)
      refine hK _ _ ?_
      clear hK K
      try simp only [qA, qB, qC, Act.put, qD, qE, qF]
      refine wpAny_take (i := 8) (v := ?_) rfl (by kernel_rfl) (by kernel_rfl) (by kernel_rfl) (fun _ _ _ h => h) (Or.inl ⟨by rfl, ?_⟩) ?_
      rotate_left 1
      · intro W; go_simp; try with_reducible rfl
      simp only [qA, qB, qC, Act.put, qD, qE, qF]
      refine wpAny_take (i := 9) (v := ?_) rfl (by kernel_rfl) (by kernel_rfl) (by kernel_rfl) (fun _ _ _ h => h) (Or.inl ⟨by rfl, ?_⟩) ?_
      rotate_left 1
      · intro W; go_simp; try with_reducible rfl
      simp only [qA, qB, qC, Act.put, qD, qE, qF]
      refine wpAny_ready (rs := [10]) (by kernel_rfl) (by simp) ?_
      refine AllReady.cons rfl (fun K hK => ?_) AllReady.nil
      rw [if_pos (by rfl)]
      go_simp
      refine hK _ _ ?_
      clear hK K
      try simp only [qA, qB, qC, Act.put, qD, qE, qF]
      refine wpAny_done (by kernel_rfl) ?_ _
      have hh5 : w5.heap[p]? = some (.cells (diskH bb n cv (wrap64 (c + 1)) r) 151 (0, 0)) := (hgr5.block p (by simp; omega) hnp).trans ((heap_alloc_old w3.drew _ (by show p < w3.heap.size; omega)).trans HH3.out)
      have hh6 := heap_setCell_same w5 p 1 _ _ (.slice (some ⟨g5, 0, none⟩) (L.length + 1) cap5) hh5
      have c3 : (w5.setCell ⟨p, 1, none⟩ (.slice (some ⟨g5, 0, none⟩) (L.length + 1) cap5)).cell? ⟨p, 3, none⟩ = some (.int .i64 r) := by rw [cell_of_row _ p 3 _ _ _ hh6]; rfl
      have f3 : (w5.setCell ⟨p, 1, none⟩ (.slice (some ⟨g5, 0, none⟩) (L.length + 1) cap5)).frozen? ⟨p, 3, none⟩ = false := frozen_of_row _ p 3 _ _ hh6
      clear hh5 hh6
      go_wp2_with fail
      go_ret
      exact write_done hi hb hk1 HD1.out HH1.out hB3 hgr5 ho5 hat5 hlt5 _
/-- A row of cells written over, from o on. -/
def setR (cur : Array Value) (o : Nat) : List Value → Array Value
  | [] => cur
  | v :: vs => setR (cur.setIfInBounds o v) (o + 1) vs
theorem setR_get : ∀ (vs : List Value) (cur : Array Value) (o j : Nat), (setR cur o vs)[j]? = if o ≤ j ∧ j < o + vs.length ∧ j < cur.size then vs[j - o]? else cur[j]?
  | [], cur, o, j => by rw [setR, if_neg (by simp; omega)]
  | v :: vs, cur, o, j => by
    rw [setR, setR_get vs _ (o + 1) j, Array.size_setIfInBounds]
    by_cases h : o ≤ j ∧ j < o + (v :: vs).length ∧ j < cur.size
    · rw [if_pos h]
      rw [List.length_cons] at h
      by_cases e : j = o
      · subst e
        rw [if_neg (by omega), Array.getElem?_setIfInBounds_self_of_lt h.2.2, Nat.sub_self, List.getElem?_cons_zero]
      · rw [if_pos (by omega), show j - o = (j - (o + 1)) + 1 by omega, List.getElem?_cons_succ]
    · rw [if_neg h]
      rw [List.length_cons] at h
      rw [if_neg (by omega)]
      by_cases e : o = j
      · subst e
        rw [Array.getElem?_eq_none (by simp; omega), Array.getElem?_eq_none (by omega)]
      · rw [Array.getElem?_setIfInBounds_ne e]
theorem heap_setCells (b : Nat) (t : TypeId) : ∀ (vs : List Value) (w : World) (o : Nat) (cur : Array Value), w.heap[b]? = some (.cells cur t (0, 0)) → (w.setCells b o vs).heap[b]? = some (.cells (setR cur o vs) t (0, 0))
  | [], w, o, cur, h => h
  | v :: vs, w, o, cur, h => by
    rw [World.setCells, setR]
    exact heap_setCells b t vs _ (o + 1) _ (heap_setCell_same w b o _ _ _ h)
/-- What the blocks are behind writes. -/
def putC (C : Nat → List Int) (i : Nat) (b : List Int) : Nat → List Int := fun j => if j = i then b else C j
def putAll (C : Nat → List Int) (L : List (Nat × List Int)) : Nat → List Int := L.foldl (fun C x => putC C x.1 x.2) C
theorem putAll_snoc (C : Nat → List Int) (L : List (Nat × List Int)) (x : Nat × List Int) : putAll C (L ++ [x]) = putC (putAll C L) x.1 x.2 := by unfold putAll; rw [List.foldl_append]; rfl
theorem flat_put (C : Nat → List Int) (n i : Nat) (b : List Int) (hC : ∀ i, i < n → (C i).length = 128) (hi : i < n) (hb : b.length = 128) : setR (blkC C n).toArray (i * 128) (bytesV b) = (blkC (putC C i b) n).toArray := by
  have hC' : ∀ j, j < n → (putC C i b j).length = 128 := fun j hj => by unfold putC; split; exact hb; exact hC j hj
  apply Array.ext_getElem?
  intro j
  rw [setR_get, List.getElem?_toArray, List.getElem?_toArray, List.size_toArray, blkC_len C n hC, bytesV_length, hb]
  by_cases hj : j < 128 * n
  · have e1 := blkC_get C n (j / 128) (j % 128) hC (by omega) (by omega)
    have e2 := blkC_get (putC C i b) n (j / 128) (j % 128) hC' (by omega) (by omega)
    rw [show 128 * (j / 128) + j % 128 = j by omega] at e1 e2
    rw [e1, e2]
    unfold putC
    by_cases e : j / 128 = i
    · rw [if_pos ⟨by omega, by omega, hj⟩, if_pos e, show j - i * 128 = j % 128 by omega]
    · rw [if_neg (by omega), if_neg e]
  · rw [if_neg (by omega), List.getElem?_eq_none (by rw [blkC_len C n hC]; omega), List.getElem?_eq_none (by rw [blkC_len _ n hC']; omega)]
theorem DiskAt.put {w : World} {p bb n : Nat} {C : Nat → List Int} {cv : Value} {L : List (Nat × List Int)} (h : DiskAt w p bb n C cv L) (i : Nat) (b : List Int) (hi : i < n) (hb : b.length = 128) : DiskAt (w.setCells bb (i * 128) (bytesV b)) p bb n (putC C i b) cv L := by
  obtain ⟨c, r, hh⟩ := h.head
  refine ⟨⟨c, r, ?_⟩, ?_, own_sameX h.cache (fun g hg => heap_setCells_other' _ _ _ _ _ (fun e => h.apart.2.2 (by rw [← e]; exact hg))), h.apart, fun j hj => ?_, h.lens⟩
  · rw [heap_setCells_other' _ _ _ _ _ h.apart.1]; exact hh
  · rw [heap_setCells bb _ _ _ _ _ h.blocks, flat_put C n i b h.len hi hb]
  · unfold putC; split; exact hb; exact h.len j hj
theorem cacheL_get : ∀ (L : List (Nat × List Int)) (k j : Nat) (hk : k < L.length), (∀ x ∈ L, x.2.length = 128) → j < 129 → (cacheL L)[k * 129 + j]? = (wrL (L[k]'hk).1 (L[k]'hk).2)[j]?
  | x :: L, k, j, hk, h, hj => by
    have e : cacheL (x :: L) = wrL x.1 x.2 ++ cacheL L := by unfold cacheL wrL; simp
    have hl := wrL_len x.1 x.2 (h x (by simp))
    rw [e]
    cases k with
    | zero =>
      rw [Nat.zero_mul, Nat.zero_add, List.getElem?_append_left (by omega)]; rfl
    | succ k =>
      rw [List.getElem?_append_right (by omega), hl, show (k + 1) * 129 + j - 129 = k * 129 + j by omega]
      exact cacheL_get L k j (by simpa using hk) (fun y hy => h y (by simp [hy])) hj
theorem wr_info (i : Nat) (b : List Int) (hb : b.length = 128) : (Tryz.prog.info? 304).map (·.size) = some (wrL i b).length := by rw [wrL_len i b hb]; exact info_wr
theorem info_dblk (b : List Int) (hb : b.length = 128) : (Tryz.prog.info? 254).map (·.size) = some (bytesV b).length := by rw [bytesV_length, hb]; kernel_rfl

def flPost (w : World) (p bb n : Nat) (C : Nat → List Int) (L : List (Nat × List Int)) (e : Ending) (w' : World) : Prop :=
  e = .returned .nilIface ∧ DiskAt w' p bb n (putAll C L) (.slice none 0 0) [] ∧ Kept (fun g => g = p ∨ g = bb) w w'
def flRel (w : World) (p bb n : Nat) (C : Nat → List Int) (cv : Value) (L : List (Nat × List Int)) (i : Value) (wr : World) : Prop :=
  ∃ k : Nat, i = .int .i64 k ∧ k ≤ L.length ∧ Hid (DiskAt wr p bb n (putAll C (L.take k)) cv L ∧ Kept (fun g => g = p ∨ g = bb) w wr)

set_option maxRecDepth 10000 in
set_option maxHeartbeats 1000000 in
theorem dflush_any (p bb n : Nat) (C : Nat → List Int) (cv : Value) (L : List (Nat × List Int)) (w : World) (hn : n ≤ 1000) (hL : L.length ≤ 100000) (h : DiskAt w p bb n C cv L) :
    Calls Tryz.prog 209 #[.pointer (some ⟨p, 0, none⟩)] w (flPost w p bb n C L) := by
  obtain ⟨c, r, hh⟩ := h.head
  have hf := dfails_any p bb n _ c r w hh
  obtain ⟨ao, m, cap, hcv, hm⟩ : ∃ ao m cap, cv = .slice ao m cap ∧ m = L.length := by
    rcases h.cache.2 with ⟨rfl, e⟩ | ⟨g, cap, cur, rfl, _⟩
    · exact ⟨none, 0, 0, rfl, e.symm⟩
    · exact ⟨_, _, _, rfl, rfl⟩
  subst hcv
  have HM : Hid (m = L.length) := hm
  have hmb : m ≤ 100000 := by omega
  clear hm
  go_enter Tryz.func209, Tryz.ntmps209
  go_wp2_with fail
  refine hf.mono ?_
  rintro e w1 ⟨rfl, hw1⟩
  have hh1 : w1.heap[p]? = some (.cells (diskH bb n (.slice ao m cap) (wrap64 (c + 1)) r) 151 (0, 0)) := by rw [hw1, heap_setCell_same w p 2 _ _ _ hh]; rfl
  have hk1 : Kept (· = p) w w1 := by rw [hw1]; exact Kept.setCell _ _ _ (Or.inl rfl)
  have HD1 : Hid (DiskAt w1 p bb n C (.slice ao m cap) L) := h.turn hk1 ⟨_, _, hh1⟩
  have c1 : w1.cell? ⟨p, 1, none⟩ = some (.slice ao m cap) := by rw [cell_of_row w1 p 1 _ _ _ hh1]; rfl
  have HK1 : Hid (Kept (fun g => g = p ∨ g = bb) w w1) := hk1.mono (fun g _ e => Or.inl e)
  clear hf hw1 hh h hh1 hk1
  go_wp2_with fail
  go_loopw [13] (flRel w p bb n C (.slice ao m cap) L) (fun i _ => m - (intOf i).toNat)
  case atStart => exact ⟨0, rfl, Nat.zero_le _, HD1.out, HK1.out⟩
  case round =>
    clear HD1 HK1 c1
    obtain ⟨k, rfl, hk, hI⟩ := hrel
    by_cases hlt : k < m
    · have k1 : (k : Int) < (m : Int) := by omega
      have k0 : (0 : Int) ≤ (k : Int) := by omega
      have hkL : k < L.length := by have := HM.out; omega
      obtain ⟨g, hg⟩ : ∃ g, ao = some ⟨g, 0, none⟩ := by
        rcases hI.out.1.cache.2 with ⟨_, e⟩ | ⟨g, cap', cur, e, _⟩
        · omega
        · exact ⟨g, by injection e⟩
      subst hg
      obtain ⟨at', hat⟩ : ∃ a, a = (L[k]'hkL).1 := ⟨_, rfl⟩
      obtain ⟨b, hb'⟩ : ∃ b, b = (L[k]'hkL).2 := ⟨_, rfl⟩
      have hx := hI.out.1.lens (L[k]'hkL) (List.getElem_mem hkL)
      rw [← hat, ← hb'] at hx
      have hatn : at' < n := hx.1
      have hb : b.length = 128 := hx.2
      have HX : Hid (L.take (k + 1) = L.take k ++ [(at', b)]) := by show _ = _; rw [List.take_succ_eq_append_getElem hkL, hat, hb']
      have hrk : wr.rangeAt g (k * 129) (wrL at' b) := fun j v hv => by
        have hj : j < 129 := by have := (List.getElem?_eq_some_iff.1 hv).1; rw [wrL_len at' b hb] at this; exact this
        have := hI.out.1.cache.cells rfl (k * 129 + j) v (by rw [cacheL_get L k j hkL (fun x hx => (hI.out.1.lens x hx).2) hj, ← hat, ← hb']; exact hv)
        rwa [addr_add, Nat.zero_add] at this
      have htq : (wr.alloc (.cells (wrL 0 z128).toArray 304)).there wr.heap.size 0 (wrL at' b).length := by
        have := there_wr wr 0
        rw [wrL_len 0 z128 (by decide +kernel)] at this
        rw [wrL_len at' b hb]; exact this
      clear hx hat hb'
      have hinf := wr_info at' b hb
      have HID : Hid ((Tryz.prog.info? 304).map (·.size) = some (wrL at' b).length) := hinf
      clear hinf
      go_wp2_with (first
        | (refine wpList_load_mid rfl 304 _ rfl g (k * 129) rfl (wrL at' b) _ hrk Tryz.underlying304 rfl HID.out ?_)
        | (refine wpList_alloc_of rfl 304 rfl (wrL 0 z128).toArray alloc_wr ?_)
        | (refine wpList_store_abs rfl 304 _ _ rfl wr.heap.size 0 (wrL at' b) rfl rfl htq HID.out (wrL_one at' b) ?_
           intro w2 hw2 hr2 ht2 hb2
           have HZ2 : Hid (w2.heap.size = wr.heap.size + 1) := (by show _ = _; rw [hw2, size_setCells]; simp)
           clear hw2))
      have hB2 : Below wr.heap.size wr w2 := ((Below.refl _ _).alloc (Nat.le_refl _) _).trans (hb2 _ (Nat.le_refl _))
      have D2 : DiskAt w2 p bb n (putAll C (L.take k)) (.slice (some ⟨g, 0, none⟩) m cap) L := by
        obtain ⟨c', r', hh'⟩ := hI.out.1.head
        exact hI.out.1.turn (Kept.fresh hB2) ⟨c', r', (hB2.block p hI.out.1.lt.1).trans hh'⟩
      obtain ⟨c', r', hh2⟩ := D2.head
      have c0 : w2.drew.cell? ⟨p, 0, none⟩ = some (.slice (some ⟨bb, 0, none⟩) n n) := by show w2.cell? _ = _; rw [cell_of_row w2 p 0 _ _ _ hh2]; rfl
      have HD2 : Hid (DiskAt w2 p bb n (putAll C (L.take k)) (.slice (some ⟨g, 0, none⟩) m cap) L) := D2
      have a1 : (at' : Int) < (n : Int) := by omega
      have a0 : (0 : Int) ≤ (at' : Int) := by omega
      have hq0 : ∀ W : World, W.rangeAt wr.heap.size 0 (wrL at' b) → W.cell? ⟨wr.heap.size, 0, none⟩ = some (.int .i64 (at' : Nat)) := fun W hW => by have := hW 0 _ (show (wrL at' b)[0]? = some (.int .i64 (at' : Nat)) from rfl); rwa [Nat.zero_add] at this
      have hq1 : ∀ W : World, W.rangeAt wr.heap.size 0 (wrL at' b) → W.rangeAt wr.heap.size 1 (bytesV b) := fun W hW j v hv => by
        have := hW (j + 1) v (by unfold wrL; exact hv)
        rw [Nat.zero_add] at this
        rw [Nat.add_comm 1 j]; exact this
      have hpq : p ≠ bb := D2.apart.1
      have hbq : bb ≠ wr.heap.size := by have := hI.out.1.lt.2; omega
      have HIB : Hid ((Tryz.prog.info? 254).map (·.size) = some (bytesV b).length) := info_dblk b hb
      have HTB : Hid (w2.there bb (at' * 128) (bytesV b).length) := by show w2.there _ _ _; rw [bytesV_length, hb]; exact D2.there at' hatn
      clear D2 hh2 ht2 hb2 hrk htq
      have J0 : w2.drew.cell? ⟨p, 0, none⟩ = some (.slice (some ⟨bb, 0, none⟩) n n) ∧ w2.drew.rangeAt wr.heap.size 0 (wrL at' b) := ⟨c0, by rw [World.rangeAt_drew]; exact hr2⟩
      refine wp_region_noPanic ?_
      refine wp_region_held_drew (S := fun W => W.cell? ⟨p, 0, none⟩ = some (.slice (some ⟨bb, 0, none⟩) n n) ∧ W.rangeAt wr.heap.size 0 (wrL at' b)) (by kernel_rfl) J0 (fun _ => ?_)
      refine tk 0 J0 ?_
      refine tk 1 J0 ?_
      refine tk 2 J0 ?_
      refine tq (i := 3) (v := ?_) rfl J0 ?_ ?_
      rotate_left 1
      · intro W hSW; have cW := hSW.1; clear hSW; go_simp; try with_reducible rfl
      simp only [qA, qB, qC, Act.put, qD, qE, qF]
      refine tk 4 J0 ?_
      refine tq (i := 5) (v := ?_) rfl J0 ?_ ?_
      rotate_left 1
      · intro W hSW; have cW := hq0 W hSW.2; clear hSW; go_simp; try with_reducible rfl
      simp only [qA, qB, qC, Act.put, qD, qE, qF]
      refine tk 6 J0 ?_
      refine wpAnyH_take (i := 7) (v := .agg (bytesV b).toArray) rfl (by kernel_rfl) (by kernel_rfl) (by kernel_rfl) (fun _ _ _ h => h) (yieldsIf_load_mid (by rfl) 254 _ rfl wr.heap.size 1 rfl (bytesV b) _ (fun W hW => hq1 W hW.2) Tryz.underlying254 rfl HIB.out) J0 ?_
      simp only [qA, qB, qC, Act.put, qD, qE, qF]
      refine tk 8 J0 ?_
      refine rk 9 (fun K' hK' => ?_)
      refine wp_store_mid 254 _ _ rfl bb (at' * 128) (bytesV b).toArray rfl rfl (by rw [List.size_toArray, World.there_drew]; exact HTB.out) (by rw [List.size_toArray]; exact HIB.out) (all_oneCell_toArray (bytesV_one b)) ?_
      rw [List.toList_toArray]
      have J1 : (w2.drew.setCells bb (at' * 128) (bytesV b)).cell? ⟨p, 0, none⟩ = some (.slice (some ⟨bb, 0, none⟩) n n) ∧ (w2.drew.setCells bb (at' * 128) (bytesV b)).rangeAt wr.heap.size 0 (wrL at' b) := ⟨by rw [World.cell?_setCells_out bb _ _ _ ⟨p, 0, none⟩ (fun e _ => absurd e hpq)]; exact c0, World.rangeAt_setCells_apart J0.2 _ _ _ (Or.inl (fun e => hbq e.symm))⟩
      refine hK'.out _ _ J1 (fun _ => ?_)
      clear hK' K'
      try simp only [qA, qB, qC, Act.put, qD, qE, qF]
      refine ⟨by kernel_rfl, ?_⟩
      refine NoPanic.normal ?_
      try simp only [qA, qB, qC, Act.put, qD, qE, qF]
      have D3 := HD2.out.put at' b hatn hb
      have hk3 : Kept (fun g => g = p ∨ g = bb) wr (w2.drew.setCells bb (at' * 128) (bytesV b)) := ((Kept.fresh hB2).trans (Kept.drew (fun _ => False) _) (fun g _ h => h.elim)).trans (Kept.setCells (S := (· = bb)) _ _ _ _ (Or.inl rfl)) (fun g _ e => Or.inr e)
      have D4 : DiskAt (w2.drew.setCells bb (at' * 128) (bytesV b)) p bb n (putC (putAll C (L.take k)) at' b) (.slice (some ⟨g, 0, none⟩) m cap) L := by
        have D2' : DiskAt w2.drew p bb n (putAll C (L.take k)) (.slice (some ⟨g, 0, none⟩) m cap) L := by
          obtain ⟨c', r', hh'⟩ := HD2.out.head
          exact HD2.out.turn (Kept.drew _ _) ⟨c', r', hh'⟩
        exact D2'.put at' b hatn hb
      have HD4 : Hid (DiskAt (w2.drew.setCells bb (at' * 128) (bytesV b)) p bb n (putC (putAll C (L.take k)) at' b) (.slice (some ⟨g, 0, none⟩) m cap) L) := D4
      clear D3 D4 J0 J1 c0 hq0 hq1
      generalize w2.drew.setCells bb (at' * 128) (bytesV b) = w4 at *
      go_wp2_with fail
      refine ⟨⟨k + 1, by go_num, by omega, ?_, hI.out.2.trans hk3 (fun g _ h => h)⟩, ?_⟩
      · rw [HX.out, putAll_snoc]; exact HD4.out
      · simp [intOf]; omega
    · have k1 : ¬ (k : Int) < (m : Int) := by omega
      have hkm : k = L.length := by have := HM.out; omega
      have HK : Hid (L.take k = L) := by show _ = _; rw [hkm, List.take_length]
      obtain ⟨c', r', hh'⟩ := hI.out.1.head
      have c1 : wr.cell? ⟨p, 1, none⟩ = some (.slice ao m cap) := by rw [cell_of_row wr p 1 _ _ _ hh']; rfl
      have f1 : wr.frozen? ⟨p, 1, none⟩ = false := frozen_of_row wr p 1 _ _ hh'
      have hh2 : (wr.setCell ⟨p, 1, none⟩ (.slice none 0 0)).heap[p]? = some (.cells (diskH bb n (.slice none 0 0) c' r') 151 (0, 0)) := by rw [heap_setCell_same wr p 1 _ _ _ hh']; rfl
      have HH2 : Hid ((wr.setCell ⟨p, 1, none⟩ (.slice none 0 0)).heap[p]? = some (.cells (diskH bb n (.slice none 0 0) c' r') 151 (0, 0))) := hh2
      clear hh' hh2 hkm
      go_wp2_with fail
      go_ret
      have hI1 := hI.out.1
      rw [HK.out] at hI1
      refine ⟨rfl, ⟨⟨c', r', HH2.out⟩, ?_, World.ownsRow_nil _ _ _ _, ⟨hI1.apart.1, by simp [Value.ownBlock], by simp [Value.ownBlock]⟩, hI1.len, fun x hx => by cases hx⟩, hI.out.2.trans (Kept.setCell (S := (· = p)) _ _ _ (Or.inl rfl)) (fun g _ e => Or.inl e)⟩
      rw [heap_setCell_other _ ⟨p, 1, none⟩ bb _ (fun e => hI1.apart.1 e.symm)]
      exact hI1.blocks
theorem catch_idle (p : Addr) (w : World) :
    CallsD Tryz.prog 174 #[.pointer (some p)] .returning w fun e u' w' => e = .returned (.tuple #[]) ∧ u' = .returning ∧ w' = w := by
  refine callsD_of_wpS Tryz.func174 rfl fun c₀ cs hu => ?_
  apply wpS_seq
  apply wpS_region
  simp [wpOpsS, go_sem, recoverD, hu, Tryz.ntmps174, Exit.thenS]
  refine wpS_cond (t := false) (by simp [Act.eval, Array.replicate]) ?_
  simp only [Bool.false_eq_true, if_false]
  refine wpS_of_wp (wp_skip ?_)
  cases c₀
  simp_all [bodyPostS, results, Tryz.results174]

set_option maxRecDepth 100000 in
set_option maxHeartbeats 400000 in
/-- Catch, where what is done returns. -/
theorem catch_ok (f : FuncId) (caps : Array Value) (w : World) (Q : World → Prop) (hcf : ∀ w, (callFunc f caps).run Tryz.prog w = .ok (.enter f caps) w)
    (h : Calls Tryz.prog f caps (w.alloc (.cells #[.nilIface] 35)) fun e w' => e = .returned (.tuple #[]) ∧ Q w' ∧ w'.cell? ⟨w.heap.size, 0, none⟩ = some .nilIface ∧ w'.frozen? ⟨w.heap.size, 0, none⟩ = false) :
    Calls Tryz.prog 158 #[.func (.func f) #[] caps] w fun e w' => e = .returned .nilIface ∧ ∃ w1, Q w1 ∧ w' = w1.setCell ⟨w.heap.size, 0, none⟩ .nilIface := by
  have hmf : ∀ (fn : Fn) (first cap : Array Value) (w : World), (Instr.makeFunc fn first cap).run Tryz.prog w = .ok (.func fn first cap) w := fun _ _ _ _ => rfl
  go_enter_defers Tryz.func158, Tryz.ntmps158
  go_wp2_with fail
  refine h.mono ?_
  rintro e w1 ⟨rfl, hQ, hc, hf⟩
  clear h
  go_wp2_with fail
  refine leaves_cons (f := 174) (args := #[.pointer (some ⟨w.heap.size, 0, none⟩)]) (by simp) (by simp [go_sem]) ?_
  refine (catch_idle ⟨w.heap.size, 0, none⟩ _).mono ?_
  rintro e u' w2 ⟨rfl, rfl, rfl⟩
  have hc2 : (w1.setCell ⟨w.heap.size, 0, none⟩ .nilIface).cell? ⟨w.heap.size, 0, none⟩ = some .nilIface := World.cell?_setCell_same _ _ _ hc
  simp [Leaves, settle, results, Tryz.results158, go_sem, hc2]
  exact ⟨w1, hQ, rfl⟩
theorem enter_of1 (caps : Array Value) (w : World) : (callFunc 159 caps).run Tryz.prog w = .ok (.enter 159 caps) w := by kernel_rfl
/-- A disk as a device. -/
def devV (p : Nat) : Value := .iface 23 (.pointer (some ⟨p, 0, none⟩))
theorem m_blocks (v : Value) (w : World) : (method 421 23 v "Blocks").run Tryz.prog w = .ok (207, v) w := by kernel_rfl
theorem m_read (v : Value) (w : World) : (method 421 23 v "Read").run Tryz.prog w = .ok (210, v) w := by kernel_rfl
theorem m_write (v : Value) (w : World) : (method 421 23 v "Write").run Tryz.prog w = .ok (211, v) w := by kernel_rfl
theorem m_flush (v : Value) (w : World) : (method 421 23 v "Flush").run Tryz.prog w = .ok (209, v) w := by kernel_rfl

set_option maxRecDepth 10000 in
set_option maxHeartbeats 400000 in
theorem of1_any (p bb n a s : Nat) (C : Nat → List Int) (cv : Value) (L : List (Nat × List Int)) (w : World) (h : DiskAt w p bb n C cv L) (x : Value) (ha : w.cell? ⟨a, 0, none⟩ = some (devV p)) (hs : w.cell? ⟨s, 0, none⟩ = some x) (hf : w.frozen? ⟨s, 0, none⟩ = false) :
    Calls Tryz.prog 159 #[.pointer (some ⟨a, 0, none⟩), .pointer (some ⟨s, 0, none⟩)] w fun e w' => e = .returned (.tuple #[]) ∧ w' = w.setCell ⟨s, 0, none⟩ (.int .i64 n) := by
  obtain ⟨c, r, hh⟩ := h.head
  have hb := dblocks_any p bb n cv c r w hh
  have hm := m_blocks (.pointer (some ⟨p, 0, none⟩))
  unfold devV at ha
  clear h hh
  go_enter Tryz.func159, Tryz.ntmps159
  go_wp2_with fail
  refine hb.mono ?_
  rintro e w1 ⟨rfl, hw⟩
  obtain rfl : w = w1 := hw.symm
  clear hw hb
  go_wp2_with fail
  go_end0
  exact ⟨rfl, rfl⟩

set_option maxRecDepth 10000 in
set_option maxHeartbeats 400000 in
theorem throw_nil (w : World) : Calls Tryz.prog 176 #[.nilIface] w fun e w' => e = .returned (.tuple #[]) ∧ w' = w := by
  go_enter Tryz.func176, Tryz.ntmps176
  go_wp2_with fail
  go_end0
  exact ⟨rfl, rfl⟩

/-- A volume's cells. -/
def volL (p n : Nat) : List Value := [devV p, .int .i64 (n : Nat)]
theorem info_vol (p n : Nat) : (Tryz.prog.info? 222).map (·.size) = some (volL p n).length := by show _ = some 2; kernel_rfl
theorem volL_one (p n : Nat) : ∀ u ∈ volL p n, u.oneCell' = true := by intro u hu; unfold volL devV at hu; simp at hu; rcases hu with rfl | rfl <;> rfl
theorem DiskAt.fresh {w w' : World} {p bb n : Nat} {C : Nat → List Int} {cv : Value} {L : List (Nat × List Int)} (h : DiskAt w p bb n C cv L) (hb : Below w.heap.size w w') : DiskAt w' p bb n C cv L := by
  obtain ⟨c, r, hh⟩ := h.head
  exact h.turn (Kept.fresh hb) ⟨c, r, (hb.block p h.lt.1).trans hh⟩

set_option maxRecDepth 10000 in
set_option maxHeartbeats 400000 in
theorem volOf_any (p bb n : Nat) (C : Nat → List Int) (cv : Value) (L : List (Nat × List Int)) (w : World) (h : DiskAt w p bb n C cv L) (h8 : 8 ≤ n) (h4 : n ≤ 400) :
    Calls Tryz.prog 131 #[devV p] w fun e w' => e = .returned (.tuple #[.agg (volL p n).toArray, .nilIface]) ∧ Below w.heap.size w w' := by
  have hmf : ∀ (fn : Fn) (first cap : Array Value) (w : World), (Instr.makeFunc fn first cap).run Tryz.prog w = .ok (.func fn first cap) w := fun _ _ _ _ => rfl
  have n8 : ¬ (n : Int) < 8 := by omega
  have n4 : ¬ (400 : Int) < (n : Int) := by omega
  have HD : Hid (DiskAt w p bb n C cv L) := h
  clear h
  go_enter Tryz.func131, Tryz.ntmps131
  unfold devV
  go_wp2_with fail
  obtain ⟨W, hW⟩ : ∃ W, W = ((w.alloc (.cells #[.iface 23 (.pointer (some ⟨p, 0, none⟩))] 154)).alloc (.cells #[.nilIface, .int .i64 0] 222)).alloc (.cells #[.int .i64 0] 3) := ⟨_, rfl⟩
  rw [← hW]
  have hWs : W.heap.size = w.heap.size + 3 := by rw [hW]; simp
  have hB : Below w.heap.size w W := by rw [hW]; exact (((Below.refl _ _).alloc (Nat.le_refl _) _).alloc (by simp) _).alloc (by simp; omega) _
  have q0 : W.cell? ⟨w.heap.size, 0, none⟩ = some (devV p) := by rw [hW]; rw [World.cell?_alloc_past _ _ _ (by simp; omega), World.cell?_alloc_past _ _ _ (by simp), World.cell?_alloc_at _ _ _ _ rfl]; rfl
  have q1 : W.there (w.heap.size + 1) 0 2 := by
    rw [hW]
    have := World.there_alloc (there_new (w.alloc (.cells #[.iface 23 (.pointer (some ⟨p, 0, none⟩))] 154)) #[.nilIface, .int .i64 0] 222) (.cells #[.int .i64 0] 3)
    simpa using this
  have q2 : W.cell? ⟨w.heap.size + 1 + 1, 0, none⟩ = some (.int .i64 0) := by rw [hW]; rw [World.cell?_alloc_at _ _ _ _ (by simp)]; rfl
  have f2 : W.frozen? ⟨w.heap.size + 1 + 1, 0, none⟩ = false := by rw [hW]; rw [World.frozen?_alloc_at _ _ _ _ (by simp)]
  clear hW
  have hBe : Below W.heap.size W (W.alloc (.cells #[.nilIface] 35)) := (Below.refl _ _).alloc (Nat.le_refl _) _
  have h1 := of1_any p bb n w.heap.size (w.heap.size + 1 + 1) C cv L (W.alloc (.cells #[.nilIface] 35)) ((HD.out.fresh hB).fresh hBe) (.int .i64 0) (by rw [World.cell?_alloc_past _ _ _ (by omega)]; exact q0) (by rw [World.cell?_alloc_past _ _ _ (by omega)]; exact q2) (by rw [World.frozen?_alloc_past _ _ _ (by omega)]; exact f2)
  have hcat := catch_ok 159 #[.pointer (some ⟨w.heap.size, 0, none⟩), .pointer (some ⟨w.heap.size + 1 + 1, 0, none⟩)] W (fun w1 => w1 = (W.alloc (.cells #[.nilIface] 35)).setCell ⟨w.heap.size + 1 + 1, 0, none⟩ (.int .i64 n)) (enter_of1 _) (h1.mono (fun e w' ⟨he, hw'⟩ => ⟨he, hw', by rw [hw', World.cell?_setCell_other _ _ _ _ (by intro e; have := congrArg Addr.block e; simp at this; omega), World.cell?_alloc_at _ _ _ _ rfl]; rfl, by rw [hw', World.frozen?_setCell, World.frozen?_alloc_at _ _ _ _ rfl]⟩))
  refine hcat.mono ?_
  rintro e w4 ⟨rfl, w1, hw1, hw4⟩
  have hw4s : w4.heap.size = w.heap.size + 4 := by rw [hw4, hw1]; simp; omega
  have hB4 : Below w.heap.size w w4 := by rw [hw4, hw1]; exact ((hB.alloc (by omega) _).setCell (p := ⟨w.heap.size + 1 + 1, 0, none⟩) (by show w.heap.size ≤ w.heap.size + 1 + 1; omega) _).setCell (p := ⟨W.heap.size, 0, none⟩) (by show w.heap.size ≤ W.heap.size; omega) _
  have p2 : w4.cell? ⟨w.heap.size + 1 + 1, 0, none⟩ = some (.int .i64 n) := by
    rw [hw4, hw1, World.cell?_setCell_other _ _ _ _ (by intro e; have := congrArg Addr.block e; simp at this; omega), World.cell?_setCell_same _ _ _ (u := .int .i64 0) (by rw [World.cell?_alloc_past _ _ _ (by omega)]; exact q2)]
  have p0 : w4.cell? ⟨w.heap.size, 0, none⟩ = some (.iface 23 (.pointer (some ⟨p, 0, none⟩))) := by
    rw [hw4, hw1, World.cell?_setCell_other _ _ _ _ (by intro e; have := congrArg Addr.block e; simp at this; omega), World.cell?_setCell_other _ _ _ _ (by intro e; have := congrArg Addr.block e; simp at this; omega), World.cell?_alloc_past _ _ _ (by omega)]; exact q0
  have p1 : w4.there (w.heap.size + 1) 0 2 := by
    rw [hw4, hw1]
    intro j hj
    have := World.there_setCells (World.there_setCells (World.there_alloc q1 (.cells #[.nilIface] 35)) (w.heap.size + 1 + 1) 0 [.int .i64 n]) W.heap.size 0 [.nilIface] j hj
    exact this
  clear hcat h1 hw4 hw1 q0 q1 q2 f2 hBe
  go_wp2_with (refine wpList_store_abs rfl 222 _ _ rfl (w.heap.size + 1) 0 (volL p n) rfl rfl p1 (info_vol p n) (volL_one p n) ?_; intro w5 _hw5 hr5 _ht5 hb5; clear _hw5 _ht5)
  exact ret_cell_tmp rfl (w.heap.size + 1) 0 (volL p n) _ .nilIface rfl rfl hr5 Tryz.underlying222 rfl (info_vol p n) rfl ⟨rfl, hB4.trans (hb5 _ (by omega))⟩
end Go.Proofs.YteglimjonofdeaaGreatDoor
