import Derived.Test.YteglimjonofdeaaGreatDoorNWrite
set_option linter.unusedVariables false
set_option linter.unusedSimpArgs false
namespace Go.Proofs.YteglimjonofdeaaGreatDoor
open Go.RowKit

/-- A row of cells written over, from o on. -/
def setR (cur : Array Value) (o : Nat) : List Value → Array Value
  | [] => cur
  | v :: vs => setR (cur.setIfInBounds o v) (o + 1) vs
theorem setR_get : ∀ (vs : List Value) (cur : Array Value) (o j : Nat), (setR cur o vs)[j]? = if o ≤ j ∧ j < o + vs.length ∧ j < cur.size then vs[j - o]? else cur[j]?
  | [], cur, o, j => by rw [setR, if_neg (by simp; omega)]
  | v :: vs, cur, o, j => by
    rw [setR, setR_get vs _ (o + 1) j, Array.size_setIfInBounds]
    by_cases h : o ≤ j ∧ j < o + (v :: vs).length ∧ j < cur.size
    · rw [if_pos h]
      rw [List.length_cons] at h
      by_cases e : j = o
      · subst e
        rw [if_neg (by omega), Array.getElem?_setIfInBounds_self_of_lt h.2.2, Nat.sub_self, List.getElem?_cons_zero]
      · rw [if_pos (by omega), show j - o = (j - (o + 1)) + 1 by omega, List.getElem?_cons_succ]
    · rw [if_neg h]
      rw [List.length_cons] at h
      rw [if_neg (by omega)]
      by_cases e : o = j
      · subst e
        rw [Array.getElem?_eq_none (by simp; omega), Array.getElem?_eq_none (by omega)]
      · rw [Array.getElem?_setIfInBounds_ne e]
theorem heap_setCells (b : Nat) (t : TypeId) : ∀ (vs : List Value) (w : World) (o : Nat) (cur : Array Value), w.heap[b]? = some (.cells cur t (0, 0)) → (w.setCells b o vs).heap[b]? = some (.cells (setR cur o vs) t (0, 0))
  | [], w, o, cur, h => h
  | v :: vs, w, o, cur, h => by
    rw [World.setCells, setR]
    exact heap_setCells b t vs _ (o + 1) _ (heap_setCell_same w b o _ _ _ h)
/-- What the blocks are behind writes. -/
def putC (C : Nat → List Int) (i : Nat) (b : List Int) : Nat → List Int := fun j => if j = i then b else C j
def putAll (C : Nat → List Int) (L : List (Nat × List Int)) : Nat → List Int := L.foldl (fun C x => putC C x.1 x.2) C
theorem putAll_snoc (C : Nat → List Int) (L : List (Nat × List Int)) (x : Nat × List Int) : putAll C (L ++ [x]) = putC (putAll C L) x.1 x.2 := by unfold putAll; rw [List.foldl_append]; rfl
theorem flat_put (C : Nat → List Int) (n i : Nat) (b : List Int) (hC : ∀ i, i < n → (C i).length = 128) (hi : i < n) (hb : b.length = 128) : setR (blkC C n).toArray (i * 128) (bytesV b) = (blkC (putC C i b) n).toArray := by
  have hC' : ∀ j, j < n → (putC C i b j).length = 128 := fun j hj => by unfold putC; split; exact hb; exact hC j hj
  apply Array.ext_getElem?
  intro j
  rw [setR_get, List.getElem?_toArray, List.getElem?_toArray, List.size_toArray, blkC_len C n hC, bytesV_length, hb]
  by_cases hj : j < 128 * n
  · have e1 := blkC_get C n (j / 128) (j % 128) hC (by omega) (by omega)
    have e2 := blkC_get (putC C i b) n (j / 128) (j % 128) hC' (by omega) (by omega)
    rw [show 128 * (j / 128) + j % 128 = j by omega] at e1 e2
    rw [e1, e2]
    unfold putC
    by_cases e : j / 128 = i
    · rw [if_pos ⟨by omega, by omega, hj⟩, if_pos e, show j - i * 128 = j % 128 by omega]
    · rw [if_neg (by omega), if_neg e]
  · rw [if_neg (by omega), List.getElem?_eq_none (by rw [blkC_len C n hC]; omega), List.getElem?_eq_none (by rw [blkC_len _ n hC']; omega)]
theorem DiskAt.put {w : World} {p bb n : Nat} {C : Nat → List Int} {cv : Value} {L : List (Nat × List Int)} (h : DiskAt w p bb n C cv L) (i : Nat) (b : List Int) (hi : i < n) (hb : b.length = 128) : DiskAt (w.setCells bb (i * 128) (bytesV b)) p bb n (putC C i b) cv L := by
  obtain ⟨c, r, hh⟩ := h.head
  refine ⟨⟨c, r, ?_⟩, ?_, own_sameX h.cache (fun g hg => heap_setCells_other' _ _ _ _ _ (fun e => h.apart.2.2 (by rw [← e]; exact hg))), h.apart, fun j hj => ?_, h.lens⟩
  · rw [heap_setCells_other' _ _ _ _ _ h.apart.1]; exact hh
  · rw [heap_setCells bb _ _ _ _ _ h.blocks, flat_put C n i b h.len hi hb]
  · unfold putC; split; exact hb; exact h.len j hj
theorem cacheL_get : ∀ (L : List (Nat × List Int)) (k j : Nat) (hk : k < L.length), (∀ x ∈ L, x.2.length = 128) → j < 129 → (cacheL L)[k * 129 + j]? = (wrL (L[k]'hk).1 (L[k]'hk).2)[j]?
  | x :: L, k, j, hk, h, hj => by
    have e : cacheL (x :: L) = wrL x.1 x.2 ++ cacheL L := by unfold cacheL wrL; simp
    have hl := wrL_len x.1 x.2 (h x (by simp))
    rw [e]
    cases k with
    | zero =>
      rw [Nat.zero_mul, Nat.zero_add, List.getElem?_append_left (by omega)]; rfl
    | succ k =>
      rw [List.getElem?_append_right (by omega), hl, show (k + 1) * 129 + j - 129 = k * 129 + j by omega]
      exact cacheL_get L k j (by simpa using hk) (fun y hy => h y (by simp [hy])) hj
theorem wr_info (i : Nat) (b : List Int) (hb : b.length = 128) : (Tryz.prog.info? 304).map (·.size) = some (wrL i b).length := by rw [wrL_len i b hb]; exact info_wr
theorem info_dblk (b : List Int) (hb : b.length = 128) : (Tryz.prog.info? 254).map (·.size) = some (bytesV b).length := by rw [bytesV_length, hb]; kernel_rfl

def flPost (w : World) (p bb n : Nat) (C : Nat → List Int) (L : List (Nat × List Int)) (e : Ending) (w' : World) : Prop :=
  e = .returned .nilIface ∧ DiskAt w' p bb n (putAll C L) (.slice none 0 0) [] ∧ Kept (fun g => g = p ∨ g = bb) w w'
def flRel (w : World) (p bb n : Nat) (C : Nat → List Int) (cv : Value) (L : List (Nat × List Int)) (i : Value) (wr : World) : Prop :=
  ∃ k : Nat, i = .int .i64 k ∧ k ≤ L.length ∧ Hid (DiskAt wr p bb n (putAll C (L.take k)) cv L ∧ Kept (fun g => g = p ∨ g = bb) w wr)

set_option maxRecDepth 10000 in
set_option maxHeartbeats 1000000 in
theorem dflush_any (p bb n : Nat) (C : Nat → List Int) (cv : Value) (L : List (Nat × List Int)) (w : World) (hn : n ≤ 1000) (hL : L.length ≤ 100000) (h : DiskAt w p bb n C cv L) :
    Calls Tryz.prog 209 #[.pointer (some ⟨p, 0, none⟩)] w (flPost w p bb n C L) := by
  obtain ⟨c, r, hh⟩ := h.head
  have hf := dfails_any p bb n _ c r w hh
  obtain ⟨ao, m, cap, hcv, hm⟩ : ∃ ao m cap, cv = .slice ao m cap ∧ m = L.length := by
    rcases h.cache.2 with ⟨rfl, e⟩ | ⟨g, cap, cur, rfl, _⟩
    · exact ⟨none, 0, 0, rfl, e.symm⟩
    · exact ⟨_, _, _, rfl, rfl⟩
  subst hcv
  have HM : Hid (m = L.length) := hm
  have hmb : m ≤ 100000 := by omega
  clear hm
  go_enter Tryz.func209, Tryz.ntmps209
  go_wp2_with fail
  refine hf.mono ?_
  rintro e w1 ⟨rfl, hw1⟩
  have hh1 : w1.heap[p]? = some (.cells (diskH bb n (.slice ao m cap) (wrap64 (c + 1)) r) 151 (0, 0)) := by rw [hw1, heap_setCell_same w p 2 _ _ _ hh]; rfl
  have hk1 : Kept (· = p) w w1 := by rw [hw1]; exact Kept.setCell _ _ _ (Or.inl rfl)
  have HD1 : Hid (DiskAt w1 p bb n C (.slice ao m cap) L) := h.turn hk1 ⟨_, _, hh1⟩
  have c1 : w1.cell? ⟨p, 1, none⟩ = some (.slice ao m cap) := by rw [cell_of_row w1 p 1 _ _ _ hh1]; rfl
  have HK1 : Hid (Kept (fun g => g = p ∨ g = bb) w w1) := hk1.mono (fun g _ e => Or.inl e)
  clear hf hw1 hh h hh1 hk1
  go_wp2_with fail
  go_loopw [13] (flRel w p bb n C (.slice ao m cap) L) (fun i _ => m - (intOf i).toNat)
  case atStart => exact ⟨0, rfl, Nat.zero_le _, HD1.out, HK1.out⟩
  case round =>
    clear HD1 HK1 c1
    obtain ⟨k, rfl, hk, hI⟩ := hrel
    by_cases hlt : k < m
    · have k1 : (k : Int) < (m : Int) := by omega
      have k0 : (0 : Int) ≤ (k : Int) := by omega
      have hkL : k < L.length := by have := HM.out; omega
      obtain ⟨g, hg⟩ : ∃ g, ao = some ⟨g, 0, none⟩ := by
        rcases hI.out.1.cache.2 with ⟨_, e⟩ | ⟨g, cap', cur, e, _⟩
        · omega
        · exact ⟨g, by injection e⟩
      subst hg
      obtain ⟨at', hat⟩ : ∃ a, a = (L[k]'hkL).1 := ⟨_, rfl⟩
      obtain ⟨b, hb'⟩ : ∃ b, b = (L[k]'hkL).2 := ⟨_, rfl⟩
      have hx := hI.out.1.lens (L[k]'hkL) (List.getElem_mem hkL)
      rw [← hat, ← hb'] at hx
      have hatn : at' < n := hx.1
      have hb : b.length = 128 := hx.2
      have HX : Hid (L.take (k + 1) = L.take k ++ [(at', b)]) := by show _ = _; rw [List.take_succ_eq_append_getElem hkL, hat, hb']
      have hrk : wr.rangeAt g (k * 129) (wrL at' b) := fun j v hv => by
        have hj : j < 129 := by have := (List.getElem?_eq_some_iff.1 hv).1; rw [wrL_len at' b hb] at this; exact this
        have := hI.out.1.cache.cells rfl (k * 129 + j) v (by rw [cacheL_get L k j hkL (fun x hx => (hI.out.1.lens x hx).2) hj, ← hat, ← hb']; exact hv)
        rwa [addr_add, Nat.zero_add] at this
      have htq : (wr.alloc (.cells (wrL 0 z128).toArray 304)).there wr.heap.size 0 (wrL at' b).length := by
        have := there_wr wr 0
        rw [wrL_len 0 z128 (by decide +kernel)] at this
        rw [wrL_len at' b hb]; exact this
      clear hx hat hb'
      have hinf := wr_info at' b hb
      have HID : Hid ((Tryz.prog.info? 304).map (·.size) = some (wrL at' b).length) := hinf
      clear hinf
      go_wp2_with (first
        | (refine wpList_load_mid rfl 304 _ rfl g (k * 129) rfl (wrL at' b) _ hrk Tryz.underlying304 rfl HID.out ?_)
        | (refine wpList_alloc_of rfl 304 rfl (wrL 0 z128).toArray alloc_wr ?_)
        | (refine wpList_store_abs rfl 304 _ _ rfl wr.heap.size 0 (wrL at' b) rfl rfl htq HID.out (wrL_one at' b) ?_
           intro w2 hw2 hr2 ht2 hb2
           have HZ2 : Hid (w2.heap.size = wr.heap.size + 1) := (by show _ = _; rw [hw2, size_setCells]; simp)
           clear hw2))
      have hB2 : Below wr.heap.size wr w2 := ((Below.refl _ _).alloc (Nat.le_refl _) _).trans (hb2 _ (Nat.le_refl _))
      have D2 : DiskAt w2 p bb n (putAll C (L.take k)) (.slice (some ⟨g, 0, none⟩) m cap) L := by
        obtain ⟨c', r', hh'⟩ := hI.out.1.head
        exact hI.out.1.turn (Kept.fresh hB2) ⟨c', r', (hB2.block p hI.out.1.lt.1).trans hh'⟩
      obtain ⟨c', r', hh2⟩ := D2.head
      have c0 : w2.drew.cell? ⟨p, 0, none⟩ = some (.slice (some ⟨bb, 0, none⟩) n n) := by show w2.cell? _ = _; rw [cell_of_row w2 p 0 _ _ _ hh2]; rfl
      have HD2 : Hid (DiskAt w2 p bb n (putAll C (L.take k)) (.slice (some ⟨g, 0, none⟩) m cap) L) := D2
      have a1 : (at' : Int) < (n : Int) := by omega
      have a0 : (0 : Int) ≤ (at' : Int) := by omega
      have hq0 : ∀ W : World, W.rangeAt wr.heap.size 0 (wrL at' b) → W.cell? ⟨wr.heap.size, 0, none⟩ = some (.int .i64 (at' : Nat)) := fun W hW => by have := hW 0 _ (show (wrL at' b)[0]? = some (.int .i64 (at' : Nat)) from rfl); rwa [Nat.zero_add] at this
      have hq1 : ∀ W : World, W.rangeAt wr.heap.size 0 (wrL at' b) → W.rangeAt wr.heap.size 1 (bytesV b) := fun W hW j v hv => by
        have := hW (j + 1) v (by unfold wrL; exact hv)
        rw [Nat.zero_add] at this
        rw [Nat.add_comm 1 j]; exact this
      have hpq : p ≠ bb := D2.apart.1
      have hbq : bb ≠ wr.heap.size := by have := hI.out.1.lt.2; omega
      have HIB : Hid ((Tryz.prog.info? 254).map (·.size) = some (bytesV b).length) := info_dblk b hb
      have HTB : Hid (w2.there bb (at' * 128) (bytesV b).length) := by show w2.there _ _ _; rw [bytesV_length, hb]; exact D2.there at' hatn
      clear D2 hh2 ht2 hb2 hrk htq
      have J0 : w2.drew.cell? ⟨p, 0, none⟩ = some (.slice (some ⟨bb, 0, none⟩) n n) ∧ w2.drew.rangeAt wr.heap.size 0 (wrL at' b) := ⟨c0, by rw [World.rangeAt_drew]; exact hr2⟩
      refine wp_region_noPanic ?_
      refine wp_region_held_drew (S := fun W => W.cell? ⟨p, 0, none⟩ = some (.slice (some ⟨bb, 0, none⟩) n n) ∧ W.rangeAt wr.heap.size 0 (wrL at' b)) (by kernel_rfl) J0 (fun _ => ?_)
      refine wpAnyH_take (i := 0) (v := ?_) rfl (by kernel_rfl) (by kernel_rfl) (by kernel_rfl) (fun _ _ _ h => h) (Or.inl ⟨by rfl, ?_⟩) J0 ?_
      rotate_left 1
      · intro W hSW; clear hSW; go_simp; try with_reducible rfl
      simp only [qA, qB, qC, Act.put, qD, qE, qF]
      refine wpAnyH_take (i := 1) (v := ?_) rfl (by kernel_rfl) (by kernel_rfl) (by kernel_rfl) (fun _ _ _ h => h) (Or.inl ⟨by rfl, ?_⟩) J0 ?_
      rotate_left 1
      · intro W hSW; clear hSW; go_simp; try with_reducible rfl
      simp only [qA, qB, qC, Act.put, qD, qE, qF]
      refine wpAnyH_take (i := 2) (v := ?_) rfl (by kernel_rfl) (by kernel_rfl) (by kernel_rfl) (fun _ _ _ h => h) (Or.inl ⟨by rfl, ?_⟩) J0 ?_
      rotate_left 1
      · intro W hSW; clear hSW; go_simp; try with_reducible rfl
      simp only [qA, qB, qC, Act.put, qD, qE, qF]
      refine wpAnyH_take (i := 3) (v := ?_) rfl (by kernel_rfl) (by kernel_rfl) (by kernel_rfl) (fun _ _ _ h => h) (Or.inl ⟨by rfl, ?_⟩) J0 ?_
      rotate_left 1
      · intro W hSW; have cW := hSW.1; clear hSW; go_simp; try with_reducible rfl
      simp only [qA, qB, qC, Act.put, qD, qE, qF]
      refine wpAnyH_take (i := 4) (v := ?_) rfl (by kernel_rfl) (by kernel_rfl) (by kernel_rfl) (fun _ _ _ h => h) (Or.inl ⟨by rfl, ?_⟩) J0 ?_
      rotate_left 1
      · intro W hSW; clear hSW; go_simp; try with_reducible rfl
      simp only [qA, qB, qC, Act.put, qD, qE, qF]
      refine wpAnyH_take (i := 5) (v := ?_) rfl (by kernel_rfl) (by kernel_rfl) (by kernel_rfl) (fun _ _ _ h => h) (Or.inl ⟨by rfl, ?_⟩) J0 ?_
      rotate_left 1
      · intro W hSW; have cW := hq0 W hSW.2; clear hSW; go_simp; try with_reducible rfl
      simp only [qA, qB, qC, Act.put, qD, qE, qF]
      refine wpAnyH_take (i := 6) (v := ?_) rfl (by kernel_rfl) (by kernel_rfl) (by kernel_rfl) (fun _ _ _ h => h) (Or.inl ⟨by rfl, ?_⟩) J0 ?_
      rotate_left 1
      · intro W hSW; clear hSW; go_simp; try with_reducible rfl
      simp only [qA, qB, qC, Act.put, qD, qE, qF]
      refine wpAnyH_take (i := 7) (v := .agg (bytesV b).toArray) rfl (by kernel_rfl) (by kernel_rfl) (by kernel_rfl) (fun _ _ _ h => h) (yieldsIf_load_mid (by rfl) 254 _ rfl wr.heap.size 1 rfl (bytesV b) _ (fun W hW => hq1 W hW.2) Tryz.underlying254 rfl HIB.out) J0 ?_
      simp only [qA, qB, qC, Act.put, qD, qE, qF]
      refine wpAnyH_take (i := 8) (v := ?_) rfl (by kernel_rfl) (by kernel_rfl) (by kernel_rfl) (fun _ _ _ h => h) (Or.inl ⟨by rfl, ?_⟩) J0 ?_
      rotate_left 1
      · intro W hSW; clear hSW; go_simp; try with_reducible rfl
      simp only [qA, qB, qC, Act.put, qD, qE, qF]
      refine wpAnyH_ready (rs := [9]) (by kernel_rfl) (by simp) ?_
      refine AllReadyH.cons rfl (fun K' hK' => ?_) AllReadyH.nil
      rw [if_pos (by rfl)]
      refine wp_store_mid 254 _ _ rfl bb (at' * 128) (bytesV b).toArray rfl rfl (by rw [List.size_toArray, World.there_drew]; exact HTB.out) (by rw [List.size_toArray]; exact HIB.out) (all_oneCell_toArray (bytesV_one b)) ?_
      rw [List.toList_toArray]
      have J1 : (w2.drew.setCells bb (at' * 128) (bytesV b)).cell? ⟨p, 0, none⟩ = some (.slice (some ⟨bb, 0, none⟩) n n) ∧ (w2.drew.setCells bb (at' * 128) (bytesV b)).rangeAt wr.heap.size 0 (wrL at' b) := ⟨by rw [World.cell?_setCells_out bb _ _ _ ⟨p, 0, none⟩ (fun e _ => absurd e hpq)]; exact c0, World.rangeAt_setCells_apart J0.2 _ _ _ (Or.inl (fun e => hbq e.symm))⟩
      refine hK'.out _ _ J1 (fun _ => ?_)
      clear hK' K'
      try simp only [qA, qB, qC, Act.put, qD, qE, qF]
      refine ⟨by kernel_rfl, ?_⟩
      refine NoPanic.normal ?_
      try simp only [qA, qB, qC, Act.put, qD, qE, qF]
      have D3 := HD2.out.put at' b hatn hb
      have hk3 : Kept (fun g => g = p ∨ g = bb) wr (w2.drew.setCells bb (at' * 128) (bytesV b)) := ((Kept.fresh hB2).trans (Kept.drew (fun _ => False) _) (fun g _ h => h.elim)).trans (Kept.setCells (S := (· = bb)) _ _ _ _ (Or.inl rfl)) (fun g _ e => Or.inr e)
      have D4 : DiskAt (w2.drew.setCells bb (at' * 128) (bytesV b)) p bb n (putC (putAll C (L.take k)) at' b) (.slice (some ⟨g, 0, none⟩) m cap) L := by
        have D2' : DiskAt w2.drew p bb n (putAll C (L.take k)) (.slice (some ⟨g, 0, none⟩) m cap) L := by
          obtain ⟨c', r', hh'⟩ := HD2.out.head
          exact HD2.out.turn (Kept.drew _ _) ⟨c', r', hh'⟩
        exact D2'.put at' b hatn hb
      have HD4 : Hid (DiskAt (w2.drew.setCells bb (at' * 128) (bytesV b)) p bb n (putC (putAll C (L.take k)) at' b) (.slice (some ⟨g, 0, none⟩) m cap) L) := D4
      clear D3 D4 J0 J1 c0 hq0 hq1
      generalize w2.drew.setCells bb (at' * 128) (bytesV b) = w4 at *
      go_wp2_with fail
      refine ⟨⟨k + 1, by go_num, by omega, ?_, hI.out.2.trans hk3 (fun g _ h => h)⟩, ?_⟩
      · rw [HX.out, putAll_snoc]; exact HD4.out
      · simp [intOf]; omega
    · have k1 : ¬ (k : Int) < (m : Int) := by omega
      have hkm : k = L.length := by have := HM.out; omega
      have HK : Hid (L.take k = L) := by show _ = _; rw [hkm, List.take_length]
      obtain ⟨c', r', hh'⟩ := hI.out.1.head
      have c1 : wr.cell? ⟨p, 1, none⟩ = some (.slice ao m cap) := by rw [cell_of_row wr p 1 _ _ _ hh']; rfl
      have f1 : wr.frozen? ⟨p, 1, none⟩ = false := frozen_of_row wr p 1 _ _ hh'
      have hh2 : (wr.setCell ⟨p, 1, none⟩ (.slice none 0 0)).heap[p]? = some (.cells (diskH bb n (.slice none 0 0) c' r') 151 (0, 0)) := by rw [heap_setCell_same wr p 1 _ _ _ hh']; rfl
      have HH2 : Hid ((wr.setCell ⟨p, 1, none⟩ (.slice none 0 0)).heap[p]? = some (.cells (diskH bb n (.slice none 0 0) c' r') 151 (0, 0))) := hh2
      clear hh' hh2 hkm
      go_wp2_with fail
      go_ret
      have hI1 := hI.out.1
      rw [HK.out] at hI1
      refine ⟨rfl, ⟨⟨c', r', HH2.out⟩, ?_, World.ownsRow_nil _ _ _ _, ⟨hI1.apart.1, by simp [Value.ownBlock], by simp [Value.ownBlock]⟩, hI1.len, fun x hx => by cases hx⟩, hI.out.2.trans (Kept.setCell (S := (· = p)) _ _ _ (Or.inl rfl)) (fun g _ e => Or.inl e)⟩
      rw [heap_setCell_other _ ⟨p, 1, none⟩ bb _ (fun e => hI1.apart.1 e.symm)]
      exact hI1.blocks
end Go.Proofs.YteglimjonofdeaaGreatDoor
