import Derived.Test.YteglimjonofdeaaGreatDoorConstsM
import Derived.Lib.LazyBuf
import Derived.Test.YteglimjonofdeaaGreatDoorConstsM
set_option linter.unusedVariables false
set_option linter.unusedSimpArgs false
namespace Go.Proofs.YteglimjonofdeaaGreatDoor
open Go.RowKit

/-- The bytes of a text, as numbers. -/
def numsOf (s : ByteArray) : List Int := s.data.toList.map fun b => (b.toNat : Int)
theorem numsOf_length (s : ByteArray) : (numsOf s).length = s.size := by unfold numsOf; rw [List.length_map, ← Lib.size_eq]
/-- Texts, one behind the other. -/
def joinN (ts : List ByteArray) : List Int := ts.flatMap numsOf
theorem join_snoc (ts : List ByteArray) (k : Nat) (hk : k < ts.length) : joinN (ts.take (k + 1)) = joinN (ts.take k) ++ numsOf (ts.getD k ByteArray.empty) := by
  unfold joinN
  rw [List.take_succ_eq_append_getElem hk, List.flatMap_append, List.getD, List.getElem?_eq_getElem hk]
  simp
theorem join_len (ts : List ByteArray) (k : Nat) (hk : k < ts.length) : (joinN (ts.take (k + 1))).length = (joinN (ts.take k)).length + (ts.getD k ByteArray.empty).size := by
  rw [join_snoc ts k hk, List.length_append, numsOf_length]
theorem join_le (ts : List ByteArray) (k : Nat) : (joinN (ts.take k)).length ≤ (joinN ts).length := by
  have h : joinN ts = joinN (ts.take k) ++ joinN (ts.drop k) := by unfold joinN; rw [← List.flatMap_append, List.take_append_drop]
  rw [h, List.length_append]; omega
/-- How many bytes there are in whole blocks. -/
def padLen (n : Nat) : Nat := (n + 8) / 64 * 64 + 64
/-- The bytes, filled up to whole blocks. -/
def padL (D : List Int) : List Int := D ++ 128 :: (List.replicate (padLen D.length - D.length - 9) 0 ++ (fourN ((D.length : Int) * 8 / 4294967296) ++ fourN ((D.length : Int) * 8 % 4294967296)))
theorem padLen_ge (n : Nat) : n + 9 ≤ padLen n := by unfold padLen; omega
theorem padL_length (D : List Int) : (padL D).length = padLen D.length := by
  have := padLen_ge D.length
  simp [padL, fourN]; omega

/-- A row that the call has just made: its cells are there. -/
theorem own_there {w : World} {base e n cap g : Nat} {xs : List Value} (h : w.ownsRow base e 1 (.slice (some ⟨g, 0, none⟩) n cap) n xs) : w.there g 0 n := by
  rcases h.2 with ⟨h0, _⟩ | ⟨g', cap', cur, hv, hb, hg, hn, hm, hc, _⟩
  · cases h0
  · simp only [Value.slice.injEq, Option.some.injEq, Addr.mk.injEq] at hv
    obtain ⟨⟨rfl, _, _⟩, _, rfl⟩ := hv
    intro j hj
    rw [cell_of_row w g (0 + j) cur e _ hg, frozen_of_row w g (0 + j) cur e hg]
    have hj' : j < cur.size := by omega
    simp [hj']
/-- Bytes are laid into a row, behind what is there already. -/
theorem range_over {w : World} {g : Nat} (A D Z : List Value) (hr : w.rangeAt g 0 (A ++ Z)) (ht : w.there g 0 (A ++ Z).length) (hl : D.length ≤ Z.length) : (w.setCells g A.length D).rangeAt g 0 (A ++ (D ++ Z.drop D.length)) := by
  have h2 := World.rangeAt_setCells_same w g A.length D (fun j hj => by have := ht (A.length + j) (by simp; omega); simpa using this)
  intro j v hv
  rcases Nat.lt_or_ge j A.length with h | h
  · have e : (w.setCells g A.length D).cell? ⟨g, 0 + j, none⟩ = w.cell? ⟨g, 0 + j, none⟩ := World.cell?_setCells_out g _ A.length w ⟨g, 0 + j, none⟩ (fun _ _ => Or.inl (by simp; omega))
    rw [e]
    refine hr j v ?_
    rw [List.getElem?_append_left h] at hv ⊢; exact hv
  · rcases Nat.lt_or_ge j (A.length + D.length) with h1 | h1
    · rw [List.getElem?_append_right h, List.getElem?_append_left (by omega)] at hv
      have := h2 (j - A.length) v hv
      rwa [show A.length + (j - A.length) = 0 + j by omega] at this
    · have e : (w.setCells g A.length D).cell? ⟨g, 0 + j, none⟩ = w.cell? ⟨g, 0 + j, none⟩ := World.cell?_setCells_out g _ A.length w ⟨g, 0 + j, none⟩ (fun _ _ => Or.inr (by simp; omega))
      rw [e]
      refine hr j v ?_
      rw [List.getElem?_append_right h, List.getElem?_append_right (by omega), List.getElem?_drop] at hv
      rw [List.getElem?_append_right h]
      rwa [show D.length + (j - A.length - D.length) = j - A.length by omega] at hv

theorem wrap_i64_mid (x : Int) (h0 : 0 ≤ x) (h1 : x ≤ 281474976710656) : IntKind.i64.wrap x = x := by
  simp [IntKind.wrap, IntKind.bits, IntKind.signed]; omega
theorem wrap_u64_mid (x : Int) (h0 : 0 ≤ x) (h1 : x ≤ 281474976710656) : IntKind.u64.wrap x = x := by
  simp [IntKind.wrap, IntKind.bits, IntKind.signed]; omega
theorem size_setCells (b : Nat) : ∀ (vs : List Value) (o : Nat) (w : World), (w.setCells b o vs).heap.size = w.heap.size
  | [], _, _ => rfl
  | v :: r, o, w => by rw [World.setCells, size_setCells b r (o + 1)]; simp [World.setCell]
theorem pad_step {w : World} {g : Nat} (A : List Int) (t : ByteArray) (N : Nat) (hr : w.rangeAt g 0 (bytesV A ++ bytesV (List.replicate (N - A.length) 0))) (ht : w.there g 0 N) (hl : A.length + t.size ≤ N) :
    (w.setCells g A.length (t.data.toList.map fun x => Value.int .u8 (x.toNat : Int))).rangeAt g 0 (bytesV (A ++ numsOf t) ++ bytesV (List.replicate (N - (A ++ numsOf t).length) 0)) := by
  have e : (t.data.toList.map fun x => Value.int .u8 (x.toNat : Int)) = bytesV (numsOf t) := by unfold bytesV numsOf; rw [List.map_map]; rfl
  have hlt : (bytesV (numsOf t)).length = t.size := by rw [bytesV_length, numsOf_length]
  have h := range_over (bytesV A) (bytesV (numsOf t)) (bytesV (List.replicate (N - A.length) 0)) hr (by rw [List.length_append, bytesV_length, bytesV_length, List.length_replicate, show A.length + (N - A.length) = N by omega]; exact ht) (by rw [hlt, bytesV_length, List.length_replicate]; omega)
  rw [bytesV_length] at h
  rw [e]
  have e2 : bytesV (A ++ numsOf t) ++ bytesV (List.replicate (N - (A ++ numsOf t).length) 0) = bytesV A ++ (bytesV (numsOf t) ++ (bytesV (List.replicate (N - A.length) 0)).drop (bytesV (numsOf t)).length) := by
    rw [hlt, bytesV_append, List.append_assoc, List.length_append, numsOf_length]
    congr 2
    simp [bytesV]
    omega
  rw [e2]; exact h
theorem pad_mark {w : World} {g : Nat} (A : List Int) (N n : Nat) (hn : n = A.length) (hr : w.rangeAt g 0 (bytesV A ++ bytesV (List.replicate (N - n) 0))) (ht : w.there g 0 N) (hl : n + 1 ≤ N) :
    (w.setCell ⟨g, n, none⟩ (.int .u8 128)).rangeAt g 0 (bytesV (A ++ [128]) ++ bytesV (List.replicate (N - n - 1) 0)) := by
  subst hn
  have h := range_over (bytesV A) [.int .u8 128] (bytesV (List.replicate (N - A.length) 0)) hr (by rw [List.length_append, bytesV_length, bytesV_length, List.length_replicate, show A.length + (N - A.length) = N by omega]; exact ht) (by rw [bytesV_length, List.length_replicate]; simp; omega)
  rw [bytesV_length] at h
  have e2 : bytesV (A ++ [128]) ++ bytesV (List.replicate (N - A.length - 1) 0) = bytesV A ++ ([Value.int .u8 128] ++ (bytesV (List.replicate (N - A.length) 0)).drop [Value.int .u8 128].length) := by
    rw [bytesV_append, List.append_assoc]
    congr 2
    simp [bytesV]
  rw [e2]; exact h

theorem pad_end {w : World} {g : Nat} (A : List Int) (N n : Nat) (hn : n = A.length) (hN : N = padLen A.length) (hr : w.rangeAt g 0 (bytesV (A ++ [128]) ++ bytesV (List.replicate (N - n - 1) 0))) (ht : w.there g 0 N) :
    (w.setCells g (N - 8) (fourI ((n : Int) * 8 / 4294967296) ++ fourI ((n : Int) * 8 % 4294967296))).rangeAt g 0 (bytesV (padL A)) := by
  subst hn
  have hge := padLen_ge A.length
  rw [← hN] at hge
  obtain ⟨X, hX⟩ : ∃ X, X = A ++ 128 :: List.replicate (N - A.length - 9) (0 : Int) := ⟨_, rfl⟩
  have hXl : X.length = N - 8 := by rw [hX]; simp; omega
  have e1 : bytesV (A ++ [128]) ++ bytesV (List.replicate (N - A.length - 1) 0) = bytesV X ++ bytesV (List.replicate 8 0) := by
    rw [hX, ← bytesV_append, ← bytesV_append]
    congr 1
    rw [show N - A.length - 1 = (N - A.length - 9) + 8 by omega, ← List.replicate_append_replicate]
    simp
  rw [e1] at hr
  have h := range_over (bytesV X) (fourI ((A.length : Int) * 8 / 4294967296) ++ fourI ((A.length : Int) * 8 % 4294967296)) (bytesV (List.replicate 8 0)) hr (by rw [List.length_append, bytesV_length, bytesV_length, List.length_replicate, hXl, show N - 8 + 8 = N by omega]; exact ht) (by rw [bytesV_length, List.length_replicate]; exact Nat.le_refl _)
  rw [bytesV_length, hXl] at h
  have e2 : bytesV (padL A) = bytesV X ++ (fourI ((A.length : Int) * 8 / 4294967296) ++ fourI ((A.length : Int) * 8 % 4294967296) ++ (bytesV (List.replicate 8 0)).drop 8) := by
    have e3 : (bytesV (List.replicate 8 0)).drop 8 = [] := by decide +kernel
    rw [e3, hX, List.append_nil]
    unfold fourI padL
    rw [← bytesV_append, ← bytesV_append, ← hN]
    congr 1
    simp
  rw [e2]; exact h

/-- Texts that lie in a block, or none. -/
def textsAt (w : World) (ao : Option Addr) (ts : List ByteArray) : Prop := 0 < ts.length → ∃ tb, ao = some ⟨tb, 0, none⟩ ∧ tb < w.heap.size ∧ ∀ j, j < ts.length → w.cell? ⟨tb, j, none⟩ = some (.string (ts.getD j ByteArray.empty))
theorem textsAt_of {w : World} {tb : Nat} {ts : List ByteArray} (htb : tb < w.heap.size) (hts : ∀ j, j < ts.length → w.cell? ⟨tb, j, none⟩ = some (.string (ts.getD j ByteArray.empty))) : textsAt w (some ⟨tb, 0, none⟩) ts := fun _ => ⟨tb, rfl, htb, hts⟩
theorem textsAt_nil (w : World) (ao : Option Addr) : textsAt w ao [] := fun h => by simp at h

set_option maxRecDepth 10000 in
set_option maxHeartbeats 1000000 in
theorem pad_gen (ts : List ByteArray) (ao : Option Addr) (cap : Nat) (w : World) (hn : ts.length ≤ 1000) (htot : (joinN ts).length ≤ 140737488355328) (hts : textsAt w ao ts) :
    Calls Tryz.prog 90 #[.slice ao ts.length cap] w fun e w' => ∃ g, e = .returned (.slice (some ⟨g, 0, none⟩) (padLen (joinN ts).length) (padLen (joinN ts).length)) ∧ w.heap.size ≤ g ∧ g < w'.heap.size ∧ w'.rangeAt g 0 (bytesV (padL (joinN ts))) ∧ Below w.heap.size w w' := by
  have HT : Hid (textsAt w ao ts) := hts
  clear hts
  go_enter Tryz.func90, Tryz.ntmps90
  go_wp2_with fail
  go_loop [3, 13] (fun len i => ∃ k : Nat, k ≤ ts.length ∧ i = .int .i64 k ∧ len = .int .i64 ((joinN (ts.take k)).length : Int)) (fun _ i => ts.length - (intOf i).toNat)
  case atStart => exact ⟨0, Nat.zero_le _, rfl, by simp [joinN]⟩
  case round =>
    obtain ⟨k, hk, rfl, rfl⟩ := hrel
    by_cases hlt : k < ts.length
    · obtain ⟨tb, hao, htb, hcs⟩ := HT.out (by omega)
      subst hao
      have hc := hcs k hlt
      clear hcs
      have hl := join_len ts k hlt
      have hl2 := join_le ts (k + 1)
      rw [hl] at hl2
      have HE : Hid ((joinN (ts.take (k + 1))).length = (joinN (ts.take k)).length + (ts.getD k ByteArray.empty).size) := hl
      clear hl
      have hsz : (ts.getD k ByteArray.empty).size ≤ 140737488355328 := by omega
      generalize ts.getD k ByteArray.empty = t at *
      go_wp2
      go_round
      case rel => exact ⟨k + 1, by omega, by go_num, by rw [HE.out]; go_num⟩
      case measure => simp [intOf]; omega
    · have hk' : k = ts.length := by omega
      subst hk'
      have hall : ts.take ts.length = ts := List.take_length
      rw [hall]
      clear hall
      obtain ⟨i0, hi, hz0, hz1, hz2⟩ := info_parts info5
      obtain ⟨N, hN⟩ : ∃ N, N = padLen (joinN ts).length := ⟨_, rfl⟩
      obtain ⟨n, hn0⟩ : ∃ n, n = (joinN ts).length := ⟨_, rfl⟩
      rw [← hn0] at hN htot ⊢
      have hN1 : ((N : Nat) : Int) = ((n : Int) + 8) / 64 * 64 + 64 := by rw [hN]; unfold padLen; omega
      have hN2 : n + 9 ≤ N := by rw [hN]; exact padLen_ge n
      have hN3 : N ≤ n + 72 := by rw [hN]; unfold padLen; omega
      have H0 : Hid (n = (joinN ts).length) := hn0
      have H1 : Hid (N = padLen n) := hN
      have H2 : Hid (((N : Nat) : Int) = ((n : Int) + 8) / 64 * 64 + 64) := hN1
      clear hn0 hN hN1
      go_wp2_with (at_make; refine wpList_make_full _ rfl _ _ 85 rfl w.heap.size 5 i0 (.int .u8 0) 1 Tryz.underlying85 hi hz0 hz1 .i64 .i64 _ _ N rfl rfl ?L ?C ?b2 ?b3 (Nat.le_refl _) ?_)
      case L => exact H2.out.symm
      case C => exact H2.out.symm
      case b2 => omega
      case b3 => unfold maxLen; omega
      intro w1 ho hg1
      have hB1 : Below w.heap.size w w1 := (Below.refl _ _).grown hg1 (Nat.le_refl _) (fun k hk => by cases hk)
      have hz := (ho.lt w.heap.size rfl).2
      have ht1 := own_there ho
      have hr1 : w1.rangeAt w.heap.size 0 (bytesV (List.replicate N 0)) := by
        obtain ⟨g, cap, hv, _, _, hr⟩ := own_open ho (by omega)
        simp only [Value.slice.injEq, Option.some.injEq, Addr.mk.injEq] at hv
        obtain ⟨⟨rfl, _⟩, _⟩ := hv
        rw [toList_madeCells_one] at hr; simpa [bytesV] using hr
      clear ho hg1
      go_wp2_with fail
      go_loopw [8, 31] (fun at' i wr => ∃ k : Nat, k ≤ ts.length ∧ i = .int .i64 k ∧ at' = .int .i64 ((joinN (ts.take k)).length : Int) ∧ wr.rangeAt w.heap.size 0 (bytesV (joinN (ts.take k)) ++ bytesV (List.replicate (N - (joinN (ts.take k)).length) 0)) ∧ wr.there w.heap.size 0 N ∧ Below w.heap.size w wr ∧ w.heap.size < wr.heap.size) (fun _ i _ => ts.length - (intOf i).toNat)
      case atStart => exact ⟨0, Nat.zero_le _, rfl, by simp [joinN], by simpa [joinN, bytesV] using hr1, ht1, hB1, hz⟩
      case round =>
        clear hr1 ht1 hB1 hz
        obtain ⟨k, hk, rfl, rfl, hr, ht, hB, hz⟩ := hrel
        by_cases hlt : k < ts.length
        · obtain ⟨tb, hao, htb, hcs⟩ := HT.out (by omega)
          subst hao
          have hc : wr.cell? ⟨tb, k, none⟩ = some (.string (ts.getD k ByteArray.empty)) := (hB.cell (p := ⟨tb, k, none⟩) htb).trans (hcs k hlt)
          clear hcs
          have hl := join_len ts k hlt
          have hj := join_snoc ts k hlt
          have hl2 := join_le ts (k + 1)
          rw [hl, ← H0.out] at hl2
          have HE : Hid ((joinN (ts.take (k + 1))).length = (joinN (ts.take k)).length + (ts.getD k ByteArray.empty).size) := hl
          have HJ : Hid (joinN (ts.take (k + 1)) = joinN (ts.take k) ++ numsOf (ts.getD k ByteArray.empty)) := hj
          clear hl hj
          generalize ts.getD k ByteArray.empty = t at *
          obtain ⟨A, hA⟩ : ∃ A, A = joinN (ts.take k) := ⟨_, rfl⟩
          rw [← hA] at HE HJ hr hl2 ⊢
          have hts : t.size ≤ 140737488355328 := by omega
          have hAl : A.length + t.size + 9 ≤ N := by omega
          have hrun := run_copy_string (P := Tryz.prog) wr 85 9 3 5 w.heap.size A.length (N - A.length) (N - A.length) t Tryz.underlying85 size_byte (by omega) (fun j hj => by simpa using (ht (A.length + j) (by omega)).1) (fun j hj => by simpa using (ht (A.length + j) (by omega)).2)
          have HA : Hid (A = joinN (ts.take k)) := hA
          clear hA
          go_wp2_with (at_builtin; refine Lib.wpList_copy_run _ rfl _ _ 85 9 rfl _ _ rfl rfl hrun ?_)
          go_roundw
          case rel =>
            refine ⟨k + 1, by omega, by go_num, by rw [HE.out]; go_num, ?_, World.there_setCells ht _ _ _, below_setCells (Nat.le_refl _) _ _ _ hB, by rw [size_setCells]; exact hz⟩
            rw [HJ.out]
            exact pad_step A t N hr ht (by omega)
          case measure => simp [intOf]; omega
        · have hk' : k = ts.length := by omega
          subst hk'
          have hall : ts.take ts.length = ts := List.take_length
          rw [hall] at hr ⊢
          clear hall
          rw [← H0.out] at hr ⊢
          have hc : (wr.cell? ⟨w.heap.size, n, none⟩).isSome = true := by simpa using (ht n (by omega)).1
          obtain ⟨old, hc⟩ := Option.isSome_iff_exists.1 hc
          have hf : wr.frozen? ⟨w.heap.size, n, none⟩ = false := by simpa using (ht n (by omega)).2
          have n0 : (n : Int) < (N : Int) := by omega
          go_wp2_with fail
          clear hc hf
          obtain ⟨w3, hw3⟩ : ∃ w3, w3 = wr.setCell ⟨w.heap.size, n, none⟩ (.int .u8 128) := ⟨_, rfl⟩
          rw [← hw3]
          have hr3 : w3.rangeAt w.heap.size 0 (bytesV (joinN ts ++ [128]) ++ bytesV (List.replicate (N - n - 1) 0)) := by rw [hw3]; exact pad_mark (joinN ts) N n H0.out hr ht (by omega)
          have ht3 : w3.there w.heap.size 0 N := by rw [hw3]; exact World.there_setCells ht w.heap.size n [.int .u8 128]
          have hB3 : Below w.heap.size w w3 := by rw [hw3]; exact hB.setCell (Nat.le_refl _) _
          have hz3 : w.heap.size < w3.heap.size := by rw [hw3]; simpa [World.setCell] using hz
          clear hw3 hr ht hB hz
          have e8 : IntKind.i64.wrap ((N : Int) - 8) = ((N - 8 : Nat) : Int) := by rw [wrap_i64_mid _ (by omega) (by omega)]; omega
          have eu : IntKind.u64.wrap (n : Int) = (n : Int) := wrap_u64_mid _ (by omega) (by omega)
          have b8 : (0 : Int) ≤ ((N - 8 : Nat) : Int) := by omega
          have b9 : ((N - 8 : Nat) : Int) ≤ (N : Int) := by omega
          have b10 : ¬ N = N - 8 := by omega
          have b11 : N - 8 ≤ N := by omega
          have b12 : N - (N - 8) = 8 := by omega
          refine wp_region_noPanic ?_
          refine wp_region_held_drew (S := fun _ => True) (by kernel_rfl) trivial (fun _ => ?_)
          refine tq (i := 0) (v := ?_) rfl trivial ?_ ?_
          rotate_left 1
          · intro w hSw; go_simp; try with_reducible rfl
          simp only [qA, qB, qC, Act.put, qD, qE, qF]
          refine tq (i := 1) (v := ?_) rfl trivial ?_ ?_
          rotate_left 1
          · intro w hSw; go_simp; try with_reducible rfl
          simp only [qA, qB, qC, Act.put, qD, qE, qF]
          refine tq (i := 2) (v := ?_) rfl trivial ?_ ?_
          rotate_left 1
          · intro w hSw; go_simp; try with_reducible rfl
          simp only [qA, qB, qC, Act.put, qD, qE, qF]
          refine tq (i := 3) (v := ?_) rfl trivial ?_ ?_
          rotate_left 1
          · intro w hSw; go_simp; try with_reducible rfl
          simp only [qA, qB, qC, Act.put, qD, qE, qF]
          refine tq (i := 4) (v := ?_) rfl trivial ?_ ?_
          rotate_left 1
          · intro w hSw; go_simp; try with_reducible rfl
          simp only [qA, qB, qC, Act.put, qD, qE, qF]
          refine tq (i := 5) (v := ?_) rfl trivial ?_ ?_
          rotate_left 1
          · intro w hSw; go_simp; try with_reducible rfl
          simp only [qA, qB, qC, Act.put, qD, qE, qF]
          refine tq (i := 6) (v := ?_) rfl trivial ?_ ?_
          rotate_left 1
          · intro w hSw; go_simp; try with_reducible rfl
          simp only [qA, qB, qC, Act.put, qD, qE, qF]
          refine rk 7 (fun K hK => ?_)
          go_simp
          refine (bitCount_any n _ (by omega) (by omega)).mono ?_
          rintro e w4 ⟨v4, rfl, ho4, hb4⟩
          obtain ⟨g4, cap4, rfl, hg4, hg4', hr4⟩ := own_open ho4 (by omega)
          have hr5 : w4.rangeAt w.heap.size 0 (bytesV (joinN ts ++ [128]) ++ bytesV (List.replicate (N - n - 1) 0)) := fun j v hv => (hb4.cell (p := ⟨w.heap.size, 0 + j, none⟩) hz3).trans (hr3 j v hv)
          have ht4 : w4.there w.heap.size 0 N := there_below hb4 hz3 ht3
          have hB4 : Below w.heap.size w w4 := hB3.drew.trans (hb4.mono (Nat.le_of_lt hz3))
          have hz4 : w.heap.size < w4.heap.size := Nat.lt_of_lt_of_le hz3 hb4.size
          clear ho4 hb4 hr3 ht3 hB3 hz3
          have hlen : (fourI ((n : Int) * 8 / 4294967296) ++ fourI ((n : Int) * 8 % 4294967296)).length = 8 := rfl
          have hrun := run_copy_cells (P := Tryz.prog) w4 85 85 3 5 w.heap.size (N - 8) 8 8 ⟨g4, 0, none⟩ 8 cap4 (fourI ((n : Int) * 8 / 4294967296) ++ fourI ((n : Int) * 8 % 4294967296)) Tryz.underlying85 (by kernel_rfl) rfl
            (fun j v hv => by rw [Addr.add_mid]; exact hr4 j v hv) (fun j hj => by rw [hlen] at hj; simpa using (ht4 (N - 8 + j) (by omega)).1) (fun j hj => by rw [hlen] at hj; simpa using (ht4 (N - 8 + j) (by omega)).2) (fun u hu => by rcases List.mem_append.1 hu with h | h <;> exact fourI_one _ u h)
          refine hK.out _ _ trivial (fun _ => ?_)
          clear hK K
          try simp only [qA, qB, qC, Act.put, qD, qE, qF]
          refine rk 8 (fun K hK => ?_)
          refine Lib.wp_copy_run _ (.tmp 50) (.tmp 53) 85 85 rfl _ _ rfl rfl hrun ?_
          refine hK.out _ _ trivial (fun _ => ?_)
          clear hK K hrun
          refine ⟨by kernel_rfl, ?_⟩
          refine NoPanic.normal ?_
          try simp only [qA, qB, qC, Act.put, qD, qE, qF]
          have hfin := pad_end (joinN ts) N n H0.out (by rw [← H0.out]; exact H1.out) hr5 ht4
          clear e8 eu b8 b9 b10 b11 b12 hr5 ht4 hr4
          go_wp2_with fail
          go_ret
          exact ⟨w.heap.size, by rw [← H0.out, ← H1.out]; rfl, Nat.le_refl _, by rw [size_setCells]; exact hz4, hfin, below_setCells (Nat.le_refl _) _ _ _ hB4⟩
end Go.Proofs.YteglimjonofdeaaGreatDoor
