import Derived.Test.YtijdnpoenpjnlaaGreatDoorWEncode
import Derived.Test.YtijdnpoenpjnlaaGreatDoorRLeaf
import Derived.Deep.RegionHeld3
import Derived.Deep.AppendLies
set_option linter.unusedVariables false
set_option linter.unusedSimpArgs false
namespace Go.Proofs.YtijdnpoenpjnlaaGreatDoor
open Go.RowKit

theorem alloc_8r (w : World) : (Instr.alloc 96 true (.tuple #[])).run Tryz.prog w = .ok (.pointer (some ⟨w.heap.size, 0, none⟩)) (w.alloc (.cells z8.toArray 96)) := by kernel_rfl
theorem info_8r : (Tryz.prog.info? 96).map (·.size) = some 8 := by kernel_rfl
theorem there_z8r (w : World) : (w.alloc (.cells z8.toArray 96)).there w.heap.size 0 8 := by
  have h := there_new w z8.toArray 96
  rwa [show z8.toArray.size = 8 by decide +kernel] at h
def lenV : Value → Nat
  | .slice _ n _ => n
  | _ => 0
/-- The text, the mark, noughts. -/
def padA (D : List Int) (j : Nat) : List Int := D ++ 128 :: List.replicate j 0
theorem padA_len (D : List Int) (j : Nat) : (padA D j).length = D.length + 1 + j := by simp [padA]; omega
theorem padA_snoc (D : List Int) (j : Nat) : padA D j ++ [0] = padA D (j + 1) := by
  simp [padA, List.replicate_succ']
/-- The first k bytes of a count, the high one first. -/
def cntN (n : Int) (k : Nat) : List Int := (List.range k).map fun i => n / 2 ^ (8 * (7 - i)) % 256
theorem cntN_snoc (n : Int) (k : Nat) : cntN n (k + 1) = cntN n k ++ [n / 2 ^ (8 * (7 - k)) % 256] := by simp [cntN, List.range_succ]
theorem cntN_len (n : Int) (k : Nat) : (cntN n k).length = k := by simp [cntN]
theorem cnt_all (n : Int) (h0 : 0 ≤ n) (h1 : n < 2251799813685248) : cntN n 8 = fourN (n / 4294967296) ++ fourN (n % 4294967296) := by
  show [n / 72057594037927936 % 256, n / 281474976710656 % 256, n / 1099511627776 % 256, n / 4294967296 % 256, n / 16777216 % 256, n / 65536 % 256, n / 256 % 256, n / 1 % 256] = [n / 4294967296 / 16777216 % 256, n / 4294967296 / 65536 % 256, n / 4294967296 / 256 % 256, n / 4294967296 % 256, n % 4294967296 / 16777216 % 256, n % 4294967296 / 65536 % 256, n % 4294967296 / 256 % 256, n % 4294967296 % 256]
  have e0 : n / 72057594037927936 % 256 = n / 4294967296 / 16777216 % 256 := by omega
  have e1 : n / 281474976710656 % 256 = n / 4294967296 / 65536 % 256 := by omega
  have e2 : n / 1099511627776 % 256 = n / 4294967296 / 256 % 256 := by omega
  have e4 : n / 16777216 % 256 = n % 4294967296 / 16777216 % 256 := by omega
  have e5 : n / 65536 % 256 = n % 4294967296 / 65536 % 256 := by omega
  have e6 : n / 256 % 256 = n % 4294967296 / 256 % 256 := by omega
  have e7 : n / 1 % 256 = n % 4294967296 % 256 := by omega
  rw [e0, e1, e2, e4, e5, e6, e7]
theorem pad_whole (D : List Int) (h : D.length ≤ 140737488355000) : padA D (padLen D.length - D.length - 9) ++ cntN ((D.length : Int) * 8) 8 = padL D := by
  rw [cnt_all _ (by omega) (by omega)]
  simp [padA, padL]

theorem cell_off {w : World} {b k g o : Nat} {v u : Value} (h : g ≠ b) (hc : w.cell? ⟨g, o, none⟩ = some u) : (w.setCell ⟨b, k, none⟩ v).drew.cell? ⟨g, o, none⟩ = some u := by
  show (w.setCell ⟨b, k, none⟩ v).cell? ⟨g, o, none⟩ = some u
  rw [World.cell?_setCell_other (w := w) (a := ⟨b, k, none⟩) (b := ⟨g, o, none⟩) _ (by intro q; exact h (congrArg Addr.block q).symm)]
  exact hc
theorem cell_same {w : World} {b k o : Nat} {v u : Value} (h : o ≠ k) (hc : w.cell? ⟨b, o, none⟩ = some u) : (w.setCell ⟨b, k, none⟩ v).drew.cell? ⟨b, o, none⟩ = some u := by
  show (w.setCell ⟨b, k, none⟩ v).cell? ⟨b, o, none⟩ = some u
  rw [World.cell?_setCell_other (w := w) (a := ⟨b, k, none⟩) (b := ⟨b, o, none⟩) _ (by intro q; exact h (congrArg Addr.off q).symm)]
  exact hc
theorem mix_alt (a p b q : Int) : IntKind.u32.wrap (IntKind.u32.wrap (IntKind.u32.wrap (a + b) + p) + q) = IntKind.u32.wrap (IntKind.u32.wrap (IntKind.u32.wrap (a + p) + b) + q) := by
  show (((a + b) % 4294967296 + p) % 4294967296 + q) % 4294967296 = (((a + p) % 4294967296 + b) % 4294967296 + q) % 4294967296
  omega
theorem RowU.lt {w : World} {g n : Nat} {f : Nat → Int} (h : RowU w g n f) (j : Nat) (hj : j < n) : g < w.heap.size := World.block_lt_of_cell? w ⟨g, j, none⟩ (h j hj).1
theorem RowU.of_range {w : World} {g n : Nat} {l : List Int} (hr : w.rangeAt g 0 (l.map (Value.int .u32))) (ht : w.there g 0 n) (hl : l.length = n) : RowU w g n (fun j => l.getD j 0) := fun j hj => by
  have h1 := hr j (.int .u32 (l.getD j 0)) (by simp [List.getD, List.getElem?_eq_getElem (show j < l.length by omega)])
  have h2 := (ht j hj).2
  rw [Nat.zero_add] at h1 h2
  exact ⟨h1, h2⟩
theorem round_alt (a b c d e f g h W K : Int) : [(h + bits .xor .u32 (bits .xor .u32 (rotI e 26) (rotI e 21)) (rotI e 7) + bits .xor .u32 (bits .and .u32 e f) (bits .and .u32 (bits .xor .u32 IntKind.u32.max e) g) + K + W + bits .xor .u32 (bits .xor .u32 (rotI a 30) (rotI a 19)) (rotI a 10) + bits .xor .u32 (bits .xor .u32 (bits .and .u32 a b) (bits .and .u32 a c)) (bits .and .u32 b c)) % 4294967296, a, b, c, (d + (h + bits .xor .u32 (bits .xor .u32 (rotI e 26) (rotI e 21)) (rotI e 7) + bits .xor .u32 (bits .and .u32 e f) (bits .and .u32 (bits .xor .u32 IntKind.u32.max e) g) + K + W)) % 4294967296, e, f, g] = roundL W K [a, b, c, d, e, f, g, h] := by
  have e1 : ∀ p q r s t u v : Int, (p + q + r + s + t + u + v) % 4294967296 = ((p + q + r + s + t) % 4294967296 + (u + v) % 4294967296) % 4294967296 := by intros; omega
  have e2 : ∀ p q : Int, (p + q) % 4294967296 = (p + q % 4294967296) % 4294967296 := by intros; omega
  rw [e1, e2 d]
  rfl
/-- What the walk over the blocks leans on. -/
structure RAt (w0 w : World) (Kb Hb g N cap : Nat) (D : List Int) : Prop where
  consts : RowU w Kb 64 (fun j => roundsK.getD j 0)
  buf : BufAt (Hb + 1) w g (64 * N) cap D
  below : Below w0.heap.size w0 w
  kb : w0.heap.size ≤ Kb
  hb : Kb < Hb
  big : 64 * N ≤ 140737488355328
theorem RAt.go {w0 w w' : World} {Kb Hb g N cap : Nat} {D : List Int} (h : RAt w0 w Kb Hb g N cap D) (hb : Below w.heap.size w w') : RAt w0 w' Kb Hb g N cap D := by
  have h1 := h.buf.hi
  have h2 := h.buf.lo
  have h3 := h.hb
  have h4 := h.kb
  exact ⟨h.consts.below hb (by omega), h.buf.below hb h1, h.below.trans (hb.mono (by omega)), h.kb, h.hb, h.big⟩
theorem RowU.far {w : World} {b k g n : Nat} {f : Nat → Int} {v : Value} (h : RowU w g n f) (hne : g ≠ b) : RowU (w.setCell ⟨b, k, none⟩ v).drew g n f := fun j hj => by
  refine ⟨cell_off hne (h j hj).1, ?_⟩
  show (w.setCell ⟨b, k, none⟩ v).frozen? ⟨g, j, none⟩ = false
  rw [World.frozen?_setCell]; exact (h j hj).2
theorem RAt.setH {w0 w : World} {Kb Hb g N cap : Nat} {D : List Int} (h : RAt w0 w Kb Hb g N cap D) (k : Nat) (v : Value) : RAt w0 (w.setCell ⟨Hb, k, none⟩ v).drew Kb Hb g N cap D := by
  have h1 := h.buf.lo
  have h2 := h.kb
  have h3 := h.hb
  have hg : g ≠ Hb := by omega
  refine ⟨h.consts.far (by omega), ⟨h.buf.len, fun j u hu => cell_off hg (h.buf.cells j u hu), fun j hj => ?_, h.buf.le, h.buf.lo, by have := h.buf.hi; simpa [World.setCell] using this⟩, (below_setCells_one h.below (by omega) _ _).drew, h.kb, h.hb, h.big⟩
  have := h.buf.room j hj
  refine ⟨?_, ?_⟩
  · show ((w.setCell ⟨Hb, k, none⟩ v).cell? ⟨g, 0 + j, none⟩).isSome = true
    rw [World.cell?_setCell_other (w := w) (a := ⟨Hb, k, none⟩) (b := ⟨g, 0 + j, none⟩) _ (by intro q; exact hg (congrArg Addr.block q).symm)]
    exact this.1
  · show (w.setCell ⟨Hb, k, none⟩ v).frozen? ⟨g, 0 + j, none⟩ = false
    rw [World.frozen?_setCell]; exact this.2
theorem RowU.zip {w : World} {g n : Nat} {l lv : List Int} (h : RowU w g n (fun j => if j < n then (l.getD j 0 + lv.getD j 0) % 4294967296 else l.getD j 0)) (hl : l.length = n) (hv : lv.length = n) : RowU w g n (fun j => (List.zipWith (fun p q => (p + q) % 4294967296) l lv).getD j 0) := fun j hj => by
  refine ⟨(h j hj).1.trans ?_, (h j hj).2⟩
  simp only [hj, if_true]
  simp [List.getD, List.getElem?_zipWith, List.getElem?_eq_getElem (show j < l.length by omega), List.getElem?_eq_getElem (show j < lv.length by omega)]

set_option maxRecDepth 10000 in
set_option maxHeartbeats 1000000 in
theorem refsum_any (s : ByteArray) (w : World) (hs : s.size ≤ 140737488355000) :
    Calls Tryz.prog 30 #[.string s] w fun e w' => e = .returned (.string (sumOf (fun j => roundsK.getD j 0) s)) ∧ Below w.heap.size w w' := by
  go_enter Tryz.func30, Tryz.ntmps30
  go_wp2_with fail
  refine (constants_any _).mono ?_
  rintro e w1 ⟨rfl, hb1⟩
  have hone := ints_oneCell .u32 roundsK
  have hone8 := ints_oneCell .u32 startL
  have hs1 := hb1.size
  go_wp2_with (first | (refine wpList_alloc_of rfl 94 rfl z64.toArray alloc_64 ?_) | (refine wpList_store_abs rfl 94 _ _ rfl w1.heap.size 0 (roundsK.map (Value.int .u32)) rfl rfl (there_z64 w1) info_64 hone ?_; intro w2 _hw2 hr2 ht2 hb2; clear _hw2) | (refine wpList_build_val rfl 96 _ rfl (stV startL).toArray (fun _ => by kernel_rfl) ?_) | (refine wpList_alloc_of rfl 96 rfl z8.toArray alloc_8r ?_) | (refine wpList_store_abs rfl 96 _ _ rfl w2.heap.size 0 (stV startL) rfl rfl (there_z8r w2) info_8r hone8 ?_; intro w3 _hw3 hr3 ht3 hb3; clear _hw3) | (refine wpList_conv_buf rfl _ rfl s rfl ?_; intro w4 g4 cap4 hbuf4 hb4) | (at_builtin; refine wpList_append_buf rfl (.tmp 33) (.tmp 34) rfl w3.heap.size g4 s.size cap4 (numsOf s) rfl (hbuf4.alloc _) ⟨w4.heap.size, 0, none⟩ 1 [128] rfl (new_cells w4 (bytesV [128]) _) ?b1 ?b2 ?b3 ?_))
  case b1 => have := hb4.size; simp; omega
  case b2 => simp; omega
  case b3 => simp
  intro w5 g5 cap5 hbuf5 hb5
  have hB5 : Below w3.heap.size w3 w5 := hb4.trans (((Below.refl _ _).alloc (hb4.size) _).trans hb5)
  have hbuf5' : BufAt w3.heap.size w5 g5 (s.size + 1 + 0) cap5 (padA (numsOf s) 0) := hbuf5
  clear hbuf5 hbuf4 hb4 hb5 hone hone8
  obtain ⟨J, hJ⟩ : ∃ J, s.size + 9 + J = padLen s.size := ⟨padLen s.size - s.size - 9, by have := padLen_ge s.size; omega⟩
  have hJ2 : J < 64 := by have : padLen s.size ≤ s.size + 72 := by unfold padLen; omega
                          omega
  have hJ3 : padLen s.size % 64 = 0 := by unfold padLen; omega
  have HJ : Hid (s.size + 9 + J = padLen s.size ∧ padLen s.size % 64 = 0) := ⟨hJ, hJ3⟩
  clear hJ hJ3
  go_wp2_with fail
  go_loopw [6] (fun v wr => ∃ (j g cap : Nat), j ≤ J ∧ v = .slice (some ⟨g, 0, none⟩) (s.size + 1 + j) cap ∧ BufAt w3.heap.size wr g (s.size + 1 + j) cap (padA (numsOf s) j) ∧ Below w3.heap.size w3 wr) (fun v _ => s.size + 1 + J - lenV v)
  case atStart => exact ⟨0, g5, cap5, Nat.zero_le _, rfl, hbuf5', hB5⟩
  case round =>
    clear hbuf5' hB5
    obtain ⟨j, g, cap, hj, rfl, hbuf, hB⟩ := hrel
    by_cases hlt : j < J
    · have hne : (((s.size + 1 + j : Nat) : Int) % 64 != 56) = true := by
        rw [bne_iff_ne]; have h1 := HJ.out.1; have h2 := HJ.out.2; omega
      have hsz := hB.size
      go_wp2_with (at_builtin; refine wpList_append_buf rfl (.tmp 40) (.tmp 41) rfl w3.heap.size g (s.size + 1 + j) cap (padA (numsOf s) j) rfl (hbuf.alloc _) ⟨wr.heap.size, 0, none⟩ 1 [0] rfl (new_cells wr (bytesV [0]) _) ?b1 ?b2 ?b3 ?_)
      case b1 => simp; omega
      case b2 => simp; omega
      case b3 => simp
      intro w6 g6 cap6 hbuf6 hb6
      rw [padA_snoc] at hbuf6
      have hB6 : Below w3.heap.size w3 w6 := hB.trans (((Below.refl _ _).alloc hsz _).trans hb6)
      clear hbuf hB hb6
      go_wp2_with fail
      go_roundw
      case rel => exact ⟨j + 1, g6, cap6, by omega, rfl, hbuf6, hB6⟩
      case measure => simp [lenV]; omega
    · have hjJ : j = J := by omega
      subst hjJ
      have hne : (((s.size + 1 + j : Nat) : Int) % 64 != 56) = false := by
        have h1 := HJ.out.1; have h2 := HJ.out.2
        have : ((s.size + 1 + j : Nat) : Int) % 64 = 56 := by omega
        rw [this]; rfl
      have hbig : ((s.size : Nat) : Int) ≤ 140737488355000 := by omega
      go_wp2_with fail
      have hne' : (((s.size : Int) + 1 + (j : Int)) % 64 != 56) = false := by rw [show (s.size : Int) + 1 + (j : Int) = ((s.size + 1 + j : Nat) : Int) by omega]; exact hne
      simp only [hne']
      clear hne'
      go_loopw [6, 7] (fun v i wr => ∃ (k g cap : Nat), k ≤ 8 ∧ i = .int .i64 (7 - (k : Int)) ∧ v = .slice (some ⟨g, 0, none⟩) (s.size + 1 + j + k) cap ∧ BufAt w3.heap.size wr g (s.size + 1 + j + k) cap (padA (numsOf s) j ++ cntN (8 * (s.size : Int)) k) ∧ Below w3.heap.size w3 wr) (fun _ i _ => (intOf i + 1).toNat)
      case atStart => exact ⟨0, g, cap, Nat.zero_le _, rfl, rfl, by simpa [cntN] using hbuf, hB⟩
      case round =>
        clear hbuf hB hne
        obtain ⟨k, g, cap, hk, rfl, rfl, hbuf, hB⟩ := hrel
        by_cases hlt2 : k < 8
        · have hsz := hB.size
          have k0 : (0 : Int) ≤ 7 - (k : Int) := by omega
          have k7 : 7 - (k : Int) ≤ 7 := by omega
          go_wp2_with (at_builtin; refine wpList_append_buf rfl (.tmp 47) (.tmp 53) rfl w3.heap.size g (s.size + 1 + j + k) cap (padA (numsOf s) j ++ cntN (8 * (s.size : Int)) k) rfl (hbuf.alloc _) ⟨wr.heap.size, 0, none⟩ 1 [8 * (s.size : Int) / 2 ^ (8 * (7 - k)) % 256] rfl (new_cells wr (bytesV [8 * (s.size : Int) / 2 ^ (8 * (7 - k)) % 256]) _) ?b1 ?b2 ?b3 ?_)
          case b1 => simp; omega
          case b2 => simp; omega
          case b3 => simp
          intro w6 g6 cap6 hbuf6 hb6
          rw [← cntN_snoc] at hbuf6
          have hB6 : Below w3.heap.size w3 w6 := hB.trans (((Below.refl _ _).alloc hsz _).trans hb6)
          clear hbuf hB hb6
          go_wp2_with fail
          go_roundw
          case rel => exact ⟨k + 1, g6, cap6, by omega, by go_num, rfl, hbuf6, hB6⟩
          case measure => simp [intOf]; omega
        · obtain rfl : k = 8 := by omega
          have hbuf' : BufAt w3.heap.size wr g (padLen s.size) cap (padL (numsOf s)) := by
            have h1 := HJ.out.1
            have h2 := pad_whole (numsOf s) (by rw [numsOf_length]; exact hs)
            rw [numsOf_length, show padLen s.size - s.size - 9 = j by omega, Int.mul_comm] at h2
            rw [h2, show s.size + 1 + j + 8 = padLen s.size by omega] at hbuf
            exact hbuf
          clear hbuf
          have hlen : s.size + 1 + j + 8 = padLen s.size := by have h1 := HJ.out.1; omega
          rw [hlen]
          obtain ⟨N, hN⟩ : ∃ N, padLen s.size = 64 * N := ⟨padLen s.size / 64, by have := HJ.out.2; omega⟩
          have hN2 : 64 * N ≤ 140737488355328 := by rw [← hN]; unfold padLen; omega
          rw [hN] at hbuf' ⊢
          have hs2 := (hb2 _ (Nat.le_refl _)).size
          have hs3 := (hb3 _ (Nat.le_refl _)).size
          simp at hs2 hs3
          have hb31 : Below w1.heap.size w1 w2 := ((Below.refl _ _).alloc (Nat.le_refl _) _).trans (hb2 _ (Nat.le_refl _))
          have hb32 : Below w2.heap.size w2 w3 := ((Below.refl _ _).alloc (Nat.le_refl _) _).trans (hb3 _ (Nat.le_refl _))
          have hB0 : Below w.heap.size w wr := hb1.trans ((hb31.mono hs1).trans ((hb32.mono (by omega)).trans (hB.mono (by omega))))
          have hK0 : RowU wr w1.heap.size 64 (fun j => roundsK.getD j 0) := ((RowU.of_range (l := roundsK) hr2 ht2 rfl).below hb32 (by omega)).below hB (by omega)
          have R0 : RAt w wr w1.heap.size w2.heap.size g N cap (padL (numsOf s)) := by
            refine ⟨?_, ⟨hbuf'.len, hbuf'.cells, hbuf'.room, hbuf'.le, ?_, hbuf'.hi⟩, ?_, ?_, ?_, ?_⟩
            · exact hK0
            · have := hbuf'.lo; omega
            · exact hB0
            · omega
            · omega
            · exact hN2
          have H0 : RowU wr w2.heap.size 8 (fun j => startL.getD j 0) := (RowU.of_range (l := startL) hr3 ht3 rfl).below hB (by omega)
          clear hbuf' hB hs2 hs3 hr2 hr3 ht2 ht3 hb2 hb3 hb1 hs1 hb31 hb32 hK0 hB0
          obtain ⟨D, hD⟩ : ∃ D, D = padL (numsOf s) := ⟨_, rfl⟩
          rw [← hD] at R0
          have HD : Hid (D = padL (numsOf s)) := hD
          clear hD
          go_wp2_with fail
          go_loopw [8] (fun a wr => ∃ i : Nat, i ≤ N ∧ a = .int .i64 (64 * (i : Int)) ∧ RAt w wr w1.heap.size w2.heap.size g N cap D ∧ RowU wr w2.heap.size 8 (fun j => (blocksL (fun j => roundsK.getD j 0) D i).getD j 0)) (fun a _ => N - (intOf a).toNat / 64)
          case atStart => exact ⟨0, Nat.zero_le _, rfl, R0, H0⟩
          case round =>
            clear R0 H0
            obtain ⟨i, hi, rfl, R, H⟩ := hrel
            obtain ⟨wq, rfl⟩ : ∃ wq, wq = wr := ⟨_, rfl⟩
            by_cases hlt3 : i < N
            · have hkb := R.kb
              have hhb := R.hb
              have hgb := R.buf.hi
              have hN2 := R.big
              go_wp2_with (first | (refine wpList_alloc_of rfl 94 rfl z64.toArray alloc_64 ?_))
              go_loopw [10] (fun q wx => ∃ k : Nat, k ≤ 64 ∧ q = .int .i64 k ∧ RowU wx wq.heap.size 64 (fun j => (wordsL (fun j => D.getD (64 * i + j) 0) k).getD j 0) ∧ Below wq.heap.size wq wx) (fun q _ => 64 - (intOf q).toNat)
              case atStart => exact ⟨0, by omega, rfl, RowU.of_new wq _ 64, (Below.refl _ _).alloc (Nat.le_refl _) _⟩
              case round =>
                obtain ⟨k, hk, rfl, hrow, hB⟩ := hrel
                by_cases hk64 : k < 64
                · by_cases hk16 : k < 16
                  · go_wp2_with fail
                    obtain ⟨a, ha⟩ : ∃ a : Nat, a = 64 * i + 4 * k := ⟨_, rfl⟩
                    have ea : 64 * (i : Int) + 4 * (k : Int) = (a : Int) := by omega
                    rw [ea]
                    have hcl : ∀ r, r < 4 → wr.cell? ⟨g, a + r, none⟩ = some (.int .u8 (D.getD (a + r) 0)) := fun r hr => by
                      rw [hB.cell (p := ⟨g, a + r, none⟩) hgb]
                      have := range_nums R.buf.cells (a + r) (by have := R.buf.len; omega)
                      simpa using this
                    have hc0 : wr.cell? ⟨g, a, none⟩ = some (.int .u8 (D.getD a 0)) := hcl 0 (by omega)
                    have hc1 := hcl 1 (by omega)
                    have hc2 := hcl 2 (by omega)
                    have hc3 := hcl 3 (by omega)
                    have hck := (hrow k (by omega)).1
                    have hfk := (hrow k (by omega)).2
                    have hne : g ≠ wq.heap.size := by omega
                    have a0 : (0 : Int) ≤ (a : Int) := by omega
                    have a3 : (a : Int) + 3 < 64 * (N : Int) := by omega
                    have a2 : (a : Int) + 2 < 64 * (N : Int) := by omega
                    have a1 : (a : Int) + 1 < 64 * (N : Int) := by omega
                    have a00 : (a : Int) < 64 * (N : Int) := by omega
                    have k0 : (0 : Int) ≤ (k : Int) := by omega
                    have kk : (k : Int) < 64 := by omega
                    have p1 : (0 : Int) ≤ (a : Int) + 1 := by omega
                    have p2 : (0 : Int) ≤ (a : Int) + 2 := by omega
                    have p3 : (0 : Int) ≤ (a : Int) + 3 := by omega
                    have e1 : IntKind.i64.wrap ((a : Int) + 1) = (a : Int) + 1 := wrap_i64_mid _ (by omega) (by omega)
                    have e2 : IntKind.i64.wrap ((a : Int) + 2) = (a : Int) + 2 := wrap_i64_mid _ (by omega) (by omega)
                    have e3 : IntKind.i64.wrap ((a : Int) + 3) = (a : Int) + 3 := wrap_i64_mid _ (by omega) (by omega)
                    have t1 : ((a : Int) + 1).toNat = a + 1 := by omega
                    have t2 : ((a : Int) + 2).toNat = a + 2 := by omega
                    have t3 : ((a : Int) + 3).toNat = a + 3 := by omega
                    clear hcl ea
                    obtain ⟨x0, hx0⟩ : ∃ x, x = D.getD a 0 := ⟨_, rfl⟩
                    obtain ⟨x1, hx1⟩ : ∃ x, x = D.getD (a + 1) 0 := ⟨_, rfl⟩
                    obtain ⟨x2, hx2⟩ : ∃ x, x = D.getD (a + 2) 0 := ⟨_, rfl⟩
                    obtain ⟨x3, hx3⟩ : ∃ x, x = D.getD (a + 3) 0 := ⟨_, rfl⟩
                    have HX : Hid (readI x0 x1 x2 x3 = wordI (fun j => D.getD (64 * i + j) 0) k) := by
                      show readI x0 x1 x2 x3 = wordI (fun j => D.getD (64 * i + j) 0) k
                      rw [hx0, hx1, hx2, hx3, ha, wordI]
                      simp only [show 64 * i + 4 * k = 64 * i + k * 4 by omega, Nat.add_assoc]
                    rw [← hx0] at hc0
                    rw [← hx1] at hc1
                    rw [← hx2] at hc2
                    rw [← hx3] at hc3
                    clear hx0 hx1 hx2 hx3 ha
                    go_region_held3 (fun w' => w'.cell? ⟨g, a, none⟩ = some (.int .u8 x0) ∧ w'.cell? ⟨g, a + 1, none⟩ = some (.int .u8 x1) ∧ w'.cell? ⟨g, a + 2, none⟩ = some (.int .u8 x2) ∧ w'.cell? ⟨g, a + 3, none⟩ = some (.int .u8 x3)) (first | (exact ⟨hc0, hc1, hc2, hc3⟩) | (exact ⟨cell_off hne hc0, cell_off hne hc1, cell_off hne hc2, cell_off hne hc3⟩)) (fail)
                    clear hc0 hc1 hc2 hc3 hck hfk a0 a3 a2 a1 a00 k0 kk p1 p2 p3 e1 e2 e3 t1 t2 t3
                    go_wp2_with fail
                    go_roundw
                    case rel =>
                      refine ⟨k + 1, by omega, by go_num, RowU.set hrow (by omega) ?_ ?_, (below_setCells_one hB (Nat.le_refl _) _ _).drew⟩
                      · show (wordsL (fun j => D.getD (64 * i + j) 0) (k + 1)).getD k 0 = _
                        rw [wordsL_new, nextW, if_pos hk16, ← HX.out]; rfl
                      · intro j _ hj; exact wordsL_old _ k j hj
                    case measure => simp [intOf]; omega
                  · obtain ⟨q, rfl⟩ : ∃ q, k = q + 16 := ⟨k - 16, by omega⟩
                    have hc2 : wr.cell? ⟨wq.heap.size, q + 14, none⟩ = some (.int .u32 ((wordsL (fun j => D.getD (64 * i + j) 0) (q + 16)).getD (q + 14) 0)) := (hrow (q + 14) (by omega)).1
                    have hc15 : wr.cell? ⟨wq.heap.size, q + 1, none⟩ = some (.int .u32 ((wordsL (fun j => D.getD (64 * i + j) 0) (q + 16)).getD (q + 1) 0)) := (hrow (q + 1) (by omega)).1
                    have hc16 : wr.cell? ⟨wq.heap.size, q, none⟩ = some (.int .u32 ((wordsL (fun j => D.getD (64 * i + j) 0) (q + 16)).getD q 0)) := (hrow q (by omega)).1
                    have hc7 : wr.cell? ⟨wq.heap.size, q + 9, none⟩ = some (.int .u32 ((wordsL (fun j => D.getD (64 * i + j) 0) (q + 16)).getD (q + 9) 0)) := (hrow (q + 9) (by omega)).1
                    have hcs := (hrow (q + 16) (by omega)).1
                    have hfs := (hrow (q + 16) (by omega)).2
                    obtain ⟨x2, hx2⟩ : ∃ x, x = (wordsL (fun j => D.getD (64 * i + j) 0) (q + 16)).getD (q + 14) 0 := ⟨_, rfl⟩
                    obtain ⟨x15, hx15⟩ : ∃ x, x = (wordsL (fun j => D.getD (64 * i + j) 0) (q + 16)).getD (q + 1) 0 := ⟨_, rfl⟩
                    obtain ⟨x16, hx16⟩ : ∃ x, x = (wordsL (fun j => D.getD (64 * i + j) 0) (q + 16)).getD q 0 := ⟨_, rfl⟩
                    obtain ⟨x7, hx7⟩ : ∃ x, x = (wordsL (fun j => D.getD (64 * i + j) 0) (q + 16)).getD (q + 9) 0 := ⟨_, rfl⟩
                    have HX : Hid (mixI x16 x7 x15 x2 = nextW (fun j => D.getD (64 * i + j) 0) (wordsL (fun j => D.getD (64 * i + j) 0) (q + 16)) (q + 16)) := by
                      show mixI x16 x7 x15 x2 = _
                      rw [nextW, if_neg (by omega), hx16, hx7, hx15, hx2]
                      rw [show q + 16 - 16 = q by omega, show q + 16 - 7 = q + 9 by omega, show q + 16 - 15 = q + 1 by omega, show q + 16 - 2 = q + 14 by omega]
                    rw [← hx2] at hc2
                    rw [← hx15] at hc15
                    rw [← hx16] at hc16
                    rw [← hx7] at hc7
                    clear hx2 hx15 hx16 hx7
                    go_wp2_with fail
                    refine (turned_any _ _ _ (by omega) (by omega)).mono ?_
                    rintro e w6 ⟨rfl, m6, rfl⟩
                    go_wp2_with fail
                    refine (turned_any _ _ _ (by omega) (by omega)).mono ?_
                    rintro e w7 ⟨rfl, m7, rfl⟩
                    go_wp2_with fail
                    refine (turned_any _ _ _ (by omega) (by omega)).mono ?_
                    rintro e w8 ⟨rfl, m8, rfl⟩
                    go_wp2_with fail
                    refine (turned_any _ _ _ (by omega) (by omega)).mono ?_
                    rintro e w9 ⟨rfl, m9, rfl⟩
                    go_wp2_with fail
                    have hne : wq.heap.size = wq.heap.size := rfl
                    have ew : IntKind.i64.wrap (q : Int) = (q : Int) := wrap_i64_small _ (by omega) (by omega)
                    have e7a : IntKind.i64.wrap ((q : Int) + 16 - 7) = (q : Int) + 9 := by rw [wrap_i64_small _ (by omega) (by omega)]; omega
                    have e7b : IntKind.i64.wrap ((q : Int) + 9) = (q : Int) + 9 := wrap_i64_small _ (by omega) (by omega)
                    have q0 : (0 : Int) ≤ (q : Int) := by omega
                    have q9 : (0 : Int) ≤ (q : Int) + 9 := by omega
                    have q48 : (q : Int) < 64 := by omega
                    have q57 : (q : Int) + 9 < 64 := by omega
                    have t9 : ((q : Int) + 9).toNat = q + 9 := by omega
                    have q16 : (0 : Int) ≤ (q : Int) + 16 := by omega
                    have q64 : (q : Int) + 16 < 64 := by omega
                    have t16 : ((q : Int) + 16).toNat = q + 16 := by omega
                    go_region_held3 (fun w' => w'.cell? ⟨wq.heap.size, q, none⟩ = some (.int .u32 x16) ∧ w'.cell? ⟨wq.heap.size, q + 9, none⟩ = some (.int .u32 x7)) (first | (exact ⟨hc16, hc7⟩) | (exact ⟨cell_same (by omega) hc16, cell_same (by omega) hc7⟩)) (fail)
                    clear hc2 hc15 hc16 hc7 hcs hfs hne ew e7a e7b q0 q9 q48 q57 t9 q16 q64 t16
                    go_wp2_with fail
                    go_roundw
                    case rel =>
                      refine ⟨q + 17, by omega, by go_num, RowU.set hrow (by omega) ?_ ?_, below_setCells_one (below_draws hB _) (Nat.le_refl _) _ _⟩
                      · show (wordsL (fun j => D.getD (64 * i + j) 0) (q + 16 + 1)).getD (q + 16) 0 = _
                        rw [wordsL_new, ← HX.out, mixI]
                        exact mix_alt _ _ _ _
                      · intro j _ hj; exact wordsL_old _ (q + 16) j hj
                    case measure => simp [intOf]; omega
                · obtain rfl : k = 64 := by omega
                  have R4 := R.go hB
                  have H4 := H.below hB (by have := R.buf.lo; omega)
                  have hl8 := blocksL_length (fun j => roundsK.getD j 0) D i
                  obtain ⟨l, hl⟩ : ∃ l, l = blocksL (fun j => roundsK.getD j 0) D i := ⟨_, rfl⟩
                  rw [← hl] at hl8 H4
                  have HL : Hid (l = blocksL (fun j => roundsK.getD j 0) D i) := hl
                  have hwz : wq.heap.size < wr.heap.size := hrow.lt 0 (by omega)
                  clear hl H R hB
                  obtain ⟨wz, rfl⟩ : ∃ wz, wz = wr := ⟨_, rfl⟩
                  have hr := H4.range l hl8 (fun j _ => rfl)
                  have hi8 : (Tryz.prog.info? 96).map (·.size) = some (l.map (Value.int .u32)).length := by rw [List.length_map, hl8]; exact info_8r
                  have ht : (wz.alloc (.cells z8.toArray 96)).there wz.heap.size 0 (l.map (Value.int .u32)).length := by rw [List.length_map, hl8]; exact there_z8r wz
                  have hone : ∀ u ∈ l.map (Value.int .u32), u.oneCell' = true := ints_oneCell _ _
                  obtain ⟨L, hL⟩ : ∃ L, L = l.map (Value.int .u32) := ⟨_, rfl⟩
                  rw [← hL] at hr hi8 ht hone
                  have HLL : Hid (L = l.map (Value.int .u32)) := hL
                  clear hL
                  go_wp2_with (first | (refine wpList_load_mid rfl 96 _ rfl w2.heap.size 0 rfl L _ hr Tryz.underlying96 rfl hi8 ?_) | (refine wpList_alloc_of rfl 96 rfl z8.toArray alloc_8r ?_) | (refine wpList_store_abs rfl 96 _ _ rfl wz.heap.size 0 L rfl rfl ht hi8 hone ?_; intro wv _hwv hrv htv hbv; clear _hwv))
                  have hBv : Below wz.heap.size wz wv := ((Below.refl _ _).alloc (Nat.le_refl _) _).trans (hbv _ (Nat.le_refl _))
                  have hV : RowU wv wz.heap.size 8 (fun j => l.getD j 0) := by
                    rw [HLL.out] at hrv htv
                    rw [List.length_map, hl8] at htv
                    exact RowU.of_range hrv htv hl8
                  clear hr hi8 ht hone hrv htv hbv HLL
                  obtain ⟨W, hW⟩ : ∃ W : Nat → Int, W = fun j => (wordsL (fun j => D.getD (64 * i + j) 0) 64).getD j 0 := ⟨_, rfl⟩
                  rw [← hW] at hrow
                  have HW : Hid (W = fun j => (wordsL (fun j => D.getD (64 * i + j) 0) 64).getD j 0) := hW
                  clear hW
                  go_loopw [17] (fun q wx => ∃ k : Nat, k ≤ 64 ∧ q = .int .i64 k ∧ RowU wx wz.heap.size 8 (fun j => (roundsL W (fun j => roundsK.getD j 0) l k).getD j 0) ∧ Below wz.heap.size wz wx) (fun q _ => 64 - (intOf q).toNat)
                  case atStart => exact ⟨0, by omega, rfl, hV, hBv⟩
                  case round =>
                    clear hV hBv
                    obtain ⟨k, hk, rfl, hV, hB⟩ := hrel
                    by_cases hk64 : k < 64
                    · have hlk := roundsL_length W (fun j => roundsK.getD j 0) l hl8 k
                      obtain ⟨lk, hlk'⟩ : ∃ lk, lk = roundsL W (fun j => roundsK.getD j 0) l k := ⟨_, rfl⟩
                      rw [← hlk'] at hlk hV
                      match lk, hlk with
                      | [a, b, c, d, e, f, g', h7], _ =>
                        have HR : Hid ([a, b, c, d, e, f, g', h7] = roundsL W (fun j => roundsK.getD j 0) l k) := hlk'
                        clear hlk'
                        have t0 : wr.cell? ⟨wz.heap.size, 0, none⟩ = some (.int .u32 a) := (hV 0 (by omega)).1
                        have t1 : wr.cell? ⟨wz.heap.size, 1, none⟩ = some (.int .u32 b) := (hV 1 (by omega)).1
                        have t2 : wr.cell? ⟨wz.heap.size, 2, none⟩ = some (.int .u32 c) := (hV 2 (by omega)).1
                        have t3 : wr.cell? ⟨wz.heap.size, 3, none⟩ = some (.int .u32 d) := (hV 3 (by omega)).1
                        have t4 : wr.cell? ⟨wz.heap.size, 4, none⟩ = some (.int .u32 e) := (hV 4 (by omega)).1
                        have t5 : wr.cell? ⟨wz.heap.size, 5, none⟩ = some (.int .u32 f) := (hV 5 (by omega)).1
                        have t6 : wr.cell? ⟨wz.heap.size, 6, none⟩ = some (.int .u32 g') := (hV 6 (by omega)).1
                        have t7 : wr.cell? ⟨wz.heap.size, 7, none⟩ = some (.int .u32 h7) := (hV 7 (by omega)).1
                        have hcW : wr.cell? ⟨wq.heap.size, k, none⟩ = some (.int .u32 (W k)) := (hrow.below hB hwz k hk64).1
                        have hcK : wr.cell? ⟨w1.heap.size, k, none⟩ = some (.int .u32 (roundsK.getD k 0)) := ((R4.go hB).consts k hk64).1
                        have k64 : (k : Int) < 64 := by omega
                        go_wp2_with fail
                        go_quiet ((go_at_call 57; exact Calls.quiet_of (turned_any _ _ _ (by omega) (by omega))))
                        obtain ⟨m1, rfl⟩ : ∃ m1, m1 = nq := ⟨_, rfl⟩
                        go_wp2_with fail
                        go_quiet (fail)
                        obtain ⟨m2, rfl⟩ : ∃ m2, m2 = nq := ⟨_, rfl⟩
                        obtain ⟨wy, hwy⟩ : ∃ wy, wy = (wr.drewN m1).drewN m2 := ⟨_, rfl⟩
                        have hV' : RowU wy wz.heap.size 8 (fun j => [a, b, c, d, e, f, g', h7].getD j 0) := by rw [hwy]; exact (hV.draws m1).draws m2
                        have hB' : Below wz.heap.size wz wy := by rw [hwy]; exact below_draws (below_draws hB m1) m2
                        clear t0 t1 t2 t3 t4 t5 t6 t7 hV hB hcW hcK
                        rw [← hwy]
                        clear hwy
                        have t0 : wy.cell? ⟨wz.heap.size, 0, none⟩ = some (.int .u32 a) := (hV' 0 (by omega)).1
                        have t1 : wy.cell? ⟨wz.heap.size, 1, none⟩ = some (.int .u32 b) := (hV' 1 (by omega)).1
                        have t2 : wy.cell? ⟨wz.heap.size, 2, none⟩ = some (.int .u32 c) := (hV' 2 (by omega)).1
                        have t3 : wy.cell? ⟨wz.heap.size, 3, none⟩ = some (.int .u32 d) := (hV' 3 (by omega)).1
                        have t4 : wy.cell? ⟨wz.heap.size, 4, none⟩ = some (.int .u32 e) := (hV' 4 (by omega)).1
                        have t5 : wy.cell? ⟨wz.heap.size, 5, none⟩ = some (.int .u32 f) := (hV' 5 (by omega)).1
                        have t6 : wy.cell? ⟨wz.heap.size, 6, none⟩ = some (.int .u32 g') := (hV' 6 (by omega)).1
                        go_wp2_with fail
                        go_quiet ((go_at_call 57; exact Calls.quiet_of (turned_any _ _ _ (by omega) (by omega))))
                        obtain ⟨m3, rfl⟩ : ∃ m3, m3 = nq := ⟨_, rfl⟩
                        have hroom : (wy.drewN m3).there wz.heap.size 0 8 := fun j hj => by rw [Nat.zero_add]; exact ⟨(congrArg Option.isSome (hV' j hj).1).trans rfl, (hV' j hj).2⟩
                        go_wp2_with (first | (refine wpList_store_abs rfl 96 _ _ rfl wz.heap.size 0 _ rfl rfl hroom info_8r (ints_oneCell .u32 [_, _, _, _, _, _, _, _]) ?_; intro w4 _hw4 hr4 ht4 hb4; clear _hw4))
                        clear t0 t1 t2 t3 t4 t5 t6 hroom
                        go_roundw
                        case rel =>
                          refine ⟨k + 1, by omega, by go_num, RowU.of_range (l := roundsL W (fun j => roundsK.getD j 0) l (k + 1)) ?_ ht4 (roundsL_length W _ l hl8 (k + 1)), (below_draws hB' m3).trans (hb4 _ (Nat.le_refl _))⟩
                          show w4.rangeAt wz.heap.size 0 (List.map _ (roundL _ _ (roundsL W (fun j => roundsK.getD j 0) l k)))
                          rw [← HR.out, ← round_alt]
                          exact hr4
                        case measure => simp [intOf]; omega
                    · obtain rfl : k = 64 := by omega
                      have hv8 := roundsL_length W (fun j => roundsK.getD j 0) l hl8 64
                      obtain ⟨lv, hlv⟩ : ∃ lv, lv = roundsL W (fun j => roundsK.getD j 0) l 64 := ⟨_, rfl⟩
                      rw [← hlv] at hv8 hV
                      have HV : Hid (lv = roundsL W (fun j => roundsK.getD j 0) l 64) := hlv
                      clear hlv
                      have R6 := R4.go hB
                      have H6 := H4.below hB (by have := H4.lt 0 (by omega); omega)
                      have hVH : w2.heap.size < wz.heap.size := H4.lt 0 (by omega)
                      clear hB R4 H4 hrow
                      go_wp2_with fail
                      go_loopw [23] (fun q wx => ∃ k : Nat, k ≤ 8 ∧ q = .int .i64 k ∧ RAt w wx w1.heap.size w2.heap.size g N cap D ∧ RowU wx w2.heap.size 8 (fun j => if j < k then (l.getD j 0 + lv.getD j 0) % 4294967296 else l.getD j 0) ∧ RowU wx wz.heap.size 8 (fun j => lv.getD j 0)) (fun q _ => 8 - (intOf q).toNat)
                      case atStart => exact ⟨0, by omega, rfl, R6, H6, hV⟩
                      case round =>
                        clear R6 H6 hV
                        obtain ⟨k, hk, rfl, R6, H6, hV⟩ := hrel
                        by_cases hk8 : k < 8
                        · have hv : wr.cell? ⟨wz.heap.size, k, none⟩ = some (.int .u32 (lv.getD k 0)) := (hV k hk8).1
                          have hh : wr.cell? ⟨w2.heap.size, k, none⟩ = some (.int .u32 (l.getD k 0)) := by
                            have := (H6 k hk8).1
                            simpa using this
                          have hf := (H6 k hk8).2
                          have k0 : (0 : Int) ≤ (k : Int) := by omega
                          have k8 : (k : Int) < 8 := by omega
                          obtain ⟨x, hx⟩ : ∃ x, x = l.getD k 0 := ⟨_, rfl⟩
                          obtain ⟨y, hy⟩ : ∃ y, y = lv.getD k 0 := ⟨_, rfl⟩
                          rw [← hx] at hh
                          rw [← hy] at hv
                          have HXY : Hid (x = l.getD k 0 ∧ y = lv.getD k 0) := ⟨hx, hy⟩
                          clear hx hy
                          go_wp2_with fail
                          go_region
                          clear hv hh hf k0 k8
                          go_wp2_with fail
                          go_roundw
                          case rel =>
                            refine ⟨k + 1, by omega, by go_num, R6.setH k _, RowU.set H6 hk8 ?_ ?_, hV.far (by omega)⟩
                            · show (if k < k + 1 then (l.getD k 0 + lv.getD k 0) % 4294967296 else l.getD k 0) = _
                              rw [if_pos (by omega), HXY.out.1, HXY.out.2]
                            · intro q _ hq
                              by_cases h1 : q < k
                              · simp only [h1, if_true, show q < k + 1 by omega]
                              · simp only [h1, if_false, show ¬ q < k + 1 by omega]
                          case measure => simp [intOf]; omega
                        · obtain rfl : k = 8 := by omega
                          have H7 : RowU wr w2.heap.size 8 (fun j => (blocksL (fun j => roundsK.getD j 0) D (i + 1)).getD j 0) := by
                            have e : blocksL (fun j => roundsK.getD j 0) D (i + 1) = List.zipWith (fun p q => (p + q) % 4294967296) l lv := by
                              show takeL _ _ _ = _
                              rw [takeL, ← HL.out, ← HW.out, ← HV.out]
                            rw [e]
                            exact H6.zip hl8 hv8
                          clear H6 hV
                          go_wp2_with fail
                          go_roundw
                          case rel => (repeat apply Exists.intro); exact ⟨⟨i + 1, by omega, by go_num, R6, H7⟩, rfl⟩
                          case measure => simp [intOf]; omega
            · obtain rfl : i = N := by omega
              have hl8 := blocksL_length (fun j => roundsK.getD j 0) D i
              have HLL : Hid (blocksL (fun j => roundsK.getD j 0) D i = blocksL (fun j => roundsK.getD j 0) (padL (numsOf s)) (padLen (numsOf s).length / 64)) := by
                show blocksL (fun j => roundsK.getD j 0) D i = _
                rw [HD.out, numsOf_length, hN, Nat.mul_div_cancel_left _ (by omega)]
              obtain ⟨l, hl⟩ : ∃ l, l = blocksL (fun j => roundsK.getD j 0) D i := ⟨_, rfl⟩
              rw [← hl] at hl8 H HLL
              clear hl
              have hHb : w2.heap.size < wq.heap.size := H.lt 0 (by omega)
              obtain ⟨i0, hi0, hz0, hz1, hz2⟩ := info_parts info5
              go_wp2_with fail
              go_loopw [24, 25] (fun v q wx => ∃ (k : Nat) (v' : Value), k ≤ 8 ∧ q = .int .i64 k ∧ v' = v ∧ wx.ownsRow wq.heap.size 5 1 v' (4 * k) (bytesV (spreadN (l.take k))) ∧ Below wq.heap.size wq wx) (fun _ q _ => 8 - (intOf q).toNat)
              case atStart => exact ⟨0, _, by omega, rfl, rfl, ⟨rfl, Or.inl ⟨rfl, rfl⟩⟩, Below.refl _ _⟩
              case round =>
                obtain ⟨k, v24, hk, rfl, rfl, hown, hB⟩ := hrel
                have hsz := hB.size
                by_cases hk8 : k < 8
                · have hh : wr.cell? ⟨w2.heap.size, k, none⟩ = some (.int .u32 (l.getD k 0)) := (H.below hB hHb k hk8).1
                  obtain ⟨x, hx⟩ : ∃ x, x = l.getD k 0 := ⟨_, rfl⟩
                  rw [← hx] at hh
                  have HX : Hid (x = l.getD k 0) := hx
                  clear hx
                  have k0 : (0 : Int) ≤ (k : Int) := by omega
                  have k8 : (k : Int) < 8 := by omega
                  have hnb : v24.ownBlock ≠ some w2.heap.size := fun h => by have := (hown.lt _ h).1; omega
                  go_wp2_with fail
                  go_region_held3 (fun w' => w'.cell? ⟨w2.heap.size, k, none⟩ = some (.int .u32 x)) (first | (exact hh) | (exact (World.cell?_alloc_past _ _ _ (by show w2.heap.size < _; omega)).trans hh) | (refine (hgrow.cell_far _ (by simp; omega) (Ne.symm hnb)).trans ?_; exact (World.cell?_alloc_past _ _ _ (by show w2.heap.size < _; omega)).trans hh))
                    ((refine step_append_lies _ (by rfl) _ _ _ (by rfl) wq.heap.size 5 i0 _ 1 1 Tryz.underlying42 hi0 hz0 hz1 hz2 rfl (by omega) v24 (4 * k) _ (by rfl) ((hown.alloc _).drew) ⟨wr.heap.size, 0, none⟩ 4 4 (fourI x) (by rfl) (by rfl) (World.news_of_block (cs := (fourI x).toArray) (t := 5) (fr := (0, 0)) (heap_alloc_new wr _)) (fourI_one x) (by omega) (by unfold maxLen; omega) (by omega) (by simp; omega) (wr.heap.size + 1) (by simp) ?_; intro gg capg w1' hown1 hgrow hat hlt'))
                  have hB1 : Below wq.heap.size wq w1' := hB.trans ((((Below.refl _ _).alloc hsz _).drew).grown hgrow (by simp; omega) (fun k hk => (hown.lt k hk).1))
                  clear hgrow hat hh hown hB
                  go_wp2_with fail
                  go_roundw
                  case rel =>
                    (repeat apply Exists.intro)
                    refine ⟨⟨k + 1, _, by omega, by go_num, rfl, ?_, hB1⟩, rfl⟩
                    rw [spread_snoc l hl8 k hk8, bytesV_append, ← HX.out, show 4 * (k + 1) = 4 * k + 4 by omega]
                    exact hown1
                  case measure => simp [intOf]; omega
                · obtain rfl : k = 8 := by omega
                  have h8 : l.take 8 = l := List.take_of_length_le (by rw [hl8]; exact Nat.le_refl _)
                  rw [h8] at hown
                  have hcv := convert_own hown
                  have hfin : spreadN l = hashN (fun j => roundsK.getD j 0) (numsOf s) := by rw [HLL.out]; rfl
                  have HF : Hid (strOfNums (spreadN l) = sumOf (fun j => roundsK.getD j 0) s) := by
                    show strOfNums (spreadN l) = sumOf (fun j => roundsK.getD j 0) s
                    rw [hfin]; rfl
                  have hBB : Below w.heap.size w wr := R.below.trans (hB.mono (by have := R.below.size; omega))
                  clear hfin hown hB
                  go_wp2_with fail
                  go_ret
                  exact ⟨by rw [HF.out]; rfl, hBB⟩
end Go.Proofs.YtijdnpoenpjnlaaGreatDoor
