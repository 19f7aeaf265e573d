import Derived.Test.YteglimjonofdeaaGreatDoorNFmt
import Derived.Test.YteglimjonofdeaaGreatDoorNRead2
import Derived.Test.YteglimjonofdeaaGreatDoorWTakeM
import Derived.BigQuiet
import Derived.OwnWalk
set_option linter.unusedVariables false
set_option linter.unusedSimpArgs false
namespace Go.Proofs.YteglimjonofdeaaGreatDoor
open Go.RowKit

theorem enter_fmt1 (caps : Array Value) (w : World) : (callFunc 160 caps).run Tryz.prog w = .ok (.enter 160 caps) w := by kernel_rfl
/-- What Format, told by an error, leaves. -/
def fmtEnd (K : Nat → Int) (p bb n : Nat) (C : Nat → List Int) (w : World) (e : Ending) (w' : World) : Prop :=
  e = .returned .nilIface ∧ DiskAt w' p bb n (fmtC (packN K (sumOf K origT) (stampT K C n))) (.slice none 0 0) [] ∧ Kept (fun g => g = p ∨ g = bb) w w'

set_option maxRecDepth 100000 in
set_option maxHeartbeats 400000 in
theorem jformat_any (K : Nat → Int) (p bb n : Nat) (C : Nat → List Int) (w : World) (hn : n ≤ 1000) (hn0 : 0 < n) (h : DiskAt w p bb n C (.slice none 0 0) []) (hC : ∀ i, i < n → ∀ x ∈ C i, 0 ≤ x ∧ x < 256) (T : Tab K w) (hpT : ¬ 1 = p) :
    Calls Tryz.prog 132 #[.agg (volL p n).toArray] w (fmtEnd K p bb n C w) := by
  have hmf : ∀ (fn : Fn) (first cap : Array Value) (w : World), (Instr.makeFunc fn first cap).run Tryz.prog w = .ok (.func fn first cap) w := fun _ _ _ _ => rfl
  have hpl := h.lt
  obtain ⟨W, hW⟩ : ∃ W, W = w.alloc (.cells (volL p n).toArray 222) := ⟨_, rfl⟩
  have hWs : W.heap.size = w.heap.size + 1 := by rw [hW]; simp
  have hB : Below w.heap.size w W := by rw [hW]; exact (Below.refl _ _).alloc (Nat.le_refl _) _
  have hV : W.rangeAt w.heap.size 0 (volL p n) := by rw [hW]; exact range_new _ _ _
  obtain ⟨E, hE⟩ : ∃ E, E = W.alloc (.cells #[.nilIface] 35) := ⟨_, rfl⟩
  have hEs : E.heap.size = w.heap.size + 2 := by rw [hE]; simp; omega
  have hBE : Below W.heap.size W E := by rw [hE]; exact (Below.refl _ _).alloc (Nat.le_refl _) _
  have hce : E.cell? ⟨W.heap.size, 0, none⟩ = some .nilIface := by rw [hE, World.cell?_alloc_at _ _ _ _ rfl]; rfl
  have hfe : E.frozen? ⟨W.heap.size, 0, none⟩ = false := by rw [hE, World.frozen?_alloc_at _ _ _ _ rfl]
  have hVE : E.rangeAt w.heap.size 0 (volL p n) := by rw [hE]; exact World.rangeAt_alloc hV _
  have D := (h.fresh hB).fresh hBE
  have L0 : Lv p bb n w.heap.size C E E := ⟨Kept.refl _ _, D, hVE⟩
  have h1 := format1_any K p bb n w.heap.size C E hn hn0 (by omega) (by omega) (by omega) L0 hC ((T.below hB).below hBE) hpT
  have hcat := catch_ok 160 #[.pointer (some ⟨w.heap.size, 0, none⟩)] W (fun w1 => DiskAt w1 p bb n (fmtC (packN K (sumOf K origT) (stampT K C n))) (.slice none 0 0) [] ∧ Kept (fun g => g = p ∨ g = bb) E w1) (enter_fmt1 _) (by
    rw [← hE]
    exact h1.mono (fun e w' ⟨he, hD', hk'⟩ => ⟨he, ⟨hD', hk'⟩, (hk'.cell (a := ⟨W.heap.size, 0, none⟩) (by show W.heap.size < _; omega) (by show ¬ (W.heap.size = p ∨ W.heap.size = bb); omega)).trans hce, (hk'.frozen (a := ⟨W.heap.size, 0, none⟩) (by show W.heap.size < _; omega) (by show ¬ (W.heap.size = p ∨ W.heap.size = bb); omega)).trans hfe⟩))
  have HB : Hid (Kept (fun g => g = p ∨ g = bb) w E) := (Kept.fresh hB).trans (Kept.fresh (S := fun _ => False) hBE) (fun g _ h => h.elim)
  have HS : Hid (W.heap.size = w.heap.size + 1 ∧ p < w.heap.size ∧ bb < w.heap.size) := ⟨hWs, hpl.1, hpl.2⟩
  clear h h1 L0 D hVE hfe hce hBE hEs hE hV hB hWs T hC
  go_enter Tryz.func132, Tryz.ntmps132
  go_wp2_with fail
  rw [← hW]
  refine hcat.mono ?_
  rintro e w4 ⟨rfl, w1, ⟨hD, hk⟩, hw4⟩
  have hk4 : Kept (· = W.heap.size) w1 w4 := by rw [hw4]; exact Kept.setCell _ _ _ (Or.inl rfl)
  clear hcat hW hw4
  go_wp2_with fail
  go_ret
  refine ⟨rfl, hD.kept hk4 (by have := HS.out; omega) (by have := HS.out; omega) (fun g hg => by cases hg), (HB.out.trans hk (fun g _ h => h)).trans hk4 (fun g h1 h2 => by have := HS.out; omega)⟩

set_option maxRecDepth 100000 in
set_option maxHeartbeats 400000 in
theorem aformat_any (K : Nat → Int) (p bb n : Nat) (C : Nat → List Int) (w : World) (h8 : 8 ≤ n) (h4 : n ≤ 400) (h : DiskAt w p bb n C (.slice none 0 0) []) (hC : ∀ i, i < n → ∀ x ∈ C i, 0 ≤ x ∧ x < 256) (T : Tab K w) (hpT : ¬ 1 = p) :
    Calls Tryz.prog 88 #[devV p] w (fmtEnd K p bb n C w) := by
  have hof := volOf_any p bb n C _ _ w h h8 h4
  have HJ : Hid (∀ W, Below w.heap.size w W → Calls Tryz.prog 132 #[.agg (volL p n).toArray] W (fmtEnd K p bb n C W)) := fun W hb => jformat_any K p bb n C W (by omega) (by omega) (h.fresh hb) hC (T.below hb) hpT
  have HIV : Hid ((Tryz.prog.info? 222).map (·.size) = some (volL p n).length) := info_vol p n
  clear h T hC
  go_enter Tryz.func88, Tryz.ntmps88
  go_wp2_with fail
  refine hof.mono ?_
  rintro e w1 ⟨rfl, hb1⟩
  clear hof
  unfold volL devV at *
  go_wp2_with fail
  have hB : Below w.heap.size w (w1.alloc (.cells #[.iface 23 (.pointer (some ⟨p, 0, none⟩)), .int .i64 (n : Nat)] 222)) := hb1.alloc (by have := hb1.size; omega) _
  refine (HJ.out _ hB).mono ?_
  rintro e w3 ⟨rfl, hD, hk⟩
  go_wp2_with fail
  go_ret
  exact ⟨rfl, hD, (Kept.fresh hB).trans hk (fun g _ h => h)⟩

set_option maxRecDepth 100000 in
set_option maxHeartbeats 400000 in
theorem pformat_any (K : Nat → Int) (p bb n : Nat) (C : Nat → List Int) (w : World) (h8 : 8 ≤ n) (h4 : n ≤ 400) (h : DiskAt w p bb n C (.slice none 0 0) []) (hC : ∀ i, i < n → ∀ x ∈ C i, 0 ≤ x ∧ x < 256) (T : Tab K w) (hpT : ¬ 1 = p) :
    Calls Tryz.prog 52 #[.pointer (some ⟨p, 0, none⟩)] w (fmtEnd K p bb n C w) := by
  have hf := aformat_any K p bb n C w h8 h4 h hC T hpT
  clear h T hC
  unfold devV at hf
  go_enter Tryz.func52, Tryz.ntmps52
  go_wp2_with fail
  refine hf.mono ?_
  rintro e w3 ⟨rfl, hD, hk⟩
  go_wp2_with fail
  go_ret
  exact ⟨rfl, hD, hk⟩

/-- A disk of noughts. -/
def zeroC : Nat → List Int := fun _ => z128
theorem blk_zero : ∀ n, blkC zeroC n = List.replicate (128 * n) (.int .u8 0)
  | 0 => rfl
  | n + 1 => by
    rw [blkC, blk_zero n, show bytesV (zeroC n) = List.replicate 128 (.int .u8 0) by unfold zeroC z128 bytesV; rw [List.map_replicate], List.replicate_append_replicate, show 128 * n + 128 = 128 * (n + 1) by omega]
theorem made_blk (n : Nat) : (madeCells (Value.agg zB.toArray).cells (n * 128)).toList = blkC zeroC n := by
  rw [blk_zero]
  refine List.eq_replicate_iff.2 ⟨?_, fun x hx => ?_⟩
  · rw [Array.length_toList, size_madeCells]; omega
  · unfold madeCells at hx
    rw [Array.toList_map] at hx
    obtain ⟨j, _, rfl⟩ := List.mem_map.1 hx
    have hs : (Value.agg zB.toArray).cells.size = 128 := by show zB.toArray.size = 128; rw [List.size_toArray, zB_len]
    rw [hs, getElem!_pos _ _ (by rw [hs]; omega)]
    have := zB_get (j % 128) (by omega)
    rw [List.getElem?_eq_getElem (by rw [zB_len]; omega)] at this
    exact Option.some.inj this
theorem info_dblkT : ∃ i, Tryz.prog.info? 254 = some i ∧ i.zero = some (.agg zB.toArray) ∧ i.size = 128 ∧ i.bytes = 128 := by
  obtain ⟨i, hi⟩ : ∃ i, Tryz.prog.info? 254 = some i := Option.isSome_iff_exists.1 (by kernel_rfl)
  refine ⟨i, hi, ?_, ?_, ?_⟩
  · have : (Tryz.prog.info? 254).bind (·.zero) = some (.agg zB.toArray) := by kernel_rfl
    rw [hi] at this; exact this
  · have : (Tryz.prog.info? 254).map (·.size) = some 128 := by kernel_rfl
    rw [hi] at this; exact Option.some.inj this
  · have : (Tryz.prog.info? 254).map (·.bytes) = some 128 := by kernel_rfl
    rw [hi] at this; exact Option.some.inj this
set_option maxRecDepth 100000 in
set_option maxHeartbeats 400000 in
theorem newdisk_any (n : Nat) (w : World) (hn0 : 0 < n) (hn : n < 1000) :
    Calls Tryz.prog 51 #[.int .i64 n] w fun e w' => ∃ p bb, e = .returned (.pointer (some ⟨p, 0, none⟩)) ∧ w.heap.size ≤ p ∧ w.heap.size ≤ bb ∧ DiskAt w' p bb n zeroC (.slice none 0 0) [] ∧ Below w.heap.size w w' := by
  obtain ⟨i0, hi, hz, hsz, hby⟩ := info_dblkT
  have n0 : ¬ (n : Int) < 0 := by omega
  have hm : (n : Int) % 1000 = (n : Int) := by omega
  go_enter Tryz.func51, Tryz.ntmps51
  go_wp2_with (at_make; refine wpList_make_full _ rfl _ _ 148 rfl w.heap.size 254 i0 (.agg zB.toArray) 128 Tryz.underlying148 hi hz hsz .i64 .i64 _ _ n rfl rfl ?L ?C ?b2 ?b3 (Nat.le_refl _) ?_)
  case b2 => omega
  case b3 => unfold maxLen; omega
  intro w2 ho2 hg2
  have HB : Hid (w2.heap[w.heap.size]? = some (.cells (blkC zeroC n).toArray 254 (0, 0))) := by
    rcases ho2.2 with ⟨e, _⟩ | ⟨g, cap, cur, e, _, hh, _, _, hcs, htk⟩
    · cases e
    · have e1 : w.heap.size = g ∧ n = cap := by injection e with e1 e2 e3; injection e1 with e1; injection e1 with e1; exact ⟨e1, e3⟩
      obtain ⟨rfl, rfl⟩ := e1
      rw [show madeCells zB.toArray (n * 128) = madeCells (Value.agg zB.toArray).cells (n * 128) from rfl, made_blk, List.take_of_length_le (by rw [Array.length_toList, hcs]; exact Nat.le_refl _)] at htk
      show _ = _
      rw [hh, ← htk]
  have HL : Hid (w.heap.size < w2.heap.size) := (ho2.lt w.heap.size rfl).2
  have HG : Hid (Below w.heap.size w w2) := (Below.refl _ _).grown hg2 (Nat.le_refl _) (fun k hk => by cases hk)
  clear ho2 hg2
  go_wp2_with fail
  go_ret
  have hl := HL.out
  refine ⟨w2.heap.size, w.heap.size, rfl, by omega, Nat.le_refl _, ⟨⟨0, 0, ?_⟩, ?_, World.ownsRow_nil _ _ _ _, ⟨by omega, by simp [Value.ownBlock], by simp [Value.ownBlock]⟩, fun i _ => by unfold zeroC z128; rw [List.length_replicate], fun x hx => by cases hx⟩, HG.out.alloc (by omega) _⟩
  · exact heap_alloc_new w2 _
  · exact (heap_alloc_old w2 _ hl).trans HB.out
/-- What Open's own part leaves: the records that were read lie in f. -/
def op1Post (K : Nat → Int) (p bb n j a f : Nat) (C : Nat → List Int) (l r : ByteArray) (w : World) (e : Ending) (w' : World) : Prop :=
  e = .returned (.tuple #[]) ∧ ∃ g cap, w'.cell? ⟨f, 0, none⟩ = some (.slice (some ⟨g, 0, none⟩) 1 cap) ∧ w'.ownsRow w.heap.size 9 1 (.slice (some ⟨g, 0, none⟩) 1 cap) 1 [.string r] ∧ DiskAt w' p bb n C (.slice none 0 0) [] ∧ w'.rangeAt j 0 (jL p n (sumOf K (l ++ r)) 1) ∧ w'.there j 0 35 ∧ Kept (fun g => g = p ∨ g = bb ∨ g = j ∨ g = f) w w'

set_option maxRecDepth 100000 in
set_option maxHeartbeats 400000 in
theorem open1_any (K : Nat → Int) (p bb n j a f : Nat) (C : Nat → List Int) (l r : ByteArray) (w : World) (hn : n ≤ 1000) (hn8 : 8 ≤ n) (hl : l.size = 32) (hr : r.size ≤ 18) (hjp : j ≠ p) (hjb : j ≠ bb) (hjl : j < w.heap.size) (L0 : Jv p bb n j C l 0 w w) (T : Tab K w) (hpT : ¬ 1 = p) (hjT : ¬ 1 = j)
    (hC0 : C 0 = packN K l r) (hC1 : C 1 = z128) (hno : z128.take 32 ≠ (packN K (sumOf K (l ++ r)) ⟨#[]⟩).take 32)
    (hal : a < w.heap.size ∧ f < w.heap.size) (hap : a ≠ p ∧ a ≠ bb ∧ a ≠ j ∧ a ≠ f) (hfp : f ≠ p ∧ f ≠ bb ∧ f ≠ j) (x : Value) (hca : w.cell? ⟨a, 0, none⟩ = some (.pointer (some ⟨j, 0, none⟩))) (hcf : w.cell? ⟨f, 0, none⟩ = some x) (hff : w.frozen? ⟨f, 0, none⟩ = false) :
    Calls Tryz.prog 177 #[.pointer (some ⟨a, 0, none⟩), .pointer (some ⟨f, 0, none⟩)] w (op1Post K p bb n j a f C l r w) := by
  have hrd := read_fresh K p bb n j C l r w hn hn8 hl hr hjp hjb hjl L0 T hpT hjT hC0 hC1 hno
  have HPL : Hid (p < w.heap.size ∧ bb < w.heap.size) := L0.disk.lt
  have HIV : Hid ((Tryz.prog.info? 222).map (·.size) = some (volL p n).length) := info_vol p n
  clear L0 T hno hC0 hC1
  go_enter Tryz.func177, Tryz.ntmps177
  go_wp2_with fail
  refine hrd.mono ?_
  rintro e w1 ⟨g, cap, rfl, hO, hD, hJ, hT, hk⟩
  clear hrd
  have hca1 : w1.cell? ⟨a, 0, none⟩ = some (.pointer (some ⟨j, 0, none⟩)) := (hk.cell (a := ⟨a, 0, none⟩) hal.1 (by show ¬ (a = p ∨ a = j); omega)).trans hca
  have hcf1 : w1.cell? ⟨f, 0, none⟩ = some x := (hk.cell (a := ⟨f, 0, none⟩) hal.2 (by show ¬ (f = p ∨ f = j); omega)).trans hcf
  have hff1 : w1.frozen? ⟨f, 0, none⟩ = false := (hk.frozen (a := ⟨f, 0, none⟩) hal.2 (by show ¬ (f = p ∨ f = j); omega)).trans hff
  have hgb := (hO.lt g rfl)
  obtain ⟨W, hW⟩ : ∃ W, W = w1.setCell ⟨f, 0, none⟩ (.slice (some ⟨g, 0, none⟩) 1 cap) := ⟨_, rfl⟩
  have hk2 : Kept (· = f) w1 W := by rw [hW]; exact Kept.setCell _ _ _ (Or.inl rfl)
  have hs := hk.size
  have hcaW : W.cell? ⟨a, 0, none⟩ = some (.pointer (some ⟨j, 0, none⟩)) := (hk2.cell (a := ⟨a, 0, none⟩) (by show a < _; omega) (by show ¬ (a = f); omega)).trans hca1
  have hcfW : W.cell? ⟨f, 0, none⟩ = some (.slice (some ⟨g, 0, none⟩) 1 cap) := by rw [hW]; exact World.cell?_setCell_same _ _ _ hcf1
  have hOW : W.ownsRow w.heap.size 9 1 (.slice (some ⟨g, 0, none⟩) 1 cap) 1 [.string r] := hk2.own hO (fun g' hg' e => by
    obtain rfl : g = g' := by simpa [Value.ownBlock] using hg'
    have e' : g = f := e
    omega)
  have hDW := hD.kept hk2 (by omega) (by omega) (fun g hg => by cases hg)
  have hJW : W.rangeAt j 0 (jL p n (sumOf K (l ++ r)) 1) := fun i v hv => (hk2.cell (a := ⟨j, 0 + i, none⟩) (by show j < _; omega) (by show ¬ (j = f); omega)).trans (hJ i v hv)
  have hTW : W.there j 0 35 := fun i hi => by rw [hk2.cell (a := ⟨j, 0 + i, none⟩) (by show j < _; omega) (by show ¬ (j = f); omega), hk2.frozen (a := ⟨j, 0 + i, none⟩) (by show j < _; omega) (by show ¬ (j = f); omega)]; exact hT i hi
  have hv0 : W.cell? ⟨j, 0, none⟩ = some (devV p) := j_vol hJW 0 _ rfl
  have hv1 : W.cell? ⟨j, 1, none⟩ = some (.int .i64 (n : Nat)) := j_vol hJW 1 _ rfl
  have hse := vsettle_any p bb n C (.slice none 0 0) [] W hn (by show 0 ≤ _; omega) hDW
  have HK : Hid (Kept (fun g => g = p ∨ g = bb ∨ g = j ∨ g = f) w W) := Kept.trans (S := fun g => g = p ∨ g = bb ∨ g = j ∨ g = f) (hk.mono (fun g _ h => by omega)) hk2 (fun g _ h => by omega)
  have HR : Hid (W.ownsRow w.heap.size 9 1 (.slice (some ⟨g, 0, none⟩) 1 cap) 1 [.string r] ∧ W.rangeAt j 0 (jL p n (sumOf K (l ++ r)) 1) ∧ W.there j 0 35 ∧ w.heap.size ≤ g ∧ w.heap.size ≤ W.heap.size) := ⟨hOW, hJW, hTW, hgb.1, by have := hk2.size; omega⟩
  have HC : Hid (W.cell? ⟨f, 0, none⟩ = some (.slice (some ⟨g, 0, none⟩) 1 cap)) := hcfW
  clear hk hk2 hO hOW hD hDW hJ hT hJW hTW hgb hs
  unfold volL devV at *
  go_wp2_with (rw [← hW]; clear hW hca1 hcf1 hff1)
  refine hse.mono ?_
  rintro e w2 ⟨rfl, hD2, hk⟩
  clear hse
  go_wp2_with fail
  go_end0
  have hr := HR.out
  have hpl := HPL.out
  refine ⟨rfl, g, cap, (hk.cell (a := ⟨f, 0, none⟩) (by show f < _; omega) (by show ¬ (f = p ∨ f = bb); omega)).trans HC.out, hk.own hr.1 (fun g' hg' e => ?_), hD2, fun i v hv => (hk.cell (a := ⟨j, 0 + i, none⟩) (by show j < _; omega) (by show ¬ (j = p ∨ j = bb); omega)).trans (hr.2.1 i v hv), fun i hi => ?_, HK.out.trans hk (fun g _ h => by omega)⟩
  · obtain rfl : g = g' := by simpa [Value.ownBlock] using hg'
    have e' : g = p ∨ g = bb := e
    omega
  · rw [hk.cell (a := ⟨j, 0 + i, none⟩) (by show j < _; omega) (by show ¬ (j = p ∨ j = bb); omega), hk.frozen (a := ⟨j, 0 + i, none⟩) (by show j < _; omega) (by show ¬ (j = p ∨ j = bb); omega)]; exact hr.2.2.1 i hi
theorem list32 (xs : List Value) (h : xs.length = 32) : ∃ x0 x1 x2 x3 x4 x5 x6 x7 x8 x9 x10 x11 x12 x13 x14 x15 x16 x17 x18 x19 x20 x21 x22 x23 x24 x25 x26 x27 x28 x29 x30 x31, xs = [x0, x1, x2, x3, x4, x5, x6, x7, x8, x9, x10, x11, x12, x13, x14, x15, x16, x17, x18, x19, x20, x21, x22, x23, x24, x25, x26, x27, x28, x29, x30, x31] :=
  match xs, h with
  | [x0, x1, x2, x3, x4, x5, x6, x7, x8, x9, x10, x11, x12, x13, x14, x15, x16, x17, x18, x19, x20, x21, x22, x23, x24, x25, x26, x27, x28, x29, x30, x31], _ => ⟨x0, x1, x2, x3, x4, x5, x6, x7, x8, x9, x10, x11, x12, x13, x14, x15, x16, x17, x18, x19, x20, x21, x22, x23, x24, x25, x26, x27, x28, x29, x30, x31, rfl⟩
theorem j_built (p n : Nat) (l : ByteArray) (hl : l.size = 32) : Tryz.prog.built 264 [(0, .agg (volL p n).toArray), (1, .agg (hV l).toArray)] = some (jL p n l 0).toArray := by
  obtain ⟨x0, x1, x2, x3, x4, x5, x6, x7, x8, x9, x10, x11, x12, x13, x14, x15, x16, x17, x18, x19, x20, x21, x22, x23, x24, x25, x26, x27, x28, x29, x30, x31, e⟩ := list32 (hV l) (hV_len hl)
  unfold jL volL devV
  rw [e]
  kernel_rfl
theorem alloc_jp (w : World) : (Instr.alloc 171 true (.tuple #[])).run Tryz.prog w = .ok (.pointer (some ⟨w.heap.size, 0, none⟩)) (w.alloc (.cells [Value.pointer none].toArray 171)) := by kernel_rfl
theorem there_j (W : World) (p n u : Nat) (l : ByteArray) (hl : l.size = 32) : (W.alloc (.cells (jL p n l u).toArray 264)).there W.heap.size 0 35 := by
  have := there_new W (jL p n l u).toArray 264
  rw [show (jL p n l u).toArray.size = 35 by rw [List.size_toArray]; exact jL_len _ _ _ _ hl] at this
  exact this
/-- What Open, told no error, leaves. -/
def opPost (K : Nat → Int) (p bb n : Nat) (C : Nat → List Int) (l r : ByteArray) (w : World) (e : Ending) (w' : World) : Prop :=
  ∃ j a c, e = .returned (.tuple #[.pointer (some ⟨j, 0, none⟩), .slice a 0 c, .nilIface]) ∧ w.heap.size ≤ j ∧ j < w'.heap.size ∧ w'.rangeAt j 0 (jL p n (sumOf K (l ++ r)) 1) ∧ w'.there j 0 35 ∧ DiskAt w' p bb n C (.slice none 0 0) [] ∧ Kept (fun g => g = p ∨ g = bb) w w'
theorem enter_open1 (caps : Array Value) (w : World) : (callFunc 177 caps).run Tryz.prog w = .ok (.enter 177 caps) w := by kernel_rfl

set_option maxRecDepth 100000 in
set_option maxHeartbeats 4000000 in
theorem jopen_any (K : Nat → Int) (p bb n : Nat) (C : Nat → List Int) (r : ByteArray) (w : World) (hn : n ≤ 1000) (hn8 : 8 ≤ n) (hr : r.size ≤ 18) (hD : DiskAt w p bb n C (.slice none 0 0) []) (T : Tab K w) (hpT : ¬ 1 = p)
    (hC0 : C 0 = packN K (sumOf K origT) r) (hC1 : C 1 = z128) (hno : z128.take 32 ≠ (packN K (sumOf K (sumOf K origT ++ r)) ⟨#[]⟩).take 32) :
    Calls Tryz.prog 166 #[.agg (volL p n).toArray] w (opPost K p bb n C (sumOf K origT) r w) := by
  have hmf : ∀ (fn : Fn) (first cap : Array Value) (w : World), (Instr.makeFunc fn first cap).run Tryz.prog w = .ok (.func fn first cap) w := fun _ _ _ _ => rfl
  have HIV : Hid ((Tryz.prog.info? 222).map (·.size) = some (volL p n).length) := info_vol p n
  obtain ⟨H0, hH0⟩ : ∃ H, H = sumOf K origT := ⟨_, rfl⟩
  have hH32 : H0.size = 32 := by rw [hH0]; exact sumOf_size K _
  rw [← hH0] at hC0 hno ⊢
  obtain ⟨w1, hw1⟩ : ∃ W, W = w.alloc (.cells (volL p n).toArray 222) := ⟨_, rfl⟩
  have hB : Below w.heap.size w w1 := by rw [hw1]; exact (Below.refl _ _).alloc (Nat.le_refl _) _
  have L0 : Lv p bb n w.heap.size C w1 w1 := ⟨Kept.refl _ _, hD.fresh hB, by rw [hw1]; exact range_new _ _ _⟩
  have hal : w.heap.size < w1.heap.size := by rw [hw1]; simp
  have hap : w.heap.size ≠ p := by have := hD.lt.1; omega
  have hpl : p < w1.heap.size := by have := hD.lt.1; omega
  have hpw : p < w.heap.size ∧ bb < w.heap.size := hD.lt
  have T1 : Tab K w1 := T.below hB
  have HBT : Hid (Tab K w1 ∧ Below w.heap.size w w1) := ⟨T1, hB⟩
  have HTW : Hid (∀ W, Lv p bb n w.heap.size C w1 W → Tab K W) := fun W hL => HBT.out.1.kept hL.kept hpT
  have HOF : Hid (∀ W q, Cl w1 W q (.string (⟨#[97, 117, 100, 105, 116, 98, 111, 111, 107, 44, 32, 106, 111, 117, 114, 110, 97, 108, 32, 49]⟩ : ByteArray)) → Tab K W → Calls Tryz.prog 54 #[.slice (some ⟨q, 0, none⟩) 1 1] W fun e w' => e = .returned (.agg (hV H0).toArray) ∧ Below W.heap.size W w') := fun W q hc hT => by
    have := of_one K W q origT hc.1 hc.2.2 (by decide) hT
    rw [← hH0] at this; exact this
  have hbu := j_built p n H0 hH32
  have HO1 : Hid (∀ (j a f : Nat) (W : World), j < W.heap.size → j ≠ p → j ≠ bb → Jv p bb n j C H0 0 W W → Tab K W → ¬ 1 = j → (a < W.heap.size ∧ f < W.heap.size) → (a ≠ p ∧ a ≠ bb ∧ a ≠ j ∧ a ≠ f) → (f ≠ p ∧ f ≠ bb ∧ f ≠ j) → ∀ x, W.cell? ⟨a, 0, none⟩ = some (.pointer (some ⟨j, 0, none⟩)) → W.cell? ⟨f, 0, none⟩ = some x → W.frozen? ⟨f, 0, none⟩ = false →
      Calls Tryz.prog 177 #[.pointer (some ⟨a, 0, none⟩), .pointer (some ⟨f, 0, none⟩)] W (op1Post K p bb n j a f C H0 r W)) :=
    fun j a f W hj hjp hjb hJ hT hjT hl hap hfp x hca hcf hff => open1_any K p bb n j a f C H0 r W hn hn8 hH32 hr hjp hjb hj hJ hT hpT hjT hC0 hC1 hno hl hap hfp x hca hcf hff
  have HRT : Hid (1 < w.heap.size) := T.lt
  clear hno hC0 hC1 hH0 T T1 hB
  go_enter Tryz.func166, Tryz.ntmps166
  go_wp2_with fail
  rw [← hw1]
  clear hw1
  have h0 : Lv p bb n w.heap.size C w1 w1.drew := L0.fresh hap hal (Below.refl _ _).drew
  go_cut [5] (fun v5 wc => ∃ q j, v5 = .pointer (some ⟨q, 0, none⟩) ∧ Lv p bb n w.heap.size C w1 wc ∧ w1.heap.size ≤ q ∧ q < wc.heap.size ∧ w1.heap.size ≤ j ∧ j < wc.heap.size ∧ q ≠ j ∧ wc.cell? ⟨q, 0, none⟩ = some (.pointer (some ⟨j, 0, none⟩)) ∧ wc.rangeAt j 0 (jL p n H0 0) ∧ wc.there j 0 35)
  case first =>
    refine wp_region_noPanic ?_
    refine wp_region_held_drew (S := fun W => W.rangeAt w.heap.size 0 (volL p n)) (by kernel_rfl) h0.vol (fun _ => ?_)
    generalize w1.drew = W0 at *
    refine wpAnyH_take (i := 0) (v := .agg (volL p n).toArray) rfl (by kernel_rfl) (by kernel_rfl) (by kernel_rfl) (fun _ _ _ h => h) (yieldsIf_load_mid (by rfl) 222 _ rfl w.heap.size 0 rfl (volL p n) _ (fun W hW => hW) Tryz.underlying222 rfl HIV.out) h0.vol ?_
    simp only [qA, qB, qC, Act.put, qD, qE, qF]
    refine wpAnyH_ready (rs := [1, 5]) (by kernel_rfl) (by simp) ?_
    refine AllReadyH.cons rfl (fun K' hK' => ?_) (AllReadyH.cons rfl (fun K' hK' => ?_) AllReadyH.nil)
    rw [if_pos (by rfl)]
    go_simp
    have b1 : Below W0.heap.size W0 (W0.alloc (.cells #[.string (⟨#[97, 117, 100, 105, 116, 98, 111, 111, 107, 44, 32, 106, 111, 117, 114, 110, 97, 108, 32, 49]⟩ : ByteArray)] 9)) := (Below.refl _ _).alloc (Nat.le_refl _) _
    have h1 := h0.fresh hap hal b1
    have c_1 : Cl w1 (W0.alloc (.cells #[.string (⟨#[97, 117, 100, 105, 116, 98, 111, 111, 107, 44, 32, 106, 111, 117, 114, 110, 97, 108, 32, 49]⟩ : ByteArray)] 9)) W0.heap.size (.string (⟨#[97, 117, 100, 105, 116, 98, 111, 111, 107, 44, 32, 106, 111, 117, 114, 110, 97, 108, 32, 49]⟩ : ByteArray)) := ⟨by rw [World.cell?_alloc_at _ _ _ _ rfl]; rfl, h0.kept.size, by simp⟩
    clear b1
    generalize hqc : W0.heap.size = qc at c_1 ⊢
    clear hqc
    generalize (W0.alloc (.cells #[.string (⟨#[97, 117, 100, 105, 116, 98, 111, 111, 107, 44, 32, 106, 111, 117, 114, 110, 97, 108, 32, 49]⟩ : ByteArray)] 9)) = W1 at *
    refine hK'.out _ _ h1.vol (fun _ => ?_)
    clear hK' K'
    try simp only [qA, qB, qC, Act.put, qD, qE, qF]
    refine wpAnyH_ready (rs := [2, 5]) (by kernel_rfl) (by simp) ?_
    refine AllReadyH.cons rfl (fun K' hK' => ?_) (AllReadyH.cons rfl (fun K' hK' => ?_) AllReadyH.nil)
    rw [if_pos (by rfl)]
    go_simp
    refine (HOF.out W1 qc c_1 (HTW.out _ h1)).mono ?_
    rintro e W2 ⟨rfl, b2⟩
    have h2 := h1.fresh hap hal b2
    refine hK'.out _ _ h2.vol (fun _ => ?_)
    clear hK' K'
    try simp only [qA, qB, qC, Act.put, qD, qE, qF]
    refine wpAnyH_ready (rs := [3, 5]) (by kernel_rfl) (by simp) ?_
    refine AllReadyH.cons rfl (fun K' hK' => ?_) (AllReadyH.cons rfl (fun K' hK' => ?_) AllReadyH.nil)
    rw [if_pos (by rfl)]
    refine wp_build_to 264 _ rfl (jL p n H0 0).toArray (Eq.trans (congrArg (Tryz.prog.built _) (by simp [Act.eval])) hbu) ?_
    have h3 := h2
    refine hK'.out _ _ h3.vol (fun _ => ?_)
    clear hK' K'
    try simp only [qA, qB, qC, Act.put, qD, qE, qF]
    refine wpAnyH_ready (rs := [4, 5]) (by kernel_rfl) (by simp) ?_
    refine AllReadyH.cons rfl (fun K' hK' => ?_) (AllReadyH.cons rfl (fun K' hK' => ?_) AllReadyH.nil)
    rw [if_pos (by rfl)]
    go_simp
    have b4 : Below W2.heap.size W2 (W2.alloc (.cells (jL p n H0 0).toArray 264)) := (Below.refl _ _).alloc (Nat.le_refl _) _
    have h4 := h3.fresh hap hal b4
    have j_4 : Rw w1 (W2.alloc (.cells (jL p n H0 0).toArray 264)) W2.heap.size 35 := ⟨there_j W2 p n 0 H0 hH32, h3.kept.size, by simp⟩
    have J_4 : (W2.alloc (.cells (jL p n H0 0).toArray 264)).rangeAt W2.heap.size 0 (jL p n H0 0) := range_new _ _ _
    clear b4
    generalize hqj : W2.heap.size = qj at *
    clear hqj
    generalize (W2.alloc (.cells (jL p n H0 0).toArray 264)) = W4 at *
    refine hK'.out _ _ h4.vol (fun _ => ?_)
    clear hK' K'
    try simp only [qA, qB, qC, Act.put, qD, qE, qF]
    refine rk 5 (fun K' hK' => ?_)
    refine wp_alloc_abs 171 rfl [Value.pointer none] alloc_jp ?_
    intro W5 qr b5 lo5 hi5 th5
    have h5 := h4.fresh hap hal b5
    have j_5 := j_4.go hpl (Kept.fresh b5)
    have J_5 : _ := range_kept (S := (· = p)) J_4 (Kept.fresh b5) j_4.2.2 (by have := j_4.2.1; omega)
    have r_5 : Rw w1 W5 qr 1 := ⟨th5, Nat.le_trans h4.kept.size lo5, hi5⟩
    have neq : qr ≠ qj := by have := j_4.2.2; omega
    refine hK'.out _ _ h5.vol (fun _ => ?_)
    clear hK' K'
    try simp only [qA, qB, qC, Act.put, qD, qE, qF]
    all_goals skip
    rotate_left 1
    rw [if_pos (by rfl)]
    refine wp_alloc_abs 171 rfl [Value.pointer none] alloc_jp ?_
    intro W4 qr b4 lo4 hi4 th4
    have h4 := h3.fresh hap hal b4
    have r_4 : Rw w1 W4 qr 1 := ⟨th4, Nat.le_trans h3.kept.size lo4, hi4⟩
    refine hK'.out _ _ h4.vol (fun _ => ?_)
    clear hK' K'
    try simp only [qA, qB, qC, Act.put, qD, qE, qF]
    refine rk 4 (fun K' hK' => ?_)
    go_simp
    have b5 : Below W4.heap.size W4 (W4.alloc (.cells (jL p n H0 0).toArray 264)) := (Below.refl _ _).alloc (Nat.le_refl _) _
    have h5 := h4.fresh hap hal b5
    have r_5 := r_4.go hpl (Kept.fresh b5)
    have j_5 : Rw w1 (W4.alloc (.cells (jL p n H0 0).toArray 264)) W4.heap.size 35 := ⟨there_j W4 p n 0 H0 hH32, h4.kept.size, by simp⟩
    have J_5 : (W4.alloc (.cells (jL p n H0 0).toArray 264)).rangeAt W4.heap.size 0 (jL p n H0 0) := range_new _ _ _
    have neq : qr ≠ W4.heap.size := by have := r_4.2.2; omega
    clear b5
    generalize hqj : W4.heap.size = qj at *
    clear hqj
    generalize (W4.alloc (.cells (jL p n H0 0).toArray 264)) = W5 at *
    refine hK'.out _ _ h5.vol (fun _ => ?_)
    clear hK' K'
    try simp only [qA, qB, qC, Act.put, qD, qE, qF]
    all_goals skip
    rotate_left 1
    rw [if_pos (by rfl)]
    refine wp_alloc_abs 171 rfl [Value.pointer none] alloc_jp ?_
    intro W3 qr b3 lo3 hi3 th3
    have h3 := h2.fresh hap hal b3
    have r_3 : Rw w1 W3 qr 1 := ⟨th3, Nat.le_trans h2.kept.size lo3, hi3⟩
    refine hK'.out _ _ h3.vol (fun _ => ?_)
    clear hK' K'
    try simp only [qA, qB, qC, Act.put, qD, qE, qF]
    refine rk 3 (fun K' hK' => ?_)
    refine wp_build_to 264 _ rfl (jL p n H0 0).toArray (Eq.trans (congrArg (Tryz.prog.built _) (by simp [Act.eval])) hbu) ?_
    have h4 := h3
    have r_4 := r_3
    refine hK'.out _ _ h4.vol (fun _ => ?_)
    clear hK' K'
    try simp only [qA, qB, qC, Act.put, qD, qE, qF]
    refine rk 4 (fun K' hK' => ?_)
    go_simp
    have b5 : Below W3.heap.size W3 (W3.alloc (.cells (jL p n H0 0).toArray 264)) := (Below.refl _ _).alloc (Nat.le_refl _) _
    have h5 := h4.fresh hap hal b5
    have r_5 := r_4.go hpl (Kept.fresh b5)
    have j_5 : Rw w1 (W3.alloc (.cells (jL p n H0 0).toArray 264)) W3.heap.size 35 := ⟨there_j W3 p n 0 H0 hH32, h4.kept.size, by simp⟩
    have J_5 : (W3.alloc (.cells (jL p n H0 0).toArray 264)).rangeAt W3.heap.size 0 (jL p n H0 0) := range_new _ _ _
    have neq : qr ≠ W3.heap.size := by have := r_4.2.2; omega
    clear b5
    generalize hqj : W3.heap.size = qj at *
    clear hqj
    generalize (W3.alloc (.cells (jL p n H0 0).toArray 264)) = W5 at *
    refine hK'.out _ _ h5.vol (fun _ => ?_)
    clear hK' K'
    try simp only [qA, qB, qC, Act.put, qD, qE, qF]
    all_goals skip
    rotate_left 1
    rw [if_pos (by rfl)]
    refine wp_alloc_abs 171 rfl [Value.pointer none] alloc_jp ?_
    intro W2 qr b2 lo2 hi2 th2
    have h2 := h1.fresh hap hal b2
    have c_2 := c_1.go hpl (Kept.fresh b2)
    have r_2 : Rw w1 W2 qr 1 := ⟨th2, Nat.le_trans h1.kept.size lo2, hi2⟩
    refine hK'.out _ _ h2.vol (fun _ => ?_)
    clear hK' K'
    try simp only [qA, qB, qC, Act.put, qD, qE, qF]
    refine rk 2 (fun K' hK' => ?_)
    go_simp
    refine (HOF.out W2 qc c_2 (HTW.out _ h2)).mono ?_
    rintro e W3 ⟨rfl, b3⟩
    have h3 := h2.fresh hap hal b3
    have r_3 := r_2.go hpl (Kept.fresh b3)
    refine hK'.out _ _ h3.vol (fun _ => ?_)
    clear hK' K'
    try simp only [qA, qB, qC, Act.put, qD, qE, qF]
    refine rk 3 (fun K' hK' => ?_)
    refine wp_build_to 264 _ rfl (jL p n H0 0).toArray (Eq.trans (congrArg (Tryz.prog.built _) (by simp [Act.eval])) hbu) ?_
    have h4 := h3
    have r_4 := r_3
    refine hK'.out _ _ h4.vol (fun _ => ?_)
    clear hK' K'
    try simp only [qA, qB, qC, Act.put, qD, qE, qF]
    refine rk 4 (fun K' hK' => ?_)
    go_simp
    have b5 : Below W3.heap.size W3 (W3.alloc (.cells (jL p n H0 0).toArray 264)) := (Below.refl _ _).alloc (Nat.le_refl _) _
    have h5 := h4.fresh hap hal b5
    have r_5 := r_4.go hpl (Kept.fresh b5)
    have j_5 : Rw w1 (W3.alloc (.cells (jL p n H0 0).toArray 264)) W3.heap.size 35 := ⟨there_j W3 p n 0 H0 hH32, h4.kept.size, by simp⟩
    have J_5 : (W3.alloc (.cells (jL p n H0 0).toArray 264)).rangeAt W3.heap.size 0 (jL p n H0 0) := range_new _ _ _
    have neq : qr ≠ W3.heap.size := by have := r_4.2.2; omega
    clear b5
    generalize hqj : W3.heap.size = qj at *
    clear hqj
    generalize (W3.alloc (.cells (jL p n H0 0).toArray 264)) = W5 at *
    refine hK'.out _ _ h5.vol (fun _ => ?_)
    clear hK' K'
    try simp only [qA, qB, qC, Act.put, qD, qE, qF]
    all_goals skip
    rotate_left 1
    rw [if_pos (by rfl)]
    refine wp_alloc_abs 171 rfl [Value.pointer none] alloc_jp ?_
    intro W1 qr b1 lo1 hi1 th1
    have h1 := h0.fresh hap hal b1
    have r_1 : Rw w1 W1 qr 1 := ⟨th1, Nat.le_trans h0.kept.size lo1, hi1⟩
    refine hK'.out _ _ h1.vol (fun _ => ?_)
    clear hK' K'
    try simp only [qA, qB, qC, Act.put, qD, qE, qF]
    refine rk 1 (fun K' hK' => ?_)
    go_simp
    have b2 : Below W1.heap.size W1 (W1.alloc (.cells #[.string (⟨#[97, 117, 100, 105, 116, 98, 111, 111, 107, 44, 32, 106, 111, 117, 114, 110, 97, 108, 32, 49]⟩ : ByteArray)] 9)) := (Below.refl _ _).alloc (Nat.le_refl _) _
    have h2 := h1.fresh hap hal b2
    have r_2 := r_1.go hpl (Kept.fresh b2)
    have c_2 : Cl w1 (W1.alloc (.cells #[.string (⟨#[97, 117, 100, 105, 116, 98, 111, 111, 107, 44, 32, 106, 111, 117, 114, 110, 97, 108, 32, 49]⟩ : ByteArray)] 9)) W1.heap.size (.string (⟨#[97, 117, 100, 105, 116, 98, 111, 111, 107, 44, 32, 106, 111, 117, 114, 110, 97, 108, 32, 49]⟩ : ByteArray)) := ⟨by rw [World.cell?_alloc_at _ _ _ _ rfl]; rfl, h1.kept.size, by simp⟩
    clear b2
    generalize hqc : W1.heap.size = qc at c_2 ⊢
    clear hqc
    generalize (W1.alloc (.cells #[.string (⟨#[97, 117, 100, 105, 116, 98, 111, 111, 107, 44, 32, 106, 111, 117, 114, 110, 97, 108, 32, 49]⟩ : ByteArray)] 9)) = W2 at *
    refine hK'.out _ _ h2.vol (fun _ => ?_)
    clear hK' K'
    try simp only [qA, qB, qC, Act.put, qD, qE, qF]
    refine rk 2 (fun K' hK' => ?_)
    go_simp
    refine (HOF.out W2 qc c_2 (HTW.out _ h2)).mono ?_
    rintro e W3 ⟨rfl, b3⟩
    have h3 := h2.fresh hap hal b3
    have r_3 := r_2.go hpl (Kept.fresh b3)
    refine hK'.out _ _ h3.vol (fun _ => ?_)
    clear hK' K'
    try simp only [qA, qB, qC, Act.put, qD, qE, qF]
    refine rk 3 (fun K' hK' => ?_)
    refine wp_build_to 264 _ rfl (jL p n H0 0).toArray (Eq.trans (congrArg (Tryz.prog.built _) (by simp [Act.eval])) hbu) ?_
    have h4 := h3
    have r_4 := r_3
    refine hK'.out _ _ h4.vol (fun _ => ?_)
    clear hK' K'
    try simp only [qA, qB, qC, Act.put, qD, qE, qF]
    refine rk 4 (fun K' hK' => ?_)
    go_simp
    have b5 : Below W3.heap.size W3 (W3.alloc (.cells (jL p n H0 0).toArray 264)) := (Below.refl _ _).alloc (Nat.le_refl _) _
    have h5 := h4.fresh hap hal b5
    have r_5 := r_4.go hpl (Kept.fresh b5)
    have j_5 : Rw w1 (W3.alloc (.cells (jL p n H0 0).toArray 264)) W3.heap.size 35 := ⟨there_j W3 p n 0 H0 hH32, h4.kept.size, by simp⟩
    have J_5 : (W3.alloc (.cells (jL p n H0 0).toArray 264)).rangeAt W3.heap.size 0 (jL p n H0 0) := range_new _ _ _
    have neq : qr ≠ W3.heap.size := by have := r_4.2.2; omega
    clear b5
    generalize hqj : W3.heap.size = qj at *
    clear hqj
    generalize (W3.alloc (.cells (jL p n H0 0).toArray 264)) = W5 at *
    refine hK'.out _ _ h5.vol (fun _ => ?_)
    clear hK' K'
    try simp only [qA, qB, qC, Act.put, qD, qE, qF]
    all_goals skip
    rotate_left 1
    all_goals
      refine rk 6 (fun K' hK' => ?_)
      obtain ⟨xr, hxr⟩ := Option.isSome_iff_exists.1 (r_5.1 0 (by omega)).1
      have fxr := (r_5.1 0 (by omega)).2
      rw [Nat.zero_add] at hxr fxr
      go_simp
      have g6 : Kept (· = qr) W5 (W5.setCell ⟨qr, 0, none⟩ (.pointer (some ⟨qj, 0, none⟩))) := Kept.setCell _ _ _ (Or.inl rfl)
      have h6 : Lv p bb n w.heap.size C w1 (W5.setCell ⟨qr, 0, none⟩ (.pointer (some ⟨qj, 0, none⟩))) := ⟨h5.kept.trans g6 (fun g h1 h2 => by have := r_5.2.1; omega), h5.disk.kept g6 (by have := r_5.2.1; omega) (by have := r_5.2.1; omega) (fun g hg => by cases hg), vol_kept h5.vol g6 (by have := h5.kept.size; omega) (by have := r_5.2.1; omega)⟩
      have CR : (W5.setCell ⟨qr, 0, none⟩ (.pointer (some ⟨qj, 0, none⟩))).cell? ⟨qr, 0, none⟩ = some (.pointer (some ⟨qj, 0, none⟩)) := World.cell?_setCell_same _ _ _ hxr
      have J_6 : (W5.setCell ⟨qr, 0, none⟩ (.pointer (some ⟨qj, 0, none⟩))).rangeAt qj 0 (jL p n H0 0) := range_kept J_5 g6 j_5.2.2 (by omega)
      have t_6 : (W5.setCell ⟨qr, 0, none⟩ (.pointer (some ⟨qj, 0, none⟩))).there qj 0 35 := there_kept j_5.1 g6 j_5.2.2 (by omega)
      have l_6 : w1.heap.size ≤ qr ∧ qr < (W5.setCell ⟨qr, 0, none⟩ (.pointer (some ⟨qj, 0, none⟩))).heap.size ∧ w1.heap.size ≤ qj ∧ qj < (W5.setCell ⟨qr, 0, none⟩ (.pointer (some ⟨qj, 0, none⟩))).heap.size := ⟨r_5.2.1, Nat.lt_of_lt_of_le r_5.2.2 g6.size, j_5.2.1, Nat.lt_of_lt_of_le j_5.2.2 g6.size⟩
      clear g6 hxr fxr xr
      generalize (W5.setCell ⟨qr, 0, none⟩ (.pointer (some ⟨qj, 0, none⟩))) = W6 at *
      refine hK'.out _ _ h6.vol (fun _ => ?_)
      clear hK' K'
      try simp only [qA, qB, qC, Act.put, qD, qE, qF]
      refine ⟨by kernel_rfl, ?_⟩
      refine NoPanic.normal ?_
      try simp only [qA, qB, qC, Act.put, qD, qE, qF]
      go_wp2_with fail
      go_meet
      exact ⟨qr, qj, rfl, h6, l_6.1, l_6.2.1, l_6.2.2.1, l_6.2.2.2, neq, CR, J_6, t_6⟩
  case rest =>
    obtain ⟨q, j, rfl, hL, hq0, hq1, hj0, hj1, hqj, hcq, hJ, hT⟩ := hcut
    have hs1 := hL.kept.size
    obtain ⟨V, hV⟩ : ∃ V, V = wc.alloc (.cells #[.slice none 0 0] 51) := ⟨_, rfl⟩
    have bV : Below wc.heap.size wc V := by rw [hV]; exact (Below.refl _ _).alloc (Nat.le_refl _) _
    have hVs : V.heap.size = wc.heap.size + 1 := by rw [hV]; simp
    have hcf : V.cell? ⟨wc.heap.size, 0, none⟩ = some (.slice none 0 0) := by rw [hV, World.cell?_alloc_at _ _ _ _ rfl]; rfl
    have hff : V.frozen? ⟨wc.heap.size, 0, none⟩ = false := by rw [hV, World.frozen?_alloc_at _ _ _ _ rfl]
    obtain ⟨E, hE⟩ : ∃ E, E = V.alloc (.cells #[.nilIface] 35) := ⟨_, rfl⟩
    have bE : Below V.heap.size V E := by rw [hE]; exact (Below.refl _ _).alloc (Nat.le_refl _) _
    have hEs : E.heap.size = wc.heap.size + 2 := by rw [hE]; simp; omega
    have hce : E.cell? ⟨V.heap.size, 0, none⟩ = some .nilIface := by rw [hE, World.cell?_alloc_at _ _ _ _ rfl]; rfl
    have hfe : E.frozen? ⟨V.heap.size, 0, none⟩ = false := by rw [hE, World.frozen?_alloc_at _ _ _ _ rfl]
    have kE : Kept (fun _ => False) wc E := (Kept.fresh bV).trans (Kept.fresh (S := fun _ => False) bE) (fun _ _ h => h)
    have kVE : Kept (fun _ => False) V E := Kept.fresh bE
    have hgT := HRT.out
    have h1 := HO1.out j q wc.heap.size E (by omega) (by omega) (by omega) ⟨Kept.refl _ _, hL.disk.kept kE id id (fun g hg => by cases hg), range_kept hJ kE hj1 id, there_kept hT kE hj1 id⟩ ((HTW.out _ hL).kept kE id) (by omega) ⟨by omega, by omega⟩ ⟨by omega, by omega, hqj, by omega⟩ ⟨by omega, by omega, by omega⟩ _ ((kE.cell (a := ⟨q, 0, none⟩) hq1 id).trans hcq) ((kVE.cell (a := ⟨wc.heap.size, 0, none⟩) (by show wc.heap.size < _; omega) id).trans hcf) ((kVE.frozen (a := ⟨wc.heap.size, 0, none⟩) (by show wc.heap.size < _; omega) id).trans hff)
    have hcat := catch_ok 177 #[.pointer (some ⟨q, 0, none⟩), .pointer (some ⟨wc.heap.size, 0, none⟩)] V (fun w' => ∃ g cap, w'.cell? ⟨wc.heap.size, 0, none⟩ = some (.slice (some ⟨g, 0, none⟩) 1 cap) ∧ w'.ownsRow E.heap.size 9 1 (.slice (some ⟨g, 0, none⟩) 1 cap) 1 [.string r] ∧ DiskAt w' p bb n C (.slice none 0 0) [] ∧ w'.rangeAt j 0 (jL p n (sumOf K (H0 ++ r)) 1) ∧ w'.there j 0 35 ∧ Kept (fun g => g = p ∨ g = bb ∨ g = j ∨ g = wc.heap.size) E w') (enter_open1 _) (by
      rw [← hE]
      refine h1.mono (fun e w' ⟨he, g, cap, c1, c2, c3, c4, c5, c6⟩ => ⟨he, ⟨g, cap, c1, c2, c3, c4, c5, c6⟩, ?_, ?_⟩)
      · exact (c6.cell (a := ⟨V.heap.size, 0, none⟩) (by show V.heap.size < _; omega) (by show ¬ (V.heap.size = p ∨ V.heap.size = bb ∨ V.heap.size = j ∨ V.heap.size = wc.heap.size); omega)).trans hce
      · exact (c6.frozen (a := ⟨V.heap.size, 0, none⟩) (by show V.heap.size < _; omega) (by show ¬ (V.heap.size = p ∨ V.heap.size = bb ∨ V.heap.size = j ∨ V.heap.size = wc.heap.size); omega)).trans hfe)
    have HK : Hid (Kept (fun g => g = p) w wc) := (Kept.fresh (S := fun g => g = p) HBT.out.2).trans hL.kept (fun g _ h => h)
    have HKE : Hid (Kept (fun _ => False) wc E ∧ E.heap.size = wc.heap.size + 2 ∧ V.heap.size = wc.heap.size + 1 ∧ E.cell? ⟨q, 0, none⟩ = some (.pointer (some ⟨j, 0, none⟩))) := ⟨kE, hEs, hVs, (kE.cell (a := ⟨q, 0, none⟩) hq1 id).trans hcq⟩
    clear h1 hce hfe hcf hff bV bE kE kVE hE hJ hT hcq hL hEs
    go_wp2_with fail
    rw [← hV]
    refine hcat.mono ?_
    rintro e w4 ⟨rfl, w3, ⟨g, cap, c1, c2, c3, c4, c5, c6⟩, hw4⟩
    clear hcat
    have hk4 : Kept (· = V.heap.size) w3 w4 := by rw [hw4]; exact Kept.setCell _ _ _ (Or.inl rfl)
    clear hw4
    have hke := HKE.out
    have hs6 := c6.size
    have hgb := c2.lt g rfl
    have d1 : w4.cell? ⟨wc.heap.size, 0, none⟩ = some (.slice (some ⟨g, 0, none⟩) 1 cap) := (hk4.cell (a := ⟨wc.heap.size, 0, none⟩) (by show wc.heap.size < _; omega) (by show ¬ (wc.heap.size = V.heap.size); omega)).trans c1
    have d2 : w4.cell? ⟨q, 0, none⟩ = some (.pointer (some ⟨j, 0, none⟩)) := ((hk4.cell (a := ⟨q, 0, none⟩) (by show q < _; omega) (by show ¬ (q = V.heap.size); omega)).trans (c6.cell (a := ⟨q, 0, none⟩) (by show q < _; omega) (by show ¬ (q = p ∨ q = bb ∨ q = j ∨ q = wc.heap.size); omega))).trans hke.2.2.2
    have hcap : 1 ≤ cap := by
      rcases c2.2 with ⟨e, _⟩ | ⟨g', cap', cur, e, _, hh, hle, _⟩
      · cases e
      · simp at e; omega
    have d3 := c3.kept hk4 (by omega) (by omega) (fun g hg => by cases hg)
    have d4 := range_kept c4 hk4 (by omega) (by omega)
    have d5 := there_kept c5 hk4 (by omega) (by omega)
    have hs4 := hk4.size
    have dk : Kept (fun g => g = p ∨ g = bb) w w4 := (((HK.out.mono (S' := fun g => g = p ∨ g = bb) (fun g _ h => Or.inl h)).trans hke.1 (fun g _ h => h.elim)).trans c6 (fun g h1 h2 => by have := HBT.out.2.size; omega)).trans hk4 (fun g h1 h2 => by have := HBT.out.2.size; omega)
    have HR : Hid (j < w4.heap.size ∧ DiskAt w4 p bb n C (.slice none 0 0) [] ∧ w4.rangeAt j 0 (jL p n (sumOf K (H0 ++ r)) 1) ∧ w4.there j 0 35 ∧ Kept (fun g => g = p ∨ g = bb) w w4) := ⟨by omega, d3, d4, d5, dk⟩
    clear c1 c2 c3 c4 c5 c6 d3 d4 d5 dk hke
    go_wp2_with fail
    go_quiet (fail)
    generalize (if cap = 1 then some (⟨g, 0, none⟩ : Addr) else some ⟨g, 1, none⟩) = sa
    go_wp2_with fail
    have bD := below_draws (Below.refl w4.heap.size w4) nq
    have kD : Kept (fun _ => False) w4 (w4.drewN nq) := Kept.fresh bD
    have hjl := HR.out.1
    go_ret3
    all_goals exact ⟨j, _, _, rfl, by have := HBT.out.2.size; omega, Nat.lt_of_lt_of_le hjl bD.size, range_kept HR.out.2.2.1 kD hjl id, there_kept HR.out.2.2.2.1 kD hjl id, HR.out.2.1.fresh bD, HR.out.2.2.2.2.trans kD (fun _ _ h => h.elim)⟩
end Go.Proofs.YteglimjonofdeaaGreatDoor
