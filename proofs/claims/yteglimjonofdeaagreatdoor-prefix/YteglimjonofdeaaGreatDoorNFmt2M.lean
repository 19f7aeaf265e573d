import Derived.Test.YteglimjonofdeaaGreatDoorNFmt
import Derived.Test.YteglimjonofdeaaGreatDoorNRead2
set_option linter.unusedVariables false
set_option linter.unusedSimpArgs false
namespace Go.Proofs.YteglimjonofdeaaGreatDoor
open Go.RowKit

theorem enter_fmt1 (caps : Array Value) (w : World) : (callFunc 160 caps).run Tryz.prog w = .ok (.enter 160 caps) w := by kernel_rfl
/-- What Format, told by an error, leaves. -/
def fmtEnd (K : Nat → Int) (p bb n : Nat) (C : Nat → List Int) (w : World) (e : Ending) (w' : World) : Prop :=
  e = .returned .nilIface ∧ DiskAt w' p bb n (fmtC (packN K (sumOf K origT) (stampT K C n))) (.slice none 0 0) [] ∧ Kept (fun g => g = p ∨ g = bb) w w'

set_option maxRecDepth 100000 in
set_option maxHeartbeats 400000 in
theorem jformat_any (K : Nat → Int) (p bb n : Nat) (C : Nat → List Int) (w : World) (hn : n ≤ 1000) (hn0 : 0 < n) (h : DiskAt w p bb n C (.slice none 0 0) []) (hC : ∀ i, i < n → ∀ x ∈ C i, 0 ≤ x ∧ x < 256) (T : Tab K w) (hpT : ¬ 1 = p) :
    Calls Tryz.prog 132 #[.agg (volL p n).toArray] w (fmtEnd K p bb n C w) := by
  have hmf : ∀ (fn : Fn) (first cap : Array Value) (w : World), (Instr.makeFunc fn first cap).run Tryz.prog w = .ok (.func fn first cap) w := fun _ _ _ _ => rfl
  have hpl := h.lt
  obtain ⟨W, hW⟩ : ∃ W, W = w.alloc (.cells (volL p n).toArray 222) := ⟨_, rfl⟩
  have hWs : W.heap.size = w.heap.size + 1 := by rw [hW]; simp
  have hB : Below w.heap.size w W := by rw [hW]; exact (Below.refl _ _).alloc (Nat.le_refl _) _
  have hV : W.rangeAt w.heap.size 0 (volL p n) := by rw [hW]; exact range_new _ _ _
  obtain ⟨E, hE⟩ : ∃ E, E = W.alloc (.cells #[.nilIface] 35) := ⟨_, rfl⟩
  have hEs : E.heap.size = w.heap.size + 2 := by rw [hE]; simp; omega
  have hBE : Below W.heap.size W E := by rw [hE]; exact (Below.refl _ _).alloc (Nat.le_refl _) _
  have hce : E.cell? ⟨W.heap.size, 0, none⟩ = some .nilIface := by rw [hE, World.cell?_alloc_at _ _ _ _ rfl]; rfl
  have hfe : E.frozen? ⟨W.heap.size, 0, none⟩ = false := by rw [hE, World.frozen?_alloc_at _ _ _ _ rfl]
  have hVE : E.rangeAt w.heap.size 0 (volL p n) := by rw [hE]; exact World.rangeAt_alloc hV _
  have D := (h.fresh hB).fresh hBE
  have L0 : Lv p bb n w.heap.size C E E := ⟨Kept.refl _ _, D, hVE⟩
  have h1 := format1_any K p bb n w.heap.size C E hn hn0 (by omega) (by omega) (by omega) L0 hC ((T.below hB).below hBE) hpT
  have hcat := catch_ok 160 #[.pointer (some ⟨w.heap.size, 0, none⟩)] W (fun w1 => DiskAt w1 p bb n (fmtC (packN K (sumOf K origT) (stampT K C n))) (.slice none 0 0) [] ∧ Kept (fun g => g = p ∨ g = bb) E w1) (enter_fmt1 _) (by
    rw [← hE]
    exact h1.mono (fun e w' ⟨he, hD', hk'⟩ => ⟨he, ⟨hD', hk'⟩, (hk'.cell (a := ⟨W.heap.size, 0, none⟩) (by show W.heap.size < _; omega) (by show ¬ (W.heap.size = p ∨ W.heap.size = bb); omega)).trans hce, (hk'.frozen (a := ⟨W.heap.size, 0, none⟩) (by show W.heap.size < _; omega) (by show ¬ (W.heap.size = p ∨ W.heap.size = bb); omega)).trans hfe⟩))
  have HB : Hid (Kept (fun g => g = p ∨ g = bb) w E) := (Kept.fresh hB).trans (Kept.fresh (S := fun _ => False) hBE) (fun g _ h => h.elim)
  have HS : Hid (W.heap.size = w.heap.size + 1 ∧ p < w.heap.size ∧ bb < w.heap.size) := ⟨hWs, hpl.1, hpl.2⟩
  clear h h1 L0 D hVE hfe hce hBE hEs hE hV hB hWs T hC
  go_enter Tryz.func132, Tryz.ntmps132
  go_wp2_with fail
  rw [← hW]
  refine hcat.mono ?_
  rintro e w4 ⟨rfl, w1, ⟨hD, hk⟩, hw4⟩
  have hk4 : Kept (· = W.heap.size) w1 w4 := by rw [hw4]; exact Kept.setCell _ _ _ (Or.inl rfl)
  clear hcat hW hw4
  go_wp2_with fail
  go_ret
  refine ⟨rfl, hD.kept hk4 (by have := HS.out; omega) (by have := HS.out; omega) (fun g hg => by cases hg), (HB.out.trans hk (fun g _ h => h)).trans hk4 (fun g h1 h2 => by have := HS.out; omega)⟩

set_option maxRecDepth 100000 in
set_option maxHeartbeats 400000 in
theorem aformat_any (K : Nat → Int) (p bb n : Nat) (C : Nat → List Int) (w : World) (h8 : 8 ≤ n) (h4 : n ≤ 400) (h : DiskAt w p bb n C (.slice none 0 0) []) (hC : ∀ i, i < n → ∀ x ∈ C i, 0 ≤ x ∧ x < 256) (T : Tab K w) (hpT : ¬ 1 = p) :
    Calls Tryz.prog 88 #[devV p] w (fmtEnd K p bb n C w) := by
  have hof := volOf_any p bb n C _ _ w h h8 h4
  have HJ : Hid (∀ W, Below w.heap.size w W → Calls Tryz.prog 132 #[.agg (volL p n).toArray] W (fmtEnd K p bb n C W)) := fun W hb => jformat_any K p bb n C W (by omega) (by omega) (h.fresh hb) hC (T.below hb) hpT
  have HIV : Hid ((Tryz.prog.info? 222).map (·.size) = some (volL p n).length) := info_vol p n
  clear h T hC
  go_enter Tryz.func88, Tryz.ntmps88
  go_wp2_with fail
  refine hof.mono ?_
  rintro e w1 ⟨rfl, hb1⟩
  clear hof
  unfold volL devV at *
  go_wp2_with fail
  have hB : Below w.heap.size w (w1.alloc (.cells #[.iface 23 (.pointer (some ⟨p, 0, none⟩)), .int .i64 (n : Nat)] 222)) := hb1.alloc (by have := hb1.size; omega) _
  refine (HJ.out _ hB).mono ?_
  rintro e w3 ⟨rfl, hD, hk⟩
  go_wp2_with fail
  go_ret
  exact ⟨rfl, hD, (Kept.fresh hB).trans hk (fun g _ h => h)⟩

set_option maxRecDepth 100000 in
set_option maxHeartbeats 400000 in
theorem pformat_any (K : Nat → Int) (p bb n : Nat) (C : Nat → List Int) (w : World) (h8 : 8 ≤ n) (h4 : n ≤ 400) (h : DiskAt w p bb n C (.slice none 0 0) []) (hC : ∀ i, i < n → ∀ x ∈ C i, 0 ≤ x ∧ x < 256) (T : Tab K w) (hpT : ¬ 1 = p) :
    Calls Tryz.prog 52 #[.pointer (some ⟨p, 0, none⟩)] w (fmtEnd K p bb n C w) := by
  have hf := aformat_any K p bb n C w h8 h4 h hC T hpT
  clear h T hC
  unfold devV at hf
  go_enter Tryz.func52, Tryz.ntmps52
  go_wp2_with fail
  refine hf.mono ?_
  rintro e w3 ⟨rfl, hD, hk⟩
  go_wp2_with fail
  go_ret
  exact ⟨rfl, hD, hk⟩

/-- A disk of noughts. -/
def zeroC : Nat → List Int := fun _ => z128
theorem blk_zero : ∀ n, blkC zeroC n = List.replicate (128 * n) (.int .u8 0)
  | 0 => rfl
  | n + 1 => by
    rw [blkC, blk_zero n, show bytesV (zeroC n) = List.replicate 128 (.int .u8 0) by unfold zeroC z128 bytesV; rw [List.map_replicate], List.replicate_append_replicate, show 128 * n + 128 = 128 * (n + 1) by omega]
theorem made_blk (n : Nat) : (madeCells (Value.agg zB.toArray).cells (n * 128)).toList = blkC zeroC n := by
  rw [blk_zero]
  refine List.eq_replicate_iff.2 ⟨?_, fun x hx => ?_⟩
  · rw [Array.length_toList, size_madeCells]; omega
  · unfold madeCells at hx
    rw [Array.toList_map] at hx
    obtain ⟨j, _, rfl⟩ := List.mem_map.1 hx
    have hs : (Value.agg zB.toArray).cells.size = 128 := by show zB.toArray.size = 128; rw [List.size_toArray, zB_len]
    rw [hs, getElem!_pos _ _ (by rw [hs]; omega)]
    have := zB_get (j % 128) (by omega)
    rw [List.getElem?_eq_getElem (by rw [zB_len]; omega)] at this
    exact Option.some.inj this
theorem info_dblkT : ∃ i, Tryz.prog.info? 254 = some i ∧ i.zero = some (.agg zB.toArray) ∧ i.size = 128 ∧ i.bytes = 128 := by
  obtain ⟨i, hi⟩ : ∃ i, Tryz.prog.info? 254 = some i := Option.isSome_iff_exists.1 (by kernel_rfl)
  refine ⟨i, hi, ?_, ?_, ?_⟩
  · have : (Tryz.prog.info? 254).bind (·.zero) = some (.agg zB.toArray) := by kernel_rfl
    rw [hi] at this; exact this
  · have : (Tryz.prog.info? 254).map (·.size) = some 128 := by kernel_rfl
    rw [hi] at this; exact Option.some.inj this
  · have : (Tryz.prog.info? 254).map (·.bytes) = some 128 := by kernel_rfl
    rw [hi] at this; exact Option.some.inj this
set_option maxRecDepth 100000 in
set_option maxHeartbeats 400000 in
theorem newdisk_any (n : Nat) (w : World) (hn0 : 0 < n) (hn : n < 1000) :
    Calls Tryz.prog 51 #[.int .i64 n] w fun e w' => ∃ p bb, e = .returned (.pointer (some ⟨p, 0, none⟩)) ∧ w.heap.size ≤ p ∧ w.heap.size ≤ bb ∧ DiskAt w' p bb n zeroC (.slice none 0 0) [] ∧ Below w.heap.size w w' := by
  obtain ⟨i0, hi, hz, hsz, hby⟩ := info_dblkT
  have n0 : ¬ (n : Int) < 0 := by omega
  have hm : (n : Int) % 1000 = (n : Int) := by omega
  go_enter Tryz.func51, Tryz.ntmps51
  go_wp2_with (at_make; refine wpList_make_full _ rfl _ _ 148 rfl w.heap.size 254 i0 (.agg zB.toArray) 128 Tryz.underlying148 hi hz hsz .i64 .i64 _ _ n rfl rfl ?L ?C ?b2 ?b3 (Nat.le_refl _) ?_)
  case b2 => omega
  case b3 => unfold maxLen; omega
  intro w2 ho2 hg2
  have HB : Hid (w2.heap[w.heap.size]? = some (.cells (blkC zeroC n).toArray 254 (0, 0))) := by
    rcases ho2.2 with ⟨e, _⟩ | ⟨g, cap, cur, e, _, hh, _, _, hcs, htk⟩
    · cases e
    · have e1 : w.heap.size = g ∧ n = cap := by injection e with e1 e2 e3; injection e1 with e1; injection e1 with e1; exact ⟨e1, e3⟩
      obtain ⟨rfl, rfl⟩ := e1
      rw [show madeCells zB.toArray (n * 128) = madeCells (Value.agg zB.toArray).cells (n * 128) from rfl, made_blk, List.take_of_length_le (by rw [Array.length_toList, hcs]; exact Nat.le_refl _)] at htk
      show _ = _
      rw [hh, ← htk]
  have HL : Hid (w.heap.size < w2.heap.size) := (ho2.lt w.heap.size rfl).2
  have HG : Hid (Below w.heap.size w w2) := (Below.refl _ _).grown hg2 (Nat.le_refl _) (fun k hk => by cases hk)
  clear ho2 hg2
  go_wp2_with fail
  go_ret
  have hl := HL.out
  refine ⟨w2.heap.size, w.heap.size, rfl, by omega, Nat.le_refl _, ⟨⟨0, 0, ?_⟩, ?_, World.ownsRow_nil _ _ _ _, ⟨by omega, by simp [Value.ownBlock], by simp [Value.ownBlock]⟩, fun i _ => by unfold zeroC z128; rw [List.length_replicate], fun x hx => by cases hx⟩, HG.out.alloc (by omega) _⟩
  · exact heap_alloc_new w2 _
  · exact (heap_alloc_old w2 _ hl).trans HB.out
end Go.Proofs.YteglimjonofdeaaGreatDoor
set_option linter.unusedVariables false
set_option linter.unusedSimpArgs false
namespace Go.Proofs.YteglimjonofdeaaGreatDoor
open Go.RowKit

/-- What Open's own part leaves: the records that were read lie in f. -/
def op1Post (K : Nat → Int) (p bb n j a f : Nat) (C : Nat → List Int) (l r : ByteArray) (w : World) (e : Ending) (w' : World) : Prop :=
  e = .returned (.tuple #[]) ∧ ∃ g cap, w'.cell? ⟨f, 0, none⟩ = some (.slice (some ⟨g, 0, none⟩) 1 cap) ∧ w'.ownsRow w.heap.size 9 1 (.slice (some ⟨g, 0, none⟩) 1 cap) 1 [.string r] ∧ DiskAt w' p bb n C (.slice none 0 0) [] ∧ w'.rangeAt j 0 (jL p n (sumOf K (l ++ r)) 1) ∧ w'.there j 0 35 ∧ Kept (fun g => g = p ∨ g = bb ∨ g = j ∨ g = f) w w'

set_option maxRecDepth 100000 in
set_option maxHeartbeats 400000 in
theorem open1_any (K : Nat → Int) (p bb n j a f : Nat) (C : Nat → List Int) (l r : ByteArray) (w : World) (hn : n ≤ 1000) (hn8 : 8 ≤ n) (hl : l.size = 32) (hr : r.size ≤ 18) (hjp : j ≠ p) (hjb : j ≠ bb) (hjl : j < w.heap.size) (L0 : Jv p bb n j C l 0 w w) (T : Tab K w) (hpT : ¬ 1 = p) (hjT : ¬ 1 = j)
    (hC0 : C 0 = packN K l r) (hC1 : C 1 = z128) (hno : z128.take 32 ≠ (packN K (sumOf K (l ++ r)) ⟨#[]⟩).take 32)
    (hal : a < w.heap.size ∧ f < w.heap.size) (hap : a ≠ p ∧ a ≠ bb ∧ a ≠ j ∧ a ≠ f) (hfp : f ≠ p ∧ f ≠ bb ∧ f ≠ j) (x : Value) (hca : w.cell? ⟨a, 0, none⟩ = some (.pointer (some ⟨j, 0, none⟩))) (hcf : w.cell? ⟨f, 0, none⟩ = some x) (hff : w.frozen? ⟨f, 0, none⟩ = false) :
    Calls Tryz.prog 177 #[.pointer (some ⟨a, 0, none⟩), .pointer (some ⟨f, 0, none⟩)] w (op1Post K p bb n j a f C l r w) := by
  have hrd := read_fresh K p bb n j C l r w hn hn8 hl hr hjp hjb hjl L0 T hpT hjT hC0 hC1 hno
  have HPL : Hid (p < w.heap.size ∧ bb < w.heap.size) := L0.disk.lt
  have HIV : Hid ((Tryz.prog.info? 222).map (·.size) = some (volL p n).length) := info_vol p n
  clear L0 T hno hC0 hC1
  go_enter Tryz.func177, Tryz.ntmps177
  go_wp2_with fail
  refine hrd.mono ?_
  rintro e w1 ⟨g, cap, rfl, hO, hD, hJ, hT, hk⟩
  clear hrd
  have hca1 : w1.cell? ⟨a, 0, none⟩ = some (.pointer (some ⟨j, 0, none⟩)) := (hk.cell (a := ⟨a, 0, none⟩) hal.1 (by show ¬ (a = p ∨ a = j); omega)).trans hca
  have hcf1 : w1.cell? ⟨f, 0, none⟩ = some x := (hk.cell (a := ⟨f, 0, none⟩) hal.2 (by show ¬ (f = p ∨ f = j); omega)).trans hcf
  have hff1 : w1.frozen? ⟨f, 0, none⟩ = false := (hk.frozen (a := ⟨f, 0, none⟩) hal.2 (by show ¬ (f = p ∨ f = j); omega)).trans hff
  have hgb := (hO.lt g rfl)
  obtain ⟨W, hW⟩ : ∃ W, W = w1.setCell ⟨f, 0, none⟩ (.slice (some ⟨g, 0, none⟩) 1 cap) := ⟨_, rfl⟩
  have hk2 : Kept (· = f) w1 W := by rw [hW]; exact Kept.setCell _ _ _ (Or.inl rfl)
  have hs := hk.size
  have hcaW : W.cell? ⟨a, 0, none⟩ = some (.pointer (some ⟨j, 0, none⟩)) := (hk2.cell (a := ⟨a, 0, none⟩) (by show a < _; omega) (by show ¬ (a = f); omega)).trans hca1
  have hcfW : W.cell? ⟨f, 0, none⟩ = some (.slice (some ⟨g, 0, none⟩) 1 cap) := by rw [hW]; exact World.cell?_setCell_same _ _ _ hcf1
  have hOW : W.ownsRow w.heap.size 9 1 (.slice (some ⟨g, 0, none⟩) 1 cap) 1 [.string r] := hk2.own hO (fun g' hg' e => by
    obtain rfl : g = g' := by simpa [Value.ownBlock] using hg'
    have e' : g = f := e
    omega)
  have hDW := hD.kept hk2 (by omega) (by omega) (fun g hg => by cases hg)
  have hJW : W.rangeAt j 0 (jL p n (sumOf K (l ++ r)) 1) := fun i v hv => (hk2.cell (a := ⟨j, 0 + i, none⟩) (by show j < _; omega) (by show ¬ (j = f); omega)).trans (hJ i v hv)
  have hTW : W.there j 0 35 := fun i hi => by rw [hk2.cell (a := ⟨j, 0 + i, none⟩) (by show j < _; omega) (by show ¬ (j = f); omega), hk2.frozen (a := ⟨j, 0 + i, none⟩) (by show j < _; omega) (by show ¬ (j = f); omega)]; exact hT i hi
  have hv0 : W.cell? ⟨j, 0, none⟩ = some (devV p) := j_vol hJW 0 _ rfl
  have hv1 : W.cell? ⟨j, 1, none⟩ = some (.int .i64 (n : Nat)) := j_vol hJW 1 _ rfl
  have hse := vsettle_any p bb n C (.slice none 0 0) [] W hn (by show 0 ≤ _; omega) hDW
  have HK : Hid (Kept (fun g => g = p ∨ g = bb ∨ g = j ∨ g = f) w W) := Kept.trans (S := fun g => g = p ∨ g = bb ∨ g = j ∨ g = f) (hk.mono (fun g _ h => by omega)) hk2 (fun g _ h => by omega)
  have HR : Hid (W.ownsRow w.heap.size 9 1 (.slice (some ⟨g, 0, none⟩) 1 cap) 1 [.string r] ∧ W.rangeAt j 0 (jL p n (sumOf K (l ++ r)) 1) ∧ W.there j 0 35 ∧ w.heap.size ≤ g ∧ w.heap.size ≤ W.heap.size) := ⟨hOW, hJW, hTW, hgb.1, by have := hk2.size; omega⟩
  have HC : Hid (W.cell? ⟨f, 0, none⟩ = some (.slice (some ⟨g, 0, none⟩) 1 cap)) := hcfW
  clear hk hk2 hO hOW hD hDW hJ hT hJW hTW hgb hs
  unfold volL devV at *
  go_wp2_with (rw [← hW]; clear hW hca1 hcf1 hff1)
  refine hse.mono ?_
  rintro e w2 ⟨rfl, hD2, hk⟩
  clear hse
  go_wp2_with fail
  go_end0
  have hr := HR.out
  have hpl := HPL.out
  refine ⟨rfl, g, cap, (hk.cell (a := ⟨f, 0, none⟩) (by show f < _; omega) (by show ¬ (f = p ∨ f = bb); omega)).trans HC.out, hk.own hr.1 (fun g' hg' e => ?_), hD2, fun i v hv => (hk.cell (a := ⟨j, 0 + i, none⟩) (by show j < _; omega) (by show ¬ (j = p ∨ j = bb); omega)).trans (hr.2.1 i v hv), fun i hi => ?_, HK.out.trans hk (fun g _ h => by omega)⟩
  · obtain rfl : g = g' := by simpa [Value.ownBlock] using hg'
    have e' : g = p ∨ g = bb := e
    omega
  · rw [hk.cell (a := ⟨j, 0 + i, none⟩) (by show j < _; omega) (by show ¬ (j = p ∨ j = bb); omega), hk.frozen (a := ⟨j, 0 + i, none⟩) (by show j < _; omega) (by show ¬ (j = p ∨ j = bb); omega)]; exact hr.2.2.1 i hi
end Go.Proofs.YteglimjonofdeaaGreatDoor
