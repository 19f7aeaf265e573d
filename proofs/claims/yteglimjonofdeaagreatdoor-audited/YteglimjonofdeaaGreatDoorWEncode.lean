import Derived.Test.YteglimjonofdeaaGreatDoorConstsM
import Derived.Test.YteglimjonofdeaaGreatDoorConstsM
import Derived.Lib.BufferWrite
import Derived.Lib.SlBuf
set_option linter.unusedVariables false
set_option linter.unusedSimpArgs false
namespace Go.Proofs.YteglimjonofdeaaGreatDoor
open Go.RowKit

theorem info25 : (Tryz.prog.info? 144).map (·.size) = some 38 := by kernel_rfl
theorem ev_length (c n o p v k : Int) (d : List Value) (hd : d.length = 32) : (Tryz.prog.info? 144).map (·.size) = some (evCells c n o p v k d).length := by
  rw [info25]; simp [evCells, hd]

theorem convert_own {w : World} {base n : Nat} {v : Value} {ns : List Int} (hown : w.ownsRow base 5 1 v n (bytesV ns)) : (convert 85 9 v).run Tryz.prog w = .ok (.string (strOfNums ns)) w := by
  have hl := hown.1
  rcases hown.2 with ⟨rfl, rfl⟩ | ⟨g, cap, cur, rfl, hb, hg, _⟩
  · have : ns = [] := by simpa [bytesV] using hl
    subst this
    exact run_convert_bytes_nil w 85 5 Tryz.underlying85 Tryz.underlying5 0 0 9 Tryz.underlying9
  · refine run_convert_bytes_arg w 85 5 Tryz.underlying85 Tryz.underlying5 g 0 n cap ns (by simpa [bytesV] using hl) ?_ 9 Tryz.underlying9
    intro i hi
    have hi' : i < ns.length := by simp [bytesV] at hl; omega
    have := hown.cells (g := g) rfl i (.int .u8 (ns.getD i 0)) (by simp [bytesV, List.getD, List.getElem?_eq_getElem hi'])
    rwa [Addr.add_mid] at this

/-- The bytes of an event. -/
def evBytes (c n o p v k : Int) (dg : List Int) : List Int := [69, c] ++ fourN n ++ [o, p, v, k] ++ dg

theorem make42 (w : World) : (Instr.makeSlice 85 (.int .i64 0) (.int .i64 42)).run Tryz.prog w = .ok (.slice (some ⟨w.heap.size, 0, none⟩) 0 42) (w.alloc (.cells (Array.replicate 42 (.int .u8 0)) 5)) := by kernel_rfl

theorem whole_bounds {c n o p v k : Int} (hw : wholeB c n o p v k = true) : (1 ≤ c ∧ c ≤ 9) ∧ (1 ≤ n ∧ n ≤ 2147483647) ∧ (1 ≤ o ∧ o ≤ 5) ∧ (1 ≤ p ∧ p ≤ 99) ∧ (0 ≤ v ∧ v ≤ 8) ∧ (0 ≤ k ∧ k ≤ 5) := by
  simpa [wholeB, inB] using hw

theorem own_four (w : World) (A B : Obj) (c : Int) : ((((w.alloc A).alloc B).alloc (.cells (((Array.replicate 42 (Value.int .u8 0)).setIfInBounds 0 (.int .u8 69)).setIfInBounds 1 (.int .u8 c)) 5)).alloc (.cells #[.int .u8 69, .int .u8 c] 5)).ownsRow (w.heap.size + 2) 5 1
    (.slice (some ⟨w.heap.size + 1 + 1, 0, none⟩) 2 42) 2 (bytesV [69, c]) := by
  refine World.ownsRow.alloc ?_ _
  refine ⟨rfl, .inr ⟨w.heap.size + 1 + 1, 42, (((Array.replicate 42 (Value.int .u8 0)).setIfInBounds 0 (.int .u8 69)).setIfInBounds 1 (.int .u8 c)), rfl, by omega, ?_, by omega, by unfold maxLen; omega, by simp, rfl⟩⟩
  have := heap_alloc_new ((w.alloc A).alloc B) (.cells (((Array.replicate 42 (Value.int .u8 0)).setIfInBounds 0 (.int .u8 69)).setIfInBounds 1 (.int .u8 c)) 5)
  simpa using this
theorem cell_four (w : World) (X : List Value) (t : TypeId) (C D : Obj) (i : Nat) : ((((w.alloc (.cells X.toArray t)).alloc (.cells X.toArray t)).alloc C).alloc D).cell? ⟨w.heap.size, i, none⟩ = X[i]? := by
  rw [World.cell?_alloc_past _ _ _ (by simp; omega), World.cell?_alloc_past _ _ _ (by simp; omega), World.cell?_alloc_past _ _ _ (by simp), World.cell?_alloc_at _ _ _ _ rfl]
  simp

set_option maxRecDepth 10000 in
set_option maxHeartbeats 2000000 in
theorem encode_yes (c n o p v k : Int) (dg : List Int) (w : World) (hd : dg.length = 32) (hw : wholeB c n o p v k = true) :
    Calls Tryz.prog 149 #[.agg (evCells c n o p v k (bytesV dg)).toArray] w fun e w' => e = .returned (.tuple #[.string (strOfNums (evBytes c n o p v k dg)), .nilIface]) ∧ Below w.heap.size w w' := by
  obtain ⟨i0, hi, hz0, hz1, hz2⟩ := info_parts info5
  obtain ⟨⟨c1, c2⟩, ⟨n1, n2⟩, ⟨o1, o2⟩, ⟨p1, p2⟩, ⟨v1, v2⟩, k1, k2⟩ := whole_bounds hw
  have hmk := make42
  have e0 := ev0 c n o p v k (bytesV dg)
  have e1 := ev1 c n o p v k (bytesV dg)
  have e2 := ev2 c n o p v k (bytesV dg)
  have e3 := ev3 c n o p v k (bytesV dg)
  have e4 := ev4 c n o p v k (bytesV dg)
  have e5 := ev5 c n o p v k (bytesV dg)
  go_enter Tryz.func149, Tryz.ntmps149
  go_wp2_with (first | (refine wpList_load_mid rfl 144 _ rfl w.heap.size 0 rfl (evCells c n o p v k (bytesV dg)) _ (range_new _ _ _) Tryz.underlying144 rfl (ev_length _ _ _ _ _ _ _ (by rw [bytesV_length]; exact hd)) ?_) | (go_at_call 94; refine (whole_any _ _ _ _ _ _ _ _).mono ?_; rintro e w' ⟨rfl, rfl⟩))
  refine (append_any (w.heap.size + 2) 2 (bytesV [69, c]) _ _ _ (own_four w _ _ c) (by omega) (by simp)).mono ?_
  rintro e w1 ⟨u1, rfl, ho1, hb1⟩
  have hc1 : ∀ i, w1.cell? ⟨w.heap.size, i, none⟩ = (evCells c n o p v k (bytesV dg))[i]? := fun i => (hb1.cell (p := ⟨w.heap.size, i, none⟩) (by simp)).trans (cell_four w _ _ _ _ i)
  have hs1 := hb1.size
  simp at hs1
  clear hmk
  go_wp2_with (first | (at_builtin; refine wpList_append_own _ rfl (.tmp 21) (.tmp 34) 85 rfl (w.heap.size + 2) 5 i0 (.int .u8 0) 1 1 Tryz.underlying85 hi hz0 hz1 hz2 rfl (by decide) _ _ _ rfl (ho1.alloc _) ⟨w1.heap.size, 0, none⟩ 4 4 (bytesV [o, p, v, k]) rfl rfl ?c1 (bytesV_one _) ?c3 ?c4 ?c5 ?_))
  case c1 => intro j u hj; exact new_cells w1 (bytesV [o, p, v, k]) _ j u hj
  case c3 => unfold maxLen; omega
  case c4 => omega
  case c5 => simp; omega
  intro u2 w2 ho2 hg2 _
  have hb2 : Below (w.heap.size + 2) w1 w2 := ((Below.refl _ _).alloc (by omega) _).grown hg2 (by simp; omega) (fun q hq => (ho1.lt q hq).1)
  have hc2 : ∀ i, w2.cell? ⟨w.heap.size, i, none⟩ = (evCells c n o p v k (bytesV dg))[i]? := fun i => (hb2.cell (p := ⟨w.heap.size, i, none⟩) (by simp)).trans (hc1 i)
  have hs2 := hb2.size
  clear hg2 ho1
  go_wp2_with (first | (at_builtin; refine wpList_append_own _ rfl (.tmp 36) (.tmp 38) 85 rfl (w.heap.size + 2) 5 i0 (.int .u8 0) 1 1 Tryz.underlying85 hi hz0 hz1 hz2 rfl (by decide) _ _ _ rfl ho2 ⟨w.heap.size, 6, none⟩ 32 32 (bytesV dg) rfl ?c0 ?c1 (bytesV_one _) ?c3 ?c4 ?c5 ?_))
  case c0 => rw [bytesV_length, hd]
  case c1 => intro j u hj; rw [Addr.add_mid, hc2 (6 + j)]; rw [show 6 + j = j + 6 by omega]; exact hj
  case c3 => unfold maxLen; omega
  case c4 => omega
  case c5 => omega
  intro u3 w3 ho3 hg3 _
  have hb3 : Below (w.heap.size + 2) w2 w3 := (Below.refl _ _).grown hg3 (by omega) (fun q hq => (ho2.lt q hq).1)
  have hown : w3.ownsRow (w.heap.size + 2) 5 1 u3 42 (bytesV (evBytes c n o p v k dg)) := by
    have e : bytesV (evBytes c n o p v k dg) = bytesV [69, c] ++ (fourI n ++ bytesV [o, p, v, k]) ++ bytesV dg := by simp [evBytes, fourI, bytesV]
    rw [e]; simpa using ho3
  have hcv := convert_own hown
  have hb : Below w.heap.size w w3 := (((((Below.refl _ _).alloc (Nat.le_refl _) _).alloc (by simp) _).alloc (by simp; omega) _).alloc (by simp; omega) _).trans ((hb1.mono (by omega)).trans ((hb2.mono (by omega)).trans (hb3.mono (by omega))))
  clear ho3 hg3 hown ho2 hb1 hb2 hb3 hc2 hs1 hs2
  go_wp2
  go_ret2
  exact ⟨rfl, hb⟩
end Go.Proofs.YteglimjonofdeaaGreatDoor
