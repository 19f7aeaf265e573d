import Derived.Test.YteglimjonofdeaaGreatDoorWEvent
import Derived.Test.YteglimjonofdeaaGreatDoorAid
import Derived.Lib.BufferWrite
import Derived.Lib.SlBuf
import Derived.Deep.RegionHeld3
import Derived.Deep.DeepCutAuto
set_option linter.unusedVariables false
set_option linter.unusedSimpArgs false
namespace Go.Proofs.YteglimjonofdeaaGreatDoor
open Go.RowKit

theorem size_byte (w : World) : (sizeOf 5).run Tryz.prog w = .ok 1 w := by kernel_rfl
theorem there_below {B b n : Nat} {w w' : World} (h : Below B w w') (hb : b < B) (ht : w.there b 0 n) : w'.there b 0 n := fun j hj => by
  rw [h.cell (p := ⟨b, 0 + j, none⟩) hb, h.frozen (p := ⟨b, 0 + j, none⟩) hb]; exact ht j hj
def bAt (s : ByteArray) (i : Nat) : Int := ((s.data.toList.getD i 0).toNat : Int)
theorem bAt_eq (s : ByteArray) (i : Nat) (h : i < s.size) : ((s[i]'h).toNat : Int) = bAt s i := by
  have h' : i < s.data.toList.length := by rw [← Lib.size_eq]; exact h
  unfold bAt
  rw [List.getD, List.getElem?_eq_getElem h']
  rfl
theorem bAt_lo (s : ByteArray) (i : Nat) : 0 ≤ bAt s i := by unfold bAt; omega
theorem bAt_hi (s : ByteArray) (i : Nat) : bAt s i ≤ 255 := by
  unfold bAt; have := (s.data.toList.getD i 0).toNat_lt; omega

/-- '[]byte(t)', the world behind it a letter. -/
theorem wp_conv_abs {op : Oper} {a : Act} {w : World} {K : Act → World → Prop} {Q : Exit → Act → World → Prop} (x : Operand) (ho : op.op = .convert 9 85 x) (t : ByteArray) (hx : a.eval x = .string t)
    (h : ∀ w' g cap, Below w.heap.size w w' → w.heap.size ≤ g → g < w'.heap.size → (∀ j, j < t.size → w'.cell? ⟨g, j, none⟩ = some (.int .u8 (bAt t j))) → K (a.put op.dst (.slice (some ⟨g, 0, none⟩) t.size cap)) w') : op.wp Tryz.prog a w K Q := by
  unfold Oper.wp
  have hr := run_bytes_of_string (P := Tryz.prog) w 9 85 5 t Tryz.underlying9 Tryz.underlying85 Tryz.underlying5
  simp only [execOp, ho, hx, Sem.run_bind, hr, Result.andThen_ok, Sem.run_pure]
  refine h _ w.heap.size _ ((Below.refl _ _).drew.alloc (Nat.le_refl _) _) (Nat.le_refl _) (by simp) ?_
  intro j hj
  have hj' : j < t.data.size := hj
  have := bytesRow_at t (grownCap w t.size 0 5) j hj'
  have e : ((t.data[j]).toNat : Int) = bAt t j := bAt_eq t j hj
  rw [e] at this
  rw [← this]
  have hh : (w.drew.alloc (.cells (bytesRow t (grownCap w t.size 0 5)) 5 ((bytesRow t (grownCap w t.size 0 5)).size, (bytesRow t (grownCap w t.size 0 5)).size + 1))).heap[w.heap.size]? = some (.cells (bytesRow t (grownCap w t.size 0 5)) 5 ((bytesRow t (grownCap w t.size 0 5)).size, (bytesRow t (grownCap w t.size 0 5)).size + 1)) := heap_alloc_new w.drew _
  exact cell_of_row _ _ _ _ _ _ hh

/-- A new variable, the world behind it a letter. -/
theorem wp_alloc_abs {op : Oper} {a : Act} {w : World} {K : Act → World → Prop} {Q : Exit → Act → World → Prop} (ty : TypeId) (ho : op.op = .alloc ty) (Z : List Value)
    (hz : ∀ w, (Instr.alloc ty true (.tuple #[])).run Tryz.prog w = .ok (.pointer (some ⟨w.heap.size, 0, none⟩)) (w.alloc (.cells Z.toArray ty)))
    (h : ∀ w' g, Below w.heap.size w w' → w.heap.size ≤ g → g < w'.heap.size → w'.there g 0 Z.length → K (a.put op.dst (.pointer (some ⟨g, 0, none⟩))) w') : op.wp Tryz.prog a w K Q := by
  unfold Oper.wp
  simp only [execOp, ho, Sem.run_bind, hz, Result.andThen_ok, Sem.run_pure]
  exact h _ w.heap.size ((Below.refl _ _).alloc (Nat.le_refl _) _) (Nat.le_refl _) (by simp) (by simpa using there_new w Z.toArray ty)


theorem wpList_wanted {P : Program} {ops : Array Oper} {Q : Exit → Act → World → Prop} {a : Act} {w : World} {rest : List Oper} {o : Oper} (hw : Region.wanted o (yielded ops a.tmps) = true)
    (h : ∀ K : Act → World → Prop, (∀ a w, wpList P ops Q rest a w → K a w) → o.wp P a w K Q) : wpList P ops Q (o :: rest) a w :=
  wpList_step fun K hK => by rw [if_pos hw]; exact h K hK
/-- A guarded load of a whole row, where the guard says yes. -/
theorem wpList_load_wanted {P : Program} {ops : Array Oper} {rest : List Oper} {op : Oper} {a : Act} {w : World} {Q : Exit → Act → World → Prop} (hw : Region.wanted op (yielded ops a.tmps) = true) (ty : TypeId) (x : Operand) (ho : op.op = .load ty x)
    (b o : Nat) (hx : a.eval x = .pointer (some ⟨b, o, none⟩)) (cs : List Value) (d : TypeDesc) (hc : w.rangeAt b o cs)
    (hu : P.underlying ty = some d) (hd : d.isRow = true) (hi : (P.info? ty).map (·.size) = some cs.length)
    (h : wpList P ops Q rest (a.put op.dst (.agg cs.toArray)) w) : wpList P ops Q (op :: rest) a w :=
  wpList_wanted hw fun _ hK => wp_load_mid ty x ho b o hx cs d hc hu hd hi (hK _ _ h)
theorem wpList_build_wanted {P : Program} {ops : Array Oper} {rest : List Oper} {op : Oper} {a : Act} {w : World} {Q : Exit → Act → World → Prop} (hw : Region.wanted op (yielded ops a.tmps) = true) (ty : TypeId) (ho : op.op = .build ty #[]) (Z : Array Value)
    (hz : ∀ w, (Instr.build ty #[]).run P w = .ok (.agg Z) w)
    (h : wpList P ops Q rest (a.put op.dst (.agg Z)) w) : wpList P ops Q (op :: rest) a w :=
  wpList_wanted hw fun _ hK => by
    unfold Oper.wp
    simp only [execOp, ho, Sem.run_bind, List.map_toArray, List.map_nil, hz, Result.andThen_ok, Sem.run_pure]
    exact hK _ _ h
end Go.Proofs.YteglimjonofdeaaGreatDoor
