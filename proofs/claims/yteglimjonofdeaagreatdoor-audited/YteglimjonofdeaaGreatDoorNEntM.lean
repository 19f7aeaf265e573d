import Derived.Test.YteglimjonofdeaaGreatDoorWTakeM
import Derived.Test.YteglimjonofdeaaGreatDoorConstsM
import Derived.Lib.AppendStr
set_option linter.unusedVariables false
set_option linter.unusedSimpArgs false
namespace Go.Proofs.YteglimjonofdeaaGreatDoor
open Go.RowKit

/-- A request's cells. -/
def rqCells (c n o p v : Int) (t : ByteArray) : List Value := [.int .i64 c, .int .i64 n, .int .i64 o, .int .i64 p, .int .i64 v, .string t]
/-- A request is whole. -/
def rqWhole (c n o p v : Int) (t : ByteArray) : Bool := wholeB c n o p v 0 && decide (t.size ≤ 8)
theorem ev_built (c n o p v : Int) : Tryz.prog.built 144 [(0, .int .i64 c), (1, .int .i64 n), (2, .int .i64 o), (3, .int .i64 p), (4, .int .i64 v)] = some (evCells c n o p v 0 z32).toArray := by kernel_rfl
theorem wpList_build_tm {ops : Array Oper} {rest : List Oper} {op : Oper} {a : Act} {w : World} {Q : Exit → Act → World → Prop} (hgd : op.guard = none) (t : TypeId) (parts : Array (Nat × Operand)) (ho : op.op = .build t parts) (cells : Array Value)
    (hf : Tryz.prog.built t (parts.map fun (i, x) => (i, a.eval x)).toList = some cells) (h : wpList Tryz.prog ops Q rest (a.put op.dst (.agg cells)) w) : wpList Tryz.prog ops Q (op :: rest) a w :=
  wpList_plain hgd fun _ hK => wp_build_to t parts ho cells hf (hK _ _ h)
theorem alloc_ev (w : World) : (Instr.alloc 144 true (.tuple #[])).run Tryz.prog w = .ok (.pointer (some ⟨w.heap.size, 0, none⟩)) (w.alloc (.cells (evCells 0 0 0 0 0 0 z32).toArray 144)) := by kernel_rfl
theorem info_ev (c n o p v k : Int) : (Tryz.prog.info? 144).map (·.size) = some (evCells c n o p v k z32).length := by show _ = some 38; kernel_rfl

set_option maxRecDepth 10000 in
set_option maxHeartbeats 1000000 in
theorem ewhole_any (c n o p v : Int) (t : ByteArray) (w : World) (ht : t.size < 1000000) :
    Calls Tryz.prog 57 #[.agg (rqCells c n o p v t).toArray] w fun e w' => e = .returned (.bool (rqWhole c n o p v t)) ∧ Below w.heap.size w w' := by
  have hbu := ev_built c n o p v
  have hio := info_ev c n o p v 0
  have h1c : ∀ u ∈ evCells c n o p v 0 z32, u.oneCell' = true := by
    intro u hu
    simp only [evCells, List.mem_cons] at hu
    rcases hu with rfl | rfl | rfl | rfl | rfl | rfl | hu
    all_goals first | rfl | exact bytesV_one _ u hu
  obtain ⟨W, hW⟩ : ∃ W, W = w.alloc (.cells (rqCells c n o p v t).toArray 29) := ⟨_, rfl⟩
  have hWs : W.heap.size = w.heap.size + 1 := by rw [hW]; simp
  have bW : Below w.heap.size w W := by rw [hW]; exact (Below.refl _ _).alloc (Nat.le_refl _) _
  have rW : W.rangeAt w.heap.size 0 (rqCells c n o p v t) := by rw [hW]; exact range_new _ _ _
  have c0 : W.cell? ⟨w.heap.size, 0, none⟩ = some (.int .i64 c) := rW 0 _ rfl
  have c1 : W.cell? ⟨w.heap.size, 1, none⟩ = some (.int .i64 n) := rW 1 _ rfl
  have c2 : W.cell? ⟨w.heap.size, 2, none⟩ = some (.int .i64 o) := rW 2 _ rfl
  have c3 : W.cell? ⟨w.heap.size, 3, none⟩ = some (.int .i64 p) := rW 3 _ rfl
  have c4 : W.cell? ⟨w.heap.size, 4, none⟩ = some (.int .i64 v) := rW 4 _ rfl
  obtain ⟨V, hV⟩ : ∃ V, V = W.alloc (.cells (evCells 0 0 0 0 0 0 z32).toArray 144) := ⟨_, rfl⟩
  have bV : Below W.heap.size W V := by rw [hV]; exact (Below.refl _ _).alloc (Nat.le_refl _) _
  have tV : V.there W.heap.size 0 (evCells c n o p v 0 z32).length := by rw [hV]; exact there_new W (evCells 0 0 0 0 0 0 z32).toArray _
  have hVs : V.heap.size = W.heap.size + 1 := by rw [hV]; simp
  have HB : Hid (Below w.heap.size w V) := bW.trans (bV.mono (by omega))
  have HR : Hid (V.rangeAt w.heap.size 0 (rqCells c n o p v t)) := fun i x hx => (bV.cell (p := ⟨w.heap.size, 0 + i, none⟩) (by show w.heap.size < _; omega)).trans (rW i x hx)
  clear bV bW rW
  go_enter Tryz.func57, Tryz.ntmps57
  unfold rqCells at hW
  unfold rqCells
  go_wp2_with (first
    | (rw [← hW]; clear hW)
    | (refine wpList_build_tm rfl 144 _ rfl _ (Eq.trans (congrArg (Tryz.prog.built _) (by simp [Act.eval])) hbu) ?_)
    | (refine wpList_alloc_of rfl 144 rfl (evCells 0 0 0 0 0 0 z32).toArray alloc_ev ?_; rw [← hV]; clear hV)
    | (refine wpList_store_abs rfl 144 _ _ rfl W.heap.size 0 (evCells c n o p v 0 z32) rfl rfl tV hio h1c ?_
       intro w5 _hw5 hr5 _ht5 hb5
       have c5 : w5.cell? ⟨w.heap.size, 5, none⟩ = some (.string t) := ((hb5 W.heap.size (Nat.le_refl _)).cell (p := ⟨w.heap.size, 5, none⟩) (by show w.heap.size < _; omega)).trans (HR.out 5 _ rfl)
       have s5 := (hb5 W.heap.size (Nat.le_refl _)).size
       clear _hw5 _ht5)
    | (refine wpList_load_mid rfl 144 _ rfl W.heap.size 0 rfl (evCells c n o p v 0 z32) _ hr5 Tryz.underlying144 rfl hio ?_)
    | (go_at_call 94; refine (whole_any _ _ _ _ _ _ _ _).mono ?_; rintro e w6 ⟨rfl, hw6⟩
       have b6 : Below w5.heap.size w5 w6 := (by rw [hw6]; exact (Below.refl _ _).alloc (Nat.le_refl _) _)
       have c6 : w6.cell? ⟨w.heap.size, 5, none⟩ = some (.string t) := (b6.cell (p := ⟨w.heap.size, 5, none⟩) (by show w.heap.size < _; omega)).trans c5
       clear hw6))
  all_goals go_ret
  all_goals have hB : Below w.heap.size w w6 := (HB.out.trans (hb5 w.heap.size (by omega))).trans (b6.mono (by omega))
  all_goals refine ⟨ret_bool ?_, hB⟩
  all_goals unfold rqWhole
  all_goals (rw [Bool.eq_iff_iff]; simp_all; try omega)
/-- The bytes of a request. -/
def rqBytes (c n o p v : Int) (t : ByteArray) : List Int := [82, c] ++ fourN n ++ [o, p, v, (t.size : Nat)] ++ numsOf t
theorem make18 (w : World) : (Instr.makeSlice 85 (.int .i64 0) (.int .i64 18)).run Tryz.prog w = .ok (.slice (some ⟨w.heap.size, 0, none⟩) 0 18) (w.alloc (.cells (Array.replicate 18 (.int .u8 0)) 5)) := by kernel_rfl
theorem rq_bounds {c n o p v : Int} {t : ByteArray} (hw : rqWhole c n o p v t = true) : (1 ≤ c ∧ c ≤ 9) ∧ (1 ≤ n ∧ n ≤ 2147483647) ∧ (1 ≤ o ∧ o ≤ 5) ∧ (1 ≤ p ∧ p ≤ 99) ∧ (0 ≤ v ∧ v ≤ 8) ∧ t.size ≤ 8 := by
  have := hw
  simp [rqWhole, wholeB, inB] at this
  omega
theorem own_three (w : World) (A : Obj) (c : Int) : (((w.alloc A).alloc (.cells (((Array.replicate 18 (Value.int .u8 0)).setIfInBounds 0 (.int .u8 82)).setIfInBounds 1 (.int .u8 c)) 5)).alloc (.cells #[.int .u8 82, .int .u8 c] 5)).ownsRow (w.heap.size + 1) 5 1
    (.slice (some ⟨w.heap.size + 1, 0, none⟩) 2 18) 2 (bytesV [82, c]) := by
  refine World.ownsRow.alloc ?_ _
  refine ⟨rfl, .inr ⟨w.heap.size + 1, 18, (((Array.replicate 18 (Value.int .u8 0)).setIfInBounds 0 (.int .u8 82)).setIfInBounds 1 (.int .u8 c)), rfl, by omega, ?_, by omega, by unfold maxLen; omega, by simp, rfl⟩⟩
  have := heap_alloc_new (w.alloc A) (.cells (((Array.replicate 18 (Value.int .u8 0)).setIfInBounds 0 (.int .u8 82)).setIfInBounds 1 (.int .u8 c)) 5)
  simpa using this

theorem strCells_nums' (s : ByteArray) : Lib.strCells s = bytesV (numsOf s) := by
  unfold Lib.strCells bytesV numsOf; rw [List.map_map]; rfl
theorem convert_own' {w : World} {base n : Nat} {v : Value} {ns : List Int} (hown : w.ownsRow base 5 1 v n (bytesV ns)) : (convert 85 9 v).run Tryz.prog w = .ok (.string (strOfNums ns)) w := by
  have hl := hown.1
  rcases hown.2 with ⟨rfl, rfl⟩ | ⟨g, cap, cur, rfl, hb, hg, _⟩
  · have : ns = [] := by simpa [bytesV] using hl
    subst this
    exact run_convert_bytes_nil w 85 5 Tryz.underlying85 Tryz.underlying5 0 0 9 Tryz.underlying9
  · refine run_convert_bytes_arg w 85 5 Tryz.underlying85 Tryz.underlying5 g 0 n cap ns (by simpa [bytesV] using hl) ?_ 9 Tryz.underlying9
    intro i hi
    have hi' : i < ns.length := by simp [bytesV] at hl; omega
    have := hown.cells (g := g) rfl i (.int .u8 (ns.getD i 0)) (by simp [bytesV, List.getD, List.getElem?_eq_getElem hi'])
    rwa [Addr.add_mid] at this

set_option maxRecDepth 10000 in
set_option maxHeartbeats 2000000 in
theorem eencode_any (c n o p v : Int) (t : ByteArray) (w : World) (hw : rqWhole c n o p v t = true) :
    Calls Tryz.prog 143 #[.agg (rqCells c n o p v t).toArray] w fun e w' => e = .returned (.string (strOfNums (rqBytes c n o p v t))) ∧ Below w.heap.size w w' := by
  obtain ⟨i0, hi, hz0, hz1, hz2⟩ := info_parts info5
  obtain ⟨⟨c1, c2⟩, ⟨n1, n2⟩, ⟨o1, o2⟩, ⟨p1, p2⟩, ⟨v1, v2⟩, ht⟩ := rq_bounds hw
  have hmk := make18
  unfold rqCells
  go_enter Tryz.func143, Tryz.ntmps143
  go_wp2_with fail
  refine (append_any (w.heap.size + 1) 2 (bytesV [82, c]) _ _ _ (own_three w _ c) (by omega) (by simp)).mono ?_
  rintro e w1 ⟨u1, rfl, ho1, hb1⟩
  have hc1 : ∀ i, w1.cell? ⟨w.heap.size, i, none⟩ = (rqCells c n o p v t)[i]? := fun i => by
    rw [hb1.cell (p := ⟨w.heap.size, i, none⟩) (by show w.heap.size < _; omega), World.cell?_alloc_past _ _ _ (by simp; omega), World.cell?_alloc_past _ _ _ (by simp), World.cell?_alloc_at _ _ _ _ rfl]
    simp [rqCells]
  have HB1 : Hid (Below w.heap.size w w1) := ((((Below.refl _ _).alloc (Nat.le_refl _) _).alloc (by simp) _).alloc (by simp; omega) _).trans (hb1.mono (by omega))
  have hs1 := hb1.size
  simp at hs1
  have q2 : w1.cell? ⟨w.heap.size, 2, none⟩ = some (.int .i64 o) := hc1 2
  have q3 : w1.cell? ⟨w.heap.size, 3, none⟩ = some (.int .i64 p) := hc1 3
  have q4 : w1.cell? ⟨w.heap.size, 4, none⟩ = some (.int .i64 v) := hc1 4
  have q5 : w1.cell? ⟨w.heap.size, 5, none⟩ = some (.string t) := hc1 5
  have m1 : (t.size : Int) ≤ 8 := by omega
  have m0 : (0 : Int) ≤ (t.size : Int) := by omega
  clear hmk hb1 hc1
  go_wp2_with (first | (at_builtin; refine wpList_append_own _ rfl (.tmp 16) (.tmp 30) 85 rfl (w.heap.size + 1) 5 i0 (.int .u8 0) 1 1 Tryz.underlying85 hi hz0 hz1 hz2 rfl (by decide) _ _ _ rfl (ho1.alloc _) ⟨w1.heap.size, 0, none⟩ 4 4 (bytesV [o, p, v, (t.size : Nat)]) rfl rfl ?c1 (bytesV_one _) ?c3 ?c4 ?c5 ?_))
  case c1 => intro j u hj; exact new_cells w1 (bytesV [o, p, v, (t.size : Nat)]) _ j u hj
  case c3 => unfold maxLen; omega
  case c4 => omega
  case c5 => simp; omega
  intro u2 w2 ho2 hg2 _
  have hb2 : Below (w.heap.size + 1) w1 w2 := ((Below.refl _ _).alloc (by omega) _).grown hg2 (by simp; omega) (fun q hq => (ho1.lt q hq).1)
  have r5 : w2.cell? ⟨w.heap.size, 5, none⟩ = some (.string t) := (hb2.cell (p := ⟨w.heap.size, 5, none⟩) (by show w.heap.size < _; omega)).trans q5
  have hs2 := hb2.size
  have HB2 : Hid (Below w.heap.size w w2) := HB1.out.trans (hb2.mono (by omega))
  clear hg2 ho1 q2 q3 q4 q5 hb2
  go_wp2_with (first | (refine Lib.wpList_append_own_string _ rfl _ _ 85 9 rfl (w.heap.size + 1) 5 i0 Tryz.underlying85 Tryz.underlying9 hi hz0 hz1 hz2 _ _ _ rfl ho2 t rfl (by unfold maxLen; omega) (by omega) (by omega) ?_))
  intro u3 w3 ho3 hg3 _
  have hb3 : Below (w.heap.size + 1) w2 w3 := (Below.refl _ _).grown hg3 (by omega) (fun q hq => (ho2.lt q hq).1)
  have hown : w3.ownsRow (w.heap.size + 1) 5 1 u3 (2 + 4 + 4 + t.size) (bytesV (rqBytes c n o p v t)) := by
    have e : bytesV (rqBytes c n o p v t) = bytesV [82, c] ++ fourI n ++ bytesV [o, p, v, (t.size : Nat)] ++ Lib.strCells t := by rw [strCells_nums']; simp [rqBytes, fourI, bytesV]
    rw [e]; simpa using ho3
  have hcv := convert_own' hown
  have HB3 : Hid (Below w.heap.size w w3) := HB2.out.trans (hb3.mono (by omega))
  clear ho3 hg3 hown ho2 hb3 hs1 hs2 r5
  go_wp2
  go_ret
  exact ⟨rfl, HB3.out⟩
end Go.Proofs.YteglimjonofdeaaGreatDoor
