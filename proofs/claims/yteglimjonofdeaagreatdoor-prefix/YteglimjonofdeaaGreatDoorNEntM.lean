import Derived.Test.YteglimjonofdeaaGreatDoorWSumAM
import Derived.Test.YteglimjonofdeaaGreatDoorWEvent
import Derived.Lib.AppendStr
import Derived.Shelf.Pu.Clone
set_option linter.unusedVariables false
set_option linter.unusedSimpArgs false
namespace Go.Proofs.YteglimjonofdeaaGreatDoor
open Go.RowKit

/-- A request's cells. -/
def rqCells (c n o p v : Int) (t : ByteArray) : List Value := [.int .i64 c, .int .i64 n, .int .i64 o, .int .i64 p, .int .i64 v, .string t]
/-- A request is whole. -/
def rqWhole (c n o p v : Int) (t : ByteArray) : Bool := wholeB c n o p v 0 && decide (t.size ≤ 8)
theorem ev_built (c n o p v : Int) : Tryz.prog.built 144 [(0, .int .i64 c), (1, .int .i64 n), (2, .int .i64 o), (3, .int .i64 p), (4, .int .i64 v)] = some (evCells c n o p v 0 z32).toArray := by kernel_rfl
theorem wpList_build_tm {ops : Array Oper} {rest : List Oper} {op : Oper} {a : Act} {w : World} {Q : Exit → Act → World → Prop} (hgd : op.guard = none) (t : TypeId) (parts : Array (Nat × Operand)) (ho : op.op = .build t parts) (cells : Array Value)
    (hf : Tryz.prog.built t (parts.map fun (i, x) => (i, a.eval x)).toList = some cells) (h : wpList Tryz.prog ops Q rest (a.put op.dst (.agg cells)) w) : wpList Tryz.prog ops Q (op :: rest) a w :=
  wpList_plain hgd fun _ hK => wp_build_to t parts ho cells hf (hK _ _ h)
theorem alloc_ev (w : World) : (Instr.alloc 144 true (.tuple #[])).run Tryz.prog w = .ok (.pointer (some ⟨w.heap.size, 0, none⟩)) (w.alloc (.cells (evCells 0 0 0 0 0 0 z32).toArray 144)) := by kernel_rfl
theorem info_ev (c n o p v k : Int) : (Tryz.prog.info? 144).map (·.size) = some (evCells c n o p v k z32).length := by show _ = some 38; kernel_rfl

set_option maxRecDepth 10000 in
set_option maxHeartbeats 1000000 in
theorem ewhole_any (c n o p v : Int) (t : ByteArray) (w : World) (ht : t.size < 1000000) :
    Calls Tryz.prog 57 #[.agg (rqCells c n o p v t).toArray] w fun e w' => e = .returned (.bool (rqWhole c n o p v t)) ∧ Below w.heap.size w w' := by
  have hbu := ev_built c n o p v
  have hio := info_ev c n o p v 0
  have h1c : ∀ u ∈ evCells c n o p v 0 z32, u.oneCell' = true := by
    intro u hu
    simp only [evCells, List.mem_cons] at hu
    rcases hu with rfl | rfl | rfl | rfl | rfl | rfl | hu
    all_goals first | rfl | exact bytesV_one _ u hu
  obtain ⟨W, hW⟩ : ∃ W, W = w.alloc (.cells (rqCells c n o p v t).toArray 29) := ⟨_, rfl⟩
  have hWs : W.heap.size = w.heap.size + 1 := by rw [hW]; simp
  have bW : Below w.heap.size w W := by rw [hW]; exact (Below.refl _ _).alloc (Nat.le_refl _) _
  have rW : W.rangeAt w.heap.size 0 (rqCells c n o p v t) := by rw [hW]; exact range_new _ _ _
  have c0 : W.cell? ⟨w.heap.size, 0, none⟩ = some (.int .i64 c) := rW 0 _ rfl
  have c1 : W.cell? ⟨w.heap.size, 1, none⟩ = some (.int .i64 n) := rW 1 _ rfl
  have c2 : W.cell? ⟨w.heap.size, 2, none⟩ = some (.int .i64 o) := rW 2 _ rfl
  have c3 : W.cell? ⟨w.heap.size, 3, none⟩ = some (.int .i64 p) := rW 3 _ rfl
  have c4 : W.cell? ⟨w.heap.size, 4, none⟩ = some (.int .i64 v) := rW 4 _ rfl
  obtain ⟨V, hV⟩ : ∃ V, V = W.alloc (.cells (evCells 0 0 0 0 0 0 z32).toArray 144) := ⟨_, rfl⟩
  have bV : Below W.heap.size W V := by rw [hV]; exact (Below.refl _ _).alloc (Nat.le_refl _) _
  have tV : V.there W.heap.size 0 (evCells c n o p v 0 z32).length := by rw [hV]; exact there_new W (evCells 0 0 0 0 0 0 z32).toArray _
  have hVs : V.heap.size = W.heap.size + 1 := by rw [hV]; simp
  have HB : Hid (Below w.heap.size w V) := bW.trans (bV.mono (by omega))
  have HR : Hid (V.rangeAt w.heap.size 0 (rqCells c n o p v t)) := fun i x hx => (bV.cell (p := ⟨w.heap.size, 0 + i, none⟩) (by show w.heap.size < _; omega)).trans (rW i x hx)
  clear bV bW rW
  go_enter Tryz.func57, Tryz.ntmps57
  unfold rqCells at hW
  unfold rqCells
  go_wp2_with (first
    | (rw [← hW]; clear hW)
    | (refine wpList_build_tm rfl 144 _ rfl _ (Eq.trans (congrArg (Tryz.prog.built _) (by simp [Act.eval])) hbu) ?_)
    | (refine wpList_alloc_of rfl 144 rfl (evCells 0 0 0 0 0 0 z32).toArray alloc_ev ?_; rw [← hV]; clear hV)
    | (refine wpList_store_abs rfl 144 _ _ rfl W.heap.size 0 (evCells c n o p v 0 z32) rfl rfl tV hio h1c ?_
       intro w5 _hw5 hr5 _ht5 hb5
       have c5 : w5.cell? ⟨w.heap.size, 5, none⟩ = some (.string t) := ((hb5 W.heap.size (Nat.le_refl _)).cell (p := ⟨w.heap.size, 5, none⟩) (by show w.heap.size < _; omega)).trans (HR.out 5 _ rfl)
       have s5 := (hb5 W.heap.size (Nat.le_refl _)).size
       clear _hw5 _ht5)
    | (refine wpList_load_mid rfl 144 _ rfl W.heap.size 0 rfl (evCells c n o p v 0 z32) _ hr5 Tryz.underlying144 rfl hio ?_)
    | (go_at_call 94; refine (whole_any _ _ _ _ _ _ _ _).mono ?_; rintro e w6 ⟨rfl, hw6⟩
       have b6 : Below w5.heap.size w5 w6 := (by rw [hw6]; exact (Below.refl _ _).alloc (Nat.le_refl _) _)
       have c6 : w6.cell? ⟨w.heap.size, 5, none⟩ = some (.string t) := (b6.cell (p := ⟨w.heap.size, 5, none⟩) (by show w.heap.size < _; omega)).trans c5
       clear hw6))
  all_goals go_ret
  all_goals have hB : Below w.heap.size w w6 := (HB.out.trans (hb5 w.heap.size (by omega))).trans (b6.mono (by omega))
  all_goals refine ⟨ret_bool ?_, hB⟩
  all_goals unfold rqWhole
  all_goals (rw [Bool.eq_iff_iff]; simp_all; try omega)
end Go.Proofs.YteglimjonofdeaaGreatDoor
set_option linter.unusedVariables false
set_option linter.unusedSimpArgs false
namespace Go.Proofs.YteglimjonofdeaaGreatDoor
open Go.RowKit

/-- The bytes of a request. -/
def rqBytes (c n o p v : Int) (t : ByteArray) : List Int := [82, c] ++ fourN n ++ [o, p, v, (t.size : Nat)] ++ numsOf t
theorem make18 (w : World) : (Instr.makeSlice 85 (.int .i64 0) (.int .i64 18)).run Tryz.prog w = .ok (.slice (some ⟨w.heap.size, 0, none⟩) 0 18) (w.alloc (.cells (Array.replicate 18 (.int .u8 0)) 5)) := by kernel_rfl
theorem rq_bounds {c n o p v : Int} {t : ByteArray} (hw : rqWhole c n o p v t = true) : (1 ≤ c ∧ c ≤ 9) ∧ (1 ≤ n ∧ n ≤ 2147483647) ∧ (1 ≤ o ∧ o ≤ 5) ∧ (1 ≤ p ∧ p ≤ 99) ∧ (0 ≤ v ∧ v ≤ 8) ∧ t.size ≤ 8 := by
  have := hw
  simp [rqWhole, wholeB, inB] at this
  omega
theorem own_three (w : World) (A : Obj) (c : Int) : (((w.alloc A).alloc (.cells (((Array.replicate 18 (Value.int .u8 0)).setIfInBounds 0 (.int .u8 82)).setIfInBounds 1 (.int .u8 c)) 5)).alloc (.cells #[.int .u8 82, .int .u8 c] 5)).ownsRow (w.heap.size + 1) 5 1
    (.slice (some ⟨w.heap.size + 1, 0, none⟩) 2 18) 2 (bytesV [82, c]) := by
  refine World.ownsRow.alloc ?_ _
  refine ⟨rfl, .inr ⟨w.heap.size + 1, 18, (((Array.replicate 18 (Value.int .u8 0)).setIfInBounds 0 (.int .u8 82)).setIfInBounds 1 (.int .u8 c)), rfl, by omega, ?_, by omega, by unfold maxLen; omega, by simp, rfl⟩⟩
  have := heap_alloc_new (w.alloc A) (.cells (((Array.replicate 18 (Value.int .u8 0)).setIfInBounds 0 (.int .u8 82)).setIfInBounds 1 (.int .u8 c)) 5)
  simpa using this

theorem strCells_nums' (s : ByteArray) : Lib.strCells s = bytesV (numsOf s) := by
  unfold Lib.strCells bytesV numsOf; rw [List.map_map]; rfl
theorem convert_own' {w : World} {base n : Nat} {v : Value} {ns : List Int} (hown : w.ownsRow base 5 1 v n (bytesV ns)) : (convert 85 9 v).run Tryz.prog w = .ok (.string (strOfNums ns)) w := by
  have hl := hown.1
  rcases hown.2 with ⟨rfl, rfl⟩ | ⟨g, cap, cur, rfl, hb, hg, _⟩
  · have : ns = [] := by simpa [bytesV] using hl
    subst this
    exact run_convert_bytes_nil w 85 5 Tryz.underlying85 Tryz.underlying5 0 0 9 Tryz.underlying9
  · refine run_convert_bytes_arg w 85 5 Tryz.underlying85 Tryz.underlying5 g 0 n cap ns (by simpa [bytesV] using hl) ?_ 9 Tryz.underlying9
    intro i hi
    have hi' : i < ns.length := by simp [bytesV] at hl; omega
    have := hown.cells (g := g) rfl i (.int .u8 (ns.getD i 0)) (by simp [bytesV, List.getD, List.getElem?_eq_getElem hi'])
    rwa [Addr.add_mid] at this

set_option maxRecDepth 10000 in
set_option maxHeartbeats 2000000 in
theorem eencode_any (c n o p v : Int) (t : ByteArray) (w : World) (hw : rqWhole c n o p v t = true) :
    Calls Tryz.prog 143 #[.agg (rqCells c n o p v t).toArray] w fun e w' => e = .returned (.string (strOfNums (rqBytes c n o p v t))) ∧ Below w.heap.size w w' := by
  obtain ⟨i0, hi, hz0, hz1, hz2⟩ := info_parts info5
  obtain ⟨⟨c1, c2⟩, ⟨n1, n2⟩, ⟨o1, o2⟩, ⟨p1, p2⟩, ⟨v1, v2⟩, ht⟩ := rq_bounds hw
  have hmk := make18
  unfold rqCells
  go_enter Tryz.func143, Tryz.ntmps143
  go_wp2_with fail
  refine (append_any (w.heap.size + 1) 2 (bytesV [82, c]) _ _ _ (own_three w _ c) (by omega) (by simp)).mono ?_
  rintro e w1 ⟨u1, rfl, ho1, hb1⟩
  have hc1 : ∀ i, w1.cell? ⟨w.heap.size, i, none⟩ = (rqCells c n o p v t)[i]? := fun i => by
    rw [hb1.cell (p := ⟨w.heap.size, i, none⟩) (by show w.heap.size < _; omega), World.cell?_alloc_past _ _ _ (by simp; omega), World.cell?_alloc_past _ _ _ (by simp), World.cell?_alloc_at _ _ _ _ rfl]
    simp [rqCells]
  have HB1 : Hid (Below w.heap.size w w1) := ((((Below.refl _ _).alloc (Nat.le_refl _) _).alloc (by simp) _).alloc (by simp; omega) _).trans (hb1.mono (by omega))
  have hs1 := hb1.size
  simp at hs1
  have q2 : w1.cell? ⟨w.heap.size, 2, none⟩ = some (.int .i64 o) := hc1 2
  have q3 : w1.cell? ⟨w.heap.size, 3, none⟩ = some (.int .i64 p) := hc1 3
  have q4 : w1.cell? ⟨w.heap.size, 4, none⟩ = some (.int .i64 v) := hc1 4
  have q5 : w1.cell? ⟨w.heap.size, 5, none⟩ = some (.string t) := hc1 5
  have m1 : (t.size : Int) ≤ 8 := by omega
  have m0 : (0 : Int) ≤ (t.size : Int) := by omega
  clear hmk hb1 hc1
  go_wp2_with (first | (at_builtin; refine wpList_append_own _ rfl (.tmp 16) (.tmp 30) 85 rfl (w.heap.size + 1) 5 i0 (.int .u8 0) 1 1 Tryz.underlying85 hi hz0 hz1 hz2 rfl (by decide) _ _ _ rfl (ho1.alloc _) ⟨w1.heap.size, 0, none⟩ 4 4 (bytesV [o, p, v, (t.size : Nat)]) rfl rfl ?c1 (bytesV_one _) ?c3 ?c4 ?c5 ?_))
  case c1 => intro j u hj; exact new_cells w1 (bytesV [o, p, v, (t.size : Nat)]) _ j u hj
  case c3 => unfold maxLen; omega
  case c4 => omega
  case c5 => simp; omega
  intro u2 w2 ho2 hg2 _
  have hb2 : Below (w.heap.size + 1) w1 w2 := ((Below.refl _ _).alloc (by omega) _).grown hg2 (by simp; omega) (fun q hq => (ho1.lt q hq).1)
  have r5 : w2.cell? ⟨w.heap.size, 5, none⟩ = some (.string t) := (hb2.cell (p := ⟨w.heap.size, 5, none⟩) (by show w.heap.size < _; omega)).trans q5
  have hs2 := hb2.size
  have HB2 : Hid (Below w.heap.size w w2) := HB1.out.trans (hb2.mono (by omega))
  clear hg2 ho1 q2 q3 q4 q5 hb2
  go_wp2_with (first | (refine Lib.wpList_append_own_string _ rfl _ _ 85 9 rfl (w.heap.size + 1) 5 i0 Tryz.underlying85 Tryz.underlying9 hi hz0 hz1 hz2 _ _ _ rfl ho2 t rfl (by unfold maxLen; omega) (by omega) (by omega) ?_))
  intro u3 w3 ho3 hg3 _
  have hb3 : Below (w.heap.size + 1) w2 w3 := (Below.refl _ _).grown hg3 (by omega) (fun q hq => (ho2.lt q hq).1)
  have hown : w3.ownsRow (w.heap.size + 1) 5 1 u3 (2 + 4 + 4 + t.size) (bytesV (rqBytes c n o p v t)) := by
    have e : bytesV (rqBytes c n o p v t) = bytesV [82, c] ++ fourI n ++ bytesV [o, p, v, (t.size : Nat)] ++ Lib.strCells t := by rw [strCells_nums']; simp [rqBytes, fourI, bytesV]
    rw [e]; simpa using ho3
  have hcv := convert_own' hown
  have HB3 : Hid (Below w.heap.size w w3) := HB2.out.trans (hb3.mono (by omega))
  clear ho3 hg3 hown ho2 hb3 hs1 hs2 r5
  go_wp2
  go_ret
  exact ⟨rfl, HB3.out⟩
end Go.Proofs.YteglimjonofdeaaGreatDoor
set_option linter.unusedVariables false
set_option linter.unusedSimpArgs false
namespace Go.Proofs.YteglimjonofdeaaGreatDoor
open Go.RowKit

set_option maxRecDepth 10000 in
set_option maxHeartbeats 1000000 in
theorem numbered_any (m n : Int) (w : World) (hm : 0 ≤ m ∧ m < 256) (hn : 0 ≤ n ∧ n ≤ 2147483647) :
    Calls Tryz.prog 230 #[.int .u8 m, .int .i64 n] w fun e w' => e = .returned (.string (strOfNums (m :: fourN n))) ∧ Below w.heap.size w w' := by
  obtain ⟨n1, n2⟩ := hn
  obtain ⟨m1, m2⟩ := hm
  have ho : (w.alloc (.cells #[.int .u8 m] 5)).ownsRow w.heap.size 5 1 (.slice (some ⟨w.heap.size, 0, none⟩) 1 1) 1 (bytesV [m]) :=
    ⟨rfl, .inr ⟨w.heap.size, 1, #[.int .u8 m], rfl, Nat.le_refl _, heap_alloc_new w _, by omega, by unfold maxLen; omega, rfl, rfl⟩⟩
  have hb : Below w.heap.size w (w.alloc (.cells #[.int .u8 m] 5)) := (Below.refl _ _).alloc (Nat.le_refl _) _
  go_enter Tryz.func230, Tryz.ntmps230
  go_wp2_with fail
  refine (append_any w.heap.size 1 (bytesV [m]) _ _ _ ho (by omega) (by simp)).mono ?_
  rintro e w1 ⟨u1, rfl, ho1, hb1⟩
  have HR : Hid (Below w.heap.size w w1) := hb.trans hb1
  have hcv := convert_own' (ns := m :: fourN n) (n := 5) (w := w1) (base := w.heap.size) (v := u1) (by
    have e : bytesV (m :: fourN n) = bytesV [m] ++ fourI n := by simp [fourI, bytesV]
    rw [e]; exact ho1)
  clear ho hb ho1 hb1
  go_wp2_with fail
  go_ret
  exact ⟨rfl, HR.out⟩

/-- An entry's cells. -/
def enCells (c n o p v : Int) (t : ByteArray) (k vv : Int) (tt : ByteArray) : List Value := rqCells c n o p v t ++ [.int .i64 k, .int .i64 vv, .string tt]
/-- The bytes of an answer. -/
def anBytes (n k vv : Int) (tt : ByteArray) : List Int := 65 :: fourN n ++ [k, vv, (tt.size : Nat)] ++ numsOf tt
/-- The cells of an answer packet. -/
def paCells (n k vv : Int) (tt : ByteArray) : List Value := [.int .i64 n, .int .i64 k, .int .i64 vv, .string tt]
theorem alloc_pk (w : World) : (Instr.alloc 44 true (.tuple #[])).run Tryz.prog w = .ok (.pointer (some ⟨w.heap.size, 0, none⟩)) (w.alloc (.cells #[.int .i64 0, .string ⟨#[]⟩] 44)) := by kernel_rfl
theorem strN_app' (a b : List Int) : strOfNums (a ++ b) = strOfNums a ++ strOfNums b := by
  apply ByteArray.ext
  simp [strOfNums, ByteArray.data_append]
theorem anBytes_eq (n k vv : Int) (tt : ByteArray) : strOfNums (65 :: fourN n) ++ strOfNums [k, vv, (tt.size : Nat)] ++ tt = strOfNums (anBytes n k vv tt) := by
  unfold anBytes
  rw [strN_app', strN_app', str_nums]

set_option maxRecDepth 10000 in
set_option maxHeartbeats 2000000 in
theorem abytes_any (n k vv : Int) (tt : ByteArray) (w : World) (hn : 0 ≤ n ∧ n ≤ 2147483647) (hk : 0 ≤ k ∧ k < 256) (hv : 0 ≤ vv ∧ vv < 256) (ht : tt.size ≤ 8) :
    Calls Tryz.prog 233 #[.agg (paCells n k vv tt).toArray] w fun e w' => e = .returned (.string (strOfNums (anBytes n k vv tt))) ∧ Below w.heap.size w w' := by
  obtain ⟨k1, k2⟩ := hk
  obtain ⟨v1, v2⟩ := hv
  obtain ⟨V, hV⟩ : ∃ V, V = w.alloc (.cells (paCells n k vv tt).toArray 236) := ⟨_, rfl⟩
  have hVs : V.heap.size = w.heap.size + 1 := by rw [hV]; simp
  have bV : Below w.heap.size w V := by rw [hV]; exact (Below.refl _ _).alloc (Nat.le_refl _) _
  have rV : V.rangeAt w.heap.size 0 (paCells n k vv tt) := by rw [hV]; exact range_new _ _ _
  have c1 : V.cell? ⟨w.heap.size, 1, none⟩ = some (.int .i64 k) := rV 1 _ rfl
  have c2 : V.cell? ⟨w.heap.size, 2, none⟩ = some (.int .i64 vv) := rV 2 _ rfl
  have c3 : V.cell? ⟨w.heap.size, 3, none⟩ = some (.string tt) := rV 3 _ rfl
  obtain ⟨W2, hW⟩ : ∃ W, W = V.alloc (.cells #[.int .u8 k, .int .u8 vv, .int .u8 (tt.size : Nat)] 5) := ⟨_, rfl⟩
  have hWs : W2.heap.size = w.heap.size + 2 := by rw [hW]; simp; omega
  have bW : Below V.heap.size V W2 := by rw [hW]; exact (Below.refl _ _).alloc (Nat.le_refl _) _
  have qr : W2.rangeAt (w.heap.size + 1) 0 (bytesV [k, vv, (tt.size : Nat)]) := by
    have := range_new V (bytesV [k, vv, (tt.size : Nat)]) 5
    rw [hVs] at this
    rw [hW]; exact this
  have q0 : W2.cell? ⟨w.heap.size, 0, none⟩ = some (.int .i64 n) := (bW.cell (p := ⟨w.heap.size, 0, none⟩) (by show w.heap.size < _; omega)).trans (rV 0 _ rfl)
  have q3 : W2.cell? ⟨w.heap.size, 3, none⟩ = some (.string tt) := (bW.cell (p := ⟨w.heap.size, 3, none⟩) (by show w.heap.size < _; omega)).trans c3
  have HB0 : Hid (Below w.heap.size w W2) := bV.trans (bW.mono (by omega))
  have m1 : (tt.size : Int) ≤ 8 := by omega
  have m0 : (0 : Int) ≤ (tt.size : Int) := by omega
  have HQ0 : Hid (W2.cell? ⟨w.heap.size, 0, none⟩ = some (.int .i64 n)) := q0
  have HQ3 : Hid (W2.cell? ⟨w.heap.size, 3, none⟩ = some (.string tt)) := q3
  have z1 : ¬ (9223372036854775807 < (strOfNums (65 :: fourN n)).size + (strOfNums [k, vv, (tt.size : Nat)]).size) := by rw [strOfNums_size, strOfNums_size]; simp [fourN]
  have z2 : ¬ (9223372036854775807 < (strOfNums (65 :: fourN n)).size + (strOfNums [k, vv, (tt.size : Nat)]).size + tt.size) := by rw [strOfNums_size, strOfNums_size]; simp [fourN]; omega
  have HQ : Hid (W2.rangeAt (w.heap.size + 1) 0 (bytesV [k, vv, (tt.size : Nat)])) := qr
  have hsum := anBytes_eq n k vv tt
  have J0 : Below (w.heap.size + 2) W2 W2.drew := (Below.refl _ _).drew
  clear bV bW rV qr q0 q3
  go_enter Tryz.func233, Tryz.ntmps233
  unfold paCells at hV
  unfold paCells
  go_wp2_with (first | (rw [← hV]; clear hV) | (rw [← hW]; clear hW))
  refine wp_region_noPanic ?_
  refine wp_region_held_drew (S := Below (w.heap.size + 2) W2) (by kernel_rfl) J0 (fun _ => ?_)
  refine wpAnyH_take (i := 0) (v := ?_) rfl (by kernel_rfl) (by kernel_rfl) (by kernel_rfl) (fun _ _ _ h => h) (Or.inl ⟨by rfl, ?_⟩) J0 ?_
  rotate_left 1
  · intro W hSW; clear hSW; go_simp; try with_reducible rfl
  simp only [qA, qB, qC, Act.put, qD, qE, qF]
  refine wpAnyH_take (i := 1) (v := ?_) rfl (by kernel_rfl) (by kernel_rfl) (by kernel_rfl) (fun _ _ _ h => h) (Or.inl ⟨by rfl, ?_⟩) J0 ?_
  rotate_left 1
  · intro W hSW; have qc : W.cell? ⟨w.heap.size, 0, none⟩ = some (.int .i64 n) := (Below.cell (p := ⟨w.heap.size, 0, none⟩) hSW (by show w.heap.size < _; omega)).trans HQ0.out; clear hSW; go_simp; try with_reducible rfl
  simp only [qA, qB, qC, Act.put, qD, qE, qF]
  refine wpAnyH_take (i := 3) (v := ?_) rfl (by kernel_rfl) (by kernel_rfl) (by kernel_rfl) (fun _ _ _ h => h) (Or.inl ⟨by rfl, ?_⟩) J0 ?_
  rotate_left 1
  · intro W hSW; clear hSW; go_simp; try with_reducible rfl
  simp only [qA, qB, qC, Act.put, qD, qE, qF]
  refine wpAnyH_take (i := 4) (v := ?_) rfl (by kernel_rfl) (by kernel_rfl) (by kernel_rfl) (fun _ _ _ h => h) (Or.inl ⟨by rfl, ?_⟩) J0 ?_
  rotate_left 1
  · intro W hSW; have hcv : (convert 85 9 (.slice (some ⟨w.heap.size + 1, 0, none⟩) 3 3)).run Tryz.prog W = .ok (.string (strOfNums [k, vv, (tt.size : Nat)])) W := convert_range (cap := 3) 3 rfl (fun i x hx => (Below.cell (p := ⟨w.heap.size + 1, 0 + i, none⟩) hSW (by show w.heap.size + 1 < _; omega)).trans (HQ.out i x hx)); clear hSW; go_simp; try with_reducible rfl
  simp only [qA, qB, qC, Act.put, qD, qE, qF]
  refine wpAnyH_take (i := 6) (v := ?_) rfl (by kernel_rfl) (by kernel_rfl) (by kernel_rfl) (fun _ _ _ h => h) (Or.inl ⟨by rfl, ?_⟩) J0 ?_
  rotate_left 1
  · intro W hSW; clear hSW; go_simp; try with_reducible rfl
  simp only [qA, qB, qC, Act.put, qD, qE, qF]
  refine wpAnyH_take (i := 7) (v := ?_) rfl (by kernel_rfl) (by kernel_rfl) (by kernel_rfl) (fun _ _ _ h => h) (Or.inl ⟨by rfl, ?_⟩) J0 ?_
  rotate_left 1
  · intro W hSW; clear hSW; go_simp; try with_reducible rfl
  simp only [qA, qB, qC, Act.put, qD, qE, qF]
  refine wpAnyH_take (i := 8) (v := ?_) rfl (by kernel_rfl) (by kernel_rfl) (by kernel_rfl) (fun _ _ _ h => h) (Or.inl ⟨by rfl, ?_⟩) J0 ?_
  rotate_left 1
  · intro W hSW; have qc : W.cell? ⟨w.heap.size, 3, none⟩ = some (.string tt) := (Below.cell (p := ⟨w.heap.size, 3, none⟩) hSW (by show w.heap.size < _; omega)).trans HQ3.out; clear hSW; go_simp; try with_reducible rfl
  simp only [qA, qB, qC, Act.put, qD, qE, qF]
  refine wpAnyH_ready (rs := [2]) (by kernel_rfl) (by simp) ?_
  refine AllReadyH.cons rfl (fun K' hK' => ?_) AllReadyH.nil
  rw [if_pos (by rfl)]
  go_simp
  refine (numbered_any 65 n W2.drew (by omega) hn).mono ?_
  rintro e w3 ⟨rfl, hb3⟩
  have J3 : Below (w.heap.size + 2) W2 w3 := J0.trans (hb3.mono (by show _ ≤ W2.heap.size; omega))
  refine hK'.out _ _ J3 (fun _ => ?_)
  clear hK' K'
  try simp only [qA, qB, qC, Act.put, qD, qE, qF]
  clear hb3
  refine wpAnyH_take (i := 5) (v := ?_) rfl (by kernel_rfl) (by kernel_rfl) (by kernel_rfl) (fun _ _ _ h => h) (Or.inl ⟨by rfl, ?_⟩) J3 ?_
  rotate_left 1
  · intro W hSW; clear hSW; go_simp; try with_reducible rfl
  simp only [qA, qB, qC, Act.put, qD, qE, qF]
  refine wpAnyH_take (i := 9) (v := ?_) rfl (by kernel_rfl) (by kernel_rfl) (by kernel_rfl) (fun _ _ _ h => h) (Or.inl ⟨by rfl, ?_⟩) J3 ?_
  rotate_left 1
  · intro W hSW; clear hSW; go_simp; try with_reducible rfl
  simp only [qA, qB, qC, Act.put, qD, qE, qF]
  refine wpAnyH_take (i := 10) (v := ?_) rfl (by kernel_rfl) (by kernel_rfl) (by kernel_rfl) (fun _ _ _ h => h) (Or.inl ⟨by rfl, ?_⟩) J3 ?_
  rotate_left 1
  · intro W hSW; clear hSW; go_simp; try with_reducible rfl
  simp only [qA, qB, qC, Act.put, qD, qE, qF]
  refine ⟨by kernel_rfl, ?_⟩
  refine NoPanic.normal ?_
  try simp only [qA, qB, qC, Act.put, qD, qE, qF]
  go_wp2_with fail
  go_ret
  exact ⟨rfl, HB0.out.trans (J3.mono (by omega))⟩

theorem m_abytes (v : Value) (w : World) : (method 421 236 v "Bytes").run Tryz.prog w = .ok (233, v) w := by kernel_rfl
set_option maxRecDepth 10000 in
set_option maxHeartbeats 2000000 in
/-- An answer packet, ready for an address. -/
theorem pto_any (adr n k vv : Int) (tt : ByteArray) (w : World) (hn : 0 ≤ n ∧ n ≤ 2147483647) (hk : 0 ≤ k ∧ k < 256) (hv : 0 ≤ vv ∧ vv < 256) (ht : tt.size ≤ 8) :
    Calls Tryz.prog 105 #[.int .i64 adr, .iface 236 (.agg (paCells n k vv tt).toArray)] w fun e w' => e = .returned (.agg #[.int .i64 adr, .string (strOfNums (anBytes n k vv tt))]) ∧ Below w.heap.size w w' := by
  obtain ⟨W, hW⟩ : ∃ W, W = w.alloc (.cells #[.int .i64 0, .string ⟨#[]⟩] 44) := ⟨_, rfl⟩
  have hWs : W.heap.size = w.heap.size + 1 := by rw [hW]; simp
  have bW : Below w.heap.size w W := by rw [hW]; exact (Below.refl _ _).alloc (Nat.le_refl _) _
  have tW : W.there w.heap.size 0 2 := by rw [hW]; exact there_new w #[.int .i64 0, .string ⟨#[]⟩] _
  have hm := m_abytes (.agg (paCells n k vv tt).toArray)
  have hby := abytes_any n k vv tt W hn hk hv ht
  have HB : Hid (Below w.heap.size w W) := bW
  have HT : Hid (W.there w.heap.size 0 2) := tW
  clear bW tW
  generalize (paCells n k vv tt).toArray = cs at *
  go_enter Tryz.func105, Tryz.ntmps105
  go_wp2_with (rw [← hW]; clear hW)
  refine hby.mono ?_
  rintro e w1 ⟨rfl, hb1⟩
  have hs1 := hb1.size
  have t1 : w1.there w.heap.size 0 2 := there_below hb1 (by omega) HT.out
  have HB1 : Hid (Below w.heap.size w w1) := HB.out.trans (hb1.mono (by omega))
  clear hby hb1
  obtain ⟨L, hL⟩ : ∃ L : List Value, L = [.int .i64 adr, .string (strOfNums (anBytes n k vv tt))] := ⟨_, rfl⟩
  have HI : Hid ((Tryz.prog.info? 44).map (·.size) = some L.length) := by show _ = _; rw [hL]; show _ = some 2; kernel_rfl
  have HO : Hid (∀ u ∈ L, u.oneCell' = true) := by show ∀ _, _; rw [hL]; intro u hu; simp at hu; rcases hu with rfl | rfl <;> rfl
  have HT3 : Hid (w1.there w.heap.size 0 L.length) := by show World.there _ _ _ _; rw [hL]; exact t1
  have HL : Hid (L = [.int .i64 adr, .string (strOfNums (anBytes n k vv tt))]) := hL
  clear hL t1
  go_wp2_with (first
    | (refine wpList_store_abs rfl 44 _ _ rfl w.heap.size 0 L rfl (by rw [HL.out]; rfl) HT3.out HI.out HO.out ?_
       intro w5 _hw5 hr5 _ht5 hb5
       clear _hw5 _ht5))
  exact ret_cell rfl w.heap.size 0 L _ rfl hr5 Tryz.underlying44 rfl HI.out rfl ⟨by rw [HL.out], HB1.out.trans (hb5 w.heap.size (Nat.le_refl _))⟩

set_option maxHeartbeats 400000 in
theorem pclient_any (c : Int) (w : World) (hc : 0 ≤ c ∧ c ≤ 9) :
    Calls Tryz.prog 140 #[.int .i64 c] w fun e w' => e = .returned (.int .i64 (10 + c)) ∧ w' = w := by
  obtain ⟨c1, c2⟩ := hc
  go_enter Tryz.func140, Tryz.ntmps140
  go_wp2_with fail
  go_ret
  exact ⟨rfl, rfl⟩
end Go.Proofs.YteglimjonofdeaaGreatDoor
set_option linter.unusedVariables false
set_option linter.unusedSimpArgs false
namespace Go.Proofs.YteglimjonofdeaaGreatDoor
open Go.RowKit Go.Shelf

/-- How the shelf's numbers are spelt here. -/
def cloneR : Ren := { f := fun _ => 118, t := fun k => if k = 0 then 0 else if k = 3 then 3 else if k = 4 then 4 else if k = 5 then 5 else if k = 9 then 9 else if k = 37 then 85 else if k = 47 then 243 else 0, g := fun x => x }
theorem clone_lays : LaysPu.n25 Tryz.prog cloneR := by
  constructor
  all_goals first | kernel_rfl | (intro w; kernel_rfl)

set_option maxHeartbeats 400000 in
theorem sclone_any (s : ByteArray) (w : World) (hs : s.size ≤ 100000) :
    Calls Tryz.prog 77 #[.string s] w fun e w' => e = .returned (.string s) ∧ Below w.heap.size w w' := by
  have hc : Calls Tryz.prog 118 #[.string s] w fun e w' => e = .returned (.string s) ∧ Below w.heap.size w w' := AnyPu.stringslite_Clone clone_lays s w (by omega)
  go_enter Tryz.func77, Tryz.ntmps77
  go_wp2_with fail
  refine hc.mono ?_
  rintro e w1 ⟨rfl, hb⟩
  clear hc
  go_wp2_with fail
  go_ret
  exact ⟨rfl, hb⟩
end Go.Proofs.YteglimjonofdeaaGreatDoor
set_option linter.unusedVariables false
set_option linter.unusedSimpArgs false
namespace Go.Proofs.YteglimjonofdeaaGreatDoor
open Go.RowKit

/-- An answer's cells. -/
def anCells (k v : Int) (t : ByteArray) : List Value := [.int .i64 k, .int .i64 v, .string t]
theorem alloc_an (w : World) : (Instr.alloc 166 true (.tuple #[])).run Tryz.prog w = .ok (.pointer (some ⟨w.heap.size, 0, none⟩)) (w.alloc (.cells (anCells 0 0 ⟨#[]⟩).toArray 166)) := by kernel_rfl
theorem info_an (k v : Int) (t : ByteArray) : (Tryz.prog.info? 166).map (·.size) = some (anCells k v t).length := by show _ = some 3; kernel_rfl
theorem an_one (k v : Int) (t : ByteArray) : ∀ u ∈ anCells k v t, u.oneCell' = true := by
  intro u hu; simp [anCells] at hu; rcases hu with rfl | rfl | rfl <;> rfl

set_option maxRecDepth 10000 in
set_option maxHeartbeats 1000000 in
theorem rtold_any (r : Nat) (k v : Int) (w : World) (hr : r < w.heap.size) (hv : w.cell? ⟨r, 0, none⟩ = some (.int .i64 v)) :
    Calls Tryz.prog 189 #[.pointer (some ⟨r, 0, none⟩), .int .i64 k] w fun e w' => e = .returned (.agg (anCells k v ⟨#[]⟩).toArray) ∧ Below w.heap.size w w' := by
  obtain ⟨V, hV⟩ : ∃ V, V = w.alloc (.cells (anCells 0 0 ⟨#[]⟩).toArray 166) := ⟨_, rfl⟩
  have hVs : V.heap.size = w.heap.size + 1 := by rw [hV]; simp
  have bV : Below w.heap.size w V := by rw [hV]; exact (Below.refl _ _).alloc (Nat.le_refl _) _
  have tV : V.there w.heap.size 0 (anCells k v ⟨#[]⟩).length := by rw [hV]; exact there_new w (anCells 0 0 ⟨#[]⟩).toArray _
  have vV : V.cell? ⟨r, 0, none⟩ = some (.int .i64 v) := (bV.cell (p := ⟨r, 0, none⟩) hr).trans hv
  have HI := info_an k v ⟨#[]⟩
  have HO := an_one k v ⟨#[]⟩
  have HB : Hid (Below w.heap.size w V) := bV
  clear bV
  go_enter Tryz.func189, Tryz.ntmps189
  go_wp2_with (first
    | (refine wpList_alloc_of rfl 166 rfl (anCells 0 0 ⟨#[]⟩).toArray alloc_an ?_; rw [← hV]; clear hV)
    | (refine wpList_store_abs rfl 166 _ _ rfl w.heap.size 0 (anCells k v ⟨#[]⟩) rfl rfl tV HI HO ?_
       intro w5 _hw5 hr5 _ht5 hb5
       clear _hw5 _ht5))
  exact ret_cell rfl w.heap.size 0 (anCells k v ⟨#[]⟩) _ rfl hr5 Tryz.underlying166 rfl HI rfl ⟨rfl, HB.out.trans (hb5 w.heap.size (Nat.le_refl _))⟩
end Go.Proofs.YteglimjonofdeaaGreatDoor
