import Derived.Test.YteglimjonofdeaaGreatDoorNRec6M
import Derived.Test.YteglimjonofdeaaGreatDoorNAdd
import Derived.Test.YteglimjonofdeaaGreatDoorWDecode
import Derived.Test.YteglimjonofdeaaGreatDoorConstsM
import Derived.Lib.BitFns
import Derived.Lib.Walk
import Derived.Lib.ItoaNum
import Derived.Test.YteglimjonofdeaaGreatDoorWTakeM
import Derived.Stop.BytesEq
set_option linter.unusedVariables false
set_option linter.unusedSimpArgs false
namespace Go.Proofs.YteglimjonofdeaaGreatDoor
open Go.RowKit

theorem list32v (xs : List Value) (h : xs.length = 32) : ∃ x0 x1 x2 x3 x4 x5 x6 x7 x8 x9 x10 x11 x12 x13 x14 x15 x16 x17 x18 x19 x20 x21 x22 x23 x24 x25 x26 x27 x28 x29 x30 x31, xs = [x0, x1, x2, x3, x4, x5, x6, x7, x8, x9, x10, x11, x12, x13, x14, x15, x16, x17, x18, x19, x20, x21, x22, x23, x24, x25, x26, x27, x28, x29, x30, x31] :=
  match xs, h with
  | [x0, x1, x2, x3, x4, x5, x6, x7, x8, x9, x10, x11, x12, x13, x14, x15, x16, x17, x18, x19, x20, x21, x22, x23, x24, x25, x26, x27, x28, x29, x30, x31], _ => ⟨x0, x1, x2, x3, x4, x5, x6, x7, x8, x9, x10, x11, x12, x13, x14, x15, x16, x17, x18, x19, x20, x21, x22, x23, x24, x25, x26, x27, x28, x29, x30, x31, rfl⟩
/-- What an entry's digest is of. -/
def dgS (e : En) : ByteArray := strOfNums [(e.t.size : Int)] ++ e.t ++ e.tt
def dgT (K : Nat → Int) (e : En) : ByteArray := sumOf K (dgS e)
theorem evT_built (c n o p v k : Int) (l : ByteArray) (hl : l.size = 32) : Tryz.prog.built 144 [(0, .int .i64 c), (1, .int .i64 n), (2, .int .i64 o), (3, .int .i64 p), (4, .int .i64 v), (5, .int .i64 k), (6, .agg (hV l).toArray)] = some (evCells c n o p v k (hV l)).toArray := by
  obtain ⟨x0, x1, x2, x3, x4, x5, x6, x7, x8, x9, x10, x11, x12, x13, x14, x15, x16, x17, x18, x19, x20, x21, x22, x23, x24, x25, x26, x27, x28, x29, x30, x31, e⟩ := list32v (hV l) (hV_len hl)
  unfold evCells
  rw [e]
  kernel_rfl
theorem evC_one (c n o p v k : Int) (l : ByteArray) : ∀ u ∈ evCells c n o p v k (hV l), u.oneCell' = true := by
  intro u hu
  unfold evCells at hu
  simp only [List.mem_cons] at hu
  rcases hu with rfl | rfl | rfl | rfl | rfl | rfl | hu
  all_goals first | rfl | exact hV_one l u hu

set_option maxRecDepth 10000 in
set_option maxHeartbeats 4000000 in
theorem eevent_any (K : Nat → Int) (en : En) (w : World) (ht : en.t.size ≤ 8) (htt : en.tt.size ≤ 8) (T : Tab K w) :
    Calls Tryz.prog 150 #[.agg en.cells.toArray] w fun e w' => e = .returned (.agg (evCells en.c en.n en.o en.p en.vv en.k (hV (dgT K en))).toArray) ∧ Below w.heap.size w w' := by
  obtain ⟨V, hV1⟩ : ∃ V, V = w.alloc (.cells en.cells.toArray 168) := ⟨_, rfl⟩
  have hVs : V.heap.size = w.heap.size + 1 := by rw [hV1]; simp
  have rV : V.rangeAt w.heap.size 0 en.cells := by rw [hV1]; exact range_new _ _ _
  obtain ⟨V2, hV2⟩ : ∃ X, X = V.alloc (.cells zEvL.toArray 144) := ⟨_, rfl⟩
  have hVs2 : V2.heap.size = w.heap.size + 2 := by rw [hV2]; simp; omega
  have r2 : V2.rangeAt w.heap.size 0 en.cells := by rw [hV2]; exact range_kept rV (Kept.alloc (fun _ => False) _ _) (by omega) id
  have t2 : V2.there (w.heap.size + 1) 0 38 := by
    have := there_zev V
    rw [hVs, zEv_len, ← hV2] at this; exact this
  have c5 : V2.cell? ⟨w.heap.size, 5, none⟩ = some (.string en.t) := r2 5 _ rfl
  obtain ⟨V3, hV3⟩ : ∃ X, X = V2.alloc (.cells #[.int .u8 (en.t.size : Nat)] 5) := ⟨_, rfl⟩
  have hVs3 : V3.heap.size = w.heap.size + 3 := by rw [hV3]; simp; omega
  have k3 : Kept (fun _ => False) V2 V3 := by rw [hV3]; exact Kept.alloc _ _ _
  have r3 : V3.rangeAt w.heap.size 0 en.cells := range_kept r2 k3 (by omega) id
  have t3 : V3.there (w.heap.size + 1) 0 38 := there_kept t2 k3 (by omega) id
  have q3 : V3.rangeAt (w.heap.size + 2) 0 (bytesV [(en.t.size : Int)]) := by
    have := range_new V2 (bytesV [(en.t.size : Int)]) 5
    rw [hVs2] at this
    rw [hV3]; exact this
  have hcv : (convert 85 9 (.slice (some ⟨w.heap.size + 2, 0, none⟩) 1 1)).run Tryz.prog V3 = .ok (.string (strOfNums [(en.t.size : Int)])) V3 := convert_range (cap := 1) 1 rfl q3
  obtain ⟨V4, hV4⟩ : ∃ X, X = (V3.alloc (.cells #[.string (strOfNums [(en.t.size : Int)]), .string en.t, .string en.tt] 9)).drew := ⟨_, rfl⟩
  have hVs4 : V4.heap.size = w.heap.size + 4 := by rw [hV4]; show (V3.alloc _).heap.size = _; simp; omega
  have b34 : Below V3.heap.size V3 V4 := by rw [hV4]; exact ((Below.refl _ _).alloc (Nat.le_refl _) _).drew
  have J0 : V3.drew.rangeAt w.heap.size 0 en.cells := r3
  have J4 : V4.rangeAt w.heap.size 0 en.cells := range_kept r3 (Kept.fresh (S := fun _ => False) b34) (by omega) id
  have HB3 : Hid (Below w.heap.size w V3) := by
    show Below _ _ _
    rw [hV3, hV2, hV1]; exact (((Below.refl _ _).alloc (Nat.le_refl _) _).alloc (by simp) _).alloc (by simp; omega) _
  have HB4 : Hid (Below w.heap.size w V4) := HB3.out.trans (b34.mono (by omega))
  have T4 : Hid (V4.there (w.heap.size + 1) 0 38) := there_kept t3 (Kept.fresh (S := fun _ => False) b34) (by omega) id
  have hof0 := of_any [strOfNums [(en.t.size : Int)], en.t, en.tt] (w.heap.size + 3) 3 K V4 (by omega) (by simp) (by simp [joinN, numsOf_length, strOfNums_size]; omega)
    (fun j hj => by
      have hj2 : j < 3 := hj
      rw [hV4]
      show (V3.alloc _).cell? _ = _
      rw [World.cell?_alloc_at _ _ _ _ (by show w.heap.size + 3 = _; omega)]
      obtain rfl | rfl | rfl : j = 0 ∨ j = 1 ∨ j = 2 := by omega
      all_goals rfl) (T.below HB4.out).lt (T.below HB4.out).cells
  have hof : Calls Tryz.prog 54 #[.slice (some ⟨w.heap.size + 3, 0, none⟩) 3 3] V4 fun e w' => e = .returned (.agg (hV (dgT K en)).toArray) ∧ Below V4.heap.size V4 w' := by
    rw [hV_sum K (joinN [strOfNums [(en.t.size : Int)], en.t, en.tt]) (dgS en) (by unfold dgS; simp [joinN, nums_app])] at hof0
    exact hof0
  have hev := evT_built en.c en.n en.o en.p en.vv en.k (dgT K en) (sumOf_size K _)
  obtain ⟨EVC, hEVC⟩ : ∃ X, X = evCells en.c en.n en.o en.p en.vv en.k (hV (dgT K en)) := ⟨_, rfl⟩
  have HEV : Hid (EVC = evCells en.c en.n en.o en.p en.vv en.k (hV (dgT K en))) := hEVC
  have HEL : Hid (EVC.length = 38) := by show _ = _; rw [hEVC]; simp [evCells, hV_len (sumOf_size K (dgS en)), dgT]
  have HEI : Hid ((Tryz.prog.info? 144).map (·.size) = some EVC.length) := by show _ = _; rw [HEL.out]; exact info25
  have HEO : Hid (∀ u ∈ EVC, u.oneCell' = true) := by show ∀ _, _; rw [hEVC]; exact evC_one _ _ _ _ _ _ _
  have m1 : (en.t.size : Int) ≤ 8 := by omega
  have m0 : (0 : Int) ≤ (en.t.size : Int) := by omega
  clear hof0 hEVC rV r2 r3 t2 t3 q3 k3 b34 T
  go_enter Tryz.func150, Tryz.ntmps150
  go_wp2_with (first
    | (rw [← hV1]; clear hV1)
    | (refine wpList_alloc_of rfl 144 rfl zEvL.toArray alloc_evZ ?_; rw [← hV2]; clear hV2)
    | (rw [← hV3]; clear hV3))
  refine wp_region_noPanic ?_
  refine wp_region_held_drew (S := fun W => W.rangeAt w.heap.size 0 en.cells) (by kernel_rfl) J0 (fun _ => ?_)
  refine tk 0 J0 ?_
  refine tk 1 J0 ?_
  refine tq (i := 2) (v := ?_) rfl J0 ?_ ?_
  rotate_left 1
  · intro W hSW; have q : W.cell? ⟨w.heap.size, 0, none⟩ = some (.int .i64 en.c) := hSW 0 _ rfl; clear hSW; go_simp; try with_reducible rfl
  simp only [qA, qB, qC, Act.put, qD, qE, qF]
  refine tk 3 J0 ?_
  refine tk 4 J0 ?_
  refine tq (i := 5) (v := ?_) rfl J0 ?_ ?_
  rotate_left 1
  · intro W hSW; have q : W.cell? ⟨w.heap.size, 1, none⟩ = some (.int .i64 en.n) := hSW 1 _ rfl; clear hSW; go_simp; try with_reducible rfl
  simp only [qA, qB, qC, Act.put, qD, qE, qF]
  refine tk 6 J0 ?_
  refine tk 7 J0 ?_
  refine tq (i := 8) (v := ?_) rfl J0 ?_ ?_
  rotate_left 1
  · intro W hSW; have q : W.cell? ⟨w.heap.size, 2, none⟩ = some (.int .i64 en.o) := hSW 2 _ rfl; clear hSW; go_simp; try with_reducible rfl
  simp only [qA, qB, qC, Act.put, qD, qE, qF]
  refine tk 9 J0 ?_
  refine tk 10 J0 ?_
  refine tq (i := 11) (v := ?_) rfl J0 ?_ ?_
  rotate_left 1
  · intro W hSW; have q : W.cell? ⟨w.heap.size, 3, none⟩ = some (.int .i64 en.p) := hSW 3 _ rfl; clear hSW; go_simp; try with_reducible rfl
  simp only [qA, qB, qC, Act.put, qD, qE, qF]
  refine tk 12 J0 ?_
  refine tk 13 J0 ?_
  refine tq (i := 14) (v := ?_) rfl J0 ?_ ?_
  rotate_left 1
  · intro W hSW; have q : W.cell? ⟨w.heap.size, 7, none⟩ = some (.int .i64 en.vv) := hSW 7 _ rfl; clear hSW; go_simp; try with_reducible rfl
  simp only [qA, qB, qC, Act.put, qD, qE, qF]
  refine tk 15 J0 ?_
  refine tk 16 J0 ?_
  refine tq (i := 17) (v := ?_) rfl J0 ?_ ?_
  rotate_left 1
  · intro W hSW; have q : W.cell? ⟨w.heap.size, 6, none⟩ = some (.int .i64 en.k) := hSW 6 _ rfl; clear hSW; go_simp; try with_reducible rfl
  simp only [qA, qB, qC, Act.put, qD, qE, qF]
  refine tk 18 J0 ?_
  refine tk 19 J0 ?_
  refine tk 20 J0 ?_
  refine tq (i := 21) (v := ?_) rfl J0 ?_ ?_
  rotate_left 1
  · intro W hSW; have q : W.cell? ⟨w.heap.size, 5, none⟩ = some (.string en.t) := hSW 5 _ rfl; clear hSW; go_simp; try with_reducible rfl
  simp only [qA, qB, qC, Act.put, qD, qE, qF]
  refine tk 22 J0 ?_
  refine tk 23 J0 ?_
  refine tq (i := 24) (v := ?_) rfl J0 ?_ ?_
  rotate_left 1
  · intro W hSW; have q : W.cell? ⟨w.heap.size, 8, none⟩ = some (.string en.tt) := hSW 8 _ rfl; clear hSW; go_simp; try with_reducible rfl
  simp only [qA, qB, qC, Act.put, qD, qE, qF]
  refine rk 25 (fun K' hK' => ?_)
  go_simp
  rw [← hV4]; clear hV4
  refine hK'.out _ _ J4 (fun _ => ?_)
  clear hK' K'
  try simp only [qA, qB, qC, Act.put, qD, qE, qF]
  refine rk 26 (fun K' hK' => ?_)
  go_simp
  refine hof.mono ?_
  rintro e W5 ⟨rfl, b5⟩
  have J5 : W5.rangeAt w.heap.size 0 en.cells := fun i x hx => (b5.cell (p := ⟨w.heap.size, 0 + i, none⟩) (by show w.heap.size < _; omega)).trans (J4 i x hx)
  have t5 : W5.there (w.heap.size + 1) 0 38 := there_below b5 (by omega) T4.out
  have s5 := b5.size
  have HB5 : Hid (Below w.heap.size w W5) := HB4.out.trans (b5.mono (by omega))
  clear hof b5
  refine hK'.out _ _ J5 (fun _ => ?_)
  clear hK' K'
  try simp only [qA, qB, qC, Act.put, qD, qE, qF]
  refine wpAnyH_take (i := 27) (v := .agg (evCells en.c en.n en.o en.p en.vv en.k (hV (dgT K en))).toArray) rfl (by kernel_rfl) (by kernel_rfl) (by kernel_rfl) (fun _ _ _ h => h) (yieldsIf_build (by rfl) 144 _ rfl (evCells en.c en.n en.o en.p en.vv en.k (hV (dgT K en))).toArray (Eq.trans (congrArg (Tryz.prog.built _) (by simp [Act.eval])) hev)) J5 ?_
  simp only [qA, qB, qC, Act.put, qD, qE, qF]
  refine rk 28 (fun K' hK' => ?_)
  refine wp_store_abs 144 _ _ rfl (w.heap.size + 1) 0 EVC rfl (by rw [HEV.out]; rfl) (by rw [HEL.out]; exact t5) HEI.out HEO.out ?_
  intro W6 hw6 hr6 ht6 hb6
  have s6 : W6.heap.size = W5.heap.size := by rw [hw6, size_setCells]
  have J6 : W6.rangeAt w.heap.size 0 en.cells := by rw [hw6]; exact World.rangeAt_setCells_apart J5 _ _ _ (Or.inl (by omega))
  have HB6 : Hid (Below w.heap.size w W6) := HB5.out.trans (hb6 w.heap.size (by omega))
  clear hw6 ht6 hb6
  refine hK'.out _ _ J6 (fun _ => ?_)
  clear hK' K'
  try simp only [qA, qB, qC, Act.put, qD, qE, qF]
  refine ⟨by kernel_rfl, ?_⟩
  refine NoPanic.normal ?_
  try simp only [qA, qB, qC, Act.put, qD, qE, qF]
  go_wp2_with fail
  exact ret_cell rfl (w.heap.size + 1) 0 EVC _ rfl hr6 Tryz.underlying144 rfl HEI.out rfl ⟨by rw [HEV.out], HB6.out⟩
end Go.Proofs.YteglimjonofdeaaGreatDoor
namespace Go.Proofs.YteglimjonofdeaaGreatDoor

/-- The greatest power of 2 below n. -/
def halfN (n : Nat) : Nat := 2 ^ Nat.log2 (n - 1)
theorem halfN_lt {n : Nat} (h : 2 ≤ n) : halfN n < n := by
  have h1 : n - 1 ≠ 0 := by omega
  have := Nat.log2_self_le h1
  unfold halfN; omega
theorem halfN_pos (n : Nat) : 0 < halfN n := Nat.pow_pos (by omega)
theorem halfN_two {n : Nat} (h : 2 ≤ n) : n ≤ 2 * halfN n := by
  have h2 : n - 1 < 2 ^ (Nat.log2 (n - 1) + 1) := Nat.lt_log2_self
  rw [Nat.pow_succ] at h2
  unfold halfN; omega

def m0 : ByteArray := ⟨#[0]⟩
def m1 : ByteArray := ⟨#[1]⟩

def rootF (H : ByteArray → ByteArray) : List ByteArray → ByteArray
  | [] => H ⟨#[]⟩
  | [x] => H (m0 ++ x)
  | a :: b :: r => H (m1 ++ rootF H ((a :: b :: r).take (halfN (r.length + 2))) ++ rootF H ((a :: b :: r).drop (halfN (r.length + 2))))
  termination_by l => l.length
  decreasing_by
    · have := halfN_lt (n := r.length + 2) (by omega); simp; omega
    · have := halfN_pos (r.length + 2); simp; omega
theorem rootF_more (H : ByteArray → ByteArray) {l : List ByteArray} (h : 2 ≤ l.length) : rootF H l = H (m1 ++ rootF H (l.take (halfN l.length)) ++ rootF H (l.drop (halfN l.length))) := by
  match l, h with
  | a :: b :: r, _ => rw [rootF]; rfl
theorem rootF_size (H : ByteArray → ByteArray) (hH : ∀ s, (H s).size = 32) (l : List ByteArray) : (rootF H l).size = 32 := by
  match l with
  | [] => rw [rootF]; exact hH _
  | [x] => rw [rootF]; exact hH _
  | a :: b :: r => rw [rootF]; exact hH _

def inclF (H : ByteArray → ByteArray) (l : List ByteArray) (i : Nat) : List ByteArray :=
  if h : l.length < 2 then [] else
    if i < halfN l.length then inclF H (l.take (halfN l.length)) i ++ [rootF H (l.drop (halfN l.length))]
    else inclF H (l.drop (halfN l.length)) (i - halfN l.length) ++ [rootF H (l.take (halfN l.length))]
  termination_by l.length
  decreasing_by
    · have := halfN_lt (n := l.length) (by omega); simp; omega
    · have := halfN_pos l.length; simp; omega
theorem inclF_one (H : ByteArray → ByteArray) {l : List ByteArray} {i : Nat} (h : l.length < 2) : inclF H l i = [] := by rw [inclF, dif_pos h]
theorem inclF_left (H : ByteArray → ByteArray) {l : List ByteArray} {i : Nat} (h : 2 ≤ l.length) (hi : i < halfN l.length) : inclF H l i = inclF H (l.take (halfN l.length)) i ++ [rootF H (l.drop (halfN l.length))] := by
  rw [inclF, dif_neg (by omega), if_pos hi]
theorem inclF_right (H : ByteArray → ByteArray) {l : List ByteArray} {i : Nat} (h : 2 ≤ l.length) (hi : ¬ i < halfN l.length) : inclF H l i = inclF H (l.drop (halfN l.length)) (i - halfN l.length) ++ [rootF H (l.take (halfN l.length))] := by
  rw [inclF, dif_neg (by omega), if_neg hi]

/-- What a proof makes of a leaf, and if it has the hashes that it needs. -/
def climbF (H : ByteArray → ByteArray) (leaf : ByteArray) (i n : Nat) (pf : List ByteArray) : ByteArray × Bool :=
  if n = 1 then (H (m0 ++ leaf), pf.isEmpty) else
  match h : pf.getLast? with
  | none => (strOfNums (List.replicate 32 0), false)
  | some b => if b.size = 32 then
      (if i < halfN n then (H (m1 ++ (climbF H leaf i (halfN n) pf.dropLast).1 ++ b), (climbF H leaf i (halfN n) pf.dropLast).2)
       else (H (m1 ++ b ++ (climbF H leaf (i - halfN n) (n - halfN n) pf.dropLast).1), (climbF H leaf (i - halfN n) (n - halfN n) pf.dropLast).2))
      else (strOfNums (List.replicate 32 0), false)
  termination_by pf.length
  decreasing_by all_goals (have : pf ≠ [] := by intro e; rw [e] at h; simp at h) <;> (have := List.length_pos_iff.2 this) <;> simp <;> omega
theorem climbF_one (H : ByteArray → ByteArray) (leaf : ByteArray) (i : Nat) (pf : List ByteArray) : climbF H leaf i 1 pf = (H (m0 ++ leaf), pf.isEmpty) := by rw [climbF, if_pos rfl]
theorem climbF_none (H : ByteArray → ByteArray) (leaf : ByteArray) (i n : Nat) (hn : n ≠ 1) : climbF H leaf i n [] = (strOfNums (List.replicate 32 0), false) := by rw [climbF, if_neg hn]; rfl
theorem climbF_bad (H : ByteArray → ByteArray) (leaf : ByteArray) (i n : Nat) (hn : n ≠ 1) (pf : List ByteArray) (b : ByteArray) (hb : b.size ≠ 32) : climbF H leaf i n (pf ++ [b]) = (strOfNums (List.replicate 32 0), false) := by
  rw [climbF, if_neg hn]
  split
  · rfl
  · rename_i b' h
    rw [List.getLast?_concat] at h
    obtain rfl := Option.some.inj h
    rw [if_neg hb]
theorem climbF_left (H : ByteArray → ByteArray) (leaf : ByteArray) (i n : Nat) (hn : n ≠ 1) (pf : List ByteArray) (b : ByteArray) (hb : b.size = 32) (hi : i < halfN n) :
    climbF H leaf i n (pf ++ [b]) = (H (m1 ++ (climbF H leaf i (halfN n) pf).1 ++ b), (climbF H leaf i (halfN n) pf).2) := by
  rw [climbF, if_neg hn]
  split
  · rename_i h; rw [List.getLast?_concat] at h; cases h
  · rename_i b' h
    rw [List.getLast?_concat] at h
    obtain rfl := Option.some.inj h
    rw [if_pos hb, if_pos hi, List.dropLast_concat]
theorem climbF_right (H : ByteArray → ByteArray) (leaf : ByteArray) (i n : Nat) (hn : n ≠ 1) (pf : List ByteArray) (b : ByteArray) (hb : b.size = 32) (hi : ¬ i < halfN n) :
    climbF H leaf i n (pf ++ [b]) = (H (m1 ++ b ++ (climbF H leaf (i - halfN n) (n - halfN n) pf).1), (climbF H leaf (i - halfN n) (n - halfN n) pf).2) := by
  rw [climbF, if_neg hn]
  split
  · rename_i h; rw [List.getLast?_concat] at h; cases h
  · rename_i b' h
    rw [List.getLast?_concat] at h
    obtain rfl := Option.some.inj h
    rw [if_pos hb, if_neg hi, List.dropLast_concat]
theorem climbF_size (H : ByteArray → ByteArray) (hH : ∀ s, (H s).size = 32) (leaf : ByteArray) (i n : Nat) (pf : List ByteArray) : (climbF H leaf i n pf).1.size = 32 := by
  rw [climbF]
  split
  · exact hH _
  · split
    · rfl
    · split
      · split <;> exact hH _
      · rfl
theorem three_inj {a b c d : ByteArray} (m : ByteArray) (hs : a.size = c.size) (h : m ++ a ++ b = m ++ c ++ d) : a = c ∧ b = d := by
  have e := congrArg (fun x : ByteArray => x.data.toList) h
  simp only [ByteArray.data_append, Array.toList_append, List.append_assoc] at e
  have e1 := List.append_cancel_left e
  have hl : a.data.toList.length = c.data.toList.length := by
    have h1 : a.data.size = c.data.size := hs
    simpa using h1
  obtain ⟨h1, h2⟩ := List.append_inj e1 hl
  exact ⟨ByteArray.ext (Array.toList_inj.1 h1), ByteArray.ext (Array.toList_inj.1 h2)⟩
theorem two_inj {a c : ByteArray} (m : ByteArray) (h : m ++ a = m ++ c) : a = c := by
  have e := congrArg (fun x : ByteArray => x.data.toList) h
  simp only [ByteArray.data_append, Array.toList_append] at e
  exact ByteArray.ext (Array.toList_inj.1 (List.append_cancel_left e))
theorem halfN_unique {n j : Nat} (h1 : 2 ^ j < n) (h2 : n ≤ 2 * 2 ^ j) : 2 ^ j = halfN n := by
  have : Nat.log2 (n - 1) = j := by
    rw [Nat.log2_eq_iff (by have := Nat.pos_of_ne_zero (show 2 ^ j ≠ 0 from Nat.pos_iff_ne_zero.1 (Nat.pow_pos (by omega))); omega)]
    exact ⟨by omega, by rw [Nat.pow_succ]; omega⟩
  unfold halfN; rw [this]
theorem m0_size : m0.size = 1 := rfl
theorem m1_size : m1.size = 1 := rfl
/-- The texts that are hashed for a root. -/
def rootT (H : ByteArray → ByteArray) (l : List ByteArray) : List ByteArray :=
  if h : l.length < 2 then (match l with | [] => [⟨#[]⟩] | x :: _ => [m0 ++ x]) else
    rootT H (l.take (halfN l.length)) ++ rootT H (l.drop (halfN l.length)) ++ [m1 ++ rootF H (l.take (halfN l.length)) ++ rootF H (l.drop (halfN l.length))]
  termination_by l.length
  decreasing_by
    · have := halfN_lt (n := l.length) (by omega); simp; omega
    · have := halfN_pos l.length; simp; omega
theorem rootT_one (H : ByteArray → ByteArray) (x : ByteArray) : rootT H [x] = [m0 ++ x] := by rw [rootT, dif_pos (by simp)]
theorem rootT_more (H : ByteArray → ByteArray) {l : List ByteArray} (h : 2 ≤ l.length) : rootT H l = rootT H (l.take (halfN l.length)) ++ rootT H (l.drop (halfN l.length)) ++ [m1 ++ rootF H (l.take (halfN l.length)) ++ rootF H (l.drop (halfN l.length))] := by
  rw [rootT, dif_neg (by omega)]
theorem rootT_len (H : ByteArray → ByteArray) : ∀ (n : Nat) (ls : List ByteArray), ls.length = n → 0 < n → (rootT H ls).length + 1 = 2 * n := by
  intro n
  induction n using Nat.strongRecOn with
  | _ n ih =>
  intro ls hn h0
  by_cases h2 : 2 ≤ ls.length
  · have hk0 := halfN_pos ls.length
    have hk1 := halfN_lt h2
    rw [rootT_more H h2]
    have a := ih (halfN ls.length) (by omega) (ls.take (halfN ls.length)) (by simp; omega) hk0
    have b := ih (ls.length - halfN ls.length) (by omega) (ls.drop (halfN ls.length)) (by simp) (by omega)
    simp; omega
  · obtain ⟨s, rfl⟩ : ∃ s, ls = [s] := List.length_eq_one_iff.1 (by omega)
    rw [rootT_one]; simp at hn; subst hn; rfl
end Go.Proofs.YteglimjonofdeaaGreatDoor
namespace Go.Proofs.YteglimjonofdeaaGreatDoor
open Go.RowKit

set_option maxRecDepth 100000 in
theorem tab_size : (Lib.len8tab.size : Int) = 256 := by
  have : Lib.len8tab.size = 256 := by decide
  omega
theorem tab_get (y : Int) (h : y.toNat < Lib.len8tab.size) (h0 : 0 ≤ y) (h1 : y ≤ 255) : ((Lib.len8tab[y.toNat]'h).toNat : Int) = (Lib.bitLen y.toNat : Int) := by
  rw [← Lib.len8_of y h0 h1]
  unfold Lib.len8
  rw [getElem?_pos Lib.len8tab y.toNat h]
  rfl
theorem tab_sum (k a b : Nat) (hk : k ≤ 56) (ha : a ≤ 8) (hb : b = k + a) : wrap64 ((k : Int) + wrap64 (a : Int)) = (b : Int) := by
  rw [IntWalk.wrap64_in (a : Int) ⟨by omega, by omega⟩, IntWalk.wrap64_in _ ⟨by omega, by omega⟩]; omega

set_option maxRecDepth 100000 in
set_option maxHeartbeats 4000000 in
theorem len64_any (x : Int) (w : World) (h0 : 0 ≤ x) (h1 : x ≤ 4294967295) :
    Calls Tryz.prog 173 #[.int .u64 x] w fun e w' => e = .returned (.int .i64 (Lib.bitLen x.toNat)) ∧ w' = w := by
  have hx : ¬ (4294967296 : Int) ≤ x := by omega
  go_enter Tryz.func173, Tryz.ntmps173
  go_wp2
  all_goals first
    | (go_ret; refine ⟨congrArg Ending.returned (congrArg (Value.int IntKind.i64) ?_), rfl⟩)
    | (exfalso
       have hs := tab_size
       omega)
  all_goals first
    | (rw [tab_get (x / 65536 / 256) _ (by omega) (by omega)]
       have e : (x / 65536 / 256).toNat = x.toNat / 16777216 := by omega
       have l := Lib.bitLen_le8' (x / 65536 / 256) (by omega) (by omega)
       have s := Lib.bitLen_shift24 x.toNat (by omega) (by omega)
       rw [e] at l ⊢
       exact tab_sum 24 _ _ (by omega) l s)
    | (rw [tab_get (x / 65536) _ (by omega) (by omega)]
       have e : (x / 65536).toNat = x.toNat / 65536 := by omega
       have l := Lib.bitLen_le8' (x / 65536) (by omega) (by omega)
       have s := Lib.bitLen_shift16 x.toNat (by omega) (by omega)
       rw [e] at l ⊢
       exact tab_sum 16 _ _ (by omega) l s)
    | (rw [tab_get (x / 256) _ (by omega) (by omega)]
       have e : (x / 256).toNat = x.toNat / 256 := by omega
       have l := Lib.bitLen_le8' (x / 256) (by omega) (by omega)
       have s := Lib.bitLen_shift8 x.toNat (by omega) (by omega)
       rw [e] at l ⊢
       exact tab_sum 8 _ _ (by omega) l s)
    | (rw [tab_get x _ (by omega) (by omega)]
       have l := Lib.bitLen_le8' x (by omega) (by omega)
       have e := IntWalk.wrap64_in (Lib.bitLen x.toNat : Int) ⟨by omega, by omega⟩
       rw [e, e])

theorem bitLen_log (m : Nat) (h0 : m ≠ 0) (h : m < 4294967296) : Lib.bitLen m = Nat.log2 m + 1 := by
  obtain ⟨a, b, c⟩ := Lib.bitLenAux_bounds 64 m (by omega) h0
  have e : Nat.log2 m = Lib.bitLenAux 64 m - 1 := by
    have h1 : 2 ^ Nat.log2 m ≤ m := Nat.log2_self_le h0
    have h2 : m < 2 ^ (Nat.log2 m + 1) := Nat.lt_log2_self
    have h3 : Nat.log2 m < Lib.bitLenAux 64 m := (Nat.pow_lt_pow_iff_right (by omega)).1 (Nat.lt_of_le_of_lt h1 c)
    have h4 : Lib.bitLenAux 64 m - 1 < Nat.log2 m + 1 := (Nat.pow_lt_pow_iff_right (by omega)).1 (Nat.lt_of_le_of_lt b h2)
    omega
  unfold Lib.bitLen
  omega

set_option maxRecDepth 10000 in
set_option maxHeartbeats 400000 in
theorem len_any (x : Int) (w : World) (h0 : 0 ≤ x) (h1 : x ≤ 4294967295) :
    Calls Tryz.prog 147 #[.int .u64 x] w fun e w' => e = .returned (.int .i64 (Lib.bitLen x.toNat)) ∧ w' = w := by
  have hL := fun w => len64_any x w h0 h1
  generalize Lib.bitLen x.toNat = k at *
  go_enter Tryz.func147, Tryz.ntmps147
  go_wp2_with (go_at_call 173; refine (hL _).mono ?_; rintro e w' ⟨rfl, rfl⟩)
  go_ret
  exact ⟨rfl, rfl⟩

set_option maxRecDepth 10000 in
set_option maxHeartbeats 400000 in
theorem split_any (n : Nat) (w : World) (h0 : 2 ≤ n) (h1 : n ≤ 2147483647) :
    Calls Tryz.prog 112 #[.int .i64 n] w fun e w' => e = .returned (.int .i64 (halfN n)) ∧ w' = w := by
  have hb := bitLen_log (n - 1) (by omega) (by omega)
  have hl : Nat.log2 (n - 1) ≤ 30 := by
    have h3 : 2 ^ Nat.log2 (n - 1) ≤ n - 1 := Nat.log2_self_le (by omega)
    have h4 : 2 ^ Nat.log2 (n - 1) < 2 ^ 31 := by omega
    have := (Nat.pow_lt_pow_iff_right (a := 2) (by omega)).1 h4
    omega
  have e : ((n : Int) - 1).toNat = n - 1 := by omega
  have hL := len_any ((n : Int) - 1)
  rw [e, hb] at hL
  have hk : (halfN n : Int) = 2 ^ Nat.log2 (n - 1) := by unfold halfN; simp
  have hkb : halfN n < 2147483648 := by have := halfN_lt h0; omega
  generalize Nat.log2 (n - 1) = k at *
  have hL2 : ∀ w, Calls Tryz.prog 147 #[.int .u64 ((n : Int) - 1)] w fun e w' => e = .returned (.int .i64 ((k + 1 : Nat) : Int)) ∧ w' = w := fun w => hL w (by omega) (by omega)
  have HK : Hid ((halfN n : Int) = 2 ^ k) := hk
  clear hL hk hb e
  go_enter Tryz.func112, Tryz.ntmps112
  go_wp2_with (go_at_call 147; refine (hL2 _).mono ?_; rintro e w' ⟨rfl, rfl⟩)
  go_ret
  refine ⟨ret_int ?_, rfl⟩
  rw [← HK.out]
  exact IntWalk.wrap64_in _ ⟨by omega, by omega⟩
/-- Which bytes are those of a whole event? -/
def goodB (s : ByteArray) : Bool := s.size == 42 && (bAt s 0 == 69 && wholeD s)

theorem ext_at (s : ByteArray) (h : s.size = 42) : ∀ j, j < 4 → bAt (s.extract 2 6) j = bAt s (2 + j) := by
  intro j hj
  have h' : s.data.toList.length = 42 := by rw [← Lib.size_eq]; exact h
  unfold bAt
  congr 2
  have e : (s.extract 2 6).data.toList = (s.data.toList.drop 2).take 4 := by
    rw [ByteArray.data_extract]; simp [Array.toList_extract, List.extract_eq_take_drop]
  rw [e, List.getD, List.getD, List.getElem?_take_of_lt hj, List.getElem?_drop]
/-- event.Decode, at whatever bytes. -/
theorem decode_any (s : ByteArray) (w : World) :
    Calls Tryz.prog 86 #[.string s] w fun e w' => Below w.heap.size w w' ∧ ∃ (cs : List Value) (v : Value), e = .returned (.tuple #[.agg cs.toArray, v]) ∧
      ((goodB s = true ∧ cs = fEv s ∧ v = .nilIface) ∨ (goodB s = false ∧ cs = zEvL ∧ v = .iface 41 (.int .i64 9))) := by
  by_cases h : s.size = 42
  · have hb : ((s.size : Int) != 42) = false := by simp [h]
    have hlt : 0 < s.size := by omega
    by_cases hm : bAt s 0 = 69
    · have hb2 : (((s[0]'hlt).toNat : Int) != 69) = false := by rw [bAt_eq, hm]; rfl
      refine (decode_on s w hb hlt hb2 (by omega) (by simp [h]) (ext_at s h) (by simp [h])).mono ?_
      rintro e w' ⟨hB, cs, v, rfl, hc⟩
      refine ⟨hB, cs, v, rfl, ?_⟩
      simpa [goodB, h, hm] using hc
    · have hb2 : (((s[0]'hlt).toNat : Int) != 69) = true := by rw [bAt_eq, bne_iff_ne]; exact hm
      refine (decode_mark s w hb hlt hb2).mono ?_
      rintro e w' ⟨rfl, hB⟩
      exact ⟨hB, zEvL, _, rfl, Or.inr ⟨by simp [goodB, hm], rfl, rfl⟩⟩
  · refine (decode_short s w h).mono ?_
    rintro e w' ⟨rfl, hB⟩
    exact ⟨hB, zEvL, _, rfl, Or.inr ⟨by simp [goodB, h], rfl, rfl⟩⟩

theorem good_len (s : ByteArray) (h : goodB s = true) : s.size = 42 := by
  simp [goodB] at h; exact h.1
/-! What is encoded is decoded: plain mathematics. -/
theorem or_u32 (a b : Int) (ha : 0 ≤ a) (ha2 : a < 4294967296) (hb : 0 ≤ b) (hb2 : b < 4294967296) : bits .or .u32 a b = ((a.toNat ||| b.toNat : Nat) : Int) := by
  obtain ⟨x, rfl⟩ := Int.eq_ofNat_of_zero_le ha
  obtain ⟨y, rfl⟩ := Int.eq_ofNat_of_zero_le hb
  have hx : x < 2 ^ 32 := by omega
  have hy : y < 2 ^ 32 := by omega
  have ho : x ||| y < 2 ^ 32 := Nat.or_lt_two_pow hx hy
  have h1 : (BitVec.ofInt 32 (x : Int)).toNat = x := by rw [BitVec.ofInt_natCast, BitVec.toNat_ofNat]; exact Nat.mod_eq_of_lt hx
  have h2 : (BitVec.ofInt 32 (y : Int)).toNat = y := by rw [BitVec.ofInt_natCast, BitVec.toNat_ofNat]; exact Nat.mod_eq_of_lt hy
  show IntKind.u32.wrap ((BitVec.ofInt 32 (x : Int) ||| BitVec.ofInt 32 (y : Int)).toNat : Int) = _
  rw [BitVec.toNat_or, h1, h2, Int.toNat_natCast, Int.toNat_natCast]
  simp [IntKind.wrap, IntKind.bits, IntKind.signed]
  omega
/-- A number whose low part is nought, and another that is that part. -/
theorem or_apart (k a b : Nat) (hb : b < 2 ^ k) : (2 ^ k * a) ||| b = 2 ^ k * a + b := by
  rw [Nat.two_pow_add_eq_or_of_lt hb]
theorem readI_eq (x0 x1 x2 x3 : Int) (h0 : 0 ≤ x0 ∧ x0 < 256) (h1 : 0 ≤ x1 ∧ x1 < 256) (h2 : 0 ≤ x2 ∧ x2 < 256) (h3 : 0 ≤ x3 ∧ x3 < 256) : readI x0 x1 x2 x3 = x0 * 16777216 + x1 * 65536 + x2 * 256 + x3 := by
  obtain ⟨a, rfl⟩ := Int.eq_ofNat_of_zero_le h0.1
  obtain ⟨b, rfl⟩ := Int.eq_ofNat_of_zero_le h1.1
  obtain ⟨c, rfl⟩ := Int.eq_ofNat_of_zero_le h2.1
  obtain ⟨d, rfl⟩ := Int.eq_ofNat_of_zero_le h3.1
  have e0 : (a : Int) % 4294967296 * 16777216 % 4294967296 = ((2 ^ 24 * a : Nat) : Int) := by omega
  have e1 : (b : Int) % 4294967296 * 65536 % 4294967296 = ((2 ^ 16 * b : Nat) : Int) := by omega
  have e2 : (c : Int) % 4294967296 * 256 % 4294967296 = ((2 ^ 8 * c : Nat) : Int) := by omega
  have e3 : (d : Int) % 4294967296 = ((d : Nat) : Int) := by omega
  have r1 : bits .or .u32 ((2 ^ 24 * a : Nat) : Int) ((2 ^ 16 * b : Nat) : Int) = ((2 ^ 16 * (2 ^ 8 * a + b) : Nat) : Int) := by
    rw [or_u32 _ _ (by omega) (by omega) (by omega) (by omega), Int.toNat_natCast, Int.toNat_natCast, or_apart 24 a (2 ^ 16 * b) (by omega)]
    congr 1; omega
  have r2 : bits .or .u32 ((2 ^ 16 * (2 ^ 8 * a + b) : Nat) : Int) ((2 ^ 8 * c : Nat) : Int) = ((2 ^ 8 * (2 ^ 16 * a + 2 ^ 8 * b + c) : Nat) : Int) := by
    rw [or_u32 _ _ (by omega) (by omega) (by omega) (by omega), Int.toNat_natCast, Int.toNat_natCast, or_apart 16 _ (2 ^ 8 * c) (by omega)]
    congr 1; omega
  have r3 : bits .or .u32 ((2 ^ 8 * (2 ^ 16 * a + 2 ^ 8 * b + c) : Nat) : Int) ((d : Nat) : Int) = ((2 ^ 8 * (2 ^ 16 * a + 2 ^ 8 * b + c) + d : Nat) : Int) := by
    rw [or_u32 _ _ (by omega) (by omega) (by omega) (by omega), Int.toNat_natCast, Int.toNat_natCast, or_apart 8 _ d (by omega)]
  unfold readI
  rw [e0, e1, e2, e3, r1, r2, r3]
  omega
theorem ext_drop (s : ByteArray) : (s.extract 10 s.size).data.toList = s.data.toList.drop 10 := by
  have hl : s.data.toList.length = s.size := by rw [Lib.size_eq]
  rw [ByteArray.data_extract]
  simp only [Array.toList_extract, List.extract_eq_take_drop]
  exact List.take_of_length_le (by rw [List.length_drop, hl]; exact Nat.le_refl _)
theorem dg_drop (s : ByteArray) : dg s = (numsOf s).drop 10 := by
  unfold dg numsOf; rw [ext_drop, List.map_drop]
theorem read_four (n : Int) (h0 : 0 ≤ n) (h1 : n < 4294967296) : readI (n / 16777216 % 256) (n / 65536 % 256) (n / 256 % 256) (n % 256) = n := by
  rw [readI_eq _ _ _ _ (by omega) (by omega) (by omega) (by omega)]
  omega
/-- What is encoded is decoded to the same. -/
theorem ev_range (c n o p v k : Int) (D : List Int) (hD : ∀ x ∈ D, 0 ≤ x ∧ x < 256) (hw : wholeB c n o p v k = true) : ∀ x ∈ evBytes c n o p v k D, 0 ≤ x ∧ x < 256 := by
  obtain ⟨⟨c1, c2⟩, ⟨n1, n2⟩, ⟨o1, o2⟩, ⟨p1, p2⟩, ⟨v1, v2⟩, k1, k2⟩ := whole_bounds hw
  intro x hx
  simp only [evBytes, fourN, List.cons_append, List.nil_append, List.mem_cons] at hx
  rcases hx with rfl | rfl | rfl | rfl | rfl | rfl | rfl | rfl | rfl | rfl | hx
  · omega
  · omega
  · omega
  · omega
  · omega
  · omega
  · omega
  · omega
  · omega
  · omega
  · exact hD x hx
theorem ev_len (c n o p v k : Int) (D : List Int) (hD : D.length = 32) : (evBytes c n o p v k D).length = 42 := by simp [evBytes, fourN, hD]
theorem forth (c n o p v k : Int) (D : List Int) (hl : D.length = 32) (hD : ∀ x ∈ D, 0 ≤ x ∧ x < 256) (hw : wholeB c n o p v k = true) :
    goodB (strOfNums (evBytes c n o p v k D)) = true ∧ fEv (strOfNums (evBytes c n o p v k D)) = evCells c n o p v k (bytesV D) := by
  have hr := nums_str _ (ev_range c n o p v k D hD hw)
  obtain ⟨_, ⟨n1, n2⟩, _⟩ := whole_bounds hw
  have hb : ∀ i, bAt (strOfNums (evBytes c n o p v k D)) i = (evBytes c n o p v k D).getD i 0 := fun i => by rw [bAt_nums, hr]
  have hd : dg (strOfNums (evBytes c n o p v k D)) = D := by rw [dg_drop, hr]; rfl
  have hn : readI (bAt (strOfNums (evBytes c n o p v k D)) 2) (bAt (strOfNums (evBytes c n o p v k D)) 3) (bAt (strOfNums (evBytes c n o p v k D)) 4) (bAt (strOfNums (evBytes c n o p v k D)) 5) = n := by
    rw [hb, hb, hb, hb]; exact read_four n (by omega) (by omega)
  have hw' : wholeD (strOfNums (evBytes c n o p v k D)) = true := by
    unfold wholeD; rw [hn, hb, hb, hb, hb, hb]; exact hw
  refine ⟨?_, ?_⟩
  · unfold goodB
    rw [hw', hb, strOfNums_size, ev_len _ _ _ _ _ _ _ hl]; rfl
  · unfold fEv
    rw [hn, hd, hb, hb, hb, hb, hb]; rfl
set_option maxRecDepth 10000 in
set_option maxHeartbeats 1000000 in
theorem rone_any (s : ByteArray) (K : Nat → Int) (w : World) (hs : s.size ≤ 140737488355000) (T : Tab K w) :
    Calls Tryz.prog 111 #[.string s] w fun e w' => e = .returned (.agg (hV (sumOf K (m0 ++ s))).toArray) ∧ Below w.heap.size w w' := by
  have hb0 : Below w.heap.size w ((w.alloc (.cells z32.toArray 104)).alloc (.cells #[.string ⟨#[0]⟩, .string s] 9)) := ((Below.refl _ _).alloc (Nat.le_refl _) _).alloc (by simp) _
  have T0 := T.below hb0
  have hof := of_any [m0, s] (w.heap.size + 1) 2 K ((w.alloc (.cells z32.toArray 104)).alloc (.cells #[.string ⟨#[0]⟩, .string s] 9)) (by simp) (by simp)
    (by simp [joinN, numsOf_length, m0, numsOf]; omega)
    (fun j hj => by
      rw [World.cell?_alloc_at _ _ _ _ (by simp)]
      have hj2 : j < 2 := hj
      obtain rfl | rfl : j = 0 ∨ j = 1 := by omega
      all_goals rfl) T0.lt T0.cells
  rw [hV_sum K (joinN [m0, s]) (m0 ++ s) (by rw [nums_app]; simp [joinN])] at hof
  rw [show [m0, s].length = 2 from rfl] at hof
  have h32 := sumOf_size K (m0 ++ s)
  generalize sumOf K (m0 ++ s) = h at *
  clear T0 T
  go_enter Tryz.func111, Tryz.ntmps111
  go_wp2_with (first | (refine wpList_alloc_of rfl 104 rfl z32.toArray alloc_32 ?_))
  refine hof.mono ?_
  rintro e w1 ⟨rfl, hb1⟩
  have hb1' : Below w.heap.size w w1 := hb0.trans (hb1.mono (by simp; omega))
  have ht : w1.there w.heap.size 0 (hV h).length := by
    rw [hV_len h32]
    exact there_below (hb1.mono (B' := w.heap.size + 1) (by simp)) (Nat.lt_succ_self _) (there_below ((Below.refl _ _).alloc (by simp) _) (Nat.lt_succ_self _) (there_z32 w))
  clear hof hb1
  go_wp2_with (refine wpList_store_abs rfl 104 _ _ rfl w.heap.size 0 (hV h) rfl rfl ht (hV_info h32) (hV_one h) ?_; intro w2 _hw2 hr2 _ht2 hb2; clear _hw2 _ht2)
  exact ret_cell rfl w.heap.size 0 (hV h) _ rfl hr2 Tryz.underlying104 rfl (hV_info h32) rfl ⟨rfl, hb1'.trans (hb2 _ (Nat.le_refl _))⟩
end Go.Proofs.YteglimjonofdeaaGreatDoor
