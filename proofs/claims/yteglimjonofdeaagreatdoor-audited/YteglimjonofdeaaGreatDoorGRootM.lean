import Derived.Test.YteglimjonofdeaaGreatDoorTJoinM
import Derived.Laws.OwnMore
import Derived.Test.YteglimjonofdeaaGreatDoorPChainM
import Derived.Test.YteglimjonofdeaaGreatDoorAEvM
import Derived.Test.YteglimjonofdeaaGreatDoorNTakeM
import Derived.Test.YteglimjonofdeaaGreatDoorNNode4M
set_option linter.unusedVariables false
set_option linter.unusedSimpArgs false
namespace Go.Proofs.YteglimjonofdeaaGreatDoor
open Go.RowKit

/-- The hash of no text. -/
theorem of_none (K : Nat → Int) (w : World) (T : Tab K w) : Calls Tryz.prog 54 #[.slice none 0 0] w fun e w' => e = .returned (.agg (hV (sumOf K ⟨#[]⟩)).toArray) ∧ Below w.heap.size w w' := by
  have := of_gen [] none 0 K w (by simp) (by simp [joinN]) (textsAt_nil w none) T.lt T.cells
  rw [hV_sum K (joinN []) ⟨#[]⟩ (by simp [joinN, numsOf])] at this
  exact this

set_option maxRecDepth 10000 in
set_option maxHeartbeats 1000000 in
theorem root_nil (K : Nat → Int) (ao : Option Addr) (cap : Nat) (w : World) (T : Tab K w) :
    Calls Tryz.prog 75 #[.slice ao 0 cap] w fun e w' => e = .returned (.agg (hV (rootF (sumOf K) [])).toArray) ∧ Below w.heap.size w w' := by
  have J0 := rs_new w
  have hr1 := of_none K (w.alloc (.cells z32.toArray 104)) (T.below ((Below.refl _ _).alloc (Nat.le_refl _) _))
  rw [show sumOf K ⟨#[]⟩ = rootF (sumOf K) [] by rw [rootF]] at hr1
  have h32 := rootF_size (sumOf K) (sumOf_size K) []
  generalize rootF (sumOf K) [] = h at *
  clear T
  go_enter Tryz.func75, Tryz.ntmps75
  go_wp2_with (first | (refine wpList_alloc_of rfl 104 rfl z32.toArray alloc_32 ?_))
  refine hr1.mono ?_
  rintro e w1 ⟨rfl, hb1⟩
  have J1 := J0.step hb1
  have ht : w1.there w.heap.size 0 (hV h).length := by rw [hV_len h32]; exact J1.t
  go_wp2_with (refine wpList_store_abs rfl 104 _ _ rfl w.heap.size 0 (hV h) rfl rfl ht (hV_info h32) (hV_one h) ?_; intro w2 _hw2 hr2 _ht2 hb2; clear _hw2 _ht2)
  exact ret_cell rfl w.heap.size 0 (hV h) _ rfl hr2 Tryz.underlying104 rfl (hV_info h32) rfl ⟨rfl, J1.b.trans (hb2 _ (Nat.le_refl _))⟩

theorem root_all (K : Nat → Int) (ls : List ByteArray) (v : Value) (w : World) (hn1 : ls.length ≤ 2147483647) (hl : LeafAt w v ls) (hs : ∀ s ∈ ls, s.size ≤ 140737488355000) (T : Tab K w) :
    Calls Tryz.prog 75 #[v] w fun e w' => e = .returned (.agg (hV (rootF (sumOf K) ls)).toArray) ∧ Below w.heap.size w w' := by
  by_cases h0 : ls = []
  · subst h0
    obtain ⟨ao, cap, rfl⟩ := leaf_form hl
    exact root_nil K ao cap w T
  · exact root_any K _ ls v w rfl (List.length_pos_iff.2 h0) hn1 hl hs T

/-- A row of texts that a call has made is a list of texts. -/
theorem leaf_own {w : World} {B : Nat} {v : Value} {L : List ByteArray} (h : w.ownsRow B 9 1 v L.length (L.map .string)) : LeafAt w v L := by
  rcases h.2 with ⟨rfl, h0⟩ | ⟨g, cap, cur, rfl, _, _, hc, _⟩
  · exact Or.inl ⟨List.eq_nil_of_length_eq_zero h0, none, 0, rfl⟩
  · refine Or.inr ⟨g, 0, cap, rfl, hc, fun j hj => ?_⟩
    rw [Nat.zero_add, h.cellAt j (by omega), List.getElem?_map, List.getElem?_eq_getElem hj]; rfl

/-- The bytes of a key's number and a chain's. -/
def two (k c : Nat) : ByteArray := strOfNums [(k : Int) % 256, (c : Int) % 256]
theorem two_size (k c : Nat) : (two k c).size = 2 := by unfold two; rw [strOfNums_size]; rfl
def beginF (H : ByteArray → ByteArray) (seed : ByteArray) (k c : Nat) : ByteArray := H (mK ++ seed ++ two k c)

set_option maxRecDepth 10000 in
set_option maxHeartbeats 1000000 in
theorem begin1_any (K : Nat → Int) (seed : ByteArray) (k c bs bk : Nat) (w : World) (hs : seed.size ≤ 100000) (c1 : w.cell? ⟨bs, 0, none⟩ = some (.string seed)) (c2 : w.cell? ⟨bk, 0, none⟩ = some (.int .i64 k)) (T : Tab K w) :
    Calls Tryz.prog 148 #[.int .i64 c, .pointer (some ⟨bs, 0, none⟩), .pointer (some ⟨bk, 0, none⟩)] w fun e w' => e = .returned (.agg (hV (beginF (sumOf K) seed k c)).toArray) ∧ Below w.heap.size w w' := by
  have l1 := World.block_lt_of_cell? w _ c1
  have l2 := World.block_lt_of_cell? w _ c2
  have c1' : (w.alloc (.cells z32.toArray 104)).cell? ⟨bs, 0, none⟩ = some (.string seed) := by rw [World.cell?_alloc_past _ _ _ l1]; exact c1
  have c2' : (w.alloc (.cells z32.toArray 104)).cell? ⟨bk, 0, none⟩ = some (.int .i64 k) := by rw [World.cell?_alloc_past _ _ _ l2]; exact c2
  obtain ⟨wB, hwB⟩ : ∃ wB, wB = (w.alloc (.cells z32.toArray 104)).alloc (.cells #[.int .u8 ((k : Int) % 256), .int .u8 ((c : Int) % 256)] 5) := ⟨_, rfl⟩
  have hcv := convert_range (w := wB) (b := w.heap.size + 1) (cap := 2) (ns := [(k : Int) % 256, (c : Int) % 256]) 2 rfl (by
    rw [hwB]
    have := range_new (w.alloc (.cells z32.toArray 104)) (bytesV [(k : Int) % 256, (c : Int) % 256]) 5
    rw [show (w.alloc (.cells z32.toArray 104)).heap.size = w.heap.size + 1 by simp] at this
    exact this)
  rw [hwB] at hcv
  rw [show strOfNums [(k : Int) % 256, (c : Int) % 256] = two k c from rfl] at hcv
  have hb0 : Below w.heap.size w (((w.alloc (.cells z32.toArray 104)).alloc (.cells #[.int .u8 ((k : Int) % 256), .int .u8 ((c : Int) % 256)] 5)).alloc (.cells #[.string ⟨#[75]⟩, .string seed, .string (two k c)] 9)) := (((Below.refl _ _).alloc (Nat.le_refl _) _).alloc (by simp) _).alloc (by simp; omega) _
  have T0 := T.below hb0
  have hof := of_any [mK, seed, two k c] (w.heap.size + 1 + 1) 3 K _ (by simp) (by simp)
    (by simp [joinN, numsOf_length, mK, numsOf, two_size]; omega)
    (fun j hj => by
      rw [World.cell?_alloc_at _ _ _ _ (by simp)]
      have hj2 : j < 3 := hj
      obtain rfl | rfl | rfl : j = 0 ∨ j = 1 ∨ j = 2 := by omega
      all_goals rfl) T0.lt T0.cells
  rw [hV_sum K (joinN [mK, seed, two k c]) (mK ++ seed ++ two k c) (by rw [nums_app, nums_app]; simp [joinN])] at hof
  rw [show [mK, seed, two k c].length = 3 from rfl] at hof
  have h32 := sumOf_size K (mK ++ seed ++ two k c)
  unfold beginF
  generalize sumOf K (mK ++ seed ++ two k c) = h at *
  generalize two k c = tw at *
  clear T0 T hwB
  go_enter Tryz.func148, Tryz.ntmps148
  go_wp2_with (first | (refine wpList_alloc_of rfl 104 rfl z32.toArray alloc_32 ?_))
  refine hof.mono ?_
  rintro e w1 ⟨rfl, hb1⟩
  have hb1' : Below w.heap.size w w1 := hb0.trans (hb1.mono (by simp; omega))
  have ht : w1.there w.heap.size 0 (hV h).length := by
    rw [hV_len h32]
    exact there_below (hb1.mono (B' := w.heap.size + 1) (by simp)) (Nat.lt_succ_self _) (there_below (((Below.refl _ _).alloc (by simp) _).alloc (by simp) _) (Nat.lt_succ_self _) (there_z32 w))
  clear hof hb1
  go_wp2_with (refine wpList_store_abs rfl 104 _ _ rfl w.heap.size 0 (hV h) rfl rfl ht (hV_info h32) (hV_one h) ?_; intro w2 _hw2 hr2 _ht2 hb2; clear _hw2 _ht2)
  exact ret_cell rfl w.heap.size 0 (hV h) _ rfl hr2 Tryz.underlying104 rfl (hV_info h32) rfl ⟨rfl, hb1'.trans (hb2 _ (Nat.le_refl _))⟩

set_option maxHeartbeats 400000 in
theorem leaves1_any (c : Int) (w : World) : Calls Tryz.prog 117 #[.int .i64 c] w fun e w' => e = .returned (.int .i64 ((15 : Nat) : Int)) ∧ Below w.heap.size w w' := by
  go_enter Tryz.func117, Tryz.ntmps117
  go_wp2_with fail
  go_ret
  exact ⟨rfl, Below.refl _ _⟩
set_option maxHeartbeats 400000 in
theorem sign1_any (h : ByteArray) (c bd : Nat) (w : World) (hc : c < 67) (hr : w.rangeAt bd 0 (digV h)) : Calls Tryz.prog 152 #[.int .i64 c, .pointer (some ⟨bd, 0, none⟩)] w fun e w' => e = .returned (.int .i64 ((dig h c : Nat) : Int)) ∧ Below w.heap.size w w' := by
  have cc : w.cell? ⟨bd, c, none⟩ = some (.int .i64 ((dig h c : Nat) : Int)) := by have := hr c _ (digV_get h c hc); rwa [Nat.zero_add] at this
  have c1 : (c : Int) < 67 := by omega
  generalize dig h c = d at *
  clear hr
  go_enter Tryz.func152, Tryz.ntmps152
  go_wp2_with fail
  go_ret
  exact ⟨rfl, Below.refl _ _⟩
set_option maxHeartbeats 400000 in
theorem finish2_any (h : ByteArray) (c bd : Nat) (w : World) (hc : c < 67) (hr : w.rangeAt bd 0 (digV h)) : Calls Tryz.prog 154 #[.int .i64 c, .pointer (some ⟨bd, 0, none⟩)] w fun e w' => e = .returned (.int .i64 ((15 - dig h c : Nat) : Int)) ∧ Below w.heap.size w w' := by
  have cc : w.cell? ⟨bd, c, none⟩ = some (.int .i64 ((dig h c : Nat) : Int)) := by have := hr c _ (digV_get h c hc); rwa [Nat.zero_add] at this
  have c1 : (c : Int) < 67 := by omega
  have d15 := dig_le h c
  generalize dig h c = d at *
  clear hr
  go_enter Tryz.func154, Tryz.ntmps154
  go_wp2_with fail
  go_ret
  refine ⟨?_, Below.refl _ _⟩
  show Ending.returned (Value.int .i64 (15 - (d : Int))) = _
  congr 2; omega

set_option maxHeartbeats 400000 in
theorem beginnings_any (seed : ByteArray) (k : Int) (w : World) : Calls Tryz.prog 116 #[.string seed, .int .i64 k] w fun e w' => e = .returned (.func (.func 148) #[] #[.pointer (some ⟨w.heap.size, 0, none⟩), .pointer (some ⟨w.heap.size + 1, 0, none⟩)]) ∧ w'.cell? ⟨w.heap.size, 0, none⟩ = some (.string seed) ∧ w'.cell? ⟨w.heap.size + 1, 0, none⟩ = some (.int .i64 k) ∧ Below w.heap.size w w' := by
  have hmf : ∀ (fn : Fn) (first cap : Array Value) (w : World), (Instr.makeFunc fn first cap).run Tryz.prog w = .ok (.func fn first cap) w := fun _ _ _ _ => rfl
  have hb : Below w.heap.size w ((w.alloc (.cells #[.string seed] 9)).alloc (.cells #[.int .i64 k] 3)) := ((Below.refl _ _).alloc (Nat.le_refl _) _).alloc (by simp) _
  go_enter Tryz.func116, Tryz.ntmps116
  go_wp2_with fail
  go_ret
  refine ⟨rfl, ?_, ?_, hb⟩
  · rw [World.cell?_alloc_past _ _ _ (by simp), World.cell?_alloc_at _ _ _ _ rfl]; rfl
  · rw [World.cell?_alloc_at _ _ _ _ (by simp)]; rfl

set_option maxHeartbeats 400000 in
theorem keyCount_any (h : Nat) (w : World) (hh : h ≤ 8) : Calls Tryz.prog 114 #[.int .i64 h] w fun e w' => e = .returned (.int .i64 ((2 ^ h : Nat) : Int)) ∧ w' = w := by
  obtain rfl | rfl | rfl | rfl | rfl | rfl | rfl | rfl | rfl : h = 0 ∨ h = 1 ∨ h = 2 ∨ h = 3 ∨ h = 4 ∨ h = 5 ∨ h = 6 ∨ h = 7 ∨ h = 8 := by omega
  all_goals
    go_enter Tryz.func114, Tryz.ntmps114
    go_wp2_with fail
    go_ret
    exact ⟨rfl, rfl⟩
set_option maxHeartbeats 400000 in
theorem size_any' (h : Nat) (w : World) (hh : h ≤ 8) : Calls Tryz.prog 81 #[.int .i64 h] w fun e w' => e = .returned (.int .i64 ((2145 + 32 * h : Nat) : Int)) ∧ w' = w := by
  go_enter Tryz.func81, Tryz.ntmps81
  go_wp2_with fail
  go_ret
  refine ⟨?_, rfl⟩
  show Ending.returned (Value.int .i64 (2145 + (h : Int) * 32)) = _
  congr 2; omega
/-- copy of a string that is as long at least. -/
theorem run_copy_cut (w : World) (b dLen dCap : Nat) (t : ByteArray) (hle : dLen ≤ t.size) (ht : w.there b 0 dLen) :
    (Builtin.copy_ #[85, 9] 3 #[.slice (some ⟨b, 0, none⟩) dLen dCap, .string t]).run Tryz.prog w = .ok (goInt dLen) (w.setCells b 0 ((hV t).take dLen)) := by
  have hmin : Nat.min t.size dLen = dLen := Nat.min_eq_right hle
  have hl : ((hV t).take dLen).length = dLen := by rw [List.length_take]; unfold hV; rw [bytesV_length, numsOf_length]; omega
  have hst := run_storeCells_cells (P := Tryz.prog) b 0 ((hV t).take dLen) 0 w (by rw [hl]; intro j hj; simpa using (ht j hj).1) (by rw [hl]; intro j hj; simpa using (ht j hj).2) (fun v hv => hV_one t v (List.mem_of_mem_take hv))
  have e : (t.data.toList.map fun x => Value.int .u8 (x.toNat : Int)) = hV t := by unfold hV bytesV numsOf; rw [List.map_map]; rfl
  simp [Builtin.copy_, run_underlying Tryz.underlying85, Builtin.lenOf, Builtin.firstCells, size_byte, hmin]
  rw [e, hst]
  rfl
def zT0 : ByteArray := strOfNums (List.replicate 32 0)
/-- The c-th hash of a text of hashes. -/
def pieceF (V : ByteArray) (c : Nat) : ByteArray := V.extract (32 * c) (32 * c + 32)
theorem pieceF_size (V : ByteArray) (c : Nat) (h : 32 * c + 32 ≤ V.size) : (pieceF V c).size = 32 := by unfold pieceF; rw [ByteArray.size_extract]; omega

theorem nums_extract (V : ByteArray) (a b : Nat) : numsOf (V.extract a b) = ((numsOf V).drop a).take (b - a) := by
  unfold numsOf
  rw [ByteArray.data_extract, Array.toList_extract, List.extract_eq_take_drop, List.map_take, List.map_drop]
theorem piece_take (V : ByteArray) (c : Nat) (hc : 32 * c + 32 ≤ V.size) : (hV (V.extract (32 * c) V.size)).take 32 = hV (pieceF V c) := by
  unfold pieceF hV bytesV
  rw [nums_extract, nums_extract, ← List.map_take, List.take_take, Nat.min_eq_left (by omega), show 32 * c + 32 - 32 * c = 32 by omega]

set_option maxRecDepth 10000 in
set_option maxHeartbeats 1000000 in
theorem finish1_any (V : ByteArray) (c bv : Nat) (w : World) (hc : 32 * c + 32 ≤ V.size) (hV1 : V.size ≤ 1000000) (cv : w.cell? ⟨bv, 0, none⟩ = some (.string V)) :
    Calls Tryz.prog 153 #[.int .i64 c, .pointer (some ⟨bv, 0, none⟩)] w fun e w' => e = .returned (.agg (hV (pieceF V c)).toArray) ∧ Below w.heap.size w w' := by
  have l1 := World.block_lt_of_cell? w _ cv
  have k1 : (c : Int) * 32 ≤ (V.size : Int) := by omega
  have k0 : (0 : Int) ≤ (c : Int) * 32 := by omega
  have hwr : IntKind.i64.wrap ((c : Int) * 32) = (c : Int) * 32 := wrap_small _ (by omega) (by omega)
  have htn : ((c : Int) * 32).toNat = 32 * c := by omega
  obtain ⟨wB, hwB⟩ : ∃ wB, wB = (w.alloc (.cells z32.toArray 104)).alloc (.cells z32.toArray 104) := ⟨_, rfl⟩
  have cB : wB.cell? ⟨bv, 0, none⟩ = some (.string V) := by rw [hwB, World.cell?_alloc_past _ _ _ (by simp; exact Nat.lt_succ_of_lt l1), World.cell?_alloc_past _ _ _ l1]; exact cv
  go_enter Tryz.func153, Tryz.ntmps153
  go_wp2_with (first | (refine wpList_alloc_of rfl 104 rfl z32.toArray alloc_32 ?_))
  rw [← hwB]
  have J0 : wB.drew.cell? ⟨bv, 0, none⟩ = some (.string V) := cB
  refine wp_region_noPanic ?_
  refine wp_region_held_drew (S := fun W => W.cell? ⟨bv, 0, none⟩ = some (.string V)) (by kernel_rfl) J0 (fun _ => ?_)
  refine tq (i := 0) (v := ?_) rfl J0 ?_ ?_
  rotate_left 1
  · intro W hSW; go_simp; try with_reducible rfl
  simp only [qA, qB, qC, Act.put, qD, qE, qF]
  refine tq (i := 1) (v := ?_) rfl J0 ?_ ?_
  rotate_left 1
  · intro W hSW; go_simp; try with_reducible rfl
  simp only [qA, qB, qC, Act.put, qD, qE, qF]
  refine tq (i := 2) (v := ?_) rfl J0 ?_ ?_
  rotate_left 1
  · intro W hSW; go_simp; try with_reducible rfl
  simp only [qA, qB, qC, Act.put, qD, qE, qF]
  refine tq (i := 3) (v := ?_) rfl J0 ?_ ?_
  rotate_left 1
  · intro W hSW; go_simp; try with_reducible rfl
  simp only [qA, qB, qC, Act.put, qD, qE, qF]
  refine tq (i := 4) (v := ?_) rfl J0 ?_ ?_
  rotate_left 1
  · intro W hSW; go_simp; try with_reducible rfl
  simp only [qA, qB, qC, Act.put, qD, qE, qF]
  refine rk 5 (fun K hK => ?_)
  have htA : wB.drew.there (w.heap.size + 1) 0 32 := by
    show wB.there (w.heap.size + 1) 0 32
    rw [hwB]; have := there_z32 (w.alloc (.cells z32.toArray 104)); simpa using this
  have htR : wB.there w.heap.size 0 32 := by
    rw [hwB]; exact there_below ((Below.refl _ _).alloc (by simp) _) (Nat.lt_succ_self _) (there_z32 w)
  have hbB : Below w.heap.size w wB := by rw [hwB]; exact ((Below.refl _ _).alloc (Nat.le_refl _) _).alloc (by simp) _
  have hrun := run_copy_cut wB.drew (w.heap.size + 1) 32 32 (V.extract (32 * c) V.size) (by rw [ByteArray.size_extract]; omega) htA
  have h32 := pieceF_size V c hc
  rw [piece_take V c hc] at hrun
  have ip := hV_info h32
  have op := hV_one (pieceF V c)
  have lp := hV_len h32
  obtain ⟨L, hL⟩ : ∃ L, L = hV (pieceF V c) := ⟨_, rfl⟩
  rw [← hL] at hrun ip op lp
  refine Lib.wp_copy_run _ (.tmp 5) (.tmp 9) 85 9 rfl _ _ rfl rfl hrun ?_
  have J1 : (wB.drew.setCells (w.heap.size + 1) 0 L).cell? ⟨bv, 0, none⟩ = some (.string V) := by
    rw [World.cell?_setCells_out _ _ _ _ ⟨bv, 0, none⟩ (fun e _ => by exfalso; simp at e; omega)]; exact J0
  have hrC : (wB.drew.setCells (w.heap.size + 1) 0 L).rangeAt (w.heap.size + 1) 0 L := World.rangeAt_setCells_same _ _ _ _ (by rw [lp]; exact htA)
  have htC : (wB.drew.setCells (w.heap.size + 1) 0 L).there w.heap.size 0 L.length := by rw [lp]; exact World.there_setCells (show wB.drew.there w.heap.size 0 32 from htR) _ _ _
  have hbC : Below w.heap.size w (wB.drew.setCells (w.heap.size + 1) 0 L) := below_setCells (by omega) _ _ _ hbB.drew
  clear hrun
  generalize wB.drew.setCells (w.heap.size + 1) 0 L = wC at *
  refine hK.out _ _ J1 (fun _ => ?_)
  clear hK K
  refine ⟨by kernel_rfl, ?_⟩
  refine NoPanic.normal ?_
  try simp only [qA, qB, qC, Act.put, qD, qE, qF]
  go_wp2_with (first | (refine wpList_load_mid rfl 104 _ rfl (w.heap.size + 1) 0 rfl L _ hrC Tryz.underlying104 rfl ip ?_) | (refine wpList_store_abs rfl 104 _ _ rfl w.heap.size 0 L rfl rfl htC ip op ?_; intro w2 _hw2 hr2 _ht2 hb2; clear _hw2 _ht2))
  exact ret_cell rfl w.heap.size 0 L _ rfl hr2 Tryz.underlying104 rfl ip rfl ⟨by rw [hL], hbC.trans (hb2 _ (Nat.le_refl _))⟩
/-- The hash of one text. -/
theorem of_msg (K : Nat → Int) (x : ByteArray) (W : World) (hx : x.size ≤ 140737488355000) (T : Tab K W) :
    Calls Tryz.prog 54 #[.slice (some ⟨W.heap.size, 0, none⟩) 1 1] (W.alloc (.cells #[.string x] 9)) fun e w' => e = .returned (.agg (hV (sumOf K x)).toArray) ∧ Below (W.heap.size + 1) (W.alloc (.cells #[.string x] 9)) w' := by
  have T0 := T.below ((Below.refl _ W).alloc (Nat.le_refl _) (.cells #[.string x] 9))
  have hof := of_any [x] W.heap.size 1 K (W.alloc (.cells #[.string x] 9)) (by simp) (by simp)
    (by simp [joinN, numsOf_length]; omega)
    (fun j hj => by
      rw [World.cell?_alloc_at _ _ _ _ (by simp)]
      have hj2 : j < 1 := hj
      obtain rfl : j = 0 := by omega
      rfl) T0.lt T0.cells
  rw [hV_sum K (joinN [x]) x (by simp [joinN])] at hof
  rw [show [x].length = 1 from rfl] at hof
  simpa using hof
def finB (V : ByteArray) (c : Nat) : ByteArray := if c < 67 then pieceF V c else zT0
/-- The leaf to which a signature's values lead. -/
def finT (H : ByteArray → ByteArray) (V msg : ByteArray) : ByteArray := chainsT H (finB V) (fun c => 15 - dig (H msg) c) 67

set_option maxRecDepth 10000 in
set_option maxHeartbeats 1000000 in
theorem finish_any (K : Nat → Int) (V msg : ByteArray) (w : World) (hV1 : V.size = 2144) (hm : msg.size ≤ 140737488355000) (T : Tab K w) :
    Calls Tryz.prog 126 #[.string V, .string msg] w (strPost1 (finT (sumOf K) V msg) w) := by
  have hmf : ∀ (fn : Fn) (first cap : Array Value) (w : World), (Instr.makeFunc fn first cap).run Tryz.prog w = .ok (.func fn first cap) w := fun _ _ _ _ => rfl
  have hb0 : Below w.heap.size w (w.alloc (.cells #[.string V] 9)) := (Below.refl _ _).alloc (Nat.le_refl _) _
  have cv : (w.alloc (.cells #[.string V] 9)).cell? ⟨w.heap.size, 0, none⟩ = some (.string V) := by rw [World.cell?_alloc_at _ _ _ _ rfl]; rfl
  have hof := of_msg K msg (w.alloc (.cells #[.string V] 9)) hm (T.below hb0)
  have hz0 : (w.alloc (.cells #[.string V] 9)).heap.size = w.heap.size + 1 := by simp
  rw [hz0] at hof
  have h32 := sumOf_size K msg
  have hdg := fun W => digits_any (sumOf K msg) h32 W
  have HAL : Hid (∀ W (bd : Nat), Below w.heap.size w W → W.cell? ⟨w.heap.size, 0, none⟩ = some (.string V) → W.rangeAt bd 0 (digV (sumOf K msg)) → bd < W.heap.size → w.heap.size < W.heap.size → Calls Tryz.prog 115 #[.func (.func 153) #[] #[.pointer (some ⟨w.heap.size, 0, none⟩)], .func (.func 154) #[] #[.pointer (some ⟨bd, 0, none⟩)]] W (strPost1 (finT (sumOf K) V msg) W)) := fun W bd hb hc hr hbd hzz =>
    along_fin K (finB V) (fun c => 15 - dig (sumOf K msg) c) w.heap.size bd W (T.below hb) (fun c => by unfold finB; split; exact pieceF_size V c (by omega); rfl) (fun c => by omega)
      (fun W' hb' c hc' => by
        have := finish1_any V c w.heap.size W' (by omega) (by omega) ((hb'.cell (p := ⟨w.heap.size, 0, none⟩) hzz).trans hc)
        rw [show finB V c = pieceF V c by unfold finB; rw [if_pos hc']]
        exact this)
      (fun W' hb' c hc' => finish2_any (sumOf K msg) c bd W' hc' (fun j u hu => (hb'.cell (p := ⟨bd, 0 + j, none⟩) hbd).trans (hr j u hu)))
  have HT : Hid (Tab K w) := T
  have idv := digV_info (sumOf K msg)
  have odv := digV_one (sumOf K msg)
  have ldv := digV_len (sumOf K msg)
  generalize finT (sumOf K) V msg = R at *
  generalize digV (sumOf K msg) = D at *
  generalize sumOf K msg = hm0 at *
  clear T
  go_enter Tryz.func126, Tryz.ntmps126
  go_wp2_with fail
  refine hof.mono ?_
  rintro e w1 ⟨rfl, hb1⟩
  clear hof
  have hb1' : Below (w.heap.size + 1) (w.alloc (.cells #[.string V] 9)) w1 := ((Below.refl _ _).alloc (by simp) _).trans (hb1.mono (by omega))
  have hB1 : Below w.heap.size w w1 := hb0.trans (hb1'.mono (by omega))
  have cv1 : w1.cell? ⟨w.heap.size, 0, none⟩ = some (.string V) := (hb1'.cell (p := ⟨w.heap.size, 0, none⟩) (by show w.heap.size < w.heap.size + 1; omega)).trans cv
  have hz1 : w.heap.size < w1.heap.size := by have := hb1'.size; simp at this; omega
  clear hb1 hb1' cv hb0
  go_wp2_with fail
  refine (hdg w1).mono ?_
  rintro e w2 ⟨rfl, hb2⟩
  clear hdg
  have hB2 : Below w.heap.size w w2 := hB1.trans (hb2.mono hB1.size)
  have cv2 : w2.cell? ⟨w.heap.size, 0, none⟩ = some (.string V) := (hb2.cell (p := ⟨w.heap.size, 0, none⟩) hz1).trans cv1
  have hz2 : w.heap.size < w2.heap.size := Nat.lt_of_lt_of_le hz1 hb2.size
  have ht2 : (w2.alloc (.cells z67.toArray 246)).there w2.heap.size 0 D.length := by rw [ldv]; exact there_z67 w2
  clear hb2 cv1
  go_wp2_with (first | (refine wpList_alloc_of rfl 246 rfl z67.toArray alloc_67 ?_) | (refine wpList_store_abs rfl 246 _ _ rfl w2.heap.size 0 D rfl rfl ht2 idv odv ?_; intro w3 _hw3 hr3 _ht3 hb3; clear _hw3 _ht3))
  have hb23 : Below w2.heap.size w2 w3 := ((Below.refl _ _).alloc (Nat.le_refl _) _).trans (hb3 _ (Nat.le_refl _))
  have hB3 : Below w.heap.size w w3 := hB2.trans (hb23.mono hB2.size)
  have cv3 : w3.cell? ⟨w.heap.size, 0, none⟩ = some (.string V) := (hb23.cell (p := ⟨w.heap.size, 0, none⟩) hz2).trans cv2
  have hq3 : w2.heap.size < w3.heap.size := by have := (hb3 _ (Nat.le_refl _)).size; simp at this; omega
  refine (HAL.out w3 w2.heap.size hB3 cv3 hr3 hq3 (by omega)).mono ?_
  rintro e w4 ⟨rfl, hb4⟩
  go_wp2_with fail
  go_ret
  exact ⟨rfl, hB3.trans (hb4.mono hB3.size)⟩
/-- The leaf of key k. -/
def leafF (H : ByteArray → ByteArray) (seed : ByteArray) (k : Nat) : ByteArray := chainsT H (beginF H seed k) (fun _ => 15) 67
/-- A row of texts in block B, of which q have been laid. -/
structure PartAt (B N q : Nat) (F : Nat → ByteArray) (w0 w : World) : Prop where
  cells : ∀ j, j < q → w.cell? ⟨B, j, none⟩ = some (.string (F j))
  room : w.there B 0 N
  lt : B < w.heap.size
  b : Below B w0 w
theorem PartAt.below {B N q : Nat} {F : Nat → ByteArray} {w0 w w' : World} (H : PartAt B N q F w0 w) (hb : Below w.heap.size w w') : PartAt B N q F w0 w' :=
  ⟨fun j hj => (hb.cell (p := ⟨B, j, none⟩) H.lt).trans (H.cells j hj), there_below hb H.lt H.room, Nat.lt_of_lt_of_le H.lt hb.size, H.b.trans (hb.mono (Nat.le_of_lt H.lt))⟩
theorem PartAt.at {B N q : Nat} {F : Nat → ByteArray} {w0 w : World} (H : PartAt B N q F w0 w) (hq : q < N) : (∃ x, w.cell? ⟨B, q, none⟩ = some x) ∧ w.frozen? ⟨B, q, none⟩ = false := by
  have := H.room q hq
  rw [Nat.zero_add] at this
  exact ⟨Option.isSome_iff_exists.1 this.1, this.2⟩
theorem PartAt.put {B N q : Nat} {F : Nat → ByteArray} {w0 w : World} (H : PartAt B N q F w0 w) (hq : q < N) : PartAt B N (q + 1) F w0 (w.setCell ⟨B, q, none⟩ (.string (F q))) := by
  obtain ⟨⟨x, hx⟩, _⟩ := H.at hq
  refine ⟨fun j hj => ?_, World.there_setCells H.room B q [_], by simpa using H.lt, H.b.setCell (p := ⟨B, q, none⟩) (Nat.le_refl _) _⟩
  rcases Nat.lt_or_ge j q with h | h
  · rw [World.cell?_setCell_other (w := w) (a := ⟨B, q, none⟩) (b := ⟨B, j, none⟩) _ (by intro e; have := congrArg Addr.off e; simp at this; omega)]
    exact H.cells j h
  · obtain rfl : j = q := by omega
    exact World.cell?_setCell_same _ _ _ hx
theorem PartAt.leaf {B N : Nat} {F : Nat → ByteArray} {w0 w : World} (H : PartAt B N N F w0 w) : LeafAt w (.slice (some ⟨B, 0, none⟩) N N) ((List.range N).map F) :=
  Or.inr ⟨B, 0, N, by simp, by simp, fun j hj => by rw [Nat.zero_add, H.cells j (by simpa using hj)]; simp⟩

set_option maxRecDepth 10000 in
set_option maxHeartbeats 1000000 in
theorem rowLeaves_any (K : Nat → Int) (seed : ByteArray) (h : Nat) (w : World) (hh : h ≤ 5) (hs : seed.size ≤ 100000) (T : Tab K w) :
    Calls Tryz.prog 76 #[.string seed, .int .i64 h] w fun e w' => e = .returned (.slice (some ⟨w.heap.size, 0, none⟩) (2 ^ h) (2 ^ h)) ∧ PartAt w.heap.size (2 ^ h) (2 ^ h) (leafF (sumOf K) seed) w w' := by
  have hkc := keyCount_any h w (by omega)
  have hN1 : 2 ^ h ≤ 32 := Nat.pow_le_pow_right (n := 2) (by omega) hh
  have HAL : Hid (∀ (q : Nat) W W1, Below w.heap.size w W → W1.cell? ⟨W.heap.size, 0, none⟩ = some (.string seed) → W1.cell? ⟨W.heap.size + 1, 0, none⟩ = some (.int .i64 q) → Below W.heap.size W W1 → Calls Tryz.prog 115 #[.func (.func 148) #[] #[.pointer (some ⟨W.heap.size, 0, none⟩), .pointer (some ⟨W.heap.size + 1, 0, none⟩)], .func (.func 117) #[] #[]] W1 (strPost1 (leafF (sumOf K) seed q) W1)) := fun q W W1 hb c1 c2 hb1 => by
    have T1 := T.below (hb.trans (hb1.mono hb.size))
    have l1 := World.block_lt_of_cell? W1 _ c1
    have l2 := World.block_lt_of_cell? W1 _ c2
    exact along_leaf K (beginF (sumOf K) seed q) (fun _ => 15) W.heap.size (W.heap.size + 1) W1 T1 (fun c => sumOf_size K _) (fun _ => Nat.le_refl _)
      (fun W' hb' c hc => begin1_any K seed q c W.heap.size (W.heap.size + 1) W' hs ((hb'.cell (p := ⟨W.heap.size, 0, none⟩) l1).trans c1) ((hb'.cell (p := ⟨W.heap.size + 1, 0, none⟩) l2).trans c2) (T1.below hb'))
      (fun W' hb' c hc => leaves1_any c W')
  clear T
  generalize leafF (sumOf K) seed = F at *
  generalize 2 ^ h = N at *
  obtain ⟨i0, hi, hz, hsz, hby⟩ := info_strT
  go_enter Tryz.func76, Tryz.ntmps76
  go_wp2_with fail
  refine hkc.mono ?_
  rintro e w' ⟨rfl, rfl⟩
  clear hkc
  go_wp2_with (at_make; refine wpList_make_full _ rfl _ _ 51 rfl w'.heap.size 9 i0 (.string ⟨#[]⟩) 1 Tryz.underlying51 hi hz hsz .i64 .i64 _ _ N rfl rfl ?L ?C ?b2 ?b3 (Nat.le_refl _) ?_)
  case L => go_num
  case C => go_num
  case b2 => rw [hby]; omega
  case b3 => unfold maxLen; omega
  intro w1 ho hg1
  have hB1 : Below w'.heap.size w' w1 := (Below.refl _ _).grown hg1 (Nat.le_refl _) (fun k hk => by cases hk)
  have hz1 := (ho.lt w'.heap.size rfl).2
  have ht1 : w1.there w'.heap.size 0 N := own_there ho
  have HP : Hid (PartAt w'.heap.size N 0 F w' w1) := ⟨fun j hj => by omega, ht1, hz1, hB1⟩
  clear ho hg1 hB1 hz1 ht1
  go_wp2_with fail
  go_loopw [12] (fun i wr => ∃ q : Nat, i = .int .i64 q ∧ q ≤ N ∧ Hid (PartAt w'.heap.size N q F w' wr)) (fun i _ => N - (intOf i).toNat)
  case atStart => exact ⟨0, rfl, Nat.zero_le _, HP⟩
  case round =>
    obtain ⟨q, rfl, hq, hI⟩ := hrel
    by_cases hlt : q < N
    · have q1 : (q : Int) < (N : Int) := by omega
      have q0 : (0 : Int) ≤ (q : Int) := by omega
      go_wp2_with fail
      refine (beginnings_any seed q wr).mono ?_
      rintro e w2 ⟨rfl, c1, c2, hb2⟩
      have hal := HAL.out q wr w2 hI.out.b c1 c2 hb2
      have HP2 := hI.out.below hb2
      obtain ⟨s, es⟩ : ∃ s, s = F q := ⟨_, rfl⟩
      rw [← es] at hal
      have HS : Hid (s = F q) := es
      clear es c1 c2 hb2
      go_wp2_with fail
      refine hal.mono ?_
      rintro e w3 ⟨rfl, hb3⟩
      clear hal
      have HP3 : Hid (PartAt w'.heap.size N q F w' w3) := HP2.below hb3
      clear hb3 HP2
      obtain ⟨⟨x3, cx3⟩, fx3⟩ := HP3.out.at hlt
      go_wp2_with fail
      refine ⟨⟨q + 1, by go_num, by omega, ?_⟩, ?_⟩
      · rw [HS.out]; exact HP3.out.put hlt
      · simp [intOf]; omega
    · have q1 : ¬ (q : Int) < (N : Int) := by omega
      obtain rfl : q = N := by omega
      go_wp2_with fail
      go_ret
      exact ⟨rfl, hI.out⟩

theorem run_cut_str (X : ByteArray) (a b : Nat) (w : World) (hab : a ≤ b) (hb : b ≤ X.size) :
    (Instr.slice 9 (.string X) (some (.int .i64 (a : Int))) (some (.int .i64 (b : Int))) none).run Tryz.prog w = .ok (.string (X.extract a b)) w := by
  have h1 : (a : Int) ≤ (b : Int) := by omega
  have h2 : (b : Int) ≤ (X.size : Int) := by omega
  have h3 : (0 : Int) ≤ (a : Int) := by omega
  have h4 : (0 : Int) ≤ (b : Int) := by omega
  go_simp
theorem run_cut_piece (X : ByteArray) (q : Nat) (w : World) (hb : 32 * q + 32 ≤ X.size) :
    (Instr.slice 9 (.string X) (some (.int .i64 ((q : Int) * 32))) (some (.int .i64 (((q : Int) + 1) * 32))) none).run Tryz.prog w = .ok (.string (pieceF X q)) w := by
  have := run_cut_str X (32 * q) (32 * q + 32) w (by omega) hb
  rw [show ((32 * q : Nat) : Int) = (q : Int) * 32 by omega, show ((32 * q + 32 : Nat) : Int) = ((q : Int) + 1) * 32 by omega] at this
  exact this

set_option maxRecDepth 10000 in
set_option maxHeartbeats 1000000 in
theorem cutS_any (X : ByteArray) (h : Nat) (w : World) (hh : h ≤ 8) (hx : X.size = 32 * h) :
    Calls Tryz.prog 127 #[.string X] w fun e w' => e = .returned (.slice (some ⟨w.heap.size, 0, none⟩) h h) ∧ PartAt w.heap.size h h (pieceF X) w w' := by
  obtain ⟨i0, hi, hz, hsz, hby⟩ := info_strT
  have hq : ((X.size : Nat) : Int).tdiv 32 = (h : Int) := by rw [hx, Int.tdiv_eq_ediv_of_nonneg (by omega)]; omega
  have hl : ((X.size : Nat) : Int) ≤ 256 := by omega
  have HX : Hid (X.size = 32 * h) := hx
  clear hx
  go_enter Tryz.func127, Tryz.ntmps127
  go_wp2_with (at_make; refine wpList_make_full _ rfl _ _ 51 rfl w.heap.size 9 i0 (.string ⟨#[]⟩) 1 Tryz.underlying51 hi hz hsz .i64 .i64 _ _ h rfl rfl ?L ?C ?b2 ?b3 (Nat.le_refl _) ?_)
  case L => go_num
  case C => go_num
  case b2 => rw [hby]; omega
  case b3 => unfold maxLen; omega
  intro w1 ho hg1
  have hB1 : Below w.heap.size w w1 := (Below.refl _ _).grown hg1 (Nat.le_refl _) (fun k hk => by cases hk)
  have hz1 := (ho.lt w.heap.size rfl).2
  have ht1 : w1.there w.heap.size 0 h := own_there ho
  have HP : Hid (PartAt w.heap.size h 0 (pieceF X) w w1) := ⟨fun j hj => by omega, ht1, hz1, hB1⟩
  clear ho hg1 hB1 hz1 ht1
  go_wp2_with fail
  go_loopw [11] (fun i wr => ∃ q : Nat, i = .int .i64 q ∧ q ≤ h ∧ Hid (PartAt w.heap.size h q (pieceF X) w wr)) (fun i _ => h - (intOf i).toNat)
  case atStart => exact ⟨0, rfl, Nat.zero_le _, HP⟩
  case round =>
    obtain ⟨q, rfl, hq, hI⟩ := hrel
    by_cases hlt : q < h
    · have q1 : (q : Int) < (h : Int) := by omega
      have q0 : (0 : Int) ≤ (q : Int) := by omega
      have hX := HX.out
      have hsl := fun W => run_cut_piece X q W (by omega)
      have hw1 : IntKind.i64.wrap ((q : Int) * 32) = (q : Int) * 32 := wrap_small _ (by omega) (by omega)
      have hw2 : IntKind.i64.wrap ((q : Int) + 1) = (q : Int) + 1 := wrap_small _ (by omega) (by omega)
      have hw3 : IntKind.i64.wrap (((q : Int) + 1) * 32) = ((q : Int) + 1) * 32 := wrap_small _ (by omega) (by omega)
      obtain ⟨⟨x3, cx3⟩, fx3⟩ := hI.out.at hlt
      clear hX
      go_wp2_with fail
      refine ⟨⟨q + 1, by go_num, by omega, ?_⟩, ?_⟩
      · exact hI.out.put hlt
      · simp [intOf]; omega
    · have q1 : ¬ (q : Int) < (h : Int) := by omega
      obtain rfl : q = h := by omega
      go_wp2_with fail
      go_ret
      exact ⟨rfl, hI.out⟩
set_option maxHeartbeats 400000 in
theorem pfits_any (t : ByteArray) (h : Int) (w : World) (ht : t.size ≤ 140737488355000) : Calls Tryz.prog 74 #[.string t, .int .i64 h] w fun e w' => e = .returned (.bool (decide (t.size = 32 ∧ 0 ≤ h ∧ h ≤ 5))) ∧ Below w.heap.size w w' := by
  go_enter Tryz.func74, Tryz.ntmps74
  by_cases h1 : t.size = 32
  · have e1 : ((t.size : Nat) : Int) = 32 := by omega
    by_cases h2 : 0 ≤ h
    · by_cases h3 : h ≤ 5
      · go_wp2_with fail
        go_ret
        exact ⟨by simp [h1, h2, h3], Below.refl _ _⟩
      · go_wp2_with fail
        go_ret
        exact ⟨by simp [h1, h2, h3], Below.refl _ _⟩
    · go_wp2_with fail
      go_ret
      exact ⟨by simp [h1, h2]; omega, Below.refl _ _⟩
  · have e1 : ¬ ((t.size : Nat) : Int) = 32 := by omega
    go_wp2_with fail
    go_ret
    exact ⟨by simp [h1], Below.refl _ _⟩
/-- An entry's event, as bytes. -/
def evT (K : Nat → Int) (e : En) : ByteArray := strOfNums (evBytes e.c e.n e.o e.p e.vv e.k (numsOf (dgT K e)))
/-- An entry whose event is whole. -/
def En.whole (e : En) : Prop := wholeB e.c e.n e.o e.p e.vv e.k = true ∧ e.t.size ≤ 8 ∧ e.tt.size ≤ 8
theorem evT_size (K : Nat → Int) (e : En) : (evT K e).size = 42 := by
  unfold evT evBytes; rw [strOfNums_size]; simp [fourN, numsOf_length, dgT, sumOf_size]
def en0 : En := ⟨0, 0, 0, 0, 0, ⟨#[]⟩, 0, 0, ⟨#[]⟩⟩
/-- Event q of a log. -/
def evF (K : Nat → Int) (L : List En) (q : Nat) : ByteArray := evT K (L.getD q en0)
theorem evF_all (K : Nat → Int) (L : List En) (n : Nat) (hn : n ≤ L.length) : (List.range n).map (evF K L) = (L.take n).map (evT K) := by
  apply List.ext_getElem
  · simp; omega
  · intro i h1 h2
    simp at h1
    simp [evF, List.getD, List.getElem?_eq_getElem (show i < L.length by omega)]
/-- Encode of an entry's event. -/
theorem enc_event (K : Nat → Int) (e : En) (w : World) (he : e.whole) :
    Calls Tryz.prog 149 #[.agg (evCells e.c e.n e.o e.p e.vv e.k (hV (dgT K e))).toArray] w fun r w' => r = .returned (.tuple #[.string (evT K e), .nilIface]) ∧ Below w.heap.size w w' :=
  encode_yes e.c e.n e.o e.p e.vv e.k (numsOf (dgT K e)) w (by rw [numsOf_length]; exact sumOf_size K _) he.1

set_option maxRecDepth 10000 in
set_option maxHeartbeats 2000000 in
theorem bevents_any (K : Nat → Int) (bk j lm m cc ky : Nat) (lv : Value) (L : List En) (G F : Nat → Prop) (D : DataW Unit) (N : Nat) (w : World) (h : BookAt w bk j lm m cc ky lv L G F D) (hN : N ≤ L.length) (hL : L.length ≤ 1000) (hw : ∀ e ∈ L, e.whole) (T : Tab K w) :
    Calls Tryz.prog 120 #[.pointer (some ⟨bk, 0, none⟩), .int .i64 (N : Nat)] w fun e w' => e = .returned (.slice (some ⟨w.heap.size, 0, none⟩) N N) ∧ PartAt w.heap.size N N (evF K L) w w' := by
  have HB : Hid (BookAt w bk j lm m cc ky lv L G F D) := h
  have HW : Hid (∀ e ∈ L, e.whole) := hw
  have HT : Hid (Tab K w) := T
  clear h hw T
  have hN1 : N ≤ 1000 := by omega
  obtain ⟨i0, hi, hz, hsz, hby⟩ := info_strT
  go_enter Tryz.func120, Tryz.ntmps120
  go_wp2_with (at_make; refine wpList_make_full _ rfl _ _ 51 rfl w.heap.size 9 i0 (.string ⟨#[]⟩) 1 Tryz.underlying51 hi hz hsz .i64 .i64 _ _ N rfl rfl ?L ?C ?b2 ?b3 (Nat.le_refl _) ?_)
  case L => go_num
  case C => go_num
  case b2 => rw [hby]; omega
  case b3 => unfold maxLen; omega
  intro w1 ho hg1
  have hB1 : Below w.heap.size w w1 := (Below.refl _ _).grown hg1 (Nat.le_refl _) (fun k hk => by cases hk)
  have hz1 := (ho.lt w.heap.size rfl).2
  have ht1 : w1.there w.heap.size 0 N := own_there ho
  have HP : Hid (PartAt w.heap.size N 0 (evF K L) w w1) := ⟨fun j hj => by omega, ht1, hz1, hB1⟩
  clear ho hg1 hB1 hz1 ht1
  go_wp2_with fail
  go_loopw [11] (fun i wr => ∃ q : Nat, i = .int .i64 q ∧ q ≤ N ∧ Hid (PartAt w.heap.size N q (evF K L) w wr)) (fun i _ => N - (intOf i).toNat)
  case atStart => exact ⟨0, rfl, Nat.zero_le _, HP⟩
  case round =>
    obtain ⟨q, rfl, hq, hI⟩ := hrel
    by_cases hlt : q < N
    · have q1 : (q : Int) < (N : Int) := by omega
      have q0 : (0 : Int) ≤ (q : Int) := by omega
      have q2 : (q : Int) < (L.length : Int) := by omega
      obtain ⟨e, he⟩ : ∃ e, L[q]? = some e := ⟨L[q]'(by omega), List.getElem?_eq_getElem _⟩
      have bq := HB.out.fresh hI.out.b
      obtain ⟨g, cap, hlv, hg, hr⟩ := bq.entry q e he
      have c1 : wr.cell? ⟨bk, 1, none⟩ = some (.slice (some ⟨g, 0, none⟩) L.length cap) := by rw [← hlv]; exact bq.cells 1 _ rfl
      have hwe := HW.out e (List.mem_of_getElem? he)
      have hev := eevent_any K e wr hwe.2.1 hwe.2.2 (HT.out.below hI.out.b)
      have HE9 := info_en9 e
      have HEN : Hid (e.whole ∧ evF K L q = evT K e) := ⟨hwe, by unfold evF; simp [List.getD, he]⟩
      clear bq hwe hlv he
      generalize hec : e.cells.toArray = ecs at hev
      go_wp2_with (first
        | (refine wpList_load_mid rfl 168 _ rfl g (q * 9) rfl e.cells _ hr Tryz.underlying168 rfl HE9 ?_; rw [hec]))
      refine hev.mono ?_
      rintro r w2 ⟨rfl, hb2⟩
      have henc := enc_event K e w2 HEN.out.1
      have HP2 := hI.out.below hb2
      clear hev hb2 c1 hr
      generalize hvc : (evCells e.c e.n e.o e.p e.vv e.k (hV (dgT K e))).toArray = vcs at henc ⊢
      go_wp2_with fail
      refine henc.mono ?_
      rintro r w3 ⟨rfl, hb3⟩
      have HP3 : Hid (PartAt w.heap.size N q (evF K L) w w3) := HP2.below hb3
      clear henc hb3 HP2
      obtain ⟨⟨x3, cx3⟩, fx3⟩ := HP3.out.at hlt
      go_wp2_with fail
      refine ⟨⟨q + 1, by go_num, by omega, ?_⟩, ?_⟩
      · rw [← HEN.out.2]; exact HP3.out.put hlt
      · simp [intOf]; omega
    · have q1 : ¬ (q : Int) < (N : Int) := by omega
      obtain rfl : q = N := by omega
      go_wp2_with fail
      go_ret
      exact ⟨rfl, hI.out⟩
/-- One more key is used. -/
theorem BookAt.keyed {w : World} {bk j lm m cc ky : Nat} {lv : Value} {L : List En} {G F : Nat → Prop} {D : DataW Unit} (h : BookAt w bk j lm m cc ky lv L G F D) : BookAt (w.setCell ⟨bk, 4, none⟩ (.int .i64 ((ky + 1 : Nat) : Int))) bk j lm m cc (ky + 1) lv L G F D := by
  have hk : Kept (· = bk) w (w.setCell ⟨bk, 4, none⟩ (.int .i64 ((ky + 1 : Nat) : Int))) := Kept.setCell _ _ _ (Or.inl rfl)
  refine ⟨by simpa using h.lt, fun i x hx => ?_, World.there_setCells h.room bk 4 [_], hk.own h.log (fun g hg => (h.logs g hg).1), ?_, h.recs.kept hk (fun g hg e => h.apart.1 (by rw [← e]; exact hg)), h.ens, h.apart, h.logs⟩
  · match i, hx with
    | 4, hx => exact (World.cell?_setCell_same _ ⟨bk, 4, none⟩ _ (u := .int .i64 (ky : Nat)) (h.cells 4 _ rfl)).trans hx
    | 0, hx => rw [World.cell?_setCell_other _ _ _ _ (by intro e; have := congrArg Addr.off e; simp at this)]; exact h.cells 0 _ hx
    | 1, hx => rw [World.cell?_setCell_other _ _ _ _ (by intro e; have := congrArg Addr.off e; simp at this)]; exact h.cells 1 _ hx
    | 2, hx => rw [World.cell?_setCell_other _ _ _ _ (by intro e; have := congrArg Addr.off e; simp at this)]; exact h.cells 2 _ hx
    | 3, hx => rw [World.cell?_setCell_other _ _ _ _ (by intro e; have := congrArg Addr.off e; simp at this)]; exact h.cells 3 _ hx
    | n + 5, hx => cases hx
  · obtain ⟨es, clock, h1, h2⟩ := h.lasts
    exact ⟨es, clock, (hk.block lm (block_lt h1) (fun e => h.apart.2.2 e.symm)).trans h1, h2⟩
def keyMk : ByteArray := ⟨#[75]⟩
/-- What UseKey leaves. -/
def keyPost (q bb N j u : Nat) (bk lm m cc ky : Nat) (lv : Value) (L : List En) (G F : Nat → Prop) (D : DataW Unit) (w : World) (e : Ending) (w' : World) : Prop :=
  ∃ (C' : Nat → List Int) (l' : ByteArray), e = .returned .nilIface ∧ JAt w' q bb N j (u + 1) C' l' ∧ BookAt w' bk j lm m cc (ky + 1) lv L G F D ∧ Kept (fun g => jOwn q bb j g ∨ bkOwn bk lm lv G g) w w'
set_option maxRecDepth 10000 in
set_option maxHeartbeats 4000000 in
theorem busekey_any (K : Nat → Int) (q bb N j u : Nat) (C : Nat → List Int) (l : ByteArray) (bk lm m cc ky : Nat) (lv : Value) (L : List En) (G F : Nat → Prop) (D : DataW Unit) (w : World)
    (hA : JAt w q bb N j u C l) (h : BookAt w bk j lm m cc ky lv L G F D) (hap : ∀ g, bkOwn bk lm lv G g → ¬ jOwn q bb j g) (T : Tab K w) (hN : N ≤ 1000) (hu : u < N) (hky : ky < 1000) :
    Calls Tryz.prog 119 #[.pointer (some ⟨bk, 0, none⟩)] w (keyPost q bb N j u bk lm m cc ky lv L G F D w) := by
  have happ := jappend_any K q bb N j u C l keyMk w hN hu hA.l32 (by decide) hA.ne.1 hA.ne.2 hA.lt hA.disk hA.jour hA.room T
  have c0 : w.cell? ⟨bk, 0, none⟩ = some (.pointer (some ⟨j, 0, none⟩)) := h.cells 0 _ rfl
  have HB : Hid (BookAt w bk j lm m cc ky lv L G F D ∧ (∀ g, bkOwn bk lm lv G g → ¬ jOwn q bb j g) ∧ JAt w q bb N j u C l) := ⟨h, hap, hA⟩
  clear h hA hap T
  unfold keyMk at happ
  go_enter Tryz.func119, Tryz.ntmps119
  go_wp2_with fail
  refine happ.mono ?_
  rintro e W1 ⟨rfl, d1, r1, t1, k1⟩
  have j1 : JAt W1 q bb N j (u + 1) _ _ := ⟨d1, r1, t1, sumOf_size K _, HB.out.2.2.ne, Nat.lt_of_lt_of_le HB.out.2.2.lt k1.size⟩
  have b1 : BookAt W1 bk j lm m cc ky lv L G F D := HB.out.1.kept k1 (fun g hg e => HB.out.2.1 g hg e)
  have c4 : W1.cell? ⟨bk, 4, none⟩ = some (.int .i64 (ky : Nat)) := b1.cells 4 _ rfl
  have f4 : W1.frozen? ⟨bk, 4, none⟩ = false := (b1.room 4 (by omega)).2
  obtain ⟨W2, h2⟩ : ∃ X, X = W1.setCell ⟨bk, 4, none⟩ (.int .i64 ((ky : Int) + 1)) := ⟨_, rfl⟩
  have H2 : Hid (BookAt W2 bk j lm m cc (ky + 1) lv L G F D ∧ Kept (· = bk) W1 W2) := ⟨by rw [h2]; have := b1.keyed; rw [show ((ky + 1 : Nat) : Int) = (ky : Int) + 1 by omega] at this; exact this, by rw [h2]; exact Kept.setCell _ _ _ (Or.inl rfl)⟩
  have HJ1 : Hid (JAt W1 q bb N j (u + 1) (putAll C [(u, packN K l ⟨#[75]⟩)]) (sumOf K (l ++ ⟨#[75]⟩)) ∧ Kept (fun g => g = q ∨ g = bb ∨ g = j) w W1) := ⟨j1, k1⟩
  have y0 : (0 : Int) ≤ (ky : Int) := by omega
  have y1 : (ky : Int) < 1000 := by omega
  clear d1 r1 t1 k1 j1 b1 happ c0
  go_wp2_with (first | (rw [← h2]; clear h2))
  go_ret
  try rw [← h2]
  have hbj : ¬ jOwn q bb j bk := HB.out.2.1 bk (Or.inl rfl)
  exact ⟨_, _, rfl, HJ1.out.1.kept H2.out.2 (fun g hg e => hbj (by rw [← e]; exact hg)), H2.out.1, (HJ1.out.2.mono (fun g _ h => Or.inl h)).trans (H2.out.2.mono (S' := fun g => jOwn q bb j g ∨ bkOwn bk lm lv G g) (fun g _ h => Or.inr (Or.inl h))) (fun _ _ h => h)⟩
set_option maxRecDepth 10000 in
set_option maxHeartbeats 1000000 in
/-- write, of a method of the book's. -/
theorem nwrite_first (f : FuncId) (x : Value) (z : Nv) (nd bk j q N u : Nat) (l : ByteArray) (w : World) (Q : World → Prop) (hcf : ∀ w, (callFunc f #[x]).run Tryz.prog w = .ok (.enter f #[x]) w)
    (hn : w.rangeAt nd 0 (ndL z bk)) (hnl : nd < w.heap.size) (hbc : w.cell? ⟨bk, 0, none⟩ = some (.pointer (some ⟨j, 0, none⟩))) (hl : l.size = 32) (hj : j < w.heap.size) (hJ : w.rangeAt j 0 (jL q N l u)) (hu : u < N)
    (hdo : ∀ W, Below w.heap.size w W → Calls Tryz.prog f #[x] W fun e w' => e = .returned .nilIface ∧ Q w' ∧ w'.cell? ⟨nd, 7, none⟩ = some (.bool false) ∧ w'.frozen? ⟨nd, 7, none⟩ = false) :
    Calls Tryz.prog 97 #[.pointer (some ⟨nd, 0, none⟩), .func (.func f) #[x] #[]] w fun e w' => e = .returned .nilIface ∧ Q w' := by
  have hfull := bfull_any bk j q N u l w hbc hl hj hJ
  rw [decide_eq_false (show ¬ u = N by omega)] at hfull
  have c2 : w.cell? ⟨nd, 2, none⟩ = some (.pointer (some ⟨bk, 0, none⟩)) := hn 2 _ rfl
  clear hn hbc hJ hl hj
  go_enter Tryz.func97, Tryz.ntmps97
  go_wp2_with fail
  refine hfull.mono ?_
  rintro e W1 ⟨rfl, hb1⟩
  have hd := hdo W1 hb1
  clear hfull hb1 c2 hdo
  go_wp2_with fail
  refine hd.mono ?_
  rintro e W2 ⟨rfl, hQ, hc, hf⟩
  have hid := setCell_id hc
  clear hd
  go_wp2_with fail
  go_ret
  try rw [hid]
  exact ⟨rfl, hQ⟩
theorem enter_key (caps : Array Value) (w : World) : (callFunc 119 caps).run Tryz.prog w = .ok (.enter 119 caps) w := by kernel_rfl
/-- What behind write is there of a used key. -/
theorem nkey_any (K : Nat → Int) (z : Nv) (nd q bb N j u : Nat) (C : Nat → List Int) (l : ByteArray) (bk lm m cc ky : Nat) (lv : Value) (L : List En) (G F : Nat → Prop) (D : DataW Unit) (V : World) (h : Al K V z nd q bb N j u C l bk lm m cc ky lv L G F D) (hN : N ≤ 1000) (hu : u < N) (hky : ky < 1000) :
    Calls Tryz.prog 97 #[.pointer (some ⟨nd, 0, none⟩), .func (.func 119) #[.pointer (some ⟨bk, 0, none⟩)] #[]] V fun e w' => e = .returned .nilIface ∧ ∃ C' l', Al K w' z nd q bb N j (u + 1) C' l' bk lm m cc (ky + 1) lv L G F D ∧ Kept (alOwn q bb j bk lm lv G) V w' := by
  refine nwrite_first _ _ z nd bk j q N u l V _ (enter_key _) h.node h.nlt (h.book.cells 0 _ rfl) h.jat.l32 h.jat.lt h.jat.jour hu (fun W hb => ?_)
  have A := h.fresh hb
  have hb' : Kept (fun _ => False) V W := Kept.fresh hb
  refine (busekey_any K q bb N j u C l bk lm m cc ky lv L G F D W A.jat A.book A.ap A.tab hN hu hky).mono ?_
  rintro e W2 ⟨C', l', rfl, j2, b2, k2⟩
  have A2 := A.wrote k2 j2 b2 (fun g hg => Or.inl hg)
  exact ⟨rfl, ⟨C', l', A2, (hb'.mono (fun _ _ h => h.elim)).trans k2 (fun _ _ h => h)⟩, A2.node 7 _ rfl, (A2.room 7 (by omega)).2⟩
end Go.Proofs.YteglimjonofdeaaGreatDoor
