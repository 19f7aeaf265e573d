import Derived.Test.YteebdadnfaekmaaDoorTEq
set_option linter.unusedVariables false
set_option linter.unusedSimpArgs false
namespace Go.Proofs.YteebdadnfaekmaaDoor
open Go.RowKit

set_option maxRecDepth 10000 in
set_option maxHeartbeats 1000000 in
theorem climb_one (s : ByteArray) (i : Int) (ao : Option Addr) (m cap : Nat) (h : ByteArray) (w : World) (h32 : h.size = 32)
    (hr : ∀ W, Below w.heap.size w W → Calls Tryd.prog 57 #[.string s] W fun e w' => e = .returned (.agg (hV h).toArray) ∧ Below W.heap.size W w') :
    Calls Tryd.prog 62 #[.string s, .int .i64 i, .int .i64 1, .slice ao m cap] w fun e w' => e = .returned (.tuple #[.agg (hV h).toArray, .bool ((m : Int) == 0)]) ∧ Below w.heap.size w w' := by
  have R0 := rs_new w
  have hr1 := hr _ R0.b
  have hinf := hV_info h32
  have hone := hV_one h
  have hl := hV_len h32
  clear hr
  go_enter Tryd.func62, Tryd.ntmps62
  go_wp2_with (first | (refine wpList_alloc_of rfl 54 rfl z32.toArray alloc_32 ?_))
  refine hr1.mono ?_
  rintro e w1 ⟨rfl, hb1⟩
  have R1 := R0.step hb1
  have ht : w1.there w.heap.size 0 (hV h).length := by rw [hl]; exact R1.t
  clear hr1
  go_wp2_with (refine wpList_store_abs rfl 54 _ _ rfl w.heap.size 0 (hV h) rfl rfl ht hinf hone ?_; intro w2 _hw2 hr2 _ht2 hb2; clear _hw2 _ht2)
  exact ret_cell_tmp rfl w.heap.size 0 (hV h) _ _ rfl rfl hr2 Tryd.underlying54 rfl hinf rfl ⟨rfl, R1.b.trans (hb2 _ (Nat.le_refl _))⟩

set_option maxRecDepth 10000 in
set_option maxHeartbeats 1000000 in
theorem climb_bad (s : ByteArray) (i n : Int) (v : Value) (v' : Value) (cs : List Value) (w : World) (hn : (n == 1) = false) (hl : cs.length = 32) (hone : ∀ u ∈ cs, u.oneCell' = true)
    (hcut : ∀ W, Below w.heap.size w W → Calls Tryd.prog 85 #[v] W fun e w' => e = .returned (.tuple #[v', .agg cs.toArray, .bool false]) ∧ Below W.heap.size W w') :
    Calls Tryd.prog 62 #[.string s, .int .i64 i, .int .i64 n, v] w fun e w' => e = .returned (.tuple #[.agg z32.toArray, .bool false]) ∧ Below w.heap.size w w' := by
  have R0 := rs_new w
  have hc1 := hcut _ R0.b
  have hinf : (Tryd.prog.info? 54).map (·.size) = some cs.length := by rw [hl]; exact info_hash
  clear hcut
  go_enter Tryd.func62, Tryd.ntmps62
  go_wp2_with (first | (refine wpList_alloc_of rfl 54 rfl z32.toArray alloc_32 ?_))
  refine hc1.mono ?_
  rintro e w1 ⟨rfl, hb1⟩
  have R1 := R0.step hb1
  have ht1 : (w1.alloc (.cells z32.toArray 54)).there w1.heap.size 0 cs.length := by rw [hl]; exact there_z32 w1
  clear hc1 hb1
  go_wp2_with (first | (refine wpList_alloc_of rfl 54 rfl z32.toArray alloc_32 ?_) | (refine wpList_store_abs rfl 54 _ _ rfl w1.heap.size 0 cs rfl rfl ht1 hinf hone ?_; intro w2 _hw2 hr2 _ht2 hb2; clear _hw2 _ht2; have R2 : RS w.heap.size w w2 := R1.step (((Below.refl _ _).alloc (Nat.le_refl _) _).trans (hb2 _ (Nat.le_refl _))); have ht2 : w2.there w.heap.size 0 z32.length := R2.t) | (refine wpList_build_of rfl 54 rfl z32.toArray build_h32 ?_) | (refine wpList_store_abs rfl 54 _ _ rfl w.heap.size 0 z32 rfl rfl ht2 z32_info z32_one ?_; intro w3 _hw3 hr3 _ht3 hb3; clear _hw3 _ht3))
  exact ret_cell_tmp rfl w.heap.size 0 z32 _ _ rfl rfl hr3 Tryd.underlying54 rfl z32_info rfl ⟨rfl, R2.b.trans (hb3 _ (Nat.le_refl _))⟩
end Go.Proofs.YteebdadnfaekmaaDoor
