import Derived.Test.YteglimjonofdeaaGreatDoorAEvM
import Derived.Deep.AppendLies
set_option linter.unusedVariables false
set_option linter.unusedSimpArgs false
namespace Go.Proofs.YteglimjonofdeaaGreatDoor
open Go.RowKit

/-- Between the two boxes of join's arguments and its result's: what may turn. -/
structure JS (n : Nat) (wB w' : World) : Prop where
  b : Below (n + 2) wB w'
  t : w'.there (n + 2) 0 32
  z : n + 3 ≤ w'.heap.size
theorem JS.step {n : Nat} {wB w' w'' : World} (h : JS n wB w') (hb : Below w'.heap.size w' w'') : JS n wB w'' :=
  ⟨h.b.trans (hb.mono (by have := h.z; omega)), there_below hb (by have := h.z; omega) h.t, Nat.le_trans h.z hb.size⟩
theorem JS.store {n : Nat} {wB w' : World} (h : JS n wB w') (cs : List Value) : JS n wB (w'.setCells (n + 2) 0 cs) :=
  ⟨below_setCells (Nat.le_refl _) _ _ _ h.b, World.there_setCells h.t _ _ _, by rw [size_setCells]; exact h.z⟩

set_option maxRecDepth 10000 in
set_option maxHeartbeats 2000000 in
theorem join_any (l r : ByteArray) (K : Nat → Int) (w : World) (hl : l.size = 32) (hr : r.size = 32) (T : Tab K w) :
    Calls Tryz.prog 113 #[.agg (hV l).toArray, .agg (hV r).toArray] w fun e w' => e = .returned (.agg (hV (sumOf K (m1 ++ l ++ r))).toArray) ∧ Below w.heap.size w w' := by
  obtain ⟨wB, hwB⟩ : ∃ wB, wB = ((w.alloc (.cells (hV l).toArray 104)).alloc (.cells (hV r).toArray 104)).alloc (.cells z32.toArray 104) := ⟨_, rfl⟩
  have hbB : Below w.heap.size w wB := by rw [hwB]; exact (((Below.refl _ _).alloc (Nat.le_refl _) _).alloc (by simp) _).alloc (by simp; omega) _
  have hzB : wB.heap.size = w.heap.size + 3 := by rw [hwB]; simp
  have hrl : wB.rangeAt w.heap.size 0 (hV l) := by
    rw [hwB]; exact World.rangeAt_alloc (World.rangeAt_alloc (range_new w (hV l) 104) _) _
  have hrr : wB.rangeAt (w.heap.size + 1) 0 (hV r) := by
    rw [hwB]
    have := range_new (w.alloc (.cells (hV l).toArray 104)) (hV r) 104
    rw [show (w.alloc (.cells (hV l).toArray 104)).heap.size = w.heap.size + 1 by simp] at this
    exact World.rangeAt_alloc this _
  have htB : wB.there (w.heap.size + 2) 0 32 := by
    rw [hwB]
    have := there_z32 ((w.alloc (.cells (hV l).toArray 104)).alloc (.cells (hV r).toArray 104))
    simpa using this
  have J0 : JS w.heap.size wB wB.drew := ⟨(Below.refl _ _).drew, htB, by show _ ≤ wB.heap.size; omega⟩
  have htx : ∀ (s : ByteArray) (e : s.size = 32) (w1 : World), Calls Tryz.prog 55 #[.agg (hV s).toArray] w1 fun e w' => e = .returned (.string s) ∧ Below w1.heap.size w1 w' := fun s e w1 => by
    have := htext_any (numsOf s) w1 (by rw [numsOf_length, e])
    rw [str_nums] at this
    exact this
  have htx_l := htx l hl
  have htx_r := htx r hr
  have hof : ∀ w2, JS w.heap.size wB w2 → Calls Tryz.prog 54 #[.slice (some ⟨w2.heap.size, 0, none⟩) 3 3] (w2.alloc (.cells #[.string ⟨#[1]⟩, .string l, .string r] 9)) fun e w' => e = .returned (.agg (hV (sumOf K (m1 ++ l ++ r))).toArray) ∧ Below (w2.alloc (.cells #[.string ⟨#[1]⟩, .string l, .string r] 9)).heap.size (w2.alloc (.cells #[.string ⟨#[1]⟩, .string l, .string r] 9)) w' := fun w2 J => by
    have hT2 : Tab K w2 := ⟨by have := T.lt; have := J.z; omega, fun j hj => (J.b.cell (p := ⟨1, j, none⟩) (by have := T.lt; show 1 < _; omega)).trans ((hbB.cell (p := ⟨1, j, none⟩) T.lt).trans (T.cells j hj))⟩
    have T3 := hT2.below ((Below.refl _ w2).alloc (Nat.le_refl _) (.cells #[.string ⟨#[1]⟩, .string l, .string r] 9))
    have := of_any [m1, l, r] w2.heap.size 3 K (w2.alloc (.cells #[.string ⟨#[1]⟩, .string l, .string r] 9)) (by simp) (by simp) (by simp [joinN, numsOf_length, hl, hr, m1, numsOf])
      (fun j hj => by
        rw [World.cell?_alloc_at _ _ _ _ rfl]
        have hj2 : j < 3 := hj
        obtain rfl | rfl | rfl : j = 0 ∨ j = 1 ∨ j = 2 := by omega
        all_goals rfl) T3.lt T3.cells
    rw [hV_sum K (joinN [m1, l, r]) (m1 ++ l ++ r) (by rw [nums_app, nums_app]; simp [joinN])] at this
    exact this
  have h32 := sumOf_size K (m1 ++ l ++ r)
  generalize sumOf K (m1 ++ l ++ r) = h at *
  have hinf := hV_info h32
  have hl32 := hV_len h32
  have hil := hV_info hl
  have hir := hV_info hr
  clear T htx
  go_enter Tryz.func113, Tryz.ntmps113
  go_wp2_with (first | (refine wpList_alloc_of rfl 104 rfl z32.toArray alloc_32 ?_))
  rw [← hwB]
  clear hwB
  refine wp_region_noPanic ?_
  refine wp_region_held_drew (S := JS w.heap.size wB) (by kernel_rfl) J0 (fun _ => ?_)
  refine wpAnyH_take (i := 0) (v := .agg (hV l).toArray) rfl (by kernel_rfl) (by kernel_rfl) (by kernel_rfl) (fun _ _ _ h => h) (yieldsIf_load_mid (by rfl) 104 (.tmp 2) rfl w.heap.size 0 rfl (hV l) _ (fun w' hw' j u hu => (hw'.b.cell (p := ⟨w.heap.size, 0 + j, none⟩) (by show w.heap.size < _; omega)).trans (hrl j u hu)) Tryz.underlying104 rfl hil) J0 ?_
  simp only [qA, qB, qC, Act.put, qD, qE, qF]
  refine wpAnyH_take (i := 2) (v := .agg (hV r).toArray) rfl (by kernel_rfl) (by kernel_rfl) (by kernel_rfl) (fun _ _ _ h => h) (yieldsIf_load_mid (by rfl) 104 (.tmp 3) rfl (w.heap.size + 1) 0 rfl (hV r) _ (fun w' hw' j u hu => (hw'.b.cell (p := ⟨w.heap.size + 1, 0 + j, none⟩) (by show w.heap.size + 1 < _; omega)).trans (hrr j u hu)) Tryz.underlying104 rfl hir) J0 ?_
  simp only [qA, qB, qC, Act.put, qD, qE, qF]
  refine rk 1 (fun K hK => ?_)
  go_simp
  refine (htx_l _).mono ?_
  rintro e w1 ⟨rfl, hb⟩
  have J1 : JS w.heap.size wB w1 := J0.step hb
  refine hK.out _ _ J1 (fun _ => ?_)
  clear hK K hb
  try simp only [qA, qB, qC, Act.put, qD, qE, qF]
  refine rk 3 (fun K hK => ?_)
  go_simp
  refine (htx_r _).mono ?_
  rintro e w2 ⟨rfl, hb⟩
  have J2 : JS w.heap.size wB w2 := J1.step hb
  refine hK.out _ _ J2 (fun _ => ?_)
  clear hK K hb
  try simp only [qA, qB, qC, Act.put, qD, qE, qF]
  refine rk 4 (fun K hK => ?_)
  go_simp
  have J3 : JS w.heap.size wB (w2.alloc (.cells #[.string ⟨#[1]⟩, .string l, .string r] 9)) := J2.step ((Below.refl _ _).alloc (Nat.le_refl _) _)
  refine hK.out _ _ J3 (fun _ => ?_)
  clear hK K
  try simp only [qA, qB, qC, Act.put, qD, qE, qF]
  refine rk 5 (fun K hK => ?_)
  go_simp
  refine (hof w2 J2).mono ?_
  rintro e w4 ⟨rfl, hb⟩
  have J4 : JS w.heap.size wB w4 := J3.step hb
  refine hK.out _ _ J4 (fun _ => ?_)
  clear hK K hb
  try simp only [qA, qB, qC, Act.put, qD, qE, qF]
  refine rk 6 (fun K hK => ?_)
  refine wp_store_mid 104 (.tmp 4) (.tmp 10) rfl (w.heap.size + 2) 0 (hV h).toArray rfl rfl (by show w4.there (w.heap.size + 2) 0 (hV h).length; rw [hl32]; exact J4.t) (by show _ = some (hV h).length; exact hinf) (all_oneCell_toArray (hV_one h)) ?_
  have J5 : JS w.heap.size wB (w4.setCells (w.heap.size + 2) 0 (hV h).toArray.toList) := J4.store _
  refine hK.out _ _ J5 (fun _ => ?_)
  clear hK K
  refine ⟨by kernel_rfl, ?_⟩
  refine NoPanic.normal ?_
  try simp only [qA, qB, qC, Act.put, qD, qE, qF]
  go_wp2_with fail
  exact ret_cell rfl (w.heap.size + 2) 0 (hV h) _ rfl (by have := World.rangeAt_setCells_same w4 (w.heap.size + 2) 0 (hV h) (by rw [hl32]; exact J4.t); simpa using this) Tryz.underlying104 rfl hinf rfl ⟨rfl, hbB.trans (J5.b.mono (by omega))⟩
/-- A slice of texts, wherever it lies. -/
def LeafAt (w : World) (v : Value) (ls : List ByteArray) : Prop :=
  (ls = [] ∧ ∃ ao cap, v = .slice ao 0 cap) ∨ ∃ g off cap, v = .slice (some ⟨g, off, none⟩) ls.length cap ∧ ls.length ≤ cap ∧ ∀ j (h : j < ls.length), w.cell? ⟨g, off + j, none⟩ = some (.string (ls[j]'h))
theorem LeafAt.below {w w' : World} {v : Value} {ls : List ByteArray} (h : LeafAt w v ls) (hb : Below w.heap.size w w') : LeafAt w' v ls := by
  rcases h with h | ⟨g, off, cap, e, hc, h⟩
  · exact Or.inl h
  · refine Or.inr ⟨g, off, cap, e, hc, fun j hj => ?_⟩
    have := h j hj
    rw [hb.cell (World.block_lt_of_cell? w _ this)]; exact this
theorem leaf_take {w : World} {g off cap : Nat} {ls : List ByteArray} (k : Nat) (hk : k ≤ ls.length) (hc : ls.length ≤ cap) (h : ∀ j (h : j < ls.length), w.cell? ⟨g, off + j, none⟩ = some (.string (ls[j]'h))) : LeafAt w (.slice (some ⟨g, off, none⟩) k cap) (ls.take k) := by
  refine Or.inr ⟨g, off, cap, by simp [Nat.min_eq_left hk], by simp; omega, fun j hj => ?_⟩
  have hj' : j < k := by simp at hj; omega
  rw [List.getElem_take]
  exact h j (by omega)
theorem leaf_drop {w : World} {g off cap : Nat} {ls : List ByteArray} (k : Nat) (hk : k ≤ ls.length) (hc : ls.length ≤ cap) (h : ∀ j (h : j < ls.length), w.cell? ⟨g, off + j, none⟩ = some (.string (ls[j]'h))) : LeafAt w (.slice (some ⟨g, off + k, none⟩) (ls.length - k) (cap - k)) (ls.drop k) := by
  refine Or.inr ⟨g, off + k, cap - k, by simp, by simp; omega, fun j hj => ?_⟩
  simp at hj
  rw [List.getElem_drop, Nat.add_assoc]
  exact h (k + j) (by omega)
/-- Behind a function's result variable, the first block that it makes. -/
structure RS (n : Nat) (w w' : World) : Prop where
  b : Below n w w'
  t : w'.there n 0 32
  z : n + 1 ≤ w'.heap.size
theorem RS.step {n : Nat} {w w' w'' : World} (h : RS n w w') (hb : Below w'.heap.size w' w'') : RS n w w'' :=
  ⟨h.b.trans (hb.mono (by have := h.z; omega)), there_below hb (by have := h.z; omega) h.t, Nat.le_trans h.z hb.size⟩
theorem RS.store {n : Nat} {w w' : World} (h : RS n w w') (cs : List Value) : RS n w (w'.setCells n 0 cs) :=
  ⟨below_setCells (Nat.le_refl _) _ _ _ h.b, World.there_setCells h.t _ _ _, by rw [size_setCells]; exact h.z⟩
theorem rs_new (w : World) : RS w.heap.size w (w.alloc (.cells z32.toArray 104)) := ⟨(Below.refl _ _).alloc (Nat.le_refl _) _, there_z32 w, by simp⟩

set_option maxRecDepth 10000 in
set_option maxHeartbeats 2000000 in
theorem root_any (K : Nat → Int) : ∀ (n : Nat) (ls : List ByteArray) (v : Value) (w : World), ls.length = n → 0 < n → n ≤ 2147483647 → LeafAt w v ls → (∀ s ∈ ls, s.size ≤ 140737488355000) → Tab K w →
    Calls Tryz.prog 75 #[v] w fun e w' => e = .returned (.agg (hV (rootF (sumOf K) ls)).toArray) ∧ Below w.heap.size w w' := by
  intro n
  induction n using Nat.strongRecOn with
  | _ n ih =>
  intro ls v w hn hn0 hn1 hl hs T
  obtain ⟨g, off, cap, rfl, hcap, hc⟩ : ∃ g off cap, v = .slice (some ⟨g, off, none⟩) ls.length cap ∧ ls.length ≤ cap ∧ ∀ j (h : j < ls.length), w.cell? ⟨g, off + j, none⟩ = some (.string (ls[j]'h)) := by
    rcases hl with ⟨rfl, _⟩ | h
    · simp at hn; omega
    · exact h
  have J0 := rs_new w
  have hszF : ∀ l, (rootF (sumOf K) l).size = 32 := rootF_size (sumOf K) (sumOf_size K)
  by_cases h1 : n = 1
  · have h1' : ls.length = 1 := by omega
    obtain ⟨s, rfl⟩ : ∃ s, ls = [s] := List.length_eq_one_iff.1 h1'
    have hc0 : (w.alloc (.cells z32.toArray 104)).cell? ⟨g, off, none⟩ = some (.string s) := by
      have := hc 0 (by simp)
      rw [World.cell?_alloc_past _ _ _ (World.block_lt_of_cell? w _ this)]
      exact this
    have hr1 := rone_any s K (w.alloc (.cells z32.toArray 104)) (hs s (by simp)) (T.below ((Below.refl _ _).alloc (Nat.le_refl _) _))
    rw [show sumOf K (m0 ++ s) = rootF (sumOf K) [s] by rw [rootF]] at hr1
    have h32 := hszF [s]
    generalize rootF (sumOf K) [s] = h at *
    rw [show [s].length = 1 from rfl]
    clear ih hc hs hl T hszF
    go_enter Tryz.func75, Tryz.ntmps75
    go_wp2_with (first | (refine wpList_alloc_of rfl 104 rfl z32.toArray alloc_32 ?_))
    refine hr1.mono ?_
    rintro e w1 ⟨rfl, hb1⟩
    have J1 := J0.step hb1
    have ht : w1.there w.heap.size 0 (hV h).length := by rw [hV_len h32]; exact J1.t
    go_wp2_with (refine wpList_store_abs rfl 104 _ _ rfl w.heap.size 0 (hV h) rfl rfl ht (hV_info h32) (hV_one h) ?_; intro w2 _hw2 hr2 _ht2 hb2; clear _hw2 _ht2)
    exact ret_cell rfl w.heap.size 0 (hV h) _ rfl hr2 Tryz.underlying104 rfl (hV_info h32) rfl ⟨rfl, J1.b.trans (hb2 _ (Nat.le_refl _))⟩
  · have h2 : 2 ≤ ls.length := by omega
    have hk0 := halfN_pos ls.length
    have hk1 := halfN_lt h2
    have hsp := split_any ls.length (w.alloc (.cells z32.toArray 104)) h2 (by omega)
    have hL : ∀ W, RS w.heap.size w W → Calls Tryz.prog 75 #[.slice (some ⟨g, off, none⟩) (halfN ls.length) cap] W fun e w' => e = .returned (.agg (hV (rootF (sumOf K) (ls.take (halfN ls.length)))).toArray) ∧ Below W.heap.size W w' := fun W J =>
      ih (halfN ls.length) (by omega) (ls.take (halfN ls.length)) _ W (by simp; omega) hk0 (by omega) ((leaf_take _ (by omega) hcap hc).below J.b) (fun s hs' => hs s (List.mem_of_mem_take hs')) (T.below J.b)
    have hR : ∀ W, RS w.heap.size w W → Calls Tryz.prog 75 #[.slice (some ⟨g, off + halfN ls.length, none⟩) (ls.length - halfN ls.length) (cap - halfN ls.length)] W fun e w' => e = .returned (.agg (hV (rootF (sumOf K) (ls.drop (halfN ls.length)))).toArray) ∧ Below W.heap.size W w' := fun W J =>
      ih (ls.length - halfN ls.length) (by omega) (ls.drop (halfN ls.length)) _ W (by simp) (by omega) (by omega) ((leaf_drop _ (by omega) hcap hc).below J.b) (fun s hs' => hs s (List.mem_of_mem_drop hs')) (T.below J.b)
    have hJ : ∀ W, RS w.heap.size w W → Calls Tryz.prog 113 #[.agg (hV (rootF (sumOf K) (ls.take (halfN ls.length)))).toArray, .agg (hV (rootF (sumOf K) (ls.drop (halfN ls.length)))).toArray] W fun e w' => e = .returned (.agg (hV (rootF (sumOf K) ls)).toArray) ∧ Below W.heap.size W w' := fun W J => by
      rw [rootF_more (sumOf K) h2]
      exact join_any _ _ K W (hszF _) (hszF _) (T.below J.b)
    have h32 := hszF ls
    have hinf := hV_info h32
    have hl32 := hV_len h32
    generalize rootF (sumOf K) ls = h at *
    generalize rootF (sumOf K) (ls.take (halfN ls.length)) = a at *
    generalize rootF (sumOf K) (ls.drop (halfN ls.length)) = b at *
    generalize halfN ls.length = k at *
    clear ih hc hs hl T hszF
    generalize ls.length = N at *
    have n0 : ((N : Int) == 0) = false := by rw [beq_eq_false_iff_ne]; omega
    have n1 : ((N : Int) == 1) = false := by rw [beq_eq_false_iff_ne]; omega
    have k1 : (k : Int) ≤ (N : Int) := by omega
    have k2 : (k : Int) ≤ (cap : Int) := by omega
    have k3 : ¬ cap = k := by omega
    clear hn h1 h2
    go_enter Tryz.func75, Tryz.ntmps75
    go_wp2_with (first | (refine wpList_alloc_of rfl 104 rfl z32.toArray alloc_32 ?_))
    refine hsp.mono ?_
    rintro e w0 ⟨rfl, hw0⟩
    obtain rfl : w.alloc (.cells z32.toArray 104) = w0 := hw0.symm
    clear hw0 hsp
    go_wp2_with fail
    have J0d : RS w.heap.size w (w.alloc (.cells z32.toArray 104)).drew := ⟨J0.b.drew, J0.t, J0.z⟩
    refine wp_region_noPanic ?_
    refine wp_region_held_drew (S := RS w.heap.size w) (by kernel_rfl) J0d (fun _ => ?_)
    refine tk 0 J0d ?_
    refine tk 1 J0d ?_
    refine tk 2 J0d ?_
    refine tk 4 J0d ?_
    refine tk 5 J0d ?_
    refine tk 6 J0d ?_
    refine rk 3 (fun K hK => ?_)
    go_simp
    refine (hL _ J0d).mono ?_
    rintro e w1 ⟨rfl, hb⟩
    have J1 : RS w.heap.size w w1 := J0d.step hb
    refine hK.out _ _ J1 (fun _ => ?_)
    clear hK K hb
    try simp only [qA, qB, qC, Act.put, qD, qE, qF]
    refine rk 7 (fun K hK => ?_)
    go_simp
    refine (hR _ J1).mono ?_
    rintro e w2 ⟨rfl, hb⟩
    have J2 : RS w.heap.size w w2 := J1.step hb
    refine hK.out _ _ J2 (fun _ => ?_)
    clear hK K hb
    try simp only [qA, qB, qC, Act.put, qD, qE, qF]
    refine rk 8 (fun K hK => ?_)
    go_simp
    refine (hJ _ J2).mono ?_
    rintro e w3 ⟨rfl, hb⟩
    have J3 : RS w.heap.size w w3 := J2.step hb
    refine hK.out _ _ J3 (fun _ => ?_)
    clear hK K hb
    try simp only [qA, qB, qC, Act.put, qD, qE, qF]
    refine rk 9 (fun K hK => ?_)
    refine wp_store_mid 104 (.tmp 2) (.tmp 26) rfl w.heap.size 0 (hV h).toArray rfl rfl (by show w3.there w.heap.size 0 (hV h).length; rw [hl32]; exact J3.t) (by show _ = some (hV h).length; exact hinf) (all_oneCell_toArray (hV_one h)) ?_
    have J5 : RS w.heap.size w (w3.setCells w.heap.size 0 (hV h).toArray.toList) := J3.store _
    refine hK.out _ _ J5 (fun _ => ?_)
    clear hK K
    refine ⟨by kernel_rfl, ?_⟩
    refine NoPanic.normal ?_
    try simp only [qA, qB, qC, Act.put, qD, qE, qF]
    go_wp2_with fail
    exact ret_cell rfl w.heap.size 0 (hV h) _ rfl (by have := World.rangeAt_setCells_same w3 w.heap.size 0 (hV h) (by rw [hl32]; exact J3.t); simpa using this) Tryz.underlying104 rfl hinf rfl ⟨rfl, J5.b⟩
def errIx : Value := .iface 41 (.int .i64 10)
/-- A list of texts that a call has made. -/
def madeL (w w' : World) (e : Ending) (l : List ByteArray) : Prop := ∃ ao cap, e = .returned (.slice ao l.length cap) ∧ w'.ownsRow w.heap.size 9 1 (.slice ao l.length cap) l.length (l.map .string) ∧ Below w.heap.size w w'

theorem leaf_form {w : World} {v : Value} {ls : List ByteArray} (h : LeafAt w v ls) : ∃ ao cap, v = .slice ao ls.length cap := by
  rcases h with ⟨rfl, ao, cap, rfl⟩ | ⟨g, off, cap, rfl, _⟩
  · exact ⟨ao, cap, rfl⟩
  · exact ⟨_, cap, rfl⟩

end Go.Proofs.YteglimjonofdeaaGreatDoor
