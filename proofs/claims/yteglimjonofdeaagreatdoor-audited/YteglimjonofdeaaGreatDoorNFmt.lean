import Derived.Test.YteglimjonofdeaaGreatDoorNStamp
import Derived.Deep.DeepCutAuto
set_option linter.unusedVariables false
set_option linter.unusedSimpArgs false
namespace Go.Proofs.YteglimjonofdeaaGreatDoor
open Go.RowKit

/-- What every journal's header is linked to. -/
def origT : ByteArray := ⟨#[97, 117, 100, 105, 116, 98, 111, 111, 107, 44, 32, 106, 111, 117, 114, 110, 97, 108, 32, 49]⟩
/-- A device at rest, and a volume of it, while a call goes on. -/
structure Lv (p bb n a : Nat) (C : Nat → List Int) (w W : World) : Prop where
  kept : Kept (· = p) w W
  disk : DiskAt W p bb n C (.slice none 0 0) []
  vol : W.rangeAt a 0 (volL p n)
theorem Lv.go {p bb n a : Nat} {C : Nat → List Int} {w W W' : World} (h : Lv p bb n a C w W) (hap : a ≠ p) (hal : a < w.heap.size) (hk : Kept (· = p) W W') (hd : DiskAt W' p bb n C (.slice none 0 0) []) : Lv p bb n a C w W' :=
  ⟨h.kept.trans hk (fun _ _ h => h), hd, fun j v hv => (hk.cell (a := ⟨a, 0 + j, none⟩) (Nat.lt_of_lt_of_le hal h.kept.size) hap).trans (h.vol j v hv)⟩
theorem Lv.fresh {p bb n a : Nat} {C : Nat → List Int} {w W W' : World} (h : Lv p bb n a C w W) (hap : a ≠ p) (hal : a < w.heap.size) (hb : Below W.heap.size W W') : Lv p bb n a C w W' := h.go hap hal (Kept.fresh hb) (h.disk.fresh hb)
/-- A row that was made meanwhile. -/
def Rw (w W : World) (q m : Nat) : Prop := W.there q 0 m ∧ w.heap.size ≤ q ∧ q < W.heap.size
theorem Rw.go {w W W' : World} {q m p : Nat} (h : Rw w W q m) (hp : p < w.heap.size) (hk : Kept (· = p) W W') : Rw w W' q m :=
  ⟨fun j hj => by rw [hk.cell (a := ⟨q, 0 + j, none⟩) h.2.2 (by have := h.2.1; show ¬ q = p; omega), hk.frozen (a := ⟨q, 0 + j, none⟩) h.2.2 (by have := h.2.1; show ¬ q = p; omega)]; exact h.1 j hj, h.2.1, Nat.lt_of_lt_of_le h.2.2 hk.size⟩
/-- A cell that was made meanwhile. -/
def Cl (w W : World) (q : Nat) (v : Value) : Prop := W.cell? ⟨q, 0, none⟩ = some v ∧ w.heap.size ≤ q ∧ q < W.heap.size
theorem Cl.go {w W W' : World} {q p : Nat} {v : Value} (h : Cl w W q v) (hp : p < w.heap.size) (hk : Kept (· = p) W W') : Cl w W' q v :=
  ⟨(hk.cell (a := ⟨q, 0, none⟩) h.2.2 (by have := h.2.1; show ¬ q = p; omega)).trans h.1, h.2.1, Nat.lt_of_lt_of_le h.2.2 hk.size⟩
theorem of_one (K : Nat → Int) (W : World) (q : Nat) (s : ByteArray) (hc : W.cell? ⟨q, 0, none⟩ = some (.string s)) (hq : q < W.heap.size) (hs : s.size ≤ 100000) (T : Tab K W) :
    Calls Tryz.prog 54 #[.slice (some ⟨q, 0, none⟩) 1 1] W fun e w' => e = .returned (.agg (hV (sumOf K s)).toArray) ∧ Below W.heap.size W w' := by
  have hof := of_any [s] q 1 K W hq (by simp) (by simp [joinN, numsOf_length]; omega)
    (fun j hj => by
      have hj2 : j < 1 := hj
      obtain rfl : j = 0 := by omega
      exact hc) T.lt T.cells
  rw [hV_sum K (joinN [s]) s (by simp [joinN])] at hof
  exact hof

theorem blkC_congr (C C' : Nat → List Int) : ∀ n, (∀ i, i < n → C i = C' i) → blkC C n = blkC C' n
  | 0, _ => rfl
  | n + 1, h => by rw [blkC, blkC, blkC_congr C C' n (fun i hi => h i (by omega)), h n (by omega)]
theorem DiskAt.congr {w : World} {p bb n : Nat} {C C' : Nat → List Int} {cv : Value} {L : List (Nat × List Int)} (h : DiskAt w p bb n C cv L) (hc : ∀ i, i < n → C i = C' i) : DiskAt w p bb n C' cv L :=
  ⟨h.head, by rw [← blkC_congr C C' n hc]; exact h.blocks, h.cache, h.apart, fun i hi => by rw [← hc i hi]; exact h.len i hi, h.lens⟩
/-- The blocks of an empty journal. -/
def fmtC (hd : List Int) : Nat → List Int := fun i => if i = 0 then hd else z128
/-- The writes of noughts, so far. -/
def wipeL (k : Nat) : List (Nat × List Int) := (List.range k).map fun i => (i + 1, z128)
theorem wipeL_succ (k : Nat) : wipeL (k + 1) = wipeL k ++ [(k + 1, z128)] := by unfold wipeL; rw [List.range_succ, List.map_append]; rfl
theorem wipeL_len (k : Nat) : (wipeL k).length = k := by unfold wipeL; simp
theorem put_wipe (C : Nat → List Int) : ∀ k i, putAll C (wipeL k) i = if 1 ≤ i ∧ i ≤ k then z128 else C i
  | 0, i => by rw [if_neg (by omega)]; rfl
  | k + 1, i => by
    rw [wipeL_succ, putAll_snoc]
    unfold putC
    by_cases h : i = k + 1
    · rw [if_pos h, if_pos (by omega)]
    · rw [if_neg h, put_wipe C k i]
      by_cases h2 : 1 ≤ i ∧ i ≤ k
      · rw [if_pos h2, if_pos (by omega)]
      · rw [if_neg h2, if_neg (by omega)]
theorem vol_kept {p n a : Nat} {S : Nat → Prop} {W W' : World} (h : W.rangeAt a 0 (volL p n)) (hk : Kept S W W') (ha : a < W.heap.size) (hn : ¬ S a) : W'.rangeAt a 0 (volL p n) :=
  fun j v hv => (hk.cell (a := ⟨a, 0 + j, none⟩) ha hn).trans (h j v hv)
/-- What Format leaves. -/
def fmtPost (K : Nat → Int) (p bb n : Nat) (C : Nat → List Int) (w : World) (e : Ending) (w' : World) : Prop :=
  e = .returned (.tuple #[]) ∧ DiskAt w' p bb n (fmtC (packN K (sumOf K origT) (stampT K C n))) (.slice none 0 0) [] ∧ Kept (fun g => g = p ∨ g = bb) w w'

set_option maxRecDepth 10000 in
set_option maxHeartbeats 8000000 in
theorem format1_any (K : Nat → Int) (p bb n a : Nat) (C : Nat → List Int) (w : World) (hn : n ≤ 1000) (hn0 : 0 < n) (hap : a ≠ p) (hab : a ≠ bb) (hal : a < w.heap.size) (L0 : Lv p bb n a C w w) (hC : ∀ i, i < n → ∀ x ∈ C i, 0 ≤ x ∧ x < 256) (T : Tab K w) (hpT : ¬ 1 = p) :
    Calls Tryz.prog 160 #[.pointer (some ⟨a, 0, none⟩)] w (fmtPost K p bb n C w) := by
  have hpl := L0.disk.lt.1
  have HT : Hid (Tab K w) := T
  have HIV : Hid ((Tryz.prog.info? 222).map (·.size) = some (volL p n).length) := info_vol p n
  obtain ⟨H0, hH0⟩ : ∃ H, H = sumOf K origT := ⟨_, rfl⟩
  have hH32 : H0.size = 32 := by rw [hH0]; exact sumOf_size K _
  obtain ⟨ST, hST⟩ : ∃ S, S = stampT K C n := ⟨_, rfl⟩
  have hS18 : ST.size = 18 := by rw [hST]; exact stampT_size K C n
  have HOF : Hid (∀ W q, Cl w W q (.string (⟨#[97, 117, 100, 105, 116, 98, 111, 111, 107, 44, 32, 106, 111, 117, 114, 110, 97, 108, 32, 49]⟩ : ByteArray)) → Tab K W → Calls Tryz.prog 54 #[.slice (some ⟨q, 0, none⟩) 1 1] W fun e w' => e = .returned (.agg (hV H0).toArray) ∧ Below W.heap.size W w') := fun W q hc hT => by
    have := of_one K W q origT hc.1 hc.2.2 (by decide) hT
    rw [← hH0] at this; exact this
  have HST : Hid (∀ W, Lv p bb n a C w W → Tab K W → Calls Tryz.prog 162 #[.agg (volL p n).toArray] W fun e w' => e = .returned (.string ST) ∧ DiskAt w' p bb n C (.slice none 0 0) [] ∧ Kept (· = p) W w') := fun W hL hT => by
    have := stamp_any K p bb n C W hn hn0 hL.disk hC hT hpT
    rw [← hST] at this; exact this
  obtain ⟨hd, hhd⟩ : ∃ h, h = packN K H0 ST := ⟨_, rfl⟩
  have hdl : hd.length = 128 := by rw [hhd]; exact packN_len K H0 ST (by omega)
  obtain ⟨H1, hH1⟩ : ∃ H, H = sumOf K (H0 ++ ST) := ⟨_, rfl⟩
  have hH132 : H1.size = 32 := by rw [hH1]; exact sumOf_size K _
  have HPK : Hid (∀ W, Tab K W → Calls Tryz.prog 161 #[.agg (hV H0).toArray, .string ST] W fun e w' => e = .returned (.tuple #[.agg (bytesV hd).toArray, .agg (hV H1).toArray]) ∧ Below W.heap.size W w') := fun W hT => by
    have := pack_any K H0 ST W hH32 (by omega) hT
    unfold packPost at this
    rw [← hhd, ← hH1] at this; exact this
  have HTW : Hid (∀ W, Lv p bb n a C w W → Tab K W) := fun W hL => HT.out.kept hL.kept hpT
  have HIB : Hid ((Tryz.prog.info? 254).map (·.size) = some (bytesV hd).length) := info_dblk hd hdl
  have HIH : Hid ((Tryz.prog.info? 104).map (·.size) = some (hV H1).length) := hV_info hH132
  have HHD : Hid (hd = packN K (sumOf K origT) (stampT K C n)) := by show _ = _; rw [hhd, hH0, hST]
  have e128 : (bytesV hd).toArray.size = 128 := by rw [List.size_toArray, bytesV_length, hdl]
  have e32 : (hV H1).toArray.size = 32 := by rw [List.size_toArray, hV_len hH132]
  clear hH0 hST hhd hH1 T
  go_enter Tryz.func160, Tryz.ntmps160
  go_wp2_with fail
  have h0 : Lv p bb n a C w w.drew := L0.fresh hap hal (Below.refl _ _).drew
  go_cut [1] (fun v1 wc => ∃ q, v1 = .pointer (some ⟨q, 0, none⟩) ∧ Lv p bb n a C w wc ∧ w.heap.size ≤ q ∧ q < wc.heap.size ∧ wc.rangeAt q 0 (bytesV hd))
  case first =>
    refine wp_region_noPanic ?_
    refine wp_region_held_drew (S := fun W => W.rangeAt a 0 (volL p n)) (by kernel_rfl) h0.vol (fun _ => ?_)
    generalize w.drew = W0 at *
    refine wpAnyH_take (i := 2) (v := .agg (volL p n).toArray) rfl (by kernel_rfl) (by kernel_rfl) (by kernel_rfl) (fun _ _ _ h => h) (yieldsIf_load_mid (by rfl) 222 _ rfl a 0 rfl (volL p n) _ (fun W hW => hW) Tryz.underlying222 rfl HIV.out) h0.vol ?_
    simp only [qA, qB, qC, Act.put, qD, qE, qF]
    refine wpAnyH_ready (rs := [0, 8, 9]) (by kernel_rfl) (by simp) ?_
    refine AllReadyH.cons rfl (fun K' hK' => ?_) (AllReadyH.cons rfl (fun K' hK' => ?_) (AllReadyH.cons rfl (fun K' hK' => ?_) AllReadyH.nil))
    rw [if_pos (by rfl)]
    go_simp
    have b1 : Below W0.heap.size W0 (W0.alloc (.cells #[.string (⟨#[97, 117, 100, 105, 116, 98, 111, 111, 107, 44, 32, 106, 111, 117, 114, 110, 97, 108, 32, 49]⟩ : ByteArray)] 9)) := (Below.refl _ _).alloc (Nat.le_refl _) _
    have h1 := h0.fresh hap hal b1
    have c5_1 : Cl w (W0.alloc (.cells #[.string (⟨#[97, 117, 100, 105, 116, 98, 111, 111, 107, 44, 32, 106, 111, 117, 114, 110, 97, 108, 32, 49]⟩ : ByteArray)] 9)) W0.heap.size (.string (⟨#[97, 117, 100, 105, 116, 98, 111, 111, 107, 44, 32, 106, 111, 117, 114, 110, 97, 108, 32, 49]⟩ : ByteArray)) := ⟨by rw [World.cell?_alloc_at _ _ _ _ rfl]; rfl, h0.kept.size, by simp⟩
    clear b1
    generalize hq5 : W0.heap.size = q5 at c5_1 ⊢
    clear hq5
    generalize (W0.alloc (.cells #[.string (⟨#[97, 117, 100, 105, 116, 98, 111, 111, 107, 44, 32, 106, 111, 117, 114, 110, 97, 108, 32, 49]⟩ : ByteArray)] 9)) = W1 at *
    refine hK'.out _ _ h1.vol (fun _ => ?_)
    clear hK' K'
    try simp only [qA, qB, qC, Act.put, qD, qE, qF]
    refine wpAnyH_ready (rs := [1, 8, 9]) (by kernel_rfl) (by simp) ?_
    refine AllReadyH.cons rfl (fun K' hK' => ?_) (AllReadyH.cons rfl (fun K' hK' => ?_) (AllReadyH.cons rfl (fun K' hK' => ?_) AllReadyH.nil))
    rw [if_pos (by rfl)]
    go_simp
    refine (HOF.out W1 q5 c5_1 (HTW.out _ h1)).mono ?_
    rintro e W2 ⟨rfl, b2⟩
    have h2 := h1.fresh hap hal b2
    refine hK'.out _ _ h2.vol (fun _ => ?_)
    clear hK' K'
    try simp only [qA, qB, qC, Act.put, qD, qE, qF]
    refine wpAnyH_ready (rs := [3, 8, 9]) (by kernel_rfl) (by simp) ?_
    refine AllReadyH.cons rfl (fun K' hK' => ?_) (AllReadyH.cons rfl (fun K' hK' => ?_) (AllReadyH.cons rfl (fun K' hK' => ?_) AllReadyH.nil))
    rw [if_pos (by rfl)]
    go_simp
    refine (HST.out W2 h2 (HTW.out _ h2)).mono ?_
    rintro e W3 ⟨rfl, d3, b3⟩
    have h3 := h2.go hap hal b3 d3
    refine hK'.out _ _ h3.vol (fun _ => ?_)
    clear hK' K'
    try simp only [qA, qB, qC, Act.put, qD, qE, qF]
    refine wpAnyH_ready (rs := [4, 8, 9]) (by kernel_rfl) (by simp) ?_
    refine AllReadyH.cons rfl (fun K' hK' => ?_) (AllReadyH.cons rfl (fun K' hK' => ?_) (AllReadyH.cons rfl (fun K' hK' => ?_) AllReadyH.nil))
    rw [if_pos (by rfl)]
    go_simp
    refine (HPK.out W3 (HTW.out _ h3)).mono ?_
    rintro e W4 ⟨rfl, b4⟩
    have h4 := h3.fresh hap hal b4
    refine hK'.out _ _ h4.vol (fun _ => ?_)
    clear hK' K'
    try simp only [qA, qB, qC, Act.put, qD, qE, qF]
    refine tk 5 h4.vol ?_
    refine tk 6 h4.vol ?_
    refine tk 7 h4.vol ?_
    refine wpAnyH_ready (rs := [8, 9]) (by kernel_rfl) (by simp) ?_
    refine AllReadyH.cons rfl (fun K' hK' => ?_) (AllReadyH.cons rfl (fun K' hK' => ?_) AllReadyH.nil)
    rw [if_pos (by rfl)]
    refine wp_alloc_abs 254 rfl zB alloc_blk ?_
    intro W5 q8 b5 lo5 hi5 th5
    have h5 := h4.fresh hap hal b5
    have r8_5 : Rw w W5 q8 128 := ⟨th5, Nat.le_trans h4.kept.size lo5, hi5⟩
    refine hK'.out _ _ h5.vol (fun _ => ?_)
    clear hK' K'
    try simp only [qA, qB, qC, Act.put, qD, qE, qF]
    refine rk 9 (fun K' hK' => ?_)
    refine wp_alloc_abs 104 rfl z32 alloc_32 ?_
    intro W6 q9 b6 lo6 hi6 th6
    have h6 := h5.fresh hap hal b6
    have r8_6 := r8_5.go hpl (Kept.fresh b6)
    have r9_6 : Rw w W6 q9 32 := ⟨th6, Nat.le_trans h5.kept.size lo6, hi6⟩
    have ne89 : q8 ≠ q9 := by have := r8_5.2.2; omega
    refine hK'.out _ _ h6.vol (fun _ => ?_)
    clear hK' K'
    try simp only [qA, qB, qC, Act.put, qD, qE, qF]
    all_goals skip
    rotate_left 1
    rw [if_pos (by rfl)]
    refine wp_alloc_abs 104 rfl z32 alloc_32 ?_
    intro W5 q9 b5 lo5 hi5 th5
    have h5 := h4.fresh hap hal b5
    have r9_5 : Rw w W5 q9 32 := ⟨th5, Nat.le_trans h4.kept.size lo5, hi5⟩
    refine hK'.out _ _ h5.vol (fun _ => ?_)
    clear hK' K'
    try simp only [qA, qB, qC, Act.put, qD, qE, qF]
    refine rk 8 (fun K' hK' => ?_)
    refine wp_alloc_abs 254 rfl zB alloc_blk ?_
    intro W6 q8 b6 lo6 hi6 th6
    have h6 := h5.fresh hap hal b6
    have r9_6 := r9_5.go hpl (Kept.fresh b6)
    have r8_6 : Rw w W6 q8 128 := ⟨th6, Nat.le_trans h5.kept.size lo6, hi6⟩
    have ne89 : q8 ≠ q9 := by have := r9_5.2.2; omega
    refine hK'.out _ _ h6.vol (fun _ => ?_)
    clear hK' K'
    try simp only [qA, qB, qC, Act.put, qD, qE, qF]
    all_goals skip
    rotate_left 1
    rw [if_pos (by rfl)]
    refine wp_alloc_abs 254 rfl zB alloc_blk ?_
    intro W4 q8 b4 lo4 hi4 th4
    have h4 := h3.fresh hap hal b4
    have r8_4 : Rw w W4 q8 128 := ⟨th4, Nat.le_trans h3.kept.size lo4, hi4⟩
    refine hK'.out _ _ h4.vol (fun _ => ?_)
    clear hK' K'
    try simp only [qA, qB, qC, Act.put, qD, qE, qF]
    refine wpAnyH_ready (rs := [4, 9]) (by kernel_rfl) (by simp) ?_
    refine AllReadyH.cons rfl (fun K' hK' => ?_) (AllReadyH.cons rfl (fun K' hK' => ?_) AllReadyH.nil)
    rw [if_pos (by rfl)]
    go_simp
    refine (HPK.out W4 (HTW.out _ h4)).mono ?_
    rintro e W5 ⟨rfl, b5⟩
    have h5 := h4.fresh hap hal b5
    have r8_5 := r8_4.go hpl (Kept.fresh b5)
    refine hK'.out _ _ h5.vol (fun _ => ?_)
    clear hK' K'
    try simp only [qA, qB, qC, Act.put, qD, qE, qF]
    refine tk 5 h5.vol ?_
    refine tk 6 h5.vol ?_
    refine tk 7 h5.vol ?_
    refine rk 9 (fun K' hK' => ?_)
    refine wp_alloc_abs 104 rfl z32 alloc_32 ?_
    intro W6 q9 b6 lo6 hi6 th6
    have h6 := h5.fresh hap hal b6
    have r8_6 := r8_5.go hpl (Kept.fresh b6)
    have r9_6 : Rw w W6 q9 32 := ⟨th6, Nat.le_trans h5.kept.size lo6, hi6⟩
    have ne89 : q8 ≠ q9 := by have := r8_5.2.2; omega
    refine hK'.out _ _ h6.vol (fun _ => ?_)
    clear hK' K'
    try simp only [qA, qB, qC, Act.put, qD, qE, qF]
    all_goals skip
    rotate_left 1
    rw [if_pos (by rfl)]
    refine wp_alloc_abs 104 rfl z32 alloc_32 ?_
    intro W5 q9 b5 lo5 hi5 th5
    have h5 := h4.fresh hap hal b5
    have r8_5 := r8_4.go hpl (Kept.fresh b5)
    have r9_5 : Rw w W5 q9 32 := ⟨th5, Nat.le_trans h4.kept.size lo5, hi5⟩
    have ne89 : q8 ≠ q9 := by have := r8_4.2.2; omega
    refine hK'.out _ _ h5.vol (fun _ => ?_)
    clear hK' K'
    try simp only [qA, qB, qC, Act.put, qD, qE, qF]
    refine rk 4 (fun K' hK' => ?_)
    go_simp
    refine (HPK.out W5 (HTW.out _ h5)).mono ?_
    rintro e W6 ⟨rfl, b6⟩
    have h6 := h5.fresh hap hal b6
    have r8_6 := r8_5.go hpl (Kept.fresh b6)
    have r9_6 := r9_5.go hpl (Kept.fresh b6)
    refine hK'.out _ _ h6.vol (fun _ => ?_)
    clear hK' K'
    try simp only [qA, qB, qC, Act.put, qD, qE, qF]
    refine tk 5 h6.vol ?_
    refine tk 6 h6.vol ?_
    refine tk 7 h6.vol ?_
    all_goals skip
    rotate_left 1
    rw [if_pos (by rfl)]
    refine wp_alloc_abs 104 rfl z32 alloc_32 ?_
    intro W4 q9 b4 lo4 hi4 th4
    have h4 := h3.fresh hap hal b4
    have r9_4 : Rw w W4 q9 32 := ⟨th4, Nat.le_trans h3.kept.size lo4, hi4⟩
    refine hK'.out _ _ h4.vol (fun _ => ?_)
    clear hK' K'
    try simp only [qA, qB, qC, Act.put, qD, qE, qF]
    refine wpAnyH_ready (rs := [4, 8]) (by kernel_rfl) (by simp) ?_
    refine AllReadyH.cons rfl (fun K' hK' => ?_) (AllReadyH.cons rfl (fun K' hK' => ?_) AllReadyH.nil)
    rw [if_pos (by rfl)]
    go_simp
    refine (HPK.out W4 (HTW.out _ h4)).mono ?_
    rintro e W5 ⟨rfl, b5⟩
    have h5 := h4.fresh hap hal b5
    have r9_5 := r9_4.go hpl (Kept.fresh b5)
    refine hK'.out _ _ h5.vol (fun _ => ?_)
    clear hK' K'
    try simp only [qA, qB, qC, Act.put, qD, qE, qF]
    refine tk 5 h5.vol ?_
    refine tk 6 h5.vol ?_
    refine tk 7 h5.vol ?_
    refine rk 8 (fun K' hK' => ?_)
    refine wp_alloc_abs 254 rfl zB alloc_blk ?_
    intro W6 q8 b6 lo6 hi6 th6
    have h6 := h5.fresh hap hal b6
    have r9_6 := r9_5.go hpl (Kept.fresh b6)
    have r8_6 : Rw w W6 q8 128 := ⟨th6, Nat.le_trans h5.kept.size lo6, hi6⟩
    have ne89 : q8 ≠ q9 := by have := r9_5.2.2; omega
    refine hK'.out _ _ h6.vol (fun _ => ?_)
    clear hK' K'
    try simp only [qA, qB, qC, Act.put, qD, qE, qF]
    all_goals skip
    rotate_left 1
    rw [if_pos (by rfl)]
    refine wp_alloc_abs 254 rfl zB alloc_blk ?_
    intro W5 q8 b5 lo5 hi5 th5
    have h5 := h4.fresh hap hal b5
    have r9_5 := r9_4.go hpl (Kept.fresh b5)
    have r8_5 : Rw w W5 q8 128 := ⟨th5, Nat.le_trans h4.kept.size lo5, hi5⟩
    have ne89 : q8 ≠ q9 := by have := r9_4.2.2; omega
    refine hK'.out _ _ h5.vol (fun _ => ?_)
    clear hK' K'
    try simp only [qA, qB, qC, Act.put, qD, qE, qF]
    refine rk 4 (fun K' hK' => ?_)
    go_simp
    refine (HPK.out W5 (HTW.out _ h5)).mono ?_
    rintro e W6 ⟨rfl, b6⟩
    have h6 := h5.fresh hap hal b6
    have r8_6 := r8_5.go hpl (Kept.fresh b6)
    have r9_6 := r9_5.go hpl (Kept.fresh b6)
    refine hK'.out _ _ h6.vol (fun _ => ?_)
    clear hK' K'
    try simp only [qA, qB, qC, Act.put, qD, qE, qF]
    refine tk 5 h6.vol ?_
    refine tk 6 h6.vol ?_
    refine tk 7 h6.vol ?_
    all_goals skip
    rotate_left 1
    rw [if_pos (by rfl)]
    refine wp_alloc_abs 254 rfl zB alloc_blk ?_
    intro W3 q8 b3 lo3 hi3 th3
    have h3 := h2.fresh hap hal b3
    have r8_3 : Rw w W3 q8 128 := ⟨th3, Nat.le_trans h2.kept.size lo3, hi3⟩
    refine hK'.out _ _ h3.vol (fun _ => ?_)
    clear hK' K'
    try simp only [qA, qB, qC, Act.put, qD, qE, qF]
    refine wpAnyH_ready (rs := [3, 9]) (by kernel_rfl) (by simp) ?_
    refine AllReadyH.cons rfl (fun K' hK' => ?_) (AllReadyH.cons rfl (fun K' hK' => ?_) AllReadyH.nil)
    rw [if_pos (by rfl)]
    go_simp
    refine (HST.out W3 h3 (HTW.out _ h3)).mono ?_
    rintro e W4 ⟨rfl, d4, b4⟩
    have h4 := h3.go hap hal b4 d4
    have r8_4 := r8_3.go hpl b4
    refine hK'.out _ _ h4.vol (fun _ => ?_)
    clear hK' K'
    try simp only [qA, qB, qC, Act.put, qD, qE, qF]
    refine wpAnyH_ready (rs := [4, 9]) (by kernel_rfl) (by simp) ?_
    refine AllReadyH.cons rfl (fun K' hK' => ?_) (AllReadyH.cons rfl (fun K' hK' => ?_) AllReadyH.nil)
    rw [if_pos (by rfl)]
    go_simp
    refine (HPK.out W4 (HTW.out _ h4)).mono ?_
    rintro e W5 ⟨rfl, b5⟩
    have h5 := h4.fresh hap hal b5
    have r8_5 := r8_4.go hpl (Kept.fresh b5)
    refine hK'.out _ _ h5.vol (fun _ => ?_)
    clear hK' K'
    try simp only [qA, qB, qC, Act.put, qD, qE, qF]
    refine tk 5 h5.vol ?_
    refine tk 6 h5.vol ?_
    refine tk 7 h5.vol ?_
    refine rk 9 (fun K' hK' => ?_)
    refine wp_alloc_abs 104 rfl z32 alloc_32 ?_
    intro W6 q9 b6 lo6 hi6 th6
    have h6 := h5.fresh hap hal b6
    have r8_6 := r8_5.go hpl (Kept.fresh b6)
    have r9_6 : Rw w W6 q9 32 := ⟨th6, Nat.le_trans h5.kept.size lo6, hi6⟩
    have ne89 : q8 ≠ q9 := by have := r8_5.2.2; omega
    refine hK'.out _ _ h6.vol (fun _ => ?_)
    clear hK' K'
    try simp only [qA, qB, qC, Act.put, qD, qE, qF]
    all_goals skip
    rotate_left 1
    rw [if_pos (by rfl)]
    refine wp_alloc_abs 104 rfl z32 alloc_32 ?_
    intro W5 q9 b5 lo5 hi5 th5
    have h5 := h4.fresh hap hal b5
    have r8_5 := r8_4.go hpl (Kept.fresh b5)
    have r9_5 : Rw w W5 q9 32 := ⟨th5, Nat.le_trans h4.kept.size lo5, hi5⟩
    have ne89 : q8 ≠ q9 := by have := r8_4.2.2; omega
    refine hK'.out _ _ h5.vol (fun _ => ?_)
    clear hK' K'
    try simp only [qA, qB, qC, Act.put, qD, qE, qF]
    refine rk 4 (fun K' hK' => ?_)
    go_simp
    refine (HPK.out W5 (HTW.out _ h5)).mono ?_
    rintro e W6 ⟨rfl, b6⟩
    have h6 := h5.fresh hap hal b6
    have r8_6 := r8_5.go hpl (Kept.fresh b6)
    have r9_6 := r9_5.go hpl (Kept.fresh b6)
    refine hK'.out _ _ h6.vol (fun _ => ?_)
    clear hK' K'
    try simp only [qA, qB, qC, Act.put, qD, qE, qF]
    refine tk 5 h6.vol ?_
    refine tk 6 h6.vol ?_
    refine tk 7 h6.vol ?_
    all_goals skip
    rotate_left 1
    rw [if_pos (by rfl)]
    refine wp_alloc_abs 104 rfl z32 alloc_32 ?_
    intro W4 q9 b4 lo4 hi4 th4
    have h4 := h3.fresh hap hal b4
    have r8_4 := r8_3.go hpl (Kept.fresh b4)
    have r9_4 : Rw w W4 q9 32 := ⟨th4, Nat.le_trans h3.kept.size lo4, hi4⟩
    have ne89 : q8 ≠ q9 := by have := r8_3.2.2; omega
    refine hK'.out _ _ h4.vol (fun _ => ?_)
    clear hK' K'
    try simp only [qA, qB, qC, Act.put, qD, qE, qF]
    refine rk 3 (fun K' hK' => ?_)
    go_simp
    refine (HST.out W4 h4 (HTW.out _ h4)).mono ?_
    rintro e W5 ⟨rfl, d5, b5⟩
    have h5 := h4.go hap hal b5 d5
    have r8_5 := r8_4.go hpl b5
    have r9_5 := r9_4.go hpl b5
    refine hK'.out _ _ h5.vol (fun _ => ?_)
    clear hK' K'
    try simp only [qA, qB, qC, Act.put, qD, qE, qF]
    refine rk 4 (fun K' hK' => ?_)
    go_simp
    refine (HPK.out W5 (HTW.out _ h5)).mono ?_
    rintro e W6 ⟨rfl, b6⟩
    have h6 := h5.fresh hap hal b6
    have r8_6 := r8_5.go hpl (Kept.fresh b6)
    have r9_6 := r9_5.go hpl (Kept.fresh b6)
    refine hK'.out _ _ h6.vol (fun _ => ?_)
    clear hK' K'
    try simp only [qA, qB, qC, Act.put, qD, qE, qF]
    refine tk 5 h6.vol ?_
    refine tk 6 h6.vol ?_
    refine tk 7 h6.vol ?_
    all_goals skip
    rotate_left 1
    rw [if_pos (by rfl)]
    refine wp_alloc_abs 104 rfl z32 alloc_32 ?_
    intro W3 q9 b3 lo3 hi3 th3
    have h3 := h2.fresh hap hal b3
    have r9_3 : Rw w W3 q9 32 := ⟨th3, Nat.le_trans h2.kept.size lo3, hi3⟩
    refine hK'.out _ _ h3.vol (fun _ => ?_)
    clear hK' K'
    try simp only [qA, qB, qC, Act.put, qD, qE, qF]
    refine wpAnyH_ready (rs := [3, 8]) (by kernel_rfl) (by simp) ?_
    refine AllReadyH.cons rfl (fun K' hK' => ?_) (AllReadyH.cons rfl (fun K' hK' => ?_) AllReadyH.nil)
    rw [if_pos (by rfl)]
    go_simp
    refine (HST.out W3 h3 (HTW.out _ h3)).mono ?_
    rintro e W4 ⟨rfl, d4, b4⟩
    have h4 := h3.go hap hal b4 d4
    have r9_4 := r9_3.go hpl b4
    refine hK'.out _ _ h4.vol (fun _ => ?_)
    clear hK' K'
    try simp only [qA, qB, qC, Act.put, qD, qE, qF]
    refine wpAnyH_ready (rs := [4, 8]) (by kernel_rfl) (by simp) ?_
    refine AllReadyH.cons rfl (fun K' hK' => ?_) (AllReadyH.cons rfl (fun K' hK' => ?_) AllReadyH.nil)
    rw [if_pos (by rfl)]
    go_simp
    refine (HPK.out W4 (HTW.out _ h4)).mono ?_
    rintro e W5 ⟨rfl, b5⟩
    have h5 := h4.fresh hap hal b5
    have r9_5 := r9_4.go hpl (Kept.fresh b5)
    refine hK'.out _ _ h5.vol (fun _ => ?_)
    clear hK' K'
    try simp only [qA, qB, qC, Act.put, qD, qE, qF]
    refine tk 5 h5.vol ?_
    refine tk 6 h5.vol ?_
    refine tk 7 h5.vol ?_
    refine rk 8 (fun K' hK' => ?_)
    refine wp_alloc_abs 254 rfl zB alloc_blk ?_
    intro W6 q8 b6 lo6 hi6 th6
    have h6 := h5.fresh hap hal b6
    have r9_6 := r9_5.go hpl (Kept.fresh b6)
    have r8_6 : Rw w W6 q8 128 := ⟨th6, Nat.le_trans h5.kept.size lo6, hi6⟩
    have ne89 : q8 ≠ q9 := by have := r9_5.2.2; omega
    refine hK'.out _ _ h6.vol (fun _ => ?_)
    clear hK' K'
    try simp only [qA, qB, qC, Act.put, qD, qE, qF]
    all_goals skip
    rotate_left 1
    rw [if_pos (by rfl)]
    refine wp_alloc_abs 254 rfl zB alloc_blk ?_
    intro W5 q8 b5 lo5 hi5 th5
    have h5 := h4.fresh hap hal b5
    have r9_5 := r9_4.go hpl (Kept.fresh b5)
    have r8_5 : Rw w W5 q8 128 := ⟨th5, Nat.le_trans h4.kept.size lo5, hi5⟩
    have ne89 : q8 ≠ q9 := by have := r9_4.2.2; omega
    refine hK'.out _ _ h5.vol (fun _ => ?_)
    clear hK' K'
    try simp only [qA, qB, qC, Act.put, qD, qE, qF]
    refine rk 4 (fun K' hK' => ?_)
    go_simp
    refine (HPK.out W5 (HTW.out _ h5)).mono ?_
    rintro e W6 ⟨rfl, b6⟩
    have h6 := h5.fresh hap hal b6
    have r8_6 := r8_5.go hpl (Kept.fresh b6)
    have r9_6 := r9_5.go hpl (Kept.fresh b6)
    refine hK'.out _ _ h6.vol (fun _ => ?_)
    clear hK' K'
    try simp only [qA, qB, qC, Act.put, qD, qE, qF]
    refine tk 5 h6.vol ?_
    refine tk 6 h6.vol ?_
    refine tk 7 h6.vol ?_
    all_goals skip
    rotate_left 1
    rw [if_pos (by rfl)]
    refine wp_alloc_abs 254 rfl zB alloc_blk ?_
    intro W4 q8 b4 lo4 hi4 th4
    have h4 := h3.fresh hap hal b4
    have r9_4 := r9_3.go hpl (Kept.fresh b4)
    have r8_4 : Rw w W4 q8 128 := ⟨th4, Nat.le_trans h3.kept.size lo4, hi4⟩
    have ne89 : q8 ≠ q9 := by have := r9_3.2.2; omega
    refine hK'.out _ _ h4.vol (fun _ => ?_)
    clear hK' K'
    try simp only [qA, qB, qC, Act.put, qD, qE, qF]
    refine rk 3 (fun K' hK' => ?_)
    go_simp
    refine (HST.out W4 h4 (HTW.out _ h4)).mono ?_
    rintro e W5 ⟨rfl, d5, b5⟩
    have h5 := h4.go hap hal b5 d5
    have r8_5 := r8_4.go hpl b5
    have r9_5 := r9_4.go hpl b5
    refine hK'.out _ _ h5.vol (fun _ => ?_)
    clear hK' K'
    try simp only [qA, qB, qC, Act.put, qD, qE, qF]
    refine rk 4 (fun K' hK' => ?_)
    go_simp
    refine (HPK.out W5 (HTW.out _ h5)).mono ?_
    rintro e W6 ⟨rfl, b6⟩
    have h6 := h5.fresh hap hal b6
    have r8_6 := r8_5.go hpl (Kept.fresh b6)
    have r9_6 := r9_5.go hpl (Kept.fresh b6)
    refine hK'.out _ _ h6.vol (fun _ => ?_)
    clear hK' K'
    try simp only [qA, qB, qC, Act.put, qD, qE, qF]
    refine tk 5 h6.vol ?_
    refine tk 6 h6.vol ?_
    refine tk 7 h6.vol ?_
    all_goals skip
    rotate_left 1
    rw [if_pos (by rfl)]
    refine wp_alloc_abs 254 rfl zB alloc_blk ?_
    intro W2 q8 b2 lo2 hi2 th2
    have h2 := h1.fresh hap hal b2
    have c5_2 := c5_1.go hpl (Kept.fresh b2)
    have r8_2 : Rw w W2 q8 128 := ⟨th2, Nat.le_trans h1.kept.size lo2, hi2⟩
    refine hK'.out _ _ h2.vol (fun _ => ?_)
    clear hK' K'
    try simp only [qA, qB, qC, Act.put, qD, qE, qF]
    refine wpAnyH_ready (rs := [1, 9]) (by kernel_rfl) (by simp) ?_
    refine AllReadyH.cons rfl (fun K' hK' => ?_) (AllReadyH.cons rfl (fun K' hK' => ?_) AllReadyH.nil)
    rw [if_pos (by rfl)]
    go_simp
    refine (HOF.out W2 q5 c5_2 (HTW.out _ h2)).mono ?_
    rintro e W3 ⟨rfl, b3⟩
    have h3 := h2.fresh hap hal b3
    have r8_3 := r8_2.go hpl (Kept.fresh b3)
    refine hK'.out _ _ h3.vol (fun _ => ?_)
    clear hK' K'
    try simp only [qA, qB, qC, Act.put, qD, qE, qF]
    refine wpAnyH_ready (rs := [3, 9]) (by kernel_rfl) (by simp) ?_
    refine AllReadyH.cons rfl (fun K' hK' => ?_) (AllReadyH.cons rfl (fun K' hK' => ?_) AllReadyH.nil)
    rw [if_pos (by rfl)]
    go_simp
    refine (HST.out W3 h3 (HTW.out _ h3)).mono ?_
    rintro e W4 ⟨rfl, d4, b4⟩
    have h4 := h3.go hap hal b4 d4
    have r8_4 := r8_3.go hpl b4
    refine hK'.out _ _ h4.vol (fun _ => ?_)
    clear hK' K'
    try simp only [qA, qB, qC, Act.put, qD, qE, qF]
    refine wpAnyH_ready (rs := [4, 9]) (by kernel_rfl) (by simp) ?_
    refine AllReadyH.cons rfl (fun K' hK' => ?_) (AllReadyH.cons rfl (fun K' hK' => ?_) AllReadyH.nil)
    rw [if_pos (by rfl)]
    go_simp
    refine (HPK.out W4 (HTW.out _ h4)).mono ?_
    rintro e W5 ⟨rfl, b5⟩
    have h5 := h4.fresh hap hal b5
    have r8_5 := r8_4.go hpl (Kept.fresh b5)
    refine hK'.out _ _ h5.vol (fun _ => ?_)
    clear hK' K'
    try simp only [qA, qB, qC, Act.put, qD, qE, qF]
    refine tk 5 h5.vol ?_
    refine tk 6 h5.vol ?_
    refine tk 7 h5.vol ?_
    refine rk 9 (fun K' hK' => ?_)
    refine wp_alloc_abs 104 rfl z32 alloc_32 ?_
    intro W6 q9 b6 lo6 hi6 th6
    have h6 := h5.fresh hap hal b6
    have r8_6 := r8_5.go hpl (Kept.fresh b6)
    have r9_6 : Rw w W6 q9 32 := ⟨th6, Nat.le_trans h5.kept.size lo6, hi6⟩
    have ne89 : q8 ≠ q9 := by have := r8_5.2.2; omega
    refine hK'.out _ _ h6.vol (fun _ => ?_)
    clear hK' K'
    try simp only [qA, qB, qC, Act.put, qD, qE, qF]
    all_goals skip
    rotate_left 1
    rw [if_pos (by rfl)]
    refine wp_alloc_abs 104 rfl z32 alloc_32 ?_
    intro W5 q9 b5 lo5 hi5 th5
    have h5 := h4.fresh hap hal b5
    have r8_5 := r8_4.go hpl (Kept.fresh b5)
    have r9_5 : Rw w W5 q9 32 := ⟨th5, Nat.le_trans h4.kept.size lo5, hi5⟩
    have ne89 : q8 ≠ q9 := by have := r8_4.2.2; omega
    refine hK'.out _ _ h5.vol (fun _ => ?_)
    clear hK' K'
    try simp only [qA, qB, qC, Act.put, qD, qE, qF]
    refine rk 4 (fun K' hK' => ?_)
    go_simp
    refine (HPK.out W5 (HTW.out _ h5)).mono ?_
    rintro e W6 ⟨rfl, b6⟩
    have h6 := h5.fresh hap hal b6
    have r8_6 := r8_5.go hpl (Kept.fresh b6)
    have r9_6 := r9_5.go hpl (Kept.fresh b6)
    refine hK'.out _ _ h6.vol (fun _ => ?_)
    clear hK' K'
    try simp only [qA, qB, qC, Act.put, qD, qE, qF]
    refine tk 5 h6.vol ?_
    refine tk 6 h6.vol ?_
    refine tk 7 h6.vol ?_
    all_goals skip
    rotate_left 1
    rw [if_pos (by rfl)]
    refine wp_alloc_abs 104 rfl z32 alloc_32 ?_
    intro W4 q9 b4 lo4 hi4 th4
    have h4 := h3.fresh hap hal b4
    have r8_4 := r8_3.go hpl (Kept.fresh b4)
    have r9_4 : Rw w W4 q9 32 := ⟨th4, Nat.le_trans h3.kept.size lo4, hi4⟩
    have ne89 : q8 ≠ q9 := by have := r8_3.2.2; omega
    refine hK'.out _ _ h4.vol (fun _ => ?_)
    clear hK' K'
    try simp only [qA, qB, qC, Act.put, qD, qE, qF]
    refine rk 3 (fun K' hK' => ?_)
    go_simp
    refine (HST.out W4 h4 (HTW.out _ h4)).mono ?_
    rintro e W5 ⟨rfl, d5, b5⟩
    have h5 := h4.go hap hal b5 d5
    have r8_5 := r8_4.go hpl b5
    have r9_5 := r9_4.go hpl b5
    refine hK'.out _ _ h5.vol (fun _ => ?_)
    clear hK' K'
    try simp only [qA, qB, qC, Act.put, qD, qE, qF]
    refine rk 4 (fun K' hK' => ?_)
    go_simp
    refine (HPK.out W5 (HTW.out _ h5)).mono ?_
    rintro e W6 ⟨rfl, b6⟩
    have h6 := h5.fresh hap hal b6
    have r8_6 := r8_5.go hpl (Kept.fresh b6)
    have r9_6 := r9_5.go hpl (Kept.fresh b6)
    refine hK'.out _ _ h6.vol (fun _ => ?_)
    clear hK' K'
    try simp only [qA, qB, qC, Act.put, qD, qE, qF]
    refine tk 5 h6.vol ?_
    refine tk 6 h6.vol ?_
    refine tk 7 h6.vol ?_
    all_goals skip
    rotate_left 1
    rw [if_pos (by rfl)]
    refine wp_alloc_abs 104 rfl z32 alloc_32 ?_
    intro W3 q9 b3 lo3 hi3 th3
    have h3 := h2.fresh hap hal b3
    have c5_3 := c5_2.go hpl (Kept.fresh b3)
    have r8_3 := r8_2.go hpl (Kept.fresh b3)
    have r9_3 : Rw w W3 q9 32 := ⟨th3, Nat.le_trans h2.kept.size lo3, hi3⟩
    have ne89 : q8 ≠ q9 := by have := r8_2.2.2; omega
    refine hK'.out _ _ h3.vol (fun _ => ?_)
    clear hK' K'
    try simp only [qA, qB, qC, Act.put, qD, qE, qF]
    refine rk 1 (fun K' hK' => ?_)
    go_simp
    refine (HOF.out W3 q5 c5_3 (HTW.out _ h3)).mono ?_
    rintro e W4 ⟨rfl, b4⟩
    have h4 := h3.fresh hap hal b4
    have r8_4 := r8_3.go hpl (Kept.fresh b4)
    have r9_4 := r9_3.go hpl (Kept.fresh b4)
    refine hK'.out _ _ h4.vol (fun _ => ?_)
    clear hK' K'
    try simp only [qA, qB, qC, Act.put, qD, qE, qF]
    refine rk 3 (fun K' hK' => ?_)
    go_simp
    refine (HST.out W4 h4 (HTW.out _ h4)).mono ?_
    rintro e W5 ⟨rfl, d5, b5⟩
    have h5 := h4.go hap hal b5 d5
    have r8_5 := r8_4.go hpl b5
    have r9_5 := r9_4.go hpl b5
    refine hK'.out _ _ h5.vol (fun _ => ?_)
    clear hK' K'
    try simp only [qA, qB, qC, Act.put, qD, qE, qF]
    refine rk 4 (fun K' hK' => ?_)
    go_simp
    refine (HPK.out W5 (HTW.out _ h5)).mono ?_
    rintro e W6 ⟨rfl, b6⟩
    have h6 := h5.fresh hap hal b6
    have r8_6 := r8_5.go hpl (Kept.fresh b6)
    have r9_6 := r9_5.go hpl (Kept.fresh b6)
    refine hK'.out _ _ h6.vol (fun _ => ?_)
    clear hK' K'
    try simp only [qA, qB, qC, Act.put, qD, qE, qF]
    refine tk 5 h6.vol ?_
    refine tk 6 h6.vol ?_
    refine tk 7 h6.vol ?_
    all_goals skip
    rotate_left 1
    rw [if_pos (by rfl)]
    refine wp_alloc_abs 104 rfl z32 alloc_32 ?_
    intro W2 q9 b2 lo2 hi2 th2
    have h2 := h1.fresh hap hal b2
    have c5_2 := c5_1.go hpl (Kept.fresh b2)
    have r9_2 : Rw w W2 q9 32 := ⟨th2, Nat.le_trans h1.kept.size lo2, hi2⟩
    refine hK'.out _ _ h2.vol (fun _ => ?_)
    clear hK' K'
    try simp only [qA, qB, qC, Act.put, qD, qE, qF]
    refine wpAnyH_ready (rs := [1, 8]) (by kernel_rfl) (by simp) ?_
    refine AllReadyH.cons rfl (fun K' hK' => ?_) (AllReadyH.cons rfl (fun K' hK' => ?_) AllReadyH.nil)
    rw [if_pos (by rfl)]
    go_simp
    refine (HOF.out W2 q5 c5_2 (HTW.out _ h2)).mono ?_
    rintro e W3 ⟨rfl, b3⟩
    have h3 := h2.fresh hap hal b3
    have r9_3 := r9_2.go hpl (Kept.fresh b3)
    refine hK'.out _ _ h3.vol (fun _ => ?_)
    clear hK' K'
    try simp only [qA, qB, qC, Act.put, qD, qE, qF]
    refine wpAnyH_ready (rs := [3, 8]) (by kernel_rfl) (by simp) ?_
    refine AllReadyH.cons rfl (fun K' hK' => ?_) (AllReadyH.cons rfl (fun K' hK' => ?_) AllReadyH.nil)
    rw [if_pos (by rfl)]
    go_simp
    refine (HST.out W3 h3 (HTW.out _ h3)).mono ?_
    rintro e W4 ⟨rfl, d4, b4⟩
    have h4 := h3.go hap hal b4 d4
    have r9_4 := r9_3.go hpl b4
    refine hK'.out _ _ h4.vol (fun _ => ?_)
    clear hK' K'
    try simp only [qA, qB, qC, Act.put, qD, qE, qF]
    refine wpAnyH_ready (rs := [4, 8]) (by kernel_rfl) (by simp) ?_
    refine AllReadyH.cons rfl (fun K' hK' => ?_) (AllReadyH.cons rfl (fun K' hK' => ?_) AllReadyH.nil)
    rw [if_pos (by rfl)]
    go_simp
    refine (HPK.out W4 (HTW.out _ h4)).mono ?_
    rintro e W5 ⟨rfl, b5⟩
    have h5 := h4.fresh hap hal b5
    have r9_5 := r9_4.go hpl (Kept.fresh b5)
    refine hK'.out _ _ h5.vol (fun _ => ?_)
    clear hK' K'
    try simp only [qA, qB, qC, Act.put, qD, qE, qF]
    refine tk 5 h5.vol ?_
    refine tk 6 h5.vol ?_
    refine tk 7 h5.vol ?_
    refine rk 8 (fun K' hK' => ?_)
    refine wp_alloc_abs 254 rfl zB alloc_blk ?_
    intro W6 q8 b6 lo6 hi6 th6
    have h6 := h5.fresh hap hal b6
    have r9_6 := r9_5.go hpl (Kept.fresh b6)
    have r8_6 : Rw w W6 q8 128 := ⟨th6, Nat.le_trans h5.kept.size lo6, hi6⟩
    have ne89 : q8 ≠ q9 := by have := r9_5.2.2; omega
    refine hK'.out _ _ h6.vol (fun _ => ?_)
    clear hK' K'
    try simp only [qA, qB, qC, Act.put, qD, qE, qF]
    all_goals skip
    rotate_left 1
    rw [if_pos (by rfl)]
    refine wp_alloc_abs 254 rfl zB alloc_blk ?_
    intro W5 q8 b5 lo5 hi5 th5
    have h5 := h4.fresh hap hal b5
    have r9_5 := r9_4.go hpl (Kept.fresh b5)
    have r8_5 : Rw w W5 q8 128 := ⟨th5, Nat.le_trans h4.kept.size lo5, hi5⟩
    have ne89 : q8 ≠ q9 := by have := r9_4.2.2; omega
    refine hK'.out _ _ h5.vol (fun _ => ?_)
    clear hK' K'
    try simp only [qA, qB, qC, Act.put, qD, qE, qF]
    refine rk 4 (fun K' hK' => ?_)
    go_simp
    refine (HPK.out W5 (HTW.out _ h5)).mono ?_
    rintro e W6 ⟨rfl, b6⟩
    have h6 := h5.fresh hap hal b6
    have r8_6 := r8_5.go hpl (Kept.fresh b6)
    have r9_6 := r9_5.go hpl (Kept.fresh b6)
    refine hK'.out _ _ h6.vol (fun _ => ?_)
    clear hK' K'
    try simp only [qA, qB, qC, Act.put, qD, qE, qF]
    refine tk 5 h6.vol ?_
    refine tk 6 h6.vol ?_
    refine tk 7 h6.vol ?_
    all_goals skip
    rotate_left 1
    rw [if_pos (by rfl)]
    refine wp_alloc_abs 254 rfl zB alloc_blk ?_
    intro W4 q8 b4 lo4 hi4 th4
    have h4 := h3.fresh hap hal b4
    have r9_4 := r9_3.go hpl (Kept.fresh b4)
    have r8_4 : Rw w W4 q8 128 := ⟨th4, Nat.le_trans h3.kept.size lo4, hi4⟩
    have ne89 : q8 ≠ q9 := by have := r9_3.2.2; omega
    refine hK'.out _ _ h4.vol (fun _ => ?_)
    clear hK' K'
    try simp only [qA, qB, qC, Act.put, qD, qE, qF]
    refine rk 3 (fun K' hK' => ?_)
    go_simp
    refine (HST.out W4 h4 (HTW.out _ h4)).mono ?_
    rintro e W5 ⟨rfl, d5, b5⟩
    have h5 := h4.go hap hal b5 d5
    have r8_5 := r8_4.go hpl b5
    have r9_5 := r9_4.go hpl b5
    refine hK'.out _ _ h5.vol (fun _ => ?_)
    clear hK' K'
    try simp only [qA, qB, qC, Act.put, qD, qE, qF]
    refine rk 4 (fun K' hK' => ?_)
    go_simp
    refine (HPK.out W5 (HTW.out _ h5)).mono ?_
    rintro e W6 ⟨rfl, b6⟩
    have h6 := h5.fresh hap hal b6
    have r8_6 := r8_5.go hpl (Kept.fresh b6)
    have r9_6 := r9_5.go hpl (Kept.fresh b6)
    refine hK'.out _ _ h6.vol (fun _ => ?_)
    clear hK' K'
    try simp only [qA, qB, qC, Act.put, qD, qE, qF]
    refine tk 5 h6.vol ?_
    refine tk 6 h6.vol ?_
    refine tk 7 h6.vol ?_
    all_goals skip
    rotate_left 1
    rw [if_pos (by rfl)]
    refine wp_alloc_abs 254 rfl zB alloc_blk ?_
    intro W3 q8 b3 lo3 hi3 th3
    have h3 := h2.fresh hap hal b3
    have c5_3 := c5_2.go hpl (Kept.fresh b3)
    have r9_3 := r9_2.go hpl (Kept.fresh b3)
    have r8_3 : Rw w W3 q8 128 := ⟨th3, Nat.le_trans h2.kept.size lo3, hi3⟩
    have ne89 : q8 ≠ q9 := by have := r9_2.2.2; omega
    refine hK'.out _ _ h3.vol (fun _ => ?_)
    clear hK' K'
    try simp only [qA, qB, qC, Act.put, qD, qE, qF]
    refine rk 1 (fun K' hK' => ?_)
    go_simp
    refine (HOF.out W3 q5 c5_3 (HTW.out _ h3)).mono ?_
    rintro e W4 ⟨rfl, b4⟩
    have h4 := h3.fresh hap hal b4
    have r8_4 := r8_3.go hpl (Kept.fresh b4)
    have r9_4 := r9_3.go hpl (Kept.fresh b4)
    refine hK'.out _ _ h4.vol (fun _ => ?_)
    clear hK' K'
    try simp only [qA, qB, qC, Act.put, qD, qE, qF]
    refine rk 3 (fun K' hK' => ?_)
    go_simp
    refine (HST.out W4 h4 (HTW.out _ h4)).mono ?_
    rintro e W5 ⟨rfl, d5, b5⟩
    have h5 := h4.go hap hal b5 d5
    have r8_5 := r8_4.go hpl b5
    have r9_5 := r9_4.go hpl b5
    refine hK'.out _ _ h5.vol (fun _ => ?_)
    clear hK' K'
    try simp only [qA, qB, qC, Act.put, qD, qE, qF]
    refine rk 4 (fun K' hK' => ?_)
    go_simp
    refine (HPK.out W5 (HTW.out _ h5)).mono ?_
    rintro e W6 ⟨rfl, b6⟩
    have h6 := h5.fresh hap hal b6
    have r8_6 := r8_5.go hpl (Kept.fresh b6)
    have r9_6 := r9_5.go hpl (Kept.fresh b6)
    refine hK'.out _ _ h6.vol (fun _ => ?_)
    clear hK' K'
    try simp only [qA, qB, qC, Act.put, qD, qE, qF]
    refine tk 5 h6.vol ?_
    refine tk 6 h6.vol ?_
    refine tk 7 h6.vol ?_
    all_goals skip
    rotate_left 1
    rw [if_pos (by rfl)]
    refine wp_alloc_abs 254 rfl zB alloc_blk ?_
    intro W1 q8 b1 lo1 hi1 th1
    have h1 := h0.fresh hap hal b1
    have r8_1 : Rw w W1 q8 128 := ⟨th1, Nat.le_trans h0.kept.size lo1, hi1⟩
    refine hK'.out _ _ h1.vol (fun _ => ?_)
    clear hK' K'
    try simp only [qA, qB, qC, Act.put, qD, qE, qF]
    refine wpAnyH_ready (rs := [0, 9]) (by kernel_rfl) (by simp) ?_
    refine AllReadyH.cons rfl (fun K' hK' => ?_) (AllReadyH.cons rfl (fun K' hK' => ?_) AllReadyH.nil)
    rw [if_pos (by rfl)]
    go_simp
    have b2 : Below W1.heap.size W1 (W1.alloc (.cells #[.string (⟨#[97, 117, 100, 105, 116, 98, 111, 111, 107, 44, 32, 106, 111, 117, 114, 110, 97, 108, 32, 49]⟩ : ByteArray)] 9)) := (Below.refl _ _).alloc (Nat.le_refl _) _
    have h2 := h1.fresh hap hal b2
    have r8_2 := r8_1.go hpl (Kept.fresh b2)
    have c5_2 : Cl w (W1.alloc (.cells #[.string (⟨#[97, 117, 100, 105, 116, 98, 111, 111, 107, 44, 32, 106, 111, 117, 114, 110, 97, 108, 32, 49]⟩ : ByteArray)] 9)) W1.heap.size (.string (⟨#[97, 117, 100, 105, 116, 98, 111, 111, 107, 44, 32, 106, 111, 117, 114, 110, 97, 108, 32, 49]⟩ : ByteArray)) := ⟨by rw [World.cell?_alloc_at _ _ _ _ rfl]; rfl, h1.kept.size, by simp⟩
    clear b2
    generalize hq5 : W1.heap.size = q5 at c5_2 ⊢
    clear hq5
    generalize (W1.alloc (.cells #[.string (⟨#[97, 117, 100, 105, 116, 98, 111, 111, 107, 44, 32, 106, 111, 117, 114, 110, 97, 108, 32, 49]⟩ : ByteArray)] 9)) = W2 at *
    refine hK'.out _ _ h2.vol (fun _ => ?_)
    clear hK' K'
    try simp only [qA, qB, qC, Act.put, qD, qE, qF]
    refine wpAnyH_ready (rs := [1, 9]) (by kernel_rfl) (by simp) ?_
    refine AllReadyH.cons rfl (fun K' hK' => ?_) (AllReadyH.cons rfl (fun K' hK' => ?_) AllReadyH.nil)
    rw [if_pos (by rfl)]
    go_simp
    refine (HOF.out W2 q5 c5_2 (HTW.out _ h2)).mono ?_
    rintro e W3 ⟨rfl, b3⟩
    have h3 := h2.fresh hap hal b3
    have r8_3 := r8_2.go hpl (Kept.fresh b3)
    refine hK'.out _ _ h3.vol (fun _ => ?_)
    clear hK' K'
    try simp only [qA, qB, qC, Act.put, qD, qE, qF]
    refine wpAnyH_ready (rs := [3, 9]) (by kernel_rfl) (by simp) ?_
    refine AllReadyH.cons rfl (fun K' hK' => ?_) (AllReadyH.cons rfl (fun K' hK' => ?_) AllReadyH.nil)
    rw [if_pos (by rfl)]
    go_simp
    refine (HST.out W3 h3 (HTW.out _ h3)).mono ?_
    rintro e W4 ⟨rfl, d4, b4⟩
    have h4 := h3.go hap hal b4 d4
    have r8_4 := r8_3.go hpl b4
    refine hK'.out _ _ h4.vol (fun _ => ?_)
    clear hK' K'
    try simp only [qA, qB, qC, Act.put, qD, qE, qF]
    refine wpAnyH_ready (rs := [4, 9]) (by kernel_rfl) (by simp) ?_
    refine AllReadyH.cons rfl (fun K' hK' => ?_) (AllReadyH.cons rfl (fun K' hK' => ?_) AllReadyH.nil)
    rw [if_pos (by rfl)]
    go_simp
    refine (HPK.out W4 (HTW.out _ h4)).mono ?_
    rintro e W5 ⟨rfl, b5⟩
    have h5 := h4.fresh hap hal b5
    have r8_5 := r8_4.go hpl (Kept.fresh b5)
    refine hK'.out _ _ h5.vol (fun _ => ?_)
    clear hK' K'
    try simp only [qA, qB, qC, Act.put, qD, qE, qF]
    refine tk 5 h5.vol ?_
    refine tk 6 h5.vol ?_
    refine tk 7 h5.vol ?_
    refine rk 9 (fun K' hK' => ?_)
    refine wp_alloc_abs 104 rfl z32 alloc_32 ?_
    intro W6 q9 b6 lo6 hi6 th6
    have h6 := h5.fresh hap hal b6
    have r8_6 := r8_5.go hpl (Kept.fresh b6)
    have r9_6 : Rw w W6 q9 32 := ⟨th6, Nat.le_trans h5.kept.size lo6, hi6⟩
    have ne89 : q8 ≠ q9 := by have := r8_5.2.2; omega
    refine hK'.out _ _ h6.vol (fun _ => ?_)
    clear hK' K'
    try simp only [qA, qB, qC, Act.put, qD, qE, qF]
    all_goals skip
    rotate_left 1
    rw [if_pos (by rfl)]
    refine wp_alloc_abs 104 rfl z32 alloc_32 ?_
    intro W5 q9 b5 lo5 hi5 th5
    have h5 := h4.fresh hap hal b5
    have r8_5 := r8_4.go hpl (Kept.fresh b5)
    have r9_5 : Rw w W5 q9 32 := ⟨th5, Nat.le_trans h4.kept.size lo5, hi5⟩
    have ne89 : q8 ≠ q9 := by have := r8_4.2.2; omega
    refine hK'.out _ _ h5.vol (fun _ => ?_)
    clear hK' K'
    try simp only [qA, qB, qC, Act.put, qD, qE, qF]
    refine rk 4 (fun K' hK' => ?_)
    go_simp
    refine (HPK.out W5 (HTW.out _ h5)).mono ?_
    rintro e W6 ⟨rfl, b6⟩
    have h6 := h5.fresh hap hal b6
    have r8_6 := r8_5.go hpl (Kept.fresh b6)
    have r9_6 := r9_5.go hpl (Kept.fresh b6)
    refine hK'.out _ _ h6.vol (fun _ => ?_)
    clear hK' K'
    try simp only [qA, qB, qC, Act.put, qD, qE, qF]
    refine tk 5 h6.vol ?_
    refine tk 6 h6.vol ?_
    refine tk 7 h6.vol ?_
    all_goals skip
    rotate_left 1
    rw [if_pos (by rfl)]
    refine wp_alloc_abs 104 rfl z32 alloc_32 ?_
    intro W4 q9 b4 lo4 hi4 th4
    have h4 := h3.fresh hap hal b4
    have r8_4 := r8_3.go hpl (Kept.fresh b4)
    have r9_4 : Rw w W4 q9 32 := ⟨th4, Nat.le_trans h3.kept.size lo4, hi4⟩
    have ne89 : q8 ≠ q9 := by have := r8_3.2.2; omega
    refine hK'.out _ _ h4.vol (fun _ => ?_)
    clear hK' K'
    try simp only [qA, qB, qC, Act.put, qD, qE, qF]
    refine rk 3 (fun K' hK' => ?_)
    go_simp
    refine (HST.out W4 h4 (HTW.out _ h4)).mono ?_
    rintro e W5 ⟨rfl, d5, b5⟩
    have h5 := h4.go hap hal b5 d5
    have r8_5 := r8_4.go hpl b5
    have r9_5 := r9_4.go hpl b5
    refine hK'.out _ _ h5.vol (fun _ => ?_)
    clear hK' K'
    try simp only [qA, qB, qC, Act.put, qD, qE, qF]
    refine rk 4 (fun K' hK' => ?_)
    go_simp
    refine (HPK.out W5 (HTW.out _ h5)).mono ?_
    rintro e W6 ⟨rfl, b6⟩
    have h6 := h5.fresh hap hal b6
    have r8_6 := r8_5.go hpl (Kept.fresh b6)
    have r9_6 := r9_5.go hpl (Kept.fresh b6)
    refine hK'.out _ _ h6.vol (fun _ => ?_)
    clear hK' K'
    try simp only [qA, qB, qC, Act.put, qD, qE, qF]
    refine tk 5 h6.vol ?_
    refine tk 6 h6.vol ?_
    refine tk 7 h6.vol ?_
    all_goals skip
    rotate_left 1
    rw [if_pos (by rfl)]
    refine wp_alloc_abs 104 rfl z32 alloc_32 ?_
    intro W3 q9 b3 lo3 hi3 th3
    have h3 := h2.fresh hap hal b3
    have c5_3 := c5_2.go hpl (Kept.fresh b3)
    have r8_3 := r8_2.go hpl (Kept.fresh b3)
    have r9_3 : Rw w W3 q9 32 := ⟨th3, Nat.le_trans h2.kept.size lo3, hi3⟩
    have ne89 : q8 ≠ q9 := by have := r8_2.2.2; omega
    refine hK'.out _ _ h3.vol (fun _ => ?_)
    clear hK' K'
    try simp only [qA, qB, qC, Act.put, qD, qE, qF]
    refine rk 1 (fun K' hK' => ?_)
    go_simp
    refine (HOF.out W3 q5 c5_3 (HTW.out _ h3)).mono ?_
    rintro e W4 ⟨rfl, b4⟩
    have h4 := h3.fresh hap hal b4
    have r8_4 := r8_3.go hpl (Kept.fresh b4)
    have r9_4 := r9_3.go hpl (Kept.fresh b4)
    refine hK'.out _ _ h4.vol (fun _ => ?_)
    clear hK' K'
    try simp only [qA, qB, qC, Act.put, qD, qE, qF]
    refine rk 3 (fun K' hK' => ?_)
    go_simp
    refine (HST.out W4 h4 (HTW.out _ h4)).mono ?_
    rintro e W5 ⟨rfl, d5, b5⟩
    have h5 := h4.go hap hal b5 d5
    have r8_5 := r8_4.go hpl b5
    have r9_5 := r9_4.go hpl b5
    refine hK'.out _ _ h5.vol (fun _ => ?_)
    clear hK' K'
    try simp only [qA, qB, qC, Act.put, qD, qE, qF]
    refine rk 4 (fun K' hK' => ?_)
    go_simp
    refine (HPK.out W5 (HTW.out _ h5)).mono ?_
    rintro e W6 ⟨rfl, b6⟩
    have h6 := h5.fresh hap hal b6
    have r8_6 := r8_5.go hpl (Kept.fresh b6)
    have r9_6 := r9_5.go hpl (Kept.fresh b6)
    refine hK'.out _ _ h6.vol (fun _ => ?_)
    clear hK' K'
    try simp only [qA, qB, qC, Act.put, qD, qE, qF]
    refine tk 5 h6.vol ?_
    refine tk 6 h6.vol ?_
    refine tk 7 h6.vol ?_
    all_goals skip
    rotate_left 1
    rw [if_pos (by rfl)]
    refine wp_alloc_abs 104 rfl z32 alloc_32 ?_
    intro W2 q9 b2 lo2 hi2 th2
    have h2 := h1.fresh hap hal b2
    have r8_2 := r8_1.go hpl (Kept.fresh b2)
    have r9_2 : Rw w W2 q9 32 := ⟨th2, Nat.le_trans h1.kept.size lo2, hi2⟩
    have ne89 : q8 ≠ q9 := by have := r8_1.2.2; omega
    refine hK'.out _ _ h2.vol (fun _ => ?_)
    clear hK' K'
    try simp only [qA, qB, qC, Act.put, qD, qE, qF]
    refine rk 0 (fun K' hK' => ?_)
    go_simp
    have b3 : Below W2.heap.size W2 (W2.alloc (.cells #[.string (⟨#[97, 117, 100, 105, 116, 98, 111, 111, 107, 44, 32, 106, 111, 117, 114, 110, 97, 108, 32, 49]⟩ : ByteArray)] 9)) := (Below.refl _ _).alloc (Nat.le_refl _) _
    have h3 := h2.fresh hap hal b3
    have r8_3 := r8_2.go hpl (Kept.fresh b3)
    have r9_3 := r9_2.go hpl (Kept.fresh b3)
    have c5_3 : Cl w (W2.alloc (.cells #[.string (⟨#[97, 117, 100, 105, 116, 98, 111, 111, 107, 44, 32, 106, 111, 117, 114, 110, 97, 108, 32, 49]⟩ : ByteArray)] 9)) W2.heap.size (.string (⟨#[97, 117, 100, 105, 116, 98, 111, 111, 107, 44, 32, 106, 111, 117, 114, 110, 97, 108, 32, 49]⟩ : ByteArray)) := ⟨by rw [World.cell?_alloc_at _ _ _ _ rfl]; rfl, h2.kept.size, by simp⟩
    clear b3
    generalize hq5 : W2.heap.size = q5 at c5_3 ⊢
    clear hq5
    generalize (W2.alloc (.cells #[.string (⟨#[97, 117, 100, 105, 116, 98, 111, 111, 107, 44, 32, 106, 111, 117, 114, 110, 97, 108, 32, 49]⟩ : ByteArray)] 9)) = W3 at *
    refine hK'.out _ _ h3.vol (fun _ => ?_)
    clear hK' K'
    try simp only [qA, qB, qC, Act.put, qD, qE, qF]
    refine rk 1 (fun K' hK' => ?_)
    go_simp
    refine (HOF.out W3 q5 c5_3 (HTW.out _ h3)).mono ?_
    rintro e W4 ⟨rfl, b4⟩
    have h4 := h3.fresh hap hal b4
    have r8_4 := r8_3.go hpl (Kept.fresh b4)
    have r9_4 := r9_3.go hpl (Kept.fresh b4)
    refine hK'.out _ _ h4.vol (fun _ => ?_)
    clear hK' K'
    try simp only [qA, qB, qC, Act.put, qD, qE, qF]
    refine rk 3 (fun K' hK' => ?_)
    go_simp
    refine (HST.out W4 h4 (HTW.out _ h4)).mono ?_
    rintro e W5 ⟨rfl, d5, b5⟩
    have h5 := h4.go hap hal b5 d5
    have r8_5 := r8_4.go hpl b5
    have r9_5 := r9_4.go hpl b5
    refine hK'.out _ _ h5.vol (fun _ => ?_)
    clear hK' K'
    try simp only [qA, qB, qC, Act.put, qD, qE, qF]
    refine rk 4 (fun K' hK' => ?_)
    go_simp
    refine (HPK.out W5 (HTW.out _ h5)).mono ?_
    rintro e W6 ⟨rfl, b6⟩
    have h6 := h5.fresh hap hal b6
    have r8_6 := r8_5.go hpl (Kept.fresh b6)
    have r9_6 := r9_5.go hpl (Kept.fresh b6)
    refine hK'.out _ _ h6.vol (fun _ => ?_)
    clear hK' K'
    try simp only [qA, qB, qC, Act.put, qD, qE, qF]
    refine tk 5 h6.vol ?_
    refine tk 6 h6.vol ?_
    refine tk 7 h6.vol ?_
    all_goals skip
    rotate_left 1
    rw [if_pos (by rfl)]
    refine wp_alloc_abs 104 rfl z32 alloc_32 ?_
    intro W1 q9 b1 lo1 hi1 th1
    have h1 := h0.fresh hap hal b1
    have r9_1 : Rw w W1 q9 32 := ⟨th1, Nat.le_trans h0.kept.size lo1, hi1⟩
    refine hK'.out _ _ h1.vol (fun _ => ?_)
    clear hK' K'
    try simp only [qA, qB, qC, Act.put, qD, qE, qF]
    refine wpAnyH_ready (rs := [0, 8]) (by kernel_rfl) (by simp) ?_
    refine AllReadyH.cons rfl (fun K' hK' => ?_) (AllReadyH.cons rfl (fun K' hK' => ?_) AllReadyH.nil)
    rw [if_pos (by rfl)]
    go_simp
    have b2 : Below W1.heap.size W1 (W1.alloc (.cells #[.string (⟨#[97, 117, 100, 105, 116, 98, 111, 111, 107, 44, 32, 106, 111, 117, 114, 110, 97, 108, 32, 49]⟩ : ByteArray)] 9)) := (Below.refl _ _).alloc (Nat.le_refl _) _
    have h2 := h1.fresh hap hal b2
    have r9_2 := r9_1.go hpl (Kept.fresh b2)
    have c5_2 : Cl w (W1.alloc (.cells #[.string (⟨#[97, 117, 100, 105, 116, 98, 111, 111, 107, 44, 32, 106, 111, 117, 114, 110, 97, 108, 32, 49]⟩ : ByteArray)] 9)) W1.heap.size (.string (⟨#[97, 117, 100, 105, 116, 98, 111, 111, 107, 44, 32, 106, 111, 117, 114, 110, 97, 108, 32, 49]⟩ : ByteArray)) := ⟨by rw [World.cell?_alloc_at _ _ _ _ rfl]; rfl, h1.kept.size, by simp⟩
    clear b2
    generalize hq5 : W1.heap.size = q5 at c5_2 ⊢
    clear hq5
    generalize (W1.alloc (.cells #[.string (⟨#[97, 117, 100, 105, 116, 98, 111, 111, 107, 44, 32, 106, 111, 117, 114, 110, 97, 108, 32, 49]⟩ : ByteArray)] 9)) = W2 at *
    refine hK'.out _ _ h2.vol (fun _ => ?_)
    clear hK' K'
    try simp only [qA, qB, qC, Act.put, qD, qE, qF]
    refine wpAnyH_ready (rs := [1, 8]) (by kernel_rfl) (by simp) ?_
    refine AllReadyH.cons rfl (fun K' hK' => ?_) (AllReadyH.cons rfl (fun K' hK' => ?_) AllReadyH.nil)
    rw [if_pos (by rfl)]
    go_simp
    refine (HOF.out W2 q5 c5_2 (HTW.out _ h2)).mono ?_
    rintro e W3 ⟨rfl, b3⟩
    have h3 := h2.fresh hap hal b3
    have r9_3 := r9_2.go hpl (Kept.fresh b3)
    refine hK'.out _ _ h3.vol (fun _ => ?_)
    clear hK' K'
    try simp only [qA, qB, qC, Act.put, qD, qE, qF]
    refine wpAnyH_ready (rs := [3, 8]) (by kernel_rfl) (by simp) ?_
    refine AllReadyH.cons rfl (fun K' hK' => ?_) (AllReadyH.cons rfl (fun K' hK' => ?_) AllReadyH.nil)
    rw [if_pos (by rfl)]
    go_simp
    refine (HST.out W3 h3 (HTW.out _ h3)).mono ?_
    rintro e W4 ⟨rfl, d4, b4⟩
    have h4 := h3.go hap hal b4 d4
    have r9_4 := r9_3.go hpl b4
    refine hK'.out _ _ h4.vol (fun _ => ?_)
    clear hK' K'
    try simp only [qA, qB, qC, Act.put, qD, qE, qF]
    refine wpAnyH_ready (rs := [4, 8]) (by kernel_rfl) (by simp) ?_
    refine AllReadyH.cons rfl (fun K' hK' => ?_) (AllReadyH.cons rfl (fun K' hK' => ?_) AllReadyH.nil)
    rw [if_pos (by rfl)]
    go_simp
    refine (HPK.out W4 (HTW.out _ h4)).mono ?_
    rintro e W5 ⟨rfl, b5⟩
    have h5 := h4.fresh hap hal b5
    have r9_5 := r9_4.go hpl (Kept.fresh b5)
    refine hK'.out _ _ h5.vol (fun _ => ?_)
    clear hK' K'
    try simp only [qA, qB, qC, Act.put, qD, qE, qF]
    refine tk 5 h5.vol ?_
    refine tk 6 h5.vol ?_
    refine tk 7 h5.vol ?_
    refine rk 8 (fun K' hK' => ?_)
    refine wp_alloc_abs 254 rfl zB alloc_blk ?_
    intro W6 q8 b6 lo6 hi6 th6
    have h6 := h5.fresh hap hal b6
    have r9_6 := r9_5.go hpl (Kept.fresh b6)
    have r8_6 : Rw w W6 q8 128 := ⟨th6, Nat.le_trans h5.kept.size lo6, hi6⟩
    have ne89 : q8 ≠ q9 := by have := r9_5.2.2; omega
    refine hK'.out _ _ h6.vol (fun _ => ?_)
    clear hK' K'
    try simp only [qA, qB, qC, Act.put, qD, qE, qF]
    all_goals skip
    rotate_left 1
    rw [if_pos (by rfl)]
    refine wp_alloc_abs 254 rfl zB alloc_blk ?_
    intro W5 q8 b5 lo5 hi5 th5
    have h5 := h4.fresh hap hal b5
    have r9_5 := r9_4.go hpl (Kept.fresh b5)
    have r8_5 : Rw w W5 q8 128 := ⟨th5, Nat.le_trans h4.kept.size lo5, hi5⟩
    have ne89 : q8 ≠ q9 := by have := r9_4.2.2; omega
    refine hK'.out _ _ h5.vol (fun _ => ?_)
    clear hK' K'
    try simp only [qA, qB, qC, Act.put, qD, qE, qF]
    refine rk 4 (fun K' hK' => ?_)
    go_simp
    refine (HPK.out W5 (HTW.out _ h5)).mono ?_
    rintro e W6 ⟨rfl, b6⟩
    have h6 := h5.fresh hap hal b6
    have r8_6 := r8_5.go hpl (Kept.fresh b6)
    have r9_6 := r9_5.go hpl (Kept.fresh b6)
    refine hK'.out _ _ h6.vol (fun _ => ?_)
    clear hK' K'
    try simp only [qA, qB, qC, Act.put, qD, qE, qF]
    refine tk 5 h6.vol ?_
    refine tk 6 h6.vol ?_
    refine tk 7 h6.vol ?_
    all_goals skip
    rotate_left 1
    rw [if_pos (by rfl)]
    refine wp_alloc_abs 254 rfl zB alloc_blk ?_
    intro W4 q8 b4 lo4 hi4 th4
    have h4 := h3.fresh hap hal b4
    have r9_4 := r9_3.go hpl (Kept.fresh b4)
    have r8_4 : Rw w W4 q8 128 := ⟨th4, Nat.le_trans h3.kept.size lo4, hi4⟩
    have ne89 : q8 ≠ q9 := by have := r9_3.2.2; omega
    refine hK'.out _ _ h4.vol (fun _ => ?_)
    clear hK' K'
    try simp only [qA, qB, qC, Act.put, qD, qE, qF]
    refine rk 3 (fun K' hK' => ?_)
    go_simp
    refine (HST.out W4 h4 (HTW.out _ h4)).mono ?_
    rintro e W5 ⟨rfl, d5, b5⟩
    have h5 := h4.go hap hal b5 d5
    have r8_5 := r8_4.go hpl b5
    have r9_5 := r9_4.go hpl b5
    refine hK'.out _ _ h5.vol (fun _ => ?_)
    clear hK' K'
    try simp only [qA, qB, qC, Act.put, qD, qE, qF]
    refine rk 4 (fun K' hK' => ?_)
    go_simp
    refine (HPK.out W5 (HTW.out _ h5)).mono ?_
    rintro e W6 ⟨rfl, b6⟩
    have h6 := h5.fresh hap hal b6
    have r8_6 := r8_5.go hpl (Kept.fresh b6)
    have r9_6 := r9_5.go hpl (Kept.fresh b6)
    refine hK'.out _ _ h6.vol (fun _ => ?_)
    clear hK' K'
    try simp only [qA, qB, qC, Act.put, qD, qE, qF]
    refine tk 5 h6.vol ?_
    refine tk 6 h6.vol ?_
    refine tk 7 h6.vol ?_
    all_goals skip
    rotate_left 1
    rw [if_pos (by rfl)]
    refine wp_alloc_abs 254 rfl zB alloc_blk ?_
    intro W3 q8 b3 lo3 hi3 th3
    have h3 := h2.fresh hap hal b3
    have c5_3 := c5_2.go hpl (Kept.fresh b3)
    have r9_3 := r9_2.go hpl (Kept.fresh b3)
    have r8_3 : Rw w W3 q8 128 := ⟨th3, Nat.le_trans h2.kept.size lo3, hi3⟩
    have ne89 : q8 ≠ q9 := by have := r9_2.2.2; omega
    refine hK'.out _ _ h3.vol (fun _ => ?_)
    clear hK' K'
    try simp only [qA, qB, qC, Act.put, qD, qE, qF]
    refine rk 1 (fun K' hK' => ?_)
    go_simp
    refine (HOF.out W3 q5 c5_3 (HTW.out _ h3)).mono ?_
    rintro e W4 ⟨rfl, b4⟩
    have h4 := h3.fresh hap hal b4
    have r8_4 := r8_3.go hpl (Kept.fresh b4)
    have r9_4 := r9_3.go hpl (Kept.fresh b4)
    refine hK'.out _ _ h4.vol (fun _ => ?_)
    clear hK' K'
    try simp only [qA, qB, qC, Act.put, qD, qE, qF]
    refine rk 3 (fun K' hK' => ?_)
    go_simp
    refine (HST.out W4 h4 (HTW.out _ h4)).mono ?_
    rintro e W5 ⟨rfl, d5, b5⟩
    have h5 := h4.go hap hal b5 d5
    have r8_5 := r8_4.go hpl b5
    have r9_5 := r9_4.go hpl b5
    refine hK'.out _ _ h5.vol (fun _ => ?_)
    clear hK' K'
    try simp only [qA, qB, qC, Act.put, qD, qE, qF]
    refine rk 4 (fun K' hK' => ?_)
    go_simp
    refine (HPK.out W5 (HTW.out _ h5)).mono ?_
    rintro e W6 ⟨rfl, b6⟩
    have h6 := h5.fresh hap hal b6
    have r8_6 := r8_5.go hpl (Kept.fresh b6)
    have r9_6 := r9_5.go hpl (Kept.fresh b6)
    refine hK'.out _ _ h6.vol (fun _ => ?_)
    clear hK' K'
    try simp only [qA, qB, qC, Act.put, qD, qE, qF]
    refine tk 5 h6.vol ?_
    refine tk 6 h6.vol ?_
    refine tk 7 h6.vol ?_
    all_goals skip
    rotate_left 1
    rw [if_pos (by rfl)]
    refine wp_alloc_abs 254 rfl zB alloc_blk ?_
    intro W2 q8 b2 lo2 hi2 th2
    have h2 := h1.fresh hap hal b2
    have r9_2 := r9_1.go hpl (Kept.fresh b2)
    have r8_2 : Rw w W2 q8 128 := ⟨th2, Nat.le_trans h1.kept.size lo2, hi2⟩
    have ne89 : q8 ≠ q9 := by have := r9_1.2.2; omega
    refine hK'.out _ _ h2.vol (fun _ => ?_)
    clear hK' K'
    try simp only [qA, qB, qC, Act.put, qD, qE, qF]
    refine rk 0 (fun K' hK' => ?_)
    go_simp
    have b3 : Below W2.heap.size W2 (W2.alloc (.cells #[.string (⟨#[97, 117, 100, 105, 116, 98, 111, 111, 107, 44, 32, 106, 111, 117, 114, 110, 97, 108, 32, 49]⟩ : ByteArray)] 9)) := (Below.refl _ _).alloc (Nat.le_refl _) _
    have h3 := h2.fresh hap hal b3
    have r8_3 := r8_2.go hpl (Kept.fresh b3)
    have r9_3 := r9_2.go hpl (Kept.fresh b3)
    have c5_3 : Cl w (W2.alloc (.cells #[.string (⟨#[97, 117, 100, 105, 116, 98, 111, 111, 107, 44, 32, 106, 111, 117, 114, 110, 97, 108, 32, 49]⟩ : ByteArray)] 9)) W2.heap.size (.string (⟨#[97, 117, 100, 105, 116, 98, 111, 111, 107, 44, 32, 106, 111, 117, 114, 110, 97, 108, 32, 49]⟩ : ByteArray)) := ⟨by rw [World.cell?_alloc_at _ _ _ _ rfl]; rfl, h2.kept.size, by simp⟩
    clear b3
    generalize hq5 : W2.heap.size = q5 at c5_3 ⊢
    clear hq5
    generalize (W2.alloc (.cells #[.string (⟨#[97, 117, 100, 105, 116, 98, 111, 111, 107, 44, 32, 106, 111, 117, 114, 110, 97, 108, 32, 49]⟩ : ByteArray)] 9)) = W3 at *
    refine hK'.out _ _ h3.vol (fun _ => ?_)
    clear hK' K'
    try simp only [qA, qB, qC, Act.put, qD, qE, qF]
    refine rk 1 (fun K' hK' => ?_)
    go_simp
    refine (HOF.out W3 q5 c5_3 (HTW.out _ h3)).mono ?_
    rintro e W4 ⟨rfl, b4⟩
    have h4 := h3.fresh hap hal b4
    have r8_4 := r8_3.go hpl (Kept.fresh b4)
    have r9_4 := r9_3.go hpl (Kept.fresh b4)
    refine hK'.out _ _ h4.vol (fun _ => ?_)
    clear hK' K'
    try simp only [qA, qB, qC, Act.put, qD, qE, qF]
    refine rk 3 (fun K' hK' => ?_)
    go_simp
    refine (HST.out W4 h4 (HTW.out _ h4)).mono ?_
    rintro e W5 ⟨rfl, d5, b5⟩
    have h5 := h4.go hap hal b5 d5
    have r8_5 := r8_4.go hpl b5
    have r9_5 := r9_4.go hpl b5
    refine hK'.out _ _ h5.vol (fun _ => ?_)
    clear hK' K'
    try simp only [qA, qB, qC, Act.put, qD, qE, qF]
    refine rk 4 (fun K' hK' => ?_)
    go_simp
    refine (HPK.out W5 (HTW.out _ h5)).mono ?_
    rintro e W6 ⟨rfl, b6⟩
    have h6 := h5.fresh hap hal b6
    have r8_6 := r8_5.go hpl (Kept.fresh b6)
    have r9_6 := r9_5.go hpl (Kept.fresh b6)
    refine hK'.out _ _ h6.vol (fun _ => ?_)
    clear hK' K'
    try simp only [qA, qB, qC, Act.put, qD, qE, qF]
    refine tk 5 h6.vol ?_
    refine tk 6 h6.vol ?_
    refine tk 7 h6.vol ?_
    all_goals skip
    rotate_left 1
    all_goals
      refine rk 10 (fun K' hK' => ?_)
      refine wp_store_mid 254 _ _ rfl q8 0 (bytesV hd).toArray rfl rfl (by rw [e128]; exact r8_6.1) (by rw [List.size_toArray]; exact HIB.out) (all_oneCell_toArray (bytesV_one hd)) ?_
      rw [List.toList_toArray]
      have g7 : Kept (· = q8) W6 (W6.setCells q8 0 (bytesV hd)) := Kept.setCells _ _ _ _ (Or.inl rfl)
      have h7 : Lv p bb n a C w (W6.setCells q8 0 (bytesV hd)) := ⟨h6.kept.trans g7 (fun g h1 h2 => by have := r8_6.2.1; omega), h6.disk.kept g7 (by have := r8_6.2.1; omega) (by have := L0.disk.lt.2; have := r8_6.2.1; omega) (fun g hg => by cases hg), World.rangeAt_setCells_apart h6.vol _ _ _ (Or.inl (by have := r8_6.2.1; omega))⟩
      have R8 : (W6.setCells q8 0 (bytesV hd)).rangeAt q8 0 (bytesV hd) := World.rangeAt_setCells_same _ _ _ _ (by rw [bytesV_length, hdl]; exact r8_6.1)
      have r9_7 : Rw w (W6.setCells q8 0 (bytesV hd)) q9 32 := ⟨World.there_setCells r9_6.1 _ _ _, r9_6.2.1, by rw [size_setCells]; exact r9_6.2.2⟩
      have l8_7 : w.heap.size ≤ q8 ∧ q8 < (W6.setCells q8 0 (bytesV hd)).heap.size := ⟨r8_6.2.1, by rw [size_setCells]; exact r8_6.2.2⟩
      clear g7
      generalize (W6.setCells q8 0 (bytesV hd)) = W7 at *
      refine hK'.out _ _ h7.vol (fun _ => ?_)
      clear hK' K'
      try simp only [qA, qB, qC, Act.put, qD, qE, qF]
      refine rk 11 (fun K' hK' => ?_)
      refine wp_store_mid 104 _ _ rfl q9 0 (hV H1).toArray rfl rfl (by rw [e32]; exact r9_7.1) (by rw [List.size_toArray]; exact HIH.out) (all_oneCell_toArray (hV_one H1)) ?_
      rw [List.toList_toArray]
      have g8 : Kept (· = q9) W7 (W7.setCells q9 0 (hV H1)) := Kept.setCells _ _ _ _ (Or.inl rfl)
      have h8 : Lv p bb n a C w (W7.setCells q9 0 (hV H1)) := ⟨h7.kept.trans g8 (fun g h1 h2 => by have := r9_7.2.1; omega), h7.disk.kept g8 (by have := r9_7.2.1; omega) (by have := L0.disk.lt.2; have := r9_7.2.1; omega) (fun g hg => by cases hg), World.rangeAt_setCells_apart h7.vol _ _ _ (Or.inl (by have := r9_7.2.1; omega))⟩
      have R8' : (W7.setCells q9 0 (hV H1)).rangeAt q8 0 (bytesV hd) := World.rangeAt_setCells_apart R8 _ _ _ (Or.inl ne89)
      have l8_8 : w.heap.size ≤ q8 ∧ q8 < (W7.setCells q9 0 (hV H1)).heap.size := ⟨l8_7.1, by rw [size_setCells]; exact l8_7.2⟩
      clear g8
      generalize (W7.setCells q9 0 (hV H1)) = W8 at *
      refine hK'.out _ _ h8.vol (fun _ => ?_)
      clear hK' K'
      try simp only [qA, qB, qC, Act.put, qD, qE, qF]
      refine ⟨by kernel_rfl, ?_⟩
      refine NoPanic.normal ?_
      try simp only [qA, qB, qC, Act.put, qD, qE, qF]
      go_wp2_with fail
      go_meet
      exact ⟨q8, rfl, h8, l8_8.1, l8_8.2, R8'⟩
  case rest =>
    obtain ⟨q, rfl, hL, hq0, hq1, hrq⟩ := hcut
    have hbl := L0.disk.lt.2
    have hlay := vlay_any p bb n 0 C (.slice none 0 0) [] hd wc (by omega) hn (by simp) hdl hL.disk
    have hvw := hL.vol
    go_wp2_with (first
      | (refine wpList_load_mid rfl 222 _ rfl a 0 rfl (volL p n) _ hvw Tryz.underlying222 rfl HIV.out ?_)
      | (refine wpList_load_mid rfl 254 _ rfl q 0 rfl (bytesV hd) _ hrq Tryz.underlying254 rfl HIB.out ?_))
    refine hlay.mono ?_
    rintro e w1 ⟨rfl, cv1, hD1, hcv1, hk1⟩
    clear hlay
    rw [List.nil_append] at hD1
    have hsc := hL.kept.size
    have K1 : Kept (fun g => g = p ∨ g = bb) w w1 := (hL.kept.mono (S' := fun g => g = p ∨ g = bb) (fun g _ h => Or.inl h)).trans hk1 (fun g _ h => by rcases h with h | h; exact Or.inl h; cases h)
    have V1 : w1.rangeAt a 0 (volL p n) := vol_kept hvw hk1 (by omega) (by rintro (h | h); exact hap h; cases h)
    have hset := vsettle_any p bb n C cv1 [(0, hd)] w1 hn (by simp) hD1
    have HK1 : Hid (Kept (fun g => g = p ∨ g = bb) w w1) := K1
    clear hvw hrq hD1 hcv1 hk1 hL K1
    go_wp2_with (first
      | (refine wpList_load_mid rfl 222 _ rfl a 0 rfl (volL p n) _ V1 Tryz.underlying222 rfl HIV.out ?_))
    refine hset.mono ?_
    rintro e w2 ⟨rfl, hD2, hk2⟩
    clear hset
    have hs1 := HK1.out.size
    have V2 : w2.rangeAt a 0 (volL p n) := vol_kept V1 hk2 (by omega) (by rintro (h | h); exact hap h; exact hab h)
    have HK2 : Hid (Kept (fun g => g = p ∨ g = bb) w w2) := HK1.out.trans hk2 (fun g _ h => h)
    have hsz := vsize_any p n w2
    have HD2 : Hid (DiskAt w2 p bb n (putAll C [(0, hd)]) (.slice none 0 0) []) := hD2
    clear V1 hD2 hk2 HK1
    go_wp2_with (first
      | (refine wpList_load_mid rfl 222 _ rfl a 0 rfl (volL p n) _ V2 Tryz.underlying222 rfl HIV.out ?_))
    refine hsz.mono ?_
    rintro e w3 ⟨rfl, hb3⟩
    clear hsz
    have hs2 := HK2.out.size
    have V3 : w3.rangeAt a 0 (volL p n) := vol_kept V2 (Kept.fresh (S := fun _ => False) hb3) (by omega) id
    have HD3 : Hid (DiskAt w3 p bb n (putAll C [(0, hd)]) (.slice none 0 0) []) := HD2.out.fresh hb3
    have HK3 : Hid (Kept (fun g => g = p ∨ g = bb) w w3) := HK2.out.trans (Kept.fresh (S := fun _ => False) hb3) (fun g _ h => h.elim)
    have HV3 : Hid (w3.rangeAt a 0 (volL p n)) := V3
    clear V2 V3 hb3 HD2 HK2 hs2
    obtain ⟨m, hm⟩ : ∃ m, n = m + 1 := ⟨n - 1, by omega⟩
    have hnm : ((n : Int) - 1) = (m : Int) := by omega
    have HM : Hid (n = m + 1) := hm
    have hm1 : m ≤ 1000 := by omega
    have n1 : (1 : Int) ≤ (n : Int) := by omega
    clear hm
    go_wp2_with fail
    go_loopw [20] (fun i wr => ∃ (k : Nat) (cv : Value), i = .int .i64 k ∧ k ≤ m ∧ Hid (DiskAt wr p bb n (putAll C [(0, hd)]) cv (wipeL k) ∧ (∀ g, cv.ownBlock = some g → w.heap.size ≤ g) ∧ Kept (fun g => g = p ∨ g = bb) w wr ∧ wr.rangeAt a 0 (volL p n))) (fun i _ => m - (intOf i).toNat)
    case atStart => exact ⟨0, _, rfl, Nat.zero_le _, HD3.out, (fun g hg => by cases hg), HK3.out, HV3.out⟩
    case round =>
      clear HD3 HK3 HV3
      obtain ⟨k, cv, rfl, hk, hI⟩ := hrel
      have VR := hI.out.2.2.2
      have hsr := hI.out.2.2.1.size
      by_cases hlt : k < m
      · have k1 : (k : Int) < (m : Int) := by omega
        have k0 : (0 : Int) ≤ (k : Int) := by omega
        have hlay := vlay_any p bb n (k + 1) (putAll C [(0, hd)]) cv (wipeL k) z128 wr (by have := HM.out; omega) hn (by rw [wipeL_len]; omega) (by decide +kernel) hI.out.1
        rw [show ((k + 1 : Nat) : Int) = (k : Int) + 1 by omega] at hlay
        rw [show bytesV z128 = zB from rfl] at hlay
        go_wp2_with (first
          | (refine wpList_build_of rfl 254 rfl zB.toArray build_blk ?_)
          | (refine wpList_load_mid rfl 222 _ rfl a 0 rfl (volL p n) _ VR Tryz.underlying222 rfl HIV.out ?_))
        refine hlay.mono ?_
        rintro e w5 ⟨rfl, cv5, hD5, hcv5, hk5⟩
        clear hlay
        go_wp2_with fail
        refine ⟨⟨k + 1, cv5, by go_num, by omega, ?_, ?_, ?_, ?_⟩, ?_⟩
        · rw [wipeL_succ]; exact hD5
        · intro g hg
          rcases hcv5 g hg with h | h
          · exact hI.out.2.1 g h
          · omega
        · exact hI.out.2.2.1.trans hk5 (fun g h1 h2 => by rcases h2 with h2 | h2; exact Or.inl h2; have := hI.out.2.1 g h2; omega)
        · exact vol_kept VR hk5 (by omega) (by rintro (h | h); exact hap h; have := hI.out.2.1 a h; omega)
        · simp [intOf]; omega
      · have k1 : ¬ (k : Int) < (m : Int) := by omega
        obtain rfl : m = k := by omega
        have hset := vsettle_any p bb n (putAll C [(0, hd)]) cv (wipeL m) wr hn (by rw [wipeL_len]; omega) hI.out.1
        go_wp2_with (first
          | (refine wpList_load_mid rfl 222 _ rfl a 0 rfl (volL p n) _ VR Tryz.underlying222 rfl HIV.out ?_))
        refine hset.mono ?_
        rintro e w6 ⟨rfl, hD6, hk6⟩
        clear hset
        go_wp2_with fail
        go_end0
        refine ⟨rfl, hD6.congr (fun i hi => ?_), hI.out.2.2.1.trans hk6 (fun g _ h => h)⟩
        rw [put_wipe, ← HHD.out]
        unfold fmtC
        by_cases e0 : i = 0
        · subst e0; rw [if_neg (by omega), if_pos rfl]; rfl
        · rw [if_pos (by have := HM.out; omega), if_neg e0]
end Go.Proofs.YteglimjonofdeaaGreatDoor
