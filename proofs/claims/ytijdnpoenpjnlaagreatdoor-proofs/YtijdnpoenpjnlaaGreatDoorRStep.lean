import Derived.Test.YtijdnpoenpjnlaaGreatDoorRTree
set_option linter.unusedVariables false
set_option linter.unusedSimpArgs false
namespace Go.Proofs.YtijdnpoenpjnlaaGreatDoor
open Go.RowKit

/-- The steps on what the caller owns, but for those on disks. -/
theorem owner_any (p k : Nat) (S : WS) (kd x y z a b c : Int) (s : ByteArray) (w : World) (h : WAt p k w S) (hk : k ≤ 1000000) (B : OpOk x y z a b c) (hkd : kd < 11 ∨ 13 < kd) :
    Calls Tryz.prog 17 #[.pointer (some ⟨p, 0, none⟩), .agg (opCells kd x y z a b c s).toArray] w fun e w' => ∃ r, e = .returned (.bool r) ∧
      ((r = true ∧ ∃ S', WAt p (k + 1) w' S' ∧ Far p S S' w w') ∨ (r = false ∧ (kd < 1 ∨ 14 < kd) ∧ Below w.heap.size w w')) := by
  have yes : ∀ {kd : Int}, (Calls Tryz.prog 17 #[.pointer (some ⟨p, 0, none⟩), .agg (opCells kd x y z a b c s).toArray] w fun e w' => e = .returned (.bool true) ∧ ∃ S', WAt p (k + 1) w' S' ∧ Far p S S' w w') →
      Calls Tryz.prog 17 #[.pointer (some ⟨p, 0, none⟩), .agg (opCells kd x y z a b c s).toArray] w fun e w' => ∃ r, e = .returned (.bool r) ∧ ((r = true ∧ ∃ S', WAt p (k + 1) w' S' ∧ Far p S S' w w') ∨ (r = false ∧ (kd < 1 ∨ 14 < kd) ∧ Below w.heap.size w w')) :=
    fun H => H.mono fun e w' ⟨h1, h2⟩ => ⟨true, h1, Or.inl ⟨rfl, h2⟩⟩
  by_cases h0 : kd < 1 ∨ 14 < kd
  · exact (owner_none p k S kd x y z a b c s w h hk B h0).mono fun e w' ⟨h1, h2⟩ => ⟨false, h1, Or.inr ⟨rfl, h0, h2⟩⟩
  obtain rfl | rfl | rfl | rfl | rfl | rfl | rfl | rfl | rfl | rfl | rfl : kd = 1 ∨ kd = 2 ∨ kd = 3 ∨ kd = 4 ∨ kd = 5 ∨ kd = 6 ∨ kd = 7 ∨ kd = 8 ∨ kd = 9 ∨ kd = 10 ∨ kd = 14 := by omega
  · exact yes (owner_text p k S x y z a b c s w h hk B)
  · exact yes (owner_join p k S x y z a b c s w h hk B)
  · exact yes (owner_turn p k S x y z a b c s w h hk B)
  · exact yes (owner_part p k S x y z a b c s w h hk B)
  · exact yes (owner_item p k S x y z a b c s w h hk B)
  · exact yes (owner_noitem p k S x y z a b c s w h hk B)
  · exact yes (owner_drop p k S x y z a b c s w h hk B)
  · exact yes (owner_keep p k S x y z a b c s w h hk B)
  · exact yes (owner_nokeep p k S x y z a b c s w h hk B)
  · exact yes (owner_disk p k S x y z a b c s w h hk B)
  · exact yes (owner_lose p k S x y z a b c s w h hk B)

/-- Which kinds does Sums play? -/
def sumsKind (kd : Int) : Prop := kd < 11 ∨ kd = 14 ∨ kd = 20 ∨ kd = 21 ∨ kd = 22
theorem tree_sums (p k : Nat) (S : WS) (kd x y z a b c : Int) (s : ByteArray) (w : World) (h : WAt p k w S) (G : Glob p w) (hk : k ≤ 1000000) (B : OpOk x y z a b c) (hs : s.size ≤ 1000000) (hkd : kd < 1 ∨ kd = 20 ∨ kd = 21 ∨ kd = 22) :
    Calls Tryz.prog 18 #[.pointer (some ⟨p, 0, none⟩), .agg (opCells kd x y z a b c s).toArray] w fun e w' => e = .returned (.bool true) ∧ ∃ S', WAt p (k + 1) w' S' ∧ Far p S S' w w' := by
  rcases hkd with hkd | rfl | rfl | rfl
  · exact tree_none p k S kd x y z a b c s w h G hk B hs (by omega)
  · exact tree_sum p k S x y z a b c s w h G hk B hs
  · exact tree_encode p k S x y z a b c s w h G hk B hs
  · exact tree_decode p k S x y z a b c s w h G hk B hs

set_option maxRecDepth 10000 in
set_option maxHeartbeats 1000000 in
theorem step_sums (p k : Nat) (S : WS) (kd x y z a b c : Int) (s : ByteArray) (w : World) (h : WAt p k w S) (G : Glob p w) (hk : k ≤ 500000) (B : OpOk x y z a b c) (hs : s.size ≤ 1000000) (hkd : sumsKind kd) (hgv : S.gv = .slice none 0 0) :
    Calls Tryz.prog 16 #[.pointer (some ⟨p, 0, none⟩), .agg (opCells kd x y z a b c s).toArray] w fun e w' => e = .returned (.bool true) ∧ ∃ S', WAt p (k + 1) w' S' ∧ S'.gv = .slice none 0 0 ∧ Below p w w' := by
  have hpw := h.lt
  have hr0 := range_new w (opCells kd x y z a b c s) 28
  have hb0 : Below w.heap.size w (w.alloc (.cells (opCells kd x y z a b c s).toArray 28)) := (Below.refl _ _).alloc (Nat.le_refl _) _
  have W0 : WAt p k (w.alloc (.cells (opCells kd x y z a b c s).toArray 28)) S := h.below hb0
  have HK : Hid (sumsKind kd) := hkd
  have HG : Hid (Glob p w) := G
  have HV : Hid (S.gv = .slice none 0 0) := hgv
  have HW : Hid (WAt p k w S) := h
  have i0 : (w.alloc (.cells (opCells kd x y z a b c s).toArray 28)).cell? ⟨w.heap.size, 0, none⟩ = some (.int .i64 kd) := by
    have := hr0 0 _ rfl; rwa [Nat.zero_add] at this
  clear hkd G hgv h
  go_enter Tryz.func16, Tryz.ntmps16
  go_wp2_with (refine wpList_load_mid rfl 28 _ rfl w.heap.size 0 rfl (opCells kd x y z a b c s) _ hr0 Tryz.underlying28 rfl (info_op _ _ _ _ _ _ _ _) ?_)
  refine (owner_any p k S kd x y z a b c s _ W0 (by omega) B (by have := HK.out; unfold sumsKind at this; omega)).mono ?_
  rintro e w1 ⟨r, rfl, hr⟩
  rcases hr with ⟨rfl, S', W1, F1⟩ | ⟨rfl, hk1, hb1⟩
  · go_wp2_with fail
    go_ret
    exact ⟨rfl, S', W1, F1.gv.trans HV.out, (hb0.mono (Nat.le_of_lt hpw)).trans (F1.below W0)⟩
  · have hkd := HK.out
    unfold sumsKind at hkd
    have h30 : kd < 30 := by omega
    have hk2 : Hid (kd < 1 ∨ kd = 20 ∨ kd = 21 ∨ kd = 22) := by show kd < 1 ∨ kd = 20 ∨ kd = 21 ∨ kd = 22; omega
    clear hkd hk1
    have hsz : (w.alloc (.cells (opCells kd x y z a b c s).toArray 28)).heap.size = w.heap.size + 1 := by simp
    have hr1 : w1.rangeAt w.heap.size 0 (opCells kd x y z a b c s) := fun j u hu => (hb1.cell (p := ⟨w.heap.size, 0 + j, none⟩) (by rw [hsz]; exact Nat.lt_succ_self _)).trans (hr0 j u hu)
    have i1 : w1.cell? ⟨w.heap.size, 0, none⟩ = some (.int .i64 kd) := by
      have := hr1 0 _ rfl; rwa [Nat.zero_add] at this
    have W1 : WAt p k w1 S := W0.below hb1
    have hB1 : Below w.heap.size w w1 := hb0.trans (hb1.mono (by rw [hsz]; omega))
    have G1 : Glob p w1 := HG.out.below (hB1.mono (Nat.le_of_lt hpw))
    clear hb1 hsz i0 W0
    go_wp2_with (refine wpList_load_mid rfl 28 _ rfl w.heap.size 0 rfl (opCells kd x y z a b c s) _ hr1 Tryz.underlying28 rfl (info_op _ _ _ _ _ _ _ _) ?_)
    refine (tree_sums p k S kd x y z a b c s w1 W1 G1 (by omega) B hs hk2.out).mono ?_
    rintro e w2 ⟨rfl, S', W2, F2⟩
    go_wp2_with fail
    refine (looks_nil p (k + 1) S' w2 W2 (F2.gv.trans HV.out)).mono ?_
    rintro e w3 ⟨rfl, hw3⟩
    obtain rfl : w2 = w3 := hw3.symm
    clear hw3
    go_wp2_with fail
    go_ret
    exact ⟨rfl, S', W2, F2.gv.trans HV.out, (hB1.mono (Nat.le_of_lt hpw)).trans (F2.below W1)⟩
end Go.Proofs.YtijdnpoenpjnlaaGreatDoor
