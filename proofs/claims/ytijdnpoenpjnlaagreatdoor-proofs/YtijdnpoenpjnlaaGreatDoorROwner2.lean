import Derived.Test.YtijdnpoenpjnlaaGreatDoorROwner1
import Derived.Deep.RegionLaw
set_option linter.unusedVariables false
set_option linter.unusedSimpArgs false
namespace Go.Proofs.YtijdnpoenpjnlaaGreatDoor
open Go.RowKit

theorem info_int : ∃ i, Tryz.prog.info? 3 = some i ∧ i.zero = some (.int .i64 0) ∧ i.size = 1 ∧ i.bytes = 8 := by
  obtain ⟨i, hi⟩ : ∃ i, Tryz.prog.info? 3 = some i := Option.isSome_iff_exists.1 (by kernel_rfl)
  refine ⟨i, hi, ?_, ?_, ?_⟩
  · have : (Tryz.prog.info? 3).bind (·.zero) = some (.int .i64 0) := by kernel_rfl
    rw [hi] at this; exact this
  · have : (Tryz.prog.info? 3).map (·.size) = some 1 := by kernel_rfl
    rw [hi] at this; exact Option.some.inj this
  · have : (Tryz.prog.info? 3).map (·.bytes) = some 8 := by kernel_rfl
    rw [hi] at this; exact Option.some.inj this

theorem grown_drew (w : World) (o : Obj) (row : Option Nat) : w.grownBy (w.drew.alloc o) row :=
  let h := World.grownBy_alloc w.drew o row
  ⟨h.os, h.tape, h.output, h.size, h.block⟩

set_option maxRecDepth 10000 in
set_option maxHeartbeats 1000000 in
theorem owner_keep (p k : Nat) (S : WS) (x y z a b c : Int) (s : ByteArray) (w : World) (h : WAt p k w S) (hk : k ≤ 1000000) (B : OpOk x y z a b c) :
    Calls Tryz.prog 17 #[.pointer (some ⟨p, 0, none⟩), .agg (opCells 8 x y z a b c s).toArray] w fun e w' => e = .returned (.bool true) ∧ ∃ S', WAt p (k + 1) w' S' ∧ Far p S S' w w' := by
  obtain ⟨x0, x1, y0, y1, z0, z1, a0, a1, b0, b1, c0, c1⟩ := B
  have HA : WAt p k (w.alloc (.cells (opCells 8 x y z a b c s).toArray 28)) S := h.below ((Below.refl _ _).alloc (Nat.le_refl _) _)
  have HW : Hid (WAt p k w S) := h
  clear h
  go_enter Tryz.func17, Tryz.ntmps17
  unfold opCells at HA ⊢
  go_wp2_with fail
  refine (text_any p k S x _ HA hk x0 x1).mono ?_
  rintro e w1 ⟨t, rfl, ht, m, hw1⟩
  have hb1 : Below w.heap.size w w1 := by rw [hw1]; exact below_draws ((Below.refl _ _).alloc (Nat.le_refl _) _) m
  have W1 : WAt p k w1 S := HW.out.below hb1
  have hr1 : ∀ j u, (opCells 8 x y z a b c s)[j]? = some u → w1.cell? ⟨w.heap.size, j, none⟩ = some u := by
    intro j u hu
    rw [hw1]
    have := range_new w (opCells 8 x y z a b c s) 28 j u hu
    rw [Nat.zero_add] at this
    exact this
  have hz1 : w.heap.size < w1.heap.size := by rw [hw1]; show w.heap.size < (w.alloc _).heap.size; simp
  clear hw1 HA
  have i0 : w1.cell? ⟨w.heap.size, 0, none⟩ = some (.int .i64 8) := hr1 0 _ rfl
  have i4 : w1.cell? ⟨w.heap.size, 4, none⟩ = some (.int .i64 a) := hr1 4 _ rfl
  clear hr1
  have hc2 : w1.cell? ⟨p, 2, none⟩ = some S.kv := W1.cell 2
  have hf2 : w1.frozen? ⟨p, 2, none⟩ = false := W1.frozen 2
  have hp1 := W1.lt
  have hnp : some p ≠ S.kv.ownBlock := fun e => by have := W1.keep.lt p e.symm; omega
  have hown : (w1.drew.alloc (.cells #[.int .i64 a] 3)).ownsRow (p + 1) 3 1 S.kv S.K.length S.K := W1.keep.drew.alloc _
  have hnews : ∀ j u, [Value.int .i64 a][j]? = some u → (w1.drew.alloc (.cells #[.int .i64 a] 3)).cell? ((⟨w1.heap.size, 0, none⟩ : Addr).add j) = some u := World.news_of_block (heap_alloc_new w1.drew (.cells #[.int .i64 a] 3))
  have hnK := W1.nK
  obtain ⟨i, hi, hz, hsz, hby⟩ := info_int
  have HW1 : Hid (WAt p k w1 S) := W1
  clear W1
  go_wp2_with fail
  go_region_law (refine step_append_lies _ rfl _ _ 24 rfl (p + 1) 3 i _ 1 8 Tryz.underlying24 hi hz hsz hby rfl (by decide) S.kv S.K.length _ rfl hown ⟨w1.heap.size, 0, none⟩ 1 1 [.int .i64 a] rfl rfl hnews (by simp [Value.oneCell']) (by decide) (by unfold maxLen; omega) (by omega) (by simp; omega) _ rfl ?_; intro g cap w2 ho hgr hat hlt2; have hp2 : w2.cell? ⟨p, 2, none⟩ = some S.kv := (hgr.cell_far ⟨p, 2, none⟩ (by simp; omega) hnp).trans ((World.cell?_alloc_past _ _ _ hp1).trans hc2); have hf2' : w2.frozen? ⟨p, 2, none⟩ = false := (hgr.frozen_far ⟨p, 2, none⟩ (by simp; omega) hnp).trans ((World.frozen?_alloc_past _ _ _ hp1).trans hf2))
  all_goals go_wp2_with fail
  all_goals go_ret
  all_goals
    obtain ⟨W2, F2⟩ := HW1.out.setK (K := S.K ++ [.int .i64 a]) (v := .slice (some ⟨g, 0, none⟩) (S.K.length + 1) cap) (grown_trans (grown_drew _ _ _) hgr) (by simpa using ho) (fun b hb => by
      rcases hat with e | e
      · exact Or.inl (by rw [e]; exact hb)
      · refine Or.inr ?_
        have : g = b := by simpa [Value.ownBlock] using hb
        simp at e; omega) (by simp; omega)
    exact ⟨rfl, _, W2, (Far.of_below S hb1).trans F2⟩

end Go.Proofs.YtijdnpoenpjnlaaGreatDoor
