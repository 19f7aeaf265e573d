import Derived.Test.YtijdnpoenpjnlaaGreatDoorROwner4
set_option linter.unusedVariables false
set_option linter.unusedSimpArgs false
namespace Go.Proofs.YtijdnpoenpjnlaaGreatDoor
open Go.RowKit

theorem info_blk : ∃ i z, Tryz.prog.info? 164 = some i ∧ i.zero = some z ∧ i.bytes = 128 := by
  obtain ⟨i, hi⟩ : ∃ i, Tryz.prog.info? 164 = some i := Option.isSome_iff_exists.1 (by kernel_rfl)
  have h1 : ((Tryz.prog.info? 164).bind (·.zero)).isSome = true := by kernel_rfl
  rw [hi] at h1
  obtain ⟨z, hz⟩ := Option.isSome_iff_exists.1 h1
  refine ⟨i, z, hi, hz, ?_⟩
  have : (Tryz.prog.info? 164).map (·.bytes) = some 128 := by kernel_rfl
  rw [hi] at this; exact Option.some.inj this

theorem wpList_make_blks {ops : Array Oper} {rest : List Oper} {o : Oper} {a : Act} {w : World} {Q : Exit → Act → World → Prop} (hg : o.guard = none) (l c : Operand) (hop : o.op = Op.makeSlice 81 l c)
    (r : Int) (r0 : 0 ≤ r) (r1 : r ≤ 1000) (hl : a.eval l = .int .i64 r) (hc : a.eval c = .int .i64 r)
    (hK : ∀ w' g, Below w.heap.size w w' → wpList Tryz.prog ops Q rest (a.put o.dst (.slice (some ⟨g, 0, none⟩) r.toNat r.toNat)) w') : wpList Tryz.prog ops Q (o :: rest) a w := by
  obtain ⟨i, z, hi, hz, hb⟩ := info_blk
  refine wpList_plain hg fun K hK' => ?_
  have hr := run_make (P := Tryz.prog) w 81 164 i z Tryz.underlying81 hi hz .i64 .i64 r r r0 (Int.le_refl _) (by rw [hb]; omega) (by omega)
  unfold Oper.wp
  simp [execOp, hop, hl, hc, hr, Result.andThen]
  exact hK' _ _ (hK _ _ ((Below.refl _ _).alloc (Nat.le_refl _) _))

set_option maxHeartbeats 400000 in
theorem newdisk_any (a : Int) (w : World) (a0 : -9223372036854775808 ≤ a) (a1 : a ≤ 9223372036854775807) :
    Calls Tryz.prog 26 #[.int .i64 a] w fun e w' => ∃ g, e = .returned (.pointer (some ⟨g, 0, none⟩)) ∧ Below w.heap.size w w' := by
  by_cases h : a < 0
  · go_enter Tryz.func26, Tryz.ntmps26
    go_wp2_with (refine wpList_make_blks rfl _ _ rfl 0 (by omega) (by omega) rfl rfl ?_; intro w1 g hb1)
    go_ret
    first | exact ⟨_, rfl, hb1.alloc hb1.size _⟩ | exact ⟨⟨_, rfl⟩, hb1.alloc hb1.size _⟩
  · have h0 : 0 ≤ a := by omega
    have b0 : 0 ≤ a % 1000 := Int.emod_nonneg _ (by omega)
    have b1 : a % 1000 ≤ 1000 := by have := Int.emod_lt_of_pos a (show (0 : Int) < 1000 by omega); omega
    go_enter Tryz.func26, Tryz.ntmps26
    go_wp2_with (refine wpList_make_blks rfl _ _ rfl (a % 1000) b0 b1 rfl rfl ?_; intro w1 g hb1)
    go_ret
    first | exact ⟨_, rfl, hb1.alloc hb1.size _⟩ | exact ⟨⟨_, rfl⟩, hb1.alloc hb1.size _⟩

theorem hold_append {P : Program} {ops : Array Oper} {rest : List Oper} {o : Oper} {a : Act} {w : World} {Q : Exit → Act → World → Prop} (s x : Operand) (t : TypeId)
    (hop : o.op = Op.call { callee := Callee.builtin Builtin.append, args := #[s, x], argTypes := #[t, t] }) (h : Shut (wpList P ops Q (o :: rest) a w)) : wpList P ops Q (o :: rest) a w := h.out
theorem info_dsk : ∃ i, Tryz.prog.info? 44 = some i ∧ i.zero = some (.pointer none) ∧ i.size = 1 ∧ i.bytes = 8 := by
  obtain ⟨i, hi⟩ : ∃ i, Tryz.prog.info? 44 = some i := Option.isSome_iff_exists.1 (by kernel_rfl)
  refine ⟨i, hi, ?_, ?_, ?_⟩
  · have : (Tryz.prog.info? 44).bind (·.zero) = some (.pointer none) := by kernel_rfl
    rw [hi] at this; exact this
  · have : (Tryz.prog.info? 44).map (·.size) = some 1 := by kernel_rfl
    rw [hi] at this; exact Option.some.inj this
  · have : (Tryz.prog.info? 44).map (·.bytes) = some 8 := by kernel_rfl
    rw [hi] at this; exact Option.some.inj this

set_option maxRecDepth 10000 in
set_option maxHeartbeats 1000000 in
theorem owner_disk (p k : Nat) (S : WS) (x y z a b c : Int) (s : ByteArray) (w : World) (h : WAt p k w S) (hk : k ≤ 1000000) (B : OpOk x y z a b c) :
    Calls Tryz.prog 17 #[.pointer (some ⟨p, 0, none⟩), .agg (opCells 10 x y z a b c s).toArray] w fun e w' => e = .returned (.bool true) ∧ ∃ S', WAt p (k + 1) w' S' ∧ Far p S S' w w' := by
  obtain ⟨x0, x1, y0, y1, z0, z1, a0, a1, b0, b1, c0, c1⟩ := B
  have HA : WAt p k (w.alloc (.cells (opCells 10 x y z a b c s).toArray 28)) S := h.below ((Below.refl _ _).alloc (Nat.le_refl _) _)
  have HW : Hid (WAt p k w S) := h
  clear h
  go_enter Tryz.func17, Tryz.ntmps17
  unfold opCells at HA ⊢
  go_wp2_with fail
  refine (text_any p k S x _ HA hk x0 x1).mono ?_
  rintro e w1 ⟨t, rfl, ht, m, hw1⟩
  have hb1 : Below w.heap.size w w1 := by rw [hw1]; exact below_draws ((Below.refl _ _).alloc (Nat.le_refl _) _) m
  have W1 : WAt p k w1 S := HW.out.below hb1
  have hr1 : ∀ j u, (opCells 10 x y z a b c s)[j]? = some u → w1.cell? ⟨w.heap.size, j, none⟩ = some u := by
    intro j u hu
    rw [hw1]
    have := range_new w (opCells 10 x y z a b c s) 28 j u hu
    rw [Nat.zero_add] at this
    exact this
  have hz1 : w.heap.size < w1.heap.size := by rw [hw1]; show w.heap.size < (w.alloc _).heap.size; simp
  clear hw1 HA
  have i0 : w1.cell? ⟨w.heap.size, 0, none⟩ = some (.int .i64 10) := hr1 0 _ rfl
  have i4 : w1.cell? ⟨w.heap.size, 4, none⟩ = some (.int .i64 a) := hr1 4 _ rfl
  clear hr1
  have hc3 : w1.cell? ⟨p, 3, none⟩ = some S.dv := W1.cell 3
  have hf3 : w1.frozen? ⟨p, 3, none⟩ = false := W1.frozen 3
  have hp1 := W1.lt
  have hnp : some p ≠ S.dv.ownBlock := fun e => by have := W1.disks.lt p e.symm; omega
  have hnD := W1.nD
  obtain ⟨i, hi, hz, hsz, hby⟩ := info_dsk
  have HW1 : Hid (WAt p k w1 S) := W1
  clear W1
  by_cases ha : a < 0
  all_goals
    go_wp2_with fail
    refine (newdisk_any a w1 a0 a1).mono ?_
    rintro e w2 ⟨gd, rfl, hb2⟩
    have hs2 := hb2.size
    have i4' : w2.cell? ⟨w.heap.size, 4, none⟩ = some (.int .i64 a) := (hb2.cell (p := ⟨w.heap.size, 4, none⟩) hz1).trans i4
    have hc3' : w2.cell? ⟨p, 3, none⟩ = some S.dv := (hb2.cell (p := ⟨p, 3, none⟩) hp1).trans hc3
    have hf3' : w2.frozen? ⟨p, 3, none⟩ = false := (hb2.frozen (p := ⟨p, 3, none⟩) hp1).trans hf3
    have W2 : WAt p k w2 S := HW1.out.below hb2
    have hdk := W2.disks
    have HW2 : Hid (WAt p k w2 S) := W2
    clear W2
    have hp2 : p < w2.heap.size := by omega
    have hc3a : ∀ o, (w2.alloc o).cell? ⟨p, 3, none⟩ = some S.dv := fun o => (World.cell?_alloc_past _ _ _ hp2).trans hc3'
    have hf3a : ∀ o, (w2.alloc o).frozen? ⟨p, 3, none⟩ = false := fun o => (World.frozen?_alloc_past _ _ _ hp2).trans hf3'
    have hown : ∀ o o', ((w2.alloc o).alloc o').ownsRow (p + 1) 44 1 S.dv S.D.length S.D := fun o o' => (hdk.alloc o).alloc o'
    have hnews : ∀ o, ∀ j u, [Value.pointer (some ⟨w2.heap.size, 0, none⟩)][j]? = some u → ((w2.alloc o).alloc (.cells #[.pointer (some ⟨w2.heap.size, 0, none⟩)] 44)).cell? ((⟨w2.heap.size + 1, 0, none⟩ : Addr).add j) = some u := fun o j u hu => by
      have := World.news_of_block (heap_alloc_new (w2.alloc o) (.cells #[.pointer (some ⟨w2.heap.size, 0, none⟩)] 44)) j u hu
      rw [show (w2.alloc o).heap.size = w2.heap.size + 1 by simp] at this
      exact this
    clear hdk
    go_wp2_with (refine wpList_append_lies _ rfl _ _ 31 rfl (p + 1) 44 i _ 1 8 Tryz.underlying31 hi hz hsz hby rfl (by decide) S.dv S.D.length _ rfl (hown _ _) ⟨w2.heap.size + 1, 0, none⟩ 1 1 [.pointer (some ⟨w2.heap.size, 0, none⟩)] rfl rfl (hnews _) (by simp [Value.oneCell']) (by decide) (by unfold maxLen; omega) (by omega) (by simp; omega) _ rfl ?_
                 intro g cap w3 ho hgr hat hlt3
                 have hp3 : w3.cell? ⟨p, 3, none⟩ = some S.dv := (hgr.cell_far ⟨p, 3, none⟩ (by simp; omega) hnp).trans ((World.cell?_alloc_past _ _ _ (by simp; omega)).trans (hc3a _))
                 have hfp3 : w3.frozen? ⟨p, 3, none⟩ = false := (hgr.frozen_far ⟨p, 3, none⟩ (by simp; omega) hnp).trans ((World.frozen?_alloc_past _ _ _ (by simp; omega)).trans (hf3a _)))
    go_ret
    obtain ⟨W3, F3⟩ := HW2.out.setD (D := S.D ++ [.pointer (some ⟨w2.heap.size, 0, none⟩)]) (v := .slice (some ⟨g, 0, none⟩) (S.D.length + 1) cap) (grown_trans (grown_trans (World.grownBy_alloc w2 _ _) (World.grownBy_alloc _ _ _)) hgr) (by simpa using ho) (fun b hb => by
      rcases hat with e | e
      · exact Or.inl (by rw [e]; exact hb)
      · refine Or.inr ?_
        have : g = b := by simpa [Value.ownBlock] using hb
        simp at e; omega) (by simp; omega)
    exact ⟨rfl, _, W3, (Far.of_below S (hb1.trans (hb2.mono hb1.size))).trans F3⟩
end Go.Proofs.YtijdnpoenpjnlaaGreatDoor
