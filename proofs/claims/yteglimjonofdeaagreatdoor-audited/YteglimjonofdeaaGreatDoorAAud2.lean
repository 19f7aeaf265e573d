import Derived.Test.YteglimjonofdeaaGreatDoorAAud1
set_option linter.unusedVariables false
set_option linter.unusedSimpArgs false
namespace Go.Proofs.YteglimjonofdeaaGreatDoor
open Go.RowKit

theorem wpList_load_midg {ops : Array Oper} {rest : List Oper} {op : Oper} {a : Act} {w : World} {Q : Exit → Act → World → Prop} (hw : Region.wanted op (yielded ops a.tmps) = true) (ty : TypeId) (x : Operand) (ho : op.op = .load ty x)
    (b o : Nat) (hx : a.eval x = .pointer (some ⟨b, o, none⟩)) (cs : List Value) (d : TypeDesc) (hc : w.rangeAt b o cs)
    (hu : Tryz.prog.underlying ty = some d) (hd : d.isRow = true) (hi : (Tryz.prog.info? ty).map (·.size) = some cs.length)
    (h : wpList Tryz.prog ops Q rest (a.put op.dst (.agg cs.toArray)) w) : wpList Tryz.prog ops Q (op :: rest) a w :=
  wpList_step fun K hK => by rw [if_pos hw]; exact wp_load_mid ty x ho b o hx cs d hc hu hd hi (hK _ _ h)
/-- Has a book grown from one head to the next? -/
def growV (K : Nat → Int) (n0 n1 : Nat) (r0 r1 : ByteArray) (pf : List ByteArray) : Value :=
  if n1 < n0 then .iface 41 (.int .i64 10) else if n1 = n0 ∧ r1 ≠ r0 then .iface 41 (.int .i64 15) else chkV (consOk K n0 n1 r0 r1 pf)
set_option maxRecDepth 10000 in
set_option maxHeartbeats 4000000 in
theorem acg_any (K : Nat → Int) (n0 n1 : Nat) (r0 r1 : ByteArray) (pf : List ByteArray) (v : Value) (w : World) (h0 : r0.size = 32) (h1 : r1.size = 32) (hn0 : n0 ≤ 2147483647) (hn1 : n1 ≤ 2147483647) (hl : LeafAt w v pf) (hpf : pf.length ≤ 1000000000) (T : Tab K w) :
    Calls Tryz.prog 84 #[.agg (hdC (n0 : Nat) r0).toArray, .agg (hdC (n1 : Nat) r1).toArray, v] w fun e w' => e = .returned (growV K n0 n1 r0 r1 pf) ∧ Below w.heap.size w w' := by
  obtain ⟨V0, hV0⟩ : ∃ X, X = w.alloc (.cells (hdC (n0 : Nat) r0).toArray 132) := ⟨_, rfl⟩
  have s0 : V0.heap.size = w.heap.size + 1 := by rw [hV0]; simp
  obtain ⟨V, hVV⟩ : ∃ X, X = V0.alloc (.cells (hdC (n1 : Nat) r1).toArray 132) := ⟨_, rfl⟩
  have sV : V.heap.size = w.heap.size + 2 := by rw [hVV]; simp; omega
  have b01 : Below V0.heap.size V0 V := by rw [hVV]; exact (Below.refl _ _).alloc (Nat.le_refl _) _
  have R0 : V.rangeAt w.heap.size 0 (hdC (n0 : Nat) r0) := range_keep (by rw [hV0]; exact range_new _ _ _) b01 (by omega)
  have R1 : V.rangeAt (w.heap.size + 1) 0 (hdC (n1 : Nat) r1) := by
    have := range_new V0 (hdC (n1 : Nat) r1) 132
    rw [s0] at this
    rw [hVV]; exact this
  have HB2 : Hid (Below w.heap.size w V) := Below.trans (by rw [hV0]; exact (Below.refl _ _).alloc (Nat.le_refl _) _) (b01.mono (by omega))
  have c0 : V.cell? ⟨w.heap.size, 0, none⟩ = some (.int .i64 (n0 : Nat)) := R0 0 _ rfl
  have c1 : V.cell? ⟨w.heap.size + 1, 0, none⟩ = some (.int .i64 (n1 : Nat)) := R1 0 _ rfl
  have HI0 : Hid ((Tryz.prog.info? 104).map (·.size) = some (hV r0).length) := hV_info h0
  have HI1 : Hid ((Tryz.prog.info? 104).map (·.size) = some (hV r1).length) := hV_info h1
  have heq := hash_eq r1 r0 h1 h0 V
  have H032 : Hid (r0.size = 32) := h0
  have H132 : Hid (r1.size = 32) := h1
  have JR : Hid (V.rangeAt w.heap.size 0 (hdC (n0 : Nat) r0) ∧ V.rangeAt (w.heap.size + 1) 0 (hdC (n1 : Nat) r1)) := ⟨R0, R1⟩
  have HCC : Hid (n0 ≤ n1 → ∀ W, Below w.heap.size w W → Calls Tryz.prog 128 #[.int .i64 (n0 : Nat), .int .i64 (n1 : Nat), .string r0, .string r1, v] W (ckPost W (consOk K n0 n1 r0 r1 pf))) := fun hm W hb => ccon_tree K r0 r1 n0 n1 pf v W hm hn1 (hl.below hb) hpf (T.below hb)
  clear hl T b01 R0 R1 h0 h1
  unfold growV
  by_cases hlt : n1 < n0
  · rw [if_pos hlt]
    have x1 : (n1 : Int) < (n0 : Int) := by omega
    clear heq HCC
    generalize (hdC (n0 : Nat) r0).toArray = q0 at *
    generalize (hdC (n1 : Nat) r1).toArray = q1 at *
    go_enter Tryz.func84, Tryz.ntmps84
    go_wp2_with (first | (rw [← hV0]; clear hV0) | (rw [← hVV]; clear hVV))
    go_ret
    exact ⟨rfl, HB2.out⟩
  · rw [if_neg hlt]
    have x1 : ¬ (n1 : Int) < (n0 : Int) := by omega
    have HCC2 := HCC.out (by omega)
    have HCC : Hid (∀ W, Below w.heap.size w W → Calls Tryz.prog 128 #[.int .i64 (n0 : Nat), .int .i64 (n1 : Nat), .string r0, .string r1, v] W (ckPost W (consOk K n0 n1 r0 r1 pf))) := HCC2
    clear HCC2
    have J0 : V.drew.rangeAt w.heap.size 0 (hdC (n0 : Nat) r0) ∧ V.drew.rangeAt (w.heap.size + 1) 0 (hdC (n1 : Nat) r1) := JR.out
    by_cases hf : n1 = n0 ∧ r1 ≠ r0
    · rw [if_pos hf]
      have x2 : ((n1 : Int) == (n0 : Int)) = true := by rw [hf.1]; simp
      have x3 : decide (r1 = r0) = false := decide_eq_false hf.2
      rw [x3] at heq
      clear x3 hf J0
      generalize (hdC (n0 : Nat) r0).toArray = q0 at *
      generalize (hdC (n1 : Nat) r1).toArray = q1 at *
      go_enter Tryz.func84, Tryz.ntmps84
      go_wp2_with (first
        | (rw [← hV0]; clear hV0)
        | (rw [← hVV]; clear hVV)
        | (refine wpList_load_midg (by rfl) 104 _ rfl (w.heap.size + 1) 1 rfl (hV r1) _ (hd_root JR.out.2) Tryz.underlying104 rfl HI1.out ?_)
        | (refine wpList_load_midg (by rfl) 104 _ rfl w.heap.size 1 rfl (hV r0) _ (hd_root JR.out.1) Tryz.underlying104 rfl HI0.out ?_))
      go_ret
      exact ⟨rfl, HB2.out⟩
    rw [if_neg hf]
    generalize hq0 : (hdC (n0 : Nat) r0).toArray = q0 at *
    generalize hq1 : (hdC (n1 : Nat) r1).toArray = q1 at *
    have HQ : Hid ((hdC (n0 : Nat) r0).toArray = q0 ∧ (hdC (n1 : Nat) r1).toArray = q1) := ⟨hq0, hq1⟩
    clear hq0 hq1
    go_enter Tryz.func84, Tryz.ntmps84
    by_cases he : n1 = n0
    case' pos =>
      have x2 : ((n1 : Int) == (n0 : Int)) = true := by rw [he]; simp
      have x3 : decide (r1 = r0) = true := decide_eq_true (Classical.byContradiction fun e => hf ⟨he, e⟩)
      rw [x3] at heq
      clear x3 hf he
      go_wp2_with (first
        | (rw [← hV0]; clear hV0)
        | (rw [← hVV]; clear hVV)
        | (refine wpList_load_midg (by rfl) 104 _ rfl (w.heap.size + 1) 1 rfl (hV r1) _ (hd_root JR.out.2) Tryz.underlying104 rfl HI1.out ?_)
        | (refine wpList_load_midg (by rfl) 104 _ rfl w.heap.size 1 rfl (hV r0) _ (hd_root JR.out.1) Tryz.underlying104 rfl HI0.out ?_))
    case' neg =>
      have x2 : ((n1 : Int) == (n0 : Int)) = false := by rw [beq_eq_false_iff_ne]; omega
      clear heq hf he
      go_wp2_with (first | (rw [← hV0]; clear hV0) | (rw [← hVV]; clear hVV))
    all_goals
      refine wp_region_noPanic ?_
      refine wp_region_held_drew (S := fun W => W.rangeAt w.heap.size 0 (hdC (n0 : Nat) r0) ∧ W.rangeAt (w.heap.size + 1) 0 (hdC (n1 : Nat) r1)) (by kernel_rfl) J0 (fun _ => ?_)
      refine tk 0 J0 ?_
      refine tq (i := 1) (v := ?_) rfl J0 ?_ ?_
      rotate_left 1
      · intro W hSW; have q : W.cell? ⟨w.heap.size, 0, none⟩ = some (.int .i64 (n0 : Nat)) := hSW.1 0 _ rfl; clear hSW; go_simp; try with_reducible rfl
      simp only [qA, qB, qC, Act.put, qD, qE, qF]
      refine tk 2 J0 ?_
      refine tq (i := 3) (v := ?_) rfl J0 ?_ ?_
      rotate_left 1
      · intro W hSW; have q : W.cell? ⟨w.heap.size + 1, 0, none⟩ = some (.int .i64 (n1 : Nat)) := hSW.2 0 _ rfl; clear hSW; go_simp; try with_reducible rfl
      simp only [qA, qB, qC, Act.put, qD, qE, qF]
      refine tk 4 J0 ?_
      refine wpAnyH_take (i := 5) (v := .agg (hV r0).toArray) rfl (by kernel_rfl) (by kernel_rfl) (by kernel_rfl) (fun _ _ _ h => h) (yieldsIf_load_mid (by rfl) 104 _ rfl w.heap.size 1 rfl (hV r0) _ (fun W hW => hd_root hW.1) Tryz.underlying104 rfl HI0.out) J0 ?_
      simp only [qA, qB, qC, Act.put, qD, qE, qF]
      refine tk 7 J0 ?_
      refine wpAnyH_take (i := 8) (v := .agg (hV r1).toArray) rfl (by kernel_rfl) (by kernel_rfl) (by kernel_rfl) (fun _ _ _ h => h) (yieldsIf_load_mid (by rfl) 104 _ rfl (w.heap.size + 1) 1 rfl (hV r1) _ (fun W hW => hd_root hW.2) Tryz.underlying104 rfl HI1.out) J0 ?_
      simp only [qA, qB, qC, Act.put, qD, qE, qF]
      refine tk 10 J0 ?_
      refine rk 6 (fun K' hK' => ?_)
      go_simp
      refine (htx_any r0 H032.out V.drew).mono ?_
      rintro e W3 ⟨rfl, b3⟩
      have s3 : V.heap.size ≤ W3.heap.size := b3.size
      have J3 : W3.rangeAt w.heap.size 0 (hdC (n0 : Nat) r0) ∧ W3.rangeAt (w.heap.size + 1) 0 (hdC (n1 : Nat) r1) := ⟨range_keep J0.1 b3 (by show w.heap.size < V.heap.size; omega), range_keep J0.2 b3 (by show w.heap.size + 1 < V.heap.size; omega)⟩
      have HB3 : Hid (Below w.heap.size w W3) := HB2.out.drew.trans (b3.mono (by show w.heap.size ≤ V.heap.size; omega))
      clear b3
      refine hK'.out _ _ J3 (fun _ => ?_)
      clear hK' K'
      try simp only [qA, qB, qC, Act.put, qD, qE, qF]
      refine rk 9 (fun K' hK' => ?_)
      go_simp
      refine (htx_any r1 H132.out W3).mono ?_
      rintro e W4 ⟨rfl, b4⟩
      have s4 := b4.size
      have J4 : W4.rangeAt w.heap.size 0 (hdC (n0 : Nat) r0) ∧ W4.rangeAt (w.heap.size + 1) 0 (hdC (n1 : Nat) r1) := ⟨range_keep J3.1 b4 (by omega), range_keep J3.2 b4 (by omega)⟩
      have HB4 : Hid (Below w.heap.size w W4) := HB3.out.trans (b4.mono (by omega))
      clear b4
      refine hK'.out _ _ J4 (fun _ => ?_)
      clear hK' K'
      try simp only [qA, qB, qC, Act.put, qD, qE, qF]
      refine rk 11 (fun K' hK' => ?_)
      go_simp
      refine (HCC.out W4 HB4.out).mono ?_
      rintro e W5 ⟨rfl, b5⟩
      have s5 := b5.size
      have J5 : W5.rangeAt w.heap.size 0 (hdC (n0 : Nat) r0) ∧ W5.rangeAt (w.heap.size + 1) 0 (hdC (n1 : Nat) r1) := ⟨range_keep J4.1 b5 (by omega), range_keep J4.2 b5 (by omega)⟩
      have HB5 : Hid (Below w.heap.size w W5) := HB4.out.trans (b5.mono (by omega))
      clear b5
      refine hK'.out _ _ J5 (fun _ => ?_)
      clear hK' K'
      try simp only [qA, qB, qC, Act.put, qD, qE, qF]
      refine tk 12 J5 ?_
      refine ⟨by kernel_rfl, ?_⟩
      refine NoPanic.normal ?_
      try simp only [qA, qB, qC, Act.put, qD, qE, qF]
      go_wp2_with fail
      go_ret
      exact ⟨rfl, HB5.out⟩
end Go.Proofs.YteglimjonofdeaaGreatDoor
