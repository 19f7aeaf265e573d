import Derived.Test.YteebdadnfaekmaaDoorGFacts
set_option linter.unusedVariables false
set_option linter.unusedSimpArgs false
namespace Go.Proofs.YteebdadnfaekmaaDoor
open Go.RowKit

set_option maxRecDepth 10000 in
set_option maxHeartbeats 20000000 in
theorem grows_any (c n m at' : Int) (K : Nat → Int) (w : World) (c0 : -9223372036854775808 ≤ c) (c1 : c ≤ 9223372036854775807) (n0 : -9223372036854775808 ≤ n) (n1 : n ≤ 9223372036854775807) (i0 : -9223372036854775808 ≤ m) (i1 : m ≤ 9223372036854775807) (a0 : -9223372036854775808 ≤ at') (a1 : at' ≤ 9223372036854775807) (T : Tab K w) :
    Calls Tryd.prog 5 #[.int .i64 c, .int .i64 n, .int .i64 m, .int .i64 at'] w fun e w' => e = .returned (.bool true) ∧ Below w.heap.size w w' := by
  have HT : Hid (Tab K w) := T
  clear T
  go_enter Tryd.func5, Tryd.ntmps5
  go_wp2_with fail
  refine (pick_ex n 70 n0 n1 (by omega) (by omega) w).mono ?_
  rintro e w0 ⟨N, hre, hr1, hw0⟩
  subst hre
  obtain rfl : w = w0 := hw0.symm
  clear hw0
  have hN2 : N ≤ 70 := by omega
  go_wp2_with fail
  refine (leaves_any c N w (by omega) c0 c1).mono ?_
  rintro e w1 ⟨ls, ao, cap, rfl, hls, hb1⟩
  have HL1 : Hid (LeafAt w1 (.slice ao N cap) ls) := by
    have h := hls.out.2.2
    rw [← hls.out.1] at h
    have := leaf_own h
    rw [hls.out.1] at this
    exact this
  have HT1 : Hid (Tab K w1) := HT.out.below hb1
  have hsz : Hid (∀ s ∈ ls, s.size ≤ 140737488355000) := fun s hs => by have := hls.out.2.1 s hs; omega
  go_wp2_with fail
  have hpk := pick_ex m (N + 1) i0 i1 (by omega) (by omega) w1
  refine hpk.mono ?_
  rintro e w0 ⟨k, hke, hk, hw0⟩
  subst hke
  obtain rfl : w1 = w0 := hw0.symm
  clear hw0 hpk
  have hkN : k ≤ N := by omega
  have hV : (ao = none ∧ N = 0 ∧ cap = 0) ∨ ∃ g, ao = some ⟨g, 0, none⟩ ∧ N ≤ cap := by
    rcases hls.out.2.2.2 with ⟨e, e0⟩ | ⟨g, cap', cur, e, _, _, h, _⟩
    · injection e with e1 e2 e3
      exact Or.inl ⟨e1, e0, e3⟩
    · injection e with e1 e2 e3
      subst e3
      exact Or.inr ⟨g, e1, h⟩
  rcases hV with ⟨rfl, rfl, rfl⟩ | ⟨g, rfl, hcap⟩
  · obtain rfl : k = 0 := by omega
    have LK : LeafAt w1 (.slice none 0 0) (ls.take 0) := Or.inl ⟨rfl, _, _, rfl⟩
    obtain ⟨A, hA⟩ : ∃ A, A = rootF (sumOf K) (ls.take 0) := ⟨_, rfl⟩
    obtain ⟨R, hR⟩ : ∃ R, R = rootF (sumOf K) ls := ⟨_, rfl⟩
    obtain ⟨F, hF⟩ : ∃ F, F = consF (sumOf K) ls 0 := ⟨_, rfl⟩
    have HA : Hid (A = rootF (sumOf K) (ls.take 0)) := hA
    have HR : Hid (R = rootF (sumOf K) ls) := hR
    have HF : Hid (F = consF (sumOf K) ls 0) := hF
    have hA32 : A.size = 32 := by rw [hA]; exact rootF_size _ (sumOf_size K) _
    have hR32 : R.size = 32 := by rw [hR]; exact rootF_size _ (sumOf_size K) _
    have hlen := hls.out.1
    have HLN : Hid (ls.length = 0) := hlen
    have hFl : F.length ≤ 0 := by
      rw [hF]; unfold consF
      split
      · simp
      · have := grownF_len (sumOf K) _ ls 0 true rfl (by omega) (by omega)
        omega
    have HF32 : Hid (∀ b ∈ F, b.size = 32) := by
      rw [hF]; unfold consF
      split
      · intro b hb; cases hb
      · exact grownF_sizes (sumOf K) (sumOf_size K) _ ls 0 true rfl (by omega) (by omega)
    have hra := aroot_all K (ls.take 0) (.slice none 0 0) w1 (by rw [List.length_take]; have := hls.out.1; omega) LK (fun s hs => hsz.out s (List.mem_of_mem_take hs)) HT1.out
    rw [← hA] at hra
    have hrb := fun W hb => aroot_all K ls (.slice none 0 0) W (by omega) (HL1.out.below hb) hsz.out (HT1.out.below hb)
    rw [← hR] at hrb
    have hco := fun W hb => cons_any K ls (.slice none 0 0) 0 W (by omega) (by omega) (HL1.out.below hb) hsz.out (HT1.out.below hb)
    rw [← hF] at hco
    have HRB : Hid (∀ W, Below w1.heap.size w1 W → Calls Tryd.prog 13 #[.slice none 0 0] W fun e w' => e = .returned (.string R) ∧ Below W.heap.size W w') := hrb
    have HCO : Hid (∀ W, Below w1.heap.size w1 W → Calls Tryd.prog 18 #[.slice none 0 0, .int .i64 0] W (consPost W F)) := hco
    clear hA hR hF hrb hco hlen
    have kN : (0 : Int) ≤ (0 : Int) := by omega
    have kc : (0 : Int) ≤ (0 : Int) := by omega
    have k0 : (0 : Int) ≤ (0 : Int) := by omega
    go_wp2_with fail
    refine hra.mono ?_
    rintro e w2 ⟨rfl, hb2⟩
    clear hra
    go_wp2_with fail
    refine (HRB.out w2 hb2).mono ?_
    rintro e w3 ⟨rfl, hb3⟩
    have hB13 : Below w1.heap.size w1 w3 := hb2.trans (hb3.mono hb2.size)
    go_wp2_with fail
    refine (HCO.out w3 hB13).mono ?_
    rintro e w4 ⟨ao2, cap2, rfl, ho4, hb4⟩
    have hB14 : Below w1.heap.size w1 w4 := hB13.trans (hb4.mono hB13.size)
    have HLW : Hid (∀ W, Below w4.heap.size w4 W → LeafAt W (.slice none 0 0) ls) := fun W hb => (HL1.out.below hB14).below hb
    have HTW : Hid (∀ W, Below w4.heap.size w4 W → Tab K W) := fun W hb => (HT1.out.below hB14).below hb
    have HPW : Hid (∀ W, Below w4.heap.size w4 W → W.ownsRow w3.heap.size 9 1 (.slice ao2 F.length cap2) F.length (F.map .string)) := fun W hb => own_below' ho4 hb
    have HCHK : Hid (∀ (s t : ByteArray) (pf : List ByteArray) (v : Value) (W : World), Below w4.heap.size w4 W → pf.length ≤ 1000 → LeafAt W v pf → Calls Tryd.prog 19 #[.int .i64 0, .int .i64 0, .string s, .string t, v] W (ckPost W (consOk K 0 0 s t pf))) := fun s t pf v W hb hpf hl =>
      ccon_all K s t 0 0 pf v W hkN (by omega) hl (by omega) (HTW.out W hb)
    have hg1 : Hid (consOk K 0 0 A R F = true) := by
      show consOk K 0 0 A R F = true
      have hls0 : ls = [] := List.eq_nil_of_length_eq_zero HLN.out
      rw [HA.out, HR.out, HF.out, hls0]
      unfold consF
      rw [if_pos rfl]
      exact gok_zero K []
    have hB4 : Below w.heap.size w w4 := hb1.trans (hB14.mono hb1.size)
    have hpl : Hid (LeafAt w4 (.slice ao2 F.length cap2) F) := leaf_own ho4
    clear ho4 hb2 hb3 hb4
    go_wp2_with fail
    have hchk := HCHK.out A R F _ w4 (Below.refl _ _) (by omega) hpl.out
    rw [hg1.out] at hchk
    refine hchk.mono ?_
    rintro e w5 ⟨rfl, hb5⟩
    clear hchk
    have hBw5 : Below w4.heap.size w4 w5 := hb5
    rw [show chkV true = .nilIface from rfl]
    obtain ⟨A', hA', htA⟩ := turned_fix A at' (by omega) (by omega) a0 a1
    go_wp2_with fail
    refine (htA w5).mono ?_
    rintro e w6 ⟨rfl, hb6⟩
    have hBw6 : Below w4.heap.size w4 w6 := hBw5.trans (hb6.mono hBw5.size)
    have HTA : Hid (∀ w, Calls Tryd.prog 16 #[.string A, .int .i64 at'] w fun e w' => e = .returned (.string A') ∧ Below w.heap.size w w') := htA
    clear htA hb5 hb6
    go_wp2_with fail
    have hchk := HCHK.out A' R F _ w6 hBw6 (by omega) (leaf_own (HPW.out w6 hBw6))
    obtain ⟨b1, hb1'⟩ : ∃ b1, b1 = consOk K 0 0 A' R F := ⟨_, rfl⟩
    rw [← hb1'] at hchk
    have HB1 : Hid (b1 = consOk K 0 0 A' R F) := hb1'
    clear hb1'
    refine hchk.mono ?_
    rintro e w7 ⟨rfl, hb7⟩
    have hBw7 : Below w4.heap.size w4 w7 := hBw6.trans (hb7.mono hBw6.size)
    clear hchk hb7
    have hB7 : Below w.heap.size w w7 := hB4.trans (hBw7.mono hB4.size)
    have hz : b1 = false := by
      rw [HB1.out]
      refine gok_first0 K 0 A' R F ?_
      have h := HA.out
      rw [List.take_zero] at h
      rw [← h]; exact hA'.out.2
    subst hz
    rw [show chkV false = .iface 34 (.int .i64 14) from rfl]
    go_wp2_with fail
    go_ret
    exact ⟨rfl, hB7⟩
  · have hcell : ∀ j (h : j < ls.length), w1.cell? ⟨g, j, none⟩ = some (.string (ls[j]'h)) := fun j hj => by
      rcases HL1.out with ⟨e, _⟩ | ⟨g', off', cap', e, _, hcc⟩
      · rw [e] at hj; simp at hj
      · have e1 : g = g' ∧ 0 = off' := by
          injection e with e _ _; injection e with e; injection e with e1 e2 _; exact ⟨e1, e2⟩
        obtain ⟨rfl, rfl⟩ := e1
        have := hcc j hj
        rw [Nat.zero_add] at this
        exact this
    have HCELL : Hid (∀ j (h : j < ls.length), w1.cell? ⟨g, j, none⟩ = some (.string (ls[j]'h))) := hcell
    have LK : LeafAt w1 (.slice (some ⟨g, 0, none⟩) k cap) (ls.take k) := leaf_take (off := 0) k (by have := hls.out.1; omega) (by have := hls.out.1; omega) (fun j hj => by rw [Nat.zero_add]; exact hcell j hj)
    clear hcell
    obtain ⟨A, hA⟩ : ∃ A, A = rootF (sumOf K) (ls.take k) := ⟨_, rfl⟩
    obtain ⟨R, hR⟩ : ∃ R, R = rootF (sumOf K) ls := ⟨_, rfl⟩
    obtain ⟨F, hF⟩ : ∃ F, F = consF (sumOf K) ls k := ⟨_, rfl⟩
    have HA : Hid (A = rootF (sumOf K) (ls.take k)) := hA
    have HR : Hid (R = rootF (sumOf K) ls) := hR
    have HF : Hid (F = consF (sumOf K) ls k) := hF
    have hA32 : A.size = 32 := by rw [hA]; exact rootF_size _ (sumOf_size K) _
    have hR32 : R.size = 32 := by rw [hR]; exact rootF_size _ (sumOf_size K) _
    have hlen := hls.out.1
    have HLN : Hid (ls.length = N) := hlen
    have hFl : F.length ≤ N := by
      rw [hF]; unfold consF
      split
      · simp
      · have := grownF_len (sumOf K) _ ls k true rfl (by omega) (by omega)
        omega
    have HF32 : Hid (∀ b ∈ F, b.size = 32) := by
      rw [hF]; unfold consF
      split
      · intro b hb; cases hb
      · exact grownF_sizes (sumOf K) (sumOf_size K) _ ls k true rfl (by omega) (by omega)
    have hra := aroot_all K (ls.take k) (.slice (some ⟨g, 0, none⟩) k cap) w1 (by rw [List.length_take]; have := hls.out.1; omega) LK (fun s hs => hsz.out s (List.mem_of_mem_take hs)) HT1.out
    rw [← hA] at hra
    have hrb := fun W hb => aroot_all K ls (.slice (some ⟨g, 0, none⟩) N cap) W (by omega) (HL1.out.below hb) hsz.out (HT1.out.below hb)
    rw [← hR] at hrb
    have hco := fun W hb => cons_any K ls (.slice (some ⟨g, 0, none⟩) N cap) k W (by omega) (by omega) (HL1.out.below hb) hsz.out (HT1.out.below hb)
    rw [← hF] at hco
    have HRB : Hid (∀ W, Below w1.heap.size w1 W → Calls Tryd.prog 13 #[.slice (some ⟨g, 0, none⟩) N cap] W fun e w' => e = .returned (.string R) ∧ Below W.heap.size W w') := hrb
    have HCO : Hid (∀ W, Below w1.heap.size w1 W → Calls Tryd.prog 18 #[.slice (some ⟨g, 0, none⟩) N cap, .int .i64 k] W (consPost W F)) := hco
    clear hA hR hF hrb hco hlen
    have kN : (k : Int) ≤ (N : Int) := by omega
    have kc : (k : Int) ≤ (cap : Int) := by omega
    have k0 : (0 : Int) ≤ (k : Int) := by omega
    go_wp2_with fail
    refine hra.mono ?_
    rintro e w2 ⟨rfl, hb2⟩
    clear hra
    go_wp2_with fail
    refine (HRB.out w2 hb2).mono ?_
    rintro e w3 ⟨rfl, hb3⟩
    have hB13 : Below w1.heap.size w1 w3 := hb2.trans (hb3.mono hb2.size)
    go_wp2_with fail
    refine (HCO.out w3 hB13).mono ?_
    rintro e w4 ⟨ao2, cap2, rfl, ho4, hb4⟩
    have hB14 : Below w1.heap.size w1 w4 := hB13.trans (hb4.mono hB13.size)
    have HLW : Hid (∀ W, Below w4.heap.size w4 W → LeafAt W (.slice (some ⟨g, 0, none⟩) N cap) ls) := fun W hb => (HL1.out.below hB14).below hb
    have HTW : Hid (∀ W, Below w4.heap.size w4 W → Tab K W) := fun W hb => (HT1.out.below hB14).below hb
    have HPW : Hid (∀ W, Below w4.heap.size w4 W → W.ownsRow w3.heap.size 9 1 (.slice ao2 F.length cap2) F.length (F.map .string)) := fun W hb => own_below' ho4 hb
    have HCHK : Hid (∀ (s t : ByteArray) (pf : List ByteArray) (v : Value) (W : World), Below w4.heap.size w4 W → pf.length ≤ 1000 → LeafAt W v pf → Calls Tryd.prog 19 #[.int .i64 k, .int .i64 N, .string s, .string t, v] W (ckPost W (consOk K k N s t pf))) := fun s t pf v W hb hpf hl =>
      ccon_all K s t k N pf v W hkN (by omega) hl (by omega) (HTW.out W hb)
    have hg1 : Hid (consOk K k N A R F = true) := by
      show consOk K k N A R F = true
      rw [HA.out, HR.out, HF.out, ← HLN.out]
      unfold consF
      by_cases e : k = 0
      · rw [if_pos e, e]; exact gok_zero K ls
      · rw [if_neg e]; exact gok_good K ls k (by omega) (by have := HLN.out; omega)
    have hB4 : Below w.heap.size w w4 := hb1.trans (hB14.mono hb1.size)
    have hpl : Hid (LeafAt w4 (.slice ao2 F.length cap2) F) := leaf_own ho4
    clear ho4 hb2 hb3 hb4
    go_wp2_with fail
    have hchk := HCHK.out A R F _ w4 (Below.refl _ _) (by omega) hpl.out
    rw [hg1.out] at hchk
    refine hchk.mono ?_
    rintro e w5 ⟨rfl, hb5⟩
    clear hchk
    have hBw5 : Below w4.heap.size w4 w5 := hb5
    rw [show chkV true = .nilIface from rfl]
    obtain ⟨A', hA', htA⟩ := turned_fix A at' (by omega) (by omega) a0 a1
    go_wp2_with fail
    refine (htA w5).mono ?_
    rintro e w6 ⟨rfl, hb6⟩
    have hBw6 : Below w4.heap.size w4 w6 := hBw5.trans (hb6.mono hBw5.size)
    have HTA : Hid (∀ w, Calls Tryd.prog 16 #[.string A, .int .i64 at'] w fun e w' => e = .returned (.string A') ∧ Below w.heap.size w w') := htA
    clear htA hb5 hb6
    go_wp2_with fail
    have hchk := HCHK.out A' R F _ w6 hBw6 (by omega) (leaf_own (HPW.out w6 hBw6))
    obtain ⟨b1, hb1'⟩ : ∃ b1, b1 = consOk K k N A' R F := ⟨_, rfl⟩
    rw [← hb1'] at hchk
    have HB1 : Hid (b1 = consOk K k N A' R F) := hb1'
    clear hb1'
    refine hchk.mono ?_
    rintro e w7 ⟨rfl, hb7⟩
    have hBw7 : Below w4.heap.size w4 w7 := hBw6.trans (hb7.mono hBw6.size)
    clear hchk hb7
    have hB7 : Below w.heap.size w w7 := hB4.trans (hBw7.mono hB4.size)
    by_cases hk0 : k = 0
    · have k1 : ((k : Int) == 0) = true := by rw [hk0]; rfl
      have hz : b1 = false := by
        rw [HB1.out]
        have e : k = 0 := by omega
        rw [e]
        refine gok_first0 K N A' R F ?_
        have h := HA.out
        rw [e, List.take_zero] at h
        rw [← h]; exact hA'.out.2
      subst hz
      rw [show chkV false = .iface 34 (.int .i64 14) from rfl]
      go_wp2_with fail
      go_ret
      exact ⟨rfl, hB7⟩
    · have hkp : 0 < k := by omega
      have HFG : Hid (F = grownF (sumOf K) ls k true) := by
        show F = _
        rw [HF.out]; unfold consF; rw [if_neg hk0]
      have HGREW : Hid (k < N → ∀ (t : ByteArray) (pf : List ByteArray) (v : Value) (W : World), Below w4.heap.size w4 W → t.size = 32 → pf.length ≤ 1000 → (∀ b ∈ pf, b.size ≤ 1000) → LeafAt W v pf → consOk K k N t R pf = true → ¬ (t = A ∧ pf = F) → Calls Tryd.prog 20 #[.slice (some ⟨g, 0, none⟩) N cap, .int .i64 k, .string t, v] W fun e w' => e = .returned (.bool true) ∧ Below W.heap.size W w') := fun hkN' t pf v W hb ht hpf hpb hl hok hne => by
        have hLN := HLN.out
        have hgr := grew_any K ls pf t g cap v k W hkp (by omega) (by omega) hpf (by omega) (fun j hj => ((hB14.trans (hb.mono hB14.size)).cell (World.block_lt_of_cell? w1 _ (HCELL.out j hj))).trans (HCELL.out j hj)) hl (fun x hx => by have := hls.out.2.1 x hx; omega) ht (fun x hx => by have := hpb x hx; omega) (HTW.out W hb)
          (gok_clash K ls k t pf hkp (by omega) (by rw [hLN, ← HR.out]; exact hok) (by rw [← HA.out, ← HFG.out]; exact hne))
        rw [hLN] at hgr
        exact hgr
      have k1 : ((k : Int) == 0) = false := by rw [beq_eq_false_iff_ne]; omega
      have k2 : (0 : Int) < (k : Int) := by omega
      cases b1
      · rw [show chkV false = .iface 34 (.int .i64 14) from rfl]
        go_wp2_with fail
        refine (turned_other R at' _ (by omega) (by omega) a0 a1).mono ?_
        rintro e w8 ⟨R', rfl, hR', hb8⟩
        have hBw8 : Below w4.heap.size w4 w8 := hBw7.trans (hb8.mono hBw7.size)
        go_wp2_with fail
        have hch := HCHK.out A R' F _ w8 hBw8 (by omega) (leaf_own (HPW.out w8 hBw8))
        have hno : consOk K k N A R' F = false := by
          have := gok_second K ls k R' hkp (by have := HLN.out; omega) (by rw [← HR.out]; exact hR'.out.2)
          rw [HLN.out, ← HFG.out, ← HA.out] at this
          exact this
        rw [hno] at hch
        refine hch.mono ?_
        rintro e w9 ⟨rfl, hb9⟩
        have hBw9 : Below w4.heap.size w4 w9 := hBw8.trans (hb9.mono hBw8.size)
        clear hch hno hb8 hb9
        rw [show chkV false = .iface 34 (.int .i64 14) from rfl]
        have hb10 : Below w9.heap.size w9 (w9.alloc (.cells #[.string A] 9)) := (Below.refl _ _).alloc (Nat.le_refl _) _
        have hBw10 : Below w4.heap.size w4 (w9.alloc (.cells #[.string A] 9)) := hBw9.trans (hb10.mono hBw9.size)
        have ho10 : (w9.alloc (.cells #[.string A] 9)).ownsRow w9.heap.size 9 1 (.slice (some ⟨w9.heap.size, 0, none⟩) 1 1) 1 [.string A] := World.ownsRow_lit w9 #[.string A] 1 (Nat.le_refl _) (by unfold maxLen; omega) rfl
        have hp10 := HPW.out _ hBw10
        go_wp2_with (refine wpList_append_texts rfl _ _ rfl w9.heap.size (.slice (some ⟨w9.heap.size, 0, none⟩) 1 1) 1 [.string A] rfl ho10 _ F rfl w3.heap.size hp10 (by omega) (by simp) ?_
                     intro ao11 m11 cap11 w11 hm11 ho11 hgr11)
        have hBw11 : Below w4.heap.size w4 w11 := hBw10.trans ((Below.refl _ _).grown hgr11 hBw10.size (fun q hq => by have := (ho10.lt q hq).1; have := hBw9.size; omega))
        have hl11 : LeafAt w11 (.slice ao11 m11 cap11) (A :: F) := by
          have e : m11 = (A :: F).length := by have := hm11.out; simp; omega
          subst e
          exact leaf_own ho11
        have hch := HCHK.out A R (A :: F) _ w11 hBw11 (by simp; omega) hl11
        have hno : consOk K k N A R (A :: F) = false := by
          have := gok_len K ls k A R (A :: F) hkp (by have := HLN.out; omega) (by rw [← HFG.out]; simp)
          rw [HLN.out] at this
          exact this
        rw [hno] at hch
        refine hch.mono ?_
        rintro e w12 ⟨rfl, hb12⟩
        have hBw12 : Below w4.heap.size w4 w12 := hBw11.trans (hb12.mono hBw11.size)
        rw [show chkV false = .iface 34 (.int .i64 14) from rfl]
        clear hch hno hb10 hb12 ho10 ho11 hgr11 hl11 hp10
        have hB12 := hB4.trans (hBw12.mono hB4.size)
        by_cases hF0 : F.length = 0
        · have f1 : ¬ (0 : Int) < (F.length : Int) := by omega
          generalize F.length = M at *
          go_wp2_with fail
          go_ret
          exact ⟨rfl, hB12⟩
        · have f1 : (0 : Int) < (F.length : Int) := by omega
          have hkN' : k < N := by
            by_cases e : k = N
            · exfalso
              apply hF0
              rw [HFG.out, grownF_all _ true (by rw [HLN.out]; exact e)]; rfl
            · omega
          have hp12 := HPW.out w12 hBw12
          obtain ⟨g2, hg2⟩ : ∃ g2, ao2 = some ⟨g2, 0, none⟩ := by
            rcases hp12.2 with ⟨_, e⟩ | ⟨g', cap', cur, e, _⟩
            · omega
            · exact ⟨g', by injection e⟩
          subst hg2
          have hcap2 : F.length ≤ cap2 := by
            rcases hp12.2 with ⟨_, e⟩ | ⟨g', cap', cur, e, _, _, h, _⟩
            · omega
            · injection e with _ _ e3; omega
          go_wp2_with fail
          refine (pick_ex at' F.length a0 a1 (by omega) (by omega) w12).mono ?_
          rintro e wx ⟨j, hje, hj, hwx⟩
          subst hje
          obtain rfl : w12 = wx := hwx.symm
          clear hwx
          have hjF : j < F.length := by omega
          obtain ⟨u, hu⟩ : ∃ u, F[j]? = some u := ⟨_, List.getElem?_eq_getElem hjF⟩
          have hu32 : u.size = 32 := HF32.out u (List.mem_of_getElem? hu)
          have HU : Hid (F[j]? = some u) := hu
          have j0 : (0 : Int) ≤ (j : Int) := by omega
          obtain ⟨M, hM⟩ : ∃ M, M = F.length := ⟨_, rfl⟩
          have HM : Hid (M = F.length) := hM
          have HP2 : Hid (w12.ownsRow w3.heap.size 9 1 (.slice (some ⟨g2, 0, none⟩) M cap2) F.length (F.map .string)) := by rw [hM]; exact hp12
          clear hu hp12
          rw [← hM] at hjF hj hcap2 f1 hFl hF0 ⊢
          clear hM
          go_wp2_with (refine wpList_append_texts rfl _ _ rfl w12.heap.size (.slice none 0 0) 0 [] rfl (World.ownsRow_nil _ _ _ _) _ F rfl w3.heap.size HP2.out (by have := HM.out; omega) (Nat.le_refl _) ?_
                       intro ao13 m13 cap13 w13 hm13 ho13 hgr13
                       have em : m13 = M := by have := hm13.out; have := HM.out; omega
                       subst em
                       obtain ⟨g13, hg13⟩ : ∃ g13, ao13 = some ⟨g13, 0, none⟩ := by
                         rcases ho13.2 with ⟨_, e⟩ | ⟨g', cap', cur, e, _⟩
                         · omega
                         · exact ⟨g', by injection e⟩
                       subst hg13
                       have cq : w13.cell? ⟨g13, j, none⟩ = some (.string u) := by rw [ho13.cellAt j (by omega)]; simp only [List.nil_append]; rw [List.getElem?_map, HU.out]; rfl)
          have hb13 : Below w12.heap.size w12 w13 := (Below.refl _ _).grown hgr13 (Nat.le_refl _) (fun q hq => by cases hq)
          have hBw13 : Below w4.heap.size w4 w13 := hBw12.trans (hb13.mono hBw12.size)
          refine (turned_other u at' w13 (by omega) (by omega) a0 a1).mono ?_
          rintro e w14 ⟨u', rfl, hu', hb14⟩
          have hBw14 : Below w4.heap.size w4 w14 := hBw13.trans (hb14.mono hBw13.size)
          have ho14 := own_below' ho13 hb14
          have cq14 : w14.cell? ⟨g13, j, none⟩ = some (.string u) := by rw [ho14.cellAt j (by omega)]; simp only [List.nil_append]; rw [List.getElem?_map, HU.out]; rfl
          have fq14 : w14.frozen? ⟨g13, j, none⟩ = false := ho14.frozenAt j
          have hg13 := (ho14.lt g13 rfl).1
          have hBw15 : Below w4.heap.size w4 (w14.setCell ⟨g13, j, none⟩ (.string u')) := hBw14.setCell (p := ⟨g13, j, none⟩) (by show w4.heap.size ≤ g13; have := hBw12.size; omega) _
          have ho15 := (ho14.stored j (.string u')).1
          have hq15 : LeafAt (w14.setCell ⟨g13, j, none⟩ (.string u')) (.slice (some ⟨g13, 0, none⟩) m13 cap13) (F.set j u') := by
            have e : m13 = (F.set j u').length := by rw [List.length_set]; exact HM.out
            have h := ho15
            rw [List.nil_append, ← List.map_set, e] at h
            have := leaf_own h
            rw [← e] at this
            exact this
          clear cq ho13 ho14 hgr13 hb14 ho15 hm13
          go_wp2_with fail
          have hch := HCHK.out A R (F.set j u') _ _ hBw15 (by rw [List.length_set]; have := HM.out; omega) hq15
          obtain ⟨bb, hbb⟩ : ∃ bb, bb = consOk K k N A R (F.set j u') := ⟨_, rfl⟩
          rw [← hbb] at hch
          have HBB : Hid (bb = consOk K k N A R (F.set j u')) := hbb
          clear hbb
          refine hch.mono ?_
          rintro e w16 ⟨rfl, hb16⟩
          have hBw16 : Below w4.heap.size w4 w16 := hBw15.trans (hb16.mono hBw15.size)
          have hq16 : LeafAt w16 (.slice (some ⟨g13, 0, none⟩) m13 cap13) (F.set j u') := hq15.below hb16
          clear hch hq15 cq14 fq14
          have hFne : Hid (F.set j u' ≠ F) := by
            intro e
            have h1 := congrArg (fun l : List ByteArray => l[j]?) e
            simp only [HU.out] at h1
            rw [List.getElem?_set_self (by have := HM.out; omega)] at h1
            exact hu'.out.2 (Option.some.inj h1)
          have hB16 := hB4.trans (hBw16.mono hB4.size)
          cases bb
          · rw [show chkV false = .iface 34 (.int .i64 14) from rfl]
            go_wp2_with fail
            go_ret
            exact ⟨rfl, hB16⟩
          · rw [show chkV true = .nilIface from rfl]
            go_wp2_with fail
            refine (HGREW.out hkN' A (F.set j u') _ w16 hBw16 hA32 (by rw [List.length_set]; have := HM.out; omega) (fun b hb => by
              rcases List.mem_or_eq_of_mem_set hb with hb | rfl
              · have := HF32.out b hb; omega
              · have := hu'.out.1; omega) hq16 HBB.out.symm (fun e => hFne.out e.2)).mono ?_
            rintro e w17 ⟨rfl, hb17⟩
            go_wp2_with fail
            go_ret
            exact ⟨rfl, hB16.trans (hb17.mono hB16.size)⟩
      · have hkN' : k < N := by
          by_cases e : k = N
          · exfalso
            have h := HB1.out
            rw [e] at h
            rw [gok_firstAll K N A' R F (by omega) (by
              have h2 := HA.out
              rw [e, ← HLN.out, List.take_length, ← HR.out] at h2
              rw [← h2]; exact hA'.out.2)] at h
            cases h
          · omega
        have k3 : (k : Int) < (N : Int) := by omega
        rw [show chkV true = .nilIface from rfl]
        go_wp2_with (go_at_call 16; refine (HTA.out _).mono ?_; rintro e w8 ⟨rfl, hb8⟩)
        have hBw8 : Below w4.heap.size w4 w8 := hBw7.trans (hb8.mono hBw7.size)
        refine (HGREW.out hkN' A' F _ w8 hBw8 (by have := hA'.out.1; omega) (by omega) (fun b hb => by have := HF32.out b hb; omega) (leaf_own (HPW.out w8 hBw8)) HB1.out.symm (fun e => hA'.out.2 e.1)).mono ?_
        rintro e w9 ⟨rfl, hb9⟩
        have hB8 := hB4.trans (hBw8.mono hB4.size)
        go_wp2_with fail
        go_ret
        exact ⟨rfl, hB8.trans (hb9.mono hB8.size)⟩
end Go.Proofs.YteebdadnfaekmaaDoor
