import Derived.Test.YteebdadnfaekmaaDoorFForged
import Derived.Test.YteebdadnfaekmaaDoorITurn
import Derived.Test.YteebdadnfaekmaaDoorWTold2
set_option linter.unusedVariables false
set_option linter.unusedSimpArgs false
namespace Go.Proofs.YteebdadnfaekmaaDoor
open Go.RowKit

set_option maxRecDepth 10000 in
set_option maxHeartbeats 1000000 in
theorem kseed_any (c : Int) (K : Nat → Int) (w : World) (c0 : -9223372036854775808 ≤ c) (c1 : c ≤ 9223372036854775807) (T : Tab K w) :
    Calls Tryd.prog 21 #[.int .i64 c] w fun e w' => ∃ s : ByteArray, e = .returned (.string s) ∧ s.size = 32 ∧ Below w.heap.size w w' := by
  have hcv := convert_range (w := w.alloc (.cells #[.int .u8 (c % 256), .int .u8 (c / 256 % 256), .int .u8 (c / 65536 % 256)] 5)) (b := w.heap.size) (cap := 3) (ns := [c % 256, c / 256 % 256, c / 65536 % 256]) 3 rfl (range_new w (bytesV [c % 256, c / 256 % 256, c / 65536 % 256]) 5)
  obtain ⟨t, ht⟩ : ∃ t, t = strOfNums [c % 256, c / 256 % 256, c / 65536 % 256] := ⟨_, rfl⟩
  have ht3 : t.size = 3 := by rw [ht, strOfNums_size]; rfl
  rw [← ht] at hcv
  clear ht
  have hb0 : Below w.heap.size w (w.alloc (.cells #[.int .u8 (c % 256), .int .u8 (c / 256 % 256), .int .u8 (c / 65536 % 256)] 5)) := (Below.refl _ _).alloc (Nat.le_refl _) _
  have T1 := T.below hb0
  have hsum := sum_any (⟨#[115, 101, 101, 100]⟩ ++ t) K _ (by rw [ByteArray.size_append, ht3, show (⟨#[115, 101, 101, 100]⟩ : ByteArray).size = 4 from rfl]; omega) T1.lt T1.cells
  have HS : Hid ((sumOf K (⟨#[115, 101, 101, 100]⟩ ++ t)).size = 32) := sumOf_size K _
  obtain ⟨s, hs⟩ : ∃ s, s = sumOf K (⟨#[115, 101, 101, 100]⟩ ++ t) := ⟨_, rfl⟩
  rw [← hs] at hsum HS
  clear hs T T1
  go_enter Tryd.func21, Tryd.ntmps21
  go_wp2_with fail
  refine hsum.mono ?_
  rintro e w1 ⟨rfl, hb1⟩
  go_wp2_with fail
  go_ret
  exact ⟨s, rfl, HS.out, hb0.trans (hb1.mono hb0.size)⟩

theorem ktold_nil (w : World) :
    Calls Tryd.prog 11 #[.nilIface] w fun e w' => e = .returned (.int .i64 0) ∧ w' = w := by
  go_enter Tryd.func11, Tryd.ntmps11
  go_wp2
  go_ret
  exact ⟨rfl, rfl⟩
end Go.Proofs.YteebdadnfaekmaaDoor
set_option linter.unusedVariables false
set_option linter.unusedSimpArgs false
namespace Go.Proofs.YteebdadnfaekmaaDoor
open Go.RowKit

def sgE (b : Bool) : Value := if b then .nilIface else errSg
def sgN (b : Bool) : Int := if b then 0 else 13
theorem ktold_sg (b : Bool) (w : World) (hg : w.cell? ⟨0, 0, none⟩ = some errTypeV) (hlt : 0 < w.heap.size) :
    Calls Tryd.prog 11 #[sgE b] w fun e w' => e = .returned (.int .i64 (sgN b)) ∧ Below w.heap.size w w' := by
  cases b
  · exact told_hit 13 w hg hlt
  · exact (ktold_nil w).mono fun e w' ⟨h1, h2⟩ => ⟨h1, by rw [h2]; exact Below.refl _ _⟩
theorem check_sg (K : Nat → Int) (key : ByteArray) (h : Nat) (msg sig : ByteArray) (w : World) (hk : key.size = 32) (hh : h ≤ 5) (hm : msg.size ≤ 100000) (T : Tab K w) :
    Calls Tryd.prog 24 #[.string key, .int .i64 h, .string msg, .string sig] w fun e w' => e = .returned (.tuple #[.int .i64 (if sigOk K key h msg sig then (keyN sig : Int) else 0), sgE (sigOk K key h msg sig)]) ∧ Below w.heap.size w w' := by
  have := acheck_any K key h msg sig w (by omega) (by omega) T
  have e : checkV K key (h : Int) msg sig = .tuple #[.int .i64 (if sigOk K key h msg sig then (keyN sig : Int) else 0), sgE (sigOk K key h msg sig)] := by
    unfold checkV
    rw [if_pos ⟨hk, by omega, by omega⟩, Int.toNat_natCast]
    cases sigOk K key h msg sig <;> rfl
  rw [e] at this
  exact this

set_option maxRecDepth 10000 in
set_option maxHeartbeats 4000000 in
theorem signed_any (c height k at' : Int) (msg : ByteArray) (K : Nat → Int) (w : World) (c0 : -9223372036854775808 ≤ c) (c1 : c ≤ 9223372036854775807) (n0 : -9223372036854775808 ≤ height) (n1 : height ≤ 9223372036854775807) (i0 : -9223372036854775808 ≤ k) (i1 : k ≤ 9223372036854775807) (a0 : -9223372036854775808 ≤ at') (a1 : at' ≤ 9223372036854775807) (hmsg : msg.size ≤ 140737488351232) (T : Tab K w) (hE : w.cell? ⟨0, 0, none⟩ = some errTypeV) (hEl : 0 < w.heap.size) :
    Calls Tryd.prog 6 #[.int .i64 c, .int .i64 height, .int .i64 k, .string msg, .int .i64 at'] w fun e w' => e = .returned (.bool true) ∧ Below w.heap.size w w' := by
  have HT : Hid (∀ W, Below w.heap.size w W → Tab K W) := fun W hb => T.below hb
  have HE : Hid (∀ W, Below w.heap.size w W → W.cell? ⟨0, 0, none⟩ = some errTypeV ∧ 0 < W.heap.size) := fun W hb => ⟨(hb.cell (p := ⟨0, 0, none⟩) hEl).trans hE, Nat.lt_of_lt_of_le hEl hb.size⟩
  clear hE hEl T
  go_enter Tryd.func6, Tryd.ntmps6
  go_wp2_with fail
  refine (pick_ex height 4 n0 n1 (by omega) (by omega) w).mono ?_
  rintro e w0 ⟨h, hre, hh4, hw0⟩
  subst hre
  obtain rfl : w = w0 := hw0.symm
  clear hw0
  have hh : h ≤ 3 := by omega
  go_wp2_with fail
  refine (kseed_any c K w c0 c1 (HT.out w (Below.refl _ _))).mono ?_
  rintro e w1 ⟨s, rfl, hs32, hb1⟩
  obtain ⟨P, hP⟩ : ∃ P, P = pubF (sumOf K) s h := ⟨_, rfl⟩
  have HP : Hid (P = pubF (sumOf K) s h) := hP
  have hP32 : P.size = 32 := by rw [hP]; exact rootF_size _ (sumOf_size K) _
  have hpub := apub_any K s h w1 (by omega) (HT.out w1 hb1)
  rw [show pubV K s (h : Int) = .tuple #[.string P, .nilIface] by unfold pubV; rw [if_pos ⟨hs32, by omega, by omega⟩, Int.toNat_natCast, hP]] at hpub
  clear hP
  go_wp2_with fail
  refine hpub.mono ?_
  rintro e w2 ⟨rfl, hb2⟩
  clear hpub
  have hB2 : Below w.heap.size w w2 := hb1.trans (hb2.mono hb1.size)
  have hpw : wrap64 ((2 : Int) ^ h) = ((2 ^ h : Nat) : Int) := by have := pow_int' h (by omega); rwa [Nat.min_eq_left (by omega)] at this
  obtain ⟨N, hN⟩ : ∃ N, N = 2 ^ h := ⟨_, rfl⟩
  have HN : Hid (N = 2 ^ h) := hN
  have hN0 : 0 < N := by rw [hN]; exact Nat.pow_pos (by omega)
  have hN8 : N ≤ 8 := by rw [hN]; exact Nat.pow_le_pow_right (n := 2) (by omega) hh
  rw [← hN] at hpw
  clear hN
  go_wp2_with fail
  rw [hpw]
  refine (pick_ex k N i0 i1 (by omega) (by omega) w2).mono ?_
  rintro e w0 ⟨n, hre, hn, hw0⟩
  subst hre
  obtain rfl : w2 = w0 := hw0.symm
  clear hw0
  have hnN : n < N := by omega
  by_cases hlong : 2000 < msg.size
  · have l1 : (2000 : Int) < (msg.size : Int) := by omega
    go_wp2_with fail
    go_ret
    exact ⟨rfl, hB2⟩
  · have l1 : ¬ (2000 : Int) < (msg.size : Int) := by omega
    have hm2 : msg.size ≤ 2000 := by omega
    obtain ⟨G, hG⟩ : ∃ G, G = sigF (sumOf K) s h n msg := ⟨_, rfl⟩
    have HG : Hid (G = sigF (sumOf K) s h n msg) := hG
    have hGs : G.size = 2145 + 32 * h := by rw [hG]; exact sigF_size K s h n msg
    have hsign := asign_any K s h n msg w2 (by omega) (by omega) (HT.out w2 hB2)
    rw [show signV K s (h : Int) (n : Int) msg = .tuple #[.string G, .nilIface] by unfold signV; rw [if_pos ⟨hs32, by omega, by omega⟩, Int.toNat_natCast, if_pos ⟨by omega, by rw [← HN.out]; omega⟩, Int.toNat_natCast, hG]] at hsign
    clear hG
    go_wp2_with fail
    refine hsign.mono ?_
    rintro e w3 ⟨rfl, hb3⟩
    clear hsign
    have hB3 : Below w.heap.size w w3 := hB2.trans (hb3.mono hB2.size)
    have hchk := check_sg K P h msg G w3 hP32 (by omega) (by omega) (HT.out w3 hB3)
    have hok : sigOk K P h msg G = true := by rw [HP.out, HG.out]; exact sig_good K s h n msg (by omega) (by rw [← HN.out]; exact hnN)
    have hkn : keyN G = n := by rw [HG.out]; exact sigF_key K s h n msg (by omega)
    rw [hok, hkn, if_pos rfl, show sgE true = .nilIface from rfl] at hchk
    go_wp2_with fail
    refine hchk.mono ?_
    rintro e w4 ⟨rfl, hb4⟩
    clear hchk hok hkn
    have hB4 : Below w.heap.size w w4 := hB3.trans (hb4.mono hB3.size)
    obtain ⟨b1, hb1'⟩ : ∃ b1, b1 = sigOk K P h (msg ++ ⟨#[120]⟩) G := ⟨_, rfl⟩
    have HB1 : Hid (b1 = sigOk K P h (msg ++ ⟨#[120]⟩) G) := hb1'
    have hx1 : (msg ++ ⟨#[120]⟩).size = msg.size + 1 := by rw [ByteArray.size_append]; rfl
    have hchk := check_sg K P h (msg ++ ⟨#[120]⟩) G w4 hP32 (by omega) (by omega) (HT.out w4 hB4)
    rw [← hb1'] at hchk
    clear hb1'
    generalize (if b1 = true then (keyN G : Int) else 0) = x1 at hchk
    obtain ⟨v1, hv1⟩ : ∃ v1, v1 = sgE b1 := ⟨_, rfl⟩
    rw [← hv1] at hchk
    have HV1 : Hid (v1 = sgE b1) := hv1
    clear hv1
    have g1 : ((G.size : Nat) : Int) = 2145 + 32 * (h : Int) := by omega
    go_wp2_with fail
    refine hchk.mono ?_
    rintro e w5 ⟨rfl, hb5⟩
    clear hchk g1
    have HGS : Hid (G.size = 2145 + 32 * h) := hGs
    have gs0 : 2000 < G.size := by omega
    have gs1 : G.size ≤ 3000 := by omega
    clear hGs
    have hB5 : Below w.heap.size w w5 := hB4.trans (hb5.mono hB4.size)
    obtain ⟨q, y, hqy, hturn⟩ := turned_one G at' (by omega) (by omega) a0 a1
    obtain ⟨G', hG'⟩ : ∃ G', G' = strOfNums ((numsOf G).set q y) := ⟨_, rfl⟩
    rw [← hG'] at hqy hturn
    have hG's : G'.size = 2145 + 32 * h := by rw [hG', strOfNums_size, List.length_set, numsOf_length]; exact HGS.out
    clear hG'
    have HTU : Hid (∀ w, Calls Tryd.prog 16 #[.string G, .int .i64 at'] w fun e w' => e = .returned (.string G') ∧ Below w.heap.size w w') := hturn
    clear hturn
    go_wp2_with fail
    refine (HTU.out w5).mono ?_
    rintro e w6 ⟨rfl, hb6⟩
    have hB6 : Below w.heap.size w w6 := hB5.trans (hb6.mono hB5.size)
    obtain ⟨b2, hb2'⟩ : ∃ b2, b2 = sigOk K P h msg G' := ⟨_, rfl⟩
    have HB2 : Hid (b2 = sigOk K P h msg G') := hb2'
    have hchk := check_sg K P h msg G' w6 hP32 (by omega) (by omega) (HT.out w6 hB6)
    rw [← hb2'] at hchk
    clear hb2'
    generalize (if b2 = true then (keyN G' : Int) else 0) = x2 at hchk
    obtain ⟨v2, hv2⟩ : ∃ v2, v2 = sgE b2 := ⟨_, rfl⟩
    rw [← hv2] at hchk
    have HV2 : Hid (v2 = sgE b2) := hv2
    clear hv2
    go_wp2_with fail
    refine hchk.mono ?_
    rintro e w7 ⟨rfl, hb7⟩
    clear hchk
    have hB7 : Below w.heap.size w w7 := hB6.trans (hb7.mono hB6.size)
    have hchk := check_sg K P h msg (G.extract 1 G.size) w7 hP32 (by omega) (by omega) (HT.out w7 hB7)
    have hno : sigOk K P h msg (G.extract 1 G.size) = false := by
      unfold sigOk
      rw [decide_eq_false (by have := HGS.out; rw [ByteArray.size_extract]; omega)]; rfl
    rw [hno, if_neg (by decide)] at hchk
    clear hno
    have g0 : (1 : Int) ≤ (G.size : Int) := by omega
    go_wp2_with fail
    refine hchk.mono ?_
    rintro e w8 ⟨rfl, hb8⟩
    clear hchk
    have hB8 : Below w.heap.size w w8 := hB7.trans (hb8.mono hB7.size)
    have ht := ktold_sg b1 w8 (HE.out w8 hB8).1 (HE.out w8 hB8).2
    rw [← HV1.out] at ht
    generalize hf1 : sgN b1 = f1 at ht
    have HF1 : Hid (sgN b1 = f1) := hf1
    clear hf1
    go_wp2_with fail
    refine ht.mono ?_
    rintro e w9 ⟨rfl, hb9⟩
    clear ht
    have hB9 : Below w.heap.size w w9 := hB8.trans (hb9.mono hB8.size)
    have ht := ktold_sg b2 w9 (HE.out w9 hB9).1 (HE.out w9 hB9).2
    rw [← HV2.out] at ht
    generalize hf2 : sgN b2 = f2 at ht
    have HF2 : Hid (sgN b2 = f2) := hf2
    clear hf2
    go_wp2_with fail
    refine ht.mono ?_
    rintro e w10 ⟨rfl, hb10⟩
    clear ht
    have hB10 : Below w.heap.size w w10 := hB9.trans (hb10.mono hB9.size)
    have ht := ktold_sg false w10 (HE.out w10 hB10).1 (HE.out w10 hB10).2
    rw [show sgN false = 13 from rfl] at ht
    go_wp2_with fail
    refine ht.mono ?_
    rintro e w11 ⟨rfl, hb11⟩
    clear ht
    have hB11 : Below w.heap.size w w11 := hB10.trans (hb11.mono hB10.size)
    clear hB2 hB3 hB4 hB5 hB6 hB7 hB8 hB9 hB10 hb1 hb2 hb3 hb4 hb5 hb6 hb7 hb8 hb9 hb10 hb11
    cases b1 with
    | true =>
      obtain rfl : v1 = .nilIface := HV1.out
      have hcl := forged_msg K s h n msg (msg ++ ⟨#[120]⟩) (by omega) (by rw [← HN.out]; exact hnN) (by intro e; rw [e] at hx1; omega) (by rw [← HP.out, ← HG.out]; exact HB1.out.symm)
      rw [← HG.out] at hcl
      have hfo := forged_any K s msg (msg ++ ⟨#[120]⟩) G h w11 (by omega) (by omega) (by omega) (by omega) HGS.out (by rw [HG.out, sigF_key K s h n msg (by omega), ← HN.out]; exact hnN) (HT.out w11 hB11) hcl
      go_wp2_with fail
      refine hfo.mono ?_
      rintro e w12 ⟨rfl, hb12⟩
      go_wp2_with fail
      go_ret
      exact ⟨rfl, hB11.trans (hb12.mono hB11.size)⟩
    | false =>
      obtain rfl : v1 = .iface 34 (.int .i64 13) := HV1.out
      obtain rfl : f1 = 13 := HF1.out.symm
      cases b2 with
      | true =>
        obtain rfl : v2 = .nilIface := HV2.out
        go_wp2_with fail
        refine (HTU.out w11).mono ?_
        rintro e w12 ⟨rfl, hb12⟩
        have hB12 : Below w.heap.size w w12 := hB11.trans (hb12.mono hB11.size)
        have hok2 := HB2.out.symm
        have hkn2 : keyN G' < 2 ^ h := by
          unfold sigOk at hok2
          simp only [Bool.and_eq_true, decide_eq_true_eq] at hok2
          exact hok2.2.1
        have hcl := forged_bit K s h n msg G' q y (by omega) (by rw [← HN.out]; exact hnN) (by rw [← HG.out]; exact hqy.out.1) (by rw [← HG.out]; exact hqy.out.2) (by rw [← HP.out]; exact hok2)
        have hfo := forged_any K s msg msg G' h w12 (by omega) (by omega) (by omega) (by omega) hG's hkn2 (HT.out w12 hB12) hcl
        go_wp2_with fail
        refine hfo.mono ?_
        rintro e w13 ⟨rfl, hb13⟩
        go_wp2_with fail
        go_ret
        exact ⟨rfl, hB12.trans (hb13.mono hB12.size)⟩
      | false =>
        obtain rfl : v2 = .iface 34 (.int .i64 13) := HV2.out
        obtain rfl : f2 = 13 := HF2.out.symm
        go_wp2_with fail
        go_ret
        exact ⟨rfl, hB11⟩
end Go.Proofs.YteebdadnfaekmaaDoor
