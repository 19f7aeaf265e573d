import Derived.Test.YteebdadnfaekmaaDoorFRoot
import Derived.Test.YteebdadnfaekmaaDoorFDig
import Derived.Test.YteebdadnfaekmaaDoorFMathM
import Derived.Test.YteebdadnfaekmaaDoorIUp
set_option linter.unusedVariables false
set_option linter.unusedSimpArgs false
namespace Go.Proofs.YteebdadnfaekmaaDoor
open Go.RowKit

theorem kSt_append {K : Nat → Int} {p : Nat} {u : Value} {w w' : World} {ts : List ByteArray} {g5 : Nat} (h : kSt K p (fun g => u.ownBlock = some g) w ts) (hgr : w.grownBy w' u.ownBlock) (hat : u.ownBlock = some g5 ∨ g5 = w.heap.size) (hlt : g5 < w'.heap.size) : kSt K p (fun g => some g5 = some g) w' ts := by
  obtain ⟨tv, hv, h1, h2⟩ := h
  have nt : tv.ownBlock = none ∨ tv.ownBlock ≠ u.ownBlock := by
    cases ht : tv.ownBlock with
    | none => exact Or.inl rfl
    | some g => exact Or.inr fun e => (h2 g e.symm).2.2.1 ht
  have nh : hv.ownBlock = none ∨ hv.ownBlock ≠ u.ownBlock := by
    cases ht : hv.ownBlock with
    | none => exact Or.inl rfl
    | some g => exact Or.inr fun e => (h2 g e.symm).2.2.2 ht
  refine ⟨tv, hv, ⟨(hgr.block p h1.lt (fun e => (h2 p e.symm).2.1 rfl)).trans h1.block, h1.texts.kept hgr nt, h1.hashes.kept hgr nh, h1.away⟩, fun g hg => ?_⟩
  obtain rfl : g5 = g := by injection hg
  rcases hat with hat | hat
  · have := h2 g5 hat
    exact ⟨hlt, this.2.1, this.2.2.1, this.2.2.2⟩
  · have hl := h1.lt
    refine ⟨hlt, by omega, fun e => ?_, fun e => ?_⟩
    · have := h1.texts.lt g5 e; omega
    · have := h1.hashes.lt g5 e; omega
theorem kSt_fresh {K : Nat → Int} {p : Nat} {G : Nat → Prop} {w w' : World} {ts : List ByteArray} {gd : Nat} (h : kSt K p G w ts) (hb : Below w.heap.size w w') (hg : w.heap.size ≤ gd) (hlt : gd < w'.heap.size) : kSt K p (fun g => g = gd) w' ts := by
  obtain ⟨tv, hv, h1, h2⟩ := h
  refine ⟨tv, hv, h1.below hb, fun g e => ?_⟩
  subst e
  have hl := h1.lt
  refine ⟨hlt, by omega, fun e => ?_, fun e => ?_⟩
  · have := h1.texts.lt g e; omega
  · have := h1.hashes.lt g e; omega
theorem kSt_new (K : Nat → Int) (w : World) : kSt K w.heap.size (fun g => (Value.slice none 0 0).ownBlock = some g) (w.alloc (.cells #[.slice none 0 0, .slice none 0 0] 62)) [] :=
  ⟨_, _, known_new (sumOf K) w, fun g hg => by cases hg⟩
theorem leavesF_snoc' (H : ByteArray → ByteArray) (seed : ByteArray) (k : Nat) : leavesF H seed (k + 1) = leavesF H seed k ++ [leafF H seed k] := by
  unfold leavesF; rw [List.range_succ, List.map_append]; rfl
theorem upF_len (H : ByteArray → ByteArray) (s : ByteArray) : ∀ (q : Nat) (pf : List ByteArray) (i n : Nat), pf.length = q → (upF H s i n pf).2.length ≤ q + 1 := by
  intro q
  induction q with
  | zero => intro pf i n hq; obtain rfl := List.eq_nil_of_length_eq_zero hq; rw [upF_none]; simp
  | succ q ihq =>
    intro pf i n hq
    obtain ⟨rest', b', rfl⟩ : ∃ rest' b', pf = rest' ++ [b'] := ⟨pf.dropLast, pf.getLast (by intro e; subst e; simp at hq), (List.dropLast_concat_getLast _).symm⟩
    have hq' : rest'.length = q := by simp at hq; exact hq
    by_cases hn : n = 1
    · subst hn; rw [upF_one]; simp
    · by_cases hi : i < halfN n
      · rw [upF_left _ _ _ _ hn _ _ hi]; have := ihq rest' i (halfN n) hq'; simp; omega
      · rw [upF_right _ _ _ _ hn _ _ hi]; have := ihq rest' (i - halfN n) (n - halfN n) hq'; simp; omega
theorem pow_int' (h : Nat) (hh : h ≤ 5) : wrap64 ((2 : Int) ^ min h 64) = ((2 ^ h : Nat) : Int) := by
  obtain rfl | rfl | rfl | rfl | rfl | rfl : h = 0 ∨ h = 1 ∨ h = 2 ∨ h = 3 ∨ h = 4 ∨ h = 5 := by omega
  all_goals (unfold wrap64; decide)

set_option maxRecDepth 10000 in
set_option maxHeartbeats 4000000 in
theorem forged_any (K : Nat → Int) (seed was msg sig : ByteArray) (h : Nat) (w : World) (hh : h ≤ 5) (hseed : seed.size ≤ 100000) (hwas : was.size ≤ 100000) (hmsg : msg.size ≤ 100000) (hsig : sig.size = 2145 + 32 * h) (hkn : keyN sig < 2 ^ h) (T : Tab K w)
    (hcl : ∃ a b, b < a ∧ clashAt (sumOf K) (forgedT (sumOf K) seed h was msg sig) a b) :
    Calls Tryd.prog 25 #[.string seed, .int .i64 h, .string was, .string msg, .string sig] w fun e w' => e = .returned (.bool true) ∧ Below w.heap.size w w' := by
  obtain ⟨i0, hi, hz, hsz, hby⟩ := info_strT
  have HT : Hid (Tab K w) := T
  have hp := T.lt
  have HP : Hid (1 < w.heap.size) := hp
  have HCL : Hid (∃ a b, b < a ∧ clashAt (sumOf K) (forgedT (sumOf K) seed h was msg sig) a b) := hcl
  have hpw := pow_int' h hh
  have HN32 : Hid (2 ^ h ≤ 32) := Nat.pow_le_pow_right (n := 2) (by omega) hh
  have HN0 : Hid (0 < 2 ^ h) := Nat.pow_pos (by omega)
  have HHH : Hid (h ≤ 5) := hh
  have HSG : Hid (sig.size = 2145 + 32 * h) := hsig
  have HKN : Hid (keyN sig < 2 ^ h) := hkn
  have HSD : Hid (seed.size ≤ 100000) := hseed
  have HMW : Hid (was.size ≤ 100000 ∧ msg.size ≤ 100000) := ⟨hwas, hmsg⟩
  have HK0 : Hid (kSt K w.heap.size (fun g => (Value.slice none 0 0).ownBlock = some g) (w.alloc (.cells #[.slice none 0 0, .slice none 0 0] 62)) []) := kSt_new K w
  have HB0 : Hid (Below w.heap.size w (w.alloc (.cells #[.slice none 0 0, .slice none 0 0] 62))) := (Below.refl _ _).alloc (Nat.le_refl _) _
  have HO0 : Hid ((w.alloc (.cells #[.slice none 0 0, .slice none 0 0] 62)).ownsRow (w.heap.size + 1) 9 1 (.slice none 0 0) 0 []) := World.ownsRow_nil _ _ _ _
  clear T hp hcl hh hkn hseed hwas hmsg
  obtain ⟨N, hN⟩ : ∃ N, N = 2 ^ h := ⟨_, rfl⟩
  rw [← hN] at hpw
  have HN : Hid (N = 2 ^ h) := hN
  clear hN
  go_enter Tryd.func25, Tryd.ntmps25
  go_wp2_with fail
  go_loopw [12, 13] (fun v i wr => ∃ (k : Nat) (u : Value), u = v ∧ k ≤ N ∧ i = .int .i64 k ∧ Hid (wr.ownsRow (w.heap.size + 1) 9 1 u k ((leavesF (sumOf K) seed k).map .string) ∧ kSt K w.heap.size (fun g => u.ownBlock = some g) wr (keysT (sumOf K) seed k) ∧ Below w.heap.size w wr)) (fun _ i _ => N - (intOf i).toNat)
  case atStart => exact ⟨0, _, rfl, by omega, rfl, HO0.out, HK0.out, HB0.out⟩
  case round =>
    clear HO0 HK0 HB0
    obtain ⟨k, v, hvu, hk, rfl, hI⟩ := hrel
    subst hvu
    by_cases hlt : k < N
    · have k1 : (k : Int) < (N : Int) := by omega
      go_wp2_with fail
      rw [hpw]
      go_loopw [14, 15] (fun t i w2 => ∃ (c : Nat), c ≤ 67 ∧ t = .string (chainsT (sumOf K) (beginF (sumOf K) seed k) (fun _ => 15) c) ∧ i = .int .i64 c ∧ Hid (kSt K w.heap.size (fun g => v.ownBlock = some g) w2 (keysT (sumOf K) seed k ++ keyT (sumOf K) seed k c) ∧ Below w.heap.size wr w2 ∧ ∀ g, v.ownBlock = some g → w2.heap[g]? = wr.heap[g]?)) (fun _ i _ => 67 - (intOf i).toNat)
      case atStart => exact ⟨0, by omega, rfl, rfl, by rw [keyT, List.append_nil]; exact hI.out.2.1, Below.refl _ _, fun g _ => rfl⟩
      case round =>
        rename_i wk _ _ _
        obtain ⟨c, hc, rfl, rfl, hJ⟩ := hrel
        by_cases hlt2 : c < 67
        · have c1 : (c : Int) < 67 := by omega
          have hcv := convert_range (w := wr.alloc (.cells #[.int .u8 ((k : Int) % 256), .int .u8 (c : Int)] 5)) (b := wr.heap.size) (cap := 2) (ns := [(k : Int) % 256, (c : Int)]) 2 rfl (range_new wr (bytesV [(k : Int) % 256, (c : Int)]) 5)
          rw [show strOfNums [(k : Int) % 256, (c : Int)] = two k c by unfold two; rw [show (c : Int) % 256 = (c : Int) by omega]] at hcv
          have hbA : Below wr.heap.size wr (wr.alloc (.cells #[.int .u8 ((k : Int) % 256), .int .u8 (c : Int)] 5)) := (Below.refl _ _).alloc (Nat.le_refl _) _
          have hlen : (keysT (sumOf K) seed k ++ keyT (sumOf K) seed k c).length ≤ 40000 := by have := HN32.out; have := HN.out; rw [List.length_append, keysT_len, keyT_len]; omega
          have hpl : w.heap.size < wr.heap.size := hJ.out.1.lt
          have hTr : Tab K wr := HT.out.belowq HP.out (hI.out.2.2.trans hJ.out.2.1)
          have hof := kof_st K w.heap.size (fun g => v.ownBlock = some g) _ _ (mK ++ seed ++ two k c) (hJ.out.1.below hbA) (by omega) (by have := HSD.out; rw [ByteArray.size_append, ByteArray.size_append, two_size, show mK.size = 1 from rfl]; omega) (hTr.below hbA)
          have hw2 : (wr.alloc (.cells #[.int .u8 ((k : Int) % 256), .int .u8 (c : Int)] 5)).heap.size = wr.heap.size + 1 := by simp
          rw [show sumOf K (mK ++ seed ++ two k c) = beginF (sumOf K) seed k c from rfl, show mK = (⟨#[75]⟩ : ByteArray) from rfl] at hof
          have hsd := HSD.out
          have ht2 := two_size k c
          obtain ⟨b, hbe⟩ : ∃ b, b = beginF (sumOf K) seed k c := ⟨_, rfl⟩
          have hb32 : b.size = 32 := by rw [hbe]; exact beginF_size K seed k c
          obtain ⟨L, hL⟩ : ∃ L, L = chainsT (sumOf K) (beginF (sumOf K) seed k) (fun _ => 15) c := ⟨_, rfl⟩
          have hLs : L.size ≤ 3000 := by rw [hL, chainsT_size _ (sumOf_size K) _ _ (beginF_size K seed k)]; omega
          have HL : Hid (chainsT (sumOf K) (beginF (sumOf K) seed k) (fun _ => 15) (c + 1) = L ++ stepF (sumOf K) b 15) := by show _ = _; rw [chainsT, hL, hbe]
          have HBE : Hid (b = beginF (sumOf K) seed k c) := hbe
          rw [← hbe] at hof
          rw [← hL]
          clear hbe hL
          obtain ⟨tw, htw⟩ : ∃ tw, tw = two k c := ⟨_, rfl⟩
          have HTW : Hid (tw = two k c) := htw
          rw [← htw] at hof hcv ht2
          clear htw
          go_wp2_with fail
          refine hof.mono ?_
          rintro e w3 ⟨rfl, hk3, hb3, hg3⟩
          clear hof
          have hB3 : Below w.heap.size wr w3 := (hbA.mono (by omega)).trans hb3
          have hst := ksteps_any K w.heap.size HP.out (fun g => v.ownBlock = some g) b 15 w3 _ hb32 (by omega) hk3 (by rw [List.length_append, List.length_singleton]; omega) (hTr.belowq HP.out hB3)
          obtain ⟨z, hz'⟩ : ∃ z, z = stepF (sumOf K) b 15 := ⟨_, rfl⟩
          have hz32 : z.size = 32 := by rw [hz']; exact stepF_size (sumOf K) (sumOf_size K) b hb32 15
          have HZ : Hid (z = stepF (sumOf K) b 15) := hz'
          rw [← hz'] at hst
          clear hz'
          go_wp2_with fail
          refine hst.mono ?_
          rintro e w4 ⟨rfl, hk4, hb4, hg4⟩
          clear hst
          go_wp2_with fail
          refine ⟨⟨c + 1, by omega, ?_, by go_num, ?_, ?_, ?_⟩, ?_⟩
          · show Value.string (L ++ z) = _
            rw [HL.out, HZ.out]
          · rw [keyT, chainTx, ← List.append_assoc, ← List.append_assoc, ← HTW.out, ← HBE.out]
            exact hk4
          · exact (hJ.out.2.1.trans hB3).trans hb4
          · intro g hg
            obtain ⟨_, _, _, hf⟩ := hJ.out.1
            exact (hg4 g hg).trans ((hg3 g hg).trans ((heap_alloc_old _ _ (hf g hg).1).trans (hJ.out.2.2 g hg)))
          · simp [intOf]; omega
        · have c1 : ¬ (c : Int) < 67 := by omega
          obtain rfl : 67 = c := by omega
          obtain ⟨L, hL⟩ : ∃ L, L = chainsT (sumOf K) (beginF (sumOf K) seed k) (fun _ => 15) 67 := ⟨_, rfl⟩
          have HL : Hid (L = leafF (sumOf K) seed k) := hL
          rw [← hL]
          clear hL
          have hB : Below w.heap.size w wr := hI.out.2.2.trans hJ.out.2.1
          have hpl : w.heap.size < wr.heap.size := hJ.out.1.lt
          have ho4 : (wr.alloc (.cells #[.string L] 9)).ownsRow (w.heap.size + 1) 9 1 v k ((leavesF (sumOf K) seed k).map .string) := (own_sameX hI.out.1 hJ.out.2.2).alloc _
          have hnews : ∀ j u, [Value.string L][j]? = some u → (wr.alloc (.cells #[.string L] 9)).cell? ((⟨wr.heap.size, 0, none⟩ : Addr).add j) = some u := World.news_of_block (heap_alloc_new wr (.cells #[.string L] 9))
          have hkb : kSt K w.heap.size (fun g => v.ownBlock = some g) (wr.alloc (.cells #[.string L] 9)) (keysT (sumOf K) seed k ++ keyT (sumOf K) seed k 67) := hJ.out.1.below ((Below.refl _ _).alloc (Nat.le_refl _) _)
          have HKB : Hid (kSt K w.heap.size (fun g => v.ownBlock = some g) (wr.alloc (.cells #[.string L] 9)) (keysT (sumOf K) seed k ++ keyT (sumOf K) seed k 67)) := hkb
          have HBA : Hid (Below w.heap.size w (wr.alloc (.cells #[.string L] 9))) := hB.alloc (by omega) _
          have hkN : k ≤ 32 := by have := HN32.out; have := HN.out; omega
          clear hkb hB
          go_wp2_with (refine wpList_append_lies _ rfl _ _ 37 rfl (w.heap.size + 1) 9 i0 _ 1 16 Tryd.underlying37 hi hz hsz hby rfl (by decide) v k _ rfl ho4 ⟨wr.heap.size, 0, none⟩ 1 1 [_] rfl rfl hnews (by simp [Value.oneCell']) (by decide) (by unfold maxLen; omega) (by omega) (by simp; omega) _ rfl ?_; intro g5 cap5 w5 ho5 hgr5 hat5 hlt5)
          refine ⟨⟨k + 1, _, rfl, by omega, by go_num, ?_, ?_, ?_⟩, ?_⟩
          · rw [leavesF_snoc', ← HL.out]
            simpa using ho5
          · rw [keysT]
            exact kSt_append HKB.out hgr5 hat5 hlt5
          · exact HBA.out.trans ((Below.refl _ _).grown hgr5 (by simp; omega) (fun g e => by have := (ho4.lt g e).1; omega))
          · simp [intOf]; omega
    · have k1 : ¬ (k : Int) < (N : Int) := by omega
      obtain rfl : N = k := by omega
      have hN0 : 0 < N := by have := HN0.out; have := HN.out; omega
      have hN32 : N ≤ 32 := by have := HN32.out; have := HN.out; omega
      have hB1 : Below w.heap.size w wr := hI.out.2.2
      have hL1 : LeafAt wr v (leavesF (sumOf K) seed N) := by
        have h := hI.out.1
        rw [← leavesF_len (sumOf K) seed N] at h
        rw [leavesF_len] at h
        exact leaf_own (by rw [leavesF_len]; exact h)
      obtain ⟨g, off, cap, hv, hcap, hcl⟩ : ∃ g off cap, v = .slice (some ⟨g, off, none⟩) N cap ∧ N ≤ cap ∧ ∀ j (h : j < (leavesF (sumOf K) seed N).length), wr.cell? ⟨g, off + j, none⟩ = some (.string ((leavesF (sumOf K) seed N)[j]'h)) := by
        rcases hL1 with ⟨e, _⟩ | ⟨g, off, cap, e, h1, h2⟩
        · have := leavesF_len (sumOf K) seed N
          rw [e] at this; simp at this; omega
        · rw [leavesF_len] at e h1
          exact ⟨g, off, cap, e, h1, h2⟩
      subst hv
      have hroot := froot_any K w.heap.size (fun g' => (Value.slice (some ⟨g, off, none⟩) N cap).ownBlock = some g') HP.out N (leavesF (sumOf K) seed N) g off cap wr (keysT (sumOf K) seed N) (leavesF_len _ _ _) hN0 (by omega) hcap rfl hcl (fun s hs => by unfold leavesF at hs; obtain ⟨q, _, rfl⟩ := List.mem_map.1 hs; rw [leafF_size]; omega) hI.out.2.1 (by rw [keysT_len]; omega) (HT.out.belowq HP.out hB1)
      clear hcl hL1
      have lR := rootT_len (sumOf K) _ (leavesF (sumOf K) seed N) rfl (by rw [leavesF_len]; omega)
      rw [leavesF_len] at lR
      obtain ⟨T1, hT1⟩ : ∃ T1, T1 = keysT (sumOf K) seed N ++ rootT (sumOf K) (leavesF (sumOf K) seed N) := ⟨_, rfl⟩
      have HT1 : Hid (T1 = keysT (sumOf K) seed N ++ rootT (sumOf K) (leavesF (sumOf K) seed N)) := hT1
      have hT1l : T1.length ≤ 40000 := by rw [hT1, List.length_append, keysT_len]; omega
      rw [← hT1] at hroot
      clear hT1 lR
      go_wp2_with fail
      refine hroot.mono ?_
      rintro e w1 ⟨rfl, hk1, hb1, _⟩
      clear hroot
      have hB2 : Below w.heap.size w w1 := hB1.trans hb1
      have hwas := HMW.out.1
      have hmsg := HMW.out.2
      have hof := kof_st K w.heap.size _ w1 T1 was hk1 (by omega) (by omega) (HT.out.belowq HP.out hB2)
      go_wp2_with fail
      refine hof.mono ?_
      rintro e w2 ⟨rfl, hk2, hb2, _⟩
      clear hof hk1
      have hB3 : Below w.heap.size w w2 := hB2.trans hb2
      have hof := kof_st K w.heap.size _ w2 (T1 ++ [was]) msg hk2 (by rw [List.length_append, List.length_singleton]; omega) (by omega) (HT.out.belowq HP.out hB3)
      obtain ⟨D, hD⟩ : ∃ D, D = sumOf K msg := ⟨_, rfl⟩
      have HD : Hid (D = sumOf K msg) := hD
      have hD32 : D.size = 32 := by rw [hD]; exact sumOf_size K msg
      rw [← hD] at hof
      clear hD
      go_wp2_with fail
      refine hof.mono ?_
      rintro e w3 ⟨rfl, hk3, hb3, _⟩
      clear hof hk2
      have hB4 : Below w.heap.size w w3 := hB3.trans hb3
      have hdg := kdigits_any D hD32 w3
      have hs0 : ¬ (sig.size : Int) < 2145 := by omega
      go_wp2_with fail
      refine hdg.mono ?_
      rintro e w4 ⟨ao, cap2, rfl, hod, hbd⟩
      clear hdg
      obtain ⟨gd, hgd⟩ : ∃ gd, ao = some ⟨gd, 0, none⟩ := by
        rcases hod.2 with ⟨_, e⟩ | ⟨g, cap', cur, e, _⟩
        · omega
        · exact ⟨g, by injection e⟩
      subst hgd
      have hk4 : kSt K w.heap.size (fun g => g = gd) w4 (T1 ++ [was] ++ [msg]) := kSt_fresh hk3 hbd (hod.lt gd rfl).1 (hod.lt gd rfl).2
      have hB5 : Below w.heap.size w w4 := hB4.trans (hbd.mono hB4.size)
      have HCD : Hid (∀ c, c < 67 → w4.cell? ⟨gd, c, none⟩ = some (.int .i64 ((dig D c : Nat) : Int))) := fun c hc => by
        rw [hod.cellAt c (by omega), digV_get D c hc]
      obtain ⟨T2, hT2⟩ : ∃ T2, T2 = T1 ++ [was] ++ [msg] := ⟨_, rfl⟩
      have HT2 : Hid (T2 = T1 ++ [was] ++ [msg]) := hT2
      have hT2l : T2.length ≤ 40002 := by rw [hT2]; simp; omega
      rw [← hT2] at hk4
      clear hT2 hk3
      obtain ⟨V, hV⟩ : ∃ V, V = sig.extract 1 2145 := ⟨_, rfl⟩
      have HV : Hid (V = sig.extract 1 2145) := hV
      have hVs : V.size = 2144 := by rw [hV, ByteArray.size_extract]; omega
      clear hV
      have HK4 : Hid (kSt K w.heap.size (fun g => g = gd) w4 T2 ∧ Below w.heap.size w w4) := ⟨hk4, hB5⟩
      clear hk4 hB5 hB4 hB3 hB2 hB1 hod hbd hb1 hb2 hb3 hI
      go_wp2_with fail
      go_loopw [19, 20] (fun t i w5 => ∃ (c : Nat), c ≤ 67 ∧ t = .string (chainsT (sumOf K) (finB V) (fun c => 15 - dig D c) c) ∧ i = .int .i64 c ∧ Hid (kSt K w.heap.size (fun g => g = gd) w5 (T2 ++ finTs (sumOf K) V (dig D) c) ∧ Below w.heap.size w w5 ∧ w5.heap[gd]? = w4.heap[gd]?)) (fun _ i _ => 67 - (intOf i).toNat)
      case atStart => exact ⟨0, by omega, rfl, rfl, by rw [finTs, List.append_nil]; exact HK4.out.1, HK4.out.2, rfl⟩
      case round =>
        obtain ⟨c, hc, rfl, rfl, hJ⟩ := hrel
        by_cases hlt2 : c < 67
        · have c1 : (c : Int) < 67 := by omega
          have c0 : (0 : Int) ≤ (c : Int) := by omega
          obtain ⟨L, hL⟩ : ∃ L, L = chainsT (sumOf K) (finB V) (fun c => 15 - dig D c) c := ⟨_, rfl⟩
          have hLs : L.size ≤ 3000 := by rw [hL, chainsT_size _ (sumOf_size K) _ _ (finB_size V hVs)]; omega
          have HL : Hid (L = chainsT (sumOf K) (finB V) (fun c => 15 - dig D c) c) := hL
          rw [← hL]
          clear hL
          obtain ⟨x, hx⟩ : ∃ x, x = pieceF V c := ⟨_, rfl⟩
          have HX : Hid (x = pieceF V c) := hx
          have hx32 : x.size = 32 := by rw [hx]; exact pieceF_size V c (by omega)
          have hsl : ∀ W, (Instr.slice 9 (.string sig) (some (.int .i64 (1 + 32 * (c : Int)))) (some (.int .i64 (33 + 32 * (c : Int)))) none).run Tryd.prog W = .ok (.string x) W := fun W => by
            have := run_cut_str sig (1 + 32 * c) (33 + 32 * c) W (by omega) (by omega)
            rw [show ((1 + 32 * c : Nat) : Int) = 1 + 32 * (c : Int) by omega, show ((33 + 32 * c : Nat) : Int) = 33 + 32 * (c : Int) by omega] at this
            rw [this, hx, HV.out]
            unfold pieceF
            rw [ByteArray.extract_extract, show min (1 + (32 * c + 32)) 2145 = 33 + 32 * c by omega]
          have hw1 : IntKind.i64.wrap (32 * (c : Int)) = 32 * (c : Int) := wrap_small _ (by omega) (by omega)
          have hw2 : IntKind.i64.wrap (1 + 32 * (c : Int)) = 1 + 32 * (c : Int) := wrap_small _ (by omega) (by omega)
          have hw3 : IntKind.i64.wrap (33 + 32 * (c : Int)) = 33 + 32 * (c : Int) := wrap_small _ (by omega) (by omega)
          clear hx
          obtain ⟨d, hd⟩ : ∃ d, d = dig D c := ⟨_, rfl⟩
          have hd15 : d ≤ 15 := by rw [hd]; exact dig_le D c
          have HDC : Hid (d = dig D c) := hd
          have hcell : wr.cell? ⟨gd, c, none⟩ = some (.int .i64 (d : Int)) := by rw [cell_sameB hJ.out.2.2, hd]; exact HCD.out c hlt2
          clear hd
          have HTr : Hid (Tab K wr) := HT.out.belowq HP.out hJ.out.2.1
          have hfl := finTs_len (sumOf K) V (dig D) c
          have hst := ksteps_any K w.heap.size HP.out (fun g => g = gd) x (15 - d) wr.drew _ hx32 (by omega) (hJ.out.1.below (Below.refl _ _).drew) (by rw [List.length_append]; omega) (HTr.out.below (Below.refl _ _).drew)
          rw [show ((15 - d : Nat) : Int) = 15 - (d : Int) by omega] at hst
          have hw4 : IntKind.i64.wrap (15 - (d : Int)) = 15 - (d : Int) := wrap_small _ (by omega) (by omega)
          obtain ⟨z, hz'⟩ : ∃ z, z = stepF (sumOf K) x (15 - d) := ⟨_, rfl⟩
          have hz32 : z.size = 32 := by rw [hz']; exact stepF_size (sumOf K) (sumOf_size K) x hx32 _
          have HZ : Hid (z = stepF (sumOf K) x (15 - d)) := hz'
          rw [← hz'] at hst
          clear hz' hfl
          go_wp2_with fail
          have J0 : wr.drew.cell? ⟨gd, c, none⟩ = some (.int .i64 (d : Int)) := hcell
          refine wp_region_noPanic ?_
          refine wp_region_held_drew (S := fun W => W.cell? ⟨gd, c, none⟩ = some (.int .i64 (d : Int))) (by kernel_rfl) J0 (fun _ => ?_)
          refine wpAnyH_take (i := 0) (v := ?_) rfl (by kernel_rfl) (by kernel_rfl) (by kernel_rfl) (fun _ _ _ h => h) (Or.inl ⟨by rfl, ?_⟩) J0 ?_
          rotate_left 1
          · intro W hSW; clear hSW; go_simp; try with_reducible rfl
          simp only [List.getElem_toArray, List.getElem_cons_zero, List.getElem_cons_succ, Act.put, List.setIfInBounds_toArray, List.set_cons_zero, List.set_cons_succ]
          refine wpAnyH_take (i := 1) (v := ?_) rfl (by kernel_rfl) (by kernel_rfl) (by kernel_rfl) (fun _ _ _ h => h) (Or.inl ⟨by rfl, ?_⟩) J0 ?_
          rotate_left 1
          · intro W hSW; clear hSW; go_simp; try with_reducible rfl
          simp only [List.getElem_toArray, List.getElem_cons_zero, List.getElem_cons_succ, Act.put, List.setIfInBounds_toArray, List.set_cons_zero, List.set_cons_succ]
          refine wpAnyH_take (i := 2) (v := ?_) rfl (by kernel_rfl) (by kernel_rfl) (by kernel_rfl) (fun _ _ _ h => h) (Or.inl ⟨by rfl, ?_⟩) J0 ?_
          rotate_left 1
          · intro W hSW; clear hSW; go_simp; try with_reducible rfl
          simp only [List.getElem_toArray, List.getElem_cons_zero, List.getElem_cons_succ, Act.put, List.setIfInBounds_toArray, List.set_cons_zero, List.set_cons_succ]
          refine wpAnyH_take (i := 3) (v := ?_) rfl (by kernel_rfl) (by kernel_rfl) (by kernel_rfl) (fun _ _ _ h => h) (Or.inl ⟨by rfl, ?_⟩) J0 ?_
          rotate_left 1
          · intro W hSW; clear hSW; go_simp; try with_reducible rfl
          simp only [List.getElem_toArray, List.getElem_cons_zero, List.getElem_cons_succ, Act.put, List.setIfInBounds_toArray, List.set_cons_zero, List.set_cons_succ]
          refine wpAnyH_take (i := 4) (v := ?_) rfl (by kernel_rfl) (by kernel_rfl) (by kernel_rfl) (fun _ _ _ h => h) (Or.inl ⟨by rfl, ?_⟩) J0 ?_
          rotate_left 1
          · intro W hSW; clear hSW; go_simp; try with_reducible rfl
          simp only [List.getElem_toArray, List.getElem_cons_zero, List.getElem_cons_succ, Act.put, List.setIfInBounds_toArray, List.set_cons_zero, List.set_cons_succ]
          refine wpAnyH_take (i := 5) (v := ?_) rfl (by kernel_rfl) (by kernel_rfl) (by kernel_rfl) (fun _ _ _ h => h) (Or.inl ⟨by rfl, ?_⟩) J0 ?_
          rotate_left 1
          · intro W hSW; clear hSW; go_simp; try with_reducible rfl
          simp only [List.getElem_toArray, List.getElem_cons_zero, List.getElem_cons_succ, Act.put, List.setIfInBounds_toArray, List.set_cons_zero, List.set_cons_succ]
          refine wpAnyH_take (i := 6) (v := ?_) rfl (by kernel_rfl) (by kernel_rfl) (by kernel_rfl) (fun _ _ _ h => h) (Or.inl ⟨by rfl, ?_⟩) J0 ?_
          rotate_left 1
          · intro W hSW; clear hSW; go_simp; try with_reducible rfl
          simp only [List.getElem_toArray, List.getElem_cons_zero, List.getElem_cons_succ, Act.put, List.setIfInBounds_toArray, List.set_cons_zero, List.set_cons_succ]
          refine wpAnyH_take (i := 7) (v := ?_) rfl (by kernel_rfl) (by kernel_rfl) (by kernel_rfl) (fun _ _ _ h => h) (Or.inl ⟨by rfl, ?_⟩) J0 ?_
          rotate_left 1
          · intro W hSW; clear hSW; go_simp; try with_reducible rfl
          simp only [List.getElem_toArray, List.getElem_cons_zero, List.getElem_cons_succ, Act.put, List.setIfInBounds_toArray, List.set_cons_zero, List.set_cons_succ]
          refine wpAnyH_take (i := 8) (v := ?_) rfl (by kernel_rfl) (by kernel_rfl) (by kernel_rfl) (fun _ _ _ h => h) (Or.inl ⟨by rfl, ?_⟩) J0 ?_
          rotate_left 1
          · intro W hSW; clear hSW; go_simp; try with_reducible rfl
          simp only [List.getElem_toArray, List.getElem_cons_zero, List.getElem_cons_succ, Act.put, List.setIfInBounds_toArray, List.set_cons_zero, List.set_cons_succ]
          refine wpAnyH_take (i := 9) (v := ?_) rfl (by kernel_rfl) (by kernel_rfl) (by kernel_rfl) (fun _ _ _ h => h) (Or.inl ⟨by rfl, ?_⟩) J0 ?_
          rotate_left 1
          · intro W hSW; clear hSW; go_simp; try with_reducible rfl
          simp only [List.getElem_toArray, List.getElem_cons_zero, List.getElem_cons_succ, Act.put, List.setIfInBounds_toArray, List.set_cons_zero, List.set_cons_succ]
          refine wpAnyH_take (i := 10) (v := ?_) rfl (by kernel_rfl) (by kernel_rfl) (by kernel_rfl) (fun _ _ _ h => h) (Or.inl ⟨by rfl, ?_⟩) J0 ?_
          rotate_left 1
          · intro W hSW; clear hSW; go_simp; try with_reducible rfl
          simp only [List.getElem_toArray, List.getElem_cons_zero, List.getElem_cons_succ, Act.put, List.setIfInBounds_toArray, List.set_cons_zero, List.set_cons_succ]
          refine wpAnyH_take (i := 11) (v := ?_) rfl (by kernel_rfl) (by kernel_rfl) (by kernel_rfl) (fun _ _ _ h => h) (Or.inl ⟨by rfl, ?_⟩) J0 ?_
          rotate_left 1
          · intro W hSW; clear hSW; go_simp; try with_reducible rfl
          simp only [List.getElem_toArray, List.getElem_cons_zero, List.getElem_cons_succ, Act.put, List.setIfInBounds_toArray, List.set_cons_zero, List.set_cons_succ]
          refine wpAnyH_take (i := 12) (v := ?_) rfl (by kernel_rfl) (by kernel_rfl) (by kernel_rfl) (fun _ _ _ h => h) (Or.inl ⟨by rfl, ?_⟩) J0 ?_
          rotate_left 1
          · intro W hSW; have cW := hSW; clear hSW; go_simp; try with_reducible rfl
          simp only [List.getElem_toArray, List.getElem_cons_zero, List.getElem_cons_succ, Act.put, List.setIfInBounds_toArray, List.set_cons_zero, List.set_cons_succ]
          refine wpAnyH_take (i := 13) (v := ?_) rfl (by kernel_rfl) (by kernel_rfl) (by kernel_rfl) (fun _ _ _ h => h) (Or.inl ⟨by rfl, ?_⟩) J0 ?_
          rotate_left 1
          · intro W hSW; clear hSW; go_simp; try with_reducible rfl
          simp only [List.getElem_toArray, List.getElem_cons_zero, List.getElem_cons_succ, Act.put, List.setIfInBounds_toArray, List.set_cons_zero, List.set_cons_succ]
          refine wpAnyH_ready (rs := [14]) (by kernel_rfl) (by simp) ?_
          refine AllReadyH.cons rfl (fun K' hK' => ?_) AllReadyH.nil
          rw [if_pos (by rfl)]
          go_simp
          refine hst.mono ?_
          rintro e w5 ⟨rfl, hk5, hb5, hg5⟩
          clear hst
          refine hK'.out _ _ ((cell_sameB (hg5 gd rfl)).trans J0) (fun _ => ?_)
          clear hK' K'
          try simp only [List.getElem_toArray, List.getElem_cons_zero, List.getElem_cons_succ, Act.put, List.setIfInBounds_toArray, List.set_cons_zero, List.set_cons_succ]
          refine wpAnyH_take (i := 15) (v := ?_) rfl (by kernel_rfl) (by kernel_rfl) (by kernel_rfl) (fun _ _ _ h => h) (Or.inl ⟨by rfl, ?_⟩) ((cell_sameB (hg5 gd rfl)).trans J0) ?_
          rotate_left 1
          · intro W hSW; clear hSW; go_simp; try with_reducible rfl
          simp only [List.getElem_toArray, List.getElem_cons_zero, List.getElem_cons_succ, Act.put, List.setIfInBounds_toArray, List.set_cons_zero, List.set_cons_succ]
          refine ⟨by kernel_rfl, ?_⟩
          refine NoPanic.normal ?_
          try simp only [List.getElem_toArray, List.getElem_cons_zero, List.getElem_cons_succ, Act.put, List.setIfInBounds_toArray, List.set_cons_zero, List.set_cons_succ]
          clear hcell J0 hsl
          go_wp2_with fail
          refine ⟨⟨c + 1, by omega, ?_, by go_num, ?_, ?_, ?_⟩, ?_⟩
          · show Value.string (L ++ z) = _
            rw [chainsT, ← HL.out, HZ.out, HX.out, HDC.out]
            unfold finB
            rw [if_pos hlt2]
          · rw [finTs, ← List.append_assoc, ← HX.out, ← HDC.out]
            exact hk5
          · exact hJ.out.2.1.drew.trans hb5
          · exact (hg5 gd rfl).trans hJ.out.2.2
          · simp [intOf]; omega
        · have c1 : ¬ (c : Int) < 67 := by omega
          obtain rfl : 67 = c := by omega
          obtain ⟨L, hL⟩ : ∃ L, L = chainsT (sumOf K) (finB V) (fun c => 15 - dig D c) 67 := ⟨_, rfl⟩
          have hLs : L.size ≤ 3000 := by rw [hL, chainsT_size _ (sumOf_size K) _ _ (finB_size V hVs)]; omega
          have HL : Hid (L = finT (sumOf K) V msg) := by show L = _; rw [hL, HD.out]; rfl
          rw [← hL]
          clear hL
          obtain ⟨T3, hT3⟩ : ∃ T3, T3 = T2 ++ finTs (sumOf K) V (dig D) 67 := ⟨_, rfl⟩
          have HT3 : Hid (T3 = T2 ++ finTs (sumOf K) V (dig D) 67) := hT3
          have hT3l : T3.length ≤ 42000 := by have := finTs_len (sumOf K) V (dig D) 67; rw [hT3, List.length_append]; omega
          have HB6 : Hid (Below w.heap.size w wr) := hJ.out.2.1
          have HK6 : Hid (kSt K w.heap.size (fun g => (Value.slice none 0 0).ownBlock = some g) wr T3) := by
            obtain ⟨tv, hv, h1, h2⟩ := hJ.out.1
            rw [← hT3] at h1
            exact ⟨tv, hv, h1, fun g hg => by cases hg⟩
          clear hT3 hJ HK4
          obtain ⟨Y, hY⟩ : ∃ Y, Y = sig.extract 2145 sig.size := ⟨_, rfl⟩
          have HY : Hid (Y = sig.extract 2145 sig.size) := hY
          clear hY
          have HOW : Hid (wr.ownsRow (w.heap.size + 1) 9 1 (.slice none 0 0) 0 []) := World.ownsRow_nil _ _ _ _
          have h5 := HHH.out
          go_wp2_with fail
          rename_i wq _ _ _
          go_loopw [22, 23] (fun v i w6 => ∃ (q m : Nat) (u : Value), u = v ∧ q ≤ h ∧ m = 2145 + 32 * q ∧ i = .int .i64 m ∧ Hid (w6.ownsRow (w.heap.size + 1) 9 1 u q (((List.range q).map (pieceF Y)).map .string) ∧ kSt K w.heap.size (fun g => u.ownBlock = some g) w6 T3 ∧ Below w.heap.size w w6)) (fun _ i _ => 2145 + 32 * h - (intOf i).toNat)
          case atStart => exact ⟨0, 2145, _, rfl, by omega, rfl, rfl, HOW.out, HK6.out, HB6.out⟩
          case round =>
            obtain ⟨q, m, u, hu, hq, hm, rfl, hJ⟩ := hrel
            subst hu
            have HM : Hid (m = 2145 + 32 * q) := hm
            have HQ : Hid (q ≤ h) := hq
            have hmb : m ≤ 3000 := by omega
            have hqb : q ≤ 5 := by omega
            clear HOW HK6 HB6
            by_cases hqh : q < h
            · have m1 : (m : Int) + 32 ≤ (sig.size : Int) := by omega
              have m0' : (0 : Int) ≤ (m : Int) := by omega
              obtain ⟨x, hx⟩ : ∃ x, x = pieceF Y q := ⟨_, rfl⟩
              have HX : Hid (x = pieceF Y q) := hx
              have hsl : ∀ W, (Instr.slice 9 (.string sig) (some (.int .i64 (m : Int))) (some (.int .i64 ((m : Int) + 32))) none).run Tryd.prog W = .ok (.string x) W := fun W => by
                have := run_cut_str sig m (m + 32) W (by omega) (by omega)
                rw [show ((m + 32 : Nat) : Int) = (m : Int) + 32 by omega] at this
                rw [this, hx, HY.out]
                unfold pieceF
                rw [ByteArray.extract_extract, show min (2145 + (32 * q + 32)) sig.size = m + 32 by omega, show 2145 + 32 * q = m by omega]
              have hw1 : IntKind.i64.wrap ((m : Int) + 32) = (m : Int) + 32 := wrap_small _ (by omega) (by omega)
              clear hx hm
              have hpl : w.heap.size < wr.heap.size := hJ.out.2.1.lt
              have ho4 : (wr.alloc (.cells #[.string x] 9)).ownsRow (w.heap.size + 1) 9 1 u q (((List.range q).map (pieceF Y)).map .string) := hJ.out.1.alloc _
              have hnews : ∀ j u, [Value.string x][j]? = some u → (wr.alloc (.cells #[.string x] 9)).cell? ((⟨wr.heap.size, 0, none⟩ : Addr).add j) = some u := World.news_of_block (heap_alloc_new wr (.cells #[.string x] 9))
              have HKB : Hid (kSt K w.heap.size (fun g => u.ownBlock = some g) (wr.alloc (.cells #[.string x] 9)) T3) := hJ.out.2.1.below ((Below.refl _ _).alloc (Nat.le_refl _) _)
              have HBA : Hid (Below w.heap.size w (wr.alloc (.cells #[.string x] 9))) := hJ.out.2.2.alloc (by omega) _
              go_wp2_with (refine wpList_append_lies _ rfl _ _ 37 rfl (w.heap.size + 1) 9 i0 _ 1 16 Tryd.underlying37 hi hz hsz hby rfl (by decide) u q _ rfl ho4 ⟨wr.heap.size, 0, none⟩ 1 1 [_] rfl rfl hnews (by simp [Value.oneCell']) (by decide) (by unfold maxLen; omega) (by omega) (by simp; omega) _ rfl ?_; intro g5 cap5 w5 ho5 hgr5 hat5 hlt5)
              refine ⟨⟨q + 1, m + 32, _, rfl, by omega, by have := HM.out; omega, by go_num, ?_, ?_, ?_⟩, ?_⟩
              · rw [List.range_succ, List.map_append, List.map_append, List.map_singleton, List.map_singleton, ← HX.out]
                exact ho5
              · exact kSt_append HKB.out hgr5 hat5 hlt5
              · exact HBA.out.trans ((Below.refl _ _).grown hgr5 (by simp; omega) (fun g e => by have := (ho4.lt g e).1; omega))
              · have := HM.out; simp [intOf]; omega
            · have m1 : ¬ (m : Int) + 32 ≤ (sig.size : Int) := by omega
              obtain rfl : h = q := by omega
              have hpos : 0 < sig.size := by omega
              have b0 : (0 : Int) < (sig.size : Int) := by omega
              have hw : wrap64 ((sig[0]'hpos).toNat : Int) = ((keyN sig : Nat) : Int) := by
                have e : (sig[0]'hpos).toNat = keyN sig := by
                  unfold keyN; rw [Array.getD_eq_getD_getElem?, Array.getElem?_eq_getElem (by exact hpos)]; rfl
                rw [e]
                have : keyN sig < 256 := by unfold keyN; exact UInt8.toNat_lt _
                unfold wrap64; omega
              have hbl : ((List.range h).map (pieceF Y)).length = h := by simp
              have hlf : LeafAt wr u ((List.range h).map (pieceF Y)) := leaf_own (by rw [hbl]; exact hJ.out.1)
              have hup := kup_any K w.heap.size HP.out L (by omega) h ((List.range h).map (pieceF Y)) (keyN sig) N u wr T3 hbl (by omega) (by have := HKN.out; have := HN.out; omega) (by omega) (by
                  rcases hlf with ⟨e, a⟩ | ⟨g, off, cap, e, h1, h2⟩
                  · exact Or.inl ⟨e, a⟩
                  · rw [hbl] at e h1
                    exact Or.inr ⟨g, off, cap, e, h1, h2⟩)
                (fun b hb => by obtain ⟨j, hj, rfl⟩ := List.mem_map.1 hb; have := List.mem_range.1 hj; rw [pieceF_size Y j (by rw [HY.out, ByteArray.size_extract]; omega)]; omega)
                (by obtain ⟨tv, hv, h1, _⟩ := hJ.out.2.1; exact ⟨tv, hv, h1⟩) (by omega) (HT.out.belowq HP.out hJ.out.2.2)
              clear hlf
              obtain ⟨T4, hT4⟩ : ∃ T4, T4 = T3 ++ (upF (sumOf K) L (keyN sig) N ((List.range h).map (pieceF Y))).2 := ⟨_, rfl⟩
              have HT4 : Hid (T4 = T3 ++ (upF (sumOf K) L (keyN sig) N ((List.range h).map (pieceF Y))).2) := hT4
              rw [← hT4] at hup
              have hT4l : T4.length ≤ 1000000 := by
                have := upF_len (sumOf K) L h ((List.range h).map (pieceF Y)) (keyN sig) N hbl
                rw [hT4, List.length_append]; omega
              clear hT4
              generalize (upF (sumOf K) L (keyN sig) N ((List.range h).map (pieceF Y))).1 = R at *
              obtain ⟨kn, hkn⟩ : ∃ kn, kn = keyN sig := ⟨_, rfl⟩
              rw [← hkn] at hw hup
              have HKQ : Hid (kn = keyN sig) := hkn
              clear hkn hm
              go_wp2_with fail
              refine hup.mono ?_
              rintro e w7 ⟨rfl, ⟨tv, hv, hA⟩, hb7⟩
              clear hup
              have hcl := clash_any (sumOf K) w.heap.size w7 tv hv T4 hA hT4l
              go_wp2_with fail
              refine hcl.mono ?_
              rintro e w8 ⟨r, rfl, hr, hb8⟩
              have hrt : r = true := hr (by
                have h1 := HCL.out
                have h2 : forgedT (sumOf K) seed h was msg sig = T4 := by
                  unfold forgedT
                  rw [HT4.out, HT3.out, HT2.out, HT1.out, HL.out, HV.out, HD.out, HY.out, HN.out]
                  rfl
                rw [h2] at h1
                exact h1)
              subst hrt
              clear hcl
              go_wp2_with fail
              go_ret
              exact ⟨rfl, (hJ.out.2.2.trans hb7).trans (hb8.mono (by have := hA.lt; omega))⟩
end Go.Proofs.YteebdadnfaekmaaDoor
