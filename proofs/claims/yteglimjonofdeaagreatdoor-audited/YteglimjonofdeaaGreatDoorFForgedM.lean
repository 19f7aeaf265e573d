import Derived.Test.YteglimjonofdeaaGreatDoorALaw1M
import Derived.Test.YteglimjonofdeaaGreatDoorFClashM
import Derived.Test.YteglimjonofdeaaGreatDoorIClashM
import Derived.Test.YteglimjonofdeaaGreatDoorOReqM
import Derived.Test.YteglimjonofdeaaGreatDoorHReck4M
set_option linter.unusedVariables false
set_option linter.unusedSimpArgs false
namespace Go.Proofs.YteglimjonofdeaaGreatDoor
open Go.RowKit

theorem kSt_append {K : Nat → Int} {p : Nat} {u : Value} {w w' : World} {ts : List ByteArray} {g5 : Nat} (h : kSt K p (fun g => u.ownBlock = some g) w ts) (hgr : w.grownBy w' u.ownBlock) (hat : u.ownBlock = some g5 ∨ g5 = w.heap.size) (hlt : g5 < w'.heap.size) : kSt K p (fun g => some g5 = some g) w' ts := by
  obtain ⟨tv, hv, h1, h2⟩ := h
  have nt : tv.ownBlock = none ∨ tv.ownBlock ≠ u.ownBlock := by
    cases ht : tv.ownBlock with
    | none => exact Or.inl rfl
    | some g => exact Or.inr fun e => (h2 g e.symm).2.2.1 ht
  have nh : hv.ownBlock = none ∨ hv.ownBlock ≠ u.ownBlock := by
    cases ht : hv.ownBlock with
    | none => exact Or.inl rfl
    | some g => exact Or.inr fun e => (h2 g e.symm).2.2.2 ht
  refine ⟨tv, hv, ⟨(hgr.block p h1.lt (fun e => (h2 p e.symm).2.1 rfl)).trans h1.block, h1.texts.kept hgr nt, h1.hashes.kept hgr nh, h1.away⟩, fun g hg => ?_⟩
  obtain rfl : g5 = g := by injection hg
  rcases hat with hat | hat
  · have := h2 g5 hat
    exact ⟨hlt, this.2.1, this.2.2.1, this.2.2.2⟩
  · have hl := h1.lt
    refine ⟨hlt, by omega, fun e => ?_, fun e => ?_⟩
    · have := h1.texts.lt g5 e; omega
    · have := h1.hashes.lt g5 e; omega
theorem kSt_fresh {K : Nat → Int} {p : Nat} {G : Nat → Prop} {w w' : World} {ts : List ByteArray} {gd : Nat} (h : kSt K p G w ts) (hb : Below w.heap.size w w') (hg : w.heap.size ≤ gd) (hlt : gd < w'.heap.size) : kSt K p (fun g => g = gd) w' ts := by
  obtain ⟨tv, hv, h1, h2⟩ := h
  refine ⟨tv, hv, h1.below hb, fun g e => ?_⟩
  subst e
  have hl := h1.lt
  refine ⟨hlt, by omega, fun e => ?_, fun e => ?_⟩
  · have := h1.texts.lt g e; omega
  · have := h1.hashes.lt g e; omega
theorem kSt_new (K : Nat → Int) (w : World) : kSt K w.heap.size (fun g => (Value.slice none 0 0).ownBlock = some g) (w.alloc (.cells #[.slice none 0 0, .slice none 0 0] 77)) [] :=
  ⟨_, _, known_new (sumOf K) w, fun g hg => by cases hg⟩
theorem leavesF_snoc' (H : ByteArray → ByteArray) (seed : ByteArray) (k : Nat) : leavesF H seed (k + 1) = leavesF H seed k ++ [leafF H seed k] := by
  unfold leavesF; rw [List.range_succ, List.map_append]; rfl
theorem upF_len (H : ByteArray → ByteArray) (s : ByteArray) : ∀ (q : Nat) (pf : List ByteArray) (i n : Nat), pf.length = q → (upF H s i n pf).2.length ≤ q + 1 := by
  intro q
  induction q with
  | zero => intro pf i n hq; obtain rfl := List.eq_nil_of_length_eq_zero hq; rw [upF_none]; simp
  | succ q ihq =>
    intro pf i n hq
    obtain ⟨rest', b', rfl⟩ : ∃ rest' b', pf = rest' ++ [b'] := ⟨pf.dropLast, pf.getLast (by intro e; subst e; simp at hq), (List.dropLast_concat_getLast _).symm⟩
    have hq' : rest'.length = q := by simp at hq; exact hq
    by_cases hn : n = 1
    · subst hn; rw [upF_one]; simp
    · by_cases hi : i < halfN n
      · rw [upF_left _ _ _ _ hn _ _ hi]; have := ihq rest' i (halfN n) hq'; simp; omega
      · rw [upF_right _ _ _ _ hn _ _ hi]; have := ihq rest' (i - halfN n) (n - halfN n) hq'; simp; omega
theorem pow_int' (h : Nat) (hh : h ≤ 5) : wrap64 ((2 : Int) ^ min h 64) = ((2 ^ h : Nat) : Int) := by
  obtain rfl | rfl | rfl | rfl | rfl | rfl : h = 0 ∨ h = 1 ∨ h = 2 ∨ h = 3 ∨ h = 4 ∨ h = 5 := by omega
  all_goals (unfold wrap64; decide)

set_option maxRecDepth 10000 in
set_option maxHeartbeats 4000000 in
theorem forged_any (K : Nat → Int) (seed was msg sig : ByteArray) (h : Nat) (w : World) (hh : h ≤ 5) (hseed : seed.size ≤ 100000) (hwas : was.size ≤ 100000) (hmsg : msg.size ≤ 100000) (hsig : sig.size = 2145 + 32 * h) (hkn : keyN sig < 2 ^ h) (T : Tab K w)
    (hcl : ∃ a b, b < a ∧ clashAt (sumOf K) (forgedT (sumOf K) seed h was msg sig) a b) :
    Calls Tryz.prog 22 #[.string seed, .int .i64 h, .string was, .string msg, .string sig] w fun e w' => e = .returned (.bool true) ∧ Below w.heap.size w w' := by
  obtain ⟨i0, hi, hz, hsz, hby⟩ := info_strT
  have HT : Hid (Tab K w) := T
  have hp := T.lt
  have HP : Hid (1 < w.heap.size) := hp
  have HCL : Hid (∃ a b, b < a ∧ clashAt (sumOf K) (forgedT (sumOf K) seed h was msg sig) a b) := hcl
  have hpw := pow_int' h hh
  have HN32 : Hid (2 ^ h ≤ 32) := Nat.pow_le_pow_right (n := 2) (by omega) hh
  have HN0 : Hid (0 < 2 ^ h) := Nat.pow_pos (by omega)
  have HHH : Hid (h ≤ 5) := hh
  have HSG : Hid (sig.size = 2145 + 32 * h) := hsig
  have HKN : Hid (keyN sig < 2 ^ h) := hkn
  have HSD : Hid (seed.size ≤ 100000) := hseed
  have HMW : Hid (was.size ≤ 100000 ∧ msg.size ≤ 100000) := ⟨hwas, hmsg⟩
  have HK0 : Hid (kSt K w.heap.size (fun g => (Value.slice none 0 0).ownBlock = some g) (w.alloc (.cells #[.slice none 0 0, .slice none 0 0] 77)) []) := kSt_new K w
  have HB0 : Hid (Below w.heap.size w (w.alloc (.cells #[.slice none 0 0, .slice none 0 0] 77))) := (Below.refl _ _).alloc (Nat.le_refl _) _
  have HO0 : Hid ((w.alloc (.cells #[.slice none 0 0, .slice none 0 0] 77)).ownsRow (w.heap.size + 1) 9 1 (.slice none 0 0) 0 []) := World.ownsRow_nil _ _ _ _
  clear T hp hcl hh hkn hseed hwas hmsg
  obtain ⟨N, hN⟩ : ∃ N, N = 2 ^ h := ⟨_, rfl⟩
  rw [← hN] at hpw
  have HN : Hid (N = 2 ^ h) := hN
  clear hN
  go_enter Tryz.func22, Tryz.ntmps22
  go_wp2_with fail
  go_loopw [12, 13] (fun v i wr => ∃ (k : Nat) (u : Value), u = v ∧ k ≤ N ∧ i = .int .i64 k ∧ Hid (wr.ownsRow (w.heap.size + 1) 9 1 u k ((leavesF (sumOf K) seed k).map .string) ∧ kSt K w.heap.size (fun g => u.ownBlock = some g) wr (keysT (sumOf K) seed k) ∧ Below w.heap.size w wr)) (fun _ i _ => N - (intOf i).toNat)
  case atStart => exact ⟨0, _, rfl, by omega, rfl, HO0.out, HK0.out, HB0.out⟩
  case round =>
    clear HO0 HK0 HB0
    obtain ⟨k, v, hvu, hk, rfl, hI⟩ := hrel
    subst hvu
    by_cases hlt : k < N
    · have k1 : (k : Int) < (N : Int) := by omega
      go_wp2_with fail
      rw [hpw]
      go_loopw [14, 15] (fun t i w2 => ∃ (c : Nat), c ≤ 67 ∧ t = .string (chainsT (sumOf K) (beginF (sumOf K) seed k) (fun _ => 15) c) ∧ i = .int .i64 c ∧ Hid (kSt K w.heap.size (fun g => v.ownBlock = some g) w2 (keysT (sumOf K) seed k ++ keyT (sumOf K) seed k c) ∧ Below w.heap.size wr w2 ∧ ∀ g, v.ownBlock = some g → w2.heap[g]? = wr.heap[g]?)) (fun _ i _ => 67 - (intOf i).toNat)
      case atStart => exact ⟨0, by omega, rfl, rfl, by rw [keyT, List.append_nil]; exact hI.out.2.1, Below.refl _ _, fun g _ => rfl⟩
      case round =>
        rename_i wk _ _ _
        obtain ⟨c, hc, rfl, rfl, hJ⟩ := hrel
        by_cases hlt2 : c < 67
        · have c1 : (c : Int) < 67 := by omega
          have hcv := convert_range (w := wr.alloc (.cells #[.int .u8 ((k : Int) % 256), .int .u8 (c : Int)] 5)) (b := wr.heap.size) (cap := 2) (ns := [(k : Int) % 256, (c : Int)]) 2 rfl (range_new wr (bytesV [(k : Int) % 256, (c : Int)]) 5)
          rw [show strOfNums [(k : Int) % 256, (c : Int)] = two k c by unfold two; rw [show (c : Int) % 256 = (c : Int) by omega]] at hcv
          have hbA : Below wr.heap.size wr (wr.alloc (.cells #[.int .u8 ((k : Int) % 256), .int .u8 (c : Int)] 5)) := (Below.refl _ _).alloc (Nat.le_refl _) _
          have hlen : (keysT (sumOf K) seed k ++ keyT (sumOf K) seed k c).length ≤ 40000 := by have := HN32.out; have := HN.out; rw [List.length_append, keysT_len, keyT_len]; omega
          have hpl : w.heap.size < wr.heap.size := hJ.out.1.lt
          have hTr : Tab K wr := HT.out.belowq HP.out (hI.out.2.2.trans hJ.out.2.1)
          have hof := kof_st K w.heap.size (fun g => v.ownBlock = some g) _ _ (mK ++ seed ++ two k c) (hJ.out.1.below hbA) (by omega) (by have := HSD.out; rw [ByteArray.size_append, ByteArray.size_append, two_size, show mK.size = 1 from rfl]; omega) (hTr.below hbA)
          have hw2 : (wr.alloc (.cells #[.int .u8 ((k : Int) % 256), .int .u8 (c : Int)] 5)).heap.size = wr.heap.size + 1 := by simp
          rw [show sumOf K (mK ++ seed ++ two k c) = beginF (sumOf K) seed k c from rfl, show mK = (⟨#[75]⟩ : ByteArray) from rfl] at hof
          have hsd := HSD.out
          have ht2 := two_size k c
          obtain ⟨b, hbe⟩ : ∃ b, b = beginF (sumOf K) seed k c := ⟨_, rfl⟩
          have hb32 : b.size = 32 := by rw [hbe]; exact beginF_size K seed k c
          obtain ⟨L, hL⟩ : ∃ L, L = chainsT (sumOf K) (beginF (sumOf K) seed k) (fun _ => 15) c := ⟨_, rfl⟩
          have hLs : L.size ≤ 3000 := by rw [hL, chainsT_size _ (sumOf_size K) _ _ (beginF_size K seed k)]; omega
          have HL : Hid (chainsT (sumOf K) (beginF (sumOf K) seed k) (fun _ => 15) (c + 1) = L ++ stepF (sumOf K) b 15) := by show _ = _; rw [chainsT, hL, hbe]
          have HBE : Hid (b = beginF (sumOf K) seed k c) := hbe
          rw [← hbe] at hof
          rw [← hL]
          clear hbe hL
          obtain ⟨tw, htw⟩ : ∃ tw, tw = two k c := ⟨_, rfl⟩
          have HTW : Hid (tw = two k c) := htw
          rw [← htw] at hof hcv ht2
          clear htw
          go_wp2_with fail
          refine hof.mono ?_
          rintro e w3 ⟨rfl, hk3, hb3, hg3⟩
          clear hof
          have hB3 : Below w.heap.size wr w3 := (hbA.mono (by omega)).trans hb3
          have hst := ksteps_any K w.heap.size HP.out (fun g => v.ownBlock = some g) b 15 w3 _ hb32 (by omega) hk3 (by rw [List.length_append, List.length_singleton]; omega) (hTr.belowq HP.out hB3)
          obtain ⟨z, hz'⟩ : ∃ z, z = stepF (sumOf K) b 15 := ⟨_, rfl⟩
          have hz32 : z.size = 32 := by rw [hz']; exact stepF_size (sumOf K) (sumOf_size K) b hb32 15
          have HZ : Hid (z = stepF (sumOf K) b 15) := hz'
          rw [← hz'] at hst
          clear hz'
          go_wp2_with fail
          refine hst.mono ?_
          rintro e w4 ⟨rfl, hk4, hb4, hg4⟩
          clear hst
          go_wp2_with fail
          refine ⟨⟨c + 1, by omega, ?_, by go_num, ?_, ?_, ?_⟩, ?_⟩
          · show Value.string (L ++ z) = _
            rw [HL.out, HZ.out]
          · rw [keyT, chainTx, ← List.append_assoc, ← List.append_assoc, ← HTW.out, ← HBE.out]
            exact hk4
          · exact (hJ.out.2.1.trans hB3).trans hb4
          · intro g hg
            obtain ⟨_, _, _, hf⟩ := hJ.out.1
            exact (hg4 g hg).trans ((hg3 g hg).trans ((heap_alloc_old _ _ (hf g hg).1).trans (hJ.out.2.2 g hg)))
          · simp [intOf]; omega
        · have c1 : ¬ (c : Int) < 67 := by omega
          obtain rfl : 67 = c := by omega
          obtain ⟨L, hL⟩ : ∃ L, L = chainsT (sumOf K) (beginF (sumOf K) seed k) (fun _ => 15) 67 := ⟨_, rfl⟩
          have HL : Hid (L = leafF (sumOf K) seed k) := hL
          rw [← hL]
          clear hL
          have hB : Below w.heap.size w wr := hI.out.2.2.trans hJ.out.2.1
          have hpl : w.heap.size < wr.heap.size := hJ.out.1.lt
          have ho4 : (wr.alloc (.cells #[.string L] 9)).ownsRow (w.heap.size + 1) 9 1 v k ((leavesF (sumOf K) seed k).map .string) := (own_sameX hI.out.1 hJ.out.2.2).alloc _
          have hnews : ∀ j u, [Value.string L][j]? = some u → (wr.alloc (.cells #[.string L] 9)).cell? ((⟨wr.heap.size, 0, none⟩ : Addr).add j) = some u := World.news_of_block (heap_alloc_new wr (.cells #[.string L] 9))
          have hkb : kSt K w.heap.size (fun g => v.ownBlock = some g) (wr.alloc (.cells #[.string L] 9)) (keysT (sumOf K) seed k ++ keyT (sumOf K) seed k 67) := hJ.out.1.below ((Below.refl _ _).alloc (Nat.le_refl _) _)
          have HKB : Hid (kSt K w.heap.size (fun g => v.ownBlock = some g) (wr.alloc (.cells #[.string L] 9)) (keysT (sumOf K) seed k ++ keyT (sumOf K) seed k 67)) := hkb
          have HBA : Hid (Below w.heap.size w (wr.alloc (.cells #[.string L] 9))) := hB.alloc (by omega) _
          have hkN : k ≤ 32 := by have := HN32.out; have := HN.out; omega
          clear hkb hB
          go_wp2_with (refine wpList_append_lies _ rfl _ _ 51 rfl (w.heap.size + 1) 9 i0 _ 1 16 Tryz.underlying51 hi hz hsz hby rfl (by decide) v k _ rfl ho4 ⟨wr.heap.size, 0, none⟩ 1 1 [_] rfl rfl hnews (by simp [Value.oneCell']) (by decide) (by unfold maxLen; omega) (by omega) (by simp; omega) _ rfl ?_; intro g5 cap5 w5 ho5 hgr5 hat5 hlt5)
          refine ⟨⟨k + 1, _, rfl, by omega, by go_num, ?_, ?_, ?_⟩, ?_⟩
          · rw [leavesF_snoc', ← HL.out]
            simpa using ho5
          · rw [keysT]
            exact kSt_append HKB.out hgr5 hat5 hlt5
          · exact HBA.out.trans ((Below.refl _ _).grown hgr5 (by simp; omega) (fun g e => by have := (ho4.lt g e).1; omega))
          · simp [intOf]; omega
    · have k1 : ¬ (k : Int) < (N : Int) := by omega
      obtain rfl : N = k := by omega
      have hN0 : 0 < N := by have := HN0.out; have := HN.out; omega
      have hN32 : N ≤ 32 := by have := HN32.out; have := HN.out; omega
      have hB1 : Below w.heap.size w wr := hI.out.2.2
      have hL1 : LeafAt wr v (leavesF (sumOf K) seed N) := by
        have h := hI.out.1
        rw [← leavesF_len (sumOf K) seed N] at h
        rw [leavesF_len] at h
        exact leaf_own (by rw [leavesF_len]; exact h)
      obtain ⟨g, off, cap, hv, hcap, hcl⟩ : ∃ g off cap, v = .slice (some ⟨g, off, none⟩) N cap ∧ N ≤ cap ∧ ∀ j (h : j < (leavesF (sumOf K) seed N).length), wr.cell? ⟨g, off + j, none⟩ = some (.string ((leavesF (sumOf K) seed N)[j]'h)) := by
        rcases hL1 with ⟨e, _⟩ | ⟨g, off, cap, e, h1, h2⟩
        · have := leavesF_len (sumOf K) seed N
          rw [e] at this; simp at this; omega
        · rw [leavesF_len] at e h1
          exact ⟨g, off, cap, e, h1, h2⟩
      subst hv
      have hroot := froot_any K w.heap.size (fun g' => (Value.slice (some ⟨g, off, none⟩) N cap).ownBlock = some g') HP.out N (leavesF (sumOf K) seed N) g off cap wr (keysT (sumOf K) seed N) (leavesF_len _ _ _) hN0 (by omega) hcap rfl hcl (fun s hs => by unfold leavesF at hs; obtain ⟨q, _, rfl⟩ := List.mem_map.1 hs; rw [leafF_size]; omega) hI.out.2.1 (by rw [keysT_len]; omega) (HT.out.belowq HP.out hB1)
      clear hcl hL1
      have lR := rootT_len (sumOf K) _ (leavesF (sumOf K) seed N) rfl (by rw [leavesF_len]; omega)
      rw [leavesF_len] at lR
      obtain ⟨T1, hT1⟩ : ∃ T1, T1 = keysT (sumOf K) seed N ++ rootT (sumOf K) (leavesF (sumOf K) seed N) := ⟨_, rfl⟩
      have HT1 : Hid (T1 = keysT (sumOf K) seed N ++ rootT (sumOf K) (leavesF (sumOf K) seed N)) := hT1
      have hT1l : T1.length ≤ 40000 := by rw [hT1, List.length_append, keysT_len]; omega
      rw [← hT1] at hroot
      clear hT1 lR
      go_wp2_with fail
      refine hroot.mono ?_
      rintro e w1 ⟨rfl, hk1, hb1, _⟩
      clear hroot
      have hB2 : Below w.heap.size w w1 := hB1.trans hb1
      have hwas := HMW.out.1
      have hmsg := HMW.out.2
      have hof := kof_st K w.heap.size _ w1 T1 was hk1 (by omega) (by omega) (HT.out.belowq HP.out hB2)
      go_wp2_with fail
      refine hof.mono ?_
      rintro e w2 ⟨rfl, hk2, hb2, _⟩
      clear hof hk1
      have hB3 : Below w.heap.size w w2 := hB2.trans hb2
      have hof := kof_st K w.heap.size _ w2 (T1 ++ [was]) msg hk2 (by rw [List.length_append, List.length_singleton]; omega) (by omega) (HT.out.belowq HP.out hB3)
      obtain ⟨D, hD⟩ : ∃ D, D = sumOf K msg := ⟨_, rfl⟩
      have HD : Hid (D = sumOf K msg) := hD
      have hD32 : D.size = 32 := by rw [hD]; exact sumOf_size K msg
      rw [← hD] at hof
      clear hD
      go_wp2_with fail
      refine hof.mono ?_
      rintro e w3 ⟨rfl, hk3, hb3, _⟩
      clear hof hk2
      have hB4 : Below w.heap.size w w3 := hB3.trans hb3
      have hdg := kdigits_any D hD32 w3
      have hs0 : ¬ (sig.size : Int) < 2145 := by omega
      go_wp2_with fail
      refine hdg.mono ?_
      rintro e w4 ⟨ao, cap2, rfl, hod, hbd⟩
      clear hdg
      obtain ⟨gd, hgd⟩ : ∃ gd, ao = some ⟨gd, 0, none⟩ := by
        rcases hod.2 with ⟨_, e⟩ | ⟨g, cap', cur, e, _⟩
        · omega
        · exact ⟨g, by injection e⟩
      subst hgd
      have hk4 : kSt K w.heap.size (fun g => g = gd) w4 (T1 ++ [was] ++ [msg]) := kSt_fresh hk3 hbd (hod.lt gd rfl).1 (hod.lt gd rfl).2
      have hB5 : Below w.heap.size w w4 := hB4.trans (hbd.mono hB4.size)
      have HCD : Hid (∀ c, c < 67 → w4.cell? ⟨gd, c, none⟩ = some (.int .i64 ((dig D c : Nat) : Int))) := fun c hc => by
        rw [hod.cellAt c (by omega), digV_get D c hc]
      obtain ⟨T2, hT2⟩ : ∃ T2, T2 = T1 ++ [was] ++ [msg] := ⟨_, rfl⟩
      have HT2 : Hid (T2 = T1 ++ [was] ++ [msg]) := hT2
      have hT2l : T2.length ≤ 40002 := by rw [hT2]; simp; omega
      rw [← hT2] at hk4
      clear hT2 hk3
      obtain ⟨V, hV⟩ : ∃ V, V = sig.extract 1 2145 := ⟨_, rfl⟩
      have HV : Hid (V = sig.extract 1 2145) := hV
      have hVs : V.size = 2144 := by rw [hV, ByteArray.size_extract]; omega
      clear hV
      have HK4 : Hid (kSt K w.heap.size (fun g => g = gd) w4 T2 ∧ Below w.heap.size w w4) := ⟨hk4, hB5⟩
      clear hk4 hB5 hB4 hB3 hB2 hB1 hod hbd hb1 hb2 hb3 hI
      go_wp2_with fail
      go_loopw [19, 20] (fun t i w5 => ∃ (c : Nat), c ≤ 67 ∧ t = .string (chainsT (sumOf K) (finB V) (fun c => 15 - dig D c) c) ∧ i = .int .i64 c ∧ Hid (kSt K w.heap.size (fun g => g = gd) w5 (T2 ++ finTs (sumOf K) V (dig D) c) ∧ Below w.heap.size w w5 ∧ w5.heap[gd]? = w4.heap[gd]?)) (fun _ i _ => 67 - (intOf i).toNat)
      case atStart => exact ⟨0, by omega, rfl, rfl, by rw [finTs, List.append_nil]; exact HK4.out.1, HK4.out.2, rfl⟩
      case round =>
        obtain ⟨c, hc, rfl, rfl, hJ⟩ := hrel
        by_cases hlt2 : c < 67
        · have c1 : (c : Int) < 67 := by omega
          have c0 : (0 : Int) ≤ (c : Int) := by omega
          obtain ⟨L, hL⟩ : ∃ L, L = chainsT (sumOf K) (finB V) (fun c => 15 - dig D c) c := ⟨_, rfl⟩
          have hLs : L.size ≤ 3000 := by rw [hL, chainsT_size _ (sumOf_size K) _ _ (finB_size V hVs)]; omega
          have HL : Hid (L = chainsT (sumOf K) (finB V) (fun c => 15 - dig D c) c) := hL
          rw [← hL]
          clear hL
          obtain ⟨x, hx⟩ : ∃ x, x = pieceF V c := ⟨_, rfl⟩
          have HX : Hid (x = pieceF V c) := hx
          have hx32 : x.size = 32 := by rw [hx]; exact pieceF_size V c (by omega)
          have hsl : ∀ W, (Instr.slice 9 (.string sig) (some (.int .i64 (1 + 32 * (c : Int)))) (some (.int .i64 (33 + 32 * (c : Int)))) none).run Tryz.prog W = .ok (.string x) W := fun W => by
            have := run_cut_str sig (1 + 32 * c) (33 + 32 * c) W (by omega) (by omega)
            rw [show ((1 + 32 * c : Nat) : Int) = 1 + 32 * (c : Int) by omega, show ((33 + 32 * c : Nat) : Int) = 33 + 32 * (c : Int) by omega] at this
            rw [this, hx, HV.out]
            unfold pieceF
            rw [ByteArray.extract_extract, show min (1 + (32 * c + 32)) 2145 = 33 + 32 * c by omega]
          have hw1 : IntKind.i64.wrap (32 * (c : Int)) = 32 * (c : Int) := wrap_small _ (by omega) (by omega)
          have hw2 : IntKind.i64.wrap (1 + 32 * (c : Int)) = 1 + 32 * (c : Int) := wrap_small _ (by omega) (by omega)
          have hw3 : IntKind.i64.wrap (33 + 32 * (c : Int)) = 33 + 32 * (c : Int) := wrap_small _ (by omega) (by omega)
          clear hx
          obtain ⟨d, hd⟩ : ∃ d, d = dig D c := ⟨_, rfl⟩
          have hd15 : d ≤ 15 := by rw [hd]; exact dig_le D c
          have HDC : Hid (d = dig D c) := hd
          have hcell : wr.cell? ⟨gd, c, none⟩ = some (.int .i64 (d : Int)) := by rw [cell_sameB hJ.out.2.2, hd]; exact HCD.out c hlt2
          clear hd
          have HTr : Hid (Tab K wr) := HT.out.belowq HP.out hJ.out.2.1
          have hfl := finTs_len (sumOf K) V (dig D) c
          have hst := ksteps_any K w.heap.size HP.out (fun g => g = gd) x (15 - d) wr.drew _ hx32 (by omega) (hJ.out.1.below (Below.refl _ _).drew) (by rw [List.length_append]; omega) (HTr.out.below (Below.refl _ _).drew)
          rw [show ((15 - d : Nat) : Int) = 15 - (d : Int) by omega] at hst
          have hw4 : IntKind.i64.wrap (15 - (d : Int)) = 15 - (d : Int) := wrap_small _ (by omega) (by omega)
          obtain ⟨z, hz'⟩ : ∃ z, z = stepF (sumOf K) x (15 - d) := ⟨_, rfl⟩
          have hz32 : z.size = 32 := by rw [hz']; exact stepF_size (sumOf K) (sumOf_size K) x hx32 _
          have HZ : Hid (z = stepF (sumOf K) x (15 - d)) := hz'
          rw [← hz'] at hst
          clear hz' hfl
          go_wp2_with fail
          have J0 : wr.drew.cell? ⟨gd, c, none⟩ = some (.int .i64 (d : Int)) := hcell
          refine wp_region_noPanic ?_
          refine wp_region_held_drew (S := fun W => W.cell? ⟨gd, c, none⟩ = some (.int .i64 (d : Int))) (by kernel_rfl) J0 (fun _ => ?_)
          refine tk 0 J0 ?_
          refine tk 1 J0 ?_
          refine tk 2 J0 ?_
          refine tk 3 J0 ?_
          refine tk 4 J0 ?_
          refine tk 5 J0 ?_
          refine tk 6 J0 ?_
          refine tk 7 J0 ?_
          refine tk 8 J0 ?_
          refine tk 9 J0 ?_
          refine tk 10 J0 ?_
          refine tk 11 J0 ?_
          refine tq (i := 12) (v := ?_) rfl J0 ?_ ?_
          rotate_left 1
          · intro W hSW; have cW := hSW; clear hSW; go_simp; try with_reducible rfl
          simp only [qA, qB, qC, Act.put, qD, qE, qF]
          refine tk 13 J0 ?_
          refine rk 14 (fun K' hK' => ?_)
          go_simp
          refine hst.mono ?_
          rintro e w5 ⟨rfl, hk5, hb5, hg5⟩
          clear hst
          refine hK'.out _ _ ((cell_sameB (hg5 gd rfl)).trans J0) (fun _ => ?_)
          clear hK' K'
          try simp only [qA, qB, qC, Act.put, qD, qE, qF]
          refine wpAnyH_take (i := 15) (v := ?_) rfl (by kernel_rfl) (by kernel_rfl) (by kernel_rfl) (fun _ _ _ h => h) (Or.inl ⟨by rfl, ?_⟩) ((cell_sameB (hg5 gd rfl)).trans J0) ?_
          rotate_left 1
          · intro W hSW; clear hSW; go_simp; try with_reducible rfl
          simp only [qA, qB, qC, Act.put, qD, qE, qF]
          refine ⟨by kernel_rfl, ?_⟩
          refine NoPanic.normal ?_
          try simp only [qA, qB, qC, Act.put, qD, qE, qF]
          clear hcell J0 hsl
          go_wp2_with fail
          refine ⟨⟨c + 1, by omega, ?_, by go_num, ?_, ?_, ?_⟩, ?_⟩
          · show Value.string (L ++ z) = _
            rw [chainsT, ← HL.out, HZ.out, HX.out, HDC.out]
            unfold finB
            rw [if_pos hlt2]
          · rw [finTs, ← List.append_assoc, ← HX.out, ← HDC.out]
            exact hk5
          · exact hJ.out.2.1.drew.trans hb5
          · exact (hg5 gd rfl).trans hJ.out.2.2
          · simp [intOf]; omega
        · have c1 : ¬ (c : Int) < 67 := by omega
          obtain rfl : 67 = c := by omega
          obtain ⟨L, hL⟩ : ∃ L, L = chainsT (sumOf K) (finB V) (fun c => 15 - dig D c) 67 := ⟨_, rfl⟩
          have hLs : L.size ≤ 3000 := by rw [hL, chainsT_size _ (sumOf_size K) _ _ (finB_size V hVs)]; omega
          have HL : Hid (L = finT (sumOf K) V msg) := by show L = _; rw [hL, HD.out]; rfl
          rw [← hL]
          clear hL
          obtain ⟨T3, hT3⟩ : ∃ T3, T3 = T2 ++ finTs (sumOf K) V (dig D) 67 := ⟨_, rfl⟩
          have HT3 : Hid (T3 = T2 ++ finTs (sumOf K) V (dig D) 67) := hT3
          have hT3l : T3.length ≤ 42000 := by have := finTs_len (sumOf K) V (dig D) 67; rw [hT3, List.length_append]; omega
          have HB6 : Hid (Below w.heap.size w wr) := hJ.out.2.1
          have HK6 : Hid (kSt K w.heap.size (fun g => (Value.slice none 0 0).ownBlock = some g) wr T3) := by
            obtain ⟨tv, hv, h1, h2⟩ := hJ.out.1
            rw [← hT3] at h1
            exact ⟨tv, hv, h1, fun g hg => by cases hg⟩
          clear hT3 hJ HK4
          obtain ⟨Y, hY⟩ : ∃ Y, Y = sig.extract 2145 sig.size := ⟨_, rfl⟩
          have HY : Hid (Y = sig.extract 2145 sig.size) := hY
          clear hY
          have HOW : Hid (wr.ownsRow (w.heap.size + 1) 9 1 (.slice none 0 0) 0 []) := World.ownsRow_nil _ _ _ _
          have h5 := HHH.out
          go_wp2_with fail
          rename_i wq _ _ _
          go_loopw [22, 23] (fun v i w6 => ∃ (q m : Nat) (u : Value), u = v ∧ q ≤ h ∧ m = 2145 + 32 * q ∧ i = .int .i64 m ∧ Hid (w6.ownsRow (w.heap.size + 1) 9 1 u q (((List.range q).map (pieceF Y)).map .string) ∧ kSt K w.heap.size (fun g => u.ownBlock = some g) w6 T3 ∧ Below w.heap.size w w6)) (fun _ i _ => 2145 + 32 * h - (intOf i).toNat)
          case atStart => exact ⟨0, 2145, _, rfl, by omega, rfl, rfl, HOW.out, HK6.out, HB6.out⟩
          case round =>
            obtain ⟨q, m, u, hu, hq, hm, rfl, hJ⟩ := hrel
            subst hu
            have HM : Hid (m = 2145 + 32 * q) := hm
            have HQ : Hid (q ≤ h) := hq
            have hmb : m ≤ 3000 := by omega
            have hqb : q ≤ 5 := by omega
            clear HOW HK6 HB6
            by_cases hqh : q < h
            · have m1 : (m : Int) + 32 ≤ (sig.size : Int) := by omega
              have m0' : (0 : Int) ≤ (m : Int) := by omega
              obtain ⟨x, hx⟩ : ∃ x, x = pieceF Y q := ⟨_, rfl⟩
              have HX : Hid (x = pieceF Y q) := hx
              have hsl : ∀ W, (Instr.slice 9 (.string sig) (some (.int .i64 (m : Int))) (some (.int .i64 ((m : Int) + 32))) none).run Tryz.prog W = .ok (.string x) W := fun W => by
                have := run_cut_str sig m (m + 32) W (by omega) (by omega)
                rw [show ((m + 32 : Nat) : Int) = (m : Int) + 32 by omega] at this
                rw [this, hx, HY.out]
                unfold pieceF
                rw [ByteArray.extract_extract, show min (2145 + (32 * q + 32)) sig.size = m + 32 by omega, show 2145 + 32 * q = m by omega]
              have hw1 : IntKind.i64.wrap ((m : Int) + 32) = (m : Int) + 32 := wrap_small _ (by omega) (by omega)
              clear hx hm
              have hpl : w.heap.size < wr.heap.size := hJ.out.2.1.lt
              have ho4 : (wr.alloc (.cells #[.string x] 9)).ownsRow (w.heap.size + 1) 9 1 u q (((List.range q).map (pieceF Y)).map .string) := hJ.out.1.alloc _
              have hnews : ∀ j u, [Value.string x][j]? = some u → (wr.alloc (.cells #[.string x] 9)).cell? ((⟨wr.heap.size, 0, none⟩ : Addr).add j) = some u := World.news_of_block (heap_alloc_new wr (.cells #[.string x] 9))
              have HKB : Hid (kSt K w.heap.size (fun g => u.ownBlock = some g) (wr.alloc (.cells #[.string x] 9)) T3) := hJ.out.2.1.below ((Below.refl _ _).alloc (Nat.le_refl _) _)
              have HBA : Hid (Below w.heap.size w (wr.alloc (.cells #[.string x] 9))) := hJ.out.2.2.alloc (by omega) _
              go_wp2_with (refine wpList_append_lies _ rfl _ _ 51 rfl (w.heap.size + 1) 9 i0 _ 1 16 Tryz.underlying51 hi hz hsz hby rfl (by decide) u q _ rfl ho4 ⟨wr.heap.size, 0, none⟩ 1 1 [_] rfl rfl hnews (by simp [Value.oneCell']) (by decide) (by unfold maxLen; omega) (by omega) (by simp; omega) _ rfl ?_; intro g5 cap5 w5 ho5 hgr5 hat5 hlt5)
              refine ⟨⟨q + 1, m + 32, _, rfl, by omega, by have := HM.out; omega, by go_num, ?_, ?_, ?_⟩, ?_⟩
              · rw [List.range_succ, List.map_append, List.map_append, List.map_singleton, List.map_singleton, ← HX.out]
                exact ho5
              · exact kSt_append HKB.out hgr5 hat5 hlt5
              · exact HBA.out.trans ((Below.refl _ _).grown hgr5 (by simp; omega) (fun g e => by have := (ho4.lt g e).1; omega))
              · have := HM.out; simp [intOf]; omega
            · have m1 : ¬ (m : Int) + 32 ≤ (sig.size : Int) := by omega
              obtain rfl : h = q := by omega
              have hpos : 0 < sig.size := by omega
              have b0 : (0 : Int) < (sig.size : Int) := by omega
              have hw : wrap64 ((sig[0]'hpos).toNat : Int) = ((keyN sig : Nat) : Int) := by
                have e : (sig[0]'hpos).toNat = keyN sig := by
                  unfold keyN; rw [Array.getD_eq_getD_getElem?, Array.getElem?_eq_getElem (by exact hpos)]; rfl
                rw [e]
                have : keyN sig < 256 := by unfold keyN; exact UInt8.toNat_lt _
                unfold wrap64; omega
              have hbl : ((List.range h).map (pieceF Y)).length = h := by simp
              have hlf : LeafAt wr u ((List.range h).map (pieceF Y)) := leaf_own (by rw [hbl]; exact hJ.out.1)
              have hup := kup_any K w.heap.size HP.out L (by omega) h ((List.range h).map (pieceF Y)) (keyN sig) N u wr T3 hbl (by omega) (by have := HKN.out; have := HN.out; omega) (by omega) (by
                  rcases hlf with ⟨e, a⟩ | ⟨g, off, cap, e, h1, h2⟩
                  · exact Or.inl ⟨e, a⟩
                  · rw [hbl] at e h1
                    exact Or.inr ⟨g, off, cap, e, h1, h2⟩)
                (fun b hb => by obtain ⟨j, hj, rfl⟩ := List.mem_map.1 hb; have := List.mem_range.1 hj; rw [pieceF_size Y j (by rw [HY.out, ByteArray.size_extract]; omega)]; omega)
                (by obtain ⟨tv, hv, h1, _⟩ := hJ.out.2.1; exact ⟨tv, hv, h1⟩) (by omega) (HT.out.belowq HP.out hJ.out.2.2)
              clear hlf
              obtain ⟨T4, hT4⟩ : ∃ T4, T4 = T3 ++ (upF (sumOf K) L (keyN sig) N ((List.range h).map (pieceF Y))).2 := ⟨_, rfl⟩
              have HT4 : Hid (T4 = T3 ++ (upF (sumOf K) L (keyN sig) N ((List.range h).map (pieceF Y))).2) := hT4
              rw [← hT4] at hup
              have hT4l : T4.length ≤ 1000000 := by
                have := upF_len (sumOf K) L h ((List.range h).map (pieceF Y)) (keyN sig) N hbl
                rw [hT4, List.length_append]; omega
              clear hT4
              generalize (upF (sumOf K) L (keyN sig) N ((List.range h).map (pieceF Y))).1 = R at *
              obtain ⟨kn, hkn⟩ : ∃ kn, kn = keyN sig := ⟨_, rfl⟩
              rw [← hkn] at hw hup
              have HKQ : Hid (kn = keyN sig) := hkn
              clear hkn hm
              go_wp2_with fail
              refine hup.mono ?_
              rintro e w7 ⟨rfl, ⟨tv, hv, hA⟩, hb7⟩
              clear hup
              have hcl := clash_any (sumOf K) w.heap.size w7 tv hv T4 hA hT4l
              go_wp2_with fail
              refine hcl.mono ?_
              rintro e w8 ⟨r, rfl, hr, hb8⟩
              have hrt : r = true := hr (by
                have h1 := HCL.out
                have h2 : forgedT (sumOf K) seed h was msg sig = T4 := by
                  unfold forgedT
                  rw [HT4.out, HT3.out, HT2.out, HT1.out, HL.out, HV.out, HD.out, HY.out, HN.out]
                  rfl
                rw [h2] at h1
                exact h1)
              subst hrt
              clear hcl
              go_wp2_with fail
              go_ret
              exact ⟨rfl, (hJ.out.2.2.trans hb7).trans (hb8.mono (by have := hA.lt; omega))⟩
/-- A second node that is alone, of two entries; without a head yet, or with one. -/
def Frk (K : Nat → Int) (s : ByteArray) (B yn : Nat) (L : List En) (no : Prop) (w : World) : Prop :=
  ∃ z ky nd q bb j C l bk lm m lv G F D, Ond K z ky 200 B yn 2 nd q bb j C l bk lm m lv L G F D w ∧ z.sd = s ∧ z.hg = ((3 : Nat) : Int) ∧ (no → ky = 0 ∧ z.he = ⟨#[]⟩)
theorem Frk.fresh {K : Nat → Int} {s : ByteArray} {B yn : Nat} {L : List En} {no : Prop} {w w' : World} (h : Frk K s B yn L no w) (hb : Below w.heap.size w w') : Frk K s B yn L no w' := by
  obtain ⟨z, ky, nd, q, bb, j, C, l, bk, lm, m, lv, G, F, D, O, r⟩ := h
  exact ⟨z, ky, nd, q, bb, j, C, l, bk, lm, m, lv, G, F, D, O.fresh hb, r⟩
theorem Frk.wholes {K : Nat → Int} {s : ByteArray} {B yn : Nat} {L : List En} {no : Prop} {w : World} (h : Frk K s B yn L no w) : ∀ e ∈ L, e.whole := by
  obtain ⟨z, ky, nd, q, bb, j, C, l, bk, lm, m, lv, G, F, D, O, r⟩ := h
  exact O.wholes
theorem fork_whole : rqWhole 8 7 5 98 0 ⟨#[]⟩ = true := by decide +kernel
theorem rq_fork : Tryz.prog.built 29 [(0, .int .i64 8), (1, .int .i64 7), (2, .int .i64 5), (3, .int .i64 98)] = some (rqCells 8 7 5 98 0 ⟨#[]⟩).toArray := by kernel_rfl
/-- What is in the second node's log. -/
def ForkL (L : List En) : Prop := ∃ a e : En, L = [a, e] ∧ e.n = 7
theorem fork_req {K : Nat → Int} {s : ByteArray} {B xn nd q bb j : Nat} {C : Nat → List Int} {l : ByteArray} {bk lm m : Nat} {lv : Value} {L : List En} {G F : Nat → Prop} {D : DataW Unit} {W : World} (h : Onc K (nv0 0 0 s ((3 : Nat) : Int)) 0 200 B xn 1 nd q bb j C l bk lm m lv L G F D W) :
    Calls Tryz.prog 9 #[.pointer (some ⟨xn, 0, none⟩), .agg (rqCells 8 7 5 98 0 ⟨#[]⟩).toArray] W fun e w' => ∃ b L', e = .returned (.tuple #[.slice (some ⟨b, 0, none⟩) 1 1, .nilIface]) ∧ Frk K s B xn L' True w' ∧ ForkL L' ∧ Below B W w' := by
  obtain ⟨i, no, hl⟩ := h.last 8
  have hno := h.lastBound hl
  refine (aud_req K _ 0 200 B xn 1 nd q bb j C l bk lm m lv L G F D 8 7 5 98 0 ⟨#[]⟩ W h.ond fork_whole no i hl (by omega) (by omega) (by omega) (by omega)).mono ?_
  rintro e w' ⟨C', l', lv', G', F', k', vv, tt, b, rfl, O, bB, kk, oo⟩
  obtain ⟨a, ha⟩ := List.length_eq_one_iff.1 h.len
  exact ⟨b, _, rfl, ⟨_, 0, nd, q, bb, j, C', l', bk, lm, m, lv', G', F', _, O, rfl, rfl, fun _ => ⟨rfl, rfl⟩⟩, ⟨a, _, by rw [ha]; rfl, rfl⟩, bB⟩
theorem fork_head {K : Nat → Int} {s : ByteArray} {B yn : Nat} {L : List En} {W : World} (h : Frk K s B yn L True W) (hs : s.size = 32) :
    Calls Tryz.prog 17 #[.pointer (some ⟨yn, 0, none⟩)] W fun e w' => e = .returned (.tuple #[.string (headF K s 3 0 L), .nilIface]) ∧ Frk K s B yn L False w' ∧ Below B W w' := by
  obtain ⟨z, ky, nd, q, bb, j, C, l, bk, lm, m, lv, G, F, D, O, hsd, hg, hno⟩ := h
  obtain ⟨rfl, he⟩ := hno trivial
  have hlen := O.len
  subst hsd
  refine (aud_head O 3 hg (by omega) hs (Or.inl he) (by omega) (by omega) (by omega) (by omega) (by omega)).mono ?_
  rintro e w' ⟨rfl, ⟨C', l', O'⟩, kk⟩
  exact ⟨rfl, ⟨_, 1, nd, q, bb, j, C', l', bk, lm, m, lv, G, F, D, O', rfl, hg, fun h => h.elim⟩, kk.toBelow O.bl (fun g hg => by rcases hg with hg | hg; exact O.base g hg; rw [hg]; exact O.nb)⟩
theorem fork_events {K : Nat → Int} {s : ByteArray} {B yn : Nat} {L : List En} {no : Prop} {W : World} (h : Frk K s B yn L no W) :
    Calls Tryz.prog 27 #[.pointer (some ⟨yn, 0, none⟩), .int .i64 ((2 : Nat) : Int)] W fun e w' => ∃ ao cap, e = .returned (.slice ao 2 cap) ∧ w'.ownsRow W.heap.size 9 1 (.slice ao 2 cap) 2 ((evs K L).map .string) ∧ Below W.heap.size W w' := by
  obtain ⟨z, ky, nd, q, bb, j, C, l, bk, lm, m, lv, G, F, D, O, r⟩ := h
  have := kevents_any K z ky 200 B yn 2 nd q bb j C l bk lm m lv L G F D 2 W O (by omega) (by omega)
  rwa [List.take_of_length_le (by rw [evs_len, O.len]; exact Nat.le_refl _)] at this
/-- What an auditor says of the second node's head. -/
theorem fork_adv (K : Nat → Int) (s r0 : ByteArray) (was : Nat) (L : List En) (hL : L.length = 2) : (2 < was → advE K (pubF (sumOf K) s 3) 3 was r0 (headF K s 3 0 L) [] = .iface 41 (.int .i64 10)) ∧
    (was = 2 → advE K (pubF (sumOf K) s 3) 3 was r0 (headF K s 3 0 L) [] = .iface 41 (.int .i64 15) ∨ (r0 = rootF (sumOf K) (evs K L) ∧ (advE K (pubF (sumOf K) s 3) 3 was r0 (headF K s 3 0 L) [] = .nilIface ∨ advE K (pubF (sumOf K) s 3) 3 was r0 (headF K s 3 0 L) [] = .iface 41 (.int .i64 14)))) := by
  obtain ⟨f1, f2, f3⟩ := hdT_facts L.length (rootF (sumOf K) (evs K L)) (by omega) (rootF_size _ (sumOf_size K) _)
  have e : advE K (pubF (sumOf K) s 3) 3 was r0 (headF K s 3 0 L) [] = growV K was 2 r0 (rootF (sumOf K) (evs K L)) [] := by
    unfold advE
    rw [if_neg (by rw [headF_size]; simp), if_neg (by rw [headF_msg]; unfold msgF; rw [f1]; simp), headF_sig, headF_msg, if_neg (by rw [sig_good K s 3 0 _ (by omega) (by omega)]; simp)]
    unfold msgF
    rw [f2, f3, hL]; rfl
  rw [e]
  unfold growV
  refine ⟨fun h => if_pos h, fun h => ?_⟩
  subst h
  rw [if_neg (by omega)]
  by_cases hr : r0 = rootF (sumOf K) (evs K L)
  · rw [if_neg (fun h => h.2 hr.symm)]
    refine Or.inr ⟨hr, ?_⟩
    cases consOk K 2 2 r0 (rootF (sumOf K) (evs K L)) [] with
    | true => exact Or.inl rfl
    | false => exact Or.inr rfl
  · exact Or.inl (if_pos ⟨rfl, fun h => hr h.symm⟩)
theorem halfN_2 : halfN 2 = 1 := by decide
theorem rootF_two (H : ByteArray → ByteArray) (a b : ByteArray) : rootF H [a, b] = H (m1 ++ H (m0 ++ a) ++ H (m0 ++ b)) := by
  rw [rootF_more H (by simp)]
  show H (m1 ++ rootF H (List.take (halfN 2) [a, b]) ++ rootF H (List.drop (halfN 2) [a, b])) = _
  rw [halfN_2]
  show H (m1 ++ rootF H [a] ++ rootF H [b]) = _
  rw [rootF, rootF]
theorem rootT_two (H : ByteArray → ByteArray) (a b : ByteArray) : rootT H [a, b] = [m0 ++ a, m0 ++ b, m1 ++ H (m0 ++ a) ++ H (m0 ++ b)] := by
  rw [rootT_more H (by simp)]
  show rootT H (List.take (halfN 2) [a, b]) ++ rootT H (List.drop (halfN 2) [a, b]) ++ [m1 ++ rootF H (List.take (halfN 2) [a, b]) ++ rootF H (List.drop (halfN 2) [a, b])] = _
  rw [halfN_2]
  show rootT H [a] ++ rootT H [b] ++ [m1 ++ rootF H [a] ++ rootF H [b]] = _
  rw [rootF, rootF, rootT_one, rootT_one]; rfl
/-- Two books of one root: two texts of one hash are in hand. -/
theorem fork_found {K : Nat → Int} {s : ByteArray} {w : World} {xn da ab i was hs : Nat} {z : Nv} {ky nd q bb j : Nat} {C : Nat → List Int} {l : ByteArray} {bk lm m : Nat} {lv : Value} {L : List En} {G F : Nat → Prop} {D : DataW Unit} {wr : World} (h : AudI K s w xn da ab i was hs z ky nd q bb j C l bk lm m lv L G F D wr) (hi : 1 ≤ i) {L' : List En} (hL : ForkL L') (hw : ∀ e ∈ L', e.whole) (hr : rootF (sumOf K) ((evs K L).take 2) = rootF (sumOf K) (evs K L')) :
    ∃ a b, b < a ∧ clashAt (sumOf K) ([] ++ rootT (sumOf K) ((evs K L).take 2) ++ rootT (sumOf K) (evs K L')) a b := by
  obtain ⟨a, e, rfl, hn⟩ := hL
  have hlen := h.ond.len
  obtain ⟨x0, x1, rest, rfl⟩ : ∃ x0 x1 rest, L = x0 :: x1 :: rest := by
    match L, hlen with
    | [], h => simp at h
    | [_], h => simp at h; omega
    | x0 :: x1 :: rest, _ => exact ⟨x0, x1, rest, rfl⟩
  have e1 : (evs K (x0 :: x1 :: rest)).take 2 = [evT K x0, evT K x1] := rfl
  have e2 : evs K [a, e] = [evT K a, evT K e] := rfl
  rw [e1, e2] at hr ⊢
  have hx := h.seq 1 x1 rfl
  refine fork_clash K _ _ _ _ (evT_ne K x1 e (h.ond.wholes x1 (by simp)) (hw e (by simp)) (by rw [hx, hn]; omega)) hr _ (fun x hx => ?_) (rootF_two _ _ _) (rootF_two _ _ _)
  rw [rootT_two, rootT_two]
  simp only [List.mem_cons, List.not_mem_nil, or_false] at hx
  rcases hx with rfl | rfl | rfl | rfl <;> simp
theorem evs_small' (K : Nat → Int) (L : List En) : ∀ s ∈ evs K L, s.size ≤ 100000 := fun s hs => by
  unfold evs at hs
  obtain ⟨e, _, rfl⟩ := List.mem_map.1 hs
  rw [evT_size]; omega
/-- The root of two texts that were read behind known's making. -/
theorem fork_root {K : Nat → Int} {p : Nat} {G : Nat → Prop} {w w' : World} {ts ls : List ByteArray} {ao : Option Addr} {cap : Nat} (h : kSt K p G w ts) (hp : 1 < p) (ht : ts.length ≤ 1000) (hl : ls.length = 2) (hsz : ∀ s ∈ ls, s.size ≤ 100000) (ho : w'.ownsRow w.heap.size 9 1 (.slice ao 2 cap) 2 (ls.map .string)) (hb : Below w.heap.size w w') (T : Tab K w') :
    Calls Tryz.prog 28 #[.pointer (some ⟨p, 0, none⟩), .slice ao 2 cap] w' fun e w2 => e = .returned (.string (rootF (sumOf K) ls)) ∧ (∃ G', kSt K p G' w2 (ts ++ rootT (sumOf K) ls)) ∧ Below p w' w2 := by
  have ho' : w'.ownsRow w.heap.size 9 1 (.slice ao 2 cap) ls.length (ls.map .string) := by rw [hl]; exact ho
  rcases leaf_own ho' with ⟨e, _⟩ | ⟨g, off, cap', e, hc, hcell⟩
  · rw [e] at hl; cases hl
  · injection e with e1 e2 e3
    subst e1 e3
    have hlt := ho.lt g rfl
    refine (froot_any K p (fun g' => g' = g) hp 2 ls g off cap w' ts hl (by omega) (by omega) (by omega) rfl hcell hsz (kSt_fresh h hb hlt.1 hlt.2) (by omega) T).mono ?_
    rintro e w2 ⟨rfl, k, b, _⟩
    exact ⟨rfl, ⟨_, k⟩, b⟩
theorem Ond.wrote {K : Nat → Int} {z : Nv} {ky N B xn k nd q bb j : Nat} {C : Nat → List Int} {l : ByteArray} {bk lm m : Nat} {lv : Value} {L : List En} {G F : Nat → Prop} {D : DataW Unit} {w w' : World} {ab : Nat} {t : ByteArray} (h : Ond K z ky N B xn k nd q bb j C l bk lm m lv L G F D w) (kk : Kept (· = ab) w w') (h1 : ¬ alOwn q bb j bk lm lv G ab) (h2 : ab ≠ nd) (h3 : w.cell? ⟨ab, 0, none⟩ = some (.string t)) : Ond K z ky N B xn k nd q bb j C l bk lm m lv L G F D w' := by
  have hT : 1 ≠ ab := fun e => by
    have h4 := h.al.tab.cells 0 (by omega)
    rw [e, h3] at h4
    cases h4
  have hx : xn ≠ ab := fun e => by
    have h4 := h.x
    rw [e, h3] at h4
    cases h4
  have ne : ∀ g, alOwn q bb j bk lm lv G g → ¬ g = ab := fun g hg e => h1 (e ▸ hg)
  have sk := kk.size
  exact ⟨⟨range_kept h.al.node kk h.al.nlt (fun e => h2 e.symm), there_kept h.al.room kk h.al.nlt (fun e => h2 e.symm), Nat.lt_of_lt_of_le h.al.nlt sk, h.al.jat.kept kk (fun g hg => ne g (Or.inl hg)), h.al.book.kept kk (fun g hg => ne g (Or.inr hg)), h.al.ap, h.al.nap, h.al.tab.kept kk hT, h.al.tap⟩, h.r0, h.l0, (kk.cell (a := ⟨xn, 0, none⟩) h.xl hx).trans h.x, Nat.lt_of_lt_of_le h.xl sk, h.xo, h.len, h.base, Nat.le_trans h.bl sk, h.nb⟩
theorem Frk.wrote {K : Nat → Int} {s : ByteArray} {B yn : Nat} {L : List En} {no : Prop} {w w' : World} {ab : Nat} {t : ByteArray} (h : Frk K s B yn L no w) (kk : Kept (· = ab) w w') (hB : ab < B) (h3 : w.cell? ⟨ab, 0, none⟩ = some (.string t)) : Frk K s B yn L no w' := by
  obtain ⟨z, ky, nd, q, bb, j, C, l, bk, lm, m, lv, G, F, D, O, r⟩ := h
  exact ⟨z, ky, nd, q, bb, j, C, l, bk, lm, m, lv, G, F, D, O.wrote kk (fun e => by have := O.base ab e; omega) (by have := O.nb; omega) h3, r⟩
theorem Frk.tab {K : Nat → Int} {s : ByteArray} {B yn : Nat} {L : List En} {no : Prop} {w : World} (h : Frk K s B yn L no w) : Tab K w := by
  obtain ⟨z, ky, nd, q, bb, j, C, l, bk, lm, m, lv, G, F, D, O, r⟩ := h
  exact O.al.tab
theorem leaf_kept {B ab : Nat} {w w' : World} {v : Value} {L : List ByteArray} (h : w.ownsRow B 9 1 v L.length (L.map .string)) (hab : ab < B) (kk : Kept (· = ab) w w') : LeafAt w' v L := by
  rcases h.2 with ⟨rfl, h0⟩ | ⟨g, cap, cur, rfl, _, _, hc, _⟩
  · exact Or.inl ⟨List.eq_nil_of_length_eq_zero h0, none, 0, rfl⟩
  · have hlt := h.lt g rfl
    refine Or.inr ⟨g, 0, cap, rfl, hc, fun j hj => ?_⟩
    rw [Nat.zero_add]
    refine (kk.cell (a := ⟨g, j, none⟩) hlt.2 (fun e => ?_)).trans ?_
    · have : g = ab := e
      omega
    · rw [h.cellAt j (by omega), List.getElem?_map, List.getElem?_eq_getElem hj]; rfl
/-- The place behind one, around the end. -/
theorem next_place (i kx : Nat) (h : kx ≤ i + 1) : ∃ kq : Nat, kq ≤ i + 1 ∧ kx ≠ kq ∧ ((kx : Int) + 1).tmod ((i : Int) + 1 + 1) = (kq : Int) := by
  by_cases e : kx = i + 1
  · refine ⟨0, by omega, by omega, ?_⟩
    rw [show (kx : Int) + 1 = (i : Int) + 1 + 1 by omega, Int.tmod_self]; rfl
  · refine ⟨kx + 1, by omega, by omega, ?_⟩
    rw [Int.tmod_eq_of_lt (by omega) (by omega)]; omega
section
variable {K : Nat → Int} {s : ByteArray} {w : World} {xn da ab i was hs : Nat} {z : Nv} {ky nd q bb j : Nat} {C : Nat → List Int} {l : ByteArray} {bk lm m : Nat} {lv : Value} {L : List En} {G F : Nat → Prop} {D : DataW Unit} {wr wr' : World}
theorem AudI.key (h : AudI K s w xn da ab i was hs z ky nd q bb j C l bk lm m lv L G F D wr) : wr.cell? ⟨ab, 0, none⟩ = some (.string (pubF (sumOf K) s 3)) := h.au.cells 0 _ rfl
theorem AudI.head2 (h : AudI K s w xn da ab i was hs z ky nd q bb j C l bk lm m lv L G F D wr) (hi : hs ≤ i) (hi4 : i < 40) (hk : ky < 8) (hs32 : s.size = 32) :
    Calls Tryz.prog 17 #[.pointer (some ⟨xn, 0, none⟩)] wr fun e w' => ∃ z' C' l', e = .returned (.tuple #[.string (headF K s 3 ky L), .nilIface]) ∧ AudI K s w xn da ab i was (i + 1) z' (ky + 1) nd q bb j C' l' bk lm m lv L G F D w' ∧ z'.he = headF K s 3 ky L :=
  (h.head hi hi4 hk hs32).mono fun e w' ⟨h1, C', l', h2⟩ => ⟨_, C', l', h1, h2, rfl⟩
/-- A check of the trusted head, from any world behind. -/
def Trusts (da : Nat) (W : World) : Prop := ∃ (n : Int) (r : ByteArray), Calls Tryz.prog 21 #[.pointer (some ⟨da, 0, none⟩)] W fun e w' => e = .returned (.tuple #[.int .i64 n, .string r]) ∧ Below W.heap.size W w'
/-- Advance of a head that was turned. -/
theorem AudI.spoil (h : AudI K s w xn da ab i was hs z ky nd q bb j C l bk lm m lv L G F D wr) (t : ByteArray) (pf : List ByteArray) (v : Value) (hi : i < 40) {B : Nat} (ho : wr.ownsRow B 9 1 v pf.length (pf.map .string)) (hab : ab < B) (hpf : pf.length ≤ 1000000000) (ht : t.size = 2278) :
    Calls Tryz.prog 19 #[.pointer (some ⟨da, 0, none⟩), .string t, v] wr fun e w' => ∃ av, e = .returned av ∧
      ((∃ k : Int, (k = 9 ∨ k = 13) ∧ av = .iface 41 (.int .i64 k) ∧ Below w.heap.size wr w' ∧ LeafAt w' v pf ∧ AudI K s w xn da ab i was hs z ky nd q bb j C l bk lm m lv L G F D w') ∨
       (sigOk K (pubF (sumOf K) s 3) 3 (t.extract 0 37) (t.extract 37 t.size) = true ∧ Below w.heap.size wr w' ∧ (av = .nilIface ∨ ∃ k : Int, (k = 10 ∨ k = 14 ∨ k = 15) ∧ av = .iface 41 (.int .i64 k)) ∧ ∀ W, Below w'.heap.size w' W → Trusts da W)) := by
  refine (h.advance t pf v hi (leaf_own ho) hpf).mono ?_
  rintro e w' ⟨rfl, kk, hc⟩
  refine ⟨_, rfl, ?_⟩
  have hlf := leaf_kept ho hab kk
  have hB : Below w.heap.size wr w' := kk.toBelow h.bl.size (fun g hg => by rw [hg]; exact h.apA.2.2.2.2)
  have hdc : w'.cell? ⟨da, 0, none⟩ = some (.pointer (some ⟨ab, 0, none⟩)) := (kk.cell (a := ⟨da, 0, none⟩) h.dl (fun e => h.apA.2.2.2.1 e.symm)).trans h.dc
  have hdl : da < w'.heap.size := Nat.lt_of_lt_of_le h.dl kk.size
  have hT : ∀ (n : Int) (r : ByteArray), AuAt w' ab (pubF (sumOf K) s 3) 3 n r → ∀ W, Below w'.heap.size w' W → Trusts da W := fun n r A W hb => by
    refine ⟨n, r, datrust_any da ab _ W ((hb.cell (p := ⟨da, 0, none⟩) hdl).trans hdc) ((atrust_any ab _ 3 _ _ W (A.fresh hb)).mono ?_)⟩
    rintro e w2 ⟨rfl, b⟩
    exact ⟨⟨_, _, rfl⟩, rfl, b⟩
  by_cases hsg : sigOk K (pubF (sumOf K) s 3) 3 (t.extract 0 37) (t.extract 37 t.size) = true
  · by_cases hdo : hdOk (t.extract 0 37) = true
    · refine Or.inr ⟨hsg, hB, ?_, ?_⟩
      · unfold advE
        rw [if_neg (by rw [ht]; simp), if_neg (by rw [hdo]; simp), if_neg (by rw [hsg]; simp)]
        unfold growV
        split
        · exact Or.inr ⟨10, Or.inl rfl, rfl⟩
        · split
          · exact Or.inr ⟨15, Or.inr (Or.inr rfl), rfl⟩
          · unfold chkV
            split
            · exact Or.inl rfl
            · exact Or.inr ⟨14, Or.inr (Or.inl rfl), rfl⟩
      · rcases hc with ⟨_, A⟩ | ⟨_, A⟩
        · exact hT _ _ A
        · exact hT _ _ A.au
    · have e9 : advE K (pubF (sumOf K) s 3) 3 was (rootF (sumOf K) ((evs K L).take was)) t pf = E9 := by
        unfold advE
        rw [if_neg (by rw [ht]; simp), if_pos (by simpa using hdo)]
      rcases hc with ⟨hn, _⟩ | ⟨_, A⟩
      · rw [e9] at hn; cases hn
      · exact Or.inl ⟨9, Or.inl rfl, e9, hB, hlf, A⟩
  · rcases adv_turned K (pubF (sumOf K) s 3) 3 was (rootF (sumOf K) ((evs K L).take was)) t pf (by rw [ht]) with e9 | e13 | hsg'
    · rcases hc with ⟨hn, _⟩ | ⟨_, A⟩
      · rw [e9] at hn; cases hn
      · exact Or.inl ⟨9, Or.inl rfl, e9, hB, hlf, A⟩
    · rcases hc with ⟨hn, _⟩ | ⟨_, A⟩
      · rw [e13] at hn; cases hn
      · exact Or.inl ⟨13, Or.inr rfl, e13, hB, hlf, A⟩
    · exact absurd hsg' hsg
/-- Advance of the node's own head. -/
theorem AudI.good (h : AudI K s w xn da ab i was hs z ky nd q bb j C l bk lm m lv L G F D wr) (k0 : Nat) (hk0 : k0 < 8) (hwas : was ≤ i) (v : Value) (hi : i < 40) (hl : LeafAt wr v (consF (sumOf K) (evs K L) was)) (hpf : (consF (sumOf K) (evs K L) was).length ≤ 1000000000) :
    Calls Tryz.prog 19 #[.pointer (some ⟨da, 0, none⟩), .string (headF K s 3 k0 L), v] wr fun e w' => e = .returned .nilIface ∧ Kept (· = ab) wr w' ∧ AudI K s w xn da ab i (i + 1) hs z ky nd q bb j C l bk lm m lv L G F D w' := by
  have hlen := h.ond.len
  obtain ⟨g1, g2, g3⟩ := adv_good K s 3 k0 was L (by omega) (by omega) (by omega) (by omega)
  refine (h.advance _ _ v hi hl hpf).mono ?_
  rintro e w' ⟨rfl, kk, hc⟩
  rw [g1] at hc ⊢
  rcases hc with ⟨_, A⟩ | ⟨hn, _⟩
  · rw [g2, g3, hlen] at A
    refine ⟨rfl, kk, h.wrote kk A ?_ (Or.inr (Nat.le_refl _))⟩
    rw [List.take_of_length_le (by rw [h.len]; exact Nat.le_refl _)]
  · exact absurd rfl hn
theorem AudI.consLen (h : AudI K s w xn da ab i was hs z ky nd q bb j C l bk lm m lv L G F D wr) (hi : i < 40) : (consF (sumOf K) (evs K L) was).length ≤ 1000000000 := by
  have hl := h.len
  have hwi := h.wi
  unfold consF
  by_cases h0 : was = 0
  · rw [if_pos h0]; simp
  · rw [if_neg h0]
    have := grownF_len (sumOf K) _ (evs K L) was true rfl (by omega) (by omega)
    omega
/-- The root that a head bears. -/
theorem head_root (K : Nat → Int) (s : ByteArray) (k : Nat) (L : List En) (n : Nat) (hn : L.length = n) (hL : n ≤ 1000) : (headF K s 3 k L).extract 5 37 = rootF (sumOf K) ((evs K L).take n) := by
  obtain ⟨f1, f2, f3⟩ := hdT_facts L.length (rootF (sumOf K) (evs K L)) (by omega) (rootF_size _ (sumOf_size K) _)
  have e2 : ((headF K s 3 k L).extract 0 37).extract 5 37 = rootF (sumOf K) (evs K L) := by rw [headF_msg]; exact f3
  rw [List.take_of_length_le (by rw [evs_len, hn]; exact Nat.le_refl _), ← e2, ByteArray.extract_extract]
  congr 1
/-- Met: an event that is confirmed at another place. -/
theorem AudI.meets (h : AudI K s w xn da ab i was hs z ky nd q bb j C l bk lm m lv L G F D wr) (k k' : Nat) (hk : k ≤ i) (hk' : k' ≤ i) (hne : k ≠ k') (hi : i < 40) (ho : inclOk K (evF K L k) k' (i + 1) (rootF (sumOf K) (evs K L)) (inclF (sumOf K) (evs K L) k) = true) (v v' : Value) (W : World) (hl : LeafAt W v (evs K L)) (hp : LeafAt W v' (inclF (sumOf K) (evs K L) k)) (T : Tab K W) :
    Calls Tryz.prog 26 #[v, .int .i64 (k' : Nat), .string (evF K L k), v'] W fun e w' => e = .returned (.bool true) ∧ Below W.heap.size W w' := by
  have hl1 := h.len
  have hle := inclF_le K (evs K L) k
  obtain ⟨e, _, _, _, h1, _⟩ := h.at k hk
  exact met_any K (evs K L) (inclF (sumOf K) (evs K L) k) (evF K L k) v v' k' W (by omega) (by omega) (by omega) hl hp (evs_small' K L) (by rw [h1, evT_size]; omega) (fun t ht => by rw [inclF_sizes (sumOf K) (sumOf_size K) _ (evs K L) k rfl t ht]; omega) T (h.other k k' hk hk' hne ho)
/-- Forged: a head that was turned, and is taken. -/
theorem forge_any (K : Nat → Int) (s : ByteArray) (k0 : Nat) (L : List En) (t : ByteArray) (q : Nat) (y : Int) (hk0 : k0 < 8) (hs : s.size = 32) (ht : numsOf t = (numsOf (headF K s 3 k0 L)).set q y) (hne : t ≠ headF K s 3 k0 L) (hok : sigOk K (pubF (sumOf K) s 3) 3 (t.extract 0 37) (t.extract 37 t.size) = true) (W : World) (T : Tab K W) :
    Calls Tryz.prog 22 #[.string s, .int .i64 ((3 : Nat) : Int), .string ((headF K s 3 k0 L).extract 0 37), .string (t.extract 0 37), .string (t.extract 37 t.size)] W fun e w' => e = .returned (.bool true) ∧ Below W.heap.size W w' := by
  have hp := sigOk_parts hok
  have h1 := msgF_size K L
  rw [headF_msg]
  exact forged_any K s (msgF K L) (t.extract 0 37) (t.extract 37 t.size) 3 W (by omega) (by omega) (by omega) (by rw [ByteArray.size_extract]; omega) hp.1 hp.2 T (turned_clash K s 3 k0 L t q y (by omega) (by omega) ht hne hok)
/-- What was turned is as long. -/
theorem turned_size {t s : ByteArray} {q : Nat} {y : Int} (h : numsOf t = (numsOf s).set q y) : t.size = s.size := by
  have := congrArg List.length h
  rwa [List.length_set, numsOf_length, numsOf_length] at this
end
end Go.Proofs.YteglimjonofdeaaGreatDoor
namespace Go.Proofs.YteglimjonofdeaaGreatDoor
open Go.ChangeShapes Go.WideShapes Go.ChangeAt Go.RowKit

theorem bytesIntA : Tryz.prog.bytesOf 3 = 8 := by kernel_rfl
/-- A list of numbers as it lies. -/
theorem open_ints {H : Type} {enc : TypeId × Value → H} {W : World} {v : Value} {d : DataW H} {ps : List MemPlace} (hv : ∃ a len cap, v = .slice a len cap) (h : DataW.Trod enc Tryz.prog W 0 (fun _ => true) true 46 v d ps)
    (hw : ∀ n ∈ d.weights Tryz.prog 46, n ≤ reachBytes) :
    ∃ (a : Option Addr) (len cap : Nat) (l : List Int), v = .slice a len cap ∧ len = l.length ∧ (((∃ a cap, v = .slice a 0 cap) ∧ l = []) ∨ ∃ g off cap, v = .slice (some ⟨g, off, none⟩) l.length cap ∧ g < W.heap.size ∧ ∀ i x, l[i]? = some x → W.cell? ⟨g, off + i, none⟩ = some (.int .i64 x)) ∧ len ≤ 140737488355328 ∧ ∀ x ∈ l, -9223372036854775808 ≤ x ∧ x ≤ 9223372036854775807 := by
  obtain ⟨fuel, hf⟩ := h
  obtain ⟨ao, vlen, vcap, rfl⟩ := hv
  have hrb : reachBytes ≤ 140737488355328 := by decide
  rcases Deep.open_slice Tryz.underlying46 hf with ⟨hc, _⟩ | ⟨a, len, cap, m, n, D, Pl, hc, _, hl, hm, hmm, hx, hall⟩
  · simp [Value.cells] at hc
    obtain ⟨rfl, rfl, rfl⟩ := hc
    exact ⟨none, 0, 0, [], rfl, rfl, Or.inl ⟨⟨none, 0, rfl⟩, rfl⟩, by omega, fun o ho => by cases ho⟩
  · simp [Value.cells] at hc
    obtain ⟨rfl, rfl, rfl⟩ := hc
    simp only [Prod.mk.injEq] at hx
    obtain ⟨rfl, _⟩ := hx
    have hlm : vlen ≤ m := by rw [hmm]; simp; exact hl
    have each : ∀ i, i < vlen → ∃ k : Int, W.cell? (a.add i) = some (.int .i64 k) ∧ (-9223372036854775808 ≤ k ∧ k ≤ 9223372036854775807) := by
      intro i hi
      obtain ⟨cs', h1, h2⟩ := hall i (by omega)
      obtain ⟨k, rfl, _, hwf⟩ := DataW.trod_int Tryz.underlying3 h2
      rw [cellsIntA] at h1
      obtain ⟨_, hlen, hcell⟩ := World.cells?_some h1
      have hb := bounds_i64 hwf
      have h0 := hcell 0 (by omega)
      refine ⟨k, ?_, by omega⟩
      rw [Nat.mul_one] at h0
      have h9 : (a.add i).add 0 = a.add i := by simp [Addr.add]
      rw [h9] at h0
      rw [h0]; rfl
    obtain ⟨O, hO⟩ := Deep.choose_lt each
    have hlen : vlen * 8 ≤ reachBytes := by
      have := hw ((vlen + (m - vlen)) * 8) (by
        unfold DataW.weights
        rw [Tryz.underlying46]
        simp only [List.mem_cons, List.length_map, List.length_range, bytesIntA, true_or])
      have h1 : vlen * 8 ≤ (vlen + (m - vlen)) * 8 := Nat.mul_le_mul_right _ (by omega)
      omega
    refine ⟨_, vlen, vcap, (List.range vlen).map O, rfl, by simp, ?_, by omega, ?_⟩
    · by_cases h0 : vlen = 0
      · subst h0
        exact Or.inl ⟨⟨_, _, rfl⟩, rfl⟩
      · have hsp : a.spot = none := by
          have := (hO 0 (by omega)).1
          simp [Addr.add] at this
          exact World.cell?_spot this
        obtain ⟨g, off, sp⟩ := a
        simp only at hsp
        subst hsp
        refine Or.inr ⟨g, off, vcap, by simp, ?_, fun i x hx => ?_⟩
        · have := (hO 0 (by omega)).1
          rw [Addr.add_lit] at this
          exact World.block_lt_of_cell? W _ this
        · have hi : i < vlen := by have := (List.getElem?_eq_some_iff.1 hx).1; simpa using this
          rw [List.getElem?_map, List.getElem?_range hi] at hx
          simp at hx
          subst hx
          have := (hO i hi).1
          rw [Addr.add_lit] at this
          exact this
    · intro o ho
      obtain ⟨i, hi, rfl⟩ := List.mem_map.1 ho
      exact (hO i (List.mem_range.1 hi)).2
end Go.Proofs.YteglimjonofdeaaGreatDoor
