import Derived.Test.YteebdadnfaekmaaDoorTCom
import Derived.Test.YteebdadnfaekmaaDoorWPick
import Derived.Test.YteebdadnfaekmaaDoorRAid
set_option linter.unusedVariables false
set_option linter.unusedSimpArgs false
namespace Go.Proofs.YteebdadnfaekmaaDoor
open Go.RowKit

set_option maxRecDepth 100000 in
theorem xor_turns : ∀ (x : Fin 256) (r : Fin 8), bits .xor .u8 (x.val : Int) ((2 ^ r.val : Nat) : Int) ≠ (x.val : Int) ∧ 0 ≤ bits .xor .u8 (x.val : Int) ((2 ^ r.val : Nat) : Int) ∧ bits .xor .u8 (x.val : Int) ((2 ^ r.val : Nat) : Int) < 256 := by decide +kernel

set_option maxHeartbeats 400000 in
theorem pick_fix (c n : Int) (h0 : -9223372036854775808 ≤ c) (h1 : c ≤ 9223372036854775807) (hn : 0 < n) (hn1 : n ≤ 4294967296) :
    ∃ r : Nat, (r : Int) < n ∧ ∀ w, Calls Tryd.prog 7 #[.int .i64 c, .int .i64 n] w fun e w' => e = .returned (.int .i64 r) ∧ w' = w := by
  by_cases hc : c < 0
  · have e1 : 0 ≤ -((c + 1).tmod n) := by rw [← Int.neg_tmod, Int.tmod_eq_emod_of_nonneg (by omega)]; exact Int.emod_nonneg _ (by omega)
    have e2 : -((c + 1).tmod n) < n := by rw [← Int.neg_tmod, Int.tmod_eq_emod_of_nonneg (by omega)]; exact Int.emod_lt_of_pos _ hn
    refine ⟨(-((c + 1).tmod n)).toNat, by omega, fun w => ?_⟩
    have HE : Hid (((-((c + 1).tmod n)).toNat : Int) = -((c + 1).tmod n)) := by show _ = _; omega
    clear e1 e2
    generalize (-((c + 1).tmod n)).toNat = r at *
    go_enter Tryd.func7, Tryd.ntmps7
    go_wp2
    go_ret
    exact ⟨by show Ending.returned (Value.int .i64 (-((c + 1).tmod n))) = Ending.returned (Value.int .i64 (r : Int)); rw [HE.out], rfl⟩
  · have e1 : 0 ≤ c % n := Int.emod_nonneg _ (by omega)
    have e2 : c % n < n := Int.emod_lt_of_pos _ hn
    refine ⟨(c % n).toNat, by omega, fun w => ?_⟩
    have HE : Hid (((c % n).toNat : Int) = c % n) := by show _ = _; omega
    clear e1 e2
    generalize (c % n).toNat = r at *
    go_enter Tryd.func7, Tryd.ntmps7
    go_wp2
    go_ret
    exact ⟨by show Ending.returned (Value.int .i64 (c % n)) = Ending.returned (Value.int .i64 (r : Int)); rw [HE.out], rfl⟩
theorem pick_ex (c n : Int) (h0 : -9223372036854775808 ≤ c) (h1 : c ≤ 9223372036854775807) (hn : 0 < n) (hn1 : n ≤ 4294967296) (w : World) :
    Calls Tryd.prog 7 #[.int .i64 c, .int .i64 n] w fun e w' => ∃ r : Nat, e = .returned (.int .i64 r) ∧ (r : Int) < n ∧ w' = w :=
  (pick_any c n w h0 h1 hn hn1).mono fun e w' ⟨r, h2, h3, h4, h5⟩ => ⟨r.toNat, by rw [h2]; congr 2; omega, by omega, h5⟩

theorem buf_set' {B : Nat} {w : World} {g n cap : Nat} {xs : List Int} (h : BufAt B w g n cap xs) (q : Nat) (hq : q < n) (v : Int) : BufAt B (w.setCell ⟨g, q, none⟩ (.int .u8 v)) g n cap (xs.set q v) := by
  refine ⟨by rw [List.length_set]; exact h.len, fun j u hu => ?_, World.there_setCells h.room g q [_], h.le, h.lo, by simpa using h.hi⟩
  rw [Nat.zero_add]
  have hc : ∃ u', w.cell? ⟨g, q, none⟩ = some u' := by
    have := (h.room q (Nat.lt_of_lt_of_le hq h.le)).1
    rw [Nat.zero_add] at this
    exact Option.isSome_iff_exists.1 this
  obtain ⟨u', hc⟩ := hc
  rw [bytesV, List.getElem?_map, List.getElem?_set] at hu
  by_cases hj : q = j
  · subst hj
    rw [World.cell?_setCell_same _ _ _ hc]
    rw [if_pos rfl, if_pos (by rw [h.len]; exact hq)] at hu
    simpa using hu
  · rw [World.cell?_setCell_other (w := w) (a := ⟨g, q, none⟩) (b := ⟨g, j, none⟩) _ (by intro e; exact hj (congrArg Addr.off e))]
    rw [if_neg hj] at hu
    have := h.cells j u (by rw [bytesV, List.getElem?_map]; exact hu)
    rwa [Nat.zero_add] at this

set_option maxRecDepth 10000 in
set_option maxHeartbeats 1000000 in
/-- turned: another byte, at one place. -/
theorem turned_one (s : ByteArray) (at' : Int) (hs0 : 0 < s.size) (hs : s.size ≤ 100000) (h0 : -9223372036854775808 ≤ at') (h1 : at' ≤ 9223372036854775807) :
    ∃ (q : Nat) (y : Int), Hid (numsOf (strOfNums ((numsOf s).set q y)) = (numsOf s).set q y ∧ strOfNums ((numsOf s).set q y) ≠ s) ∧ ∀ w, Calls Tryd.prog 16 #[.string s, .int .i64 at'] w fun e w' => e = .returned (.string (strOfNums ((numsOf s).set q y))) ∧ Below w.heap.size w w' := by
  obtain ⟨k, hk, hpick⟩ := pick_fix at' (8 * (s.size : Int)) h0 h1 (by omega) (by omega)
  have hr : k % 8 < 8 := by omega
  have ha : k / 8 < s.size := by omega
  have hal : k / 8 < s.data.toList.length := by rw [← Lib.size_eq]; exact ha
  obtain ⟨x, hx⟩ : ∃ x : Nat, x = (s.data.toList[k / 8]'hal).toNat := ⟨_, rfl⟩
  have hx8 : x < 256 := by rw [hx]; exact UInt8.toNat_lt _
  have hna : (numsOf s)[k / 8]? = some (x : Int) := by unfold numsOf; rw [List.getElem?_map, List.getElem?_eq_getElem hal, hx]; rfl
  have hxt := xor_turns ⟨x, hx8⟩ ⟨k % 8, hr⟩
  have HX : Hid (bits .xor .u8 (x : Int) ((2 ^ (k % 8) : Nat) : Int) ≠ (x : Int) ∧ 0 ≤ bits .xor .u8 (x : Int) ((2 ^ (k % 8) : Nat) : Int) ∧ bits .xor .u8 (x : Int) ((2 ^ (k % 8) : Nat) : Int) < 256) := hxt
  have k8 : (k : Int) < 8 * (s.size : Int) := by omega
  have k9 : k < 8 * s.size := by omega
  have HNA : Hid ((numsOf s)[k / 8]? = some (x : Int)) := hna
  have e2 : ((2 : Int) ^ (k % 8) % 256) = ((2 ^ (k % 8) : Nat) : Int) := by
    rw [show ((2 ^ (k % 8) : Nat) : Int) = (2 : Int) ^ (k % 8) by simp]
    apply Int.emod_eq_of_lt
    · exact Int.pow_nonneg (by omega)
    · have : (2 : Nat) ^ (k % 8) < 2 ^ 8 := Nat.pow_lt_pow_right (by omega) hr
      have h3 : ((2 ^ (k % 8) : Nat) : Int) < 256 := by omega
      simpa using h3
  have HE2 : Hid (((2 : Int) ^ (k % 8) % 256) = ((2 ^ (k % 8) : Nat) : Int)) := e2
  clear hxt hx hna e2
  obtain ⟨y, hy⟩ : ∃ y, y = bits .xor .u8 (x : Int) ((2 : Int) ^ (k % 8) % 256) := ⟨_, rfl⟩
  have hyx : Hid (y ≠ (x : Int) ∧ 0 ≤ y ∧ y < 256) := by
    show y ≠ (x : Int) ∧ 0 ≤ y ∧ y < 256
    rw [hy, HE2.out]; exact HX.out
  have HY : Hid (y = bits .xor .u8 (x : Int) ((2 : Int) ^ (k % 8) % 256)) := hy
  clear hy
  have hrg : ∀ z ∈ (numsOf s).set (k / 8) y, 0 ≤ z ∧ z < 256 := fun z hz => by
    rcases List.mem_or_eq_of_mem_set hz with hz | rfl
    · exact nums_range s z hz
    · exact hyx.out.2
  have h5 := nums_str _ hrg
  have H5 : Hid (numsOf (strOfNums ((numsOf s).set (k / 8) y)) = (numsOf s).set (k / 8) y) := h5
  clear h5 hrg
  refine ⟨k / 8, y, ⟨H5.out, ?_⟩, fun w => ?_⟩
  · intro e
    have h5 := H5.out
    rw [e] at h5
    have h6 : (numsOf s)[k / 8]? = some y := by
      rw [h5, List.getElem?_set_self (by rw [numsOf_length]; exact ha)]
    rw [HNA.out] at h6
    exact hyx.out.1 (Option.some.inj h6).symm
  clear H5
  go_enter Tryd.func16, Tryd.ntmps16
  go_wp2_with (refine wpList_conv_buf rfl _ rfl s rfl ?_; intro w1 g cap hbuf hb1)
  refine (hpick _).mono ?_
  rintro e w1' ⟨hke, hw⟩
  subst hke
  obtain rfl : w1 = w1' := hw.symm
  clear hw hpick
  have hcx : w1.cell? ⟨g, k / 8, none⟩ = some (.int .u8 (x : Int)) := by
    have := hbuf.cells (k / 8) (.int .u8 (x : Int)) (by unfold bytesV; rw [List.getElem?_map, HNA.out]; rfl)
    rwa [Nat.zero_add] at this
  have hfx : w1.frozen? ⟨g, k / 8, none⟩ = false := by
    have := (hbuf.room (k / 8) (Nat.lt_of_lt_of_le ha hbuf.le)).2
    rwa [Nat.zero_add] at this
  go_wp2_with fail
  go_region
  rw [← HY.out]
  have hb2 := buf_set' hbuf (k / 8) ha y
  have hb3 := hb2.below (Below.refl _ _).drew hb2.hi
  have hB : Below w.heap.size w (w1.setCell ⟨g, k / 8, none⟩ (.int .u8 y)).drew := (hb1.setCell (p := ⟨g, k / 8, none⟩) hbuf.lo _).drew
  generalize (w1.setCell ⟨g, k / 8, none⟩ (.int .u8 y)).drew = w2 at *
  have hcv := convert_range (cap := cap) s.size hb3.len hb3.cells
  clear hb2 hcx hfx
  go_wp2_with fail
  go_ret
  exact ⟨rfl, hB⟩
/-- turned: another text, as long. -/
theorem turned_fix (s : ByteArray) (at' : Int) (hs0 : 0 < s.size) (hs : s.size ≤ 100000) (h0 : -9223372036854775808 ≤ at') (h1 : at' ≤ 9223372036854775807) :
    ∃ s' : ByteArray, Hid (s'.size = s.size ∧ s' ≠ s) ∧ ∀ w, Calls Tryd.prog 16 #[.string s, .int .i64 at'] w fun e w' => e = .returned (.string s') ∧ Below w.heap.size w w' := by
  obtain ⟨q, y, h2, h3⟩ := turned_one s at' hs0 hs h0 h1
  exact ⟨_, ⟨by rw [strOfNums_size, List.length_set, numsOf_length], h2.out.2⟩, h3⟩
theorem turned_other (s : ByteArray) (at' : Int) (w : World) (hs0 : 0 < s.size) (hs : s.size ≤ 100000) (h0 : -9223372036854775808 ≤ at') (h1 : at' ≤ 9223372036854775807) :
    Calls Tryd.prog 16 #[.string s, .int .i64 at'] w fun e w' => ∃ s' : ByteArray, e = .returned (.string s') ∧ Hid (s'.size = s.size ∧ s' ≠ s) ∧ Below w.heap.size w w' := by
  obtain ⟨s', h2, h3⟩ := turned_fix s at' hs0 hs h0 h1
  exact (h3 w).mono fun e w' ⟨h4, h5⟩ => ⟨s', h4, h2, h5⟩

set_option maxRecDepth 100000 in
set_option maxHeartbeats 1000000 in
/-- leaves: n short texts. -/
theorem leaves_any (c : Int) (n : Nat) (w : World) (hn : n ≤ 1000) (h0 : -9223372036854775808 ≤ c) (h1 : c ≤ 9223372036854775807) :
    Calls Tryd.prog 12 #[.int .i64 c, .int .i64 n] w fun e w' => ∃ (ls : List ByteArray) (ao : Option Addr) (cap : Nat), e = .returned (.slice ao n cap) ∧ Hid (ls.length = n ∧ (∀ s ∈ ls, s.size ≤ 14) ∧ w'.ownsRow w.heap.size 9 1 (.slice ao n cap) n (ls.map .string)) ∧ Below w.heap.size w w' := by
  obtain ⟨i0, hi, hz, hsz, hby⟩ := info_strT
  go_enter Tryd.func12, Tryd.ntmps12
  go_wp2_with fail
  refine (pick_ex c 2147483648 h0 h1 (by omega) (by omega) w).mono ?_
  rintro e w0 ⟨v0, hve, hv0, hw⟩
  subst hve
  obtain rfl : w = w0 := hw.symm
  clear hw
  go_wp2_with fail
  go_loopw [5, 6, 7] (fun v l i wr => ∃ (q x : Nat) (ls : List ByteArray) (ao : Option Addr) (cap : Nat), q ≤ n ∧ i = .int .i64 q ∧ v = .int .i64 x ∧ x < 2147483648 ∧ l = .slice ao q cap ∧ Hid (ls.length = q ∧ (∀ s ∈ ls, s.size ≤ 14) ∧ wr.ownsRow w.heap.size 9 1 (.slice ao q cap) q (ls.map .string)) ∧ Below w.heap.size w wr) (fun _ _ i _ => n - (intOf i).toNat)
  case atStart => exact ⟨0, v0, [], none, 0, by omega, rfl, rfl, by omega, rfl, ⟨rfl, (fun s h => by cases h), World.ownsRow_nil _ _ _ _⟩, Below.refl _ _⟩
  case round =>
    obtain ⟨q, x, ls, ao, cap, hq, rfl, rfl, hx, rfl, hls, hB⟩ := hrel
    by_cases hlt : q < n
    · have q1 : (q : Int) < (n : Int) := by omega
      obtain ⟨y, hy⟩ : ∃ y : Nat, y = (x * 1103515245 + 12345) % 2147483648 := ⟨_, rfl⟩
      have hy1 : y < 2147483648 := by omega
      have ey : ((x : Int) * 1103515245 + 12345) % 2147483648 = (y : Int) := by omega
      clear hy
      obtain ⟨t, ht, hts⟩ : ∃ t : ByteArray, t = (⟨#[108, 101, 97, 102, 48, 49, 50, 51, 52, 53, 54, 55, 56, 57]⟩ : ByteArray).extract 0 (y / 64 % 12 + 2) ∧ Hid (t.size ≤ 14) := ⟨_, rfl, by show _ ≤ 14; simp; exact Nat.min_le_right _ _⟩
      have ho4 : (wr.alloc (.cells #[.string t] 9)).ownsRow w.heap.size 9 1 (.slice ao q cap) q (ls.map .string) := hls.out.2.2.alloc _
      have hnews : ∀ j u, [Value.string t][j]? = some u → (wr.alloc (.cells #[.string t] 9)).cell? ((⟨wr.heap.size, 0, none⟩ : Addr).add j) = some u := World.news_of_block (heap_alloc_new wr (.cells #[.string t] 9))
      have hBs := hB.size
      rw [ht] at ho4 hnews
      have HT : Hid (t = (⟨#[108, 101, 97, 102, 48, 49, 50, 51, 52, 53, 54, 55, 56, 57]⟩ : ByteArray).extract 0 (y / 64 % 12 + 2)) := ht
      have HOL : Hid (∀ k, (Value.slice ao q cap).ownBlock = some k → w.heap.size ≤ k) := fun k hk => (hls.out.2.2.lt k hk).1
      clear ht
      go_wp2_with (first | (refine wpList_append_lies _ rfl _ _ 37 rfl w.heap.size 9 i0 _ 1 16 Tryd.underlying37 hi hz hsz hby rfl (by decide) (.slice ao q cap) q _ rfl ho4 ⟨wr.heap.size, 0, none⟩ 1 1 [_] rfl rfl hnews (by simp [Value.oneCell']) (by decide) (by unfold maxLen; omega) (by omega) (by simp; omega) _ rfl ?_; intro g2 cap2 w2 ho2 hgr2 hat2 hlt2))
      refine ⟨⟨q + 1, y, ls ++ [t], some ⟨g2, 0, none⟩, cap2, by omega, by go_num, by go_num, hy1, rfl, ⟨by simp [hls.out.1], ?_, ?_⟩, ?_⟩, ?_⟩
      · intro s hs
        rcases List.mem_append.1 hs with h | h
        · exact hls.out.2.1 s h
        · simp at h; rw [h]; exact hts.out
      · rw [HT.out]; simpa using ho2
      · exact hB.trans (((Below.refl _ _).alloc hBs _).trans ((Below.refl _ _).grown hgr2 (by simp; omega) HOL.out))
      · simp [intOf]; omega
    · have q1 : ¬ (q : Int) < (n : Int) := by omega
      obtain rfl : q = n := by omega
      go_wp2_with fail
      go_ret
      exact ⟨ls, ao, cap, rfl, hls, hB⟩
end Go.Proofs.YteebdadnfaekmaaDoor
