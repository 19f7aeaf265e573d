import Derived.Test.YtijdnpoenpjnlaaGreatDoorPPubM
import Derived.Test.YtijdnpoenpjnlaaGreatDoorTPathM
import Derived.Test.YtijdnpoenpjnlaaGreatDoorROwner3
set_option linter.unusedVariables false
set_option linter.unusedSimpArgs false
namespace Go.Proofs.YtijdnpoenpjnlaaGreatDoor
open Go.RowKit

set_option maxRecDepth 10000 in
set_option maxHeartbeats 400000 in
theorem rchained_any (x : ByteArray) (n : Nat) (w : World) (hx : x.size = 32) (hn : n ≤ 15) :
    Calls Tryz.prog 130 #[.string x, .int .i64 n] w (strPost (stepF HR x n) w) := by
  have HX : Hid (x.size = 32) := hx
  clear hx
  go_enter Tryz.func130, Tryz.ntmps130
  go_wp2_with fail
  go_loopw [0, 5] (fun v i wr => ∃ j : Nat, v = .string (stepF HR x j) ∧ i = .int .i64 j ∧ j ≤ n ∧ Below w.heap.size w wr) (fun _ i _ => n - (intOf i).toNat)
  case atStart => exact ⟨0, rfl, rfl, Nat.zero_le _, Below.refl _ _⟩
  case round =>
    obtain ⟨j, rfl, rfl, hj, hB⟩ := hrel
    by_cases hlt : j < n
    · have j1 : (j : Int) < (n : Int) := by omega
      have y32 : (stepF HR x j).size = 32 := stepF_size HR HR_size x HX.out j
      have hs := rsum (⟨#[2]⟩ ++ stepF HR x j) wr (by rw [ByteArray.size_append, y32]; show 1 + 32 ≤ _; omega)
      rw [show HR (⟨#[2]⟩ ++ stepF HR x j) = stepF HR x (j + 1) from rfl] at hs
      obtain ⟨z, hz⟩ : ∃ z, z = stepF HR x (j + 1) := ⟨_, rfl⟩
      rw [← hz] at hs
      have HZ : Hid (z = stepF HR x (j + 1)) := hz
      clear hz
      generalize stepF HR x j = y at *
      go_wp2_with fail
      refine hs.mono ?_
      rintro e w1 ⟨rfl, hb1⟩
      clear hs
      go_wp2_with fail
      refine ⟨⟨j + 1, by rw [HZ.out], by go_num, by omega, hB.trans (hb1.mono hB.size)⟩, ?_⟩
      simp [intOf]; omega
    · have j1 : ¬ (j : Int) < (n : Int) := by omega
      obtain rfl : j = n := by omega
      generalize stepF HR x j = y at *
      go_wp2_with fail
      go_ret
      exact ⟨rfl, hB⟩

set_option maxRecDepth 10000 in
set_option maxHeartbeats 400000 in
theorem rbegin_any (seed : ByteArray) (k c : Nat) (w : World) (hs : seed.size ≤ 100000) :
    Calls Tryz.prog 129 #[.string seed, .int .i64 k, .int .i64 c] w (strPost (beginF HR seed k c) w) := by
  have hcv := convert_range (w := w.alloc (.cells #[.int .u8 ((k : Int) % 256), .int .u8 ((c : Int) % 256)] 5)) (b := w.heap.size) (cap := 2) (ns := [(k : Int) % 256, (c : Int) % 256]) 2 rfl (range_new w (bytesV [(k : Int) % 256, (c : Int) % 256]) 5)
  rw [show strOfNums [(k : Int) % 256, (c : Int) % 256] = two k c from rfl] at hcv
  have hsm := rsum (⟨#[75]⟩ ++ seed ++ two k c) (w.alloc (.cells #[.int .u8 ((k : Int) % 256), .int .u8 ((c : Int) % 256)] 5)) (by rw [ByteArray.size_append, ByteArray.size_append, two_size]; show 1 + _ + _ ≤ _; omega)
  rw [show HR (⟨#[75]⟩ ++ seed ++ two k c) = beginF HR seed k c from rfl] at hsm
  have htw := two_size k c
  generalize beginF HR seed k c = h at *
  generalize two k c = tw at *
  have hb0 : Below w.heap.size w (w.alloc (.cells #[.int .u8 ((k : Int) % 256), .int .u8 ((c : Int) % 256)] 5)) := (Below.refl _ _).alloc (Nat.le_refl _) _
  go_enter Tryz.func129, Tryz.ntmps129
  go_wp2_with fail
  refine hsm.mono ?_
  rintro e w1 ⟨rfl, hb1⟩
  clear hsm
  go_wp2_with fail
  go_ret
  exact ⟨rfl, hb0.trans (hb1.mono (by simp))⟩

end Go.Proofs.YtijdnpoenpjnlaaGreatDoor
set_option linter.unusedVariables false
set_option linter.unusedSimpArgs false
namespace Go.Proofs.YtijdnpoenpjnlaaGreatDoor
open Go.RowKit

theorem leavesF_snoc (H : ByteArray → ByteArray) (seed : ByteArray) (k : Nat) : leavesF H seed (k + 1) = leavesF H seed k ++ [leafF H seed k] := by
  unfold leavesF; rw [List.range_succ, List.map_append]; rfl
theorem chains_HR_size (seed : ByteArray) (k c : Nat) : (chainsT HR (beginF HR seed k) (fun _ => 15) c).size = 32 * c := chainsT_size HR HR_size _ _ (fun c => HR_size _) c
def keysPost (seed : ByteArray) (N : Nat) (w : World) (e : Ending) (w' : World) : Prop := ∃ ao cap, e = .returned (.slice ao N cap) ∧ w'.ownsRow w.heap.size 9 1 (.slice ao N cap) N ((leavesF HR seed N).map .string) ∧ Below w.heap.size w w'

set_option maxRecDepth 10000 in
set_option maxHeartbeats 2000000 in
theorem rkeys_0 (seed : ByteArray) (w : World) (hs : seed.size ≤ 100000) : Calls Tryz.prog 126 #[.string seed, .int .i64 0] w (keysPost seed 1 w) := by
  obtain ⟨i0, hi, hz, hsz, hby⟩ := info_strT
  have HBG : Hid (∀ (k c : Nat) W, Calls Tryz.prog 129 #[.string seed, .int .i64 k, .int .i64 c] W (strPost (beginF HR seed k c) W)) := fun k c W => rbegin_any seed k c W hs
  have HCH : Hid (∀ (k c : Nat) W, Calls Tryz.prog 130 #[.string (beginF HR seed k c), .int .i64 15] W (strPost (stepF HR (beginF HR seed k c) 15) W)) := fun k c W => rchained_any _ 15 W (HR_size _) (Nat.le_refl _)
  have HOWN : Hid (w.ownsRow w.heap.size 9 1 (.slice none 0 0) 0 []) := World.ownsRow_nil _ _ _ _
  go_enter Tryz.func126, Tryz.ntmps126
  go_wp2_with fail
  go_loopw [5, 6] (fun v i wr => ∃ (k : Nat) (u : Value), u = v ∧ k ≤ 1 ∧ i = .int .i64 k ∧ Hid (wr.ownsRow w.heap.size 9 1 u k ((leavesF HR seed k).map .string) ∧ Below w.heap.size w wr)) (fun _ i _ => 1 - (intOf i).toNat)
  case atStart => exact ⟨0, _, rfl, by omega, rfl, HOWN.out, Below.refl _ _⟩
  case round =>
    obtain ⟨k, v, hvu, hk, rfl, hI⟩ := hrel
    subst hvu
    by_cases hlt : k < 1
    · have k1 : (k : Int) < 1 := by omega
      have HB0 : Hid (Below w.heap.size w wr) := hI.out.2
      go_wp2_with fail
      go_loopw [7, 8] (fun t i w2 => ∃ (c : Nat), c ≤ 67 ∧ t = .string (chainsT HR (beginF HR seed k) (fun _ => 15) c) ∧ i = .int .i64 c ∧ Hid (Below wr.heap.size wr w2)) (fun _ i _ => 67 - (intOf i).toNat)
      case atStart => exact ⟨0, by omega, rfl, rfl, Below.refl _ _⟩
      case round =>
        rename_i wk _ _ _
        obtain ⟨c, hc, rfl, rfl, hJ⟩ := hrel
        by_cases hlt2 : c < 67
        · have c1 : (c : Int) < 67 := by omega
          have hbg := HBG.out k c wr
          have hch := HCH.out k c
          have s1 := chains_HR_size seed k c
          have s2 : (stepF HR (beginF HR seed k c) 15).size = 32 := stepF_size HR HR_size _ (HR_size _) 15
          have HE : Hid (chainsT HR (beginF HR seed k) (fun _ => 15) c ++ stepF HR (beginF HR seed k c) 15 = chainsT HR (beginF HR seed k) (fun _ => 15) (c + 1)) := rfl
          generalize stepF HR (beginF HR seed k c) 15 = y at *
          generalize beginF HR seed k c = x at *
          generalize chainsT HR (beginF HR seed k) (fun _ => 15) c = s at *
          go_wp2_with fail
          refine hbg.mono ?_
          rintro e w3 ⟨rfl, hb3⟩
          clear hbg
          go_wp2_with fail
          refine (hch w3).mono ?_
          rintro e w4 ⟨rfl, hb4⟩
          clear hch
          go_wp2_with fail
          refine ⟨⟨c + 1, by omega, by rw [HE.out], by go_num, ?_⟩, ?_⟩
          · exact (hJ.out.trans (hb3.mono hJ.out.size)).trans (hb4.mono (Nat.le_trans hJ.out.size hb3.size))
          · simp [intOf]; omega
        · obtain rfl : c = 67 := by omega
          have HS : Hid (leavesF HR seed (k + 1) = leavesF HR seed k ++ [chainsT HR (beginF HR seed k) (fun _ => 15) 67]) := leavesF_snoc HR seed k
          generalize chainsT HR (beginF HR seed k) (fun _ => 15) 67 = s at *
          have hB2 : Below w.heap.size w wr := HB0.out.trans (hJ.out.mono HB0.out.size)
          have ho2 : (wr.alloc (.cells #[.string s] 9)).ownsRow w.heap.size 9 1 v k ((leavesF HR seed k).map .string) := own_below' (own_below' hI.out.1 hJ.out) ((Below.refl _ _).alloc (Nat.le_refl _) _)
          have hnews : ∀ j u, ([.string s] : List Value)[j]? = some u → (wr.alloc (.cells #[.string s] 9)).cell? ((⟨wr.heap.size, 0, none⟩ : Addr).add j) = some u := fun j u hu => by
            rw [Addr.add_mid, World.cell?_alloc_at _ _ _ _ rfl]
            simpa using hu
          have hs2 : w.heap.size ≤ (wr.alloc (.cells #[.string s] 9)).heap.size := by have := hB2.size; simp; omega
          go_wp2_with (refine wpList_append_lies _ rfl _ _ 30 rfl w.heap.size 9 i0 _ 1 16 Tryz.underlying30 hi hz hsz hby rfl (by decide) v k _ rfl ho2 ⟨wr.heap.size, 0, none⟩ 1 1 [.string s] rfl rfl hnews (by simp [Value.oneCell']) (by decide) (by unfold maxLen; omega) (by omega) hs2 _ rfl ?_; intro g5 cap5 w5 ho5 hgr5 hat5 hlt5)
          refine ⟨⟨k + 1, _, rfl, by omega, by go_num, ?_, ?_⟩, ?_⟩
          · rw [HS.out, List.map_append]; exact ho5
          · exact (hB2.alloc hB2.size _).trans ((Below.refl _ _).grown hgr5 hs2 (fun g e => (ho2.lt g e).1))
          · simp [intOf]; omega
    · obtain rfl : k = 1 := by omega
      obtain ⟨ao, cap, rfl⟩ := own_form hI.out.1
      go_wp2_with fail
      go_ret
      exact ⟨ao, cap, rfl, hI.out.1, hI.out.2⟩

set_option maxRecDepth 10000 in
set_option maxHeartbeats 2000000 in
theorem rkeys_1 (seed : ByteArray) (w : World) (hs : seed.size ≤ 100000) : Calls Tryz.prog 126 #[.string seed, .int .i64 1] w (keysPost seed 2 w) := by
  obtain ⟨i0, hi, hz, hsz, hby⟩ := info_strT
  have HBG : Hid (∀ (k c : Nat) W, Calls Tryz.prog 129 #[.string seed, .int .i64 k, .int .i64 c] W (strPost (beginF HR seed k c) W)) := fun k c W => rbegin_any seed k c W hs
  have HCH : Hid (∀ (k c : Nat) W, Calls Tryz.prog 130 #[.string (beginF HR seed k c), .int .i64 15] W (strPost (stepF HR (beginF HR seed k c) 15) W)) := fun k c W => rchained_any _ 15 W (HR_size _) (Nat.le_refl _)
  have HOWN : Hid (w.ownsRow w.heap.size 9 1 (.slice none 0 0) 0 []) := World.ownsRow_nil _ _ _ _
  go_enter Tryz.func126, Tryz.ntmps126
  go_wp2_with fail
  go_loopw [5, 6] (fun v i wr => ∃ (k : Nat) (u : Value), u = v ∧ k ≤ 2 ∧ i = .int .i64 k ∧ Hid (wr.ownsRow w.heap.size 9 1 u k ((leavesF HR seed k).map .string) ∧ Below w.heap.size w wr)) (fun _ i _ => 2 - (intOf i).toNat)
  case atStart => exact ⟨0, _, rfl, by omega, rfl, HOWN.out, Below.refl _ _⟩
  case round =>
    obtain ⟨k, v, hvu, hk, rfl, hI⟩ := hrel
    subst hvu
    by_cases hlt : k < 2
    · have k1 : (k : Int) < 2 := by omega
      have HB0 : Hid (Below w.heap.size w wr) := hI.out.2
      go_wp2_with fail
      go_loopw [7, 8] (fun t i w2 => ∃ (c : Nat), c ≤ 67 ∧ t = .string (chainsT HR (beginF HR seed k) (fun _ => 15) c) ∧ i = .int .i64 c ∧ Hid (Below wr.heap.size wr w2)) (fun _ i _ => 67 - (intOf i).toNat)
      case atStart => exact ⟨0, by omega, rfl, rfl, Below.refl _ _⟩
      case round =>
        rename_i wk _ _ _
        obtain ⟨c, hc, rfl, rfl, hJ⟩ := hrel
        by_cases hlt2 : c < 67
        · have c1 : (c : Int) < 67 := by omega
          have hbg := HBG.out k c wr
          have hch := HCH.out k c
          have s1 := chains_HR_size seed k c
          have s2 : (stepF HR (beginF HR seed k c) 15).size = 32 := stepF_size HR HR_size _ (HR_size _) 15
          have HE : Hid (chainsT HR (beginF HR seed k) (fun _ => 15) c ++ stepF HR (beginF HR seed k c) 15 = chainsT HR (beginF HR seed k) (fun _ => 15) (c + 1)) := rfl
          generalize stepF HR (beginF HR seed k c) 15 = y at *
          generalize beginF HR seed k c = x at *
          generalize chainsT HR (beginF HR seed k) (fun _ => 15) c = s at *
          go_wp2_with fail
          refine hbg.mono ?_
          rintro e w3 ⟨rfl, hb3⟩
          clear hbg
          go_wp2_with fail
          refine (hch w3).mono ?_
          rintro e w4 ⟨rfl, hb4⟩
          clear hch
          go_wp2_with fail
          refine ⟨⟨c + 1, by omega, by rw [HE.out], by go_num, ?_⟩, ?_⟩
          · exact (hJ.out.trans (hb3.mono hJ.out.size)).trans (hb4.mono (Nat.le_trans hJ.out.size hb3.size))
          · simp [intOf]; omega
        · obtain rfl : c = 67 := by omega
          have HS : Hid (leavesF HR seed (k + 1) = leavesF HR seed k ++ [chainsT HR (beginF HR seed k) (fun _ => 15) 67]) := leavesF_snoc HR seed k
          generalize chainsT HR (beginF HR seed k) (fun _ => 15) 67 = s at *
          have hB2 : Below w.heap.size w wr := HB0.out.trans (hJ.out.mono HB0.out.size)
          have ho2 : (wr.alloc (.cells #[.string s] 9)).ownsRow w.heap.size 9 1 v k ((leavesF HR seed k).map .string) := own_below' (own_below' hI.out.1 hJ.out) ((Below.refl _ _).alloc (Nat.le_refl _) _)
          have hnews : ∀ j u, ([.string s] : List Value)[j]? = some u → (wr.alloc (.cells #[.string s] 9)).cell? ((⟨wr.heap.size, 0, none⟩ : Addr).add j) = some u := fun j u hu => by
            rw [Addr.add_mid, World.cell?_alloc_at _ _ _ _ rfl]
            simpa using hu
          have hs2 : w.heap.size ≤ (wr.alloc (.cells #[.string s] 9)).heap.size := by have := hB2.size; simp; omega
          go_wp2_with (refine wpList_append_lies _ rfl _ _ 30 rfl w.heap.size 9 i0 _ 1 16 Tryz.underlying30 hi hz hsz hby rfl (by decide) v k _ rfl ho2 ⟨wr.heap.size, 0, none⟩ 1 1 [.string s] rfl rfl hnews (by simp [Value.oneCell']) (by decide) (by unfold maxLen; omega) (by omega) hs2 _ rfl ?_; intro g5 cap5 w5 ho5 hgr5 hat5 hlt5)
          refine ⟨⟨k + 1, _, rfl, by omega, by go_num, ?_, ?_⟩, ?_⟩
          · rw [HS.out, List.map_append]; exact ho5
          · exact (hB2.alloc hB2.size _).trans ((Below.refl _ _).grown hgr5 hs2 (fun g e => (ho2.lt g e).1))
          · simp [intOf]; omega
    · obtain rfl : k = 2 := by omega
      obtain ⟨ao, cap, rfl⟩ := own_form hI.out.1
      go_wp2_with fail
      go_ret
      exact ⟨ao, cap, rfl, hI.out.1, hI.out.2⟩

set_option maxRecDepth 10000 in
set_option maxHeartbeats 2000000 in
theorem rkeys_2 (seed : ByteArray) (w : World) (hs : seed.size ≤ 100000) : Calls Tryz.prog 126 #[.string seed, .int .i64 2] w (keysPost seed 4 w) := by
  obtain ⟨i0, hi, hz, hsz, hby⟩ := info_strT
  have HBG : Hid (∀ (k c : Nat) W, Calls Tryz.prog 129 #[.string seed, .int .i64 k, .int .i64 c] W (strPost (beginF HR seed k c) W)) := fun k c W => rbegin_any seed k c W hs
  have HCH : Hid (∀ (k c : Nat) W, Calls Tryz.prog 130 #[.string (beginF HR seed k c), .int .i64 15] W (strPost (stepF HR (beginF HR seed k c) 15) W)) := fun k c W => rchained_any _ 15 W (HR_size _) (Nat.le_refl _)
  have HOWN : Hid (w.ownsRow w.heap.size 9 1 (.slice none 0 0) 0 []) := World.ownsRow_nil _ _ _ _
  go_enter Tryz.func126, Tryz.ntmps126
  go_wp2_with fail
  go_loopw [5, 6] (fun v i wr => ∃ (k : Nat) (u : Value), u = v ∧ k ≤ 4 ∧ i = .int .i64 k ∧ Hid (wr.ownsRow w.heap.size 9 1 u k ((leavesF HR seed k).map .string) ∧ Below w.heap.size w wr)) (fun _ i _ => 4 - (intOf i).toNat)
  case atStart => exact ⟨0, _, rfl, by omega, rfl, HOWN.out, Below.refl _ _⟩
  case round =>
    obtain ⟨k, v, hvu, hk, rfl, hI⟩ := hrel
    subst hvu
    by_cases hlt : k < 4
    · have k1 : (k : Int) < 4 := by omega
      have HB0 : Hid (Below w.heap.size w wr) := hI.out.2
      go_wp2_with fail
      go_loopw [7, 8] (fun t i w2 => ∃ (c : Nat), c ≤ 67 ∧ t = .string (chainsT HR (beginF HR seed k) (fun _ => 15) c) ∧ i = .int .i64 c ∧ Hid (Below wr.heap.size wr w2)) (fun _ i _ => 67 - (intOf i).toNat)
      case atStart => exact ⟨0, by omega, rfl, rfl, Below.refl _ _⟩
      case round =>
        rename_i wk _ _ _
        obtain ⟨c, hc, rfl, rfl, hJ⟩ := hrel
        by_cases hlt2 : c < 67
        · have c1 : (c : Int) < 67 := by omega
          have hbg := HBG.out k c wr
          have hch := HCH.out k c
          have s1 := chains_HR_size seed k c
          have s2 : (stepF HR (beginF HR seed k c) 15).size = 32 := stepF_size HR HR_size _ (HR_size _) 15
          have HE : Hid (chainsT HR (beginF HR seed k) (fun _ => 15) c ++ stepF HR (beginF HR seed k c) 15 = chainsT HR (beginF HR seed k) (fun _ => 15) (c + 1)) := rfl
          generalize stepF HR (beginF HR seed k c) 15 = y at *
          generalize beginF HR seed k c = x at *
          generalize chainsT HR (beginF HR seed k) (fun _ => 15) c = s at *
          go_wp2_with fail
          refine hbg.mono ?_
          rintro e w3 ⟨rfl, hb3⟩
          clear hbg
          go_wp2_with fail
          refine (hch w3).mono ?_
          rintro e w4 ⟨rfl, hb4⟩
          clear hch
          go_wp2_with fail
          refine ⟨⟨c + 1, by omega, by rw [HE.out], by go_num, ?_⟩, ?_⟩
          · exact (hJ.out.trans (hb3.mono hJ.out.size)).trans (hb4.mono (Nat.le_trans hJ.out.size hb3.size))
          · simp [intOf]; omega
        · obtain rfl : c = 67 := by omega
          have HS : Hid (leavesF HR seed (k + 1) = leavesF HR seed k ++ [chainsT HR (beginF HR seed k) (fun _ => 15) 67]) := leavesF_snoc HR seed k
          generalize chainsT HR (beginF HR seed k) (fun _ => 15) 67 = s at *
          have hB2 : Below w.heap.size w wr := HB0.out.trans (hJ.out.mono HB0.out.size)
          have ho2 : (wr.alloc (.cells #[.string s] 9)).ownsRow w.heap.size 9 1 v k ((leavesF HR seed k).map .string) := own_below' (own_below' hI.out.1 hJ.out) ((Below.refl _ _).alloc (Nat.le_refl _) _)
          have hnews : ∀ j u, ([.string s] : List Value)[j]? = some u → (wr.alloc (.cells #[.string s] 9)).cell? ((⟨wr.heap.size, 0, none⟩ : Addr).add j) = some u := fun j u hu => by
            rw [Addr.add_mid, World.cell?_alloc_at _ _ _ _ rfl]
            simpa using hu
          have hs2 : w.heap.size ≤ (wr.alloc (.cells #[.string s] 9)).heap.size := by have := hB2.size; simp; omega
          go_wp2_with (refine wpList_append_lies _ rfl _ _ 30 rfl w.heap.size 9 i0 _ 1 16 Tryz.underlying30 hi hz hsz hby rfl (by decide) v k _ rfl ho2 ⟨wr.heap.size, 0, none⟩ 1 1 [.string s] rfl rfl hnews (by simp [Value.oneCell']) (by decide) (by unfold maxLen; omega) (by omega) hs2 _ rfl ?_; intro g5 cap5 w5 ho5 hgr5 hat5 hlt5)
          refine ⟨⟨k + 1, _, rfl, by omega, by go_num, ?_, ?_⟩, ?_⟩
          · rw [HS.out, List.map_append]; exact ho5
          · exact (hB2.alloc hB2.size _).trans ((Below.refl _ _).grown hgr5 hs2 (fun g e => (ho2.lt g e).1))
          · simp [intOf]; omega
    · obtain rfl : k = 4 := by omega
      obtain ⟨ao, cap, rfl⟩ := own_form hI.out.1
      go_wp2_with fail
      go_ret
      exact ⟨ao, cap, rfl, hI.out.1, hI.out.2⟩

set_option maxRecDepth 10000 in
set_option maxHeartbeats 2000000 in
theorem rkeys_3 (seed : ByteArray) (w : World) (hs : seed.size ≤ 100000) : Calls Tryz.prog 126 #[.string seed, .int .i64 3] w (keysPost seed 8 w) := by
  obtain ⟨i0, hi, hz, hsz, hby⟩ := info_strT
  have HBG : Hid (∀ (k c : Nat) W, Calls Tryz.prog 129 #[.string seed, .int .i64 k, .int .i64 c] W (strPost (beginF HR seed k c) W)) := fun k c W => rbegin_any seed k c W hs
  have HCH : Hid (∀ (k c : Nat) W, Calls Tryz.prog 130 #[.string (beginF HR seed k c), .int .i64 15] W (strPost (stepF HR (beginF HR seed k c) 15) W)) := fun k c W => rchained_any _ 15 W (HR_size _) (Nat.le_refl _)
  have HOWN : Hid (w.ownsRow w.heap.size 9 1 (.slice none 0 0) 0 []) := World.ownsRow_nil _ _ _ _
  go_enter Tryz.func126, Tryz.ntmps126
  go_wp2_with fail
  go_loopw [5, 6] (fun v i wr => ∃ (k : Nat) (u : Value), u = v ∧ k ≤ 8 ∧ i = .int .i64 k ∧ Hid (wr.ownsRow w.heap.size 9 1 u k ((leavesF HR seed k).map .string) ∧ Below w.heap.size w wr)) (fun _ i _ => 8 - (intOf i).toNat)
  case atStart => exact ⟨0, _, rfl, by omega, rfl, HOWN.out, Below.refl _ _⟩
  case round =>
    obtain ⟨k, v, hvu, hk, rfl, hI⟩ := hrel
    subst hvu
    by_cases hlt : k < 8
    · have k1 : (k : Int) < 8 := by omega
      have HB0 : Hid (Below w.heap.size w wr) := hI.out.2
      go_wp2_with fail
      go_loopw [7, 8] (fun t i w2 => ∃ (c : Nat), c ≤ 67 ∧ t = .string (chainsT HR (beginF HR seed k) (fun _ => 15) c) ∧ i = .int .i64 c ∧ Hid (Below wr.heap.size wr w2)) (fun _ i _ => 67 - (intOf i).toNat)
      case atStart => exact ⟨0, by omega, rfl, rfl, Below.refl _ _⟩
      case round =>
        rename_i wk _ _ _
        obtain ⟨c, hc, rfl, rfl, hJ⟩ := hrel
        by_cases hlt2 : c < 67
        · have c1 : (c : Int) < 67 := by omega
          have hbg := HBG.out k c wr
          have hch := HCH.out k c
          have s1 := chains_HR_size seed k c
          have s2 : (stepF HR (beginF HR seed k c) 15).size = 32 := stepF_size HR HR_size _ (HR_size _) 15
          have HE : Hid (chainsT HR (beginF HR seed k) (fun _ => 15) c ++ stepF HR (beginF HR seed k c) 15 = chainsT HR (beginF HR seed k) (fun _ => 15) (c + 1)) := rfl
          generalize stepF HR (beginF HR seed k c) 15 = y at *
          generalize beginF HR seed k c = x at *
          generalize chainsT HR (beginF HR seed k) (fun _ => 15) c = s at *
          go_wp2_with fail
          refine hbg.mono ?_
          rintro e w3 ⟨rfl, hb3⟩
          clear hbg
          go_wp2_with fail
          refine (hch w3).mono ?_
          rintro e w4 ⟨rfl, hb4⟩
          clear hch
          go_wp2_with fail
          refine ⟨⟨c + 1, by omega, by rw [HE.out], by go_num, ?_⟩, ?_⟩
          · exact (hJ.out.trans (hb3.mono hJ.out.size)).trans (hb4.mono (Nat.le_trans hJ.out.size hb3.size))
          · simp [intOf]; omega
        · obtain rfl : c = 67 := by omega
          have HS : Hid (leavesF HR seed (k + 1) = leavesF HR seed k ++ [chainsT HR (beginF HR seed k) (fun _ => 15) 67]) := leavesF_snoc HR seed k
          generalize chainsT HR (beginF HR seed k) (fun _ => 15) 67 = s at *
          have hB2 : Below w.heap.size w wr := HB0.out.trans (hJ.out.mono HB0.out.size)
          have ho2 : (wr.alloc (.cells #[.string s] 9)).ownsRow w.heap.size 9 1 v k ((leavesF HR seed k).map .string) := own_below' (own_below' hI.out.1 hJ.out) ((Below.refl _ _).alloc (Nat.le_refl _) _)
          have hnews : ∀ j u, ([.string s] : List Value)[j]? = some u → (wr.alloc (.cells #[.string s] 9)).cell? ((⟨wr.heap.size, 0, none⟩ : Addr).add j) = some u := fun j u hu => by
            rw [Addr.add_mid, World.cell?_alloc_at _ _ _ _ rfl]
            simpa using hu
          have hs2 : w.heap.size ≤ (wr.alloc (.cells #[.string s] 9)).heap.size := by have := hB2.size; simp; omega
          go_wp2_with (refine wpList_append_lies _ rfl _ _ 30 rfl w.heap.size 9 i0 _ 1 16 Tryz.underlying30 hi hz hsz hby rfl (by decide) v k _ rfl ho2 ⟨wr.heap.size, 0, none⟩ 1 1 [.string s] rfl rfl hnews (by simp [Value.oneCell']) (by decide) (by unfold maxLen; omega) (by omega) hs2 _ rfl ?_; intro g5 cap5 w5 ho5 hgr5 hat5 hlt5)
          refine ⟨⟨k + 1, _, rfl, by omega, by go_num, ?_, ?_⟩, ?_⟩
          · rw [HS.out, List.map_append]; exact ho5
          · exact (hB2.alloc hB2.size _).trans ((Below.refl _ _).grown hgr5 hs2 (fun g e => (ho2.lt g e).1))
          · simp [intOf]; omega
    · obtain rfl : k = 8 := by omega
      obtain ⟨ao, cap, rfl⟩ := own_form hI.out.1
      go_wp2_with fail
      go_ret
      exact ⟨ao, cap, rfl, hI.out.1, hI.out.2⟩

set_option maxRecDepth 10000 in
set_option maxHeartbeats 2000000 in
theorem rkeys_4 (seed : ByteArray) (w : World) (hs : seed.size ≤ 100000) : Calls Tryz.prog 126 #[.string seed, .int .i64 4] w (keysPost seed 16 w) := by
  obtain ⟨i0, hi, hz, hsz, hby⟩ := info_strT
  have HBG : Hid (∀ (k c : Nat) W, Calls Tryz.prog 129 #[.string seed, .int .i64 k, .int .i64 c] W (strPost (beginF HR seed k c) W)) := fun k c W => rbegin_any seed k c W hs
  have HCH : Hid (∀ (k c : Nat) W, Calls Tryz.prog 130 #[.string (beginF HR seed k c), .int .i64 15] W (strPost (stepF HR (beginF HR seed k c) 15) W)) := fun k c W => rchained_any _ 15 W (HR_size _) (Nat.le_refl _)
  have HOWN : Hid (w.ownsRow w.heap.size 9 1 (.slice none 0 0) 0 []) := World.ownsRow_nil _ _ _ _
  go_enter Tryz.func126, Tryz.ntmps126
  go_wp2_with fail
  go_loopw [5, 6] (fun v i wr => ∃ (k : Nat) (u : Value), u = v ∧ k ≤ 16 ∧ i = .int .i64 k ∧ Hid (wr.ownsRow w.heap.size 9 1 u k ((leavesF HR seed k).map .string) ∧ Below w.heap.size w wr)) (fun _ i _ => 16 - (intOf i).toNat)
  case atStart => exact ⟨0, _, rfl, by omega, rfl, HOWN.out, Below.refl _ _⟩
  case round =>
    obtain ⟨k, v, hvu, hk, rfl, hI⟩ := hrel
    subst hvu
    by_cases hlt : k < 16
    · have k1 : (k : Int) < 16 := by omega
      have HB0 : Hid (Below w.heap.size w wr) := hI.out.2
      go_wp2_with fail
      go_loopw [7, 8] (fun t i w2 => ∃ (c : Nat), c ≤ 67 ∧ t = .string (chainsT HR (beginF HR seed k) (fun _ => 15) c) ∧ i = .int .i64 c ∧ Hid (Below wr.heap.size wr w2)) (fun _ i _ => 67 - (intOf i).toNat)
      case atStart => exact ⟨0, by omega, rfl, rfl, Below.refl _ _⟩
      case round =>
        rename_i wk _ _ _
        obtain ⟨c, hc, rfl, rfl, hJ⟩ := hrel
        by_cases hlt2 : c < 67
        · have c1 : (c : Int) < 67 := by omega
          have hbg := HBG.out k c wr
          have hch := HCH.out k c
          have s1 := chains_HR_size seed k c
          have s2 : (stepF HR (beginF HR seed k c) 15).size = 32 := stepF_size HR HR_size _ (HR_size _) 15
          have HE : Hid (chainsT HR (beginF HR seed k) (fun _ => 15) c ++ stepF HR (beginF HR seed k c) 15 = chainsT HR (beginF HR seed k) (fun _ => 15) (c + 1)) := rfl
          generalize stepF HR (beginF HR seed k c) 15 = y at *
          generalize beginF HR seed k c = x at *
          generalize chainsT HR (beginF HR seed k) (fun _ => 15) c = s at *
          go_wp2_with fail
          refine hbg.mono ?_
          rintro e w3 ⟨rfl, hb3⟩
          clear hbg
          go_wp2_with fail
          refine (hch w3).mono ?_
          rintro e w4 ⟨rfl, hb4⟩
          clear hch
          go_wp2_with fail
          refine ⟨⟨c + 1, by omega, by rw [HE.out], by go_num, ?_⟩, ?_⟩
          · exact (hJ.out.trans (hb3.mono hJ.out.size)).trans (hb4.mono (Nat.le_trans hJ.out.size hb3.size))
          · simp [intOf]; omega
        · obtain rfl : c = 67 := by omega
          have HS : Hid (leavesF HR seed (k + 1) = leavesF HR seed k ++ [chainsT HR (beginF HR seed k) (fun _ => 15) 67]) := leavesF_snoc HR seed k
          generalize chainsT HR (beginF HR seed k) (fun _ => 15) 67 = s at *
          have hB2 : Below w.heap.size w wr := HB0.out.trans (hJ.out.mono HB0.out.size)
          have ho2 : (wr.alloc (.cells #[.string s] 9)).ownsRow w.heap.size 9 1 v k ((leavesF HR seed k).map .string) := own_below' (own_below' hI.out.1 hJ.out) ((Below.refl _ _).alloc (Nat.le_refl _) _)
          have hnews : ∀ j u, ([.string s] : List Value)[j]? = some u → (wr.alloc (.cells #[.string s] 9)).cell? ((⟨wr.heap.size, 0, none⟩ : Addr).add j) = some u := fun j u hu => by
            rw [Addr.add_mid, World.cell?_alloc_at _ _ _ _ rfl]
            simpa using hu
          have hs2 : w.heap.size ≤ (wr.alloc (.cells #[.string s] 9)).heap.size := by have := hB2.size; simp; omega
          go_wp2_with (refine wpList_append_lies _ rfl _ _ 30 rfl w.heap.size 9 i0 _ 1 16 Tryz.underlying30 hi hz hsz hby rfl (by decide) v k _ rfl ho2 ⟨wr.heap.size, 0, none⟩ 1 1 [.string s] rfl rfl hnews (by simp [Value.oneCell']) (by decide) (by unfold maxLen; omega) (by omega) hs2 _ rfl ?_; intro g5 cap5 w5 ho5 hgr5 hat5 hlt5)
          refine ⟨⟨k + 1, _, rfl, by omega, by go_num, ?_, ?_⟩, ?_⟩
          · rw [HS.out, List.map_append]; exact ho5
          · exact (hB2.alloc hB2.size _).trans ((Below.refl _ _).grown hgr5 hs2 (fun g e => (ho2.lt g e).1))
          · simp [intOf]; omega
    · obtain rfl : k = 16 := by omega
      obtain ⟨ao, cap, rfl⟩ := own_form hI.out.1
      go_wp2_with fail
      go_ret
      exact ⟨ao, cap, rfl, hI.out.1, hI.out.2⟩

set_option maxRecDepth 10000 in
set_option maxHeartbeats 2000000 in
theorem rkeys_5 (seed : ByteArray) (w : World) (hs : seed.size ≤ 100000) : Calls Tryz.prog 126 #[.string seed, .int .i64 5] w (keysPost seed 32 w) := by
  obtain ⟨i0, hi, hz, hsz, hby⟩ := info_strT
  have HBG : Hid (∀ (k c : Nat) W, Calls Tryz.prog 129 #[.string seed, .int .i64 k, .int .i64 c] W (strPost (beginF HR seed k c) W)) := fun k c W => rbegin_any seed k c W hs
  have HCH : Hid (∀ (k c : Nat) W, Calls Tryz.prog 130 #[.string (beginF HR seed k c), .int .i64 15] W (strPost (stepF HR (beginF HR seed k c) 15) W)) := fun k c W => rchained_any _ 15 W (HR_size _) (Nat.le_refl _)
  have HOWN : Hid (w.ownsRow w.heap.size 9 1 (.slice none 0 0) 0 []) := World.ownsRow_nil _ _ _ _
  go_enter Tryz.func126, Tryz.ntmps126
  go_wp2_with fail
  go_loopw [5, 6] (fun v i wr => ∃ (k : Nat) (u : Value), u = v ∧ k ≤ 32 ∧ i = .int .i64 k ∧ Hid (wr.ownsRow w.heap.size 9 1 u k ((leavesF HR seed k).map .string) ∧ Below w.heap.size w wr)) (fun _ i _ => 32 - (intOf i).toNat)
  case atStart => exact ⟨0, _, rfl, by omega, rfl, HOWN.out, Below.refl _ _⟩
  case round =>
    obtain ⟨k, v, hvu, hk, rfl, hI⟩ := hrel
    subst hvu
    by_cases hlt : k < 32
    · have k1 : (k : Int) < 32 := by omega
      have HB0 : Hid (Below w.heap.size w wr) := hI.out.2
      go_wp2_with fail
      go_loopw [7, 8] (fun t i w2 => ∃ (c : Nat), c ≤ 67 ∧ t = .string (chainsT HR (beginF HR seed k) (fun _ => 15) c) ∧ i = .int .i64 c ∧ Hid (Below wr.heap.size wr w2)) (fun _ i _ => 67 - (intOf i).toNat)
      case atStart => exact ⟨0, by omega, rfl, rfl, Below.refl _ _⟩
      case round =>
        rename_i wk _ _ _
        obtain ⟨c, hc, rfl, rfl, hJ⟩ := hrel
        by_cases hlt2 : c < 67
        · have c1 : (c : Int) < 67 := by omega
          have hbg := HBG.out k c wr
          have hch := HCH.out k c
          have s1 := chains_HR_size seed k c
          have s2 : (stepF HR (beginF HR seed k c) 15).size = 32 := stepF_size HR HR_size _ (HR_size _) 15
          have HE : Hid (chainsT HR (beginF HR seed k) (fun _ => 15) c ++ stepF HR (beginF HR seed k c) 15 = chainsT HR (beginF HR seed k) (fun _ => 15) (c + 1)) := rfl
          generalize stepF HR (beginF HR seed k c) 15 = y at *
          generalize beginF HR seed k c = x at *
          generalize chainsT HR (beginF HR seed k) (fun _ => 15) c = s at *
          go_wp2_with fail
          refine hbg.mono ?_
          rintro e w3 ⟨rfl, hb3⟩
          clear hbg
          go_wp2_with fail
          refine (hch w3).mono ?_
          rintro e w4 ⟨rfl, hb4⟩
          clear hch
          go_wp2_with fail
          refine ⟨⟨c + 1, by omega, by rw [HE.out], by go_num, ?_⟩, ?_⟩
          · exact (hJ.out.trans (hb3.mono hJ.out.size)).trans (hb4.mono (Nat.le_trans hJ.out.size hb3.size))
          · simp [intOf]; omega
        · obtain rfl : c = 67 := by omega
          have HS : Hid (leavesF HR seed (k + 1) = leavesF HR seed k ++ [chainsT HR (beginF HR seed k) (fun _ => 15) 67]) := leavesF_snoc HR seed k
          generalize chainsT HR (beginF HR seed k) (fun _ => 15) 67 = s at *
          have hB2 : Below w.heap.size w wr := HB0.out.trans (hJ.out.mono HB0.out.size)
          have ho2 : (wr.alloc (.cells #[.string s] 9)).ownsRow w.heap.size 9 1 v k ((leavesF HR seed k).map .string) := own_below' (own_below' hI.out.1 hJ.out) ((Below.refl _ _).alloc (Nat.le_refl _) _)
          have hnews : ∀ j u, ([.string s] : List Value)[j]? = some u → (wr.alloc (.cells #[.string s] 9)).cell? ((⟨wr.heap.size, 0, none⟩ : Addr).add j) = some u := fun j u hu => by
            rw [Addr.add_mid, World.cell?_alloc_at _ _ _ _ rfl]
            simpa using hu
          have hs2 : w.heap.size ≤ (wr.alloc (.cells #[.string s] 9)).heap.size := by have := hB2.size; simp; omega
          go_wp2_with (refine wpList_append_lies _ rfl _ _ 30 rfl w.heap.size 9 i0 _ 1 16 Tryz.underlying30 hi hz hsz hby rfl (by decide) v k _ rfl ho2 ⟨wr.heap.size, 0, none⟩ 1 1 [.string s] rfl rfl hnews (by simp [Value.oneCell']) (by decide) (by unfold maxLen; omega) (by omega) hs2 _ rfl ?_; intro g5 cap5 w5 ho5 hgr5 hat5 hlt5)
          refine ⟨⟨k + 1, _, rfl, by omega, by go_num, ?_, ?_⟩, ?_⟩
          · rw [HS.out, List.map_append]; exact ho5
          · exact (hB2.alloc hB2.size _).trans ((Below.refl _ _).grown hgr5 hs2 (fun g e => (ho2.lt g e).1))
          · simp [intOf]; omega
    · obtain rfl : k = 32 := by omega
      obtain ⟨ao, cap, rfl⟩ := own_form hI.out.1
      go_wp2_with fail
      go_ret
      exact ⟨ao, cap, rfl, hI.out.1, hI.out.2⟩

theorem rkeys_any (seed : ByteArray) (h : Nat) (w : World) (hs : seed.size ≤ 100000) (hh : h ≤ 5) : Calls Tryz.prog 126 #[.string seed, .int .i64 h] w (keysPost seed (2 ^ h) w) := by
  obtain rfl | rfl | rfl | rfl | rfl | rfl : h = 0 ∨ h = 1 ∨ h = 2 ∨ h = 3 ∨ h = 4 ∨ h = 5 := by omega
  · exact rkeys_0 seed w hs
  · exact rkeys_1 seed w hs
  · exact rkeys_2 seed w hs
  · exact rkeys_3 seed w hs
  · exact rkeys_4 seed w hs
  · exact rkeys_5 seed w hs
end Go.Proofs.YtijdnpoenpjnlaaGreatDoor
set_option linter.unusedVariables false
set_option linter.unusedSimpArgs false
namespace Go.Proofs.YtijdnpoenpjnlaaGreatDoor
open Go.RowKit

set_option maxRecDepth 10000 in
set_option maxHeartbeats 2000000 in
theorem rdigits_any (msg : ByteArray) (w : World) (hm : msg.size ≤ 1000000) :
    Calls Tryz.prog 128 #[.string msg] w fun e w' => e = .returned (.agg (digV (HR msg)).toArray) ∧ Below w.heap.size w w' := by
  have hsm := rsum msg (w.alloc (.cells z67.toArray 180)) hm
  have h32 := HR_size msg
  generalize HR msg = h at *
  have idv := digV_info h
  have odv := digV_one h
  have ht0 := there_z67 w
  have hb0 : Below w.heap.size w (w.alloc (.cells z67.toArray 180)) := (Below.refl _ _).alloc (Nat.le_refl _) _
  go_enter Tryz.func128, Tryz.ntmps128
  go_wp2_with (first | (refine wpList_alloc_of rfl 180 rfl z67.toArray alloc_67 ?_))
  refine hsm.mono ?_
  rintro e w1 ⟨rfl, hb1⟩
  clear hsm
  obtain ⟨wB, hwB⟩ : ∃ wB, wB = w1.alloc (.cells z67.toArray 180) := ⟨_, rfl⟩
  have hz1 : w.heap.size < w1.heap.size := by have := hb1.size; simp at this; omega
  have hbB : Below w.heap.size w wB := by rw [hwB]; exact (hb0.trans (hb1.mono (by simp))).alloc (Nat.le_of_lt hz1) _
  have ht1 : wB.there w.heap.size 0 67 := by rw [hwB]; exact there_below ((Below.refl _ _).alloc (Nat.le_refl _) _) hz1 (there_below hb1 (by simp) ht0)
  have ht2 : wB.there w1.heap.size 0 67 := by rw [hwB]; exact there_z67 w1
  have hc2 : ∀ j, j < 67 → wB.cell? ⟨w1.heap.size, j, none⟩ = some (.int .i64 0) := fun j hj => by
    rw [hwB]
    have := range_new w1 z67 180 j (.int .i64 0) (by show (List.replicate 67 (Value.int .i64 0))[j]? = _; rw [List.getElem?_replicate, if_pos hj])
    simpa using this
  clear hb0 hb1 ht0
  go_wp2_with (first | (refine wpList_alloc_of rfl 180 rfl z67.toArray alloc_67 ?_))
  rw [← hwB]
  clear hwB
  go_loopw [5, 6] (fun l i wr => ∃ k : Nat, k ≤ 64 ∧ i = .int .i64 k ∧ l = .int .i64 (lackN h k : Nat) ∧ Hid ((∀ j, j < 67 → cellI wr w1.heap.size j (if j < k then nib h j else 0)) ∧ wr.there w1.heap.size 0 67 ∧ wr.there w.heap.size 0 67 ∧ Below w.heap.size w wr)) (fun _ i _ => 64 - (intOf i).toNat)
  case atStart => exact ⟨0, by omega, rfl, rfl, fun j hj => by rw [if_neg (by omega)]; exact hc2 j hj, ht2, ht1, hbB⟩
  case round =>
    clear hc2 ht1 ht2 hbB
    obtain ⟨k, hk, rfl, rfl, hI⟩ := hrel
    by_cases hlt : k < 64
    · have k1 : (k : Int) < 64 := by omega
      have k2 : (k : Int) < 67 := by omega
      have b8 := bAt_lt h (k / 2)
      have blo := bAt_lo h (k / 2)
      obtain ⟨x, hx⟩ : ∃ x, x = (bAt h (k / 2)).toNat := ⟨_, rfl⟩
      have hx2 : bAt h (k / 2) = (x : Int) := by omega
      rw [← hx] at b8
      obtain ⟨m, hmk⟩ : ∃ m, m = k / 2 := ⟨_, rfl⟩
      have hq : ((k : Nat) : Int).tdiv 2 = (m : Int) := by rw [Int.tdiv_eq_ediv_of_nonneg (by omega)]; omega
      have hm32 : m < 32 := by omega
      have hgx : ∀ p : m < h.size, (h[m]'p).toNat = x := fun p => by
        have e := bAt_eq h m p
        have e2 : bAt h m = (x : Int) := by rw [hmk]; exact hx2
        rw [e2] at e
        exact Int.ofNat_inj.1 e
      have hlk := lackN_le h k
      have hl2 : lackN h (k + 1) = lackN h k + (15 - nib h k) := rfl
      have hnl := nib_lt h k
      obtain ⟨L, hL⟩ : ∃ L, L = lackN h k := ⟨_, rfl⟩
      rw [← hL] at hl2 hlk ⊢
      have HL2 : Hid (lackN h (k + 1) = L + (15 - nib h k)) := hl2
      have f0 : wr.frozen? ⟨w1.heap.size, k, none⟩ = false := by have := (hI.out.2.1 k (by omega)).2; rwa [Nat.zero_add] at this
      have c0 : wr.cell? ⟨w1.heap.size, k, none⟩ = some (.int .i64 0) := by have := hI.out.1 k (by omega); rw [if_neg (by omega)] at this; exact this
      have c1 : ∀ z, (wr.setCell ⟨w1.heap.size, k, none⟩ z).cell? ⟨w1.heap.size, k, none⟩ = some z := fun z => World.cell?_setCell_same _ _ _ c0
      have fin : Hid (∀ d, d = nib h k → (∀ j, j < 67 → cellI (wr.setCell ⟨w1.heap.size, k, none⟩ (.int .i64 (d : Nat))) w1.heap.size j (if j < k + 1 then nib h j else 0)) ∧ (wr.setCell ⟨w1.heap.size, k, none⟩ (.int .i64 (d : Nat))).there w1.heap.size 0 67 ∧ (wr.setCell ⟨w1.heap.size, k, none⟩ (.int .i64 (d : Nat))).there w.heap.size 0 67 ∧ Below w.heap.size w (wr.setCell ⟨w1.heap.size, k, none⟩ (.int .i64 (d : Nat)))) := fun d hd => by
        refine ⟨fun j hj => ?_, World.there_setCells hI.out.2.1 w1.heap.size k [_], World.there_setCells hI.out.2.2.1 w1.heap.size k [_], hI.out.2.2.2.setCell (p := ⟨w1.heap.size, k, none⟩) (Nat.le_of_lt hz1) _⟩
        by_cases e : j = k
        · subst e
          rw [if_pos (by omega), ← hd]
          exact World.cell?_setCell_same _ _ _ c0
        · show World.cell? _ _ = _
          rw [World.cell?_setCell_other (w := wr) (a := ⟨w1.heap.size, k, none⟩) (b := ⟨w1.heap.size, j, none⟩) _ (by intro e'; have := congrArg Addr.off e'; simp at this; omega)]
          have := hI.out.1 j hj
          rw [show (if j < k + 1 then nib h j else 0) = (if j < k then nib h j else 0) by
            by_cases e2 : j < k
            · rw [if_pos e2, if_pos (by omega)]
            · rw [if_neg e2, if_neg (by omega)]]
          exact this
      rcases Nat.mod_two_eq_zero_or_one k with hp | hp
      · have hr : ((k : Nat) : Int).tmod 2 = 0 := by rw [Int.tmod_eq_emod_of_nonneg (by omega)]; omega
        have HN : Hid (nib h k = x / 16) := by show nib h k = x / 16; unfold nib; rw [if_pos hp, hx]
        clear hx hx2 hl2 hL hmk hI
        go_wp2_with fail
        refine ⟨⟨k + 1, by omega, by go_num, ?_, ?_⟩, ?_⟩
        · rw [HL2.out, HN.out]; congr 1; omega
        · have := fin.out (x / 16) HN.out.symm
          rw [show ((x / 16 : Nat) : Int) = (x : Int) / 16 % 16 by omega] at this
          exact this
        · simp [intOf]; omega
      · have hr : ((k : Nat) : Int).tmod 2 = 1 := by rw [Int.tmod_eq_emod_of_nonneg (by omega)]; omega
        have HN : Hid (nib h k = x % 16) := by show nib h k = x % 16; unfold nib; rw [if_neg (by omega), hx]
        clear hx hx2 hl2 hL hmk hI
        go_wp2_with fail
        refine ⟨⟨k + 1, by omega, by go_num, ?_, ?_⟩, ?_⟩
        · rw [HL2.out, HN.out]; congr 1; omega
        · have := fin.out (x % 16) HN.out.symm
          rw [show ((x % 16 : Nat) : Int) = (x : Int) % 16 by omega] at this
          exact this
        · simp [intOf]; omega
    · obtain rfl : k = 64 := by omega
      have hlk := lackN_le h 64
      have HD : Hid (dig h 64 = lackN h 64 / 256 ∧ dig h 65 = lackN h 64 / 16 % 16 ∧ dig h 66 = lackN h 64 % 16) := ⟨rfl, rfl, rfl⟩
      generalize lackN h 64 = L at *
      have fz : ∀ j, j < 67 → wr.frozen? ⟨w1.heap.size, j, none⟩ = false := fun j hj => by have := (hI.out.2.1 j hj).2; rwa [Nat.zero_add] at this
      obtain ⟨A, hA⟩ : ∃ A, A = L / 256 := ⟨_, rfl⟩
      obtain ⟨B1, hB1⟩ : ∃ B1, B1 = L / 16 := ⟨_, rfl⟩
      obtain ⟨B2, hB2⟩ : ∃ B2, B2 = B1 % 16 := ⟨_, rfl⟩
      obtain ⟨C, hC⟩ : ∃ C, C = L % 16 := ⟨_, rfl⟩
      have q1 : (L : Int).tdiv 256 = (A : Int) := by rw [Int.tdiv_eq_ediv_of_nonneg (by omega)]; omega
      have q2 : (L : Int).tdiv 16 = (B1 : Int) := by rw [Int.tdiv_eq_ediv_of_nonneg (by omega)]; omega
      have r2 : (B1 : Int).tmod 16 = (B2 : Int) := by rw [Int.tmod_eq_emod_of_nonneg (by omega)]; omega
      have r3 : (L : Int).tmod 16 = (C : Int) := by rw [Int.tmod_eq_emod_of_nonneg (by omega)]; omega
      have r2' : (B1 : Int) % 16 = (B2 : Int) := by omega
      have r3' : (L : Int) % 16 = (C : Int) := by omega
      have a1 : A ≤ 3 := by omega
      have b1 : B1 ≤ 60 := by omega
      have b2 : B2 < 16 := by omega
      have cc1 : C < 16 := by omega
      have HD2 : Hid (dig h 64 = A ∧ dig h 65 = B2 ∧ dig h 66 = C) := by
        obtain ⟨e1, e2, e3⟩ := HD.out
        exact ⟨by rw [e1, hA], by rw [e2, hB2, hB1], by rw [e3, hC]⟩
      obtain ⟨W1, hW1⟩ : ∃ W, W = wr.setCell ⟨w1.heap.size, 64, none⟩ (.int .i64 (A : Int)) := ⟨_, rfl⟩
      obtain ⟨W2, hW2⟩ : ∃ W, W = W1.setCell ⟨w1.heap.size, 65, none⟩ (.int .i64 (B2 : Int)) := ⟨_, rfl⟩
      obtain ⟨W3, hW3⟩ : ∃ W, W = W2.setCell ⟨w1.heap.size, 66, none⟩ (.int .i64 (C : Int)) := ⟨_, rfl⟩
      have t1 : W1.there w1.heap.size 0 67 := by rw [hW1]; exact World.there_setCells hI.out.2.1 w1.heap.size 64 [_]
      have t2 : W2.there w1.heap.size 0 67 := by rw [hW2]; exact World.there_setCells t1 w1.heap.size 65 [_]
      have o1 : ∀ j, j ≠ 64 → W1.cell? ⟨w1.heap.size, j, none⟩ = wr.cell? ⟨w1.heap.size, j, none⟩ := fun j hj => by
        rw [hW1, World.cell?_setCell_other (w := wr) (a := ⟨w1.heap.size, 64, none⟩) (b := ⟨w1.heap.size, j, none⟩) _ (by intro e'; have := congrArg Addr.off e'; simp at this; omega)]
      have o2 : ∀ j, j ≠ 65 → W2.cell? ⟨w1.heap.size, j, none⟩ = W1.cell? ⟨w1.heap.size, j, none⟩ := fun j hj => by
        rw [hW2, World.cell?_setCell_other (w := W1) (a := ⟨w1.heap.size, 65, none⟩) (b := ⟨w1.heap.size, j, none⟩) _ (by intro e'; have := congrArg Addr.off e'; simp at this; omega)]
      have o3 : ∀ j, j ≠ 66 → W3.cell? ⟨w1.heap.size, j, none⟩ = W2.cell? ⟨w1.heap.size, j, none⟩ := fun j hj => by
        rw [hW3, World.cell?_setCell_other (w := W2) (a := ⟨w1.heap.size, 66, none⟩) (b := ⟨w1.heap.size, j, none⟩) _ (by intro e'; have := congrArg Addr.off e'; simp at this; omega)]
      have f64 := fz 64 (by omega)
      have f65 : W1.frozen? ⟨w1.heap.size, 65, none⟩ = false := by have := (t1 65 (by omega)).2; rwa [Nat.zero_add] at this
      have f66 : W2.frozen? ⟨w1.heap.size, 66, none⟩ = false := by have := (t2 66 (by omega)).2; rwa [Nat.zero_add] at this
      have c64 : wr.cell? ⟨w1.heap.size, 64, none⟩ = some (.int .i64 0) := hI.out.1 64 (by omega)
      have c65 : W1.cell? ⟨w1.heap.size, 65, none⟩ = some (.int .i64 0) := by rw [o1 65 (by omega)]; exact hI.out.1 65 (by omega)
      have c66 : W2.cell? ⟨w1.heap.size, 66, none⟩ = some (.int .i64 0) := by rw [o2 66 (by omega), o1 66 (by omega)]; exact hI.out.1 66 (by omega)
      have hrg : W3.rangeAt w1.heap.size 0 (digV h) := fun j u hu => by
        have hj : j < 67 := by
          rcases Nat.lt_or_ge j 67 with e | e
          · exact e
          · rw [List.getElem?_eq_none (by rw [digV_len]; exact e)] at hu; cases hu
        rw [digV_get h j hj] at hu
        obtain rfl := Option.some.inj hu
        rw [Nat.zero_add]
        by_cases e6 : j = 66
        · subst e6; rw [HD2.out.2.2, hW3]; exact World.cell?_setCell_same _ _ _ c66
        rw [o3 j e6]
        by_cases e5 : j = 65
        · subst e5; rw [HD2.out.2.1, hW2]; exact World.cell?_setCell_same _ _ _ c65
        rw [o2 j e5]
        by_cases e4 : j = 64
        · subst e4; rw [HD2.out.1, hW1]; exact World.cell?_setCell_same _ _ _ c64
        rw [o1 j e4]
        have := hI.out.1 j hj
        rw [if_pos (by omega)] at this
        rw [show dig h j = nib h j by unfold dig; rw [if_pos (by omega)]]
        exact this
      have ht : W3.there w.heap.size 0 (digV h).length := by
        rw [digV_len, hW3, hW2, hW1]
        exact World.there_setCells (World.there_setCells (World.there_setCells hI.out.2.2.1 w1.heap.size 64 [_]) w1.heap.size 65 [_]) w1.heap.size 66 [_]
      have hBr : Below w.heap.size w W3 := by
        rw [hW3, hW2, hW1]
        exact ((hI.out.2.2.2.setCell (p := ⟨w1.heap.size, 64, none⟩) (Nat.le_of_lt hz1) _).setCell (p := ⟨w1.heap.size, 65, none⟩) (Nat.le_of_lt hz1) _).setCell (p := ⟨w1.heap.size, 66, none⟩) (Nat.le_of_lt hz1) _
      rw [hW1] at f65 c65
      rw [hW2, hW1] at f66 c66
      rw [hW3, hW2, hW1] at hrg ht hBr
      clear fz hI o1 o2 o3 t1 t2 hW1 hW2 hW3 W3 W2 W1 hA hB1 hB2 hC HD hlk
      go_wp2_with (first | (refine wpList_load_mid rfl 180 _ rfl w1.heap.size 0 rfl (digV h) _ hrg Tryz.underlying180 rfl idv ?_) | (refine wpList_store_abs rfl 180 _ _ rfl w.heap.size 0 (digV h) rfl rfl ht idv odv ?_; intro w9 _hw9 hr9 _ht9 hb9; clear _hw9 _ht9))
      exact ret_cell rfl w.heap.size 0 (digV h) _ rfl hr9 Tryz.underlying180 rfl idv rfl ⟨rfl, hBr.trans (hb9 _ (Nat.le_refl _))⟩
end Go.Proofs.YtijdnpoenpjnlaaGreatDoor
set_option linter.unusedVariables false
set_option linter.unusedSimpArgs false
namespace Go.Proofs.YtijdnpoenpjnlaaGreatDoor
open Go.RowKit

set_option maxHeartbeats 400000 in
theorem seeded_any (t : ByteArray) (h : Int) (w : World) (ht : t.size ≤ 140737488355000) : Calls Tryz.prog 93 #[.string t, .int .i64 h] w fun e w' => e = .returned (.bool (decide (t.size = 32 ∧ 0 ≤ h ∧ h ≤ 5))) ∧ w' = w := by
  go_enter Tryz.func93, Tryz.ntmps93
  by_cases h1 : t.size = 32
  · have e1 : ((t.size : Nat) : Int) = 32 := by omega
    by_cases h2 : 0 ≤ h
    · by_cases h3 : h ≤ 5
      · go_wp2_with fail
        go_ret
        exact ⟨by simp [h1, h2, h3], rfl⟩
      · go_wp2_with fail
        go_ret
        exact ⟨by simp [h1, h2, h3], rfl⟩
    · go_wp2_with fail
      go_ret
      exact ⟨by simp [h1, h2]; omega, rfl⟩
  · have e1 : ¬ ((t.size : Nat) : Int) = 32 := by omega
    go_wp2_with fail
    go_ret
    exact ⟨by simp [h1], rfl⟩
theorem leavesR_small (seed : ByteArray) (n : Nat) : ∀ s ∈ leavesF HR seed n, s.size ≤ 20000 := by
  intro s hs
  unfold leavesF at hs
  rw [List.mem_map] at hs
  obtain ⟨k, _, rfl⟩ := hs
  have := leafF_size kT seed k
  show (leafF (sumOf kT) seed k).size ≤ 20000
  omega
def rpubV (seed : ByteArray) (h : Int) : Value := if seed.size = 32 ∧ 0 ≤ h ∧ h ≤ 5 then .tuple #[.string (pubF HR seed h.toNat), .int .i64 0] else .tuple #[.string ⟨#[]⟩, .int .i64 11]
set_option maxRecDepth 10000 in
set_option maxHeartbeats 400000 in
theorem rpub_any (seed : ByteArray) (h : Int) (w : World) (hs : seed.size ≤ 140737488355000) :
    Calls Tryz.prog 80 #[.string seed, .int .i64 h] w fun e w' => e = .returned (rpubV seed h) ∧ Below w.heap.size w w' := by
  have hf := seeded_any seed h w hs
  by_cases hc : seed.size = 32 ∧ 0 ≤ h ∧ h ≤ 5
  · obtain ⟨n, rfl⟩ : ∃ n : Nat, h = n := ⟨h.toNat, by omega⟩
    have hn : n ≤ 5 := by omega
    rw [show rpubV seed (n : Int) = .tuple #[.string (pubF HR seed n), .int .i64 0] by unfold rpubV; rw [if_pos hc]; simp]
    rw [show decide (seed.size = 32 ∧ 0 ≤ (n : Int) ∧ (n : Int) ≤ 5) = true from decide_eq_true hc] at hf
    have hN : 2 ^ n ≤ 32 := Nat.pow_le_pow_right (n := 2) (by omega) hn
    have HL : Hid (∀ W, Calls Tryz.prog 126 #[.string seed, .int .i64 n] W (keysPost seed (2 ^ n) W)) := fun W => rkeys_any seed n W (by omega) hn
    have HR' : Hid (∀ W v, LeafAt W v (leavesF HR seed (2 ^ n)) → Calls Tryz.prog 68 #[v] W (strPost (pubF HR seed n) W)) := fun W v hl => rroot_any _ (leavesF HR seed (2 ^ n)) v W (leavesF_len _ _ _) (by omega) hl (leavesR_small seed _)
    have HLL : Hid ((leavesF HR seed (2 ^ n)).length = 2 ^ n) := leavesF_len _ _ _
    clear hs hc
    generalize pubF HR seed n = R at *
    unfold keysPost at HL
    generalize leavesF HR seed (2 ^ n) = LL at *
    generalize 2 ^ n = N at *
    go_enter Tryz.func80, Tryz.ntmps80
    go_wp2_with fail
    refine hf.mono ?_
    rintro e w1 ⟨rfl, hw1⟩
    obtain rfl : w = w1 := hw1.symm
    clear hf hw1
    go_wp2_with fail
    refine (HL.out w).mono ?_
    rintro e w2 ⟨ao, cap, rfl, ho2, hb2⟩
    have hr := HR'.out w2 (.slice ao N cap) (leaf_own (by rw [HLL.out]; exact ho2))
    clear ho2
    go_wp2_with fail
    refine hr.mono ?_
    rintro e w3 ⟨rfl, hb3⟩
    clear hr
    go_wp2_with fail
    go_ret2
    exact ⟨rfl, hb2.trans (hb3.mono hb2.size)⟩
  · rw [show rpubV seed h = .tuple #[.string ⟨#[]⟩, .int .i64 11] by unfold rpubV; rw [if_neg hc]]
    rw [show decide (seed.size = 32 ∧ 0 ≤ h ∧ h ≤ 5) = false from decide_eq_false hc] at hf
    clear hc hs
    go_enter Tryz.func80, Tryz.ntmps80
    go_wp2_with fail
    refine hf.mono ?_
    rintro e w1 ⟨rfl, hw1⟩
    obtain rfl : w = w1 := hw1.symm
    clear hf hw1
    go_wp2_with fail
    go_ret2
    exact ⟨rfl, Below.refl _ _⟩
end Go.Proofs.YtijdnpoenpjnlaaGreatDoor
set_option linter.unusedVariables false
set_option linter.unusedSimpArgs false
namespace Go.Proofs.YtijdnpoenpjnlaaGreatDoor
open Go.RowKit

theorem strN_app (a b : List Int) : strOfNums (a ++ b) = strOfNums a ++ strOfNums b := by
  unfold strOfNums
  apply ByteArray.ext
  simp
theorem strN_snoc (L : List Int) (s : ByteArray) : strOfNums L ++ s = strOfNums (L ++ numsOf s) := by rw [strN_app, str_nums]
theorem bapp_nil (x : ByteArray) : x ++ (⟨#[]⟩ : ByteArray) = x := by apply ByteArray.ext; simp
theorem sigN_eq (H : ByteArray → ByteArray) (seed : ByteArray) (h k : Nat) (msg : ByteArray) : sigF H seed h k msg = strOfNums [(k : Int) % 256] ++ valuesF H seed k msg ++ strOfNums (joinN (inclF H (leavesF H seed (2 ^ h)) k)) := by
  unfold sigF sigN; rw [strN_app, strN_app, str_nums]
theorem pow_int (h : Nat) (hh : h ≤ 5) : wrap64 ((2 : Int) ^ h) = ((2 ^ h : Nat) : Int) := by
  obtain rfl | rfl | rfl | rfl | rfl | rfl : h = 0 ∨ h = 1 ∨ h = 2 ∨ h = 3 ∨ h = 4 ∨ h = 5 := by omega
  all_goals (unfold wrap64; decide)

set_option maxRecDepth 10000 in
set_option maxHeartbeats 2000000 in
theorem rsign_any (seed : ByteArray) (h k : Nat) (msg : ByteArray) (w : World) (hs : seed.size = 32) (hh : h ≤ 5) (hk : k < 2 ^ h) (hm : msg.size ≤ 1000000) :
    Calls Tryz.prog 82 #[.string seed, .int .i64 h, .int .i64 k, .string msg] w fun e w' => e = .returned (.tuple #[.string (sigF HR seed h k msg), .int .i64 0]) ∧ Below w.heap.size w w' := by
  have hf := seeded_any seed h w (by omega)
  rw [show decide (seed.size = 32 ∧ 0 ≤ (h : Int) ∧ (h : Int) ≤ 5) = true from decide_eq_true ⟨hs, by omega, by omega⟩] at hf
  have hN32 : 2 ^ h ≤ 32 := Nat.pow_le_pow_right (n := 2) (by omega) hh
  have hpw := pow_int h hh
  have HDG : Hid (∀ W, Calls Tryz.prog 128 #[.string msg] W fun e w' => e = .returned (.agg (digV (HR msg)).toArray) ∧ Below W.heap.size W w') := fun W => rdigits_any msg W hm
  have HBG : Hid (∀ (c : Nat) W, Calls Tryz.prog 129 #[.string seed, .int .i64 k, .int .i64 c] W (strPost (beginF HR seed k c) W)) := fun c W => rbegin_any seed k c W (by omega)
  have HCH : Hid (∀ (c : Nat) W, Calls Tryz.prog 130 #[.string (beginF HR seed k c), .int .i64 (dig (HR msg) c : Nat)] W (strPost (stepF HR (beginF HR seed k c) (dig (HR msg) c)) W)) := fun c W => rchained_any _ _ W (HR_size _) (dig_le _ _)
  have HKY : Hid (∀ W, Calls Tryz.prog 126 #[.string seed, .int .i64 h] W (keysPost seed (2 ^ h) W)) := fun W => rkeys_any seed h W (by omega) hh
  have HIN : Hid (∀ W v, LeafAt W v (leavesF HR seed (2 ^ h)) → Calls Tryz.prog 72 #[v, .int .i64 k] W fun e w' => madeL W w' e (inclF HR (leavesF HR seed (2 ^ h)) k)) := fun W v hl => rincl_any _ (leavesF HR seed (2 ^ h)) v k W (leavesF_len _ _ _) hk (by omega) hl (leavesR_small seed _)
  have HLL : Hid ((leavesF HR seed (2 ^ h)).length = 2 ^ h) := leavesF_len _ _ _
  have HF32 : Hid (∀ b ∈ inclF HR (leavesF HR seed (2 ^ h)) k, b.size = 32) := inclF_sizesP _ HR_size _ _ k rfl
  have HFL : Hid ((inclF HR (leavesF HR seed (2 ^ h)) k).length = h) := inclF_pow _ h _ k (leavesF_len _ _ _)
  have HCS : Hid (∀ c, (chainsT HR (beginF HR seed k) (fun c => dig (HR msg) c) c).size = 32 * c) := chainsT_size HR HR_size (beginF HR seed k) (fun c => dig (HR msg) c) (fun c => HR_size _)
  have idv := digV_info (HR msg)
  have odv := digV_one (HR msg)
  have ldv := digV_len (HR msg)
  have HDV : Hid (∀ (c : Nat), c < 67 → (digV (HR msg))[c]? = some (.int .i64 (dig (HR msg) c : Nat))) := fun c hc => digV_get (HR msg) c hc
  have HCE : Hid (∀ c, chainsT HR (beginF HR seed k) (fun c => dig (HR msg) c) (c + 1) = chainsT HR (beginF HR seed k) (fun c => dig (HR msg) c) c ++ stepF HR (beginF HR seed k c) (dig (HR msg) c)) := fun c => rfl
  have HST : Hid (∀ c, (stepF HR (beginF HR seed k c) (dig (HR msg) c)).size = 32) := fun c => stepF_size HR HR_size _ (HR_size _) _
  rw [sigN_eq]
  unfold valuesF
  unfold keysPost at HKY
  have HC0 : Hid (chainsT HR (beginF HR seed k) (fun c => dig (HR msg) c) 0 = ⟨#[]⟩) := rfl
  generalize inclF HR (leavesF HR seed (2 ^ h)) k = F at *
  generalize leavesF HR seed (2 ^ h) = LL at *
  generalize chainsT HR (beginF HR seed k) (fun c => dig (HR msg) c) = CT at *
  generalize digV (HR msg) = D at *
  generalize dig (HR msg) = dg at *
  generalize 2 ^ h = N at *
  have k1 : ¬ (k : Int) < 0 := by omega
  have k2 : ¬ (N : Int) ≤ (k : Int) := by omega
  clear hm hk hN32
  have O1 : (strOfNums [(k : Int) % 256]).size = 1 := strOfNums_size _
  obtain ⟨O, hO⟩ : ∃ O, O = strOfNums [(k : Int) % 256] := ⟨_, rfl⟩
  rw [← hO] at O1 ⊢
  have HO : Hid (O = strOfNums [(k : Int) % 256]) := hO
  clear hO
  go_enter Tryz.func82, Tryz.ntmps82
  go_wp2_with fail
  refine hf.mono ?_
  rintro e w1 ⟨rfl, hw1⟩
  obtain rfl : w = w1 := hw1.symm
  clear hf hw1
  go_wp2_with fail
  refine (HDG.out w).mono ?_
  rintro e w2 ⟨rfl, hb2⟩
  have ht2 : (w2.alloc (.cells z67.toArray 180)).there w2.heap.size 0 D.length := by rw [ldv]; exact there_z67 w2
  go_wp2_with (first | (refine wpList_alloc_of rfl 180 rfl z67.toArray alloc_67 ?_) | (refine wpList_store_abs rfl 180 _ _ rfl w2.heap.size 0 D rfl rfl ht2 idv odv ?_; intro w3 _hw3 hr3 _ht3 hb3; clear _hw3 _ht3; have hcv := convert_range (w := w3.alloc (.cells #[.int .u8 ((k : Int) % 256)] 5)) (b := w3.heap.size) (cap := 1) (ns := [(k : Int) % 256]) 1 rfl (range_new w3 (bytesV [(k : Int) % 256]) 5); rw [← HO.out] at hcv))
  have hb23 : Below w2.heap.size w2 w3 := ((Below.refl _ _).alloc (Nat.le_refl _) _).trans (hb3 _ (Nat.le_refl _))
  have hq3 : w2.heap.size < w3.heap.size := by have := (hb3 _ (Nat.le_refl _)).size; simp at this; omega
  have hb03 : Below w.heap.size w w3 := hb2.trans (hb23.mono hb2.size)
  obtain ⟨w4, hw4⟩ : ∃ w4, w4 = w3.alloc (.cells #[.int .u8 ((k : Int) % 256)] 5) := ⟨_, rfl⟩
  have hb34 : Below w3.heap.size w3 w4 := by rw [hw4]; exact (Below.refl _ _).alloc (Nat.le_refl _) _
  have HB4 : Hid (Below w.heap.size w w4) := hb03.trans (hb34.mono hb03.size)
  have HR4 : Hid (w4.rangeAt w2.heap.size 0 D ∧ w2.heap.size < w4.heap.size) := ⟨fun j u hu => (hb34.cell (p := ⟨w2.heap.size, 0 + j, none⟩) hq3).trans (hr3 j u hu), Nat.lt_of_lt_of_le hq3 hb34.size⟩
  rw [← hw4]
  clear hcv hw4 hb34 hb03 hb23 hb3 hr3 ht2 hb2 hq3
  go_loopw [12, 13] (fun t i wr => ∃ c : Nat, c ≤ 67 ∧ t = .string (O ++ CT c) ∧ i = .int .i64 c ∧ Hid (Below w4.heap.size w4 wr)) (fun _ i _ => 67 - (intOf i).toNat)
  case atStart => exact ⟨0, by omega, by rw [HC0.out, bapp_nil], rfl, Below.refl _ _⟩
  case round =>
    obtain ⟨c, hc, rfl, rfl, hJ⟩ := hrel
    by_cases hlt : c < 67
    · have c1 : (c : Int) < 67 := by omega
      have hbg := HBG.out c wr
      have hch := HCH.out c
      have s1 : (O ++ CT c).size ≤ 10000 := by rw [ByteArray.size_append, HCS.out c]; omega
      have s2 := HST.out c
      have HE : Hid (O ++ CT c ++ stepF HR (beginF HR seed k c) (dg c) = O ++ CT (c + 1)) := by
        show _ = _
        rw [HCE.out c, ByteArray.append_assoc]
      have HCC : Hid (∀ W, Below w4.heap.size w4 W → W.cell? ⟨w2.heap.size, c, none⟩ = some (.int .i64 (dg c : Nat))) := fun W hb => by
        have := HR4.out.1 c _ (HDV.out c hlt)
        rw [Nat.zero_add] at this
        exact (hb.cell (p := ⟨w2.heap.size, c, none⟩) HR4.out.2).trans this
      generalize stepF HR (beginF HR seed k c) (dg c) = y at *
      generalize beginF HR seed k c = x at *
      generalize O ++ CT c = s at *
      generalize dg c = dc at *
      go_wp2_with fail
      refine hbg.mono ?_
      rintro e w5 ⟨rfl, hb5⟩
      clear hbg
      have hB5 : Below w4.heap.size w4 w5 := hJ.out.trans (hb5.mono hJ.out.size)
      have cc := HCC.out w5 hB5
      go_wp2_with fail
      refine (hch w5).mono ?_
      rintro e w6 ⟨rfl, hb6⟩
      clear hch
      go_wp2_with fail
      refine ⟨⟨c + 1, by omega, by rw [HE.out], by go_num, ?_⟩, ?_⟩
      · exact hB5.trans (hb6.mono hB5.size)
      · simp [intOf]; omega
    · obtain rfl : c = 67 := by omega
      have s1 : (O ++ CT 67).size = 2145 := by rw [ByteArray.size_append, HCS.out 67, O1]
      obtain ⟨P, hP⟩ : ∃ P, P = O ++ CT 67 := ⟨_, rfl⟩
      rw [← hP] at s1 ⊢
      have HP : Hid (P = O ++ CT 67) := hP
      clear hP
      have hB7 : Below w.heap.size w wr := HB4.out.trans (hJ.out.mono HB4.out.size)
      clear hJ
      go_wp2_with fail
      refine (HKY.out wr).mono ?_
      rintro e w7 ⟨ao, cap, rfl, ho7, hb7⟩
      have hin := HIN.out w7 (.slice ao N cap) (leaf_own (by rw [HLL.out]; exact ho7))
      have hB8 : Below w.heap.size w w7 := hB7.trans (hb7.mono hB7.size)
      clear ho7 hb7
      go_wp2_with fail
      refine hin.mono ?_
      rintro e w8 ⟨ao2, cap2, rfl, ho8, hb8⟩
      have hB9 : Below w.heap.size w w8 := hB8.trans (hb8.mono hB8.size)
      have HL8 : Hid (LeafAt w8 (.slice ao2 F.length cap2) F) := leaf_own ho8
      clear hin ho8 hb8
      obtain ⟨n, hn⟩ : ∃ n, n = F.length := ⟨_, rfl⟩
      rw [← hn]
      have HNF : Hid (n = F.length) := hn
      have hn5 : n ≤ 5 := by rw [hn, HFL.out]; exact hh
      clear hn
      go_wp2_with fail
      go_loopw [12, 17] (fun t i w9 => ∃ q : Nat, q ≤ n ∧ t = .string (P ++ strOfNums (joinN (F.take q))) ∧ i = .int .i64 q ∧ w9 = w8) (fun _ i _ => n - (intOf i).toNat)
      case atStart => exact ⟨0, by omega, by rw [List.take_zero, show strOfNums (joinN []) = ⟨#[]⟩ from rfl, bapp_nil], rfl, rfl⟩
      case round =>
        obtain ⟨q, hq, rfl, rfl, hw⟩ := hrel
        obtain rfl : w8 = wr := hw.symm
        clear hw
        by_cases hlt2 : q < n
        · have q1 : (q : Int) < (n : Int) := by omega
          have q0 : (0 : Int) ≤ (q : Int) := by omega
          have hql : q < F.length := by have := HNF.out; omega
          obtain ⟨b, es⟩ : ∃ b, b = F[q]'hql := ⟨_, rfl⟩
          have b32 : b.size = 32 := by rw [es]; exact HF32.out _ (List.getElem_mem hql)
          obtain ⟨gp, off, ea, ca⟩ : ∃ g off, ao2 = some ⟨g, off, none⟩ ∧ w8.cell? ⟨g, off + q, none⟩ = some (.string b) := by
            rcases HL8.out with ⟨e, _⟩ | ⟨g, off, cap', e, _, hh'⟩
            · rw [e] at hql; simp at hql
            · injection e with e1 _ _
              exact ⟨g, off, e1, by rw [hh' q hql, es]⟩
          subst ea
          have sz : (P ++ strOfNums (joinN (F.take q))).size ≤ 10000 := by
            rw [ByteArray.size_append, strOfNums_size, join_all (F.take q) (fun b hb => HF32.out b (List.mem_of_mem_take hb)), List.length_take]; omega
          have HE : Hid (P ++ strOfNums (joinN (F.take q)) ++ b = P ++ strOfNums (joinN (F.take (q + 1)))) := by
            show _ = _
            rw [join_snoc F q hql, List.getD, List.getElem?_eq_getElem hql, ByteArray.append_assoc, strN_snoc, es]; rfl
          generalize P ++ strOfNums (joinN (F.take q)) = S at *
          clear es
          go_wp2_with fail
          refine ⟨⟨q + 1, by omega, by rw [HE.out], by go_num, by trivial⟩, ?_⟩
          simp [intOf]; omega
        · have q1 : ¬ (q : Int) < (n : Int) := by omega
          obtain rfl : q = n := by omega
          have HE : Hid (F.take q = F) := List.take_of_length_le (by rw [← HNF.out]; exact Nat.le_refl _)
          rw [HE.out]
          obtain ⟨S, hS⟩ : ∃ S, S = P ++ strOfNums (joinN F) := ⟨_, rfl⟩
          rw [← hS]
          have HS : Hid (S = P ++ strOfNums (joinN F)) := hS
          clear hS
          go_wp2_with fail
          go_ret2
          exact ⟨by rw [HS.out, HP.out]; rfl, hB9⟩
end Go.Proofs.YtijdnpoenpjnlaaGreatDoor
