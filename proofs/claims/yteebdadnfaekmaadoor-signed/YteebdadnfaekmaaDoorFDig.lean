import Derived.Test.YteebdadnfaekmaaDoorFMathM
set_option linter.unusedVariables false
set_option linter.unusedSimpArgs false
namespace Go.Proofs.YteebdadnfaekmaaDoor
open Go.RowKit

def nibV (h : ByteArray) (m : Nat) : List Value := (List.range m).map fun c => .int .i64 (nib h c : Nat)
theorem nibV_len (h : ByteArray) (m : Nat) : (nibV h m).length = m := by unfold nibV; simp
theorem nibV_two (h : ByteArray) (k : Nat) : nibV h (2 * (k + 1)) = nibV h (2 * k) ++ [.int .i64 (nib h (2 * k) : Nat), .int .i64 (nib h (2 * k + 1) : Nat)] := by
  unfold nibV; rw [show 2 * (k + 1) = 2 * k + 1 + 1 by omega, List.range_succ, List.range_succ]; simp
theorem digV_eq (h : ByteArray) : digV h = nibV h 64 ++ [.int .i64 (lackN h 64 / 256 : Nat), .int .i64 (lackN h 64 / 16 % 16 : Nat), .int .i64 (lackN h 64 % 16 : Nat)] := by
  unfold digV nibV
  rw [show (67 : Nat) = 64 + 1 + 1 + 1 from rfl, List.range_succ, List.range_succ, List.range_succ, List.map_append, List.map_append, List.map_append]
  have : (List.range 64).map (fun c => Value.int .i64 (dig h c : Nat)) = (List.range 64).map (fun c => Value.int .i64 (nib h c : Nat)) := by
    apply List.map_congr_left
    intro c hc
    have := List.mem_range.1 hc
    unfold dig; rw [if_pos this]
  rw [this]
  simp [dig]
theorem info_intT : ∃ i, Tryd.prog.info? 3 = some i ∧ i.zero = some (.int .i64 0) ∧ i.size = 1 ∧ i.bytes = 8 := by
  obtain ⟨i, hi⟩ : ∃ i, Tryd.prog.info? 3 = some i := Option.isSome_iff_exists.1 (by kernel_rfl)
  refine ⟨i, hi, ?_, ?_, ?_⟩
  · have : (Tryd.prog.info? 3).bind (·.zero) = some (.int .i64 0) := by kernel_rfl
    rw [hi] at this; exact this
  · have : (Tryd.prog.info? 3).map (·.size) = some 1 := by kernel_rfl
    rw [hi] at this; exact Option.some.inj this
  · have : (Tryd.prog.info? 3).map (·.bytes) = some 8 := by kernel_rfl
    rw [hi] at this; exact Option.some.inj this
def digPost (h : ByteArray) (w : World) (e : Ending) (w' : World) : Prop := ∃ ao cap, e = .returned (.slice ao 67 cap) ∧ w'.ownsRow w.heap.size 3 1 (.slice ao 67 cap) 67 (digV h) ∧ Below w.heap.size w w'

set_option maxRecDepth 10000 in
set_option maxHeartbeats 2000000 in
theorem kdigits_any (h : ByteArray) (hh : h.size = 32) (w : World) : Calls Tryd.prog 45 #[.string h] w (digPost h w) := by
  obtain ⟨i0, hi, hz, hsz, hby⟩ := info_intT
  have HOWN : Hid (w.ownsRow w.heap.size 3 1 (.slice none 0 0) 0 []) := World.ownsRow_nil _ _ _ _
  go_enter Tryd.func45, Tryd.ntmps45
  go_wp2_with fail
  go_loopw [3, 4, 5] (fun l s i wr => ∃ (k m : Nat) (ao : Option Addr) (cap : Nat), k ≤ 32 ∧ m = 2 * k ∧ i = .int .i64 k ∧ s = .int .i64 (lackN h m : Nat) ∧ l = .slice ao m cap ∧ Hid (wr.ownsRow w.heap.size 3 1 (.slice ao m cap) m (nibV h m) ∧ Below w.heap.size w wr)) (fun _ _ i _ => 32 - (intOf i).toNat)
  case atStart => exact ⟨0, 0, none, 0, by omega, rfl, rfl, rfl, rfl, HOWN.out, Below.refl _ _⟩
  case round =>
    obtain ⟨k, m, ao, cap, hk, hm, rfl, rfl, rfl, hI⟩ := hrel
    by_cases hlt : k < 32
    · have k1 : (k : Int) < 32 := by omega
      have b8 := bAt_lt h k
      have blo := bAt_lo h k
      obtain ⟨x, hx⟩ : ∃ x, x = (bAt h k).toNat := ⟨_, rfl⟩
      have hx2 : bAt h k = (x : Int) := by omega
      rw [← hx] at b8
      have ha := and15 ⟨x, b8⟩
      simp only at ha
      have hgx : ∀ p : k < h.size, (h[k]'p).toNat = x := fun p => by
        have e := bAt_eq h k p
        rw [hx2] at e
        exact Int.ofNat_inj.1 e
      have hl2 := lack_two h k
      rw [← hx] at hl2
      have hlk := lackN_le h (2 * k)
      rw [← hm] at hlk hl2
      have e0 : nib h (2 * k) = x / 16 := by unfold nib; rw [if_pos (by omega), show 2 * k / 2 = k by omega, hx]
      have e1 : nib h (2 * k + 1) = x % 16 := by unfold nib; rw [if_neg (by omega), show (2 * k + 1) / 2 = k by omega, hx]
      have hnv := nibV_two h k
      rw [e0, e1, ← hm, show ((x / 16 : Nat) : Int) = (x : Int) / 16 by omega, show ((x % 16 : Nat) : Int) = (x : Int) % 16 by omega, show 2 * (k + 1) = m + 2 by omega] at hnv
      rw [show 2 * (k + 1) = m + 2 by omega] at hl2
      have HNV : Hid (nibV h (m + 2) = nibV h m ++ [.int .i64 ((x : Int) / 16), .int .i64 ((x : Int) % 16)]) := hnv
      have HL2 : Hid (lackN h (m + 2) = lackN h m + (15 - x / 16) + (15 - x % 16)) := hl2
      generalize lackN h m = L at *
      have HOW : Hid (wr.ownsRow w.heap.size 3 1 (.slice ao m cap) m (nibV h m)) := hI.out.1
      have HB : Hid (Below w.heap.size w wr) := hI.out.2
      have HM : Hid (m = 2 * k) := hm
      have hm64 : m ≤ 64 := by omega
      have hw1 : IntKind.i64.wrap ((x : Int) / 16) = (x : Int) / 16 := wrap_small _ (by omega) (by omega)
      have hw2 : IntKind.i64.wrap ((x : Int) % 16) = (x : Int) % 16 := wrap_small _ (by omega) (by omega)
      clear hI hnv hl2 e0 e1 hx hx2 hm
      go_wp2_with fail
      have B0 : Below w.heap.size w wr.drew := HB.out.drew
      have hoA : wr.drew.ownsRow w.heap.size 3 1 (.slice ao m cap) m (nibV h m) := own_below' HOW.out (Below.refl _ _).drew
      refine wp_region_noPanic ?_
      refine wp_region_held_drew (S := fun W => Below w.heap.size w W) (by kernel_rfl) B0 (fun _ => ?_)
      generalize wr.drew = wd at *
      refine wpAnyH_take (i := 0) (v := ?_) rfl (by kernel_rfl) (by kernel_rfl) (by kernel_rfl) (fun _ _ _ h => h) (Or.inl ⟨by rfl, ?_⟩) B0 ?_
      rotate_left 1
      · intro w hSw; clear hSw; go_simp; try with_reducible rfl
      simp only [List.getElem_toArray, List.getElem_cons_zero, List.getElem_cons_succ, Act.put, List.setIfInBounds_toArray, List.set_cons_zero, List.set_cons_succ]
      refine wpAnyH_take (i := 1) (v := ?_) rfl (by kernel_rfl) (by kernel_rfl) (by kernel_rfl) (fun _ _ _ h => h) (Or.inl ⟨by rfl, ?_⟩) B0 ?_
      rotate_left 1
      · intro w hSw; clear hSw; go_simp; try with_reducible rfl
      simp only [List.getElem_toArray, List.getElem_cons_zero, List.getElem_cons_succ, Act.put, List.setIfInBounds_toArray, List.set_cons_zero, List.set_cons_succ]
      refine wpAnyH_take (i := 2) (v := ?_) rfl (by kernel_rfl) (by kernel_rfl) (by kernel_rfl) (fun _ _ _ h => h) (Or.inl ⟨by rfl, ?_⟩) B0 ?_
      rotate_left 1
      · intro w hSw; clear hSw; go_simp; try with_reducible rfl
      simp only [List.getElem_toArray, List.getElem_cons_zero, List.getElem_cons_succ, Act.put, List.setIfInBounds_toArray, List.set_cons_zero, List.set_cons_succ]
      refine wpAnyH_take (i := 3) (v := ?_) rfl (by kernel_rfl) (by kernel_rfl) (by kernel_rfl) (fun _ _ _ h => h) (Or.inl ⟨by rfl, ?_⟩) B0 ?_
      rotate_left 1
      · intro w hSw; clear hSw; go_simp; try with_reducible rfl
      simp only [List.getElem_toArray, List.getElem_cons_zero, List.getElem_cons_succ, Act.put, List.setIfInBounds_toArray, List.set_cons_zero, List.set_cons_succ]
      refine wpAnyH_take (i := 4) (v := ?_) rfl (by kernel_rfl) (by kernel_rfl) (by kernel_rfl) (fun _ _ _ h => h) (Or.inl ⟨by rfl, ?_⟩) B0 ?_
      rotate_left 1
      · intro w hSw; clear hSw; go_simp; try with_reducible rfl
      simp only [List.getElem_toArray, List.getElem_cons_zero, List.getElem_cons_succ, Act.put, List.setIfInBounds_toArray, List.set_cons_zero, List.set_cons_succ]
      refine wpAnyH_take (i := 5) (v := ?_) rfl (by kernel_rfl) (by kernel_rfl) (by kernel_rfl) (fun _ _ _ h => h) (Or.inl ⟨by rfl, ?_⟩) B0 ?_
      rotate_left 1
      · intro w hSw; clear hSw; go_simp; try with_reducible rfl
      simp only [List.getElem_toArray, List.getElem_cons_zero, List.getElem_cons_succ, Act.put, List.setIfInBounds_toArray, List.set_cons_zero, List.set_cons_succ]
      refine wpAnyH_take (i := 6) (v := ?_) rfl (by kernel_rfl) (by kernel_rfl) (by kernel_rfl) (fun _ _ _ h => h) (Or.inl ⟨by rfl, ?_⟩) B0 ?_
      rotate_left 1
      · intro w hSw; clear hSw; go_simp; try with_reducible rfl
      simp only [List.getElem_toArray, List.getElem_cons_zero, List.getElem_cons_succ, Act.put, List.setIfInBounds_toArray, List.set_cons_zero, List.set_cons_succ]
      refine wpAnyH_take (i := 7) (v := ?_) rfl (by kernel_rfl) (by kernel_rfl) (by kernel_rfl) (fun _ _ _ h => h) (Or.inl ⟨by rfl, ?_⟩) B0 ?_
      rotate_left 1
      · intro w hSw; clear hSw; go_simp; try with_reducible rfl
      simp only [List.getElem_toArray, List.getElem_cons_zero, List.getElem_cons_succ, Act.put, List.setIfInBounds_toArray, List.set_cons_zero, List.set_cons_succ]
      refine wpAnyH_take (i := 8) (v := ?_) rfl (by kernel_rfl) (by kernel_rfl) (by kernel_rfl) (fun _ _ _ h => h) (Or.inl ⟨by rfl, ?_⟩) B0 ?_
      rotate_left 1
      · intro w hSw; clear hSw; go_simp; try with_reducible rfl
      simp only [List.getElem_toArray, List.getElem_cons_zero, List.getElem_cons_succ, Act.put, List.setIfInBounds_toArray, List.set_cons_zero, List.set_cons_succ]
      refine wpAnyH_take (i := 9) (v := ?_) rfl (by kernel_rfl) (by kernel_rfl) (by kernel_rfl) (fun _ _ _ h => h) (Or.inl ⟨by rfl, ?_⟩) B0 ?_
      rotate_left 1
      · intro w hSw; clear hSw; go_simp; try with_reducible rfl
      simp only [List.getElem_toArray, List.getElem_cons_zero, List.getElem_cons_succ, Act.put, List.setIfInBounds_toArray, List.set_cons_zero, List.set_cons_succ]
      refine wpAnyH_take (i := 10) (v := ?_) rfl (by kernel_rfl) (by kernel_rfl) (by kernel_rfl) (fun _ _ _ h => h) (Or.inl ⟨by rfl, ?_⟩) B0 ?_
      rotate_left 1
      · intro w hSw; clear hSw; go_simp; try with_reducible rfl
      simp only [List.getElem_toArray, List.getElem_cons_zero, List.getElem_cons_succ, Act.put, List.setIfInBounds_toArray, List.set_cons_zero, List.set_cons_succ]
      refine wpAnyH_ready (rs := [11]) (by kernel_rfl) (by simp) ?_
      refine AllReadyH.cons rfl (fun K hK => ?_) AllReadyH.nil
      rw [if_pos (by rfl)]
      go_simp
      have hb4 : Below wd.heap.size wd (wd.alloc (.cells #[.int .i64 ((x : Int) / 16), .int .i64 ((x : Int) % 16)] 3)) := (Below.refl _ _).alloc (Nat.le_refl _) _
      have B4 : Below w.heap.size w (wd.alloc (.cells #[.int .i64 ((x : Int) / 16), .int .i64 ((x : Int) % 16)] 3)) := B0.trans (hb4.mono B0.size)
      have ho4 := own_below' hoA hb4
      have hnews : ∀ j u, ([.int .i64 ((x : Int) / 16), .int .i64 ((x : Int) % 16)] : List Value)[j]? = some u → (wd.alloc (.cells #[.int .i64 ((x : Int) / 16), .int .i64 ((x : Int) % 16)] 3)).cell? ((⟨wd.heap.size, 0, none⟩ : Addr).add j) = some u := World.news_of_block (heap_alloc_new wd (.cells #[.int .i64 ((x : Int) / 16), .int .i64 ((x : Int) % 16)] 3))
      refine hK.out _ _ B4 (fun _ => ?_)
      clear hK K
      try simp only [List.getElem_toArray, List.getElem_cons_zero, List.getElem_cons_succ, Act.put, List.setIfInBounds_toArray, List.set_cons_zero, List.set_cons_succ]
      refine wpAnyH_ready (rs := [12]) (by kernel_rfl) (by simp) ?_
      refine AllReadyH.cons rfl (fun K hK => ?_) AllReadyH.nil
      rw [if_pos (by rfl)]
      refine wp_append_lies _ (.tmp 12) (.tmp 23) 68 rfl w.heap.size 3 i0 _ 1 8 Tryd.underlying68 hi hz hsz hby rfl (by decide) (.slice ao m cap) m _ rfl ho4 ⟨wd.heap.size, 0, none⟩ 2 2 [.int .i64 ((x : Int) / 16), .int .i64 ((x : Int) % 16)] rfl rfl hnews (by simp [Value.oneCell']) (by decide) (by unfold maxLen; omega) (by omega) B4.size _ rfl ?_
      intro g5 cap5 w5 ho5 hgr5 hat5 hlt5
      have B5 : Below w.heap.size w w5 := B4.trans ((Below.refl _ _).grown hgr5 B4.size (fun k hk => (ho4.lt k hk).1))
      refine hK.out _ _ B5 (fun _ => ?_)
      clear hK K
      try simp only [List.getElem_toArray, List.getElem_cons_zero, List.getElem_cons_succ, Act.put, List.setIfInBounds_toArray, List.set_cons_zero, List.set_cons_succ]
      refine wpAnyH_ready (rs := [13]) (by kernel_rfl) (by simp) ?_
      refine AllReadyH.cons rfl (fun K hK => ?_) AllReadyH.nil
      rw [if_pos (by rfl)]
      go_simp
      refine hK.out _ _ B5 (fun _ => ?_)
      clear hK K
      try simp only [List.getElem_toArray, List.getElem_cons_zero, List.getElem_cons_succ, Act.put, List.setIfInBounds_toArray, List.set_cons_zero, List.set_cons_succ]
      refine ⟨by kernel_rfl, ?_⟩
      refine NoPanic.normal ?_
      try simp only [List.getElem_toArray, List.getElem_cons_zero, List.getElem_cons_succ, Act.put, List.setIfInBounds_toArray, List.set_cons_zero, List.set_cons_succ]
      go_wp2_with fail
      have ho6 : w5.ownsRow w.heap.size 3 1 (.slice (some ⟨g5, 0, none⟩) (m + 2) cap5) (m + 2) (nibV h (m + 2)) := by rw [HNV.out]; exact ho5
      have HO6 : Hid (w5.ownsRow w.heap.size 3 1 (.slice (some ⟨g5, 0, none⟩) (m + 2) cap5) (m + 2) (nibV h (m + 2))) := ho6
      have HB6 : Hid (Below w.heap.size w w5) := B5
      clear ho4 ho5 ho6 hgr5 hat5 hlt5 B0 B4 B5 hb4 hnews hoA HB HOW HNV
      have hw3 : IntKind.i64.wrap ((L : Int) + 30) = (L : Int) + 30 := wrap_small _ (by omega) (by omega)
      have hw4 : IntKind.i64.wrap ((L : Int) + 30 - (x : Int) / 16) = (L : Int) + 30 - (x : Int) / 16 := wrap_small _ (by omega) (by omega)
      have hw5 : IntKind.i64.wrap ((L : Int) + 30 - (x : Int) / 16 - (x : Int) % 16) = (L : Int) + 30 - (x : Int) / 16 - (x : Int) % 16 := wrap_small _ (by omega) (by omega)
      go_quiet (fail)
      go_wp2_with fail
      refine ⟨⟨k + 1, m + 2, some ⟨g5, 0, none⟩, cap5, by omega, by have := HM.out; omega, by go_num, ?_, rfl, ?_, ?_⟩, ?_⟩
      · rw [HL2.out]; congr 1; omega
      · exact own_below' HO6.out (below_draws (Below.refl _ _) _)
      · exact below_draws HB6.out _
      · simp [intOf]; omega
    · obtain rfl : k = 32 := by omega
      obtain rfl : m = 64 := by omega
      have hlk := lackN_le h 64
      have HDV := digV_eq h
      obtain ⟨L, hL⟩ : ∃ L, L = lackN h 64 := ⟨_, rfl⟩
      rw [← hL] at hlk HDV ⊢
      obtain ⟨A, hA⟩ : ∃ A, A = L / 256 := ⟨_, rfl⟩
      obtain ⟨B1, hB1⟩ : ∃ B1, B1 = L / 16 := ⟨_, rfl⟩
      obtain ⟨B2, hB2⟩ : ∃ B2, B2 = B1 % 16 := ⟨_, rfl⟩
      obtain ⟨C, hC⟩ : ∃ C, C = L % 16 := ⟨_, rfl⟩
      rw [← hA, ← hB1, ← hB2, ← hC] at HDV
      have HD : Hid (digV h = nibV h 64 ++ [.int .i64 (A : Int), .int .i64 (B2 : Int), .int .i64 (C : Int)]) := HDV
      have q1 : (L : Int).tdiv 256 = (A : Int) := by rw [Int.tdiv_eq_ediv_of_nonneg (by omega)]; omega
      have q2 : (L : Int).tdiv 16 = (B1 : Int) := by rw [Int.tdiv_eq_ediv_of_nonneg (by omega)]; omega
      have r2 : (B1 : Int).tmod 16 = (B2 : Int) := by rw [Int.tmod_eq_emod_of_nonneg (by omega)]; omega
      have r3 : (L : Int).tmod 16 = (C : Int) := by rw [Int.tmod_eq_emod_of_nonneg (by omega)]; omega
      have q1' : (L : Int) / 256 = (A : Int) := by omega
      have q2' : (L : Int) / 16 = (B1 : Int) := by omega
      have r2' : (B1 : Int) % 16 = (B2 : Int) := by omega
      have r3' : (L : Int) % 16 = (C : Int) := by omega
      clear HDV hA hB1 hB2 hC hL
      have HB : Hid (Below w.heap.size w wr) := hI.out.2
      have ho4 : (wr.alloc (.cells #[.int .i64 (A : Int), .int .i64 (B2 : Int), .int .i64 (C : Int)] 3)).ownsRow w.heap.size 3 1 (.slice ao 64 cap) 64 (nibV h 64) := hI.out.1.alloc _
      have hnews : ∀ j u, ([.int .i64 (A : Int), .int .i64 (B2 : Int), .int .i64 (C : Int)] : List Value)[j]? = some u → (wr.alloc (.cells #[.int .i64 (A : Int), .int .i64 (B2 : Int), .int .i64 (C : Int)] 3)).cell? ((⟨wr.heap.size, 0, none⟩ : Addr).add j) = some u := World.news_of_block (heap_alloc_new wr (.cells #[.int .i64 (A : Int), .int .i64 (B2 : Int), .int .i64 (C : Int)] 3))
      have hBs := hI.out.2.size
      clear hI
      go_wp2_with (refine wpList_append_lies _ rfl _ _ 68 rfl w.heap.size 3 i0 _ 1 8 Tryd.underlying68 hi hz hsz hby rfl (by decide) (.slice ao 64 cap) 64 _ rfl ho4 ⟨wr.heap.size, 0, none⟩ 3 3 [.int .i64 (A : Int), .int .i64 (B2 : Int), .int .i64 (C : Int)] rfl rfl hnews (by simp [Value.oneCell']) (by decide) (by unfold maxLen; omega) (by omega) (by simp; omega) _ rfl ?_; intro g5 cap5 w5 ho5 hgr5 hat5 hlt5)
      go_ret
      refine ⟨some ⟨g5, 0, none⟩, cap5, rfl, ?_, ?_⟩
      · rw [HD.out]; exact ho5
      · exact HB.out.trans (((Below.refl _ _).alloc hBs _).trans ((Below.refl _ _).grown hgr5 (by simp; omega) (fun g e => (ho4.lt g e).1)))
end Go.Proofs.YteebdadnfaekmaaDoor
