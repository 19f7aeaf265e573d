import Derived.Test.YteglimjonofdeaaGreatDoorNNode3M
import Derived.Test.YteglimjonofdeaaGreatDoorNOpen2
set_option linter.unusedVariables false
set_option linter.unusedSimpArgs false
namespace Go.Proofs.YteglimjonofdeaaGreatDoor
open Go.RowKit

theorem bk_built (j lm m : Nat) : Tryz.prog.built 177 [(0, .pointer (some ⟨j, 0, none⟩)), (2, .map (some lm)), (3, .map (some m))] = some (bkL j lm m 0 (.slice none 0 0)).toArray := by kernel_rfl
/-- A fresh book in three new blocks. -/
theorem book_made {w W W1 W2 W3 : World} {q bb N j u : Nat} {C : Nat → List Int} {l : ByteArray} (hw : w.heap.size ≤ W.heap.size) (hJ : JAt W q bb N j u C l) (h1 : W1 = W.alloc (.map #[] 0)) (h2 : W2 = W1.alloc (.map #[] 0)) (h3 : W3 = W2.alloc (.cells (bkL j W.heap.size (W.heap.size + 1) 0 (.slice none 0 0)).toArray 177)) :
    BookAt W3 (W.heap.size + 2) j W.heap.size (W.heap.size + 1) 0 0 (.slice none 0 0) [] (fun g => g = W.heap.size + 1) (fun _ => False) (.map []) ∧ JAt W3 q bb N j u C l ∧ Below W.heap.size W W3 := by
  have s1 : W1.heap.size = W.heap.size + 1 := by rw [h1]; simp
  have s2 : W2.heap.size = W.heap.size + 2 := by rw [h2]; simp; omega
  have s3 : W3.heap.size = W.heap.size + 3 := by rw [h3]; simp; omega
  have b1 : Below W.heap.size W W1 := by rw [h1]; exact (Below.refl _ _).alloc (Nat.le_refl _) _
  have b2 : Below W1.heap.size W1 W2 := by rw [h2]; exact (Below.refl _ _).alloc (Nat.le_refl _) _
  have b3 : Below W2.heap.size W2 W3 := by rw [h3]; exact (Below.refl _ _).alloc (Nat.le_refl _) _
  have B : Below W.heap.size W W3 := (b1.trans (b2.mono (by omega))).trans (b3.mono (by omega))
  have hm1 : W1.heap[W.heap.size]? = some (.map #[] 0) := by rw [h1]; exact heap_alloc_new W _
  have hm2 : W2.heap[W.heap.size + 1]? = some (.map #[] 0) := by rw [h2, ← s1]; exact heap_alloc_new W1 _
  have hL : W3.heap[W.heap.size]? = some (.map #[] 0) := (b3.block _ (by omega)).trans ((b2.block _ (by omega)).trans hm1)
  have hM : W3.heap[W.heap.size + 1]? = some (.map #[] 0) := (b3.block _ (by omega)).trans hm2
  have hr : W3.rangeAt (W.heap.size + 2) 0 (bkL j W.heap.size (W.heap.size + 1) 0 (.slice none 0 0)) := by
    have := range_new W2 (bkL j W.heap.size (W.heap.size + 1) 0 (.slice none 0 0)) 177
    rw [← h3, s2] at this; exact this
  have ht : W3.there (W.heap.size + 2) 0 5 := by
    have := there_new W2 (bkL j W.heap.size (W.heap.size + 1) 0 (.slice none 0 0)).toArray 177
    rw [← h3, s2] at this; exact this
  have made : ∀ (R : Value → Option (DataW Unit × List MemPlace)) (b : Nat), W3.heap[b]? = some (.map #[] 0) → W3.ownsMap Tryz.prog 3 R b 0 (.map []) := fun R b hb => ⟨#[], 0, hb, ⟨by simp, MapKept.stamped_empty 0, by simp⟩, Nat.le_refl _, rfl⟩
  refine ⟨⟨by omega, hr, ht, ⟨rfl, Or.inl ⟨rfl, rfl⟩⟩, made _ _ hL, ⟨⟨_, made _ _ hM⟩, (fun r hr => hr.elim), rfl, (fun g hg => by omega)⟩, (fun e he => by cases he), ⟨by omega, by omega, by omega⟩, (fun g hg => by cases hg)⟩, hJ.kept (Kept.fresh (S := fun _ => False) B) (fun _ _ => id), B⟩
/-- What Open of a fresh journal leaves. -/
def bopPost (q bb N : Nat) (C : Nat → List Int) (w : World) (e : Ending) (w' : World) : Prop :=
  ∃ bk j lm m l, e = .returned (.tuple #[.pointer (some ⟨bk, 0, none⟩), .nilIface]) ∧ JAt w' q bb N j 1 C l ∧ BookAt w' bk j lm m 0 0 (.slice none 0 0) [] (fun g => g = m) (fun _ => False) (.map []) ∧ (w.heap.size ≤ j ∧ w.heap.size ≤ bk ∧ w.heap.size ≤ lm ∧ w.heap.size ≤ m) ∧ (j ≠ bk ∧ j ≠ lm ∧ j ≠ m) ∧ Kept (fun g => g = q ∨ g = bb) w w'

set_option maxRecDepth 10000 in
set_option maxHeartbeats 2000000 in
theorem bopen_any (K : Nat → Int) (q bb N : Nat) (C : Nat → List Int) (r : ByteArray) (w : World) (hn : N ≤ 1000) (hn8 : 8 ≤ N) (hr : r.size ≤ 18) (hD : DiskAt w q bb N C (.slice none 0 0) []) (T : Tab K w) (hpT : ¬ 1 = q)
    (hC0 : C 0 = packN K (sumOf K origT) r) (hC1 : C 1 = z128) (hno : z128.take 32 ≠ (packN K (sumOf K (sumOf K origT ++ r)) ⟨#[]⟩).take 32) :
    Calls Tryz.prog 134 #[.agg (volL q N).toArray] w (bopPost q bb N C w) := by
  obtain ⟨V, hV⟩ : ∃ V, V = w.alloc (.cells (volL q N).toArray 222) := ⟨_, rfl⟩
  have hVs : V.heap.size = w.heap.size + 1 := by rw [hV]; simp
  have bV : Below w.heap.size w V := by rw [hV]; exact (Below.refl _ _).alloc (Nat.le_refl _) _
  have rV : V.rangeAt w.heap.size 0 (volL q N) := by rw [hV]; exact range_new _ _ _
  have hop := jopen_any K q bb N C r V hn hn8 hr (hD.fresh bV) (T.below bV) hpT hC0 hC1 hno
  have HBV : Hid (Below w.heap.size w V) := bV
  have HIV : Hid ((Tryz.prog.info? 222).map (·.size) = some (volL q N).length) := info_vol q N
  have HQL : Hid (q < w.heap.size ∧ bb < w.heap.size) := hD.lt
  have hmm := @run_makeMap Tryz.prog
  clear hD T hC0 hC1 hno bV
  generalize hcs : (volL q N).toArray = cs at *
  go_enter Tryz.func134, Tryz.ntmps134
  go_wp2_with (first
    | (rw [← hV]; clear hV)
    | (refine wpList_load_mid rfl 222 _ rfl w.heap.size 0 rfl (volL q N) _ rV Tryz.underlying222 rfl HIV.out ?_; rw [hcs]))
  refine hop.mono ?_
  rintro e W ⟨j, a, c, rfl, hj0, hj1, hjr, hjt, hd, hk⟩
  have s0 := hk.size
  have hJ : Hid (JAt W q bb N j 1 C _) := ⟨hd, hjr, hjt, sumOf_size _ _, ⟨by have := HQL.out.1; omega, by have := HQL.out.2; omega⟩, hj1⟩
  have HK : Hid (Kept (fun g => g = q ∨ g = bb) w W) := (Kept.fresh HBV.out).trans hk (fun _ _ h => h)
  obtain ⟨W1, h1⟩ : ∃ X, X = W.alloc (.map #[] 0) := ⟨_, rfl⟩
  obtain ⟨W2, h2⟩ : ∃ X, X = W1.alloc (.map #[] 0) := ⟨_, rfl⟩
  obtain ⟨W3, h3⟩ : ∃ X, X = W2.alloc (.cells (bkL j W.heap.size (W.heap.size + 1) 0 (.slice none 0 0)).toArray 177) := ⟨_, rfl⟩
  have HM : Hid (_ ∧ _ ∧ _) := book_made (w := w) (by omega) hJ.out h1 h2 h3
  have s1 : W1.heap.size = W.heap.size + 1 := by rw [h1]; simp
  have s2 : W2.heap.size = W.heap.size + 2 := by rw [h2]; simp; omega
  have hbb := bk_built j W.heap.size (W.heap.size + 1)
  clear hop hd hjr hjt hk rV
  go_wp2_with (first
    | (rw [← h1]; clear h1)
    | (rw [← h2]; clear h2)
    | (refine wpList_build_tm rfl 177 _ rfl _ (Eq.trans (congrArg (Tryz.prog.built _) (by simp [Act.eval])) hbb) ?_)
    | (rw [← h3]; clear h3))
  go_loopw [26] (fun i wr => i = .int .i64 0 ∧ wr = W3) (fun _ _ => 0)
  case atStart => exact ⟨rfl, rfl⟩
  case round =>
    obtain ⟨rfl, rfl⟩ := hrel
    go_wp2_with fail
    go_ret2
    refine ⟨W.heap.size + 2, j, W.heap.size, W.heap.size + 1, _, rfl, HM.out.2.1, HM.out.1, ⟨by omega, by omega, by omega, by omega⟩, ⟨by omega, by omega, by omega⟩, HK.out.trans (Kept.fresh HM.out.2.2) (fun _ _ h => h)⟩
end Go.Proofs.YteglimjonofdeaaGreatDoor
set_option linter.unusedVariables false
set_option linter.unusedSimpArgs false
namespace Go.Proofs.YteglimjonofdeaaGreatDoor
open Go.RowKit

set_option maxHeartbeats 400000 in
theorem fits_any (z : Nv) (w : World) (h0 : 0 ≤ z.r) (h1 : z.r ≤ z.last) (h2 : z.last < 3) : Calls Tryz.prog 133 #[.agg (plL z).toArray] w fun e w' => e = .returned (.bool true) ∧ Below w.heap.size w w' := by
  unfold plL
  go_enter Tryz.func133, Tryz.ntmps133
  go_wp2_with fail
  go_ret
  exact ⟨rfl, (Below.refl _ _).alloc (Nat.le_refl _) _⟩
set_option maxHeartbeats 400000 in
theorem sfits_any (s : ByteArray) (h : Int) (w : World) (hs : s.size = 32) (h0 : 0 ≤ h) (h8 : h ≤ 5) : Calls Tryz.prog 74 #[.string s, .int .i64 h] w fun e w' => e = .returned (.bool true) ∧ w' = w := by
  have hs' : (s.size : Int) = 32 := by omega
  go_enter Tryz.func74, Tryz.ntmps74
  go_wp2_with fail
  go_ret
  exact ⟨rfl, rfl⟩
theorem pl_built (z : Nv) : Tryz.prog.built 108 [(0, .int .i64 z.r), (1, .int .i64 z.last)] = some (plL z).toArray := by kernel_rfl
/-- A node that was opened just now. -/
def nv0 (r last : Int) (s : ByteArray) (h : Int) : Nv := ⟨r, last, s, h, 0, false, ⟨#[]⟩, 0⟩
theorem alloc_pl (w : World) : (Instr.alloc 108 true (.tuple #[])).run Tryz.prog w = .ok (.pointer (some ⟨w.heap.size, 0, none⟩)) (w.alloc (.cells (plL (nv0 0 0 ⟨#[]⟩ 0)).toArray 108)) := by kernel_rfl
theorem pl_one (z : Nv) : ∀ u ∈ plL z, u.oneCell' = true := by intro u hu; simp [plL] at hu; rcases hu with rfl | rfl <;> rfl
theorem nd_built (r last : Int) (s : ByteArray) (h : Int) (bk : Nat) : Tryz.prog.built 111 [(0, .agg (plL (nv0 r last s h)).toArray), (1, .pointer (some ⟨bk, 0, none⟩)), (2, .string s), (3, .int .i64 h)] = some (ndL (nv0 r last s h) bk).toArray := by kernel_rfl
theorem alloc_vl (w : World) : (Instr.alloc 222 true (.tuple #[])).run Tryz.prog w = .ok (.pointer (some ⟨w.heap.size, 0, none⟩)) (w.alloc (.cells #[.nilIface, .int .i64 0] 222)) := by kernel_rfl
/-- What Open of a fresh disk leaves: a node that is alone. -/
def nopPost (K : Nat → Int) (z : Nv) (q bb N : Nat) (C : Nat → List Int) (w : World) (e : Ending) (w' : World) : Prop :=
  ∃ nd bk j lm m l, e = .returned (.tuple #[.pointer (some ⟨nd, 0, none⟩), .nilIface]) ∧ Al K w' z nd q bb N j 1 C l bk lm m 0 0 (.slice none 0 0) [] (fun g => g = m) (fun _ => False) (.map []) ∧ (w.heap.size ≤ j ∧ w.heap.size ≤ bk ∧ w.heap.size ≤ lm ∧ w.heap.size ≤ m ∧ w.heap.size ≤ nd) ∧ Kept (fun g => g = q ∨ g = bb) w w'

set_option maxRecDepth 10000 in
set_option maxHeartbeats 4000000 in
theorem nopen_any (K : Nat → Int) (ro la h : Int) (q bb N : Nat) (C : Nat → List Int) (r s : ByteArray) (w : World) (hro : 0 ≤ ro) (hrl : ro ≤ la) (hla : la < 3) (hh0 : 0 ≤ h) (hh5 : h ≤ 5) (h4 : N ≤ 400) (hn8 : 8 ≤ N) (hr : r.size ≤ 18) (hs : s.size = 32) (hD : DiskAt w q bb N C (.slice none 0 0) []) (T : Tab K w) (hpT : ¬ 1 = q) (hbT : ¬ 1 = bb)
    (hC0 : C 0 = packN K (sumOf K origT) r) (hC1 : C 1 = z128) (hno : z128.take 32 ≠ (packN K (sumOf K (sumOf K origT ++ r)) ⟨#[]⟩).take 32) :
    Calls Tryz.prog 89 #[devV q, .int .i64 ro, .int .i64 la, .string s, .int .i64 h] w (nopPost K (nv0 ro la s h) q bb N C w) := by
  have hof := volOf_any q bb N C _ _ w hD hn8 h4
  have HD : Hid (DiskAt w q bb N C (.slice none 0 0) []) := hD
  have HT : Hid (Tab K w) := T
  have HNO : Hid (C 0 = packN K (sumOf K origT) r ∧ C 1 = z128 ∧ z128.take 32 ≠ (packN K (sumOf K (sumOf K origT ++ r)) ⟨#[]⟩).take 32) := ⟨hC0, hC1, hno⟩
  have HIV : Hid ((Tryz.prog.info? 222).map (·.size) = some (volL q N).length) := info_vol q N
  have HTL : Hid (1 < w.heap.size) := T.lt
  clear hD T hC0 hC1 hno
  go_enter Tryz.func89, Tryz.ntmps89
  unfold devV at hof ⊢
  go_wp2_with fail
  refine hof.mono ?_
  rintro e W1 ⟨rfl, hb1⟩
  have s1 := hb1.size
  obtain ⟨W2, h2⟩ : ∃ X, X = W1.alloc (.cells #[.nilIface, .int .i64 0] 222) := ⟨_, rfl⟩
  have hs2 : W2.heap.size = W1.heap.size + 1 := by rw [h2]; simp
  have b2 : Below W1.heap.size W1 W2 := by rw [h2]; exact (Below.refl _ _).alloc (Nat.le_refl _) _
  have t2 : W2.there W1.heap.size 0 (volL q N).length := by rw [h2]; exact there_new W1 #[.nilIface, .int .i64 0] _
  have HVI := info_vol q N
  have HVO := volL_one q N
  have HB2 : Hid (Below w.heap.size w W2) := hb1.trans (b2.mono s1)
  clear hof hb1 b2
  generalize hcs : (volL q N).toArray = cs at *
  go_wp2_with (first
    | (refine wpList_alloc_of rfl 222 rfl #[.nilIface, .int .i64 0] alloc_vl ?_; rw [← h2]; clear h2)
    | (refine wpList_store_abs rfl 222 _ _ rfl W1.heap.size 0 (volL q N) rfl (by rw [hcs]; rfl) t2 HVI HVO ?_
       intro W3 hw3 hr3 _ht3 hb3
       have s3 : W3.heap.size = W1.heap.size + 1 := (by rw [hw3, size_setCells]; exact hs2)
       have HB3 : Hid (Below w.heap.size w W3) := HB2.out.trans (hb3 w.heap.size s1)
       have HR3 : Hid (W3.rangeAt W1.heap.size 0 (volL q N)) := hr3
       obtain ⟨W4, h4'⟩ : ∃ X, X = W3.alloc (.cells (plL (nv0 0 0 ⟨#[]⟩ 0)).toArray 108) := ⟨_, rfl⟩
       have s4 : W4.heap.size = W1.heap.size + 2 := (by rw [h4']; simp; omega)
       have b4 : Below W3.heap.size W3 W4 := (by rw [h4']; exact (Below.refl _ _).alloc (Nat.le_refl _) _)
       have t4 : W4.there (W1.heap.size + 1) 0 (plL (nv0 ro la s h)).length := (by have := there_new W3 (plL (nv0 0 0 ⟨#[]⟩ 0)).toArray 108; rw [← h4', s3] at this; exact this)
       have HB4 : Hid (Below w.heap.size w W4) := HB3.out.trans (b4.mono (by omega))
       have HR4 : Hid (W4.rangeAt W1.heap.size 0 (volL q N)) := range_kept HR3.out (Kept.fresh (S := fun _ => False) b4) (by omega) id
       have hpb : Tryz.prog.built 108 [(0, .int .i64 ro), (1, .int .i64 la)] = some (plL (nv0 ro la s h)).toArray := pl_built (nv0 ro la s h)
       clear _ht3 hw3 hb3 hr3 t2 b4)
    | (refine wpList_build_tm rfl 108 _ rfl _ (Eq.trans (congrArg (Tryz.prog.built _) (by simp [Act.eval])) hpb) ?_)
    | (refine wpList_alloc_of rfl 108 rfl (plL (nv0 0 0 ⟨#[]⟩ 0)).toArray alloc_pl ?_; rw [← h4']; clear h4'; rw [s3])
    | (refine wpList_store_abs rfl 108 _ _ rfl (W1.heap.size + 1) 0 (plL (nv0 ro la s h)) rfl rfl t4 (info_pl _) (pl_one _) ?_
       intro W5 hw5 hr5 _ht5 hb5
       have s5 : W5.heap.size = W1.heap.size + 2 := (by rw [hw5, size_setCells]; exact s4)
       have HB5 : Hid (Below w.heap.size w W5) := HB4.out.trans (hb5 w.heap.size (by omega))
       have k5 : Kept (· = W1.heap.size + 1) W4 W5 := (by rw [hw5]; exact Kept.setCells _ _ _ _ (Or.inl rfl))
       have HR5 : Hid (W5.rangeAt W1.heap.size 0 (volL q N)) := range_kept HR4.out k5 (by omega) (by show ¬ W1.heap.size = W1.heap.size + 1; omega)
       clear _ht5 hw5 hb5 t4 k5)
    | (refine wpList_load_mid rfl 108 _ rfl (W1.heap.size + 1) 0 rfl (plL (nv0 ro la s h)) _ hr5 Tryz.underlying108 rfl (info_pl _) ?_))
  refine (fits_any (nv0 ro la s h) W5 hro hrl hla).mono ?_
  rintro e W6 ⟨rfl, hb6⟩
  have s6 := hb6.size
  have HB6 : Hid (Below w.heap.size w W6) := HB5.out.trans (hb6.mono (by omega))
  have r6 : W6.rangeAt W1.heap.size 0 (volL q N) := range_kept HR5.out (Kept.fresh (S := fun _ => False) hb6) (by omega) id
  have p6 : W6.rangeAt (W1.heap.size + 1) 0 (plL (nv0 ro la s h)) := range_kept hr5 (Kept.fresh (S := fun _ => False) hb6) (by omega) id
  clear hb6 hr5
  have hfit := sfits_any s h W6 hs hh0 hh5
  go_wp2_with fail
  refine hfit.mono ?_
  rintro e W7 ⟨rfl, hw7⟩
  obtain rfl : W6 = W7 := hw7.symm
  clear hw7 hfit
  have hbo := bopen_any K q bb N C r W6 (by omega) hn8 hr (HD.out.fresh HB6.out) (HT.out.below HB6.out) hpT HNO.out.1 HNO.out.2.1 HNO.out.2.2
  rw [hcs] at hbo
  go_wp2_with (first
    | (refine wpList_load_mid rfl 222 _ rfl W1.heap.size 0 rfl (volL q N) _ r6 Tryz.underlying222 rfl HIV.out ?_; rw [hcs]))
  refine hbo.mono ?_
  rintro e W8 ⟨bk, j, lm, m, l, rfl, j8, b8, ⟨g1, g2, g3, g4⟩, ⟨n1, n2, n3⟩, k8⟩
  have s8 := k8.size
  have hql := HD.out.lt
  have p8 : W8.rangeAt (W1.heap.size + 1) 0 (plL (nv0 ro la s h)) := range_kept p6 k8 (by omega) (by show ¬ (W1.heap.size + 1 = q ∨ W1.heap.size + 1 = bb); omega)
  have J8 : W8.drew.rangeAt (W1.heap.size + 1) 0 (plL (nv0 ro la s h)) := p8
  have hbl := b8.lt
  have hml := b8.recs.lts m rfl
  have hll := b8.lasts.lt
  have hjl := j8.lt
  have hTL := HTL.out
  have hB6 := HB6.out.size
  have HJ8 : Hid (JAt W8 q bb N j 1 C l) := j8
  have HB8 : Hid (BookAt W8 bk j lm m 0 0 (.slice none 0 0) [] (fun g => g = m) (fun _ => False) (.map [])) := b8
  have HK8 : Hid (Kept (fun g => g = q ∨ g = bb) W6 W8) := k8
  clear hbo j8 b8 k8 r6 p6 p8
  go_wp2_with fail
  refine wp_region_noPanic ?_
  refine wp_region_held_drew (S := fun W => W.rangeAt (W1.heap.size + 1) 0 (plL (nv0 ro la s h))) (by kernel_rfl) J8 (fun _ => ?_)
  refine wpAnyH_take (i := 0) (v := .agg ((plL (nv0 ro la s h))).toArray) rfl (by kernel_rfl) (by kernel_rfl) (by kernel_rfl) (fun _ _ _ h => h) (yieldsIf_load_mid (by rfl) 108 _ rfl (W1.heap.size + 1) 0 rfl ((plL (nv0 ro la s h))) _ (fun W hW => hW) Tryz.underlying108 rfl (info_pl _)) J8 ?_
  simp only [qA, qB, qC, Act.put, qD, qE, qF]
  refine wpAnyH_take (i := 1) (v := ?_) rfl (by kernel_rfl) (by kernel_rfl) (by kernel_rfl) (fun _ _ _ h => h) (Or.inl ⟨by rfl, ?_⟩) J8 ?_
  rotate_left 1
  · intro W hSW; clear hSW; go_simp; try with_reducible rfl
  simp only [qA, qB, qC, Act.put, qD, qE, qF]
  refine wpAnyH_take (i := 2) (v := ?_) rfl (by kernel_rfl) (by kernel_rfl) (by kernel_rfl) (fun _ _ _ h => h) (Or.inl ⟨by rfl, ?_⟩) J8 ?_
  rotate_left 1
  · intro W hSW; clear hSW; go_simp; try with_reducible rfl
  simp only [qA, qB, qC, Act.put, qD, qE, qF]
  refine wpAnyH_take (i := 4) (v := ?_) rfl (by kernel_rfl) (by kernel_rfl) (by kernel_rfl) (fun _ _ _ h => h) (Or.inl ⟨by rfl, ?_⟩) J8 ?_
  rotate_left 1
  · intro W hSW; clear hSW; go_simp; try with_reducible rfl
  simp only [qA, qB, qC, Act.put, qD, qE, qF]
  refine wpAnyH_ready (rs := [3]) (by kernel_rfl) (by simp) ?_
  refine AllReadyH.cons rfl (fun K' hK' => ?_) AllReadyH.nil
  rw [if_pos (by rfl)]
  go_simp
  refine (sclone_any s W8.drew (by omega)).mono ?_
  rintro e Wc ⟨rfl, hbc⟩
  have bc : Below W8.heap.size W8 Wc := ((Below.refl W8.heap.size W8).drew).trans hbc
  have sc := bc.size
  have J9 : Wc.rangeAt (W1.heap.size + 1) 0 (plL (nv0 ro la s h)) := range_kept (W := W8) J8 (Kept.fresh (S := fun _ => False) bc) (by omega) id
  clear hbc
  refine hK'.out _ _ J9 (fun _ => ?_)
  clear hK' K'
  try simp only [qA, qB, qC, Act.put, qD, qE, qF]
  refine wpAnyH_take (i := 5) (v := .agg (ndL (nv0 ro la s h) bk).toArray) rfl (by kernel_rfl) (by kernel_rfl) (by kernel_rfl) (fun _ _ _ h => h) (yieldsIf_build (by rfl) 111 _ rfl (ndL (nv0 ro la s h) bk).toArray (Eq.trans (congrArg (Tryz.prog.built _) (by simp [Act.eval])) (nd_built ro la s h bk))) J9 ?_
  simp only [qA, qB, qC, Act.put, qD, qE, qF]
  refine wpAnyH_ready (rs := [6]) (by kernel_rfl) (by simp) ?_
  refine AllReadyH.cons rfl (fun K' hK' => ?_) AllReadyH.nil
  rw [if_pos (by rfl)]
  obtain ⟨W9, h9⟩ : ∃ X, X = Wc.alloc (.cells (ndL (nv0 ro la s h) bk).toArray 111) := ⟨_, rfl⟩
  have b9 : Below Wc.heap.size Wc W9 := by rw [h9]; exact (Below.refl _ _).alloc (Nat.le_refl _) _
  have J10 : W9.rangeAt (W1.heap.size + 1) 0 (plL (nv0 ro la s h)) := range_kept J9 (Kept.fresh (S := fun _ => False) b9) (by omega) id
  go_simp
  rw [← h9]
  refine hK'.out _ _ J10 (fun _ => ?_)
  clear hK' K'
  try simp only [qA, qB, qC, Act.put, qD, qE, qF]
  refine wpAnyH_take (i := 7) (v := ?_) rfl (by kernel_rfl) (by kernel_rfl) (by kernel_rfl) (fun _ _ _ h => h) (Or.inl ⟨by rfl, ?_⟩) J10 ?_
  rotate_left 1
  · intro W hSW; clear hSW; go_simp; try with_reducible rfl
  simp only [qA, qB, qC, Act.put, qD, qE, qF]
  refine wpAnyH_take (i := 8) (v := ?_) rfl (by kernel_rfl) (by kernel_rfl) (by kernel_rfl) (fun _ _ _ h => h) (Or.inl ⟨by rfl, ?_⟩) J10 ?_
  rotate_left 1
  · intro W hSW; clear hSW; go_simp; try with_reducible rfl
  simp only [qA, qB, qC, Act.put, qD, qE, qF]
  refine ⟨by kernel_rfl, ?_⟩
  refine NoPanic.normal ?_
  try simp only [qA, qB, qC, Act.put, qD, qE, qF]
  have s9 : W9.heap.size = Wc.heap.size + 1 := by rw [h9]; simp
  have r9 : W9.rangeAt Wc.heap.size 0 (ndL (nv0 ro la s h) bk) := by rw [h9]; exact range_new _ _ _
  have t9 : W9.there Wc.heap.size 0 10 := by rw [h9]; exact there_new Wc (ndL (nv0 ro la s h) bk).toArray _
  have b89 : Below W8.heap.size W8 W9 := bc.trans (b9.mono sc)
  have T9 : Tab K W9 := ((HT.out.below HB6.out).kept HK8.out (by show ¬ (_ = q ∨ _ = bb); omega)).below b89
  have own9 : ∀ g, bkOwn bk lm (.slice none 0 0) (fun g => g = m) g → g = bk ∨ g = lm ∨ g = m := fun g hg => by
    rcases hg with h | h | h | h
    · exact Or.inl h
    · exact Or.inr (Or.inl h)
    · exact Or.inr (Or.inr h)
    · cases h
  have HA : Hid (Al K W9 (nv0 ro la s h) Wc.heap.size q bb N j 1 C l bk lm m 0 0 (.slice none 0 0) [] (fun g => g = m) (fun _ => False) (.map [])) := ⟨r9, t9, by omega, HJ8.out.kept (Kept.fresh (S := fun _ => False) b89) (fun _ _ => id), HB8.out.fresh b89,
    (fun g hg hj => by
      unfold jOwn at hj
      rcases own9 g hg with h | h | h <;> omega),
    ⟨(fun h => by rcases own9 _ h with h | h | h <;> omega), (fun h => by unfold jOwn at h; omega)⟩, T9,
    ⟨(fun h => by rcases own9 _ h with h | h | h <;> omega), (fun h => by unfold jOwn at h; omega)⟩⟩
  have HK : Hid (Kept (fun g => g = q ∨ g = bb) w W9) := ((Kept.fresh HB6.out).trans HK8.out (fun _ _ h => h)).trans (Kept.fresh (S := fun g => g = q ∨ g = bb) b89) (fun _ _ h => h)
  have HG : Hid (w.heap.size ≤ j ∧ w.heap.size ≤ bk ∧ w.heap.size ≤ lm ∧ w.heap.size ≤ m ∧ w.heap.size ≤ Wc.heap.size) := by refine ⟨?_, ?_, ?_, ?_, ?_⟩ <;> omega
  clear own9 T9 r9 t9 b89 b9 bc h9
  go_wp2_with fail
  go_ret2
  exact ⟨Wc.heap.size, bk, j, lm, m, l, rfl, HA.out, HG.out, HK.out⟩
end Go.Proofs.YteglimjonofdeaaGreatDoor
