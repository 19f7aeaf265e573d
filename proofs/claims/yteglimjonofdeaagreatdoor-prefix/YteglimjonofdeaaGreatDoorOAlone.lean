import Derived.Test.YteglimjonofdeaaGreatDoorOOpenM
set_option linter.unusedVariables false
set_option linter.unusedSimpArgs false
namespace Go.Proofs.YteglimjonofdeaaGreatDoor
open Go.RowKit

def firstT : ByteArray := ⟨#[102, 105, 114, 115, 116]⟩
theorem rq_first : Tryz.prog.built 29 [(0, .int .i64 9), (1, .int .i64 1), (2, .int .i64 1), (3, .int .i64 99), (5, .string ⟨#[102, 105, 114, 115, 116]⟩)] = some (rqCells 9 1 1 99 0 firstT).toArray := by kernel_rfl
theorem first_whole : rqWhole 9 1 1 99 0 firstT = true := by decide +kernel
theorem stamp_size (K : Nat → Int) (C : Nat → List Int) (n : Nat) : (stampT K C n).size ≤ 18 := by
  unfold stampT; rw [ByteArray.size_extract]; omega

/-- A block that is not the node's is written. -/
theorem Onc.other {K : Nat → Int} {z : Nv} {ky N B xn k nd q bb j : Nat} {C : Nat → List Int} {l : ByteArray} {bk lm m : Nat} {lv : Value} {L : List En} {G F : Nat → Prop} {D : DataW Unit} {W W' : World} {b : Nat} (h : Onc K z ky N B xn k nd q bb j C l bk lm m lv L G F D W) (hk : Kept (· = b) W W') (hb : B ≤ b) (h1 : ¬ alOwn q bb j bk lm lv G b) (h2 : nd ≠ b) (h3 : xn ≠ b) (h4 : 1 ≠ b) : Onc K z ky N B xn k nd q bb j C l bk lm m lv L G F D W' := by
  have ne : ∀ g, alOwn q bb j bk lm lv G g → ¬ g = b := fun g hg e => h1 (e ▸ hg)
  exact ⟨⟨range_kept h.al.node hk h.al.nlt h2, there_kept h.al.room hk h.al.nlt h2, Nat.lt_of_lt_of_le h.al.nlt hk.size, h.al.jat.kept hk (fun g hg => ne g (Or.inl hg)), h.al.book.kept hk (fun g hg => ne g (Or.inr hg)), h.al.ap, h.al.nap, h.al.tab.kept hk h4, h.al.tap⟩, h.r0, h.l0, (hk.cell (a := ⟨xn, 0, none⟩) h.xl h3).trans h.x, Nat.lt_of_lt_of_le h.xl hk.size, h.xo, h.len, h.nos, h.last, h.base, Nat.le_trans h.bl hk.size⟩
/-- A block that is newer than the node is written. -/
theorem o_stored {K : Nat → Int} {z : Nv} {ky N xn k nd q bb j : Nat} {C : Nat → List Int} {l : ByteArray} {bk lm m : Nat} {lv : Value} {L : List En} {G F : Nat → Prop} {D : DataW Unit} {w W3 W5 W6 : World} {b o : Nat} {cs : List Value} {B : Nat} (h : Onc K z ky N B xn k nd q bb j C l bk lm m lv L G F D W5) (hB : Below B w W5) (h6 : W6 = W5.setCells b o cs) (hb : B ≤ b) (h3 : Onc K z ky N B xn k nd q bb j C l bk lm m lv L G F D W3) (hb3 : W3.heap.size ≤ b) :
    Onc K z ky N B xn k nd q bb j C l bk lm m lv L G F D W6 ∧ Below B w W6 := by
  have k6 : Kept (· = b) W5 W6 := by rw [h6]; exact Kept.setCells _ _ _ _ (Or.inl rfl)
  refine ⟨h.other k6 hb (fun e => ?_) ?_ ?_ ?_, by rw [h6]; exact below_setCells hb _ _ _ hB⟩
  · rcases e with e | e
    · have := h3.al.jat.ownLt b e; omega
    · have := h3.al.book.ownLt b e; omega
  · have := h3.al.nlt; omega
  · have := h3.xl; omega
  · have := h3.al.tab.lt; omega

set_option maxRecDepth 10000 in
set_option maxHeartbeats 4000000 in
theorem alone_any (K : Nat → Int) (h : Int) (N : Nat) (s : ByteArray) (w : World) (hh0 : 0 ≤ h) (hh5 : h ≤ 5) (h8 : 8 ≤ N) (h4 : N ≤ 400) (hs : s.size = 32) (T : Tab K w) (hno : z128.take 32 ≠ (packN K (sumOf K (sumOf K origT ++ stampT K zeroC N)) ⟨#[]⟩).take 32) :
    Calls Tryz.prog 6 #[.int .i64 N, .string s, .int .i64 h] w fun e w' => ∃ p xn nd q bb j C l bk lm m lv L G F D, e = .returned (.tuple #[.pointer (some ⟨p, 0, none⟩), .pointer (some ⟨xn, 0, none⟩)]) ∧ Onc K (nv0 0 0 s h) 0 N w.heap.size xn 1 nd q bb j C l bk lm m lv L G F D w' ∧ Below w.heap.size w w' := by
  have hmd := made_any K N w h8 h4 T
  have HT : Hid (Tab K w) := T
  have HNO : Hid (z128.take 32 ≠ (packN K (sumOf K (sumOf K origT ++ stampT K zeroC N)) ⟨#[]⟩).take 32) := hno
  clear T hno
  go_enter Tryz.func6, Tryz.ntmps6
  go_wp2_with fail
  refine hmd.mono ?_
  rintro e W1 ⟨p, bb, rfl, hp, hbb, hd, b1⟩
  have hTl := HT.out.lt
  have hop := popen_any K 0 0 h p bb N _ s W1 (aopen_any K 0 0 h p bb N _ (stampT K zeroC N) s W1 (by omega) (by omega) (by omega) hh0 hh5 h4 h8 (stamp_size _ _ _) hs hd (HT.out.below b1) (by omega) (by omega) rfl rfl HNO.out)
  have HB1 : Hid (Below w.heap.size w W1) := b1
  have HDL : Hid (p < W1.heap.size ∧ bb < W1.heap.size) := hd.lt
  generalize fmtC (packN K (sumOf K origT) (stampT K zeroC N)) = C at hop
  clear hmd hd b1
  go_wp2_with fail
  refine hop.mono ?_
  rintro e W2 ⟨xn, nd, bk, j, lm, m, l, rfl, a2, ⟨g1, g2, g3, g4, g5⟩, k2, x2, xl2, xw2, xo2⟩
  have s1 := HB1.out.size
  have hbase : ∀ g, alOwn p bb j bk lm (.slice none 0 0) (fun g => g = m) g → w.heap.size ≤ g := fun g hg => by
    rcases hg with (h | h | h) | (h | h | h | h)
    all_goals first | omega | (cases h)
  have O2 : Onc K (nv0 0 0 s h) 0 N w.heap.size xn 0 nd p bb j C l bk lm m (.slice none 0 0) [] (fun g => g = m) (fun _ => False) (.map []) W2 := ⟨a2, rfl, rfl, x2, xl2, xo2, rfl, (fun e he => by cases he), (fun c => ⟨0, 0, rfl, Or.inl ⟨rfl, rfl⟩⟩), hbase, by have := k2.size; omega⟩
  have B2 : Hid (Below w.heap.size w W2) := HB1.out.trans (k2.toBelow s1 (fun g hg => by omega))
  have hrq := o_new K (nv0 0 0 s h) 0 N w.heap.size xn 0 nd p bb j C l bk lm m (.slice none 0 0) [] (fun g => g = m) (fun _ => False) (.map []) 9 1 1 99 0 firstT W2 O2 first_whole rfl (by omega) h4 (by omega)
  have hbu := rq_first
  clear hop a2 k2 x2 xo2 hbase O2
  go_wp2_with (first
    | (refine wpList_build_tm rfl 29 _ rfl _ (Eq.trans (congrArg (Tryz.prog.built _) (by simp [Act.eval])) hbu) ?_))
  refine hrq.mono ?_
  rintro e W3 ⟨C', l', lv', G', F', L', D', en, b, rfl, O3, pk3, b3, hl3, hi3, hc3, _⟩
  have HO3 : Hid (Onc K (nv0 0 0 s h) 0 N w.heap.size xn 1 nd p bb j C' l' bk lm m lv' L' G' F' D' W3) := O3
  have B3 : Hid (Below w.heap.size w W3) := B2.out.trans b3
  obtain ⟨es, clock, hm3, _⟩ := O3.al.book.recs.map.block
  have hsee := o_see K (nv0 0 0 s h) 0 N w.heap.size xn 1 nd p bb j C' l' bk lm m lv' L' G' F' D' es clock W3 O3 hm3 (by omega)
  have cb3 : W3.cell? ⟨b, 0, none⟩ = some (.int .i64 19) := by
    have := pk3.2.2 0 _ rfl
    rw [hc3] at this
    exact this
  have hbl := pk3.2.1
  clear hrq O3 b3 hl3 hi3 pk3
  generalize hst : (stG ((1 : Nat) : Int) ((1 : Nat) : Int) ((es.size : Nat) : Int) ((0 : Nat) : Int)).toArray = cs at hsee
  go_wp2_with fail
  refine hsee.mono ?_
  rintro e W4 ⟨rfl, b4⟩
  have s4 := b4.size
  obtain ⟨W5, h5⟩ : ∃ X, X = W4.alloc (.cells (stG 0 0 0 0).toArray 39) := ⟨_, rfl⟩
  have b5 : Below W4.heap.size W4 W5 := by rw [h5]; exact (Below.refl _ _).alloc (Nat.le_refl _) _
  have s5 : W5.heap.size = W4.heap.size + 1 := by rw [h5]; simp
  have t5 : W5.there W4.heap.size 0 (stG ((1 : Nat) : Int) ((1 : Nat) : Int) ((es.size : Nat) : Int) ((0 : Nat) : Int)).length := by rw [h5]; exact there_new W4 (stG 0 0 0 0).toArray _
  have HI := st_info ((1 : Nat) : Int) ((1 : Nat) : Int) ((es.size : Nat) : Int) ((0 : Nat) : Int)
  have HO := st_one ((1 : Nat) : Int) ((1 : Nat) : Int) ((es.size : Nat) : Int) ((0 : Nat) : Int)
  have O5 : Hid (Onc K (nv0 0 0 s h) 0 N w.heap.size xn 1 nd p bb j C' l' bk lm m lv' L' G' F' D' W5) := (HO3.out.fresh b4).fresh b5
  have B5 : Hid (Below w.heap.size w W5) := (B3.out.trans (b4.mono B3.out.size)).trans (b5.mono (by have := B3.out.size; omega))
  have cb5 : W5.cell? ⟨b, 0, none⟩ = some (.int .i64 19) := (b5.cell (p := ⟨b, 0, none⟩) (by show b < _; omega)).trans ((b4.cell (p := ⟨b, 0, none⟩) hbl).trans cb3)
  have s35 := B3.out.size
  clear hsee b4 b5 cb3 hm3
  go_wp2_with (first
    | (refine wpList_alloc_of rfl 39 rfl (stG 0 0 0 0).toArray alloc_st ?_; rw [← h5]; clear h5)
    | (refine wpList_store_abs rfl 39 _ _ rfl W4.heap.size 0 (stG ((1 : Nat) : Int) ((1 : Nat) : Int) ((es.size : Nat) : Int) ((0 : Nat) : Int)) rfl (by rw [hst]; rfl) t5 HI HO ?_
       intro W6 hw6 hr6 _ht6 hb6
       have k6 : Kept (· = W4.heap.size) W5 W6 := (by rw [hw6]; exact Kept.setCells _ _ _ _ (Or.inl rfl))
       have c60 : W6.cell? ⟨W4.heap.size, 0, none⟩ = some (.int .i64 1) := hr6 0 _ rfl
       have c61 : W6.cell? ⟨W4.heap.size, 1, none⟩ = some (.int .i64 1) := hr6 1 _ rfl
       have cb6 : W6.cell? ⟨b, 0, none⟩ = some (.int .i64 19) := (k6.cell (a := ⟨b, 0, none⟩) (by show b < _; omega) (by show ¬ b = W4.heap.size; omega)).trans cb5
       have HOB : Hid (Onc K (nv0 0 0 s h) 0 N w.heap.size xn 1 nd p bb j C' l' bk lm m lv' L' G' F' D' W6 ∧ Below w.heap.size w W6) := o_stored O5.out B5.out hw6 (by omega) HO3.out (by omega)
       clear _ht6 hw6 hb6 hr6 k6 cb5))
  go_ret2
  exact ⟨p, xn, nd, p, bb, j, C', l', bk, lm, m, lv', L', G', F', D', rfl, HOB.out.1, HOB.out.2⟩
end Go.Proofs.YteglimjonofdeaaGreatDoor
