import Derived.Test.YteglimjonofdeaaGreatDoorNBkM
import Derived.Test.YteglimjonofdeaaGreatDoorNApp
set_option linter.unusedVariables false
set_option linter.unusedSimpArgs false
namespace Go.Proofs.YteglimjonofdeaaGreatDoor
open Go.RowKit

/-- The blocks of a journal and its disk. -/
def jOwn (q bb j g : Nat) : Prop := g = q ∨ g = bb ∨ g = j
/-- A journal on a disk that tells no error. -/
structure JAt (w : World) (q bb N j u : Nat) (C : Nat → List Int) (l : ByteArray) : Prop where
  disk : DiskAt w q bb N C (.slice none 0 0) []
  jour : w.rangeAt j 0 (jL q N l u)
  room : w.there j 0 35
  l32 : l.size = 32
  ne : j ≠ q ∧ j ≠ bb
  lt : j < w.heap.size
theorem JAt.ownLt {w : World} {q bb N j u : Nat} {C : Nat → List Int} {l : ByteArray} (h : JAt w q bb N j u C l) (g : Nat) (hg : jOwn q bb j g) : g < w.heap.size := by
  rcases hg with rfl | rfl | rfl
  · exact h.disk.lt.1
  · exact h.disk.lt.2
  · exact h.lt
theorem JAt.kept {w w' : World} {q bb N j u : Nat} {C : Nat → List Int} {l : ByteArray} {S : Nat → Prop} (h : JAt w q bb N j u C l) (hk : Kept S w w') (hn : ∀ g, jOwn q bb j g → ¬ S g) : JAt w' q bb N j u C l :=
  ⟨h.disk.kept hk (hn q (Or.inl rfl)) (hn bb (Or.inr (Or.inl rfl))) (fun g hg => by cases hg), range_kept h.jour hk h.lt (hn j (Or.inr (Or.inr rfl))), there_kept h.room hk h.lt (hn j (Or.inr (Or.inr rfl))), h.l32, h.ne, Nat.lt_of_lt_of_le h.lt hk.size⟩
theorem rqBytes_size (c n o p v : Int) (t : ByteArray) (h : t.size ≤ 8) : (strOfNums (rqBytes c n o p v t)).size ≤ 18 := by
  rw [strOfNums_size]
  simp [rqBytes, fourN, numsOf_length]
  omega
/-- What Take leaves. -/
def takePost (q bb N j u : Nat) (bk lm m cc ky : Nat) (lv : Value) (L : List En) (G F : Nat → Prop) (D : DataW Unit) (c n o p v : Int) (t : ByteArray) (w : World) (e : Ending) (w' : World) : Prop :=
  ∃ (C' : Nat → List Int) (l' : ByteArray) (lv' : Value) (G' F' : Nat → Prop) (k vv : Int) (tt : ByteArray), e = .returned .nilIface ∧ JAt w' q bb N j (u + 1) C' l' ∧ BookAt w' bk j lm m (cc + 3) ky lv' (L ++ [⟨c, n, o, p, v, t, k, vv, tt⟩]) G' F' (D.put (.int .i64 c) (.lit (.int .i64 ((L.length + 1 : Nat) : Int)))) ∧
    Kept (fun g => jOwn q bb j g ∨ bkOwn bk lm lv G g) w w' ∧ ∀ g, bkOwn bk lm lv' G' g → bkOwn bk lm lv G g ∨ w.heap.size ≤ g

set_option maxRecDepth 10000 in
set_option maxHeartbeats 4000000 in
theorem btake_any (K : Nat → Int) (q bb N j u : Nat) (C : Nat → List Int) (l : ByteArray) (bk lm m cc ky : Nat) (lv : Value) (L : List En) (G F : Nat → Prop) (D : DataW Unit) (c n o p v : Int) (t : ByteArray) (w : World)
    (hA : JAt w q bb N j u C l) (h : BookAt w bk j lm m cc ky lv L G F D) (hap : ∀ g, bkOwn bk lm lv G g → ¬ jOwn q bb j g) (T : Tab K w) (hN : N ≤ 1000) (hu : u < N) (hw : rqWhole c n o p v t = true) (hL : L.length ≤ 400) (hcc : cc < 800) :
    Calls Tryz.prog 99 #[.pointer (some ⟨bk, 0, none⟩), .agg (rqCells c n o p v t).toArray] w (takePost q bb N j u bk lm m cc ky lv L G F D c n o p v t w) := by
  obtain ⟨_, _, _, _, _, ht⟩ := rq_bounds hw
  obtain ⟨V, hV⟩ : ∃ V, V = w.alloc (.cells (rqCells c n o p v t).toArray 29) := ⟨_, rfl⟩
  have hVs : V.heap.size = w.heap.size + 1 := by rw [hV]; simp
  have kV : Kept (fun _ => False) w V := by rw [hV]; exact Kept.alloc _ _ _
  have rV : V.rangeAt w.heap.size 0 (rqCells c n o p v t) := by rw [hV]; exact range_new _ _ _
  have tV : V.there w.heap.size 0 6 := by rw [hV]; exact there_new w (rqCells c n o p v t).toArray _
  have c5 : V.cell? ⟨w.heap.size, 5, none⟩ = some (.string t) := rV 5 _ rfl
  have hcl := sclone_any t V (by omega)
  have HQ : Hid ((Tryz.prog.info? 29).map (·.size) = some (rqCells c n o p v t).length) := info_rq c n o p v t
  have HSZ : Hid ((strOfNums (rqBytes c n o p v t)).size ≤ 18) := rqBytes_size c n o p v t ht
  have HAP : Hid (∀ g, bkOwn bk lm lv G g → ¬ jOwn q bb j g) := hap
  have HJL : Hid (∀ g, jOwn q bb j g → g < w.heap.size) := hA.ownLt
  have HBL : Hid (∀ g, bkOwn bk lm lv G g → g < w.heap.size) := h.ownLt
  have HB : Hid (BookAt w bk j lm m cc ky lv L G F D) := h
  have HA : Hid (JAt w q bb N j u C l) := hA
  have HT : Hid (Tab K w) := T
  have HKV : Hid (Kept (fun _ => False) w V) := kV
  have HRV : Hid (V.rangeAt w.heap.size 0 (rqCells c n o p v t)) := rV
  have HTV : Hid (V.there w.heap.size 0 6) := tV
  clear h hA T kV rV tV hap
  go_enter Tryz.func99, Tryz.ntmps99
  unfold rqCells at hV
  unfold rqCells
  go_wp2_with (rw [← hV]; clear hV)
  refine hcl.mono ?_
  rintro e W1 ⟨rfl, hb1⟩
  have k1 : Kept (fun _ => False) V W1 := Kept.fresh hb1
  have s1 := k1.size
  have r1 : W1.rangeAt w.heap.size 0 (rqCells c n o p v t) := range_kept HRV.out k1 (by omega) id
  have t1 : W1.there w.heap.size 0 6 := there_kept HTV.out k1 (by omega) id
  have q5 : W1.cell? ⟨w.heap.size, 5, none⟩ = some (.string t) := r1 5 _ rfl
  have f5 : W1.frozen? ⟨w.heap.size, 5, none⟩ = false := (t1 5 (by omega)).2
  obtain ⟨U, hU⟩ : ∃ U, U = W1.setCell ⟨w.heap.size, 5, none⟩ (.string t) := ⟨_, rfl⟩
  have kU1 : Kept (· = w.heap.size) W1 U := by rw [hU]; exact Kept.setCell _ _ _ (Or.inl rfl)
  have sU := kU1.size
  have rU : U.rangeAt w.heap.size 0 (rqCells c n o p v t) := by
    rw [hU]
    intro i x hx
    by_cases e : i = 5
    · subst e; exact (World.cell?_setCell_same _ ⟨w.heap.size, 5, none⟩ _ (u := .string t) q5).trans hx
    · rw [World.cell?_setCell_other _ _ _ _ (by intro e2; have := congrArg Addr.off e2; simp at this; omega)]; exact r1 i x hx
  have KU : Hid (Kept (fun _ => False) w U) := by
    have k0 : Kept (· = w.heap.size) w U := ((HKV.out.trans k1 (fun _ _ h => h)).mono (fun _ _ h => h.elim)).trans kU1 (fun _ _ h => h)
    exact k0.mono (fun g hg e => by omega)
  have BU : Hid (BookAt U bk j lm m cc ky lv L G F D) := HB.out.kept KU.out (fun _ _ => id)
  have AU : Hid (JAt U q bb N j u C l) := HA.out.kept KU.out (fun _ _ => id)
  have TU : Hid (Tab K U) := HT.out.kept KU.out id
  have J0 : U.drew.rangeAt w.heap.size 0 (rqCells c n o p v t) ∧ U.drew.cell? ⟨bk, 0, none⟩ = some (.pointer (some ⟨j, 0, none⟩)) := ⟨rU, BU.out.cells 0 _ rfl⟩
  clear hb1 k1 r1 t1 kU1 rU hcl c5
  go_wp2_with fail
  try rw [← hU]
  clear hU q5 f5
  refine wp_region_noPanic ?_
  refine wp_region_held_drew (S := fun W => W.rangeAt w.heap.size 0 (rqCells c n o p v t) ∧ W.cell? ⟨bk, 0, none⟩ = some (.pointer (some ⟨j, 0, none⟩))) (by kernel_rfl) J0 (fun _ => ?_)
  refine wpAnyH_take (i := 0) (v := ?_) rfl (by kernel_rfl) (by kernel_rfl) (by kernel_rfl) (fun _ _ _ h => h) (Or.inl ⟨by rfl, ?_⟩) J0 ?_
  rotate_left 1
  · intro W hSW; clear hSW; go_simp; try with_reducible rfl
  simp only [qA, qB, qC, Act.put, qD, qE, qF]
  refine wpAnyH_take (i := 1) (v := ?_) rfl (by kernel_rfl) (by kernel_rfl) (by kernel_rfl) (fun _ _ _ h => h) (Or.inl ⟨by rfl, ?_⟩) J0 ?_
  rotate_left 1
  · intro W hSW; clear hSW; go_simp; try with_reducible rfl
  simp only [qA, qB, qC, Act.put, qD, qE, qF]
  refine wpAnyH_take (i := 2) (v := ?_) rfl (by kernel_rfl) (by kernel_rfl) (by kernel_rfl) (fun _ _ _ h => h) (Or.inl ⟨by rfl, ?_⟩) J0 ?_
  rotate_left 1
  · intro W hSW; clear hSW; go_simp; try with_reducible rfl
  simp only [qA, qB, qC, Act.put, qD, qE, qF]
  refine wpAnyH_take (i := 3) (v := ?_) rfl (by kernel_rfl) (by kernel_rfl) (by kernel_rfl) (fun _ _ _ h => h) (Or.inl ⟨by rfl, ?_⟩) J0 ?_
  rotate_left 1
  · intro W hSW; have qc := hSW.2; clear hSW; go_simp; try with_reducible rfl
  simp only [qA, qB, qC, Act.put, qD, qE, qF]
  refine wpAnyH_take (i := 4) (v := .agg ((rqCells c n o p v t)).toArray) rfl (by kernel_rfl) (by kernel_rfl) (by kernel_rfl) (fun _ _ _ h => h) (yieldsIf_load_mid (by rfl) 29 _ rfl w.heap.size 0 rfl ((rqCells c n o p v t)) _ (fun W hW => hW.1) Tryz.underlying29 rfl HQ.out) J0 ?_
  simp only [qA, qB, qC, Act.put, qD, qE, qF]
  refine wpAnyH_ready (rs := [5]) (by kernel_rfl) (by simp) ?_
  refine AllReadyH.cons rfl (fun K' hK' => ?_) AllReadyH.nil
  rw [if_pos (by rfl)]
  go_simp
  refine (eencode_any c n o p v t U.drew hw).mono ?_
  rintro e W3 ⟨rfl, hb3⟩
  have k3 : Kept (fun _ => False) U W3 := (Kept.drew _ U).trans (Kept.fresh hb3) (fun _ _ h => h)
  have s3 := k3.size
  have B3 : Hid (BookAt W3 bk j lm m cc ky lv L G F D) := BU.out.kept k3 (fun _ _ => id)
  have A3 : Hid (JAt W3 q bb N j u C l) := AU.out.kept k3 (fun _ _ => id)
  have T3 : Hid (Tab K W3) := TU.out.kept k3 id
  have J3 : W3.rangeAt w.heap.size 0 (rqCells c n o p v t) ∧ W3.cell? ⟨bk, 0, none⟩ = some (.pointer (some ⟨j, 0, none⟩)) := ⟨range_kept (W := U) J0.1 k3 (by omega) id, B3.out.cells 0 _ rfl⟩
  have K3 : Hid (Kept (fun _ => False) w W3) := KU.out.trans k3 (fun _ _ h => h)
  clear hb3 k3
  refine hK'.out _ _ J3 (fun _ => ?_)
  clear hK' K'
  try simp only [qA, qB, qC, Act.put, qD, qE, qF]
  refine wpAnyH_ready (rs := [6]) (by kernel_rfl) (by simp) ?_
  refine AllReadyH.cons rfl (fun K' hK' => ?_) AllReadyH.nil
  rw [if_pos (by rfl)]
  go_simp
  refine (jappend_any K q bb N j u C l (strOfNums (rqBytes c n o p v t)) W3 hN hu A3.out.l32 HSZ.out A3.out.ne.1 A3.out.ne.2 A3.out.lt A3.out.disk A3.out.jour A3.out.room T3.out).mono ?_
  rintro e W4 ⟨rfl, d4, j4, r4, k4⟩
  have B4 : Hid (BookAt W4 bk j lm m cc ky lv L G F D) := B3.out.kept k4 HAP.out
  have A4 : Hid (JAt W4 q bb N j (u + 1) (putAll C [(u, packN K l (strOfNums (rqBytes c n o p v t)))]) (sumOf K (l ++ strOfNums (rqBytes c n o p v t)))) := ⟨d4, j4, r4, sumOf_size _ _, A3.out.ne, Nat.lt_of_lt_of_le A3.out.lt k4.size⟩
  have s4 := k4.size
  have J4 : W4.rangeAt w.heap.size 0 (rqCells c n o p v t) ∧ W4.cell? ⟨bk, 0, none⟩ = some (.pointer (some ⟨j, 0, none⟩)) := ⟨range_kept J3.1 k4 (by omega) (fun e => by have := HJL.out _ e; omega), B4.out.cells 0 _ rfl⟩
  have K4 : Hid (Kept (jOwn q bb j) w W4) := (K3.out.mono (fun _ _ h => h.elim)).trans k4 (fun _ _ h => h)
  clear d4 j4 r4 k4
  refine hK'.out _ _ J4 (fun _ => ?_)
  clear hK' K'
  try simp only [qA, qB, qC, Act.put, qD, qE, qF]
  refine wpAnyH_take (i := 7) (v := ?_) rfl (by kernel_rfl) (by kernel_rfl) (by kernel_rfl) (fun _ _ _ h => h) (Or.inl ⟨by rfl, ?_⟩) J4 ?_
  rotate_left 1
  · intro W hSW; clear hSW; go_simp; try with_reducible rfl
  simp only [qA, qB, qC, Act.put, qD, qE, qF]
  refine ⟨by kernel_rfl, ?_⟩
  refine NoPanic.normal ?_
  try simp only [qA, qB, qC, Act.put, qD, qE, qF]
  have a4 := A4.out
  have hadd := badd_any bk j lm m cc ky lv L G F D c n o p v t W4 B4.out hw hL hcc
  clear a4
  go_wp2_with (first
    | (refine wpList_load_mid rfl 29 _ rfl w.heap.size 0 rfl (rqCells c n o p v t) _ J4.1 Tryz.underlying29 rfl HQ.out ?_))
  refine hadd.mono ?_
  rintro e W5 ⟨lv', G', F', k, vv, tt, rfl, B5, K5, O5⟩
  have A5 := A4.out.kept K5 (fun g h1 h2 => HAP.out g h2 h1)
  have K6 : Kept (fun g => jOwn q bb j g ∨ bkOwn bk lm lv G g) w W5 := (K4.out.mono (fun _ _ h => Or.inl h)).trans K5 (fun _ _ h => Or.inr h)
  have HR : Hid (takePost q bb N j u bk lm m cc ky lv L G F D c n o p v t w (.returned .nilIface) W5) := ⟨_, _, lv', G', F', k, vv, tt, rfl, A5, B5, K6, fun g hg => (O5 g hg).imp id (fun h => by omega)⟩
  clear A5 B5 K5 O5 K6 hadd
  go_wp2_with fail
  go_ret
  exact HR.out
end Go.Proofs.YteglimjonofdeaaGreatDoor
