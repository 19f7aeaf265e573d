import Derived.Test.YteglimjonofdeaaGreatDoorNAdd
import Derived.Test.YteglimjonofdeaaGreatDoorNApp
set_option linter.unusedVariables false
set_option linter.unusedSimpArgs false
namespace Go.Proofs.YteglimjonofdeaaGreatDoor
open Go.RowKit

/-- The blocks of a journal and its disk. -/
def jOwn (q bb j g : Nat) : Prop := g = q ∨ g = bb ∨ g = j
/-- A journal on a disk that tells no error. -/
structure JAt (w : World) (q bb N j u : Nat) (C : Nat → List Int) (l : ByteArray) : Prop where
  disk : DiskAt w q bb N C (.slice none 0 0) []
  jour : w.rangeAt j 0 (jL q N l u)
  room : w.there j 0 35
  l32 : l.size = 32
  ne : j ≠ q ∧ j ≠ bb
  lt : j < w.heap.size
theorem JAt.ownLt {w : World} {q bb N j u : Nat} {C : Nat → List Int} {l : ByteArray} (h : JAt w q bb N j u C l) (g : Nat) (hg : jOwn q bb j g) : g < w.heap.size := by
  rcases hg with rfl | rfl | rfl
  · exact h.disk.lt.1
  · exact h.disk.lt.2
  · exact h.lt
theorem JAt.kept {w w' : World} {q bb N j u : Nat} {C : Nat → List Int} {l : ByteArray} {S : Nat → Prop} (h : JAt w q bb N j u C l) (hk : Kept S w w') (hn : ∀ g, jOwn q bb j g → ¬ S g) : JAt w' q bb N j u C l :=
  ⟨h.disk.kept hk (hn q (Or.inl rfl)) (hn bb (Or.inr (Or.inl rfl))) (fun g hg => by cases hg), range_kept h.jour hk h.lt (hn j (Or.inr (Or.inr rfl))), there_kept h.room hk h.lt (hn j (Or.inr (Or.inr rfl))), h.l32, h.ne, Nat.lt_of_lt_of_le h.lt hk.size⟩
theorem rqBytes_size (c n o p v : Int) (t : ByteArray) (h : t.size ≤ 8) : (strOfNums (rqBytes c n o p v t)).size ≤ 18 := by
  rw [strOfNums_size]
  simp [rqBytes, fourN, numsOf_length]
  omega
/-- What Take leaves. -/
def takePost (q bb N j u : Nat) (bk lm m cc ky : Nat) (lv : Value) (L : List En) (G F : Nat → Prop) (D : DataW Unit) (c n o p v : Int) (t : ByteArray) (w : World) (e : Ending) (w' : World) : Prop :=
  ∃ (C' : Nat → List Int) (l' : ByteArray) (lv' : Value) (G' F' : Nat → Prop) (k vv : Int) (tt : ByteArray), e = .returned .nilIface ∧ JAt w' q bb N j (u + 1) C' l' ∧ BookAt w' bk j lm m (cc + 3) ky lv' (L ++ [⟨c, n, o, p, v, t, k, vv, tt⟩]) G' F' (D.put (.int .i64 c) (.lit (.int .i64 ((L.length + 1 : Nat) : Int)))) ∧
    Kept (fun g => jOwn q bb j g ∨ bkOwn bk lm lv G g) w w' ∧ ∀ g, bkOwn bk lm lv' G' g → bkOwn bk lm lv G g ∨ w.heap.size ≤ g

set_option maxRecDepth 10000 in
set_option maxHeartbeats 4000000 in
theorem btake_any (K : Nat → Int) (q bb N j u : Nat) (C : Nat → List Int) (l : ByteArray) (bk lm m cc ky : Nat) (lv : Value) (L : List En) (G F : Nat → Prop) (D : DataW Unit) (c n o p v : Int) (t : ByteArray) (w : World)
    (hA : JAt w q bb N j u C l) (h : BookAt w bk j lm m cc ky lv L G F D) (hap : ∀ g, bkOwn bk lm lv G g → ¬ jOwn q bb j g) (T : Tab K w) (hN : N ≤ 1000) (hu : u < N) (hw : rqWhole c n o p v t = true) (hL : L.length ≤ 400) (hcc : cc < 800) :
    Calls Tryz.prog 99 #[.pointer (some ⟨bk, 0, none⟩), .agg (rqCells c n o p v t).toArray] w (takePost q bb N j u bk lm m cc ky lv L G F D c n o p v t w) := by
  obtain ⟨_, _, _, _, _, ht⟩ := rq_bounds hw
  obtain ⟨V, hV⟩ : ∃ V, V = w.alloc (.cells (rqCells c n o p v t).toArray 29) := ⟨_, rfl⟩
  have hVs : V.heap.size = w.heap.size + 1 := by rw [hV]; simp
  have kV : Kept (fun _ => False) w V := by rw [hV]; exact Kept.alloc _ _ _
  have rV : V.rangeAt w.heap.size 0 (rqCells c n o p v t) := by rw [hV]; exact range_new _ _ _
  have tV : V.there w.heap.size 0 6 := by rw [hV]; exact there_new w (rqCells c n o p v t).toArray _
  have c5 : V.cell? ⟨w.heap.size, 5, none⟩ = some (.string t) := rV 5 _ rfl
  have hcl := sclone_any t V (by omega)
  have HQ : Hid ((Tryz.prog.info? 29).map (·.size) = some (rqCells c n o p v t).length) := info_rq c n o p v t
  have HSZ : Hid ((strOfNums (rqBytes c n o p v t)).size ≤ 18) := rqBytes_size c n o p v t ht
  have HAP : Hid (∀ g, bkOwn bk lm lv G g → ¬ jOwn q bb j g) := hap
  have HJL : Hid (∀ g, jOwn q bb j g → g < w.heap.size) := hA.ownLt
  have HBL : Hid (∀ g, bkOwn bk lm lv G g → g < w.heap.size) := h.ownLt
  have HB : Hid (BookAt w bk j lm m cc ky lv L G F D) := h
  have HA : Hid (JAt w q bb N j u C l) := hA
  have HT : Hid (Tab K w) := T
  have HKV : Hid (Kept (fun _ => False) w V) := kV
  have HRV : Hid (V.rangeAt w.heap.size 0 (rqCells c n o p v t)) := rV
  have HTV : Hid (V.there w.heap.size 0 6) := tV
  clear h hA T kV rV tV hap
  go_enter Tryz.func99, Tryz.ntmps99
  unfold rqCells at hV
  unfold rqCells
  go_wp2_with (rw [← hV]; clear hV)
  refine hcl.mono ?_
  rintro e W1 ⟨rfl, hb1⟩
  have k1 : Kept (fun _ => False) V W1 := Kept.fresh hb1
  have s1 := k1.size
  have r1 : W1.rangeAt w.heap.size 0 (rqCells c n o p v t) := range_kept HRV.out k1 (by omega) id
  have t1 : W1.there w.heap.size 0 6 := there_kept HTV.out k1 (by omega) id
  have q5 : W1.cell? ⟨w.heap.size, 5, none⟩ = some (.string t) := r1 5 _ rfl
  have f5 : W1.frozen? ⟨w.heap.size, 5, none⟩ = false := (t1 5 (by omega)).2
  obtain ⟨U, hU⟩ : ∃ U, U = W1.setCell ⟨w.heap.size, 5, none⟩ (.string t) := ⟨_, rfl⟩
  have kU1 : Kept (· = w.heap.size) W1 U := by rw [hU]; exact Kept.setCell _ _ _ (Or.inl rfl)
  have sU := kU1.size
  have rU : U.rangeAt w.heap.size 0 (rqCells c n o p v t) := by
    rw [hU]
    intro i x hx
    by_cases e : i = 5
    · subst e; exact (World.cell?_setCell_same _ ⟨w.heap.size, 5, none⟩ _ (u := .string t) q5).trans hx
    · rw [World.cell?_setCell_other _ _ _ _ (by intro e2; have := congrArg Addr.off e2; simp at this; omega)]; exact r1 i x hx
  have KU : Hid (Kept (fun _ => False) w U) := by
    have k0 : Kept (· = w.heap.size) w U := ((HKV.out.trans k1 (fun _ _ h => h)).mono (fun _ _ h => h.elim)).trans kU1 (fun _ _ h => h)
    exact k0.mono (fun g hg e => by omega)
  have BU : Hid (BookAt U bk j lm m cc ky lv L G F D) := HB.out.kept KU.out (fun _ _ => id)
  have AU : Hid (JAt U q bb N j u C l) := HA.out.kept KU.out (fun _ _ => id)
  have TU : Hid (Tab K U) := HT.out.kept KU.out id
  have J0 : U.drew.rangeAt w.heap.size 0 (rqCells c n o p v t) ∧ U.drew.cell? ⟨bk, 0, none⟩ = some (.pointer (some ⟨j, 0, none⟩)) := ⟨rU, BU.out.cells 0 _ rfl⟩
  clear hb1 k1 r1 t1 kU1 rU hcl c5
  go_wp2_with fail
  try rw [← hU]
  clear hU q5 f5
  refine wp_region_noPanic ?_
  refine wp_region_held_drew (S := fun W => W.rangeAt w.heap.size 0 (rqCells c n o p v t) ∧ W.cell? ⟨bk, 0, none⟩ = some (.pointer (some ⟨j, 0, none⟩))) (by kernel_rfl) J0 (fun _ => ?_)
  refine tk 0 J0 ?_
  refine tk 1 J0 ?_
  refine tk 2 J0 ?_
  refine tq (i := 3) (v := ?_) rfl J0 ?_ ?_
  rotate_left 1
  · intro W hSW; have qc := hSW.2; clear hSW; go_simp; try with_reducible rfl
  simp only [qA, qB, qC, Act.put, qD, qE, qF]
  refine wpAnyH_take (i := 4) (v := .agg ((rqCells c n o p v t)).toArray) rfl (by kernel_rfl) (by kernel_rfl) (by kernel_rfl) (fun _ _ _ h => h) (yieldsIf_load_mid (by rfl) 29 _ rfl w.heap.size 0 rfl ((rqCells c n o p v t)) _ (fun W hW => hW.1) Tryz.underlying29 rfl HQ.out) J0 ?_
  simp only [qA, qB, qC, Act.put, qD, qE, qF]
  refine rk 5 (fun K' hK' => ?_)
  go_simp
  refine (eencode_any c n o p v t U.drew hw).mono ?_
  rintro e W3 ⟨rfl, hb3⟩
  have k3 : Kept (fun _ => False) U W3 := (Kept.drew _ U).trans (Kept.fresh hb3) (fun _ _ h => h)
  have s3 := k3.size
  have B3 : Hid (BookAt W3 bk j lm m cc ky lv L G F D) := BU.out.kept k3 (fun _ _ => id)
  have A3 : Hid (JAt W3 q bb N j u C l) := AU.out.kept k3 (fun _ _ => id)
  have T3 : Hid (Tab K W3) := TU.out.kept k3 id
  have J3 : W3.rangeAt w.heap.size 0 (rqCells c n o p v t) ∧ W3.cell? ⟨bk, 0, none⟩ = some (.pointer (some ⟨j, 0, none⟩)) := ⟨range_kept (W := U) J0.1 k3 (by omega) id, B3.out.cells 0 _ rfl⟩
  have K3 : Hid (Kept (fun _ => False) w W3) := KU.out.trans k3 (fun _ _ h => h)
  clear hb3 k3
  refine hK'.out _ _ J3 (fun _ => ?_)
  clear hK' K'
  try simp only [qA, qB, qC, Act.put, qD, qE, qF]
  refine rk 6 (fun K' hK' => ?_)
  go_simp
  refine (jappend_any K q bb N j u C l (strOfNums (rqBytes c n o p v t)) W3 hN hu A3.out.l32 HSZ.out A3.out.ne.1 A3.out.ne.2 A3.out.lt A3.out.disk A3.out.jour A3.out.room T3.out).mono ?_
  rintro e W4 ⟨rfl, d4, j4, r4, k4⟩
  have B4 : Hid (BookAt W4 bk j lm m cc ky lv L G F D) := B3.out.kept k4 HAP.out
  have A4 : Hid (JAt W4 q bb N j (u + 1) (putAll C [(u, packN K l (strOfNums (rqBytes c n o p v t)))]) (sumOf K (l ++ strOfNums (rqBytes c n o p v t)))) := ⟨d4, j4, r4, sumOf_size _ _, A3.out.ne, Nat.lt_of_lt_of_le A3.out.lt k4.size⟩
  have s4 := k4.size
  have J4 : W4.rangeAt w.heap.size 0 (rqCells c n o p v t) ∧ W4.cell? ⟨bk, 0, none⟩ = some (.pointer (some ⟨j, 0, none⟩)) := ⟨range_kept J3.1 k4 (by omega) (fun e => by have := HJL.out _ e; omega), B4.out.cells 0 _ rfl⟩
  have K4 : Hid (Kept (jOwn q bb j) w W4) := (K3.out.mono (fun _ _ h => h.elim)).trans k4 (fun _ _ h => h)
  clear d4 j4 r4 k4
  refine hK'.out _ _ J4 (fun _ => ?_)
  clear hK' K'
  try simp only [qA, qB, qC, Act.put, qD, qE, qF]
  refine tk 7 J4 ?_
  refine ⟨by kernel_rfl, ?_⟩
  refine NoPanic.normal ?_
  try simp only [qA, qB, qC, Act.put, qD, qE, qF]
  have a4 := A4.out
  have hadd := badd_any bk j lm m cc ky lv L G F D c n o p v t W4 B4.out hw hL hcc
  clear a4
  go_wp2_with (first
    | (refine wpList_load_mid rfl 29 _ rfl w.heap.size 0 rfl (rqCells c n o p v t) _ J4.1 Tryz.underlying29 rfl HQ.out ?_))
  refine hadd.mono ?_
  rintro e W5 ⟨lv', G', F', k, vv, tt, rfl, B5, K5, O5⟩
  have A5 := A4.out.kept K5 (fun g h1 h2 => HAP.out g h2 h1)
  have K6 : Kept (fun g => jOwn q bb j g ∨ bkOwn bk lm lv G g) w W5 := (K4.out.mono (fun _ _ h => Or.inl h)).trans K5 (fun _ _ h => Or.inr h)
  have HR : Hid (takePost q bb N j u bk lm m cc ky lv L G F D c n o p v t w (.returned .nilIface) W5) := ⟨_, _, lv', G', F', k, vv, tt, rfl, A5, B5, K6, fun g hg => (O5 g hg).imp id (fun h => by omega)⟩
  clear A5 B5 K5 O5 K6 hadd
  go_wp2_with fail
  go_ret
  exact HR.out
/-- What a node's cells say beside its book: role, last, seed, height, what it knows, heard, its head and the head's size. -/
structure Nv where
  (r last : Int)
  sd : ByteArray
  (hg kn : Int)
  hd : Bool
  he : ByteArray
  hz : Int
def ndL (z : Nv) (bk : Nat) : List Value := [.int .i64 z.r, .int .i64 z.last, .pointer (some ⟨bk, 0, none⟩), .string z.sd, .int .i64 z.hg, .int .i64 z.kn, .bool z.hd, .bool false, .string z.he, .int .i64 z.hz]
def plL (z : Nv) : List Value := [.int .i64 z.r, .int .i64 z.last]
theorem info_pl (z : Nv) : (Tryz.prog.info? 108).map (·.size) = some (plL z).length := by show _ = some 2; kernel_rfl
set_option maxHeartbeats 400000 in
theorem first_any (z : Nv) (w : World) : Calls Tryz.prog 56 #[.agg (plL z).toArray] w fun e w' => e = .returned (.bool (decide (z.r = 0))) ∧ Below w.heap.size w w' := by
  unfold plL
  go_enter Tryz.func56, Tryz.ntmps56
  go_wp2_with fail
  go_ret
  exact ⟨rfl, (Below.refl _ _).alloc (Nat.le_refl _) _⟩
set_option maxHeartbeats 400000 in
theorem last_any (z : Nv) (w : World) : Calls Tryz.prog 71 #[.agg (plL z).toArray] w fun e w' => e = .returned (.bool (decide (z.r = z.last))) ∧ Below w.heap.size w w' := by
  unfold plL
  go_enter Tryz.func71, Tryz.ntmps71
  go_wp2_with fail
  go_ret
  exact ⟨rfl, (Below.refl _ _).alloc (Nat.le_refl _) _⟩
theorem nd_place {w : World} {nd bk : Nat} {z : Nv} (h : w.rangeAt nd 0 (ndL z bk)) : w.rangeAt nd 0 (plL z) := fun i u hu => by
  match i, hu with
  | 0, hu => exact h 0 _ hu
  | 1, hu => exact h 1 _ hu
  | i + 2, hu => cases hu
/-- How many entries a node knows to be in all logs. -/
def ackOf (z : Nv) (n : Nat) : Int := if z.r = z.last then (n : Int) else z.kn
theorem BookAt.slice {w : World} {bk j lm m cc ky : Nat} {lv : Value} {L : List En} {G F : Nat → Prop} {D : DataW Unit} (h : BookAt w bk j lm m cc ky lv L G F D) : ∃ a cap, lv = .slice a L.length cap := by
  rcases h.log.2 with ⟨e, e2⟩ | ⟨g, cap, cur, e, _⟩
  · exact ⟨none, 0, by rw [e, e2]⟩
  · exact ⟨_, _, e⟩
theorem BookAt.entry {w : World} {bk j lm m cc ky : Nat} {lv : Value} {L : List En} {G F : Nat → Prop} {D : DataW Unit} (h : BookAt w bk j lm m cc ky lv L G F D) (i : Nat) (e : En) (hi : L[i]? = some e) : ∃ g cap, lv = .slice (some ⟨g, 0, none⟩) L.length cap ∧ g < w.heap.size ∧ w.rangeAt g (i * 9) e.cells := by
  have hlt : i < L.length := (List.getElem?_eq_some_iff.1 hi).1
  rcases h.log.2 with ⟨_, e2⟩ | ⟨g, cap, cur, e1, _, hb, hc, hc2, hs, hx⟩
  · omega
  · refine ⟨g, cap, e1, block_lt hb, fun x u hu => ?_⟩
    have hx9 : x < 9 := by have := (List.getElem?_eq_some_iff.1 hu).1; rwa [e.len] at this
    have := logC_get L i x e hi hx9
    rw [← hx, List.getElem?_take_of_lt (by omega), hu] at this
    rw [cell_of_row w g (i * 9 + x) _ _ _ hb]
    simpa using this
set_option maxHeartbeats 400000 in
theorem acked_any (z : Nv) (nd bk j lm m cc ky : Nat) (lv : Value) (L : List En) (G F : Nat → Prop) (D : DataW Unit) (w : World) (hn : w.rangeAt nd 0 (ndL z bk)) (hnl : nd < w.heap.size) (h : BookAt w bk j lm m cc ky lv L G F D) :
    Calls Tryz.prog 63 #[.pointer (some ⟨nd, 0, none⟩)] w fun e w' => e = .returned (.int .i64 (ackOf z L.length)) ∧ Below w.heap.size w w' := by
  obtain ⟨a, cap, hlv⟩ := h.slice
  have HB : Hid (BookAt w bk j lm m cc ky lv L G F D) := h
  have hp := nd_place hn
  have HN : Hid (w.rangeAt nd 0 (ndL z bk)) := hn
  have hpl := info_pl z
  clear h hn
  by_cases hz : z.r = z.last
  · rw [show ackOf z L.length = (L.length : Int) from if_pos hz]
    have hl := last_any z
    simp only [decide_eq_true hz] at hl
    go_enter Tryz.func63, Tryz.ntmps63
    clear hz
    go_wp2_with (first
      | (refine wpList_load_mid rfl 108 _ rfl nd 0 rfl (plL z) _ hp Tryz.underlying108 rfl hpl ?_))
    refine (hl w).mono ?_
    rintro e w1 ⟨rfl, hb1⟩
    have c2 : w1.cell? ⟨nd, 2, none⟩ = some (.pointer (some ⟨bk, 0, none⟩)) := (hb1.cell (p := ⟨nd, 2, none⟩) hnl).trans (HN.out 2 _ rfl)
    have hen := bentries_any bk a L.length cap w1 (by rw [← hlv]; exact (HB.out.fresh hb1).cells 1 _ rfl)
    clear hp
    go_wp2_with fail
    refine hen.mono ?_
    rintro e w2 ⟨rfl, hw⟩
    obtain rfl : w1 = w2 := hw.symm
    clear hw hen
    go_wp2_with fail
    go_ret
    exact ⟨rfl, hb1⟩
  · rw [show ackOf z L.length = z.kn from if_neg hz]
    have hl := last_any z
    simp only [decide_eq_false hz] at hl
    go_enter Tryz.func63, Tryz.ntmps63
    clear hz
    go_wp2_with (first
      | (refine wpList_load_mid rfl 108 _ rfl nd 0 rfl (plL z) _ hp Tryz.underlying108 rfl hpl ?_))
    refine (hl w).mono ?_
    rintro e w1 ⟨rfl, hb1⟩
    have c5 : w1.cell? ⟨nd, 5, none⟩ = some (.int .i64 z.kn) := (hb1.cell (p := ⟨nd, 5, none⟩) hnl).trans (HN.out 5 _ rfl)
    clear hp
    go_wp2_with fail
    go_ret
    exact ⟨rfl, hb1⟩
theorem en_field (e : En) (w : World) : (Instr.field 168 (.agg e.cells.toArray) 0).run Tryz.prog w = .ok (.agg (rqCells e.c e.n e.o e.p e.v e.t).toArray) w := by
  obtain ⟨c, n, o, p, v, t, k, vv, tt⟩ := e
  kernel_rfl
theorem rq_field1 (c n o p v : Int) (t : ByteArray) (w : World) : (Instr.field 29 (.agg (rqCells c n o p v t).toArray) 1).run Tryz.prog w = .ok (.int .i64 n) w := by kernel_rfl
/-- What a client's last entry is, by the map of numbers. -/
def lastIs (L : List En) (D : DataW Unit) (c no : Int) (i : Nat) : Prop := D.atKey (.int .i64 c) (.lit (.int .i64 0)) = .lit (.int .i64 (i : Nat)) ∧ ((i = 0 ∧ no = 0) ∨ ∃ e, 1 ≤ i ∧ L[i - 1]? = some e ∧ e.n = no)
set_option maxHeartbeats 1000000 in
theorem lastno_any (bk j lm m cc ky : Nat) (lv : Value) (L : List En) (G F : Nat → Prop) (D : DataW Unit) (c no : Int) (i : Nat) (w : World) (h : BookAt w bk j lm m cc ky lv L G F D) (hc : 0 ≤ c ∧ c < 1000) (hl : lastIs L D c no i) (hL : L.length < 1000) :
    Calls Tryz.prog 58 #[.pointer (some ⟨bk, 0, none⟩), .int .i64 c] w fun e w' => e = .returned (.int .i64 no) ∧ Below w.heap.size w w' := by
  have hla := blast_any bk lm cc D c w (h.cells 2 _ rfl) h.lasts hc
  obtain ⟨hD, hcase⟩ := hl
  have HB : Hid (BookAt w bk j lm m cc ky lv L G F D) := h
  rcases hcase with ⟨rfl, rfl⟩ | ⟨e, hi1, hie, rfl⟩
  · clear h
    go_enter Tryz.func58, Tryz.ntmps58
    go_wp2_with fail
    refine hla.mono ?_
    rintro e w1 ⟨x, rfl, hx, hw⟩
    obtain rfl : w = w1 := hw.symm
    obtain rfl : x = 0 := by rw [hD] at hx; simpa using hx.symm
    clear hw hla hx
    go_wp2_with fail
    go_ret
    exact ⟨rfl, Below.refl _ _⟩
  · have hlt : i - 1 < L.length := (List.getElem?_eq_some_iff.1 hie).1
    obtain ⟨g, cap, hlv, hg, hr⟩ := h.entry (i - 1) e hie
    have hent := bentry_any bk g L.length cap i e.cells w h.lt hg (by rw [← hlv]; exact h.cells 1 _ rfl) ⟨hi1, by omega⟩ hL e.len hr e.one
    have hf1 := en_field e
    have hf2 := rq_field1 e.c e.n e.o e.p e.v e.t
    have hne : ¬ (i : Int) = 0 := by omega
    clear h
    generalize e.cells = cs at *
    go_enter Tryz.func58, Tryz.ntmps58
    go_wp2_with fail
    refine hla.mono ?_
    rintro e' w1 ⟨x, rfl, hx, hw⟩
    obtain rfl : w = w1 := hw.symm
    obtain rfl : x = (i : Nat) := by rw [hD] at hx; simpa using hx.symm
    clear hw hla hx
    go_wp2_with fail
    refine hent.mono ?_
    rintro e' w2 ⟨rfl, hb2⟩
    clear hent
    go_wp2_with fail
    go_ret
    exact ⟨rfl, hb2⟩

theorem pa_built (n k vv : Int) (tt : ByteArray) : Tryz.prog.built 236 [(0, .int .i64 n), (1, .agg (anCells k vv tt).toArray)] = some (paCells n k vv tt).toArray := by kernel_rfl
theorem en_answer {W : World} {b : Nat} {e : En} (h : W.rangeAt b 0 e.cells) : W.rangeAt b 6 (anCells e.k e.vv e.tt) := fun i u hu => by
  match i, hu with
  | 0, hu => exact h 6 _ hu
  | 1, hu => exact h 7 _ hu
  | 2, hu => exact h 8 _ hu
  | i + 3, hu => cases hu
theorem pk_info (a : Int) (s : ByteArray) : (Tryz.prog.info? 44).map (·.size) = some [Value.int .i64 a, .string s].length := by show _ = some 2; kernel_rfl
theorem pk_one (a : Int) (s : ByteArray) : ∀ u ∈ [Value.int .i64 a, .string s], u.oneCell' = true := by intro u hu; simp at hu; rcases hu with rfl | rfl <;> rfl
/-- The packet that tells what entry e did. -/
def pkOf (e : En) : List Value := [.int .i64 (10 + e.c), .string (strOfNums (anBytes e.n e.k e.vv e.tt))]
theorem info_en9 (e : En) : (Tryz.prog.info? 168).map (·.size) = some e.cells.length := by rw [e.len]; exact info_en

set_option maxRecDepth 10000 in
set_option maxHeartbeats 2000000 in
theorem answer_any (z : Nv) (nd bk j lm m cc ky i : Nat) (lv : Value) (L : List En) (G F : Nat → Prop) (D : DataW Unit) (e : En) (w : World) (hn : w.rangeAt nd 0 (ndL z bk)) (hnl : nd < w.heap.size) (h : BookAt w bk j lm m cc ky lv L G F D) (hi : 1 ≤ i) (hie : L[i - 1]? = some e) (hL : L.length < 1000) :
    Calls Tryz.prog 96 #[.pointer (some ⟨nd, 0, none⟩), .int .i64 (i : Nat)] w fun e' w' => e' = .returned (.agg (pkOf e).toArray) ∧ Below w.heap.size w w' := by
  have he := h.ens e (List.mem_of_getElem? hie)
  have hlt : i - 1 < L.length := (List.getElem?_eq_some_iff.1 hie).1
  obtain ⟨V, hV⟩ : ∃ V, V = w.alloc (.cells #[.int .i64 0, .string ⟨#[]⟩] 44) := ⟨_, rfl⟩
  have hVs : V.heap.size = w.heap.size + 1 := by rw [hV]; simp
  have bV : Below w.heap.size w V := by rw [hV]; exact (Below.refl _ _).alloc (Nat.le_refl _) _
  have tV : V.there w.heap.size 0 2 := by rw [hV]; exact there_new w #[.int .i64 0, .string ⟨#[]⟩] _
  have hVB := h.fresh bV
  obtain ⟨g, cap, hlv, hg, hr⟩ := hVB.entry (i - 1) e hie
  have hent := bentry_any bk g L.length cap i e.cells V hVB.lt hg (by rw [← hlv]; exact hVB.cells 1 _ rfl) ⟨hi, by omega⟩ hL e.len hr e.one
  have c2 : V.cell? ⟨nd, 2, none⟩ = some (.pointer (some ⟨bk, 0, none⟩)) := (bV.cell (p := ⟨nd, 2, none⟩) hnl).trans (hn 2 _ rfl)
  have BVh : Hid (Below w.heap.size w V) := bV
  have TVh : Hid (V.there w.heap.size 0 2) := tV
  clear h hn bV tV hVB hr
  go_enter Tryz.func96, Tryz.ntmps96
  go_wp2_with (rw [← hV]; clear hV)
  refine hent.mono ?_
  rintro e' W1 ⟨rfl, hb1⟩
  have s1 := hb1.size
  have T1 : Hid (W1.there w.heap.size 0 2) := there_below hb1 (by omega) TVh.out
  have B1 : Hid (Below w.heap.size w W1) := BVh.out.trans (hb1.mono (by omega))
  obtain ⟨W2, hW2⟩ : ∃ W2, W2 = W1.alloc (.cells (enCells 0 0 0 0 0 ⟨#[]⟩ 0 0 ⟨#[]⟩).toArray 168) := ⟨_, rfl⟩
  have hW2s : W2.heap.size = W1.heap.size + 1 := by rw [hW2]; simp
  have b2 : Below W1.heap.size W1 W2 := by rw [hW2]; exact (Below.refl _ _).alloc (Nat.le_refl _) _
  have t2 : W2.there W1.heap.size 0 e.cells.length := by rw [hW2, e.len]; exact there_new W1 (enCells 0 0 0 0 0 ⟨#[]⟩ 0 0 ⟨#[]⟩).toArray _
  have T2 : Hid (W2.there w.heap.size 0 2) := there_below b2 (by omega) T1.out
  have B2 : Hid (Below w.heap.size w W2) := B1.out.trans (b2.mono (by omega))
  have HI := info_en9 e
  have HO := e.one
  clear hb1 hent b2 c2
  go_wp2_with (first
    | (refine wpList_alloc_of rfl 168 rfl (enCells 0 0 0 0 0 ⟨#[]⟩ 0 0 ⟨#[]⟩).toArray alloc_en ?_; rw [← hW2]; clear hW2)
    | (refine wpList_store_abs rfl 168 _ _ rfl W1.heap.size 0 e.cells rfl rfl t2 HI HO ?_
       intro W3 hw3 hr3 _ht3 hb3
       have T3 : Hid (W3.there w.heap.size 0 2) := there_kept T2.out (by rw [hw3]; exact Kept.setCells (S := (· = W1.heap.size)) _ _ _ _ (Or.inl rfl)) (by omega) (by show ¬ w.heap.size = W1.heap.size; omega)
       have B3 : Hid (Below w.heap.size w W3) := B2.out.trans (hb3 w.heap.size (by omega))
       have s3 : W3.heap.size = W1.heap.size + 1 := (by rw [hw3, size_setCells]; exact hW2s)
       have J0 : W3.drew.rangeAt W1.heap.size 0 e.cells := hr3
       clear _ht3 hw3 hb3 hr3))
  refine wp_region_noPanic ?_
  refine wp_region_held_drew (S := fun W => W.rangeAt W1.heap.size 0 e.cells) (by kernel_rfl) J0 (fun _ => ?_)
  refine tk 0 J0 ?_
  refine tk 1 J0 ?_
  refine tq (i := 2) (v := ?_) rfl J0 ?_ ?_
  rotate_left 1
  · intro W hSW; have qc : W.cell? ⟨W1.heap.size, 0, none⟩ = some (.int .i64 e.c) := hSW 0 _ rfl; clear hSW; go_simp; try with_reducible rfl
  simp only [qA, qB, qC, Act.put, qD, qE, qF]
  refine tk 4 J0 ?_
  refine tk 5 J0 ?_
  refine tq (i := 6) (v := ?_) rfl J0 ?_ ?_
  rotate_left 1
  · intro W hSW; have qc : W.cell? ⟨W1.heap.size, 1, none⟩ = some (.int .i64 e.n) := hSW 1 _ rfl; clear hSW; go_simp; try with_reducible rfl
  simp only [qA, qB, qC, Act.put, qD, qE, qF]
  refine tk 7 J0 ?_
  refine wpAnyH_take (i := 8) (v := .agg (anCells e.k e.vv e.tt).toArray) rfl (by kernel_rfl) (by kernel_rfl) (by kernel_rfl) (fun _ _ _ h => h) (yieldsIf_load_mid (by rfl) 166 _ rfl W1.heap.size 6 rfl (anCells e.k e.vv e.tt) _ (fun W hW => en_answer hW) Tryz.underlying166 rfl (info_an e.k e.vv e.tt)) J0 ?_
  simp only [qA, qB, qC, Act.put, qD, qE, qF]
  refine wpAnyH_take (i := 9) (v := .agg (paCells e.n e.k e.vv e.tt).toArray) rfl (by kernel_rfl) (by kernel_rfl) (by kernel_rfl) (fun _ _ _ h => h) (yieldsIf_build (by rfl) 236 _ rfl (paCells e.n e.k e.vv e.tt).toArray (Eq.trans (congrArg (Tryz.prog.built _) (by simp [Act.eval])) (pa_built e.n e.k e.vv e.tt))) J0 ?_
  simp only [qA, qB, qC, Act.put, qD, qE, qF]
  refine tk 10 J0 ?_
  refine rk 3 (fun K' hK' => ?_)
  go_simp
  refine (pclient_any e.c W3.drew he.1).mono ?_
  rintro e' W4 ⟨rfl, hw4⟩
  obtain rfl : W3.drew = W4 := hw4.symm
  clear hw4
  refine hK'.out _ _ J0 (fun _ => ?_)
  clear hK' K'
  try simp only [qA, qB, qC, Act.put, qD, qE, qF]
  refine rk 11 (fun K' hK' => ?_)
  go_simp
  refine (pto_any (10 + e.c) e.n e.k e.vv e.tt W3.drew he.2.1 he.2.2.1 he.2.2.2.1 he.2.2.2.2.1).mono ?_
  rintro e' W5 ⟨rfl, hb5⟩
  have k5 : Kept (fun _ => False) W3 W5 := (Kept.drew _ W3).trans (Kept.fresh hb5) (fun _ _ h => h)
  have s5 := k5.size
  have J5 : W5.rangeAt W1.heap.size 0 e.cells := range_kept (W := W3) J0 k5 (by omega) id
  have T5 : W5.there w.heap.size 0 [Value.int .i64 (10 + e.c), .string (strOfNums (anBytes e.n e.k e.vv e.tt))].length := there_kept T3.out k5 (by omega) id
  have B5 : Hid (Below w.heap.size w W5) := (B3.out.drew).trans (hb5.mono (by show _ ≤ W3.heap.size; omega))
  clear hb5 k5
  refine hK'.out _ _ J5 (fun _ => ?_)
  clear hK' K'
  try simp only [qA, qB, qC, Act.put, qD, qE, qF]
  refine rk 12 (fun K' hK' => ?_)
  refine wp_store_abs 44 _ _ rfl w.heap.size 0 [Value.int .i64 (10 + e.c), .string (strOfNums (anBytes e.n e.k e.vv e.tt))] rfl rfl T5 (pk_info _ _) (pk_one _ _) ?_
  intro W6 hw6 hr6 _ht6 hb6
  have J6 : W6.rangeAt W1.heap.size 0 e.cells := by rw [hw6]; exact World.rangeAt_setCells_apart J5 _ _ _ (Or.inl (by omega))
  have B6 : Below w.heap.size w W6 := B5.out.trans (hb6 w.heap.size (Nat.le_refl _))
  clear _ht6 hw6 hb6
  refine hK'.out _ _ J6 (fun _ => ?_)
  clear hK' K'
  try simp only [qA, qB, qC, Act.put, qD, qE, qF]
  refine ⟨by kernel_rfl, ?_⟩
  refine NoPanic.normal ?_
  try simp only [qA, qB, qC, Act.put, qD, qE, qF]
  go_wp2_with fail
  exact ret_cell rfl w.heap.size 0 [Value.int .i64 (10 + e.c), .string (strOfNums (anBytes e.n e.k e.vv e.tt))] _ rfl hr6 Tryz.underlying44 rfl (pk_info _ _) rfl ⟨rfl, B6⟩
/-- A node, with its book and its journal. -/
structure Al (K : Nat → Int) (w : World) (z : Nv) (nd q bb N j u : Nat) (C : Nat → List Int) (l : ByteArray) (bk lm m cc ky : Nat) (lv : Value) (L : List En) (G F : Nat → Prop) (D : DataW Unit) : Prop where
  node : w.rangeAt nd 0 (ndL z bk)
  room : w.there nd 0 10
  nlt : nd < w.heap.size
  jat : JAt w q bb N j u C l
  book : BookAt w bk j lm m cc ky lv L G F D
  ap : ∀ g, bkOwn bk lm lv G g → ¬ jOwn q bb j g
  nap : ¬ bkOwn bk lm lv G nd ∧ ¬ jOwn q bb j nd
  tab : Tab K w
  tap : ¬ bkOwn bk lm lv G 1 ∧ ¬ jOwn q bb j 1
def alOwn (q bb j bk lm : Nat) (lv : Value) (G : Nat → Prop) (g : Nat) : Prop := jOwn q bb j g ∨ bkOwn bk lm lv G g
theorem Al.fresh {w w' : World} {K : Nat → Int} {z : Nv} {nd q bb N j u : Nat} {C : Nat → List Int} {l : ByteArray} {bk lm m cc ky : Nat} {lv : Value} {L : List En} {G F : Nat → Prop} {D : DataW Unit} (h : Al K w z nd q bb N j u C l bk lm m cc ky lv L G F D) (hb : Below w.heap.size w w') : Al K w' z nd q bb N j u C l bk lm m cc ky lv L G F D :=
  have k : Kept (fun _ => False) w w' := Kept.fresh hb
  ⟨range_kept h.node k h.nlt id, there_kept h.room k h.nlt id, Nat.lt_of_lt_of_le h.nlt k.size, h.jat.kept k (fun _ _ => id), h.book.kept k (fun _ _ => id), h.ap, h.nap, h.tab.kept k id, h.tap⟩
theorem wpList_slice_one {ops : Array Oper} {rest : List Oper} {o : Oper} {a : Act} {w : World} {Q : Exit → Act → World → Prop} (hgd : o.guard = none) (t e : TypeId) (x : Operand) (ho : o.op = .buildSlice t 1 #[(0, x)]) (cs : List Value) (hx : a.eval x = .agg cs.toArray)
    (hbs : ∀ w, (Instr.buildSlice t 1 #[(0, .agg cs.toArray)]).run Tryz.prog w = .ok (.slice (some ⟨w.heap.size, 0, none⟩) 1 1) (w.alloc (.cells cs.toArray e)))
    (h : wpList Tryz.prog ops Q rest (a.put o.dst (.slice (some ⟨w.heap.size, 0, none⟩) 1 1)) (w.alloc (.cells cs.toArray e))) : wpList Tryz.prog ops Q (o :: rest) a w :=
  wpList_plain hgd fun _ hK => wp_slice_one t e x ho cs hx hbs (hK _ _ h)
theorem info_pkT : ∃ i, Tryz.prog.info? 44 = some i ∧ i.zero = some (.agg #[.int .i64 0, .string ⟨#[]⟩]) ∧ i.size = 2 := by
  obtain ⟨i, hi⟩ : ∃ i, Tryz.prog.info? 44 = some i := Option.isSome_iff_exists.1 (by kernel_rfl)
  refine ⟨i, hi, ?_, ?_⟩
  · have : (Tryz.prog.info? 44).bind (·.zero) = some (.agg #[.int .i64 0, .string ⟨#[]⟩]) := by kernel_rfl
    rw [hi] at this; exact this
  · have : (Tryz.prog.info? 44).map (·.size) = some 2 := by kernel_rfl
    rw [hi] at this; exact Option.some.inj this
theorem slice_pk (e : En) (w : World) : (Instr.buildSlice 33 1 #[(0, .agg (pkOf e).toArray)]).run Tryz.prog w = .ok (.slice (some ⟨w.heap.size, 0, none⟩) 1 1) (w.alloc (.cells (pkOf e).toArray 44)) := by
  obtain ⟨i0, h1, h2, h3⟩ := info_pkT
  exact run_slice_one 33 44 (pkOf e) i0 _ Tryz.underlying33 h1 h2 h3 (by show 0 < 2; omega) (by show 2 ≤ 1000; omega) w
/-- One packet comes out. -/
def onePk (e : En) (w w' : World) (b : Nat) : Prop := w.heap.size ≤ b ∧ b < w'.heap.size ∧ w'.rangeAt b 0 (pkOf e)

/-- What a new request of a node that is alone leaves. -/
def newPost (K : Nat → Int) (z : Nv) (nd q bb N j u : Nat) (C : Nat → List Int) (l : ByteArray) (bk lm m cc ky : Nat) (lv : Value) (L : List En) (G F : Nat → Prop) (D : DataW Unit) (c n o p v : Int) (t : ByteArray) (w : World) (e : Ending) (w' : World) : Prop :=
  ∃ (C' : Nat → List Int) (l' : ByteArray) (lv' : Value) (G' F' : Nat → Prop) (k vv : Int) (tt : ByteArray) (b : Nat), e = .returned (.tuple #[.slice (some ⟨b, 0, none⟩) 1 1, .nilIface]) ∧ Al K w' z nd q bb N j (u + 1) C' l' bk lm m (cc + 3) ky lv' (L ++ [⟨c, n, o, p, v, t, k, vv, tt⟩]) G' F' (D.put (.int .i64 c) (.lit (.int .i64 ((L.length + 1 : Nat) : Int)))) ∧
    onePk ⟨c, n, o, p, v, t, k, vv, tt⟩ w w' b ∧ Kept (alOwn q bb j bk lm lv G) w w' ∧ ∀ g, bkOwn bk lm lv' G' g → bkOwn bk lm lv G g ∨ w.heap.size ≤ g

theorem JAt.drew {w : World} {q bb N j u : Nat} {C : Nat → List Int} {l : ByteArray} (h : JAt w q bb N j u C l) : JAt w.drew q bb N j u C l := h.kept (Kept.drew (fun _ => False) w) (fun _ _ => id)
theorem BookAt.drew {w : World} {bk j lm m cc ky : Nat} {lv : Value} {L : List En} {G F : Nat → Prop} {D : DataW Unit} (h : BookAt w bk j lm m cc ky lv L G F D) : BookAt w.drew bk j lm m cc ky lv L G F D := h.kept (Kept.drew (fun _ => False) w) (fun _ _ => id)
theorem Tab.drew {K : Nat → Int} {w : World} (h : Tab K w) : Tab K w.drew := h.kept (Kept.drew (fun _ => False) w) id
theorem setCell_id {w : World} {b o : Nat} {v : Value} (h : w.cell? ⟨b, o, none⟩ = some v) : w.setCell ⟨b, o, none⟩ v = w := by
  unfold World.cell? at h
  split at h
  case h_1 c t fr hb =>
    have hc : c[o]? = some v := by simpa using h
    have ho : o < c.size := (Array.getElem?_eq_some_iff.1 hc).1
    have hv : c[o] = v := (Array.getElem?_eq_some_iff.1 hc).2
    have e : (w.setCell ⟨b, o, none⟩ v).heap = w.heap := by
      unfold World.setCell
      apply Array.ext_getElem?
      intro i
      simp only [Array.getElem?_modify]
      by_cases e : b = i
      · subst e
        rw [if_pos rfl, hb]
        simp [Array.setIfInBounds, ho, ← hv]
      · rw [if_neg e]
    unfold World.setCell at e ⊢
    simp only at e
    rw [e]
  case h_2 => cases h

set_option maxRecDepth 10000 in
set_option maxHeartbeats 1000000 in
/-- write: what is done is done, and the node has not failed. -/
theorem nwrite_any (f : FuncId) (caps : Array Value) (z : Nv) (nd bk j q N u : Nat) (l : ByteArray) (w : World) (Q : World → Prop) (hcf : ∀ w, (callFunc f caps).run Tryz.prog w = .ok (.enter f caps) w)
    (hn : w.rangeAt nd 0 (ndL z bk)) (hnl : nd < w.heap.size) (hbc : w.cell? ⟨bk, 0, none⟩ = some (.pointer (some ⟨j, 0, none⟩))) (hl : l.size = 32) (hj : j < w.heap.size) (hJ : w.rangeAt j 0 (jL q N l u)) (hu : u < N)
    (hdo : ∀ W, Below w.heap.size w W → Calls Tryz.prog f caps W fun e w' => e = .returned .nilIface ∧ Q w' ∧ w'.cell? ⟨nd, 7, none⟩ = some (.bool false) ∧ w'.frozen? ⟨nd, 7, none⟩ = false) :
    Calls Tryz.prog 97 #[.pointer (some ⟨nd, 0, none⟩), .func (.func f) #[] caps] w fun e w' => e = .returned .nilIface ∧ Q w' := by
  have hfull := bfull_any bk j q N u l w hbc hl hj hJ
  rw [decide_eq_false (show ¬ u = N by omega)] at hfull
  have c2 : w.cell? ⟨nd, 2, none⟩ = some (.pointer (some ⟨bk, 0, none⟩)) := hn 2 _ rfl
  clear hn hbc hJ hl hj
  go_enter Tryz.func97, Tryz.ntmps97
  go_wp2_with fail
  refine hfull.mono ?_
  rintro e W1 ⟨rfl, hb1⟩
  have hd := hdo W1 hb1
  clear hfull hb1 c2 hdo
  go_wp2_with fail
  refine hd.mono ?_
  rintro e W2 ⟨rfl, hQ, hc, hf⟩
  have hid := setCell_id hc
  clear hd
  go_wp2_with fail
  go_ret
  try rw [hid]
  exact ⟨rfl, hQ⟩

theorem enter_take1 (caps : Array Value) (w : World) : (callFunc 98 caps).run Tryz.prog w = .ok (.enter 98 caps) w := by kernel_rfl

set_option maxRecDepth 10000 in
set_option maxHeartbeats 4000000 in
/-- What take writes: the closure that it hands to write. -/
theorem ntake1_any (K : Nat → Int) (z : Nv) (nd q bb N j u : Nat) (C : Nat → List Int) (l : ByteArray) (bk lm m cc ky : Nat) (lv : Value) (L : List En) (G F : Nat → Prop) (D : DataW Unit) (c n o p v : Int) (t : ByteArray) (xb rb : Nat) (w : World) (h : Al K w z nd q bb N j u C l bk lm m cc ky lv L G F D) (hN : N ≤ 1000) (hu : u < N) (hw : rqWhole c n o p v t = true) (hL : L.length ≤ 400) (hcc : cc < 700) (hx : w.cell? ⟨xb, 0, none⟩ = some (.pointer (some ⟨nd, 0, none⟩))) (hxl : Hid (xb < w.heap.size)) (hxn : Hid (¬ alOwn q bb j bk lm lv G xb)) (hr : w.rangeAt rb 0 (rqCells c n o p v t)) (hrl : Hid (rb < w.heap.size)) (hrn : Hid (¬ alOwn q bb j bk lm lv G rb)) :
    Calls Tryz.prog 98 #[.pointer (some ⟨xb, 0, none⟩), .pointer (some ⟨rb, 0, none⟩)] w (takePost q bb N j u bk lm m cc ky lv L G F D c n o p v t w) := by
  have HQ : Hid ((Tryz.prog.info? 29).map (·.size) = some (rqCells c n o p v t).length) := info_rq c n o p v t
  have J0 : w.drew.rangeAt rb 0 (rqCells c n o p v t) ∧ w.drew.cell? ⟨nd, 2, none⟩ = some (.pointer (some ⟨bk, 0, none⟩)) ∧ w.drew.cell? ⟨xb, 0, none⟩ = some (.pointer (some ⟨nd, 0, none⟩)) := ⟨hr, h.node 2 _ rfl, hx⟩
  have HA : Hid (Al K w z nd q bb N j u C l bk lm m cc ky lv L G F D) := h
  clear h hx hr
  go_enter Tryz.func98, Tryz.ntmps98
  go_wp2_with fail
  refine wp_region_noPanic ?_
  refine wp_region_held_drew (S := fun W => W.rangeAt rb 0 (rqCells c n o p v t) ∧ W.cell? ⟨nd, 2, none⟩ = some (.pointer (some ⟨bk, 0, none⟩)) ∧ W.cell? ⟨xb, 0, none⟩ = some (.pointer (some ⟨nd, 0, none⟩))) (by kernel_rfl) J0 (fun _ => ?_)
  refine tq (i := 0) (v := ?_) rfl J0 ?_ ?_
  rotate_left 1
  · intro W hSW; have qx := hSW.2.2; clear hSW; go_simp; try with_reducible rfl
  simp only [qA, qB, qC, Act.put, qD, qE, qF]
  refine tk 1 J0 ?_
  refine tk 2 J0 ?_
  refine tq (i := 3) (v := ?_) rfl J0 ?_ ?_
  rotate_left 1
  · intro W hSW; have qc := hSW.2.1; clear hSW; go_simp; try with_reducible rfl
  simp only [qA, qB, qC, Act.put, qD, qE, qF]
  refine wpAnyH_take (i := 4) (v := .agg ((rqCells c n o p v t)).toArray) rfl (by kernel_rfl) (by kernel_rfl) (by kernel_rfl) (fun _ _ _ h => h) (yieldsIf_load_mid (by rfl) 29 _ rfl rb 0 rfl ((rqCells c n o p v t)) _ (fun W hW => hW.1) Tryz.underlying29 rfl HQ.out) J0 ?_
  simp only [qA, qB, qC, Act.put, qD, qE, qF]
  refine rk 5 (fun K' hK' => ?_)
  go_simp
  refine (btake_any K q bb N j u C l bk lm m cc ky lv L G F D c n o p v t w.drew HA.out.jat.drew HA.out.book.drew HA.out.ap HA.out.tab.drew hN hu hw hL (by omega)).mono ?_
  rintro e W2 ⟨C', l', lv', G', F', k, vv, tt, rfl, j2, b2, k2, o2⟩
  have k2' : Kept (alOwn q bb j bk lm lv G) w W2 := (Kept.drew _ w).trans k2 (fun _ _ h => h)
  have hnd : ¬ alOwn q bb j bk lm lv G nd := fun e => by rcases e with e | e; exact HA.out.nap.2 e; exact HA.out.nap.1 e
  have J2 : W2.rangeAt rb 0 (rqCells c n o p v t) ∧ W2.cell? ⟨nd, 2, none⟩ = some (.pointer (some ⟨bk, 0, none⟩)) ∧ W2.cell? ⟨xb, 0, none⟩ = some (.pointer (some ⟨nd, 0, none⟩)) := ⟨range_kept (W := w) J0.1 k2' hrl.out hrn.out, (k2'.cell (a := ⟨nd, 2, none⟩) HA.out.nlt hnd).trans J0.2.1, (k2'.cell (a := ⟨xb, 0, none⟩) hxl.out hxn.out).trans J0.2.2⟩
  have HR : Hid (takePost q bb N j u bk lm m cc ky lv L G F D c n o p v t w (.returned .nilIface) W2) := ⟨C', l', lv', G', F', k, vv, tt, rfl, j2, b2, k2', o2⟩
  clear j2 b2 k2 k2' o2
  refine hK'.out _ _ J2 (fun _ => ?_)
  clear hK' K'
  try simp only [qA, qB, qC, Act.put, qD, qE, qF]
  refine tk 6 J2 ?_
  refine ⟨by kernel_rfl, ?_⟩
  refine NoPanic.normal ?_
  try simp only [qA, qB, qC, Act.put, qD, qE, qF]
  go_wp2_with fail
  go_ret
  exact HR.out

/-- The entry is in: a node whose book and journal were written. -/
theorem Al.wrote {K : Nat → Int} {z : Nv} {nd q bb N j u : Nat} {C : Nat → List Int} {l : ByteArray} {bk lm m cc ky : Nat} {lv : Value} {L : List En} {G F : Nat → Prop} {D : DataW Unit} {W1 W2 : World} {u' cc' ky' : Nat} {C' : Nat → List Int} {l' : ByteArray} {lv' : Value} {L' : List En} {G' F' : Nat → Prop} {D' : DataW Unit}
    (A1 : Al K W1 z nd q bb N j u C l bk lm m cc ky lv L G F D) (k2 : Kept (alOwn q bb j bk lm lv G) W1 W2) (j2 : JAt W2 q bb N j u' C' l') (b2 : BookAt W2 bk j lm m cc' ky' lv' L' G' F' D') (own : ∀ g, bkOwn bk lm lv' G' g → bkOwn bk lm lv G g ∨ W1.heap.size ≤ g) : Al K W2 z nd q bb N j u' C' l' bk lm m cc' ky' lv' L' G' F' D' := by
  have hnd : ¬ alOwn q bb j bk lm lv G nd := fun e => by rcases e with e | e; exact A1.nap.2 e; exact A1.nap.1 e
  exact ⟨range_kept A1.node k2 A1.nlt hnd, there_kept A1.room k2 A1.nlt hnd, by have := A1.nlt; have := k2.size; omega, j2, b2, fun g hg hj => by
      rcases own g hg with e | e
      · exact A1.ap g e hj
      · have := A1.jat.ownLt g hj; omega,
    ⟨fun e => by rcases own nd e with e | e; exact A1.nap.1 e; have := A1.nlt; omega, A1.nap.2⟩,
    A1.tab.kept k2 (fun e => by rcases e with e | e; exact A1.tap.2 e; exact A1.tap.1 e),
    ⟨fun e => by rcases own _ e with e | e; exact A1.tap.1 e; have := A1.tab.lt; omega, A1.tap.2⟩⟩
/-- What behind write is there of a new entry. -/
def putPost (K : Nat → Int) (z : Nv) (nd q bb N j u : Nat) (C : Nat → List Int) (l : ByteArray) (bk lm m cc ky : Nat) (lv : Value) (L : List En) (G F : Nat → Prop) (D : DataW Unit) (c n o p v : Int) (t : ByteArray) (V w' : World) : Prop :=
  ∃ (C' : Nat → List Int) (l' : ByteArray) (lv' : Value) (G' F' : Nat → Prop) (k vv : Int) (tt : ByteArray), Al K w' z nd q bb N j (u + 1) C' l' bk lm m (cc + 3) ky lv' (L ++ [⟨c, n, o, p, v, t, k, vv, tt⟩]) G' F' (D.put (.int .i64 c) (.lit (.int .i64 ((L.length + 1 : Nat) : Int)))) ∧ Kept (alOwn q bb j bk lm lv G) V w' ∧ (∀ g, bkOwn bk lm lv' G' g → bkOwn bk lm lv G g ∨ V.heap.size ≤ g)
theorem nput_any (K : Nat → Int) (z : Nv) (nd q bb N j u : Nat) (C : Nat → List Int) (l : ByteArray) (bk lm m cc ky : Nat) (lv : Value) (L : List En) (G F : Nat → Prop) (D : DataW Unit) (c n o p v : Int) (t : ByteArray) (xb rb : Nat) (V : World) (h : Al K V z nd q bb N j u C l bk lm m cc ky lv L G F D) (hN : N ≤ 1000) (hu : u < N) (hw : rqWhole c n o p v t = true) (hL : L.length ≤ 400) (hcc : cc < 700) (hx : V.cell? ⟨xb, 0, none⟩ = some (.pointer (some ⟨nd, 0, none⟩))) (hxl : xb < V.heap.size) (hxn : ¬ alOwn q bb j bk lm lv G xb) (hr : V.rangeAt rb 0 (rqCells c n o p v t)) (hrl : rb < V.heap.size) (hrn : ¬ alOwn q bb j bk lm lv G rb) :
    Calls Tryz.prog 97 #[.pointer (some ⟨nd, 0, none⟩), .func (.func 98) #[] #[.pointer (some ⟨xb, 0, none⟩), .pointer (some ⟨rb, 0, none⟩)]] V fun e w' => e = .returned .nilIface ∧ putPost K z nd q bb N j u C l bk lm m cc ky lv L G F D c n o p v t V w' := by
  refine nwrite_any _ _ z nd bk j q N u l V _ (enter_take1 _) h.node h.nlt (h.book.cells 0 _ rfl) h.jat.l32 h.jat.lt h.jat.jour hu (fun W hb => ?_)
  have A := h.fresh hb
  have hb' : Kept (fun _ => False) V W := Kept.fresh hb
  have hnd : ¬ alOwn q bb j bk lm lv G nd := fun e => by rcases e with e | e; exact h.nap.2 e; exact h.nap.1 e
  refine (ntake1_any K z nd q bb N j u C l bk lm m cc ky lv L G F D c n o p v t xb rb W A hN hu hw hL hcc ((hb.cell (p := ⟨xb, 0, none⟩) hxl).trans hx) (Nat.lt_of_lt_of_le hxl hb.size) hxn (range_kept hr hb' hrl id) (Nat.lt_of_lt_of_le hrl hb.size) hrn).mono ?_
  rintro e W2 ⟨C', l', lv', G', F', k, vv, tt, rfl, j2, b2, k2, o2⟩
  have A2 := A.wrote k2 j2 b2 o2
  exact ⟨rfl, ⟨C', l', lv', G', F', k, vv, tt, A2, (hb'.mono (fun _ _ h => h.elim)).trans k2 (fun _ _ h => h), fun g hg => (o2 g hg).imp id (fun e => Nat.le_trans hb.size e)⟩, A2.node 7 _ rfl, (A2.room 7 (by omega)).2⟩

set_option maxRecDepth 10000 in
set_option maxHeartbeats 4000000 in
theorem ntake_alone (K : Nat → Int) (z : Nv) (nd q bb N j u : Nat) (C : Nat → List Int) (l : ByteArray) (bk lm m cc ky : Nat) (lv : Value) (L : List En) (G F : Nat → Prop) (D : DataW Unit) (c n o p v : Int) (t : ByteArray) (w : World) (h : Al K w z nd q bb N j u C l bk lm m cc ky lv L G F D) (hz : z.r = 0) (hz2 : z.last = 0) (hN : N ≤ 1000) (hu : u < N) (hw : rqWhole c n o p v t = true) (hL : L.length ≤ 400) (hcc : cc < 700) :
    Calls Tryz.prog 61 #[.pointer (some ⟨nd, 0, none⟩), .agg (rqCells c n o p v t).toArray] w (newPost K z nd q bb N j u C l bk lm m cc ky lv L G F D c n o p v t w) := by
  obtain ⟨V0, hV0⟩ : ∃ V, V = w.alloc (.cells #[.pointer (some ⟨nd, 0, none⟩)] 87) := ⟨_, rfl⟩
  obtain ⟨V, hV⟩ : ∃ V, V = V0.alloc (.cells (rqCells c n o p v t).toArray 29) := ⟨_, rfl⟩
  have hVs0 : V0.heap.size = w.heap.size + 1 := by rw [hV0]; simp
  have hVs : V.heap.size = w.heap.size + 2 := by rw [hV]; simp; omega
  have b0 : Below w.heap.size w V0 := by rw [hV0]; exact (Below.refl _ _).alloc (Nat.le_refl _) _
  have b1 : Below V0.heap.size V0 V := by rw [hV]; exact (Below.refl _ _).alloc (Nat.le_refl _) _
  have bV : Below w.heap.size w V := b0.trans (b1.mono (by omega))
  have rV : V.rangeAt (w.heap.size + 1) 0 (rqCells c n o p v t) := by have := range_new V0 (rqCells c n o p v t) 29; rw [← hV, hVs0] at this; exact this
  have x0 : V0.cell? ⟨w.heap.size, 0, none⟩ = some (.pointer (some ⟨nd, 0, none⟩)) := by rw [hV0, World.cell?_alloc_at _ _ _ _ rfl]; rfl
  have xV : V.cell? ⟨w.heap.size, 0, none⟩ = some (.pointer (some ⟨nd, 0, none⟩)) := (b1.cell (p := ⟨w.heap.size, 0, none⟩) (by show w.heap.size < _; omega)).trans x0
  have AV := h.fresh bV
  have own : ∀ g, alOwn q bb j bk lm lv G g → g < w.heap.size := fun g hg => by rcases hg with hg | hg; exact h.jat.ownLt g hg; exact h.book.ownLt g hg
  have hput := nput_any K z nd q bb N j u C l bk lm m cc ky lv L G F D c n o p v t w.heap.size (w.heap.size + 1) V AV hN hu hw hL hcc xV (by omega) (fun e => by have := own _ e; omega) rV (by omega) (fun e => by have := own _ e; omega)
  have HBV : Hid (Below w.heap.size w V) := bV
  have HXO : Hid (¬ alOwn q bb j bk lm lv G w.heap.size) := fun e => by have := own _ e; omega
  have HXV : Hid (V.cell? ⟨w.heap.size, 0, none⟩ = some (.pointer (some ⟨nd, 0, none⟩))) := xV
  have hmf : ∀ (fn : Fn) (first cap : Array Value) (w : World), (Instr.makeFunc fn first cap).run Tryz.prog w = .ok (.func fn first cap) w := fun _ _ _ _ => rfl
  have hpl := info_pl z
  have hla := last_any z
  simp only [decide_eq_true (hz.trans hz2.symm)] at hla
  have hfi := first_any z
  simp only [decide_eq_true hz] at hfi
  clear hz hz2
  clear h AV bV rV b0 b1 x0 own
  go_enter Tryz.func61, Tryz.ntmps61
  unfold rqCells at hV
  unfold rqCells
  go_wp2_with (first
    | (rw [← hV0]; clear hV0)
    | (rw [← hV]; clear hV))
  refine hput.mono ?_
  rintro e W2 ⟨rfl, C', l', lv', G', F', k, vv, tt, a2, k2, o2⟩
  have s2 := k2.size
  have xW : W2.cell? ⟨w.heap.size, 0, none⟩ = some (.pointer (some ⟨nd, 0, none⟩)) := (k2.cell (a := ⟨w.heap.size, 0, none⟩) (by show w.heap.size < _; omega) HXO.out).trans HXV.out
  obtain ⟨en, hen0⟩ : ∃ en : En, en = ⟨c, n, o, p, v, t, k, vv, tt⟩ := ⟨_, rfl⟩
  obtain ⟨L2, hL2⟩ : ∃ L2, L2 = L ++ [en] := ⟨_, rfl⟩
  obtain ⟨D2, hD2⟩ : ∃ D2, D2 = D.put (.int .i64 c) (.lit (.int .i64 ((L.length + 1 : Nat) : Int))) := ⟨_, rfl⟩
  have hlen : L2.length = L.length + 1 := by rw [hL2, List.length_append, List.length_singleton]
  have hget : L2[L.length]? = some en := by rw [hL2, List.getElem?_append_right (Nat.le_refl _), Nat.sub_self]; rfl
  rw [← hen0, ← hL2, ← hD2] at a2
  have A2 : Hid (Al K W2 z nd q bb N j (u + 1) C' l' bk lm m (cc + 3) ky lv' L2 G' F' D2) := a2
  have K2 : Hid (Kept (alOwn q bb j bk lm lv G) w W2) := (Kept.fresh HBV.out).trans k2 (fun _ _ h => h)
  have O2 : Hid (∀ g, bkOwn bk lm lv' G' g → bkOwn bk lm lv G g ∨ w.heap.size ≤ g) := fun g hg => (o2 g hg).imp id (fun h => by have := HBV.out.size; omega)
  have HEN : Hid (en = ⟨c, n, o, p, v, t, k, vv, tt⟩ ∧ L2 = L ++ [en] ∧ D2 = D.put (.int .i64 c) (.lit (.int .i64 ((L.length + 1 : Nat) : Int)))) := ⟨hen0, hL2, hD2⟩
  have c2 : W2.cell? ⟨nd, 2, none⟩ = some (.pointer (some ⟨bk, 0, none⟩)) := A2.out.node 2 _ rfl
  obtain ⟨sa, scap, hslv⟩ := A2.out.book.slice
  rw [hlen] at hslv
  have hen := bentries_any bk sa (L.length + 1) scap W2 (by rw [← hslv]; exact A2.out.book.cells 1 _ rfl)
  clear hput a2 k2 o2 hen0 hL2 hD2 HXV
  go_wp2_with fail
  refine hen.mono ?_
  rintro e W3 ⟨rfl, hw3⟩
  obtain rfl : W2 = W3 := hw3.symm
  clear hw3 hen
  have hp := nd_place A2.out.node
  go_wp2_with (first
    | (refine wpList_load_mid rfl 108 _ rfl nd 0 rfl (plL z) _ hp Tryz.underlying108 rfl hpl ?_))
  refine (hla W2).mono ?_
  rintro e W4 ⟨rfl, hb4⟩
  have A4 : Hid (Al K W4 z nd q bb N j (u + 1) C' l' bk lm m (cc + 3) ky lv' L2 G' F' D2) := A2.out.fresh hb4
  have hp4 := nd_place A4.out.node
  have s4 := hb4.size
  have HB4 : Hid (Below W2.heap.size W2 W4) := hb4
  have xW4 : W4.cell? ⟨w.heap.size, 0, none⟩ = some (.pointer (some ⟨nd, 0, none⟩)) := (hb4.cell (p := ⟨w.heap.size, 0, none⟩) (by show w.heap.size < _; omega)).trans xW
  have hlc : ((L.length + 1 : Nat) : Int) = (L.length : Int) + 1 := by omega
  clear hp hb4 c2 xW
  go_wp2_with (first
    | (refine wpList_load_mid rfl 108 _ rfl nd 0 rfl (plL z) _ hp4 Tryz.underlying108 rfl hpl ?_))
  refine (hfi W4).mono ?_
  rintro e W5 ⟨rfl, hb5⟩
  have s5 := hb5.size
  have A5 : Hid (Al K W5 z nd q bb N j (u + 1) C' l' bk lm m (cc + 3) ky lv' L2 G' F' D2) := A4.out.fresh hb5
  have HB5 : Hid (Below W2.heap.size W2 W5) := HB4.out.trans (hb5.mono s4)
  have xW5 : W5.cell? ⟨w.heap.size, 0, none⟩ = some (.pointer (some ⟨nd, 0, none⟩)) := (hb5.cell (p := ⟨w.heap.size, 0, none⟩) (by show w.heap.size < _; omega)).trans xW4
  have hans := answer_any z nd bk j lm m (cc + 3) ky (L.length + 1) lv' _ G' F' _ en W5 A5.out.node A5.out.nlt A5.out.book (by omega) (by rw [Nat.add_sub_cancel]; exact hget) (by omega)
  have hsl := slice_pk en
  clear hp4 hb5 A4 xW4
  rw [hlc] at hans
  go_wp2_with fail
  refine hans.mono ?_
  rintro e W6 ⟨rfl, hb6⟩
  have HA6 : Hid (Al K W6 z nd q bb N j (u + 1) C' l' bk lm m (cc + 3) ky lv' L2 G' F' D2) := A5.out.fresh hb6
  have HB6 : Hid (Below W2.heap.size W2 W6) := HB5.out.trans (hb6.mono HB5.out.size)
  clear hans hb6
  go_wp2_with (first | (refine wpList_slice_one rfl 33 44 _ rfl (pkOf en) rfl hsl ?_))
  go_ret2
  have b7 : Below W6.heap.size W6 (W6.alloc (.cells (pkOf en).toArray 44)) := (Below.refl _ _).alloc (Nat.le_refl _) _
  have a7 := HA6.out.fresh b7
  obtain ⟨e1, e2, e3⟩ := HEN.out
  have k6 := K2.out.size
  have k7 := HB6.out.size
  rw [e2, e3, e1] at a7
  rw [e1] at b7
  rw [e1]
  refine ⟨C', l', lv', G', F', k, vv, tt, W6.heap.size, rfl, a7, ⟨by omega, by simp, ?_⟩, K2.out.trans (Kept.fresh (S := alOwn q bb j bk lm lv G) (HB6.out.trans (b7.mono HB6.out.size))) (fun _ _ h => h), O2.out⟩
  exact range_new _ _ _
end Go.Proofs.YteglimjonofdeaaGreatDoor
