import Derived.Test.YteglimjonofdeaaGreatDoorHReck4M
import Derived.Maps.Views
set_option linter.unusedVariables false
set_option linter.unusedSimpArgs false
namespace Go.Proofs.YteglimjonofdeaaGreatDoor
open Go.RowKit

theorem rq_whole (c n o p v : Int) (t : ByteArray) (hc : 1 ≤ c ∧ c ≤ 9) (hn : 1 ≤ n ∧ n ≤ 2147483647) (ho : 1 ≤ o ∧ o ≤ 5) (hp : 1 ≤ p ∧ p ≤ 99) (hv : 0 ≤ v ∧ v ≤ 8) (ht : t.size ≤ 8) : rqWhole c n o p v t = true := by
  simp [rqWhole, wholeB, inB]
  omega
theorem owrap (x : Int) (h0 : 0 ≤ x) (h1 : x ≤ 4294967295) : IntKind.i64.wrap x = x := by
  simp [IntKind.wrap, IntKind.bits, IntKind.signed]; omega
theorem slice_abc (r : Nat) (hr : r ≤ 8) : ∃ T : ByteArray, T.size ≤ 8 ∧ ∀ w, (Instr.slice 9 (.string ⟨#[97, 98, 99, 100, 101, 102, 103, 104]⟩) none (some (.int .i64 (r : Int))) none).run Tryz.prog w = .ok (.string T) w := by
  obtain rfl | rfl | rfl | rfl | rfl | rfl | rfl | rfl | rfl : r = 0 ∨ r = 1 ∨ r = 2 ∨ r = 3 ∨ r = 4 ∨ r = 5 ∨ r = 6 ∨ r = 7 ∨ r = 8 := by omega
  · exact ⟨⟨#[]⟩, by decide, fun w => by kernel_rfl⟩
  · exact ⟨⟨#[97]⟩, by decide, fun w => by kernel_rfl⟩
  · exact ⟨⟨#[97, 98]⟩, by decide, fun w => by kernel_rfl⟩
  · exact ⟨⟨#[97, 98, 99]⟩, by decide, fun w => by kernel_rfl⟩
  · exact ⟨⟨#[97, 98, 99, 100]⟩, by decide, fun w => by kernel_rfl⟩
  · exact ⟨⟨#[97, 98, 99, 100, 101]⟩, by decide, fun w => by kernel_rfl⟩
  · exact ⟨⟨#[97, 98, 99, 100, 101, 102]⟩, by decide, fun w => by kernel_rfl⟩
  · exact ⟨⟨#[97, 98, 99, 100, 101, 102, 103]⟩, by decide, fun w => by kernel_rfl⟩
  · exact ⟨⟨#[97, 98, 99, 100, 101, 102, 103, 104]⟩, by decide, fun w => by kernel_rfl⟩

set_option maxRecDepth 10000 in
set_option maxHeartbeats 4000000 in
/-- A request out of what a client asks for: whole, whatever that is. -/
theorem request_any (a : Ask5) (no : Int) (w : World) (hok : a.ok) (hno : 1 ≤ no ∧ no ≤ 2147483647) :
    Calls Tryz.prog 8 #[.agg a.cells.toArray, .int .i64 no] w fun e w' => ∃ c o p v t, e = .returned (.agg (rqCells c no o p v t).toArray) ∧ rqWhole c no o p v t = true ∧ Below w.heap.size w w' := by
  obtain ⟨⟨x1, x2⟩, ⟨x3, x4⟩, ⟨x5, x6⟩, ⟨x7, x8⟩, ⟨x9, x10⟩⟩ := hok
  obtain ⟨rc, lc, hc⟩ := opick_fix a.c 3 x1 x2 (by omega) (by omega)
  obtain ⟨ro, lo, ho⟩ := opick_fix a.o 5 x3 x4 (by omega) (by omega)
  obtain ⟨rp, lp, hp⟩ := opick_fix a.p 4 x5 x6 (by omega) (by omega)
  obtain ⟨rv, lv, hv⟩ := opick_fix a.v 5 x7 x8 (by omega) (by omega)
  obtain ⟨rt, lt, ht⟩ := opick_fix a.t 9 x9 x10 (by omega) (by omega)
  obtain ⟨T, hT8, hslice⟩ := slice_abc rt (by omega)
  have HW : Hid (rqWhole (1 + rc) no (1 + ro) (1 + rp) rv T = true) := rq_whole _ _ _ _ _ _ (by omega) hno (by omega) (by omega) (by omega) hT8
  have wrc : IntKind.i64.wrap (1 + (rc : Int)) = 1 + rc := owrap _ (by omega) (by omega)
  have wro : IntKind.i64.wrap (1 + (ro : Int)) = 1 + ro := owrap _ (by omega) (by omega)
  have wrp : IntKind.i64.wrap (1 + (rp : Int)) = 1 + rp := owrap _ (by omega) (by omega)
  obtain ⟨U, hU⟩ : ∃ U, U = w.alloc (.cells a.cells.toArray 32) := ⟨_, rfl⟩
  obtain ⟨V, hV⟩ : ∃ V, V = U.alloc (.cells (rqCells 0 0 0 0 0 ⟨#[]⟩).toArray 29) := ⟨_, rfl⟩
  have hUs : U.heap.size = w.heap.size + 1 := by rw [hU]; simp
  have bU : Below w.heap.size w U := by rw [hU]; exact (Below.refl _ _).alloc (Nat.le_refl _) _
  have bV : Below U.heap.size U V := by rw [hV]; exact (Below.refl _ _).alloc (Nat.le_refl _) _
  have rU : U.rangeAt w.heap.size 0 a.cells := by rw [hU]; exact range_new _ _ _
  have hVs : V.heap.size = w.heap.size + 2 := by rw [hV]; simp; omega
  have TV : Hid (V.there (w.heap.size + 1) 0 6) := by
    have := there_new U (rqCells 0 0 0 0 0 ⟨#[]⟩).toArray 29
    rw [← hV, hUs] at this; exact this
  have BV : Hid (Below w.heap.size w V) := bU.trans (bV.mono (by omega))
  have J0 : V.drew.rangeAt w.heap.size 0 a.cells := fun i x hx => (bV.cell (p := ⟨w.heap.size, 0 + i, none⟩) (by show w.heap.size < _; omega)).trans (rU i x hx)
  have hVV : (w.alloc (.cells a.cells.toArray 32)).alloc (.cells #[.int .i64 0, .int .i64 0, .int .i64 0, .int .i64 0, .int .i64 0, .string ⟨#[]⟩] 29) = V := by rw [hV, hU]; rfl
  clear bU bV rU x1 x2 x3 x4 x5 x6 x7 x8 x9 x10 hT8 hU hV
  go_enter Tryz.func8, Tryz.ntmps8
  go_wp2_with fail
  try rw [hVV]
  clear hVV
  refine wp_region_noPanic ?_
  refine wp_region_held_drew (S := fun W => W.rangeAt w.heap.size 0 a.cells) (by kernel_rfl) J0 (fun _ => ?_)
  refine tk 0 J0 ?_
  refine tq (i := 1) (v := ?_) rfl J0 ?_ ?_
  rotate_left 1
  · intro W hSW; have qc : W.cell? ⟨w.heap.size, 0, none⟩ = some (.int .i64 a.c) := hSW 0 _ rfl; clear hSW; go_simp; try with_reducible rfl
  simp only [qA, qB, qC, Act.put, qD, qE, qF]
  refine tk 4 J0 ?_
  refine tk 5 J0 ?_
  refine tq (i := 6) (v := ?_) rfl J0 ?_ ?_
  rotate_left 1
  · intro W hSW; have qc : W.cell? ⟨w.heap.size, 1, none⟩ = some (.int .i64 a.o) := hSW 1 _ rfl; clear hSW; go_simp; try with_reducible rfl
  simp only [qA, qB, qC, Act.put, qD, qE, qF]
  refine tk 9 J0 ?_
  refine tq (i := 10) (v := ?_) rfl J0 ?_ ?_
  rotate_left 1
  · intro W hSW; have qc : W.cell? ⟨w.heap.size, 2, none⟩ = some (.int .i64 a.p) := hSW 2 _ rfl; clear hSW; go_simp; try with_reducible rfl
  simp only [qA, qB, qC, Act.put, qD, qE, qF]
  refine tk 13 J0 ?_
  refine tq (i := 14) (v := ?_) rfl J0 ?_ ?_
  rotate_left 1
  · intro W hSW; have qc : W.cell? ⟨w.heap.size, 3, none⟩ = some (.int .i64 a.v) := hSW 3 _ rfl; clear hSW; go_simp; try with_reducible rfl
  simp only [qA, qB, qC, Act.put, qD, qE, qF]
  refine tk 16 J0 ?_
  refine tq (i := 17) (v := ?_) rfl J0 ?_ ?_
  rotate_left 1
  · intro W hSW; have qc : W.cell? ⟨w.heap.size, 4, none⟩ = some (.int .i64 a.t) := hSW 4 _ rfl; clear hSW; go_simp; try with_reducible rfl
  simp only [qA, qB, qC, Act.put, qD, qE, qF]
  refine rk 2 (fun K' hK' => ?_)
  go_simp
  refine (hc V.drew).mono ?_
  rintro e W' ⟨rfl, hw'⟩
  obtain rfl : V.drew = W' := hw'.symm
  clear hw'
  refine hK'.out _ _ J0 (fun _ => ?_)
  clear hK' K'
  try simp only [qA, qB, qC, Act.put, qD, qE, qF]
  refine tk 3 J0 ?_
  refine rk 7 (fun K' hK' => ?_)
  go_simp
  refine (ho V.drew).mono ?_
  rintro e W' ⟨rfl, hw'⟩
  obtain rfl : V.drew = W' := hw'.symm
  clear hw'
  refine hK'.out _ _ J0 (fun _ => ?_)
  clear hK' K'
  try simp only [qA, qB, qC, Act.put, qD, qE, qF]
  refine tk 8 J0 ?_
  refine rk 11 (fun K' hK' => ?_)
  go_simp
  refine (hp V.drew).mono ?_
  rintro e W' ⟨rfl, hw'⟩
  obtain rfl : V.drew = W' := hw'.symm
  clear hw'
  refine hK'.out _ _ J0 (fun _ => ?_)
  clear hK' K'
  try simp only [qA, qB, qC, Act.put, qD, qE, qF]
  refine tk 12 J0 ?_
  refine rk 15 (fun K' hK' => ?_)
  go_simp
  refine (hv V.drew).mono ?_
  rintro e W' ⟨rfl, hw'⟩
  obtain rfl : V.drew = W' := hw'.symm
  clear hw'
  refine hK'.out _ _ J0 (fun _ => ?_)
  clear hK' K'
  try simp only [qA, qB, qC, Act.put, qD, qE, qF]
  refine rk 18 (fun K' hK' => ?_)
  go_simp
  refine (ht V.drew).mono ?_
  rintro e W' ⟨rfl, hw'⟩
  obtain rfl : V.drew = W' := hw'.symm
  clear hw'
  refine hK'.out _ _ J0 (fun _ => ?_)
  clear hK' K'
  try simp only [qA, qB, qC, Act.put, qD, qE, qF]
  refine wpAnyH_take (i := 19) (v := .string T) rfl (by kernel_rfl) (by kernel_rfl) (by kernel_rfl) (fun _ _ _ h => h) (Or.inl ⟨by rfl, ?_⟩) J0 ?_
  · intro W hSW; have hsl := hslice W; clear hSW; go_simp; try with_reducible rfl
  simp only [qA, qB, qC, Act.put, qD, qE, qF]
  refine wpAnyH_take (i := 20) (v := .agg (rqCells (1 + rc) no (1 + ro) (1 + rp) rv T).toArray) rfl (by kernel_rfl) (by kernel_rfl) (by kernel_rfl) (fun _ _ _ h => h) (yieldsIf_build (by rfl) 29 _ rfl (rqCells (1 + rc) no (1 + ro) (1 + rp) rv T).toArray (Eq.trans (congrArg (Tryz.prog.built _) (by simp [Act.eval, wrc, wro, wrp])) (rq_built _ _ _ _ _ _))) J0 ?_
  simp only [qA, qB, qC, Act.put, qD, qE, qF]
  refine rk 21 (fun K' hK' => ?_)
  refine wp_store_abs 29 _ _ rfl (w.heap.size + 1) 0 (rqCells (1 + rc) no (1 + ro) (1 + rp) rv T) rfl rfl TV.out (info_rq _ _ _ _ _ _) (rq_one _ _ _ _ _ _) ?_
  intro W6 hw6 hr6 _ht6 hb6
  have J6 : W6.rangeAt w.heap.size 0 a.cells := by rw [hw6]; exact World.rangeAt_setCells_apart J0 _ _ _ (Or.inl (by omega))
  have B6 : Below w.heap.size w W6 := (BV.out.drew).trans (hb6 w.heap.size (by omega))
  clear _ht6 hw6 hb6
  refine hK'.out _ _ J6 (fun _ => ?_)
  clear hK' K'
  try simp only [qA, qB, qC, Act.put, qD, qE, qF]
  refine ⟨by kernel_rfl, ?_⟩
  refine NoPanic.normal ?_
  try simp only [qA, qB, qC, Act.put, qD, qE, qF]
  go_wp2_with fail
  exact ret_cell rfl (w.heap.size + 1) 0 (rqCells (1 + rc) no (1 + ro) (1 + rp) rv T) _ rfl hr6 Tryz.underlying29 rfl (info_rq _ _ _ _ _ _) rfl ⟨_, _, _, _, _, rfl, HW.out, B6⟩
/-- A node that is alone, with k entries in its log; all its blocks lie from B on; xn: the door's node. -/
structure Onc (K : Nat → Int) (z : Nv) (ky N B xn k nd q bb j : Nat) (C : Nat → List Int) (l : ByteArray) (bk lm m : Nat) (lv : Value) (L : List En) (G F : Nat → Prop) (D : DataW Unit) (w : World) : Prop where
  al : Al K w z nd q bb N j (k + 1 + ky) C l bk lm m (3 * k) ky lv L G F D
  r0 : z.r = 0
  l0 : z.last = 0
  x : w.cell? ⟨xn, 0, none⟩ = some (.pointer (some ⟨nd, 0, none⟩))
  xl : xn < w.heap.size
  xo : ¬ alOwn q bb j bk lm lv G xn
  len : L.length = k
  nos : ∀ e ∈ L, e.n ≤ k
  last : ∀ c : Int, ∃ i no, lastIs L D c no i
  base : ∀ g, alOwn q bb j bk lm lv G g → B ≤ g
  bl : B ≤ w.heap.size
  nb : B ≤ nd
theorem Onc.fresh {K : Nat → Int} {z : Nv} {ky N B xn k nd q bb j : Nat} {C : Nat → List Int} {l : ByteArray} {bk lm m : Nat} {lv : Value} {L : List En} {G F : Nat → Prop} {D : DataW Unit} {w w' : World} (h : Onc K z ky N B xn k nd q bb j C l bk lm m lv L G F D w) (hb : Below w.heap.size w w') : Onc K z ky N B xn k nd q bb j C l bk lm m lv L G F D w' :=
  ⟨h.al.fresh hb, h.r0, h.l0, (hb.cell (p := ⟨xn, 0, none⟩) h.xl).trans h.x, Nat.lt_of_lt_of_le h.xl hb.size, h.xo, h.len, h.nos, h.last, h.base, Nat.le_trans h.bl hb.size, h.nb⟩
theorem Onc.lastBound {K : Nat → Int} {z : Nv} {ky N B xn k nd q bb j : Nat} {C : Nat → List Int} {l : ByteArray} {bk lm m : Nat} {lv : Value} {L : List En} {G F : Nat → Prop} {D : DataW Unit} {w : World} (h : Onc K z ky N B xn k nd q bb j C l bk lm m lv L G F D w) {c no : Int} {i : Nat} (hl : lastIs L D c no i) : no ≤ k := by
  rcases hl.2 with ⟨_, rfl⟩ | ⟨e, _, he, rfl⟩
  · omega
  · exact h.nos e (List.mem_of_getElem? he)
theorem last_put (L : List En) (D : DataW Unit) (c : Int) (e : En) (hD : Maps.IsMap D) : lastIs (L ++ [e]) (D.put (.int .i64 c) (.lit (.int .i64 ((L.length + 1 : Nat) : Int)))) c e.n (L.length + 1) :=
  ⟨Maps.atKey_put_same hD (by simp [WideAt.IsKeyLit]) _ _, Or.inr ⟨e, by omega, by rw [Nat.add_sub_cancel, List.getElem?_append_right (Nat.le_refl _), Nat.sub_self]; rfl, rfl⟩⟩
theorem last_other (L : List En) (D : DataW Unit) (c c' no : Int) (i : Nat) (e : En) (d : DataW Unit) (hne : c' ≠ c) (h : lastIs L D c' no i) : lastIs (L ++ [e]) (D.put (.int .i64 c) d) c' no i := by
  refine ⟨(Maps.atKey_put_other (by simpa using hne) _ _).trans h.1, h.2.imp id (fun ⟨x, h1, h2, h3⟩ => ⟨x, h1, ?_, h3⟩)⟩
  rw [List.getElem?_append_left (List.getElem?_eq_some_iff.1 h2).1]
  exact h2

set_option maxHeartbeats 1000000 in
/-- A new request. -/
theorem o_new (K : Nat → Int) (z : Nv) (ky N B xn k nd q bb j : Nat) (C : Nat → List Int) (l : ByteArray) (bk lm m : Nat) (lv : Value) (L : List En) (G F : Nat → Prop) (D : DataW Unit) (c n o p v : Int) (t : ByteArray) (w : World) (h : Onc K z ky N B xn k nd q bb j C l bk lm m lv L G F D w) (hw : rqWhole c n o p v t = true) (hn : n = ((k + 1 : Nat) : Int)) (hk : k < 150) (hN : N ≤ 400) (hkN : k + 1 + ky < N) :
    Calls Tryz.prog 9 #[.pointer (some ⟨xn, 0, none⟩), .agg (rqCells c n o p v t).toArray] w fun e w' => ∃ C' l' lv' G' F' L' D' en b, e = .returned (.tuple #[.slice (some ⟨b, 0, none⟩) 1 1, .nilIface]) ∧ Onc K z ky N B xn (k + 1) nd q bb j C' l' bk lm m lv' L' G' F' D' w' ∧ onePk en w w' b ∧ Below B w w' ∧ lastIs L' D' c n (k + 1) ∧ L'[k]? = some en ∧ en.c = c ∧ Kept (alOwn q bb j bk lm lv G) w w' := by
  obtain ⟨i, no, hl⟩ := h.last c
  have hno := h.lastBound hl
  have hlen := h.len
  have hD : Maps.IsMap D := by obtain ⟨es, clock, _, _, _, e⟩ := h.al.book.lasts; exact ⟨_, e⟩
  refine (dreq_any xn nd c n o p v t (fun W s r w' => ∃ C' l' lv' G' F' k' vv tt b, s = .slice (some ⟨b, 0, none⟩) 1 1 ∧ r = .nilIface ∧ Al K w' z nd q bb N j (k + 2 + ky) C' l' bk lm m (3 * (k + 1)) ky lv' (L ++ [⟨c, n, o, p, v, t, k', vv, tt⟩]) G' F' (D.put (.int .i64 c) (.lit (.int .i64 ((L.length + 1 : Nat) : Int)))) ∧ onePk ⟨c, n, o, p, v, t, k', vv, tt⟩ W w' b ∧ Kept (alOwn q bb j bk lm lv G) W w' ∧ ∀ g, bkOwn bk lm lv' G' g → bkOwn bk lm lv G g ∨ W.heap.size ≤ g)
    (alOwn q bb j bk lm lv G) w h.x h.xl h.xo (fun g hg => by rcases hg with hg | hg; exact h.al.jat.ownLt g hg; exact h.al.book.ownLt g hg) (fun W hbW => ?_)).mono ?_
  · refine (req_new K z nd q bb N j (k + 1 + ky) C l bk lm m (3 * k) ky lv L G F D c n o p v t no i W (h.al.fresh hbW) h.r0 hw hl (by omega) (by omega) (fun W2 s r w' => ∃ C' l' lv' G' F' k' vv tt b, s = .slice (some ⟨b, 0, none⟩) 1 1 ∧ r = .nilIface ∧ Al K w' z nd q bb N j (k + 2 + ky) C' l' bk lm m (3 * (k + 1)) ky lv' (L ++ [⟨c, n, o, p, v, t, k', vv, tt⟩]) G' F' (D.put (.int .i64 c) (.lit (.int .i64 ((L.length + 1 : Nat) : Int)))) ∧ onePk ⟨c, n, o, p, v, t, k', vv, tt⟩ W2 w' b ∧ Kept (alOwn q bb j bk lm lv G) W2 w' ∧ ∀ g, bkOwn bk lm lv' G' g → bkOwn bk lm lv G g ∨ W2.heap.size ≤ g) (fun W2 hb2 => ?_)).mono ?_
    · refine (ntake_alone K z nd q bb N j (k + 1 + ky) C l bk lm m (3 * k) ky lv L G F D c n o p v t W2 ((h.al.fresh hbW).fresh hb2) h.r0 h.l0 (by omega) (by omega) hw (by omega) (by omega)).mono ?_
      rintro e w' ⟨C', l', lv', G', F', k', vv, tt, b, rfl, a, pk, kk, oo⟩
      rw [show k + 1 + ky + 1 = k + 2 + ky by omega, show 3 * k + 3 = 3 * (k + 1) by omega] at a
      exact ⟨_, _, rfl, C', l', lv', G', F', k', vv, tt, b, rfl, rfl, a, pk, kk, oo⟩
    · rintro e w' ⟨W2, s, r, hb2, rfl, C', l', lv', G', F', k', vv, tt, b, rfl, rfl, a, pk, kk, oo⟩
      have s2 := hb2.size
      have kk' : Kept (alOwn q bb j bk lm lv G) W w' := (Kept.fresh (S := alOwn q bb j bk lm lv G) hb2).trans kk (fun _ _ h => h)
      exact ⟨_, _, rfl, ⟨C', l', lv', G', F', k', vv, tt, b, rfl, rfl, a, ⟨Nat.le_trans s2 pk.1, pk.2⟩, kk', fun g hg => (oo g hg).imp id (fun e => Nat.le_trans s2 e)⟩, kk'⟩
  · rintro e w' ⟨W, s, r, hbW, rfl, C', l', lv', G', F', k', vv, tt, b, rfl, rfl, a, pk, kk, oo⟩
    have sW := hbW.size
    have sw := kk.size
    have bW : Below B w w' := (hbW.mono h.bl).trans (kk.toBelow (Nat.le_trans h.bl sW) h.base)
    have hb := h.bl
    refine ⟨C', l', lv', G', F', _, _, ⟨c, n, o, p, v, t, k', vv, tt⟩, b, rfl, ⟨by rw [show k + 1 + 1 + ky = k + 2 + ky by omega]; exact a, h.r0, h.l0, ?_, by have := h.xl; omega, fun e => ?_, ?_, fun x hx => ?_, fun c' => ?_, fun g hg => ?_, by omega, h.nb⟩, ⟨Nat.le_trans sW pk.1, pk.2⟩, bW, ?_, ?_, rfl, (Kept.fresh (S := alOwn q bb j bk lm lv G) hbW).trans kk (fun _ _ h => h)⟩
    · exact (kk.cell (a := ⟨xn, 0, none⟩) (Nat.lt_of_lt_of_le h.xl sW) h.xo).trans ((hbW.cell (p := ⟨xn, 0, none⟩) h.xl).trans h.x)
    · rcases e with e | e
      · exact h.xo (Or.inl e)
      · rcases oo xn e with e | e
        · exact h.xo (Or.inr e)
        · have := h.xl; omega
    · rw [List.length_append, List.length_singleton, hlen]
    · rcases List.mem_append.1 hx with hx | hx
      · have := h.nos x hx; omega
      · rw [List.mem_singleton.1 hx]; show n ≤ _; omega
    · by_cases e : c' = c
      · subst e; exact ⟨_, _, last_put L D c' ⟨c', n, o, p, v, t, k', vv, tt⟩ hD⟩
      · obtain ⟨i', no', hl'⟩ := h.last c'
        exact ⟨i', no', last_other L D c c' no' i' _ _ e hl'⟩
    · rcases hg with hg | hg
      · exact h.base g (Or.inl hg)
      · rcases oo g hg with e | e
        · exact h.base g (Or.inr e)
        · omega
    · have := last_put L D c ⟨c, n, o, p, v, t, k', vv, tt⟩ hD
      rw [← hlen]; exact this
    · rw [← hlen, List.getElem?_append_right (Nat.le_refl _), Nat.sub_self]; rfl

/-- What is seen. -/
theorem o_see (K : Nat → Int) (z : Nv) (ky N B xn k nd q bb j : Nat) (C : Nat → List Int) (l : ByteArray) (bk lm m : Nat) (lv : Value) (L : List En) (G F : Nat → Prop) (D : DataW Unit) (es : Array MapEntry) (clock : Nat) (w : World) (h : Onc K z ky N B xn k nd q bb j C l bk lm m lv L G F D w) (hm : w.heap[m]? = some (.map es clock)) (hk : k < 300) :
    Calls Tryz.prog 10 #[.pointer (some ⟨xn, 0, none⟩)] w fun e w' => e = .returned (.agg (stG (k : Nat) (k : Nat) (es.size : Nat) (ky : Nat)).toArray) ∧ Below w.heap.size w w' := by
  have hlen := h.len
  obtain ⟨es', clock', hm', hsz⟩ := h.al.book.recs.map.block
  obtain rfl : es' = es := by rw [hm] at hm'; simp at hm'; exact hm'.1.symm
  have := dsee_any K z nd q bb N j (k + 1 + ky) C l bk lm m (3 * k) ky lv L G F D es' clock xn w h.al h.x h.xl hm (by omega) (by omega)
  rw [show ackOf z L.length = (L.length : Int) from if_pos (h.r0.trans h.l0.symm), hlen] at this
  exact this
def firstT : ByteArray := ⟨#[102, 105, 114, 115, 116]⟩
theorem rq_first : Tryz.prog.built 29 [(0, .int .i64 9), (1, .int .i64 1), (2, .int .i64 1), (3, .int .i64 99), (5, .string ⟨#[102, 105, 114, 115, 116]⟩)] = some (rqCells 9 1 1 99 0 firstT).toArray := by kernel_rfl
theorem first_whole : rqWhole 9 1 1 99 0 firstT = true := by decide +kernel
theorem stamp_size (K : Nat → Int) (C : Nat → List Int) (n : Nat) : (stampT K C n).size ≤ 18 := by
  unfold stampT; rw [ByteArray.size_extract]; omega

/-- A block that is not the node's is written. -/
theorem Onc.other {K : Nat → Int} {z : Nv} {ky N B xn k nd q bb j : Nat} {C : Nat → List Int} {l : ByteArray} {bk lm m : Nat} {lv : Value} {L : List En} {G F : Nat → Prop} {D : DataW Unit} {W W' : World} {b : Nat} (h : Onc K z ky N B xn k nd q bb j C l bk lm m lv L G F D W) (hk : Kept (· = b) W W') (hb : B ≤ b) (h1 : ¬ alOwn q bb j bk lm lv G b) (h2 : nd ≠ b) (h3 : xn ≠ b) (h4 : 1 ≠ b) : Onc K z ky N B xn k nd q bb j C l bk lm m lv L G F D W' := by
  have ne : ∀ g, alOwn q bb j bk lm lv G g → ¬ g = b := fun g hg e => h1 (e ▸ hg)
  exact ⟨⟨range_kept h.al.node hk h.al.nlt h2, there_kept h.al.room hk h.al.nlt h2, Nat.lt_of_lt_of_le h.al.nlt hk.size, h.al.jat.kept hk (fun g hg => ne g (Or.inl hg)), h.al.book.kept hk (fun g hg => ne g (Or.inr hg)), h.al.ap, h.al.nap, h.al.tab.kept hk h4, h.al.tap⟩, h.r0, h.l0, (hk.cell (a := ⟨xn, 0, none⟩) h.xl h3).trans h.x, Nat.lt_of_lt_of_le h.xl hk.size, h.xo, h.len, h.nos, h.last, h.base, Nat.le_trans h.bl hk.size, h.nb⟩
/-- A block that is newer than the node is written. -/
theorem o_stored {K : Nat → Int} {z : Nv} {ky N xn k nd q bb j : Nat} {C : Nat → List Int} {l : ByteArray} {bk lm m : Nat} {lv : Value} {L : List En} {G F : Nat → Prop} {D : DataW Unit} {w W3 W5 W6 : World} {b o : Nat} {cs : List Value} {B : Nat} (h : Onc K z ky N B xn k nd q bb j C l bk lm m lv L G F D W5) (hB : Below B w W5) (h6 : W6 = W5.setCells b o cs) (hb : B ≤ b) (h3 : Onc K z ky N B xn k nd q bb j C l bk lm m lv L G F D W3) (hb3 : W3.heap.size ≤ b) :
    Onc K z ky N B xn k nd q bb j C l bk lm m lv L G F D W6 ∧ Below B w W6 := by
  have k6 : Kept (· = b) W5 W6 := by rw [h6]; exact Kept.setCells _ _ _ _ (Or.inl rfl)
  refine ⟨h.other k6 hb (fun e => ?_) ?_ ?_ ?_, by rw [h6]; exact below_setCells hb _ _ _ hB⟩
  · rcases e with e | e
    · have := h3.al.jat.ownLt b e; omega
    · have := h3.al.book.ownLt b e; omega
  · have := h3.al.nlt; omega
  · have := h3.xl; omega
  · have := h3.al.tab.lt; omega

set_option maxRecDepth 10000 in
set_option maxHeartbeats 4000000 in
theorem alone_any (K : Nat → Int) (h : Int) (N : Nat) (s : ByteArray) (w : World) (hh0 : 0 ≤ h) (hh5 : h ≤ 5) (h8 : 8 ≤ N) (h4 : N ≤ 400) (hs : s.size = 32) (T : Tab K w) (hno : z128.take 32 ≠ (packN K (sumOf K (sumOf K origT ++ stampT K zeroC N)) ⟨#[]⟩).take 32) :
    Calls Tryz.prog 6 #[.int .i64 N, .string s, .int .i64 h] w fun e w' => ∃ p xn nd q bb j C l bk lm m lv L G F D, e = .returned (.tuple #[.pointer (some ⟨p, 0, none⟩), .pointer (some ⟨xn, 0, none⟩)]) ∧ Onc K (nv0 0 0 s h) 0 N w.heap.size xn 1 nd q bb j C l bk lm m lv L G F D w' ∧ Below w.heap.size w w' := by
  have hmd := made_any K N w h8 h4 T
  have HT : Hid (Tab K w) := T
  have HNO : Hid (z128.take 32 ≠ (packN K (sumOf K (sumOf K origT ++ stampT K zeroC N)) ⟨#[]⟩).take 32) := hno
  clear T hno
  go_enter Tryz.func6, Tryz.ntmps6
  go_wp2_with fail
  refine hmd.mono ?_
  rintro e W1 ⟨p, bb, rfl, hp, hbb, hd, b1⟩
  have hTl := HT.out.lt
  have hop := popen_any K 0 0 h p bb N _ s W1 (aopen_any K 0 0 h p bb N _ (stampT K zeroC N) s W1 (by omega) (by omega) (by omega) hh0 hh5 h4 h8 (stamp_size _ _ _) hs hd (HT.out.below b1) (by omega) (by omega) rfl rfl HNO.out)
  have HB1 : Hid (Below w.heap.size w W1) := b1
  have HDL : Hid (p < W1.heap.size ∧ bb < W1.heap.size) := hd.lt
  generalize fmtC (packN K (sumOf K origT) (stampT K zeroC N)) = C at hop
  clear hmd hd b1
  go_wp2_with fail
  refine hop.mono ?_
  rintro e W2 ⟨xn, nd, bk, j, lm, m, l, rfl, a2, ⟨g1, g2, g3, g4, g5⟩, k2, x2, xl2, xw2, xo2⟩
  have s1 := HB1.out.size
  have hbase : ∀ g, alOwn p bb j bk lm (.slice none 0 0) (fun g => g = m) g → w.heap.size ≤ g := fun g hg => by
    rcases hg with (h | h | h) | (h | h | h | h)
    all_goals first | omega | (cases h)
  have O2 : Onc K (nv0 0 0 s h) 0 N w.heap.size xn 0 nd p bb j C l bk lm m (.slice none 0 0) [] (fun g => g = m) (fun _ => False) (.map []) W2 := ⟨a2, rfl, rfl, x2, xl2, xo2, rfl, (fun e he => by cases he), (fun c => ⟨0, 0, rfl, Or.inl ⟨rfl, rfl⟩⟩), hbase, by have := k2.size; omega, by omega⟩
  have B2 : Hid (Below w.heap.size w W2) := HB1.out.trans (k2.toBelow s1 (fun g hg => by omega))
  have hrq := o_new K (nv0 0 0 s h) 0 N w.heap.size xn 0 nd p bb j C l bk lm m (.slice none 0 0) [] (fun g => g = m) (fun _ => False) (.map []) 9 1 1 99 0 firstT W2 O2 first_whole rfl (by omega) h4 (by omega)
  have hbu := rq_first
  clear hop a2 k2 x2 xo2 hbase O2
  go_wp2_with (first
    | (refine wpList_build_tm rfl 29 _ rfl _ (Eq.trans (congrArg (Tryz.prog.built _) (by simp [Act.eval])) hbu) ?_))
  refine hrq.mono ?_
  rintro e W3 ⟨C', l', lv', G', F', L', D', en, b, rfl, O3, pk3, b3, hl3, hi3, hc3, _⟩
  have HO3 : Hid (Onc K (nv0 0 0 s h) 0 N w.heap.size xn 1 nd p bb j C' l' bk lm m lv' L' G' F' D' W3) := O3
  have B3 : Hid (Below w.heap.size w W3) := B2.out.trans b3
  obtain ⟨es, clock, hm3, _⟩ := O3.al.book.recs.map.block
  have hsee := o_see K (nv0 0 0 s h) 0 N w.heap.size xn 1 nd p bb j C' l' bk lm m lv' L' G' F' D' es clock W3 O3 hm3 (by omega)
  have cb3 : W3.cell? ⟨b, 0, none⟩ = some (.int .i64 19) := by
    have := pk3.2.2 0 _ rfl
    rw [hc3] at this
    exact this
  have hbl := pk3.2.1
  clear hrq O3 b3 hl3 hi3 pk3
  generalize hst : (stG ((1 : Nat) : Int) ((1 : Nat) : Int) ((es.size : Nat) : Int) ((0 : Nat) : Int)).toArray = cs at hsee
  go_wp2_with fail
  refine hsee.mono ?_
  rintro e W4 ⟨rfl, b4⟩
  have s4 := b4.size
  obtain ⟨W5, h5⟩ : ∃ X, X = W4.alloc (.cells (stG 0 0 0 0).toArray 39) := ⟨_, rfl⟩
  have b5 : Below W4.heap.size W4 W5 := by rw [h5]; exact (Below.refl _ _).alloc (Nat.le_refl _) _
  have s5 : W5.heap.size = W4.heap.size + 1 := by rw [h5]; simp
  have t5 : W5.there W4.heap.size 0 (stG ((1 : Nat) : Int) ((1 : Nat) : Int) ((es.size : Nat) : Int) ((0 : Nat) : Int)).length := by rw [h5]; exact there_new W4 (stG 0 0 0 0).toArray _
  have HI := st_info ((1 : Nat) : Int) ((1 : Nat) : Int) ((es.size : Nat) : Int) ((0 : Nat) : Int)
  have HO := st_one ((1 : Nat) : Int) ((1 : Nat) : Int) ((es.size : Nat) : Int) ((0 : Nat) : Int)
  have O5 : Hid (Onc K (nv0 0 0 s h) 0 N w.heap.size xn 1 nd p bb j C' l' bk lm m lv' L' G' F' D' W5) := (HO3.out.fresh b4).fresh b5
  have B5 : Hid (Below w.heap.size w W5) := (B3.out.trans (b4.mono B3.out.size)).trans (b5.mono (by have := B3.out.size; omega))
  have cb5 : W5.cell? ⟨b, 0, none⟩ = some (.int .i64 19) := (b5.cell (p := ⟨b, 0, none⟩) (by show b < _; omega)).trans ((b4.cell (p := ⟨b, 0, none⟩) hbl).trans cb3)
  have s35 := B3.out.size
  clear hsee b4 b5 cb3 hm3
  go_wp2_with (first
    | (refine wpList_alloc_of rfl 39 rfl (stG 0 0 0 0).toArray alloc_st ?_; rw [← h5]; clear h5)
    | (refine wpList_store_abs rfl 39 _ _ rfl W4.heap.size 0 (stG ((1 : Nat) : Int) ((1 : Nat) : Int) ((es.size : Nat) : Int) ((0 : Nat) : Int)) rfl (by rw [hst]; rfl) t5 HI HO ?_
       intro W6 hw6 hr6 _ht6 hb6
       have k6 : Kept (· = W4.heap.size) W5 W6 := (by rw [hw6]; exact Kept.setCells _ _ _ _ (Or.inl rfl))
       have c60 : W6.cell? ⟨W4.heap.size, 0, none⟩ = some (.int .i64 1) := hr6 0 _ rfl
       have c61 : W6.cell? ⟨W4.heap.size, 1, none⟩ = some (.int .i64 1) := hr6 1 _ rfl
       have cb6 : W6.cell? ⟨b, 0, none⟩ = some (.int .i64 19) := (k6.cell (a := ⟨b, 0, none⟩) (by show b < _; omega) (by show ¬ b = W4.heap.size; omega)).trans cb5
       have HOB : Hid (Onc K (nv0 0 0 s h) 0 N w.heap.size xn 1 nd p bb j C' l' bk lm m lv' L' G' F' D' W6 ∧ Below w.heap.size w W6) := o_stored O5.out B5.out hw6 (by omega) HO3.out (by omega)
       clear _ht6 hw6 hb6 hr6 k6 cb5))
  go_ret2
  exact ⟨p, xn, nd, p, bb, j, C', l', bk, lm, m, lv', L', G', F', D', rfl, HOB.out.1, HOB.out.2⟩
end Go.Proofs.YteglimjonofdeaaGreatDoor
