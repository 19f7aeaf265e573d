import Derived.Test.YteglimjonofdeaaGreatDoorOReqM
import Derived.Test.YteglimjonofdeaaGreatDoorAAud3M
import Derived.Test.YteglimjonofdeaaGreatDoorIClashM
set_option linter.unusedVariables false
set_option linter.unusedSimpArgs false
namespace Go.Proofs.YteglimjonofdeaaGreatDoor
open Go.RowKit

theorem En.ok.wholes {e : En} (h : e.ok) : e.whole := by
  obtain ⟨_, _, ⟨k0, _⟩, ⟨v0, _⟩, htt, hk, hv, hw⟩ := h
  unfold rqWhole at hw
  rw [Bool.and_eq_true] at hw
  obtain ⟨⟨c1, c2⟩, ⟨n1, n2⟩, ⟨o1, o2⟩, ⟨p1, p2⟩, _, _⟩ := whole_bounds hw.1
  refine ⟨?_, by simpa using hw.2, htt⟩
  simp [wholeB, inB]
  omega
/-- A node that is alone, with k entries in its log. -/
structure Ond (K : Nat → Int) (z : Nv) (ky N B xn k nd q bb j : Nat) (C : Nat → List Int) (l : ByteArray) (bk lm m : Nat) (lv : Value) (L : List En) (G F : Nat → Prop) (D : DataW Unit) (w : World) : Prop where
  al : Al K w z nd q bb N j (k + 1 + ky) C l bk lm m (3 * k) ky lv L G F D
  r0 : z.r = 0
  l0 : z.last = 0
  x : w.cell? ⟨xn, 0, none⟩ = some (.pointer (some ⟨nd, 0, none⟩))
  xl : xn < w.heap.size
  xo : ¬ alOwn q bb j bk lm lv G xn
  len : L.length = k
  base : ∀ g, alOwn q bb j bk lm lv G g → B ≤ g
  bl : B ≤ w.heap.size
  nb : B ≤ nd
theorem Onc.ond {K : Nat → Int} {z : Nv} {ky N B xn k nd q bb j : Nat} {C : Nat → List Int} {l : ByteArray} {bk lm m : Nat} {lv : Value} {L : List En} {G F : Nat → Prop} {D : DataW Unit} {w : World} (h : Onc K z ky N B xn k nd q bb j C l bk lm m lv L G F D w) : Ond K z ky N B xn k nd q bb j C l bk lm m lv L G F D w := ⟨h.al, h.r0, h.l0, h.x, h.xl, h.xo, h.len, h.base, h.bl, h.nb⟩
theorem Ond.fresh {K : Nat → Int} {z : Nv} {ky N B xn k nd q bb j : Nat} {C : Nat → List Int} {l : ByteArray} {bk lm m : Nat} {lv : Value} {L : List En} {G F : Nat → Prop} {D : DataW Unit} {w w' : World} (h : Ond K z ky N B xn k nd q bb j C l bk lm m lv L G F D w) (hb : Below w.heap.size w w') : Ond K z ky N B xn k nd q bb j C l bk lm m lv L G F D w' :=
  ⟨h.al.fresh hb, h.r0, h.l0, (hb.cell (p := ⟨xn, 0, none⟩) h.xl).trans h.x, Nat.lt_of_lt_of_le h.xl hb.size, h.xo, h.len, h.base, Nat.le_trans h.bl hb.size, h.nb⟩
theorem Ond.wholes {K : Nat → Int} {z : Nv} {ky N B xn k nd q bb j : Nat} {C : Nat → List Int} {l : ByteArray} {bk lm m : Nat} {lv : Value} {L : List En} {G F : Nat → Prop} {D : DataW Unit} {w : World} (h : Ond K z ky N B xn k nd q bb j C l bk lm m lv L G F D w) : ∀ e ∈ L, e.whole := fun e he => (h.al.book.ens e he).wholes
/-- What is known of the numbers in a log. -/
def Nums (L : List En) (D : DataW Unit) (mx : Int) : Prop := (∀ c : Int, ∃ i no, lastIs L D c no i) ∧ ∀ e ∈ L, e.n ≤ mx
theorem Nums.bound {L : List En} {D : DataW Unit} {mx : Int} (h : Nums L D mx) (h0 : 0 ≤ mx) {c no : Int} {i : Nat} (hl : lastIs L D c no i) : no ≤ mx := by
  rcases hl.2 with ⟨_, rfl⟩ | ⟨e, _, he, rfl⟩
  · exact h0
  · exact h.2 e (List.mem_of_getElem? he)
theorem Nums.snoc {L : List En} {D : DataW Unit} {mx : Int} (h : Nums L D mx) (e : En) (hD : Maps.IsMap D) (hn : mx ≤ e.n) : Nums (L ++ [e]) (D.put (.int .i64 e.c) (.lit (.int .i64 ((L.length + 1 : Nat) : Int)))) e.n := by
  refine ⟨fun c' => ?_, fun x hx => ?_⟩
  · by_cases e1 : c' = e.c
    · subst e1; exact ⟨_, _, last_put L D e.c e hD⟩
    · obtain ⟨i', no', hl'⟩ := h.1 c'
      exact ⟨i', no', last_other L D e.c c' no' i' _ _ e1 hl'⟩
  · rcases List.mem_append.1 hx with hx | hx
    · have := h.2 x hx; omega
    · rw [List.mem_singleton.1 hx]; exact Int.le_refl _
def audPost (K : Nat → Int) (z : Nv) (ky N B xn k nd q bb j : Nat) (bk lm m : Nat) (lv : Value) (L : List En) (G : Nat → Prop) (D : DataW Unit) (c n o p v : Int) (t : ByteArray) (w : World) (e : Ending) (w' : World) : Prop :=
  ∃ C' l' lv' G' F' k' vv tt b, e = .returned (.tuple #[.slice (some ⟨b, 0, none⟩) 1 1, .nilIface]) ∧ Ond K z ky N B xn (k + 1) nd q bb j C' l' bk lm m lv' (L ++ [⟨c, n, o, p, v, t, k', vv, tt⟩]) G' F' (D.put (.int .i64 c) (.lit (.int .i64 ((L.length + 1 : Nat) : Int)))) w' ∧ Below B w w' ∧ Kept (alOwn q bb j bk lm lv G) w w' ∧ ∀ g, alOwn q bb j bk lm lv' G' g → alOwn q bb j bk lm lv G g ∨ w.heap.size ≤ g

set_option maxHeartbeats 1000000 in
/-- A request that is newer than the client's last one. -/
theorem aud_req (K : Nat → Int) (z : Nv) (ky N B xn k nd q bb j : Nat) (C : Nat → List Int) (l : ByteArray) (bk lm m : Nat) (lv : Value) (L : List En) (G F : Nat → Prop) (D : DataW Unit) (c n o p v : Int) (t : ByteArray) (w : World) (h : Ond K z ky N B xn k nd q bb j C l bk lm m lv L G F D w) (hw : rqWhole c n o p v t = true) (no : Int) (i : Nat) (hl : lastIs L D c no i) (hno : no < n) (hk : k < 150) (hN : N ≤ 400) (hkN : k + 1 + ky < N) :
    Calls Tryz.prog 9 #[.pointer (some ⟨xn, 0, none⟩), .agg (rqCells c n o p v t).toArray] w (audPost K z ky N B xn k nd q bb j bk lm m lv L G D c n o p v t w) := by
  have hlen := h.len
  have hD : Maps.IsMap D := by obtain ⟨es, clock, _, _, _, e⟩ := h.al.book.lasts; exact ⟨_, e⟩
  refine (dreq_any xn nd c n o p v t (fun W s r w' => ∃ C' l' lv' G' F' k' vv tt b, s = .slice (some ⟨b, 0, none⟩) 1 1 ∧ r = .nilIface ∧ Al K w' z nd q bb N j (k + 2 + ky) C' l' bk lm m (3 * (k + 1)) ky lv' (L ++ [⟨c, n, o, p, v, t, k', vv, tt⟩]) G' F' (D.put (.int .i64 c) (.lit (.int .i64 ((L.length + 1 : Nat) : Int)))) ∧ onePk ⟨c, n, o, p, v, t, k', vv, tt⟩ W w' b ∧ Kept (alOwn q bb j bk lm lv G) W w' ∧ ∀ g, bkOwn bk lm lv' G' g → bkOwn bk lm lv G g ∨ W.heap.size ≤ g)
    (alOwn q bb j bk lm lv G) w h.x h.xl h.xo (fun g hg => by rcases hg with hg | hg; exact h.al.jat.ownLt g hg; exact h.al.book.ownLt g hg) (fun W hbW => ?_)).mono ?_
  · refine (req_new K z nd q bb N j (k + 1 + ky) C l bk lm m (3 * k) ky lv L G F D c n o p v t no i W (h.al.fresh hbW) h.r0 hw hl (by omega) (by omega) (fun W2 s r w' => ∃ C' l' lv' G' F' k' vv tt b, s = .slice (some ⟨b, 0, none⟩) 1 1 ∧ r = .nilIface ∧ Al K w' z nd q bb N j (k + 2 + ky) C' l' bk lm m (3 * (k + 1)) ky lv' (L ++ [⟨c, n, o, p, v, t, k', vv, tt⟩]) G' F' (D.put (.int .i64 c) (.lit (.int .i64 ((L.length + 1 : Nat) : Int)))) ∧ onePk ⟨c, n, o, p, v, t, k', vv, tt⟩ W2 w' b ∧ Kept (alOwn q bb j bk lm lv G) W2 w' ∧ ∀ g, bkOwn bk lm lv' G' g → bkOwn bk lm lv G g ∨ W2.heap.size ≤ g) (fun W2 hb2 => ?_)).mono ?_
    · refine (ntake_alone K z nd q bb N j (k + 1 + ky) C l bk lm m (3 * k) ky lv L G F D c n o p v t W2 ((h.al.fresh hbW).fresh hb2) h.r0 h.l0 (by omega) (by omega) hw (by omega) (by omega)).mono ?_
      rintro e w' ⟨C', l', lv', G', F', k', vv, tt, b, rfl, a, pk, kk, oo⟩
      rw [show k + 1 + ky + 1 = k + 2 + ky by omega, show 3 * k + 3 = 3 * (k + 1) by omega] at a
      exact ⟨_, _, rfl, C', l', lv', G', F', k', vv, tt, b, rfl, rfl, a, pk, kk, oo⟩
    · rintro e w' ⟨W2, s, r, hb2, rfl, C', l', lv', G', F', k', vv, tt, b, rfl, rfl, a, pk, kk, oo⟩
      have s2 := hb2.size
      have kk' : Kept (alOwn q bb j bk lm lv G) W w' := (Kept.fresh (S := alOwn q bb j bk lm lv G) hb2).trans kk (fun _ _ h => h)
      exact ⟨_, _, rfl, ⟨C', l', lv', G', F', k', vv, tt, b, rfl, rfl, a, ⟨Nat.le_trans s2 pk.1, pk.2⟩, kk', fun g hg => (oo g hg).imp id (fun e => Nat.le_trans s2 e)⟩, kk'⟩
  · rintro e w' ⟨W, s, r, hbW, rfl, C', l', lv', G', F', k', vv, tt, b, rfl, rfl, a, pk, kk, oo⟩
    have sW := hbW.size
    have sw := kk.size
    have bW : Below B w w' := (hbW.mono h.bl).trans (kk.toBelow (Nat.le_trans h.bl sW) h.base)
    have hb := h.bl
    refine ⟨C', l', lv', G', F', k', vv, tt, b, rfl, ⟨by rw [show k + 1 + 1 + ky = k + 2 + ky by omega]; exact a, h.r0, h.l0, ?_, by have := h.xl; omega, fun e => ?_, ?_, fun g hg => ?_, by omega, h.nb⟩, bW, (Kept.fresh (S := alOwn q bb j bk lm lv G) hbW).trans kk (fun _ _ h => h), fun g hg => by
      rcases hg with hg | hg
      · exact Or.inl (Or.inl hg)
      · rcases oo g hg with e | e
        · exact Or.inl (Or.inr e)
        · exact Or.inr (Nat.le_trans sW e)⟩
    · exact (kk.cell (a := ⟨xn, 0, none⟩) (Nat.lt_of_lt_of_le h.xl sW) h.xo).trans ((hbW.cell (p := ⟨xn, 0, none⟩) h.xl).trans h.x)
    · rcases e with e | e
      · exact h.xo (Or.inl e)
      · rcases oo xn e with e | e
        · exact h.xo (Or.inr e)
        · have := h.xl; omega
    · rw [List.length_append, List.length_singleton, hlen]
    · rcases hg with hg | hg
      · exact h.base g (Or.inl hg)
      · rcases oo g hg with e | e
        · exact h.base g (Or.inr e)
        · omega
section
variable {K : Nat → Int} {z : Nv} {ky N B xn k nd q bb j : Nat} {C : Nat → List Int} {l : ByteArray} {bk lm m : Nat} {lv : Value} {L : List En} {G F : Nat → Prop} {D : DataW Unit} {w : World}
theorem Ond.apart (h : Ond K z ky N B xn k nd q bb j C l bk lm m lv L G F D w) : xn ≠ nd := fun e => by
  have h1 := h.x
  have h2 : w.cell? ⟨nd, 0, none⟩ = some (.int .i64 z.r) := h.al.node 0 _ rfl
  rw [e, h2] at h1
  cases h1
theorem headF_size (K : Nat → Int) (sd : ByteArray) (h ky : Nat) (L : List En) : (headF K sd h ky L).size = 2182 + 32 * h := by
  unfold headF
  rw [ByteArray.size_append, msgF_size, sigF_size]
  omega
/-- What Head leaves, if it made a new one. -/
def hnPost (K : Nat → Int) (z : Nv) (ky N B xn k nd q bb j bk lm m h : Nat) (lv : Value) (L : List En) (G F : Nat → Prop) (D : DataW Unit) (w : World) (e : Ending) (w' : World) : Prop :=
  e = .returned (.tuple #[.string (headF K z.sd h ky L), .nilIface]) ∧ (∃ C' l', Ond K { z with he := headF K z.sd h ky L, hz := (L.length : Nat) } (ky + 1) N B xn k nd q bb j C' l' bk lm m lv L G F D w') ∧ Kept (fun g => alOwn q bb j bk lm lv G g ∨ g = nd) w w'
theorem aud_head (H : Ond K z ky N B xn k nd q bb j C l bk lm m lv L G F D w) (h : Nat) (hh : z.hg = (h : Nat)) (hh5 : h ≤ 5) (hsd : z.sd.size = 32) (hwt : wants z L.length) (hky : ky < 2 ^ h) (hN : N ≤ 1000) (hu : k + 1 + ky < N) (hk0 : 0 < k) (hk : k ≤ 1000) :
    Calls Tryz.prog 17 #[.pointer (some ⟨xn, 0, none⟩)] w (hnPost K z ky N B xn k nd q bb j bk lm m h lv L G F D w) := by
  have hlen := H.len
  have hT : 1 ≠ nd := fun e => by
    have h1 := H.al.tab.cells 0 (by omega)
    have h2 : w.cell? ⟨nd, 0, none⟩ = some (.int .i64 z.r) := H.al.node 0 _ rfl
    rw [e, h2] at h1
    cases h1
  refine dhead_any xn nd _ w H.x ((nhead_gen K z nd q bb N j (k + 1 + ky) C l bk lm m (3 * k) ky h lv L G F D w H.al (H.r0.trans H.l0.symm) hwt .nilIface (fun W w' => ∃ C' l', Al K w' { z with he := headF K z.sd h ky L, hz := (L.length : Nat) } nd q bb N j (k + 1 + ky + 1) C' l' bk lm m (3 * k) (ky + 1) lv L G F D ∧ Kept (fun g => alOwn q bb j bk lm lv G g ∨ g = nd) W w') (Or.inl rfl) (headF K z.sd h ky L) (by rw [headF_size]; omega) (fun W hb => ?_)).mono ?_)
  · refine (nsign_any K z nd q bb N j (k + 1 + ky) C l bk lm m (3 * k) ky h lv L G F D W (H.al.fresh hb) hh hh5 hsd hky hN hu (by omega) (by omega) H.wholes hT).mono ?_
    rintro e w' ⟨rfl, C', l', a, kk⟩
    exact ⟨rfl, ⟨C', l', a, kk⟩, fun _ => a.node 8 _ rfl⟩
  · rintro e w' ⟨W, W', bW, ⟨C', l', a, kk⟩, bw, hcase⟩
    have hap := H.apart
    have sW := bW.size; have sk := kk.size; have sw := bw.size
    have k3 : Kept (fun g => alOwn q bb j bk lm lv G g ∨ g = nd) w w' := ((Kept.fresh (S := fun g => alOwn q bb j bk lm lv G g ∨ g = nd) bW).trans kk (fun _ _ h => h)).trans (Kept.fresh bw) (fun _ _ h => h)
    rcases hcase with ⟨_, rfl⟩ | ⟨hne, _⟩
    · refine ⟨⟨_, _, rfl⟩, rfl, ⟨C', l', ⟨?_, H.r0, H.l0, ?_, by have := H.xl; omega, H.xo, H.len, H.base, by have := H.bl; omega, H.nb⟩⟩, k3⟩
      · have := a.fresh bw
        rw [show k + 1 + (ky + 1) = k + 1 + ky + 1 by omega]
        exact this
      · exact (k3.cell (a := ⟨xn, 0, none⟩) H.xl (fun e => by rcases e with e | e; exact H.xo e; exact hap e)).trans H.x
    · exact absurd rfl hne
theorem aud_none (H : Ond K z ky N B xn k nd q bb j C l bk lm m lv L G F D w) (h : Nat) (hh : z.hg = (h : Nat)) (hh5 : h ≤ 5) (hwt : wants z L.length) (hky : 2 ^ h ≤ ky) :
    Calls Tryz.prog 17 #[.pointer (some ⟨xn, 0, none⟩)] w fun e w' => e = .returned (.tuple #[.string ⟨#[]⟩, .iface 41 (.int .i64 12)]) ∧ Below w.heap.size w w' := by
  refine dhead_any xn nd _ w H.x ((nhead_gen K z nd q bb N j (k + 1 + ky) C l bk lm m (3 * k) ky h lv L G F D w H.al (H.r0.trans H.l0.symm) hwt (.iface 41 (.int .i64 12)) (fun W w' => Below W.heap.size W w') (Or.inr rfl) ⟨#[]⟩ (by decide) (fun W hb => ?_)).mono ?_)
  · refine (nsign_none K z nd q bb N j (k + 1 + ky) C l bk lm m (3 * k) ky h lv L G F D W (H.al.fresh hb) hh hh5 hky).mono ?_
    rintro e w' ⟨rfl, b⟩
    exact ⟨rfl, b, fun e => by cases e⟩
  · rintro e w' ⟨W, W', bW, b1, bw, hcase⟩
    rcases hcase with ⟨hne, _⟩ | ⟨_, rfl⟩
    · cases hne
    · exact ⟨⟨_, _, rfl⟩, rfl, (bW.trans (b1.mono bW.size)).trans (bw.mono (Nat.le_trans bW.size b1.size))⟩
theorem aud_same (H : Ond K z ky N B xn k nd q bb j C l bk lm m lv L G F D w) (hE : z.he.toList.isEmpty = false) (h5 : z.he.size ≤ 100000) (hZ : z.hz = (L.length : Nat)) :
    Calls Tryz.prog 17 #[.pointer (some ⟨xn, 0, none⟩)] w fun e w' => e = .returned (.tuple #[.string z.he, .nilIface]) ∧ Below w.heap.size w w' := by
  refine dhead_any xn nd _ w H.x ((nhead_same K z nd q bb N j (k + 1 + ky) C l bk lm m (3 * k) ky 0 lv L G F D w H.al (H.r0.trans H.l0.symm) hE h5 hZ).mono ?_)
  rintro e w' ⟨rfl, b⟩
  exact ⟨⟨_, _, rfl⟩, rfl, b⟩
theorem aud_event (H : Ond K z ky N B xn k nd q bb j C l bk lm m lv L G F D w) (i n : Nat) (hi : i < n) (hn : n ≤ k) (hk : k ≤ 1000) :
    Calls Tryz.prog 24 #[.pointer (some ⟨xn, 0, none⟩), .int .i64 (i : Nat), .int .i64 (n : Nat)] w fun e w' => ∃ ao cap, e = .returned (.tuple #[.string (evF K L i), .slice ao (inclF (sumOf K) ((evs K L).take n) i).length cap, .nilIface]) ∧ w'.ownsRow w.heap.size 9 1 (.slice ao (inclF (sumOf K) ((evs K L).take n) i).length cap) (inclF (sumOf K) ((evs K L).take n) i).length ((inclF (sumOf K) ((evs K L).take n) i).map .string) ∧ Below w.heap.size w w' := by
  have hlen := H.len
  refine devent_any xn nd (i : Nat) (n : Nat) _ w H.x ((nevent_any K z nd q bb N j (k + 1 + ky) C l bk lm m (3 * k) ky lv L G F D i n w H.al (H.r0.trans H.l0.symm) hi (by omega) (by omega) H.wholes).mono ?_)
  rintro e w' ⟨ao, cap, rfl, ho, b⟩
  exact ⟨⟨_, _, _, rfl⟩, ao, cap, rfl, ho, b⟩
theorem aud_grown (H : Ond K z ky N B xn k nd q bb j C l bk lm m lv L G F D w) (i n : Nat) (hi : i ≤ n) (hn : n ≤ k) (hk : k ≤ 1000) :
    Calls Tryz.prog 18 #[.pointer (some ⟨xn, 0, none⟩), .int .i64 (i : Nat), .int .i64 (n : Nat)] w (consPost w (consF (sumOf K) ((evs K L).take n) i)) := by
  have hlen := H.len
  refine dgrown_any xn nd (i : Nat) (n : Nat) _ w H.x ((ngrown_any K z nd q bb N j (k + 1 + ky) C l bk lm m (3 * k) ky lv L G F D i n w H.al (H.r0.trans H.l0.symm) hi (by omega) (by omega) H.wholes).mono ?_)
  rintro e w' ⟨ao, cap, rfl, ho, b⟩
  exact ⟨⟨_, _, rfl⟩, ao, cap, rfl, ho, b⟩
end
theorem nums_take (s : ByteArray) (n : Nat) : numsOf (s.extract 0 n) = (numsOf s).take n := by
  have e : (s.extract 0 n).data.toList = s.data.toList.take n := by rw [ByteArray.data_extract, Array.toList_extract]; simp [List.extract]
  unfold numsOf
  rw [e, List.map_take]
theorem nums_dropx (s : ByteArray) (n : Nat) : numsOf (s.extract n s.size) = (numsOf s).drop n := by
  have e : (s.extract n s.size).data.toList = (s.data.toList.drop n).take (s.size - n) := by rw [ByteArray.data_extract, Array.toList_extract]
  have hl : (s.data.toList.drop n).length ≤ s.size - n := by rw [List.length_drop]; exact Nat.le_refl _
  unfold numsOf
  rw [e, List.take_of_length_le hl, List.map_drop]
theorem ext_left (a b : ByteArray) (n : Nat) (h : a.size = n) : (a ++ b).extract 0 n = a := by
  apply nums_inj
  rw [nums_take, nums_app, List.take_left' (by rw [numsOf_length]; exact h)]
theorem ext_right (a b : ByteArray) (n : Nat) (h : a.size = n) : (a ++ b).extract n (a ++ b).size = b := by
  apply nums_inj
  rw [nums_dropx, nums_app, List.drop_left' (by rw [numsOf_length]; exact h)]
theorem hdT_facts (n : Nat) (r : ByteArray) (hn : n ≤ 2147483647) (hr : r.size = 32) : hdOk (hdT (n : Nat) r) = true ∧ hdNo (hdT (n : Nat) r) = (n : Nat) ∧ (hdT (n : Nat) r).extract 5 37 = r := by
  have hs5 : (strOfNums (72 :: fourN (n : Nat))).size = 5 := by rw [strOfNums_size]; simp [fourN]
  have hsz : (hdT (n : Nat) r).size = 37 := by unfold hdT; rw [ByteArray.size_append, hs5, hr]
  have hnum : numsOf (hdT (n : Nat) r) = (72 :: fourN (n : Nat)) ++ numsOf r := by
    unfold hdT
    rw [nums_app, nums_str]
    intro x hx
    rcases List.mem_cons.1 hx with rfl | hx
    · omega
    · exact fourN_range _ x hx
  have hb : ∀ i, bAt (hdT (n : Nat) r) i = ((72 :: fourN (n : Nat)) ++ numsOf r).getD i 0 := fun i => by rw [bAt_nums, hnum]
  have hno : hdNo (hdT (n : Nat) r) = (n : Nat) := by
    unfold hdNo
    rw [hb, hb, hb, hb]
    exact read_four (n : Nat) (by omega) (by omega)
  refine ⟨?_, hno, ?_⟩
  · unfold hdOk
    rw [hno, hb, hsz]
    simp
    first | exact ⟨rfl, by omega⟩ | omega
  · have := ext_right (strOfNums (72 :: fourN (n : Nat))) r 5 hs5
    unfold hdT at hsz ⊢
    rw [hsz] at this
    exact this
theorem headF_msg (K : Nat → Int) (sd : ByteArray) (h ky : Nat) (L : List En) : (headF K sd h ky L).extract 0 37 = msgF K L := ext_left _ _ 37 (msgF_size K L)
theorem headF_sig (K : Nat → Int) (sd : ByteArray) (h ky : Nat) (L : List En) : (headF K sd h ky L).extract 37 (headF K sd h ky L).size = sigF (sumOf K) sd h ky (msgF K L) := ext_right _ _ 37 (msgF_size K L)
theorem agok_good (K : Nat → Int) (l : List ByteArray) (m : Nat) (h0 : 0 < m) (hm : m ≤ l.length) : consOk K m l.length (rootF (sumOf K) (l.take m)) (rootF (sumOf K) l) (grownF (sumOf K) l m true) = true := by
  unfold consOk
  rw [if_neg (by omega), reg_good (sumOf K) (sumOf_size K) _ l m true _ rfl h0 hm (fun _ => rfl), rootF_size _ (sumOf_size K), rootF_size _ (sumOf_size K)]
  simp
theorem agok_zero (K : Nat → Int) (l : List ByteArray) : consOk K 0 l.length (rootF (sumOf K) []) (rootF (sumOf K) l) [] = true := by
  unfold consOk
  rw [if_pos rfl, rootF_size _ (sumOf_size K)]
  cases l with
  | nil => simp
  | cons x r => simp
/-- A book's own head, with its own proof, is taken. -/
theorem adv_good (K : Nat → Int) (sd : ByteArray) (h ky was : Nat) (L : List En) (hh : h ≤ 5) (hky : ky < 2 ^ h) (hL : L.length ≤ 1000) (hw : was < L.length) :
    advE K (pubF (sumOf K) sd h) h was (rootF (sumOf K) ((evs K L).take was)) (headF K sd h ky L) (consF (sumOf K) (evs K L) was) = .nilIface ∧ (hdNo ((headF K sd h ky L).extract 0 37)).toNat = L.length ∧ ((headF K sd h ky L).extract 0 37).extract 5 37 = rootF (sumOf K) (evs K L) := by
  obtain ⟨f1, f2, f3⟩ := hdT_facts L.length (rootF (sumOf K) (evs K L)) (by omega) (rootF_size _ (sumOf_size K) _)
  have e1 : hdNo ((headF K sd h ky L).extract 0 37) = (L.length : Nat) := by rw [headF_msg]; exact f2
  have e2 : ((headF K sd h ky L).extract 0 37).extract 5 37 = rootF (sumOf K) (evs K L) := by rw [headF_msg]; exact f3
  refine ⟨?_, by rw [e1]; rfl, e2⟩
  unfold advE
  rw [if_neg (by rw [headF_size]; simp), if_neg (by rw [headF_msg]; unfold msgF; rw [f1]; simp), headF_sig, headF_msg, if_neg (by rw [sig_good K sd h ky _ hh hky]; simp)]
  rw [headF_msg] at e1 e2
  rw [e1, e2]
  unfold growV
  rw [if_neg (by show ¬ L.length < was; omega), if_neg (by show ¬ (L.length = was ∧ _); omega)]
  have hc : consOk K was L.length (rootF (sumOf K) ((evs K L).take was)) (rootF (sumOf K) (evs K L)) (consF (sumOf K) (evs K L) was) = true := by
    unfold consF
    by_cases h0 : was = 0
    · subst h0
      rw [if_pos rfl]
      have := agok_zero K (evs K L)
      rw [evs_len] at this
      exact this
    · rw [if_neg h0]
      have := agok_good K (evs K L) was (by omega) (by rw [evs_len]; omega)
      rw [evs_len] at this
      exact this
  show chkV (consOk K was L.length _ _ _) = _
  rw [hc]; rfl
/-- Events of different numbers are different. -/
theorem evT_ne (K : Nat → Int) (a b : En) (ha : a.whole) (hb : b.whole) (hn : a.n ≠ b.n) : evT K a ≠ evT K b := fun e => by
  have h1 : ∀ x : En, x.whole → numsOf (evT K x) = evBytes x.c x.n x.o x.p x.vv x.k (numsOf (dgT K x)) := fun x hx => nums_str _ (ev_range _ _ _ _ _ _ _ (nums_range _) hx.1)
  have h2 := congrArg numsOf e
  rw [h1 a ha, h1 b hb] at h2
  obtain ⟨_, ⟨a1, a2⟩, _⟩ := whole_bounds ha.1
  obtain ⟨_, ⟨b1, b2⟩, _⟩ := whole_bounds hb.1
  unfold evBytes fourN at h2
  simp at h2
  omega
theorem evT_good (K : Nat → Int) (a : En) (ha : a.whole) : goodB (evT K a) = true := (forth _ _ _ _ _ _ _ (by rw [numsOf_length]; exact sumOf_size K _) (nums_range _) ha.1).1
/-- A signature that is taken is as long as one, and of a key that is there. -/
theorem sigOk_parts {K : Nat → Int} {key : ByteArray} {h : Nat} {msg sig : ByteArray} (ho : sigOk K key h msg sig = true) : sig.size = 2145 + 32 * h ∧ keyN sig < 2 ^ h := by
  unfold sigOk at ho
  simp only [Bool.and_eq_true, decide_eq_true_eq] at ho
  exact ⟨ho.1, ho.2.1⟩
/-- A head of which a byte is another one, with a signature that is taken: two texts of one hash. -/
theorem turned_clash (K : Nat → Int) (sd : ByteArray) (h ky : Nat) (L : List En) (t : ByteArray) (q : Nat) (y : Int) (hh : h ≤ 5) (hky : ky < 2 ^ h) (ht : numsOf t = (numsOf (headF K sd h ky L)).set q y) (hne : t ≠ headF K sd h ky L)
    (hok : sigOk K (pubF (sumOf K) sd h) h (t.extract 0 37) (t.extract 37 t.size) = true) : ∃ a b, b < a ∧ clashAt (sumOf K) (forgedT (sumOf K) sd h (msgF K L) (t.extract 0 37) (t.extract 37 t.size)) a b := by
  have n1 := nums_take t 37
  have n2 := nums_dropx t 37
  have m1 := nums_take (headF K sd h ky L) 37
  have m2' := nums_dropx (headF K sd h ky L) 37
  rw [headF_msg] at m1
  rw [headF_sig] at m2'
  rw [ht] at n1 n2
  by_cases hq : q < 37
  · have hs : t.extract 37 t.size = sigF (sumOf K) sd h ky (msgF K L) := by
      apply nums_inj
      rw [n2, m2', List.drop_set_of_lt hq]
    rw [hs] at hok ⊢
    refine forged_msg K sd h ky (msgF K L) (t.extract 0 37) hh hky (fun e => hne ?_) hok
    apply nums_inj
    have h1 : (numsOf t).take 37 = (numsOf (headF K sd h ky L)).take 37 := by rw [← nums_take, e, ← m1]
    have h2 : (numsOf t).drop 37 = (numsOf (headF K sd h ky L)).drop 37 := by rw [← nums_dropx, hs, m2']
    rw [← List.take_append_drop 37 (numsOf t), h1, h2, List.take_append_drop]
  · have hm : t.extract 0 37 = msgF K L := by
      apply nums_inj
      rw [n1, m1, List.take_set_of_le (by omega)]
    rw [hm] at hok ⊢
    have hs : numsOf (t.extract 37 t.size) = (numsOf (sigF (sumOf K) sd h ky (msgF K L))).set (q - 37) y := by
      rw [n2, m2', List.drop_set, if_neg (by omega)]
    refine forged_bit K sd h ky (msgF K L) (t.extract 37 t.size) (q - 37) y hh hky hs (fun e => hne ?_) hok
    apply nums_inj
    have h1 : (numsOf t).take 37 = (numsOf (headF K sd h ky L)).take 37 := by rw [← nums_take, hm, m1]
    have h2 : (numsOf t).drop 37 = (numsOf (headF K sd h ky L)).drop 37 := by rw [← nums_dropx, e, m2']
    rw [← List.take_append_drop 37 (numsOf t), h1, h2, List.take_append_drop]
/-- What Advance makes of such a head. -/
theorem adv_turned (K : Nat → Int) (key : ByteArray) (h n0 : Nat) (r0 t : ByteArray) (pf : List ByteArray) (hs : t.size = 2182 + 32 * h) : advE K key h n0 r0 t pf = E9 ∨ advE K key h n0 r0 t pf = errSg ∨ sigOk K key h (t.extract 0 37) (t.extract 37 t.size) = true := by
  unfold advE
  rw [if_neg (by rw [hs]; simp)]
  cases h1 : hdOk (t.extract 0 37)
  · exact Or.inl (if_pos rfl)
  · rw [if_neg (by simp)]
    cases h2 : sigOk K key h (t.extract 0 37) (t.extract 37 t.size)
    · exact Or.inr (Or.inl (if_pos rfl))
    · exact Or.inr (Or.inr rfl)
/-- Two books of two leaves, of one root: two texts of one hash. -/
theorem fork_clash (K : Nat → Int) (a0 a1 b0 b1 : ByteArray) (hne : a1 ≠ b1) (hr : rootF (sumOf K) [a0, a1] = rootF (sumOf K) [b0, b1]) (T : List ByteArray) (hT : ∀ x ∈ [m0 ++ a1, m0 ++ b1, m1 ++ sumOf K (m0 ++ a0) ++ sumOf K (m0 ++ a1), m1 ++ sumOf K (m0 ++ b0) ++ sumOf K (m0 ++ b1)], x ∈ T)
    (ha : rootF (sumOf K) [a0, a1] = sumOf K (m1 ++ sumOf K (m0 ++ a0) ++ sumOf K (m0 ++ a1))) (hb : rootF (sumOf K) [b0, b1] = sumOf K (m1 ++ sumOf K (m0 ++ b0) ++ sumOf K (m0 ++ b1))) : ∃ a b, b < a ∧ clashAt (sumOf K) T a b := by
  rw [ha, hb] at hr
  by_cases e : m1 ++ sumOf K (m0 ++ a0) ++ sumOf K (m0 ++ a1) = m1 ++ sumOf K (m0 ++ b0) ++ sumOf K (m0 ++ b1)
  · have e2 := (app_inj (by rw [ByteArray.size_append, ByteArray.size_append, sumOf_size, sumOf_size]) e).2
    refine clash_mem (sumOf K) T (m0 ++ a1) (m0 ++ b1) (hT _ (by simp)) (hT _ (by simp)) e2 (fun e3 => hne (app_inj rfl e3).2)
  · exact clash_mem (sumOf K) T _ _ (hT _ (by simp)) (hT _ (by simp)) hr e
theorem evs_take (K : Nat → Int) (L : List En) (q : Nat) (hq : q < L.length) : (evs K L).take (q + 1) = (evs K L).take q ++ [evF K L q] := by
  unfold evs evF
  rw [List.take_add_one]
  simp [List.getD, List.getElem?_eq_getElem hq]
set_option maxRecDepth 10000 in
set_option maxHeartbeats 2000000 in
/-- events: the bytes of the first n events. -/
theorem kevents_any (K : Nat → Int) (z : Nv) (ky N B xn k nd q0 bb j : Nat) (C : Nat → List Int) (l : ByteArray) (bk lm m : Nat) (lv : Value) (L : List En) (G F : Nat → Prop) (D : DataW Unit) (n : Nat) (w : World) (H : Ond K z ky N B xn k nd q0 bb j C l bk lm m lv L G F D w) (hn : n ≤ k) (hk : k ≤ 1000) :
    Calls Tryz.prog 27 #[.pointer (some ⟨xn, 0, none⟩), .int .i64 (n : Nat)] w fun e w' => ∃ ao cap, e = .returned (.slice ao n cap) ∧ w'.ownsRow w.heap.size 9 1 (.slice ao n cap) n (((evs K L).take n).map .string) ∧ Below w.heap.size w w' := by
  obtain ⟨i0, hi, hz, hsz, hby⟩ := info_strT
  have HH : Hid (Ond K z ky N B xn k nd q0 bb j C l bk lm m lv L G F D w) := H
  have HLEN : Hid (L.length = k) := H.len
  clear H
  go_enter Tryz.func27, Tryz.ntmps27
  go_wp2_with fail
  go_loopw [5, 6] (fun lv i wr => ∃ (q : Nat) (ao : Option Addr) (cap : Nat), q ≤ n ∧ i = .int .i64 q ∧ lv = .slice ao q cap ∧ Hid (wr.ownsRow w.heap.size 9 1 (.slice ao q cap) q (((evs K L).take q).map .string) ∧ Below w.heap.size w wr)) (fun _ i _ => n - (intOf i).toNat)
  case atStart => exact ⟨0, none, 0, by omega, rfl, rfl, World.ownsRow_nil _ _ _ _, Below.refl _ _⟩
  case round =>
    obtain ⟨q, ao, cap, hq, rfl, rfl, hls⟩ := hrel
    by_cases hlt : q < n
    · have q1 : (q : Int) < (n : Int) := by omega
      have q0' : (0 : Int) ≤ (q : Int) := by omega
      have hev := aud_event (HH.out.fresh hls.out.2) q n hlt hn hk
      have HT : Hid ((evs K L).take (q + 1) = (evs K L).take q ++ [evF K L q]) := evs_take K L q (by have := HLEN.out; omega)
      obtain ⟨t, ht⟩ : ∃ t, t = evF K L q := ⟨_, rfl⟩
      rw [← ht] at hev
      have HTT : Hid (evF K L q = t) := ht.symm
      clear ht
      generalize inclF (sumOf K) ((evs K L).take n) q = Fi at hev
      go_wp2_with fail
      refine hev.mono ?_
      rintro e W1 ⟨ao1, cap1, rfl, _, b1⟩
      have HB1 : Hid (Below w.heap.size w W1) := hls.out.2.trans (b1.mono hls.out.2.size)
      have s1 := HB1.out.size
      have ho1 : W1.ownsRow w.heap.size 9 1 (.slice ao q cap) q (((evs K L).take q).map .string) := own_below' hls.out.1 b1
      have HOL : Hid (∀ k, (Value.slice ao q cap).ownBlock = some k → w.heap.size ≤ k) := fun k hk => (ho1.lt k hk).1
      have ho4 : (W1.alloc (.cells #[.string t] 9)).ownsRow w.heap.size 9 1 (.slice ao q cap) q (((evs K L).take q).map .string) := ho1.alloc _
      have hnews : ∀ j u, [Value.string t][j]? = some u → (W1.alloc (.cells #[.string t] 9)).cell? ((⟨W1.heap.size, 0, none⟩ : Addr).add j) = some u := World.news_of_block (heap_alloc_new W1 (.cells #[.string t] 9))
      clear hev b1 ho1
      generalize hX : ((evs K L).take q).map Value.string = X at ho4
      have HX : Hid (((evs K L).take q).map Value.string = X) := hX
      clear hX
      go_wp2_with (first | (refine wpList_append_lies _ rfl _ _ 51 rfl w.heap.size 9 i0 _ 1 16 Tryz.underlying51 hi hz hsz hby rfl (by decide) (.slice ao q cap) q _ rfl ho4 ⟨W1.heap.size, 0, none⟩ 1 1 [_] rfl rfl hnews (by simp [Value.oneCell']) (by decide) (by unfold maxLen; omega) (by omega) (by simp; omega) _ rfl ?_; intro g2 cap2 w2 ho2 hgr2 hat2 hlt2))
      refine ⟨⟨q + 1, some ⟨g2, 0, none⟩, cap2, by omega, by go_num, rfl, ?_, ?_⟩, ?_⟩
      · rw [HT.out, HTT.out, List.map_append, HX.out]; simpa using ho2
      · exact HB1.out.trans (((Below.refl _ _).alloc s1 _).trans ((Below.refl _ _).grown hgr2 (by simp; omega) HOL.out))
      · simp [intOf]; omega
    · have q1 : ¬ (q : Int) < (n : Int) := by omega
      obtain rfl : q = n := by omega
      go_wp2_with fail
      go_ret
      exact ⟨ao, cap, rfl, by first | exact hls.out.1 | (rw [← List.map_take]; exact hls.out.1), hls.out.2⟩
/-- What the law has in hand: a node that is alone with i + 1 entries, whose head is over hs of them (0: there is none), and an auditor who trusts the first was. -/
structure AudI (K : Nat → Int) (s : ByteArray) (w : World) (xn da ab i was hs : Nat) (z : Nv) (ky nd q bb j : Nat) (C : Nat → List Int) (l : ByteArray) (bk lm m : Nat) (lv : Value) (L : List En) (G F : Nat → Prop) (D : DataW Unit) (wr : World) : Prop where
  ond : Ond K z ky 200 w.heap.size xn (i + 1) nd q bb j C l bk lm m lv L G F D wr
  nums : Nums L D ((i + 1 : Nat) : Int)
  seq : ∀ j e, L[j]? = some e → e.n = ((j + 1 : Nat) : Int)
  sd : z.sd = s
  hg : z.hg = ((3 : Nat) : Int)
  keys : ky ≤ 8
  hd : (hs = 0 ∧ z.he = ⟨#[]⟩) ∨ (1 ≤ hs ∧ z.he.toList.isEmpty = false ∧ z.he.size ≤ 100000 ∧ z.hz = ((hs : Nat) : Int))
  wi : was ≤ i + 1
  au : AuAt wr ab (pubF (sumOf K) s 3) 3 ((was : Nat) : Int) (rootF (sumOf K) ((evs K L).take was))
  dc : wr.cell? ⟨da, 0, none⟩ = some (.pointer (some ⟨ab, 0, none⟩))
  dl : da < wr.heap.size
  apA : ¬ alOwn q bb j bk lm lv G ab ∧ ab ≠ nd ∧ ab ≠ xn ∧ ab ≠ da ∧ w.heap.size ≤ ab
  apD : ¬ alOwn q bb j bk lm lv G da ∧ da ≠ nd ∧ da ≠ xn
  bl : Below w.heap.size w wr
section
variable {K : Nat → Int} {s : ByteArray} {w : World} {xn da ab i was hs : Nat} {z : Nv} {ky nd q bb j : Nat} {C : Nat → List Int} {l : ByteArray} {bk lm m : Nat} {lv : Value} {L : List En} {G F : Nat → Prop} {D : DataW Unit} {wr wr' : World}
theorem AudI.fresh (h : AudI K s w xn da ab i was hs z ky nd q bb j C l bk lm m lv L G F D wr) (hb : Below wr.heap.size wr wr') : AudI K s w xn da ab i was hs z ky nd q bb j C l bk lm m lv L G F D wr' :=
  ⟨h.ond.fresh hb, h.nums, h.seq, h.sd, h.hg, h.keys, h.hd, h.wi, h.au.fresh hb, (hb.cell (p := ⟨da, 0, none⟩) h.dl).trans h.dc, Nat.lt_of_lt_of_le h.dl hb.size, h.apA, h.apD, h.bl.trans (hb.mono h.bl.size)⟩
theorem AuAt.kept {wr wr' : World} {ab : Nat} {key : ByteArray} {h : Nat} {n : Int} {r : ByteArray} {S : Nat → Prop} (H : AuAt wr ab key h n r) (hk : Kept S wr wr') (hn : ¬ S ab) : AuAt wr' ab key h n r :=
  ⟨range_kept H.cells hk H.lt hn, there_kept H.room hk H.lt hn, Nat.lt_of_lt_of_le H.lt hk.size, H.r32⟩
theorem evs_takes (K : Nat → Int) (L : List En) (e : En) (n : Nat) (h : n ≤ L.length) : (evs K (L ++ [e])).take n = (evs K L).take n := by
  unfold evs
  rw [List.map_append, List.take_append_of_le_length (by simp; exact h)]
/-- A new request. -/
theorem AudI.req (h : AudI K s w xn da ab i was hs z ky nd q bb j C l bk lm m lv L G F D wr) (c o p v : Int) (t : ByteArray) (hw : rqWhole c ((i + 2 : Nat) : Int) o p v t = true) (hi : i < 40) :
    Calls Tryz.prog 9 #[.pointer (some ⟨xn, 0, none⟩), .agg (rqCells c ((i + 2 : Nat) : Int) o p v t).toArray] wr fun e w' => ∃ b C' l' lv' L' G' F' D', e = .returned (.tuple #[.slice (some ⟨b, 0, none⟩) 1 1, .nilIface]) ∧ AudI K s w xn da ab (i + 1) was hs z ky nd q bb j C' l' bk lm m lv' L' G' F' D' w' := by
  obtain ⟨i', no, hl⟩ := h.nums.1 c
  have hno := h.nums.bound (by omega) hl
  have hky := h.keys
  have hlen := h.ond.len
  have hD : Maps.IsMap D := by obtain ⟨es, clock, _, _, _, e⟩ := h.ond.al.book.lasts; exact ⟨_, e⟩
  refine (aud_req K z ky 200 w.heap.size xn (i + 1) nd q bb j C l bk lm m lv L G F D c ((i + 2 : Nat) : Int) o p v t wr h.ond hw no i' hl (by omega) (by omega) (by omega) (by omega)).mono ?_
  rintro e w' ⟨C', l', lv', G', F', k', vv, tt, b, rfl, O, bB, kk, oo⟩
  have sk := kk.size
  have hwi := h.wi
  refine ⟨b, C', l', lv', _, G', F', _, rfl, ⟨O, ?_, fun j' e' he => ?_, h.sd, h.hg, h.keys, h.hd, by omega, ?_, ?_, by have := h.dl; omega, ⟨fun e => ?_, h.apA.2⟩, ⟨fun e => ?_, h.apD.2⟩, h.bl.trans bB⟩⟩
  · have := h.nums.snoc ⟨c, ((i + 2 : Nat) : Int), o, p, v, t, k', vv, tt⟩ hD (by show ((i + 1 : Nat) : Int) ≤ ((i + 2 : Nat) : Int); omega)
    exact this
  · by_cases hj : j' < L.length
    · rw [List.getElem?_append_left hj] at he; exact h.seq j' e' he
    · have hlt : j' < (L ++ [(⟨c, ((i + 2 : Nat) : Int), o, p, v, t, k', vv, tt⟩ : En)]).length := (List.getElem?_eq_some_iff.1 he).1
      rw [List.length_append, List.length_singleton] at hlt
      obtain rfl : j' = L.length := by omega
      rw [List.getElem?_append_right (Nat.le_refl _), Nat.sub_self] at he
      have : e' = (⟨c, ((i + 2 : Nat) : Int), o, p, v, t, k', vv, tt⟩ : En) := by simpa using he.symm
      rw [this]; show ((i + 2 : Nat) : Int) = _; rw [hlen]
  · rw [evs_takes K L _ was (by omega)]; exact h.au.kept kk h.apA.1
  · exact (kk.cell (a := ⟨da, 0, none⟩) h.dl h.apD.1).trans h.dc
  · rcases oo ab e with e | e
    · exact h.apA.1 e
    · have := h.au.lt; omega
  · rcases oo da e with e | e
    · exact h.apD.1 e
    · have := h.dl; omega
/-- The auditor's block was written. -/
theorem AudI.wrote (h : AudI K s w xn da ab i was hs z ky nd q bb j C l bk lm m lv L G F D wr) (kk : Kept (· = ab) wr wr') {was' : Nat} {r : ByteArray} (A : AuAt wr' ab (pubF (sumOf K) s 3) 3 ((was' : Nat) : Int) r) (hr : r = rootF (sumOf K) ((evs K L).take was')) (hw : was' ≤ was ∨ was' ≤ i + 1 := by exact Or.inl (Nat.le_refl _)) : AudI K s w xn da ab i was' hs z ky nd q bb j C l bk lm m lv L G F D wr' := by
  have hT : 1 ≠ ab := fun e => by
    have h1 := h.ond.al.tab.cells 0 (by omega)
    have h2 : wr.cell? ⟨ab, 0, none⟩ = some (.string (pubF (sumOf K) s 3)) := h.au.cells 0 _ rfl
    rw [e, h2] at h1
    cases h1
  have ne : ∀ g, alOwn q bb j bk lm lv G g → ¬ g = ab := fun g hg e => h.apA.1 (e ▸ hg)
  have sk := kk.size
  have hwi := h.wi
  refine ⟨⟨⟨range_kept h.ond.al.node kk h.ond.al.nlt (fun e => h.apA.2.1 e.symm), there_kept h.ond.al.room kk h.ond.al.nlt (fun e => h.apA.2.1 e.symm), Nat.lt_of_lt_of_le h.ond.al.nlt sk, h.ond.al.jat.kept kk (fun g hg => ne g (Or.inl hg)), h.ond.al.book.kept kk (fun g hg => ne g (Or.inr hg)), h.ond.al.ap, h.ond.al.nap, h.ond.al.tab.kept kk hT, h.ond.al.tap⟩, h.ond.r0, h.ond.l0, (kk.cell (a := ⟨xn, 0, none⟩) h.ond.xl (fun e => h.apA.2.2.1 e.symm)).trans h.ond.x, Nat.lt_of_lt_of_le h.ond.xl sk, h.ond.xo, h.ond.len, h.ond.base, Nat.le_trans h.ond.bl sk, h.ond.nb⟩, h.nums, h.seq, h.sd, h.hg, h.keys, h.hd, by omega, by rw [← hr]; exact A, (kk.cell (a := ⟨da, 0, none⟩) h.dl (fun e => h.apA.2.2.2.1 e.symm)).trans h.dc, Nat.lt_of_lt_of_le h.dl sk, h.apA, h.apD, h.bl.trans (kk.toBelow h.bl.size (fun g hg => by rw [hg]; exact h.apA.2.2.2.2))⟩
theorem AudI.wants (h : AudI K s w xn da ab i was hs z ky nd q bb j C l bk lm m lv L G F D wr) (hi : hs ≤ i) : wants z L.length := by
  rcases h.hd with ⟨_, e⟩ | ⟨h1, e, _, hz⟩
  · exact Or.inl e
  · exact Or.inr ⟨e, by rw [hz, h.ond.len]; omega⟩
theorem isEmpty_of_size (t : ByteArray) (h : t.size ≠ 0) : t.toList.isEmpty = false := by
  cases hx : t.toList.isEmpty with
  | false => rfl
  | true =>
    exfalso
    have h1 : t.toList = (⟨#[]⟩ : ByteArray).toList := (List.isEmpty_iff.1 hx).trans (by first | rfl | simp | decide)
    have h2 : (t == (⟨#[]⟩ : ByteArray)) = true := by rw [beq_toListBytes, h1]; simp
    have hd : (t.data == #[]) = true := h2
    have he : t.data = #[] := by simpa using hd
    apply h
    show t.data.size = 0
    rw [he]; rfl
/-- A new head. -/
theorem AudI.head (h : AudI K s w xn da ab i was hs z ky nd q bb j C l bk lm m lv L G F D wr) (hi : hs ≤ i) (hi4 : i < 40) (hk : ky < 8) (hs32 : s.size = 32) :
    Calls Tryz.prog 17 #[.pointer (some ⟨xn, 0, none⟩)] wr fun e w' => e = .returned (.tuple #[.string (headF K s 3 ky L), .nilIface]) ∧ ∃ C' l', AudI K s w xn da ab i was (i + 1) { z with he := headF K s 3 ky L, hz := (L.length : Nat) } (ky + 1) nd q bb j C' l' bk lm m lv L G F D w' := by
  have hlen := h.ond.len
  have hsd := h.sd
  subst hsd
  refine (aud_head h.ond 3 h.hg (by omega) hs32 (h.wants hi) hk (by omega) (by omega) (by omega) (by omega)).mono ?_
  rintro e w' ⟨rfl, ⟨C', l', O⟩, kk⟩
  have sk := kk.size
  have hsz := headF_size K z.sd 3 ky L
  refine ⟨rfl, C', l', ⟨O, h.nums, h.seq, h.sd, h.hg, by omega, Or.inr ⟨by omega, isEmpty_of_size _ (by rw [hsz]; omega), by show (headF K z.sd 3 ky L).size ≤ _; rw [hsz]; omega, by show ((L.length : Nat) : Int) = _; rw [hlen]⟩, h.wi, h.au.kept kk (fun e => by rcases e with e | e; exact h.apA.1 e; exact h.apA.2.1 e), (kk.cell (a := ⟨da, 0, none⟩) h.dl (fun e => by rcases e with e | e; exact h.apD.1 e; exact h.apD.2.1 e)).trans h.dc, by have := h.dl; omega, h.apA, h.apD, h.bl.trans (kk.toBelow h.bl.size (fun g hg => by rcases hg with hg | hg; exact h.ond.base g hg; rw [hg]; exact h.ond.nb))⟩⟩
theorem AudI.nokey (h : AudI K s w xn da ab i was hs z ky nd q bb j C l bk lm m lv L G F D wr) (hi : hs ≤ i) (hk : ky = 8) :
    Calls Tryz.prog 17 #[.pointer (some ⟨xn, 0, none⟩)] wr fun e w' => e = .returned (.tuple #[.string ⟨#[]⟩, .iface 41 (.int .i64 12)]) ∧ Below wr.heap.size wr w' :=
  aud_none h.ond 3 h.hg (by omega) (h.wants hi) (by omega)
theorem AudI.same (h : AudI K s w xn da ab i was (i + 1) z ky nd q bb j C l bk lm m lv L G F D wr) :
    Calls Tryz.prog 17 #[.pointer (some ⟨xn, 0, none⟩)] wr fun e w' => e = .returned (.tuple #[.string z.he, .nilIface]) ∧ Below wr.heap.size wr w' := by
  rcases h.hd with ⟨h1, _⟩ | ⟨_, e, h5, hz⟩
  · omega
  · exact aud_same h.ond e h5 (by rw [hz, h.ond.len])
theorem AudI.grown (h : AudI K s w xn da ab i was hs z ky nd q bb j C l bk lm m lv L G F D wr) (hi : i < 40) :
    Calls Tryz.prog 18 #[.pointer (some ⟨xn, 0, none⟩), .int .i64 (was : Nat), .int .i64 ((i + 1 : Nat) : Int)] wr (consPost wr (consF (sumOf K) (evs K L) was)) := by
  have := aud_grown h.ond was (i + 1) h.wi (Nat.le_refl _) (by omega)
  rwa [List.take_of_length_le (by rw [evs_len, h.ond.len]; exact Nat.le_refl _)] at this
theorem AudI.trusted (h : AudI K s w xn da ab i was hs z ky nd q bb j C l bk lm m lv L G F D wr) :
    Calls Tryz.prog 21 #[.pointer (some ⟨da, 0, none⟩)] wr fun e w' => e = .returned (.tuple #[.int .i64 (was : Nat), .string (rootF (sumOf K) ((evs K L).take was))]) ∧ Below wr.heap.size wr w' := by
  refine datrust_any da ab _ wr h.dc ((atrust_any ab _ 3 _ _ wr h.au).mono ?_)
  rintro e w' ⟨rfl, b⟩
  exact ⟨⟨_, _, rfl⟩, rfl, b⟩
/-- Advance of any text, with any proof. -/
theorem AudI.advance (h : AudI K s w xn da ab i was hs z ky nd q bb j C l bk lm m lv L G F D wr) (t : ByteArray) (pf : List ByteArray) (v : Value) (hi : i < 40) (hl : LeafAt wr v pf) (hpf : pf.length ≤ 1000000000) :
    Calls Tryz.prog 19 #[.pointer (some ⟨da, 0, none⟩), .string t, v] wr fun e w' => e = .returned (advE K (pubF (sumOf K) s 3) 3 was (rootF (sumOf K) ((evs K L).take was)) t pf) ∧ Kept (· = ab) wr w' ∧
      ((advE K (pubF (sumOf K) s 3) 3 was (rootF (sumOf K) ((evs K L).take was)) t pf = .nilIface ∧ AuAt w' ab (pubF (sumOf K) s 3) 3 ((hdNo (t.extract 0 37)).toNat : Nat) ((t.extract 0 37).extract 5 37)) ∨ (advE K (pubF (sumOf K) s 3) 3 was (rootF (sumOf K) ((evs K L).take was)) t pf ≠ .nilIface ∧ AudI K s w xn da ab i was hs z ky nd q bb j C l bk lm m lv L G F D w')) := by
  have hwi := h.wi
  refine daadv_any da ab t v _ wr h.dc ((aadv_any K ab (pubF (sumOf K) s 3) 3 was _ t pf v wr h.au (rootF_size _ (sumOf_size K) _) (by omega) (by omega) hl hpf h.ond.al.tab).mono ?_)
  rintro e w' ⟨rfl, kk, hc⟩
  refine ⟨⟨_, rfl⟩, rfl, kk, ?_⟩
  rcases hc with hc | ⟨hne, A⟩
  · exact Or.inl hc
  · exact Or.inr ⟨hne, h.wrote kk A rfl⟩
end
end Go.Proofs.YteglimjonofdeaaGreatDoor
