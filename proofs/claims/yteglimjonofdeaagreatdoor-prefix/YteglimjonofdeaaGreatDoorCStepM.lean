import Derived.Test.YteglimjonofdeaaGreatDoorCRecvM
import Derived.Test.YteglimjonofdeaaGreatDoorOOpenM
set_option linter.unusedVariables false
set_option linter.unusedSimpArgs false
namespace Go.Proofs.YteglimjonofdeaaGreatDoor
open Go.RowKit

/-- A node of a chain, by its parts. -/
structure NP where
  z : Nv
  (nd q bb j u : Nat)
  C : Nat → List Int
  l : ByteArray
  (bk lm m cc : Nat)
  lv : Value
  L : List En
  (G F : Nat → Prop)
  D : DataW Unit
def NP.At (K : Nat → Int) (x : NP) (w : World) : Prop := Al K w x.z x.nd x.q x.bb 250 x.j x.u x.C x.l x.bk x.lm x.m x.cc 0 x.lv x.L x.G x.F x.D
/-- The blocks that are a node's own. -/
def NP.own (x : NP) (g : Nat) : Prop := alOwn x.q x.bb x.j x.bk x.lm x.lv x.G g ∨ g = x.nd
theorem NP.At.kept {K : Nat → Int} {x : NP} {w w' : World} {S : Nat → Prop} (h : x.At K w) (k : Kept S w w') (hn : ∀ g, x.own g → ¬ S g) (hT : ¬ S 1) : x.At K w' := by
  have hnd : ¬ S x.nd := hn _ (Or.inr rfl)
  exact ⟨range_kept h.node k h.nlt hnd, there_kept h.room k h.nlt hnd, Nat.lt_of_lt_of_le h.nlt k.size, h.jat.kept k (fun g hg => hn g (Or.inl (Or.inl hg))), h.book.kept k (fun g hg => hn g (Or.inl (Or.inr hg))), h.ap, h.nap, h.tab.kept k hT, h.tap⟩
theorem NP.At.fresh {K : Nat → Int} {x : NP} {w w' : World} (h : x.At K w) (hb : Below w.heap.size w w') : x.At K w' := Al.fresh h hb
theorem NP.At.lt {K : Nat → Int} {x : NP} {w : World} (h : x.At K w) (g : Nat) (hg : x.own g) : g < w.heap.size := by
  rcases hg with (hg | hg) | rfl
  · exact h.jat.ownLt g hg
  · exact h.book.ownLt g hg
  · exact h.nlt
theorem NP.At.notT {K : Nat → Int} {x : NP} {w : World} (h : x.At K w) : ¬ x.own 1 := by
  rintro ((hg | hg) | hg)
  · exact h.tap.2 hg
  · exact h.tap.1 hg
  · exact h.ndT hg.symm
/-- A step of a node: what came out, what it is now. -/
def Stp (K : Nat → Int) (x : NP) (w : World) (Lo : NP → List (Int × ByteArray)) (P : NP → Prop) (s r : Value) (w' : World) : Prop :=
  ∃ x' : NP, r = .nilIface ∧ OutAt w' s (Lo x') ∧ x'.At K w' ∧ P x' ∧ x'.nd = x.nd ∧ Kept x.own w w' ∧ ∀ g, x'.own g → x.own g ∨ w.heap.size ≤ g
/-- x' is x, and one entry more. -/
def Took (x : NP) (z' : Nv) (c n o p v : Int) (t : ByteArray) (x' : NP) : Prop :=
  x'.z = z' ∧ x'.u = x.u + 1 ∧ x'.cc = x.cc + 3 ∧ x'.D = x.D.put (.int .i64 c) (.lit (.int .i64 ((x.L.length + 1 : Nat) : Int))) ∧ ∃ k vv tt, x'.L = x.L ++ [⟨c, n, o, p, v, t, k, vv, tt⟩]
def NP.wholes (x : NP) : Prop := ∀ e ∈ x.L, rqWhole e.c e.n e.o e.p e.v e.t = true
/-- What came out for the entry behind the first n. -/
def lastOut (n : Nat) (out : En → List (Int × ByteArray)) (x' : NP) : List (Int × ByteArray) := match x'.L[n]? with
  | some e => out e
  | none => []
/-- What take's post says, as a step. -/
theorem Stp.took {K : Nat → Int} {x : NP} {z' : Nv} {w W : World} {out : En → List (Int × ByteArray)} {c n o p v : Int} {t : ByteArray} {s r : Value} {w' : World} {e : Ending} (he : e = .returned (.tuple #[s, r])) (hW : Kept x.own w W) (h : chPost out K z' x.nd x.q x.bb 250 x.j x.u x.C x.l x.bk x.lm x.m x.cc 0 x.lv x.L x.G x.F x.D c n o p v t W e w') :
    Stp K x w (lastOut x.L.length out) (Took x z' c n o p v t) s r w' := by
  obtain ⟨C', l', lv', G', F', k, vv, tt, vs, h1, h2, h3, h4, h5⟩ := h
  rw [he] at h1
  have hs : s = vs ∧ r = .nilIface := by simpa using h1
  obtain ⟨rfl, rfl⟩ := hs
  refine ⟨⟨z', x.nd, x.q, x.bb, x.j, x.u + 1, C', l', x.bk, x.lm, x.m, x.cc + 3, lv', _, G', F', _⟩, rfl, ?_, h2, ⟨rfl, rfl, rfl, rfl, k, vv, tt, rfl⟩, rfl, hW.trans (h4.mono (fun _ _ h => Or.inl h)) (fun _ _ h => h), fun g hg => ?_⟩
  · have : (x.L ++ [(⟨c, n, o, p, v, t, k, vv, tt⟩ : En)])[x.L.length]? = some ⟨c, n, o, p, v, t, k, vv, tt⟩ := by rw [List.getElem?_append_right (Nat.le_refl _), Nat.sub_self]; rfl
    show OutAt w' s (lastOut x.L.length out _)
    unfold lastOut
    simp only [this]
    exact h3
  · rcases hg with (hg | hg) | hg
    · exact Or.inl (Or.inl (Or.inl hg))
    · rcases h5 g hg with e | e
      · exact Or.inl (Or.inl (Or.inr e))
      · exact Or.inr (Nat.le_trans hW.size e)
    · exact Or.inl (Or.inr hg)
theorem Stp.out_eq {K : Nat → Int} {x : NP} {w : World} {Lo Lo' : NP → List (Int × ByteArray)} {P : NP → Prop} {s r : Value} {w' : World} (h : Stp K x w Lo P s r w') (he : ∀ x', P x' → Lo x' = Lo' x') : Stp K x w Lo' P s r w' := by
  obtain ⟨x', h1, h2, h3, h4, h5, h6, h7⟩ := h
  exact ⟨x', h1, by rw [← he x' h4]; exact h2, h3, h4, h5, h6, h7⟩
/-- A step that leaves the node as it is. -/
theorem Stp.idle {K : Nat → Int} {x : NP} {w w' : World} {s : Value} {L : List (Int × ByteArray)} (h : x.At K w) (ho : OutAt w' s L) (hb : Below w.heap.size w w') : Stp K x w (fun _ => L) (fun x' => x' = x) s .nilIface w' :=
  ⟨x, rfl, ho, h.fresh hb, rfl, rfl, Kept.fresh hb, fun g hg => Or.inl hg⟩
theorem Kept.ofNd {x : NP} {w w' : World} (h : Kept (· = x.nd) w w') : Kept x.own w w' := h.mono (fun g _ e => Or.inr e)

/-- A Forward that is old. -/
theorem nd_fw_old (K : Nat → Int) (x : NP) (xn i : Nat) (r : Rq) (a : Int) (w : World) (h : x.At K w) (hx : w.cell? ⟨xn, 0, none⟩ = some (.pointer (some ⟨x.nd, 0, none⟩))) (h1 : 1 ≤ x.z.r) (h2 : x.z.r ≤ 2) (hw : r.whole) (ha : ackOf x.z x.L.length = a) (ha0 : 0 ≤ a ∧ a ≤ 1000) (hi : 1 ≤ i) (hiL : i ≤ x.L.length) (hL : x.L.length < 1000) :
    Calls Tryz.prog 37 #[.pointer (some ⟨xn, 0, none⟩), .string (r.fw (i : Nat))] w fun e w' => ∃ s r', e = .returned (.tuple #[s, r']) ∧ Stp K x w (fun _ => [(x.z.r - 1, mkT 75 a ⟨#[]⟩)]) (fun x' => x' = { x with z := hearZ x.z }) s r' w' := by
  refine drecv_any xn x.nd _ _ w hx ?_
  refine (recv_fw x.z x.nd x.bk (i : Nat) r.c r.n r.o r.p r.v r.t ⟨by omega, by omega⟩ hw w h.node (fun _ s r' w' => Stp K x w (fun _ => [(x.z.r - 1, mkT 75 a ⟨#[]⟩)]) (fun x' => x' = { x with z := hearZ x.z }) s r' w') (fun W hb => ?_)).mono ?_
  · refine (tf_old K x.z x.nd x.q x.bb 250 x.j x.u x.C x.l x.bk x.lm x.m x.cc 0 x.lv x.L x.G x.F x.D i r.c r.n r.o r.p r.v r.t W (h.fresh hb) h1 h2 a ha ha0 hiL hL).mono ?_
    rintro e w' ⟨v, rfl, ho, ha', hk⟩
    exact ⟨_, _, rfl, { x with z := hearZ x.z }, rfl, ho, ha', rfl, rfl, (Kept.fresh hb).trans hk.ofNd (fun _ _ h => h), fun g hg => Or.inl hg⟩
  · rintro e w' ⟨W, s, r', hb, rfl, hs⟩
    exact ⟨s, r', rfl, hs⟩
/-- A Forward that is the next one. -/
theorem nd_fw_new (K : Nat → Int) (x : NP) (xn i : Nat) (r : Rq) (no : Int) (y : Nat) (w : World) (out : En → List (Int × ByteArray)) (h : x.At K w) (hx : w.cell? ⟨xn, 0, none⟩ = some (.pointer (some ⟨x.nd, 0, none⟩))) (h1 : 1 ≤ x.z.r) (h2 : x.z.r ≤ 2) (hw : r.whole) (hl : lastIs x.L x.D r.c no y) (hno : no < r.n) (hi : i = x.L.length + 1) (hL : x.L.length ≤ 200)
    (htk : ∀ W, Al K W (hearZ x.z) x.nd x.q x.bb 250 x.j x.u x.C x.l x.bk x.lm x.m x.cc 0 x.lv x.L x.G x.F x.D → Calls Tryz.prog 61 #[.pointer (some ⟨x.nd, 0, none⟩), .agg (rqCells r.c r.n r.o r.p r.v r.t).toArray] W (chPost out K (hearZ x.z) x.nd x.q x.bb 250 x.j x.u x.C x.l x.bk x.lm x.m x.cc 0 x.lv x.L x.G x.F x.D r.c r.n r.o r.p r.v r.t W)) :
    Calls Tryz.prog 37 #[.pointer (some ⟨xn, 0, none⟩), .string (r.fw (i : Nat))] w fun e w' => ∃ s r', e = .returned (.tuple #[s, r']) ∧ Stp K x w (lastOut x.L.length out) (Took x (hearZ x.z) r.c r.n r.o r.p r.v r.t) s r' w' := by
  refine drecv_any xn x.nd _ _ w hx ?_
  refine (recv_fw x.z x.nd x.bk (i : Nat) r.c r.n r.o r.p r.v r.t ⟨by omega, by omega⟩ hw w h.node (fun _ s r' w' => Stp K x w (lastOut x.L.length out) (Took x (hearZ x.z) r.c r.n r.o r.p r.v r.t) s r' w') (fun W hb => ?_)).mono ?_
  · refine (tf_new K x.z x.nd x.q x.bb 250 x.j x.u x.C x.l x.bk x.lm x.m x.cc 0 x.lv x.L x.G x.F x.D i r.c r.n r.o r.p r.v r.t W (h.fresh hb) h1 h2 no y hw hl hno hi (by omega) (fun W2 s r' w' => Kept (· = x.nd) W W2 → Stp K x w (lastOut x.L.length out) (Took x (hearZ x.z) r.c r.n r.o r.p r.v r.t) s r' w') (fun W2 hk2 ha2 => ?_)).mono ?_
    · refine (htk W2 ha2).mono ?_
      rintro e w' hp
      have hp' := hp
      obtain ⟨C', l', lv', G', F', k, vv, tt, vs, he, _⟩ := hp'
      exact ⟨vs, .nilIface, he, fun hkk => Stp.took he ((Kept.fresh hb).trans hkk.ofNd (fun _ _ h => h)) hp⟩
    · rintro e w' ⟨W2, s, r', hk2, ha2, rfl, hs⟩
      exact ⟨s, r', rfl, hs hk2⟩
  · rintro e w' ⟨W, s, r', hb, rfl, hs⟩
    exact ⟨s, r', rfl, hs⟩
/-- An Ack that is old. -/
theorem nd_ack_old (K : Nat → Int) (x : NP) (xn i : Nat) (w : World) (h : x.At K w) (hx : w.cell? ⟨xn, 0, none⟩ = some (.pointer (some ⟨x.nd, 0, none⟩))) (h0 : 0 ≤ x.z.r) (h2 : x.z.r ≤ 2) (hz : x.z.r ≠ x.z.last) (hi : (i : Int) ≤ x.z.kn) (hi2 : i ≤ 1000) :
    Calls Tryz.prog 37 #[.pointer (some ⟨xn, 0, none⟩), .string (mkT 75 (i : Nat) ⟨#[]⟩)] w fun e w' => ∃ s r', e = .returned (.tuple #[s, r']) ∧ Stp K x w (fun _ => []) (fun x' => x' = x) s r' w' := by
  refine drecv_any xn x.nd _ _ w hx ?_
  refine (recv_ack x.z x.nd x.bk (i : Nat) ⟨by omega, by omega⟩ w h.node (fun _ s r' w' => Stp K x w (fun _ => []) (fun x' => x' = x) s r' w') (fun W hb => ?_)).mono ?_
  · refine (ta_old K x.z x.nd x.q x.bb 250 x.j x.u x.C x.l x.bk x.lm x.m x.cc 0 x.lv x.L x.G x.F x.D i x.z.kn W (h.fresh hb) h0 h2 hz rfl hi).mono ?_
    rintro e w' ⟨rfl, hb2⟩
    exact ⟨_, _, rfl, Stp.idle h (Or.inl ⟨rfl, rfl⟩) (hb.trans (hb2.mono hb.size))⟩
  · rintro e w' ⟨W, s, r', hb, rfl, hs⟩
    exact ⟨s, r', rfl, hs⟩
/-- An Ack that is new, at the first node. -/
theorem nd_ack_first (K : Nat → Int) (x : NP) (xn i : Nat) (w : World) (h : x.At K w) (hx : w.cell? ⟨xn, 0, none⟩ = some (.pointer (some ⟨x.nd, 0, none⟩))) (hz0 : x.z.r = 0) (hz : x.z.r ≠ x.z.last) (hi : x.z.kn < (i : Int)) (hiL : i ≤ x.L.length) (hL : x.L.length < 1000) :
    Calls Tryz.prog 37 #[.pointer (some ⟨xn, 0, none⟩), .string (mkT 75 (i : Nat) ⟨#[]⟩)] w fun e w' => ∃ s r', e = .returned (.tuple #[s, r']) ∧ Stp K x w (fun _ => []) (fun x' => x' = { x with z := knowZ x.z (i : Nat) }) s r' w' := by
  refine drecv_any xn x.nd _ _ w hx ?_
  refine (recv_ack x.z x.nd x.bk (i : Nat) ⟨by omega, by omega⟩ w h.node (fun _ s r' w' => Stp K x w (fun _ => []) (fun x' => x' = { x with z := knowZ x.z (i : Nat) }) s r' w') (fun W hb => ?_)).mono ?_
  · refine (ta_first K x.z x.nd x.q x.bb 250 x.j x.u x.C x.l x.bk x.lm x.m x.cc 0 x.lv x.L x.G x.F x.D i x.z.kn W (h.fresh hb) (by omega) (by omega) hz rfl hz0 hi hiL).mono ?_
    rintro e w' ⟨rfl, ha, hk⟩
    exact ⟨_, _, rfl, { x with z := knowZ x.z (i : Nat) }, rfl, Or.inl ⟨rfl, rfl⟩, ha, rfl, rfl, (Kept.fresh hb).trans hk.ofNd (fun _ _ h => h), fun g hg => Or.inl hg⟩
  · rintro e w' ⟨W, s, r', hb, rfl, hs⟩
    exact ⟨s, r', rfl, hs⟩
/-- An Ack that is new, at a node between. -/
theorem nd_ack_mid (K : Nat → Int) (x : NP) (xn i : Nat) (w : World) (h : x.At K w) (hx : w.cell? ⟨xn, 0, none⟩ = some (.pointer (some ⟨x.nd, 0, none⟩))) (h1 : 1 ≤ x.z.r) (h2 : x.z.r ≤ 2) (hz : x.z.r ≠ x.z.last) (hi : x.z.kn < (i : Int)) (hiL : i ≤ x.L.length) (hL : x.L.length < 1000) :
    Calls Tryz.prog 37 #[.pointer (some ⟨xn, 0, none⟩), .string (mkT 75 (i : Nat) ⟨#[]⟩)] w fun e w' => ∃ s r', e = .returned (.tuple #[s, r']) ∧ Stp K x w (fun _ => [(x.z.r - 1, mkT 75 (i : Nat) ⟨#[]⟩)]) (fun x' => x' = { x with z := knowZ x.z (i : Nat) }) s r' w' := by
  refine drecv_any xn x.nd _ _ w hx ?_
  refine (recv_ack x.z x.nd x.bk (i : Nat) ⟨by omega, by omega⟩ w h.node (fun _ s r' w' => Stp K x w (fun _ => [(x.z.r - 1, mkT 75 (i : Nat) ⟨#[]⟩)]) (fun x' => x' = { x with z := knowZ x.z (i : Nat) }) s r' w') (fun W hb => ?_)).mono ?_
  · refine (ta_mid K x.z x.nd x.q x.bb 250 x.j x.u x.C x.l x.bk x.lm x.m x.cc 0 x.lv x.L x.G x.F x.D i x.z.kn W (h.fresh hb) (by omega) h2 hz rfl h1 hi hiL hL).mono ?_
    rintro e w' ⟨v, rfl, ho, ha, hk⟩
    exact ⟨_, _, rfl, { x with z := knowZ x.z (i : Nat) }, rfl, ho, ha, rfl, rfl, (Kept.fresh hb).trans hk.ofNd (fun _ _ h => h), fun g hg => Or.inl hg⟩
  · rintro e w' ⟨W, s, r', hb, rfl, hs⟩
    exact ⟨s, r', rfl, hs⟩
/-- An Ask. -/
theorem nd_ask (K : Nat → Int) (x : NP) (xn i : Nat) (w : World) (h : x.At K w) (hx : w.cell? ⟨xn, 0, none⟩ = some (.pointer (some ⟨x.nd, 0, none⟩))) (h0 : 0 ≤ x.z.r) (h2 : x.z.r ≤ 2) (hz : x.z.r ≠ x.z.last) (hiL : i ≤ x.L.length) (hwh : x.wholes) (hL : x.L.length < 1000) :
    Calls Tryz.prog 37 #[.pointer (some ⟨xn, 0, none⟩), .string (mkT 81 (i : Nat) ⟨#[]⟩)] w fun e w' => ∃ s r', e = .returned (.tuple #[s, r']) ∧ Stp K x w (fun _ => fwOut (x.z.r + 1) x.L i (min 4 (x.L.length - i))) (fun x' => x' = x) s r' w' := by
  refine drecv_any xn x.nd _ _ w hx ?_
  refine (recv_ask x.z x.nd x.bk (i : Nat) ⟨by omega, by omega⟩ w h.node (fun _ s r' w' => Stp K x w (fun _ => fwOut (x.z.r + 1) x.L i (min 4 (x.L.length - i))) (fun x' => x' = x) s r' w') (fun W hb => ?_)).mono ?_
  · refine (tq_any K x.z x.nd x.q x.bb 250 x.j x.u x.C x.l x.bk x.lm x.m x.cc 0 x.lv x.L x.G x.F x.D i W (h.fresh hb) h0 h2 hz hiL hwh hL).mono ?_
    rintro e w' ⟨v, rfl, ho, hb2⟩
    exact ⟨_, _, rfl, Stp.idle h ho (hb.trans (hb2.mono hb.size))⟩
  · rintro e w' ⟨W, s, r', hb, rfl, hs⟩
    exact ⟨s, r', rfl, hs⟩
end Go.Proofs.YteglimjonofdeaaGreatDoor
set_option linter.unusedVariables false
set_option linter.unusedSimpArgs false
namespace Go.Proofs.YteglimjonofdeaaGreatDoor
open Go.RowKit

/-- The requests of a chain's one client, in order. -/
def RsOk (rs : List Rq) : Prop := rs.length ≤ 12 ∧ ∀ (i : Nat) (r : Rq), rs[i]? = some r → r.whole ∧ r.c = 1 ∧ r.n = ((i + 1 : Nat) : Int)
/-- A node at place r whose log are the first len requests; xn: the door's node. -/
structure Nok (K : Nat → Int) (rs : List Rq) (xn : Nat) (r : Int) (len : Nat) (x : NP) (w : World) : Prop where
  at_ : x.At K w
  door : w.cell? ⟨xn, 0, none⟩ = some (.pointer (some ⟨x.nd, 0, none⟩))
  xl : xn < w.heap.size
  role : x.z.r = r
  last : x.z.last = 2
  log : x.L.map En.rq = rs.take len
  len_ : x.L.length = len
  lst : lastIs x.L x.D 1 ((len : Nat) : Int) len
  cu : x.u = len + 1
  cc : x.cc = 3 * len
theorem Nok.kept {K : Nat → Int} {rs : List Rq} {xn : Nat} {r : Int} {len : Nat} {x : NP} {w w' : World} {S : Nat → Prop} (h : Nok K rs xn r len x w) (k : Kept S w w') (hn : ∀ g, x.own g → ¬ S g) (hT : ¬ S 1) (hx : ¬ S xn) : Nok K rs xn r len x w' :=
  ⟨h.at_.kept k hn hT, (k.cell (a := ⟨xn, 0, none⟩) h.xl hx).trans h.door, Nat.lt_of_lt_of_le h.xl k.size, h.role, h.last, h.log, h.len_, h.lst, h.cu, h.cc⟩
theorem Nok.get {K : Nat → Int} {rs : List Rq} {xn : Nat} {r : Int} {len : Nat} {x : NP} {w : World} (h : Nok K rs xn r len x w) {i : Nat} {e : En} (he : x.L[i]? = some e) : rs[i]? = some e.rq := by
  have hi : i < x.L.length := (List.getElem?_eq_some_iff.1 he).1
  have h1 : (x.L.map En.rq)[i]? = some e.rq := by rw [List.getElem?_map, he]; rfl
  rw [h.log, List.getElem?_take_of_lt (by have := h.len_; omega)] at h1
  exact h1
theorem Nok.wholes {K : Nat → Int} {rs : List Rq} {xn : Nat} {r : Int} {len : Nat} {x : NP} {w : World} (h : Nok K rs xn r len x w) (hr : RsOk rs) : x.wholes := fun e he => by
  obtain ⟨i, hi⟩ := List.getElem?_of_mem he
  exact (hr.2 i _ (h.get hi)).1
theorem Nok.le {K : Nat → Int} {rs : List Rq} {xn : Nat} {r : Int} {len : Nat} {x : NP} {w : World} (h : Nok K rs xn r len x w) : len ≤ rs.length := by
  have := congrArg List.length h.log
  rw [List.length_map, h.len_, List.length_take] at this
  omega
theorem Nok.more {K : Nat → Int} {rs : List Rq} {xn : Nat} {r : Int} {len : Nat} {x : NP} {w : World} (h : Nok K rs xn r len x w) (q : Rq) : Nok K (rs ++ [q]) xn r len x w :=
  ⟨h.at_, h.door, h.xl, h.role, h.last, by rw [h.log, List.take_append_of_le_length h.le], h.len_, h.lst, h.cu, h.cc⟩
/-- The next entry was taken. -/
theorem Nok.took {K : Nat → Int} {rs : List Rq} {xn : Nat} {r : Int} {len : Nat} {x x' : NP} {z' : Nv} {w w' : World} {q : Rq} (h : Nok K rs xn r len x w) (hr : RsOk rs) (hq : rs[len]? = some q) (ht : Took x z' q.c q.n q.o q.p q.v q.t x') (ha : x'.At K w') (hnd : x'.nd = x.nd) (k : Kept x.own w w') (hxo : ¬ x.own xn) (hz1 : z'.r = x.z.r) (hz2 : z'.last = x.z.last) : Nok K rs xn r (len + 1) x' w' := by
  obtain ⟨t1, t2, t3, t4, k', vv, tt, t5⟩ := ht
  have hlt : len < rs.length := (List.getElem?_eq_some_iff.1 hq).1
  obtain ⟨_, hc, hn⟩ := hr.2 len q hq
  have hD : Maps.IsMap x.D := by obtain ⟨es, clock, _, _, _, e⟩ := h.at_.book.lasts; exact ⟨_, e⟩
  refine ⟨ha, by rw [hnd]; exact (k.cell (a := ⟨xn, 0, none⟩) h.xl hxo).trans h.door, Nat.lt_of_lt_of_le h.xl k.size, by rw [t1, hz1, h.role], by rw [t1, hz2, h.last], ?_, by rw [t5, List.length_append, List.length_singleton, h.len_], ?_, by rw [t2, h.cu], by rw [t3, h.cc]; omega⟩
  · rw [t5, List.map_append, h.log, List.take_add_one, hq]; rfl
  · have := last_put x.L x.D q.c ⟨q.c, q.n, q.o, q.p, q.v, q.t, k', vv, tt⟩ hD
    rw [← t5, ← t4, h.len_, hc] at this
    rw [hn] at this
    exact this
/-- The three nodes. -/
structure Ch (K : Nat → Int) (rs : List Rq) (dr : Nat → Nat) (s : PS) (x0 x1 x2 : NP) (w : World) : Prop where
  n0 : Nok K rs (dr 0) 0 s.a x0 w
  n1 : Nok K rs (dr 1) 1 s.b x1 w
  n2 : Nok K rs (dr 2) 2 s.c x2 w
  k0 : x0.z.kn = ((s.k0 : Nat) : Int)
  k1 : x1.z.kn = ((s.k1 : Nat) : Int)
  h1 : x1.z.hd = s.h1
  h2 : x2.z.hd = s.h2
  a01 : ∀ g, x0.own g → ¬ x1.own g
  a02 : ∀ g, x0.own g → ¬ x2.own g
  a12 : ∀ g, x1.own g → ¬ x2.own g
  dd : ∀ k, k < 3 → ¬ x0.own (dr k) ∧ ¬ x1.own (dr k) ∧ ¬ x2.own (dr k)
  dl : ∀ k, k < 3 → dr k < w.heap.size
theorem own_step {x x' : NP} {w : World} {K : Nat → Int} {y : NP} (o : ∀ g, x'.own g → x.own g ∨ w.heap.size ≤ g) (hy : y.At K w) (h : ∀ g, y.own g → ¬ x.own g) : ∀ g, y.own g → ¬ x'.own g := fun g hg e => by
  rcases o g e with e | e
  · exact h g hg e
  · have := hy.lt g hg; omega
theorem Ch.step0 {K : Nat → Int} {rs : List Rq} {dr : Nat → Nat} {s s' : PS} {x0 x1 x2 x0' : NP} {w w' : World} (h : Ch K rs dr s x0 x1 x2 w) (hn : Nok K rs (dr 0) 0 s'.a x0' w') (hk : x0'.z.kn = ((s'.k0 : Nat) : Int)) (e1 : s'.b = s.b) (e2 : s'.c = s.c) (e3 : s'.k1 = s.k1) (e4 : s'.h1 = s.h1) (e5 : s'.h2 = s.h2) (k : Kept x0.own w w') (o : ∀ g, x0'.own g → x0.own g ∨ w.heap.size ≤ g) : Ch K rs dr s' x0' x1 x2 w' := by
  have hT := h.n0.at_.notT
  refine ⟨hn, by rw [e1]; exact h.n1.kept k (fun g hg e => h.a01 g e hg) hT (h.dd 1 (by omega)).1, by rw [e2]; exact h.n2.kept k (fun g hg e => h.a02 g e hg) hT (h.dd 2 (by omega)).1, hk, by rw [e3]; exact h.k1, by rw [e4]; exact h.h1, by rw [e5]; exact h.h2, fun g hg e => ?_, fun g hg e => ?_, h.a12, fun j hj => ⟨fun e => ?_, (h.dd j hj).2⟩, fun j hj => Nat.lt_of_lt_of_le (h.dl j hj) k.size⟩
  · exact own_step o h.n1.at_ (fun g hg e => h.a01 g e hg) g e hg
  · exact own_step o h.n2.at_ (fun g hg e => h.a02 g e hg) g e hg
  · rcases o _ e with e | e
    · exact (h.dd j hj).1 e
    · have := h.dl j hj; omega
theorem Ch.step1 {K : Nat → Int} {rs : List Rq} {dr : Nat → Nat} {s s' : PS} {x0 x1 x2 x1' : NP} {w w' : World} (h : Ch K rs dr s x0 x1 x2 w) (hn : Nok K rs (dr 1) 1 s'.b x1' w') (hk : x1'.z.kn = ((s'.k1 : Nat) : Int)) (hh : x1'.z.hd = s'.h1) (e1 : s'.a = s.a) (e2 : s'.c = s.c) (e3 : s'.k0 = s.k0) (e5 : s'.h2 = s.h2) (k : Kept x1.own w w') (o : ∀ g, x1'.own g → x1.own g ∨ w.heap.size ≤ g) : Ch K rs dr s' x0 x1' x2 w' := by
  have hT := h.n1.at_.notT
  refine ⟨by rw [e1]; exact h.n0.kept k (fun g hg e => h.a01 g hg e) hT (h.dd 0 (by omega)).2.1, hn, by rw [e2]; exact h.n2.kept k (fun g hg e => h.a12 g e hg) hT (h.dd 2 (by omega)).2.1, by rw [e3]; exact h.k0, hk, hh, by rw [e5]; exact h.h2, fun g hg e => ?_, h.a02, fun g hg e => ?_, fun j hj => ⟨(h.dd j hj).1, fun e => ?_, (h.dd j hj).2.2⟩, fun j hj => Nat.lt_of_lt_of_le (h.dl j hj) k.size⟩
  · exact own_step o h.n0.at_ (fun g hg e => h.a01 g hg e) g hg e
  · exact own_step o h.n2.at_ (fun g hg e => h.a12 g e hg) g e hg
  · rcases o _ e with e | e
    · exact (h.dd j hj).2.1 e
    · have := h.dl j hj; omega
theorem Ch.step2 {K : Nat → Int} {rs : List Rq} {dr : Nat → Nat} {s s' : PS} {x0 x1 x2 x2' : NP} {w w' : World} (h : Ch K rs dr s x0 x1 x2 w) (hn : Nok K rs (dr 2) 2 s'.c x2' w') (hh : x2'.z.hd = s'.h2) (e1 : s'.a = s.a) (e2 : s'.b = s.b) (e3 : s'.k0 = s.k0) (e4 : s'.k1 = s.k1) (e5 : s'.h1 = s.h1) (k : Kept x2.own w w') (o : ∀ g, x2'.own g → x2.own g ∨ w.heap.size ≤ g) : Ch K rs dr s' x0 x1 x2' w' := by
  have hT := h.n2.at_.notT
  refine ⟨by rw [e1]; exact h.n0.kept k (fun g hg e => h.a02 g hg e) hT (h.dd 0 (by omega)).2.2, by rw [e2]; exact h.n1.kept k (fun g hg e => h.a12 g hg e) hT (h.dd 1 (by omega)).2.2, hn, by rw [e3]; exact h.k0, by rw [e4]; exact h.k1, by rw [e5]; exact h.h1, hh, h.a01, fun g hg e => ?_, fun g hg e => ?_, fun j hj => ⟨(h.dd j hj).1, (h.dd j hj).2.1, fun e => ?_⟩, fun j hj => Nat.lt_of_lt_of_le (h.dl j hj) k.size⟩
  · exact own_step o h.n0.at_ (fun g hg e => h.a02 g hg e) g hg e
  · exact own_step o h.n1.at_ (fun g hg e => h.a12 g hg e) g hg e
  · rcases o _ e with e | e
    · exact (h.dd j hj).2.2 e
    · have := h.dl j hj; omega
/-- The blocks of a chain. -/
def cOwn (x0 x1 x2 : NP) (g : Nat) : Prop := x0.own g ∨ x1.own g ∨ x2.own g
/-- A chain in state s, whose blocks are O. -/
def Cst (K : Nat → Int) (rs : List Rq) (dr : Nat → Nat) (s : PS) (O : Nat → Prop) (w : World) : Prop := rs.length = s.a ∧ ∃ x0 x1 x2, Ch K rs dr s x0 x1 x2 w ∧ ∀ g, O g ↔ cOwn x0 x1 x2 g
theorem Cst.kept {K : Nat → Int} {rs : List Rq} {dr : Nat → Nat} {s : PS} {O S : Nat → Prop} {w w' : World} (h : Cst K rs dr s O w) (k : Kept S w w') (hn : ∀ g, O g → ¬ S g) (hT : ¬ S 1) (hd : ∀ j, j < 3 → ¬ S (dr j)) : Cst K rs dr s O w' := by
  obtain ⟨hl, x0, x1, x2, c, ho⟩ := h
  exact ⟨hl, x0, x1, x2, ⟨c.n0.kept k (fun g hg => hn g ((ho g).2 (Or.inl hg))) hT (hd 0 (by omega)), c.n1.kept k (fun g hg => hn g ((ho g).2 (Or.inr (Or.inl hg)))) hT (hd 1 (by omega)), c.n2.kept k (fun g hg => hn g ((ho g).2 (Or.inr (Or.inr hg)))) hT (hd 2 (by omega)), c.k0, c.k1, c.h1, c.h2, c.a01, c.a02, c.a12, c.dd, fun j hj => Nat.lt_of_lt_of_le (c.dl j hj) k.size⟩, ho⟩
theorem Cst.fresh {K : Nat → Int} {rs : List Rq} {dr : Nat → Nat} {s : PS} {O : Nat → Prop} {w w' : World} (h : Cst K rs dr s O w) (hb : Below w.heap.size w w') : Cst K rs dr s O w' := h.kept (Kept.fresh (S := fun _ => False) hb) (fun _ _ => id) id (fun _ _ => id)
theorem Cst.lt {K : Nat → Int} {rs : List Rq} {dr : Nat → Nat} {s : PS} {O : Nat → Prop} {w : World} (h : Cst K rs dr s O w) (g : Nat) (hg : O g) : g < w.heap.size := by
  obtain ⟨hl, x0, x1, x2, c, ho⟩ := h
  rcases (ho g).1 hg with e | e | e
  · exact c.n0.at_.lt g e
  · exact c.n1.at_.lt g e
  · exact c.n2.at_.lt g e
/-- What a call leaves of a chain: the packets out are J by their numbers, the state is s'. -/
def COut (K : Nat → Int) (rs : List Rq) (dr : Nat → Nat) (s' : PS) (J : List Pk) (O : Nat → Prop) (w : World) (v r : Value) (w' : World) : Prop :=
  ∃ Lo O', r = .nilIface ∧ OutAt w' v Lo ∧ Match rs J Lo ∧ Cst K rs dr s' O' w' ∧ Kept O w w' ∧ ∀ g, O' g → O g ∨ w.heap.size ≤ g
theorem COut.at0 {K : Nat → Int} {rs : List Rq} {dr : Nat → Nat} {s' : PS} {x0 x1 x2 x0' : NP} {w w' : World} {O : Nat → Prop} {J : List Pk} {Lo : List (Int × ByteArray)} {v : Value} (ho : ∀ g, O g ↔ cOwn x0 x1 x2 g) (hl : rs.length = s'.a) (hout : OutAt w' v Lo) (hm : Match rs J Lo) (c : Ch K rs dr s' x0' x1 x2 w') (k : Kept x0.own w w') (o : ∀ g, x0'.own g → x0.own g ∨ w.heap.size ≤ g) : COut K rs dr s' J O w v .nilIface w' :=
  ⟨Lo, cOwn x0' x1 x2, rfl, hout, hm, ⟨hl, x0', x1, x2, c, fun _ => Iff.rfl⟩, k.mono (fun g _ hg => (ho g).2 (Or.inl hg)), fun g hg => by
    rcases hg with e | e
    · exact (o g e).imp (fun e => (ho g).2 (Or.inl e)) id
    · exact Or.inl ((ho g).2 (Or.inr e))⟩
theorem COut.at1 {K : Nat → Int} {rs : List Rq} {dr : Nat → Nat} {s' : PS} {x0 x1 x2 x1' : NP} {w w' : World} {O : Nat → Prop} {J : List Pk} {Lo : List (Int × ByteArray)} {v : Value} (ho : ∀ g, O g ↔ cOwn x0 x1 x2 g) (hl : rs.length = s'.a) (hout : OutAt w' v Lo) (hm : Match rs J Lo) (c : Ch K rs dr s' x0 x1' x2 w') (k : Kept x1.own w w') (o : ∀ g, x1'.own g → x1.own g ∨ w.heap.size ≤ g) : COut K rs dr s' J O w v .nilIface w' :=
  ⟨Lo, cOwn x0 x1' x2, rfl, hout, hm, ⟨hl, x0, x1', x2, c, fun _ => Iff.rfl⟩, k.mono (fun g _ hg => (ho g).2 (Or.inr (Or.inl hg))), fun g hg => by
    rcases hg with e | e | e
    · exact Or.inl ((ho g).2 (Or.inl e))
    · exact (o g e).imp (fun e => (ho g).2 (Or.inr (Or.inl e))) id
    · exact Or.inl ((ho g).2 (Or.inr (Or.inr e)))⟩
theorem COut.at2 {K : Nat → Int} {rs : List Rq} {dr : Nat → Nat} {s' : PS} {x0 x1 x2 x2' : NP} {w w' : World} {O : Nat → Prop} {J : List Pk} {Lo : List (Int × ByteArray)} {v : Value} (ho : ∀ g, O g ↔ cOwn x0 x1 x2 g) (hl : rs.length = s'.a) (hout : OutAt w' v Lo) (hm : Match rs J Lo) (c : Ch K rs dr s' x0 x1 x2' w') (k : Kept x2.own w w') (o : ∀ g, x2'.own g → x2.own g ∨ w.heap.size ≤ g) : COut K rs dr s' J O w v .nilIface w' :=
  ⟨Lo, cOwn x0 x1 x2', rfl, hout, hm, ⟨hl, x0, x1, x2', c, fun _ => Iff.rfl⟩, k.mono (fun g _ hg => (ho g).2 (Or.inr (Or.inr hg))), fun g hg => by
    rcases hg with e | e | e
    · exact Or.inl ((ho g).2 (Or.inl e))
    · exact Or.inl ((ho g).2 (Or.inr (Or.inl e)))
    · exact (o g e).imp (fun e => (ho g).2 (Or.inr (Or.inr e))) id⟩
theorem Match.one {rs : List Rq} {p : Pk} {ad : Int} {b : ByteArray} (h : PkAt rs p ad b) : Match rs [p] [(ad, b)] := ⟨rfl, fun i q x hq hx => by
  match i, hq, hx with
  | 0, hq, hx => simp at hq hx; subst hq; rw [← hx]; exact h
  | i + 1, hq, hx => simp at hq⟩
/-- The Forwards of a log, by their numbers. -/
theorem match_fw {K : Nat → Int} {rs : List Rq} {xn : Nat} {r : Int} {len : Nat} {x : NP} {w : World} (h : Nok K rs xn r len x w) (hr : RsOk rs) (mk : Nat → Pk) (hmk : ∀ (n : Nat) (b : ByteArray) (q : Rq), 1 ≤ n → rs[n - 1]? = some q → q.whole → b = q.fw ((n : Nat) : Int) → PkAt rs (mk n) (r + 1) b) (n : Nat) : Match rs (fwdL mk n len) (fwOut (x.z.r + 1) x.L n (min 4 (x.L.length - n))) := by
  rw [h.len_, h.role]
  refine ⟨by rw [fwdL_len, fwOut_len], fun i p y hp hy => ?_⟩
  have hi : i < min 4 (len - n) := by have := (List.getElem?_eq_some_iff.1 hp).1; rwa [fwdL_len] at this
  have e1 : p = mk (n + 1 + i) := by
    unfold fwdL at hp
    rw [List.getElem?_map, List.getElem?_range hi] at hp
    simpa using hp.symm
  have hlt : n + i < x.L.length := by have := h.len_; omega
  obtain ⟨e, he⟩ : ∃ e, x.L[n + i]? = some e := ⟨_, List.getElem?_eq_getElem hlt⟩
  have e2 : y = (r + 1, e.rq.fw ((n + i + 1 : Nat) : Int)) := by
    unfold fwOut at hy
    rw [List.getElem?_map, List.getElem?_range hi] at hy
    rw [← fwAt_get he]
    simpa using hy.symm
  have hq := h.get he
  rw [e1, e2, show n + 1 + i = n + i + 1 by omega]
  exact hmk (n + i + 1) _ e.rq (by omega) (by rw [Nat.add_sub_cancel]; exact hq) (hr.2 _ _ hq).1 rfl
end Go.Proofs.YteglimjonofdeaaGreatDoor
set_option linter.unusedVariables false
set_option linter.unusedSimpArgs false
namespace Go.Proofs.YteglimjonofdeaaGreatDoor
open Go.RowKit

/-- A node of which only the cells were written. -/
theorem Nok.same {K : Nat → Int} {rs : List Rq} {xn : Nat} {r : Int} {len : Nat} {x x' : NP} {w w' : World} {z' : Nv} (h : Nok K rs xn r len x w) (hx : x' = { x with z := z' }) (h1 : z'.r = x.z.r) (h2 : z'.last = x.z.last) (ha : x'.At K w') (k : Kept x.own w w') (hxo : ¬ x.own xn) : Nok K rs xn r len x' w' := by
  subst hx
  exact ⟨ha, (k.cell (a := ⟨xn, 0, none⟩) h.xl hxo).trans h.door, Nat.lt_of_lt_of_le h.xl k.size, h1.trans h.role, h2.trans h.last, h.log, h.len_, h.lst, h.cu, h.cc⟩
theorem lastOut_took {x x' : NP} {z' : Nv} {c n o p v : Int} {t : ByteArray} {out : En → List (Int × ByteArray)} (h : Took x z' c n o p v t x') : ∃ k vv tt, lastOut x.L.length out x' = out ⟨c, n, o, p, v, t, k, vv, tt⟩ ∧ (⟨c, n, o, p, v, t, k, vv, tt⟩ : En) ∈ x'.L := by
  obtain ⟨_, _, _, _, k, vv, tt, h5⟩ := h
  refine ⟨k, vv, tt, ?_, by rw [h5]; simp⟩
  unfold lastOut
  rw [h5, List.getElem?_append_right (Nat.le_refl _), Nat.sub_self]; rfl
/-- The answer that a client is told, by its number. -/
theorem ans_at (rs : List Rq) (n : Nat) (k vv : Int) (tt : ByteArray) (hn : n ≤ 1000) (hk : 0 ≤ k ∧ k < 256) (hv : 0 ≤ vv ∧ vv < 256) (ht : tt.size ≤ 8) : PkAt rs (.A n) (10 + 1) (strOfNums (anBytes ((n : Nat) : Int) k vv tt)) := by
  have hf : ∀ x ∈ fourN ((n : Nat) : Int), 0 ≤ x ∧ x < 256 := by intro x hx; simp [fourN] at hx; omega
  have hb : ∀ x ∈ anBytes ((n : Nat) : Int) k vv tt, 0 ≤ x ∧ x < 256 := by
    intro x hx
    unfold anBytes at hx
    simp only [List.cons_append, List.mem_cons, List.mem_append, List.not_mem_nil, or_false] at hx
    rcases hx with rfl | ((hx | rfl | rfl | rfl) | hx)
    · omega
    · exact hf x hx
    · exact hk
    · exact hv
    · omega
    · unfold numsOf at hx
      obtain ⟨y, _, rfl⟩ := List.mem_map.1 hx
      have := y.toNat_lt
      omega
  have hnum := nums_str _ hb
  have hl : (anBytes ((n : Nat) : Int) k vv tt).length = 8 + tt.size := by
    unfold anBytes
    rw [List.length_append, numsOf_length]; simp [fourN]
  have hsz : (strOfNums (anBytes ((n : Nat) : Int) k vv tt)).size = 8 + tt.size := by rw [← numsOf_length, hnum, hl]
  refine ⟨by decide, by omega, by omega, fun x hx => ?_⟩
  rw [bAt_nums, hnum]
  obtain rfl | rfl | rfl | rfl : x = 0 ∨ x = 1 ∨ x = 2 ∨ x = 3 := by omega
  all_goals rfl

set_option maxHeartbeats 1000000 in
/-- A packet comes to its node. -/
theorem recv_chain (K : Nat → Int) (rs : List Rq) (dr : Nat → Nat) (s : PS) (O : Nat → Prop) (i : Nat) (p : Pk) (ad : Int) (b : ByteArray) (w : World) (hr : RsOk rs) (hi : i ≤ 12) (hv : PInv i s) (hp : okP s p) (hpk : PkAt rs p ad b) (hA : ad < 10) (hc : Cst K rs dr s O w) :
    ∃ k : Nat, k < 3 ∧ ad = (k : Int) ∧ Calls Tryz.prog 37 #[.pointer (some ⟨dr k, 0, none⟩), .string b] w fun e w' => ∃ v r, e = .returned (.tuple #[v, r]) ∧ COut K rs dr (recv s p).1 (recv s p).2 O w v r w' := by
  obtain ⟨hl, x0, x1, x2, c, ho⟩ := hc
  obtain ⟨v1, v2, v3, v4, v5, v6, v7, v8, v9, v10⟩ := hv
  have r0 := c.n0.role; have r1 := c.n1.role; have r2 := c.n2.role
  have l0 := c.n0.last; have l1 := c.n1.last; have l2 := c.n2.last
  have m0 := c.n0.len_; have m1 := c.n1.len_; have m2 := c.n2.len_
  have ak1 : ackOf x1.z x1.L.length = ((s.k1 : Nat) : Int) := by unfold ackOf; rw [if_neg (by omega), c.k1]
  have ak2 : ackOf x2.z x2.L.length = ((s.c : Nat) : Int) := by unfold ackOf; rw [if_pos (by omega), m2]
  have d0 := c.dd 0 (by omega); have d1 := c.dd 1 (by omega); have d2 := c.dd 2 (by omega)
  cases p with
  | F1 n =>
    obtain ⟨rfl, hn1, q, hq, hwq, rfl⟩ := hpk
    simp only [okP] at hp
    refine ⟨1, by omega, rfl, ?_⟩
    by_cases e : n ≤ s.b
    · have hrv : recv s (.F1 n) = ({ s with h1 := true }, [.K0 s.k1]) := by simp only [recv]; rw [if_pos e]
      rw [hrv]
      refine (nd_fw_old K x1 (dr 1) n q ((s.k1 : Nat) : Int) w c.n1.at_ c.n1.door (by omega) (by omega) hwq ak1 (by omega) hn1 (by omega) (by omega)).mono ?_
      rintro e' w' ⟨v, r, rfl, x', rfl, hout, ha, hx, hnd, k, o⟩
      refine ⟨v, _, rfl, COut.at1 ho hl hout (Match.one ⟨by omega, rfl⟩) (c.step1 (s' := { s with h1 := true }) (c.n1.same hx rfl rfl ha k d1.2.1) (by rw [hx]; exact c.k1) (by rw [hx]; rfl) rfl rfl rfl rfl k o) k o⟩
    · have hnb : n = s.b + 1 := by omega
      subst hnb
      have hrv : recv s (.F1 (s.b + 1)) = ({ s with h1 := true, b := s.b + 1 }, [.F2 (s.b + 1)]) := by simp only [recv]; rw [if_neg e, if_neg (by omega)]
      rw [hrv]
      rw [Nat.add_sub_cancel] at hq
      obtain ⟨_, hqc, hqn⟩ := hr.2 _ _ hq
      refine (nd_fw_new K x1 (dr 1) (s.b + 1) q ((s.b : Nat) : Int) s.b w (fun _ => [((hearZ x1.z).r + 1, (⟨q.c, q.n, q.o, q.p, q.v, q.t⟩ : Rq).fw ((x1.L.length + 1 : Nat) : Int))]) c.n1.at_ c.n1.door (by omega) (by omega) hwq (by rw [hqc]; exact c.n1.lst) (by omega) (by omega) (by omega)
        (fun W hW => ntake_fwd K (hearZ x1.z) x1.nd x1.q x1.bb 250 x1.j x1.u x1.C x1.l x1.bk x1.lm x1.m x1.cc 0 x1.lv x1.L x1.G x1.F x1.D q.c q.n q.o q.p q.v q.t W hW (by show 0 ≤ x1.z.r; omega) (by show x1.z.r ≤ 2; omega) (by show x1.z.r ≠ x1.z.last; omega) (by omega) (by have := c.n1.cu; omega) hwq (by omega) (by have := c.n1.cc; omega))).mono ?_
      rintro e' w' ⟨v, r, rfl, x', rfl, hout, ha, ht, hnd, k, o⟩
      obtain ⟨k', vv, tt, hlo, hmem⟩ := lastOut_took (out := fun _ => [((hearZ x1.z).r + 1, (⟨q.c, q.n, q.o, q.p, q.v, q.t⟩ : Rq).fw ((x1.L.length + 1 : Nat) : Int))]) ht
      rw [hlo] at hout
      refine ⟨v, _, rfl, COut.at1 ho hl hout (Match.one ⟨by show x1.z.r + 1 = 2; omega, by omega, q, by rw [Nat.add_sub_cancel]; exact hq, hwq, by rw [m1]⟩) (c.step1 (s' := { s with h1 := true, b := s.b + 1 }) (c.n1.took hr hq ht ha hnd k d1.2.1 rfl rfl) (by rw [ht.1]; exact c.k1) (by rw [ht.1]; rfl) rfl rfl rfl rfl k o) k o⟩
  | F2 n =>
    obtain ⟨rfl, hn1, q, hq, hwq, rfl⟩ := hpk
    simp only [okP] at hp
    refine ⟨2, by omega, rfl, ?_⟩
    by_cases e : n ≤ s.c
    · have hrv : recv s (.F2 n) = ({ s with h2 := true }, [.K1 s.c]) := by simp only [recv]; rw [if_pos e]
      rw [hrv]
      refine (nd_fw_old K x2 (dr 2) n q ((s.c : Nat) : Int) w c.n2.at_ c.n2.door (by omega) (by omega) hwq ak2 (by omega) hn1 (by omega) (by omega)).mono ?_
      rintro e' w' ⟨v, r, rfl, x', rfl, hout, ha, hx, hnd, k, o⟩
      refine ⟨v, _, rfl, COut.at2 ho hl hout (Match.one ⟨by omega, rfl⟩) (c.step2 (s' := { s with h2 := true }) (c.n2.same hx rfl rfl ha k d2.2.2) (by rw [hx]; rfl) rfl rfl rfl rfl rfl k o) k o⟩
    · have hnb : n = s.c + 1 := by omega
      subst hnb
      have hrv : recv s (.F2 (s.c + 1)) = ({ s with h2 := true, c := s.c + 1 }, [.K1 (s.c + 1), .A (s.c + 1)]) := by simp only [recv]; rw [if_neg e, if_neg (by omega)]
      rw [hrv]
      rw [Nat.add_sub_cancel] at hq
      obtain ⟨_, hqc, hqn⟩ := hr.2 _ _ hq
      refine (nd_fw_new K x2 (dr 2) (s.c + 1) q ((s.c : Nat) : Int) s.c w (fun e => [((hearZ x2.z).r - 1, mkT 75 ((x2.L.length + 1 : Nat) : Int) ⟨#[]⟩), (10 + e.c, strOfNums (anBytes e.n e.k e.vv e.tt))]) c.n2.at_ c.n2.door (by omega) (by omega) hwq (by rw [hqc]; exact c.n2.lst) (by omega) (by omega) (by omega)
        (fun W hW => ntake_last K (hearZ x2.z) x2.nd x2.q x2.bb 250 x2.j x2.u x2.C x2.l x2.bk x2.lm x2.m x2.cc 0 x2.lv x2.L x2.G x2.F x2.D q.c q.n q.o q.p q.v q.t W hW (by show 1 ≤ x2.z.r; omega) (by show x2.z.r ≤ 2; omega) (by show x2.z.r = x2.z.last; omega) (by omega) (by have := c.n2.cu; omega) hwq (by omega) (by have := c.n2.cc; omega))).mono ?_
      rintro e' w' ⟨v, r, rfl, x', rfl, hout, ha, ht, hnd, k, o⟩
      obtain ⟨k', vv, tt, hlo, hmem⟩ := lastOut_took (out := fun e => [((hearZ x2.z).r - 1, mkT 75 ((x2.L.length + 1 : Nat) : Int) ⟨#[]⟩), (10 + e.c, strOfNums (anBytes e.n e.k e.vv e.tt))]) ht
      rw [hlo] at hout
      have hok := ha.book.ens _ hmem
      obtain ⟨_, _, hk1, hv1, ht1⟩ := hok
      have hA1 : PkAt rs (.A (s.c + 1)) (10 + q.c) (strOfNums (anBytes q.n k' vv tt)) := by
        rw [hqc, hqn]; exact ans_at rs (s.c + 1) k' vv tt (by omega) hk1 hv1 ht1
      refine ⟨v, _, rfl, COut.at2 ho hl hout (Match.app (J := [.K1 (s.c + 1)]) (L := [_]) (Match.one ⟨by show x2.z.r - 1 = 1; omega, by rw [m2]⟩) (Match.one hA1)) (c.step2 (s' := { s with h2 := true, c := s.c + 1 }) (c.n2.took hr hq ht ha hnd k d2.2.2 rfl rfl) (by rw [ht.1]; rfl) rfl rfl rfl rfl rfl k o) k o⟩
  | K0 n =>
    obtain ⟨rfl, rfl⟩ := hpk
    simp only [okP] at hp
    refine ⟨0, by omega, rfl, ?_⟩
    by_cases e : n ≤ s.k0
    · have hrv : recv s (.K0 n) = (s, []) := by simp only [recv]; rw [if_pos (Or.inl e)]
      rw [hrv]
      refine (nd_ack_old K x0 (dr 0) n w c.n0.at_ c.n0.door (by omega) (by omega) (by omega) (by rw [c.k0]; omega) (by omega)).mono ?_
      rintro e' w' ⟨v, r, rfl, x', rfl, hout, ha, hx, hnd, k, o⟩
      subst hx
      exact ⟨v, _, rfl, COut.at0 ho hl hout (Match.nil rs) (c.step0 (c.n0.same rfl rfl rfl ha k d0.1) c.k0 rfl rfl rfl rfl rfl k o) k o⟩
    · have hrv : recv s (.K0 n) = ({ s with k0 := n }, []) := by simp only [recv]; rw [if_neg (by omega)]
      rw [hrv]
      refine (nd_ack_first K x0 (dr 0) n w c.n0.at_ c.n0.door r0 (by omega) (by rw [c.k0]; omega) (by omega) (by omega)).mono ?_
      rintro e' w' ⟨v, r, rfl, x', rfl, hout, ha, hx, hnd, k, o⟩
      exact ⟨v, _, rfl, COut.at0 ho hl hout (Match.nil rs) (c.step0 (s' := { s with k0 := n }) (c.n0.same hx rfl rfl ha k d0.1) (by rw [hx]; rfl) rfl rfl rfl rfl rfl k o) k o⟩
  | K1 n =>
    obtain ⟨rfl, rfl⟩ := hpk
    simp only [okP] at hp
    refine ⟨1, by omega, rfl, ?_⟩
    by_cases e : n ≤ s.k1
    · have hrv : recv s (.K1 n) = (s, []) := by simp only [recv]; rw [if_pos (Or.inl e)]
      rw [hrv]
      refine (nd_ack_old K x1 (dr 1) n w c.n1.at_ c.n1.door (by omega) (by omega) (by omega) (by rw [c.k1]; omega) (by omega)).mono ?_
      rintro e' w' ⟨v, r, rfl, x', rfl, hout, ha, hx, hnd, k, o⟩
      subst hx
      exact ⟨v, _, rfl, COut.at1 ho hl hout (Match.nil rs) (c.step1 (c.n1.same rfl rfl rfl ha k d1.2.1) c.k1 c.h1 rfl rfl rfl rfl k o) k o⟩
    · have hrv : recv s (.K1 n) = ({ s with k1 := n }, [.K0 n]) := by simp only [recv]; rw [if_neg (by omega)]
      rw [hrv]
      refine (nd_ack_mid K x1 (dr 1) n w c.n1.at_ c.n1.door (by omega) (by omega) (by omega) (by rw [c.k1]; omega) (by omega) (by omega)).mono ?_
      rintro e' w' ⟨v, r, rfl, x', rfl, hout, ha, hx, hnd, k, o⟩
      exact ⟨v, _, rfl, COut.at1 ho hl hout (Match.one ⟨by omega, rfl⟩) (c.step1 (s' := { s with k1 := n }) (c.n1.same hx rfl rfl ha k d1.2.1) (by rw [hx]; rfl) (by rw [hx]; exact c.h1) rfl rfl rfl rfl k o) k o⟩
  | Q0 n =>
    obtain ⟨rfl, rfl⟩ := hpk
    simp only [okP] at hp
    refine ⟨0, by omega, rfl, ?_⟩
    refine (nd_ask K x0 (dr 0) n w c.n0.at_ c.n0.door (by omega) (by omega) (by omega) (by omega) (c.n0.wholes hr) (by omega)).mono ?_
    rintro e' w' ⟨v, r, rfl, x', rfl, hout, ha, hx, hnd, k, o⟩
    subst hx
    exact ⟨v, _, rfl, COut.at0 ho hl hout (match_fw c.n0 hr .F1 (fun n b q h1 h2 h3 h4 => ⟨rfl, h1, q, h2, h3, h4⟩) n) (c.step0 (c.n0.same rfl rfl rfl ha k d0.1) c.k0 rfl rfl rfl rfl rfl k o) k o⟩
  | Q1 n =>
    obtain ⟨rfl, rfl⟩ := hpk
    simp only [okP] at hp
    refine ⟨1, by omega, rfl, ?_⟩
    refine (nd_ask K x1 (dr 1) n w c.n1.at_ c.n1.door (by omega) (by omega) (by omega) (by omega) (c.n1.wholes hr) (by omega)).mono ?_
    rintro e' w' ⟨v, r, rfl, x', rfl, hout, ha, hx, hnd, k, o⟩
    subst hx
    exact ⟨v, _, rfl, COut.at1 ho hl hout (match_fw c.n1 hr .F2 (fun n b q h1 h2 h3 h4 => ⟨rfl, h1, q, h2, h3, h4⟩) n) (c.step1 (c.n1.same rfl rfl rfl ha k d1.2.1) c.k1 c.h1 rfl rfl rfl rfl k o) k o⟩
  | A n =>
    obtain ⟨h1, _⟩ := hpk
    omega
end Go.Proofs.YteglimjonofdeaaGreatDoor
set_option linter.unusedVariables false
set_option linter.unusedSimpArgs false
namespace Go.Proofs.YteglimjonofdeaaGreatDoor
open Go.RowKit

/-- What node k's Tick sends. -/
def tickN (s : PS) : Nat → List Pk
  | 0 => fwdL .F1 s.k0 s.a
  | 1 => (if s.h1 then [] else [.Q0 s.b]) ++ fwdL .F2 s.k1 s.b
  | _ => if s.h2 then [] else [.Q1 s.c]
theorem tickN_all (s : PS) : tickN s 0 ++ (tickN s 1 ++ tickN s 2) = tickL s := by simp [tickN, tickL, List.append_assoc]

set_option maxHeartbeats 1000000 in
theorem tick_chain (K : Nat → Int) (rs : List Rq) (dr : Nat → Nat) (s : PS) (O : Nat → Prop) (i k : Nat) (w : World) (hr : RsOk rs) (hi : i ≤ 12) (hv : PInv i s) (hk : k < 3) (hc : Cst K rs dr s O w) :
    Calls Tryz.prog 13 #[.pointer (some ⟨dr k, 0, none⟩)] w fun e w' => ∃ v r, e = .returned (.tuple #[v, r]) ∧ COut K rs dr s (tickN s k) O w v r w' := by
  obtain ⟨hl, x0, x1, x2, c, ho⟩ := hc
  obtain ⟨v1, v2, v3, v4, v5, v6, v7, v8, v9, v10⟩ := hv
  have r0 := c.n0.role; have r1 := c.n1.role; have r2 := c.n2.role
  have l0 := c.n0.last; have l1 := c.n1.last; have l2 := c.n2.last
  have m0 := c.n0.len_; have m1 := c.n1.len_; have m2 := c.n2.len_
  have ak0 : ackOf x0.z x0.L.length = ((s.k0 : Nat) : Int) := by unfold ackOf; rw [if_neg (by omega), c.k0]
  have ak1 : ackOf x1.z x1.L.length = ((s.k1 : Nat) : Int) := by unfold ackOf; rw [if_neg (by omega), c.k1]
  have d0 := c.dd 0 (by omega); have d1 := c.dd 1 (by omega); have d2 := c.dd 2 (by omega)
  have f1 := match_fw c.n0 hr .F1 (fun n b q h1 h2 h3 h4 => ⟨rfl, h1, q, h2, h3, h4⟩) s.k0
  have f2 := match_fw c.n1 hr .F2 (fun n b q h1 h2 h3 h4 => ⟨rfl, h1, q, h2, h3, h4⟩) s.k1
  obtain rfl | rfl | rfl : k = 0 ∨ k = 1 ∨ k = 2 := by omega
  · refine (dtick_any (dr 0) x0.nd (fun v r w' => COut K rs dr s (tickN s 0) O w v r w') w c.n0.door ?_)
    refine (tick_first K x0.z x0.nd x0.q x0.bb 250 x0.j x0.u x0.C x0.l x0.bk x0.lm x0.m x0.cc 0 x0.lv x0.L x0.G x0.F x0.D s.k0 w c.n0.at_ (by omega) (by omega) r0 (by omega) ak0 (by omega) (by omega) (c.n0.wholes hr)).mono ?_
    rintro e w' ⟨v, rfl, hout, hb⟩
    rw [List.nil_append] at hout
    exact ⟨v, _, rfl, COut.at0 ho hl hout f1 (c.step0 (x0' := x0) (c.n0.same rfl rfl rfl (c.n0.at_.fresh hb) (Kept.fresh hb) d0.1) c.k0 rfl rfl rfl rfl rfl (Kept.fresh hb) (fun g hg => Or.inl hg)) (Kept.fresh hb) (fun g hg => Or.inl hg)⟩
  · refine (dtick_any (dr 1) x1.nd (fun v r w' => COut K rs dr s (tickN s 1) O w v r w') w c.n1.door ?_)
    have fin : ∀ (w' : World) (v : Value) (J : List Pk) (Lo : List (Int × ByteArray)), OutAt w' v Lo → Match rs J Lo → Below w.heap.size w w' → COut K rs dr s J O w v .nilIface w' := fun w' v J Lo hout hm hb => COut.at1 ho hl hout hm (c.step1 (x1' := x1) (c.n1.same rfl rfl rfl (c.n1.at_.fresh hb) (Kept.fresh hb) d1.2.1) c.k1 c.h1 rfl rfl rfl rfl (Kept.fresh hb) (fun g hg => Or.inl hg)) (Kept.fresh hb) (fun g hg => Or.inl hg)
    cases eh : s.h1 with
    | true =>
      refine (tick_mid K x1.z x1.nd x1.q x1.bb 250 x1.j x1.u x1.C x1.l x1.bk x1.lm x1.m x1.cc 0 x1.lv x1.L x1.G x1.F x1.D s.k1 w c.n1.at_ (by omega) (by omega) (by omega) (by rw [c.h1]; exact eh) (by omega) ak1 (by omega) (by omega) (c.n1.wholes hr)).mono ?_
      rintro e w' ⟨v, rfl, hout, hb⟩
      refine ⟨v, _, rfl, ?_⟩
      have : tickN s 1 = [] ++ fwdL .F2 s.k1 s.b := by simp [tickN, eh]
      rw [this]
      exact fin w' v _ _ hout ((Match.nil rs).app f2) hb
    | false =>
      refine (tick_mid_ask K x1.z x1.nd x1.q x1.bb 250 x1.j x1.u x1.C x1.l x1.bk x1.lm x1.m x1.cc 0 x1.lv x1.L x1.G x1.F x1.D s.k1 w c.n1.at_ (by omega) (by omega) (by omega) (by rw [c.h1]; exact eh) (by omega) ak1 (by omega) (by omega) (c.n1.wholes hr)).mono ?_
      rintro e w' ⟨v, rfl, hout, hb⟩
      refine ⟨v, _, rfl, ?_⟩
      have : tickN s 1 = [.Q0 s.b] ++ fwdL .F2 s.k1 s.b := by simp [tickN, eh]
      rw [this]
      exact fin w' v _ _ hout (Match.app (Match.one ⟨by omega, by rw [m1]⟩) f2) hb
  · refine (dtick_any (dr 2) x2.nd (fun v r w' => COut K rs dr s (tickN s 2) O w v r w') w c.n2.door ?_)
    have fin : ∀ (w' : World) (v : Value) (J : List Pk) (Lo : List (Int × ByteArray)), OutAt w' v Lo → Match rs J Lo → Below w.heap.size w w' → COut K rs dr s J O w v .nilIface w' := fun w' v J Lo hout hm hb => COut.at2 ho hl hout hm (c.step2 (x2' := x2) (c.n2.same rfl rfl rfl (c.n2.at_.fresh hb) (Kept.fresh hb) d2.2.2) c.h2 rfl rfl rfl rfl rfl (Kept.fresh hb) (fun g hg => Or.inl hg)) (Kept.fresh hb) (fun g hg => Or.inl hg)
    cases eh : s.h2 with
    | true =>
      refine (tick_last K x2.z x2.nd x2.q x2.bb 250 x2.j x2.u x2.C x2.l x2.bk x2.lm x2.m x2.cc 0 x2.lv x2.L x2.G x2.F x2.D 0 w c.n2.at_ (by omega) (by omega) (by omega) (by rw [c.h2]; exact eh) (by omega) (by omega) (by omega) (c.n2.wholes hr)).mono ?_
      rintro e w' ⟨v, rfl, hout, hb⟩
      refine ⟨v, _, rfl, ?_⟩
      have : tickN s 2 = [] ++ [] := by simp [tickN, eh]
      rw [this]
      exact fin w' v _ _ hout ((Match.nil rs).app (Match.nil rs)) hb
    | false =>
      refine (tick_last_ask K x2.z x2.nd x2.q x2.bb 250 x2.j x2.u x2.C x2.l x2.bk x2.lm x2.m x2.cc 0 x2.lv x2.L x2.G x2.F x2.D 0 w c.n2.at_ (by omega) (by omega) (by omega) (by rw [c.h2]; exact eh) (by omega) (by omega) (by omega) (c.n2.wholes hr)).mono ?_
      rintro e w' ⟨v, rfl, hout, hb⟩
      refine ⟨v, _, rfl, ?_⟩
      have : tickN s 2 = [.Q1 s.c] ++ [] := by simp [tickN, eh]
      rw [this]
      exact fin w' v _ _ hout (Match.app (Match.one ⟨by omega, by rw [m2]⟩) (Match.nil rs)) hb

set_option maxHeartbeats 1000000 in
/-- The last request once more. -/
theorem req_again_chain (K : Nat → Int) (rs : List Rq) (dr : Nat → Nat) (s : PS) (O : Nat → Prop) (i : Nat) (q : Rq) (w : World) (hr : RsOk rs) (hi : i ≤ 12) (hv : PInv i s) (ha1 : 1 ≤ s.a) (hq : rs[s.a - 1]? = some q) (hc : Cst K rs dr s O w) :
    Calls Tryz.prog 9 #[.pointer (some ⟨dr 0, 0, none⟩), .agg (rqCells q.c q.n q.o q.p q.v q.t).toArray] w fun e w' => ∃ v r, e = .returned (.tuple #[v, r]) ∧ COut K rs dr s (reqL s) O w v r w' := by
  obtain ⟨hl, x0, x1, x2, c, ho⟩ := hc
  obtain ⟨v1, v2, v3, v4, v5, v6, v7, v8, v9, v10⟩ := hv
  have r0 := c.n0.role
  have l0 := c.n0.last
  have m0 := c.n0.len_
  have ak0 : ackOf x0.z x0.L.length = ((s.k0 : Nat) : Int) := by unfold ackOf; rw [if_neg (by omega), c.k0]
  have d0 := c.dd 0 (by omega)
  obtain ⟨hwq, hqc, hqn⟩ := hr.2 _ _ hq
  have hqn' : q.n = ((s.a : Nat) : Int) := by rw [hqn]; omega
  have hls : lastIs x0.L x0.D q.c q.n s.a := by rw [hqc, hqn']; exact c.n0.lst
  have hlt : s.a - 1 < x0.L.length := by omega
  obtain ⟨en, hen⟩ : ∃ e, x0.L[s.a - 1]? = some e := ⟨_, List.getElem?_eq_getElem hlt⟩
  have heq : en.rq = q := by have := c.n0.get hen; rw [hq] at this; exact (Option.some.inj this).symm
  have fin : ∀ (w' : World) (v : Value) (J : List Pk) (Lo : List (Int × ByteArray)), OutAt w' v Lo → Match rs J Lo → Below w.heap.size w w' → COut K rs dr s J O w v .nilIface w' := fun w' v J Lo hout hm hb => COut.at0 ho hl hout hm (c.step0 (x0' := x0) (c.n0.same rfl rfl rfl (c.n0.at_.fresh hb) (Kept.fresh hb) d0.1) c.k0 rfl rfl rfl rfl rfl (Kept.fresh hb) (fun g hg => Or.inl hg)) (Kept.fresh hb) (fun g hg => Or.inl hg)
  refine (dreq_any (dr 0) x0.nd q.c q.n q.o q.p q.v q.t (fun W v r w' => COut K rs dr s (reqL s) O w v r w') (fun _ => False) w c.n0.door c.n0.xl id (fun g hg => hg.elim) (fun W hbW => ?_)).mono ?_
  · by_cases e : s.a ≤ s.k0
    · refine (req_again K x0.z x0.nd x0.q x0.bb 250 x0.j x0.u x0.C x0.l x0.bk x0.lm x0.m x0.cc 0 x0.lv x0.L x0.G x0.F x0.D q.c q.n q.o q.p q.v q.t s.a W (c.n0.at_.fresh hbW) r0 hwq hls (by omega) ha1 (fun W2 v w' => ∃ b, v = .slice (some ⟨b, 0, none⟩) 1 1 ∧ onePk en W2 w' b) (fun W2 hb2 => ?_)).mono ?_
      · refine (again_any K x0.z x0.nd x0.q x0.bb 250 x0.j x0.u x0.C x0.l x0.bk x0.lm x0.m x0.cc 0 x0.lv x0.L x0.G x0.F x0.D s.a en W2 ((c.n0.at_.fresh hbW).fresh hb2) ha1 hen (by omega) (by rw [ak0]; omega)).mono ?_
        rintro e' w' ⟨b, rfl, pk, b2⟩
        exact ⟨_, rfl, ⟨b, rfl, pk⟩, b2⟩
      · rintro e' w' ⟨W2, v, hb2, rfl, ⟨b, rfl, pk⟩, hbw⟩
        refine ⟨_, _, rfl, ?_, Kept.fresh hbw⟩
        have hJ : reqL s = [.A s.a] := by unfold reqL; rw [if_pos e]
        rw [hJ]
        have hok := c.n0.at_.book.ens en (List.mem_of_getElem? hen)
        obtain ⟨_, _, hk1, hv1, ht1⟩ := hok
        have ec : en.c = 1 := by rw [← hqc, ← heq]; rfl
        have e_n : en.n = ((s.a : Nat) : Int) := by rw [← hqn', ← heq]; rfl
        have hA1 : PkAt rs (.A s.a) (10 + en.c) (strOfNums (anBytes en.n en.k en.vv en.tt)) := by rw [ec, e_n]; exact ans_at rs s.a _ _ _ (by omega) hk1 hv1 ht1
        exact fin w' _ _ _ (OutAt.one pk.2.1 pk.2.2) (Match.one hA1) (hbW.trans (hbw.mono hbW.size))
    · refine (req_again K x0.z x0.nd x0.q x0.bb 250 x0.j x0.u x0.C x0.l x0.bk x0.lm x0.m x0.cc 0 x0.lv x0.L x0.G x0.F x0.D q.c q.n q.o q.p q.v q.t s.a W (c.n0.at_.fresh hbW) r0 hwq hls (by omega) ha1 (fun W2 v w' => OutAt w' v (fwOut (x0.z.r + 1) x0.L s.k0 (min 4 (x0.L.length - s.k0)))) (fun W2 hb2 => ?_)).mono ?_
      · exact again_fwd K x0.z x0.nd x0.q x0.bb 250 x0.j x0.u x0.C x0.l x0.bk x0.lm x0.m x0.cc 0 x0.lv x0.L x0.G x0.F x0.D s.a s.k0 W2 ((c.n0.at_.fresh hbW).fresh hb2) (by omega) (by omega) ak0 (by omega) (by omega) (c.n0.wholes hr) (by omega)
      · rintro e' w' ⟨W2, v, hb2, rfl, hout, hbw⟩
        refine ⟨_, _, rfl, ?_, Kept.fresh hbw⟩
        have hJ : reqL s = fwdL .F1 s.k0 s.a := by unfold reqL; rw [if_neg e]
        rw [hJ]
        exact fin w' _ _ _ hout (match_fw c.n0 hr .F1 (fun n b q h1 h2 h3 h4 => ⟨rfl, h1, q, h2, h3, h4⟩) s.k0) (hbW.trans (hbw.mono hbW.size))
  · rintro e w' ⟨W, v, r, hb, rfl, hR⟩
    exact ⟨v, r, rfl, hR⟩

theorem Ch.more {K : Nat → Int} {rs : List Rq} {dr : Nat → Nat} {s : PS} {x0 x1 x2 : NP} {w : World} (h : Ch K rs dr s x0 x1 x2 w) (q : Rq) : Ch K (rs ++ [q]) dr s x0 x1 x2 w :=
  ⟨h.n0.more q, h.n1.more q, h.n2.more q, h.k0, h.k1, h.h1, h.h2, h.a01, h.a02, h.a12, h.dd, h.dl⟩
set_option maxHeartbeats 1000000 in
/-- A new request. -/
theorem req_new_chain (K : Nat → Int) (rs : List Rq) (dr : Nat → Nat) (s : PS) (O : Nat → Prop) (i : Nat) (q : Rq) (w : World) (hr : RsOk (rs ++ [q])) (hi : i ≤ 12) (hv : PInv i s) (hc : Cst K rs dr s O w) :
    Calls Tryz.prog 9 #[.pointer (some ⟨dr 0, 0, none⟩), .agg (rqCells q.c q.n q.o q.p q.v q.t).toArray] w fun e w' => ∃ v r, e = .returned (.tuple #[v, r]) ∧ COut K (rs ++ [q]) dr { s with a := s.a + 1 } [.F1 (s.a + 1)] O w v r w' := by
  obtain ⟨hl, x0, x1, x2, c', ho⟩ := hc
  have c := c'.more q
  obtain ⟨v1, v2, v3, v4, v5, v6, v7, v8, v9, v10⟩ := hv
  have r0 := c.n0.role
  have l0 := c.n0.last
  have m0 := c.n0.len_
  have d0 := c.dd 0 (by omega)
  have hq : (rs ++ [q])[s.a]? = some q := by rw [← hl, List.getElem?_append_right (Nat.le_refl _), Nat.sub_self]; rfl
  obtain ⟨hwq, hqc, hqn⟩ := hr.2 _ _ hq
  have hls : lastIs x0.L x0.D q.c ((s.a : Nat) : Int) s.a := by rw [hqc]; exact c.n0.lst
  have own : ∀ g, alOwn x0.q x0.bb x0.j x0.bk x0.lm x0.lv x0.G g → g < w.heap.size := fun g hg => c.n0.at_.lt g (Or.inl hg)
  refine (dreq_any (dr 0) x0.nd q.c q.n q.o q.p q.v q.t (fun W v r w' => Stp K x0 w (lastOut x0.L.length (fun _ => [(x0.z.r + 1, (⟨q.c, q.n, q.o, q.p, q.v, q.t⟩ : Rq).fw ((x0.L.length + 1 : Nat) : Int))])) (Took x0 x0.z q.c q.n q.o q.p q.v q.t) v r w') (alOwn x0.q x0.bb x0.j x0.bk x0.lm x0.lv x0.G) w c.n0.door c.n0.xl (fun e => d0.1 (Or.inl e)) own (fun W hbW => ?_)).mono ?_
  · refine (req_new K x0.z x0.nd x0.q x0.bb 250 x0.j x0.u x0.C x0.l x0.bk x0.lm x0.m x0.cc 0 x0.lv x0.L x0.G x0.F x0.D q.c q.n q.o q.p q.v q.t ((s.a : Nat) : Int) s.a W (c.n0.at_.fresh hbW) r0 hwq hls (by omega) (by omega) (fun W2 v r w' => Below W.heap.size W W2 → (Stp K x0 w (lastOut x0.L.length (fun _ => [(x0.z.r + 1, (⟨q.c, q.n, q.o, q.p, q.v, q.t⟩ : Rq).fw ((x0.L.length + 1 : Nat) : Int))])) (Took x0 x0.z q.c q.n q.o q.p q.v q.t) v r w' ∧ Kept (alOwn x0.q x0.bb x0.j x0.bk x0.lm x0.lv x0.G) W w')) (fun W2 hb2 => ?_)).mono ?_
    · refine (ntake_fwd K x0.z x0.nd x0.q x0.bb 250 x0.j x0.u x0.C x0.l x0.bk x0.lm x0.m x0.cc 0 x0.lv x0.L x0.G x0.F x0.D q.c q.n q.o q.p q.v q.t W2 ((c.n0.at_.fresh hbW).fresh hb2) (by omega) (by omega) (by omega) (by omega) (by have := c.n0.cu; omega) hwq (by omega) (by have := c.n0.cc; omega)).mono ?_
      rintro e w' hp
      have hp' := hp
      obtain ⟨C', l', lv', G', F', k, vv, tt, vs, he, _, _, kk, _⟩ := hp'
      exact ⟨vs, .nilIface, he, fun hbb => ⟨Stp.took he ((Kept.fresh hbW).trans (Kept.fresh (S := x0.own) hbb) (fun _ _ h => h)) hp, (Kept.fresh hbb).trans kk (fun _ _ h => h)⟩⟩
    · rintro e w' ⟨W2, v, r, hb2, rfl, hR⟩
      exact ⟨v, r, rfl, (hR hb2).1, (hR hb2).2⟩
  · rintro e w' ⟨W, v, r, hb, rfl, x', rfl, hout, ha, ht, hnd, k, o⟩
    obtain ⟨k', vv, tt, hlo, hmem⟩ := lastOut_took (out := fun _ => [(x0.z.r + 1, (⟨q.c, q.n, q.o, q.p, q.v, q.t⟩ : Rq).fw ((x0.L.length + 1 : Nat) : Int))]) ht
    rw [hlo] at hout
    refine ⟨v, _, rfl, COut.at0 ho (by rw [List.length_append, List.length_singleton, hl]) hout (Match.one ⟨by omega, by omega, q, by rw [Nat.add_sub_cancel]; exact hq, hwq, by rw [m0]⟩) (c.step0 (s' := { s with a := s.a + 1 }) (c.n0.took hr hq ht ha hnd k d0.1 rfl rfl) (by rw [ht.1]; exact c.k0) rfl rfl rfl rfl rfl k o) k o⟩

/-- What is seen of node k. -/
def logN (s : PS) : Nat → Nat
  | 0 => s.a
  | 1 => s.b
  | _ => s.c
def ackN (s : PS) : Nat → Nat
  | 0 => s.k0
  | 1 => s.k1
  | _ => s.c
theorem see_chain (K : Nat → Int) (rs : List Rq) (dr : Nat → Nat) (s : PS) (O : Nat → Prop) (k : Nat) (w : World) (hr : RsOk rs) (hk : k < 3) (hc : Cst K rs dr s O w) :
    Calls Tryz.prog 10 #[.pointer (some ⟨dr k, 0, none⟩)] w fun e w' => ∃ r : Int, e = .returned (.agg (stG ((logN s k : Nat) : Int) ((ackN s k : Nat) : Int) r ((0 : Nat) : Int)).toArray) ∧ Below w.heap.size w w' := by
  obtain ⟨hl, x0, x1, x2, c, ho⟩ := hc
  have see : ∀ (x : NP) (xn : Nat) (r : Int) (len : Nat) (a : Int), Nok K rs xn r len x w → ackOf x.z x.L.length = a → Calls Tryz.prog 10 #[.pointer (some ⟨xn, 0, none⟩)] w fun e w' => ∃ r : Int, e = .returned (.agg (stG ((len : Nat) : Int) a r ((0 : Nat) : Int)).toArray) ∧ Below w.heap.size w w' := fun x xn r len a hx hak => by
    obtain ⟨es, clock, hm, hsz⟩ := hx.at_.book.recs.map.block
    have h1 := hx.le
    have h2 := hr.1
    have h3 := hx.cc
    have h4 := hx.len_
    have := dsee_any K x.z x.nd x.q x.bb 250 x.j x.u x.C x.l x.bk x.lm x.m x.cc 0 x.lv x.L x.G x.F x.D es clock xn w hx.at_ hx.door hx.xl hm (by omega) (by omega)
    rw [hak, h4] at this
    exact this.mono fun e w' ⟨h, h'⟩ => ⟨_, h, h'⟩
  obtain rfl | rfl | rfl : k = 0 ∨ k = 1 ∨ k = 2 := by omega
  · have r0 := c.n0.role; have l0 := c.n0.last
    exact see x0 _ _ _ _ c.n0 (by unfold ackOf; rw [if_neg (by omega), c.k0]; rfl)
  · have r0 := c.n1.role; have l0 := c.n1.last
    exact see x1 _ _ _ _ c.n1 (by unfold ackOf; rw [if_neg (by omega), c.k1]; rfl)
  · have r0 := c.n2.role; have l0 := c.n2.last
    exact see x2 _ _ _ _ c.n2 (by unfold ackOf; rw [if_pos (by omega), c.n2.len_]; rfl)
end Go.Proofs.YteglimjonofdeaaGreatDoor
