import Derived.Test.YteglimjonofdeaaGreatDoorNPktM
import Derived.Test.YteglimjonofdeaaGreatDoorNVol2M
import Derived.Maps.OwnOps
import Derived.BigQuiet
set_option linter.unusedVariables false
set_option linter.unusedSimpArgs false
namespace Go.Proofs.YteglimjonofdeaaGreatDoor
open Go.RowKit

theorem key_int : Maps.Keyed Tryz.prog 3 := Maps.int_keyed Tryz.underlying3

set_option maxHeartbeats 400000 in
/-- How many entries a book has. -/
theorem bentries_any (b : Nat) (a : Option Addr) (n cap : Nat) (w : World) (h : w.cell? ⟨b, 1, none⟩ = some (.slice a n cap)) :
    Calls Tryz.prog 62 #[.pointer (some ⟨b, 0, none⟩)] w fun e w' => e = .returned (.int .i64 n) ∧ w' = w := by
  go_enter Tryz.func62, Tryz.ntmps62
  go_wp2_with fail
  go_ret
  exact ⟨rfl, rfl⟩

set_option maxHeartbeats 400000 in
theorem bfull_any (b j p n u : Nat) (l : ByteArray) (w : World) (h : w.cell? ⟨b, 0, none⟩ = some (.pointer (some ⟨j, 0, none⟩))) (hl : l.size = 32) (hj : j < w.heap.size) (hJ : w.rangeAt j 0 (jL p n l u)) :
    Calls Tryz.prog 141 #[.pointer (some ⟨b, 0, none⟩)] w fun e w' => e = .returned (.bool (decide (u = n))) ∧ Below w.heap.size w w' := by
  have hf := jfull_any j p n u l w hl hj hJ
  clear hJ
  generalize decide (u = n) = x at hf ⊢
  go_enter Tryz.func141, Tryz.ntmps141
  go_wp2_with fail
  refine hf.mono ?_
  rintro e w1 ⟨rfl, hb⟩
  clear hf
  go_wp2_with fail
  go_ret
  exact ⟨rfl, hb⟩

set_option maxHeartbeats 400000 in
theorem brecords_any (b r : Nat) (es : Array MapEntry) (clock : Nat) (w : World) (h : w.cell? ⟨b, 3, none⟩ = some (.map (some r))) (hr : w.heap[r]? = some (.map es clock)) (hs : es.size < 1000000) :
    Calls Tryz.prog 64 #[.pointer (some ⟨b, 0, none⟩)] w fun e w' => e = .returned (.int .i64 es.size) ∧ w' = w := by
  have hlen : (Builtin.len_ #[175] 3 #[.map (some r)]).run Tryz.prog w = .ok (goInt es.size) w := run_len_map (P := Tryz.prog) (w := w) (t := 175) (ty := 3) (r := r) (es := es) (clock := clock) (by kernel_rfl) hr
  go_enter Tryz.func64, Tryz.ntmps64
  go_wp2_with fail
  go_ret
  exact ⟨rfl, rfl⟩

set_option maxHeartbeats 400000 in
theorem blast_any (b m k : Nat) (D : DataW Unit) (c : Int) (w : World) (h : w.cell? ⟨b, 2, none⟩ = some (.map (some m))) (hm : w.ownsMap Tryz.prog 3 (plainElem Tryz.prog 3) m k D) (hc : 0 ≤ c ∧ c < 1000) :
    Calls Tryz.prog 60 #[.pointer (some ⟨b, 0, none⟩), .int .i64 c] w fun e w' => ∃ x : Int, e = .returned (.int .i64 x) ∧ D.atKey (.int .i64 c) (.lit (.int .i64 0)) = .lit (.int .i64 x) ∧ w' = w := by
  obtain ⟨x, hrun, hat, _⟩ := hm.lookup_int (t := 173) key_int Tryz.underlying173 Tryz.underlying3 (by kernel_rfl) (Maps.keyOf_int_mk Tryz.underlying3 (a := c) (WalkArith.wf_i64 (by omega)))
  go_enter Tryz.func60, Tryz.ntmps60
  go_wp2_with fail
  go_ret
  exact ⟨x, rfl, hat, rfl⟩
theorem alloc_en (w : World) : (Instr.alloc 168 true (.tuple #[])).run Tryz.prog w = .ok (.pointer (some ⟨w.heap.size, 0, none⟩)) (w.alloc (.cells (enCells 0 0 0 0 0 ⟨#[]⟩ 0 0 ⟨#[]⟩).toArray 168)) := by kernel_rfl
theorem info_en : (Tryz.prog.info? 168).map (·.size) = some 9 := by kernel_rfl

set_option maxRecDepth 10000 in
set_option maxHeartbeats 1000000 in
/-- Entry i of a book. -/
theorem bentry_any (b g n cap i : Nat) (L : List Value) (w : World) (hb : b < w.heap.size) (hg : g < w.heap.size) (h : w.cell? ⟨b, 1, none⟩ = some (.slice (some ⟨g, 0, none⟩) n cap)) (hi : 1 ≤ i ∧ i ≤ n) (hn : n < 1000) (hL : L.length = 9) (hr : w.rangeAt g ((i - 1) * 9) L) (h1 : ∀ u ∈ L, u.oneCell' = true) :
    Calls Tryz.prog 95 #[.pointer (some ⟨b, 0, none⟩), .int .i64 i] w fun e w' => e = .returned (.agg L.toArray) ∧ Below w.heap.size w w' := by
  obtain ⟨k, rfl⟩ : ∃ k, i = k + 1 := ⟨i - 1, by omega⟩
  rw [Nat.add_sub_cancel] at hr
  obtain ⟨V, hV⟩ : ∃ V, V = w.alloc (.cells (enCells 0 0 0 0 0 ⟨#[]⟩ 0 0 ⟨#[]⟩).toArray 168) := ⟨_, rfl⟩
  have hVs : V.heap.size = w.heap.size + 1 := by rw [hV]; simp
  have bV : Below w.heap.size w V := by rw [hV]; exact (Below.refl _ _).alloc (Nat.le_refl _) _
  have tV : V.there w.heap.size 0 L.length := by rw [hV, hL]; exact there_new w (enCells 0 0 0 0 0 ⟨#[]⟩ 0 0 ⟨#[]⟩).toArray _
  have cV : V.cell? ⟨b, 1, none⟩ = some (.slice (some ⟨g, 0, none⟩) n cap) := (bV.cell (p := ⟨b, 1, none⟩) hb).trans h
  have rV : V.rangeAt g (k * 9) L := fun x v hv => (bV.cell (p := ⟨g, k * 9 + x, none⟩) hg).trans (hr x v hv)
  have HI : Hid ((Tryz.prog.info? 168).map (·.size) = some L.length) := by show _ = _; rw [hL]; exact info_en
  have HO : Hid (∀ u ∈ L, u.oneCell' = true) := h1
  have HB : Hid (Below w.heap.size w V) := bV
  have k0 : (0 : Int) ≤ (k : Int) := by omega
  have k1 : (k : Int) < (n : Int) := by omega
  have k2 : ((k + 1 : Nat) : Int) - 1 = (k : Int) := by omega
  have k3 : (k : Int) < 1000 := by omega
  clear bV h1 hr h
  go_enter Tryz.func95, Tryz.ntmps95
  go_wp2_with (first
    | (refine wpList_alloc_of rfl 168 rfl (enCells 0 0 0 0 0 ⟨#[]⟩ 0 0 ⟨#[]⟩).toArray alloc_en ?_; rw [← hV]; clear hV)
    | (refine wpList_load_mid rfl 168 _ rfl g (k * 9) rfl L _ rV Tryz.underlying168 rfl HI.out ?_)
    | (refine wpList_store_abs rfl 168 _ _ rfl w.heap.size 0 L rfl rfl tV HI.out HO.out ?_
       intro w5 _hw5 hr5 _ht5 hb5
       clear _hw5 _ht5))
  exact ret_cell rfl w.heap.size 0 L _ rfl hr5 Tryz.underlying168 rfl HI.out rfl ⟨rfl, HB.out.trans (hb5 w.heap.size (Nat.le_refl _))⟩
end Go.Proofs.YteglimjonofdeaaGreatDoor
namespace Go.Proofs.YteglimjonofdeaaGreatDoor
open Go.RowKit Go.ChangeMaps Go.MapKept

open Classical in
/-- A text in a record's map: one of at most eight bytes. -/
noncomputable def txtElem (v : Value) : Option (DataW Unit × List MemPlace) := if ∃ s : ByteArray, s.size ≤ 8 ∧ v = .agg #[.string s] then some (.lit (.bool true), []) else none
open Classical in
/-- A record in the records' map: none, or one of F. -/
noncomputable def ptrElem (F : Nat → Prop) (v : Value) : Option (DataW Unit × List MemPlace) := if v = .pointer none ∨ ∃ r : Nat, F r ∧ v = .pointer (some ⟨r, 0, none⟩) then some (.lit (.bool true), []) else none
theorem txt_of (s : ByteArray) (h : s.size ≤ 8) : txtElem (.agg #[.string s]) = some (.lit (.bool true), []) := if_pos ⟨s, h, rfl⟩
theorem txt_inv {v : Value} (h : (txtElem v).isSome) : ∃ s : ByteArray, s.size ≤ 8 ∧ v = .agg #[.string s] := by
  unfold txtElem at h
  split at h
  · assumption
  · cases h
theorem ptr_nil (F : Nat → Prop) : ptrElem F (.pointer none) = some (.lit (.bool true), []) := if_pos (Or.inl rfl)
theorem ptr_of {F : Nat → Prop} (r : Nat) (h : F r) : ptrElem F (.pointer (some ⟨r, 0, none⟩)) = some (.lit (.bool true), []) := if_pos (Or.inr ⟨r, h, rfl⟩)
theorem ptr_inv {F : Nat → Prop} {v : Value} (h : (ptrElem F v).isSome) : v = .pointer none ∨ ∃ r : Nat, F r ∧ v = .pointer (some ⟨r, 0, none⟩) := by
  unfold ptrElem at h
  split at h
  · assumption
  · cases h
theorem ptr_mono {F F' : Nat → Prop} (h : ∀ r, F r → F' r) (v : Value) (z : DataW Unit × List MemPlace) (hz : ptrElem F v = some z) : ptrElem F' v = some z := by
  have hv := ptr_inv (F := F) (v := v) (by rw [hz]; rfl)
  rcases hv with rfl | ⟨r, hr, rfl⟩
  · rw [ptr_nil] at hz ⊢; exact hz
  · rw [ptr_of r hr] at hz; rw [ptr_of r (h r hr)]; exact hz

/-- A map, by numbers, of what R takes: of n at most. -/
def MapOf (w : World) (R : Value → Option (DataW Unit × List MemPlace)) (b n : Nat) : Prop := ∃ D : DataW Unit, w.ownsMap Tryz.prog 3 R b n D
section
variable {w w' : World} {R : Value → Option (DataW Unit × List MemPlace)} {b n : Nat}
theorem MapOf.block (h : MapOf w R b n) : ∃ es clock, w.heap[b]? = some (.map es clock) ∧ es.size ≤ n := by
  obtain ⟨D, es, clock, hb, _, hn, _⟩ := h
  exact ⟨es, clock, hb, hn⟩
theorem MapOf.lt (h : MapOf w R b n) : b < w.heap.size := by obtain ⟨_, _, hb, _⟩ := h.block; exact block_lt hb
theorem MapOf.mono (h : MapOf w R b n) {n' : Nat} (hn : n ≤ n') : MapOf w R b n' := by obtain ⟨D, h⟩ := h; exact ⟨D, h.mono hn⟩
theorem MapOf.same (h : MapOf w R b n) (hb : w'.heap[b]? = w.heap[b]?) : MapOf w' R b n := by
  obtain ⟨D, es, clock, h1, h2⟩ := h
  exact ⟨D, es, clock, hb.trans h1, h2⟩
theorem MapOf.weak (h : MapOf w R b n) {R' : Value → Option (DataW Unit × List MemPlace)} (hs : ∀ v z, R v = some z → R' v = some z) : MapOf w R' b n := by
  obtain ⟨D, es, clock, h1, F, h2, _⟩ := h
  exact ⟨_, es, clock, h1, (F.stay (R' := R') (fun x _ z hz => hs _ z hz)).1, h2, rfl⟩
theorem MapOf.made (w : World) (R : Value → Option (DataW Unit × List MemPlace)) : MapOf (w.alloc (.map #[] 0)) R w.heap.size 0 := ⟨_, World.ownsMap_made _ _ _ _⟩
theorem MapOf.look (h : MapOf w R b n) {t e : TypeId} (ht : Tryz.prog.underlying t = some (.map 3 e)) {z : Value} (hz : (zeroValue e).run Tryz.prog w = .ok z w) (hR : (R z).isSome) (k : Int) (hk : 0 ≤ k ∧ k < 1000000) :
    ∃ v, (Instr.lookup t (.map (some b)) (.int .i64 k) false).run Tryz.prog w = .ok v w ∧ (R v).isSome := by
  obtain ⟨D, h⟩ := h
  obtain ⟨⟨zd, zp⟩, hzd⟩ := Option.isSome_iff_exists.1 hR
  obtain ⟨v, ps, h1, h2⟩ := h.lookup key_int ht hz hzd (Maps.keyOf_int_mk Tryz.underlying3 (a := k) (WalkArith.wf_i64 (by omega)))
  exact ⟨v, h1, by rw [h2]; rfl⟩
theorem MapOf.store (h : MapOf w R b n) {t e : TypeId} (ht : Tryz.prog.underlying t = some (.map 3 e)) (hn : n < 1000000) (k : Int) (hk : 0 ≤ k ∧ k < 1000000) (v : Value) (hR : (R v).isSome) :
    ∃ w', (Instr.mapUpdate t (.map (some b)) (.int .i64 k) v).run Tryz.prog w = .ok () w' ∧ MapOf w' R b (n + 1) ∧ w.grownBy w' (some b) := by
  obtain ⟨D, h⟩ := h
  obtain ⟨⟨zd, zp⟩, hzd⟩ := Option.isSome_iff_exists.1 hR
  obtain ⟨w', h1, h2, h3⟩ := h.update key_int ht (by unfold maxLen; omega) (Maps.keyOf_int_mk Tryz.underlying3 (a := k) (WalkArith.wf_i64 (by omega))) hzd
  exact ⟨w', h1, ⟨_, h2⟩, h3⟩
theorem MapOf.clear (h : MapOf w R b n) {t e ty : TypeId} (ht : Tryz.prog.underlying t = some (.map 3 e)) :
    ∃ w', (Builtin.clear_ #[t] ty #[.map (some b)]).run Tryz.prog w = .ok (.tuple #[]) w' ∧ MapOf w' R b n ∧ w.grownBy w' (some b) := by
  obtain ⟨D, es, clock, h1, F, h2, _⟩ := h
  refine ⟨setBlock w b (.map #[] clock), ?_, ⟨_, #[], clock, heap_setBlock_same h1 _, ⟨by simp, stamped_empty clock, by simp⟩, Nat.zero_le _, rfl⟩, ⟨rfl, rfl, rfl, by simp [setBlock], fun i _ hi => heap_setBlock_other h1 _ (fun e => hi (by rw [e]))⟩⟩
  simp [Builtin.clear_, run_underlying ht, MapKept.run_getObj_map h1, MapKept.run_setObj_map _ h1, setBlock]
theorem MapOf.noCell (h : MapOf w R b n) (i : Nat) (v : Value) : w.cell? ⟨b, i, none⟩ ≠ some v := by
  obtain ⟨es, clock, hb, _⟩ := h.block
  intro e
  simp [World.cell?, hb] at e
end

/-- A record's cells. -/
def rcL (v : Int) (x : Bool) (mm : Nat) : List Value := [.int .i64 v, .bool x, .map (some mm)]
/-- A record of the records m: its block r, its map of texts within G. -/
def RecAt (w : World) (m c : Nat) (G : Nat → Prop) (r : Nat) : Prop :=
  ∃ (v : Int) (x : Bool) (mm : Nat), 0 ≤ v ∧ v ≤ 8 ∧ w.rangeAt r 0 (rcL v x mm) ∧ w.there r 0 3 ∧ MapOf w txtElem mm c ∧ G mm ∧ mm ≠ m
/-- The records m: all their blocks lie within G; c bounds how many each map has. -/
structure RecsAt (w : World) (m c : Nat) (G : Nat → Prop) (F : Nat → Prop) : Prop where
  map : MapOf w (ptrElem F) m c
  recs : ∀ r, F r → G r ∧ RecAt w m c G r
  inM : G m
  lts : ∀ g, G g → g < w.heap.size
theorem RecAt.cell {w : World} {m c : Nat} {G : Nat → Prop} {r : Nat} (h : RecAt w m c G r) : ∃ v, w.cell? ⟨r, 0, none⟩ = some v := by
  obtain ⟨v, x, mm, _, _, hr, _⟩ := h
  exact ⟨_, hr 0 _ rfl⟩
theorem RecAt.ne {w : World} {m c b n : Nat} {G : Nat → Prop} {r : Nat} {R : Value → Option (DataW Unit × List MemPlace)} (h : RecAt w m c G r) (hb : MapOf w R b n) : r ≠ b := by
  obtain ⟨v, hv⟩ := h.cell
  rintro rfl
  exact hb.noCell 0 v hv
theorem range_same {w w' : World} {b : Nat} {L : List Value} (h : w.rangeAt b 0 L) (hb : w'.heap[b]? = w.heap[b]?) : w'.rangeAt b 0 L := fun i v hv => (World.cell?_of_block (a := ⟨b, 0 + i, none⟩) hb).trans (h i v hv)
theorem RecAt.same {w w' : World} {m c : Nat} {G G' : Nat → Prop} {r c' : Nat} (h : RecAt w m c G r) (hc : c ≤ c') (hG : ∀ g, G g → G' g) (hr : w'.heap[r]? = w.heap[r]?) (hm : ∀ mm, MapOf w txtElem mm c → G mm → mm ≠ m → MapOf w' txtElem mm c') : RecAt w' m c' G' r := by
  obtain ⟨v, x, mm, h1, h2, h3, h4, h5, h6, h7⟩ := h
  exact ⟨v, x, mm, h1, h2, range_same h3 hr, fun i hi => ⟨by rw [World.cell?_of_block (a := ⟨r, 0 + i, none⟩) hr]; exact (h4 i hi).1, (World.frozen?_of_block (a := ⟨r, 0 + i, none⟩) hr).trans (h4 i hi).2⟩, hm mm h5 h6 h7, hG _ h6, h7⟩
theorem RecsAt.kept {w w' : World} {m c : Nat} {G F S : Nat → Prop} (h : RecsAt w m c G F) (hk : Kept S w w') (hn : ∀ g, G g → ¬ S g) : RecsAt w' m c G F := by
  have hb : ∀ g, G g → w'.heap[g]? = w.heap[g]? := fun g hg => hk.block g (h.lts g hg) (hn g hg)
  exact ⟨h.map.same (hb m h.inM), fun r hr => ⟨(h.recs r hr).1, (h.recs r hr).2.same (Nat.le_refl _) (fun _ h => h) (hb r (h.recs r hr).1) (fun mm h1 h2 _ => h1.same (hb mm h2))⟩, h.inM, fun g hg => Nat.lt_of_lt_of_le (h.lts g hg) hk.size⟩
theorem RecsAt.mono {w : World} {m c c' : Nat} {G F : Nat → Prop} (h : RecsAt w m c G F) (hc : c ≤ c') : RecsAt w m c' G F :=
  ⟨h.map.mono hc, fun r hr => ⟨(h.recs r hr).1, (h.recs r hr).2.same hc (fun _ h => h) rfl (fun mm h1 _ _ => h1.mono hc)⟩, h.inM, h.lts⟩
/-- A record's cells are written. -/
theorem RecsAt.wrote {w w' : World} {m c r : Nat} {G F : Nat → Prop} (h : RecsAt w m c G F) (hr : F r) (hk : Kept (· = r) w w') (hn : ∃ (v : Int) (x : Bool) (mm : Nat), 0 ≤ v ∧ v ≤ 8 ∧ w'.rangeAt r 0 (rcL v x mm) ∧ w'.there r 0 3 ∧ MapOf w txtElem mm c ∧ G mm ∧ mm ≠ m) : RecsAt w' m c G F := by
  have hR := (h.recs r hr).2
  have hmaps : ∀ mm, MapOf w txtElem mm c → G mm → mm ≠ m → MapOf w' txtElem mm c := fun mm h1 _ _ => h1.same (hk.block mm h1.lt (fun e => hR.ne h1 e.symm))
  refine ⟨h.map.same (hk.block m h.map.lt (fun e => hR.ne h.map e.symm)), fun r' hr' => ⟨(h.recs r' hr').1, ?_⟩, h.inM, fun g hg => Nat.lt_of_lt_of_le (h.lts g hg) hk.size⟩
  by_cases e : r' = r
  · subst e
    obtain ⟨v, x, mm, h1, h2, h3, h4, h5, h6, h7⟩ := hn
    exact ⟨v, x, mm, h1, h2, h3, h4, hmaps mm h5 h6 h7, h6, h7⟩
  · exact (h.recs r' hr').2.same (Nat.le_refl _) (fun _ h => h) (hk.block r' (h.lts r' (h.recs r' hr').1) e) hmaps
/-- A map of texts is written. -/
theorem RecsAt.texted {w w' : World} {m c mm : Nat} {G F : Nat → Prop} (h : RecsAt w m c G F) (hg : G mm) (hm : mm ≠ m) (h0 : MapOf w txtElem mm c) (hk : Kept (· = mm) w w') (hn : MapOf w' txtElem mm (c + 1)) : RecsAt w' m (c + 1) G F := by
  refine ⟨(h.map.same (hk.block m h.map.lt (fun e => hm e.symm))).mono (by omega), fun r hr => ⟨(h.recs r hr).1, ?_⟩, h.inM, fun g hg => Nat.lt_of_lt_of_le (h.lts g hg) hk.size⟩
  refine (h.recs r hr).2.same (by omega) (fun _ h => h) (hk.block r (h.lts r (h.recs r hr).1) ((h.recs r hr).2.ne h0)) (fun m1 h1 h2 h3 => ?_)
  by_cases e : m1 = mm
  · subst e; exact hn
  · exact (h1.same (hk.block m1 h1.lt e)).mono (by omega)
/-- A new record is laid into the map. -/
theorem RecsAt.made {w w1 w2 : World} {m c r mm : Nat} {G F : Nat → Prop} (h : RecsAt w m c G F) (hk1 : Kept (fun _ => False) w w1) (hr : w.heap.size ≤ r) (hmm : w.heap.size ≤ mm) (hr1 : r < w1.heap.size) (hrr : w1.rangeAt r 0 (rcL 0 false mm)) (ht : w1.there r 0 3) (hM : MapOf w1 txtElem mm 0)
    (hm2 : MapOf w2 (ptrElem (fun x => F x ∨ x = r)) m (c + 1)) (hg2 : w1.grownBy w2 (some m)) : RecsAt w2 m (c + 1) (fun x => G x ∨ x = r ∨ x = mm) (fun x => F x ∨ x = r) := by
  have hml := h.lts m h.inM
  have h1 := h.kept hk1 (fun g _ => id)
  have hb2 : ∀ g, g < w1.heap.size → g ≠ m → w2.heap[g]? = w1.heap[g]? := fun g hg hn => hg2.block g hg (fun e => hn (by simpa using e))
  have hmaps : ∀ a n, MapOf w1 txtElem a n → a ≠ m → n ≤ c + 1 → MapOf w2 txtElem a (c + 1) := fun a n ha hn hl => (ha.same (hb2 a ha.lt hn)).mono hl
  refine ⟨hm2, fun x hx => ?_, Or.inl h.inM, fun g hg => ?_⟩
  · rcases hx with hx | rfl
    · have hxr := h1.recs x hx
      exact ⟨Or.inl hxr.1, hxr.2.same (by omega) (fun _ h => Or.inl h) (hb2 x (h1.lts x hxr.1) (hxr.2.ne h1.map)) (fun a ha _ hn => hmaps a c ha hn (by omega))⟩
    · have e2 := hb2 x hr1 (by omega)
      exact ⟨Or.inr (Or.inl rfl), 0, false, mm, by omega, by omega, range_same hrr e2, fun i hi => ⟨by rw [World.cell?_of_block (a := ⟨x, 0 + i, none⟩) e2]; exact (ht i hi).1, (World.frozen?_of_block (a := ⟨x, 0 + i, none⟩) e2).trans (ht i hi).2⟩, hmaps mm 0 hM (by omega) (by omega), Or.inr (Or.inr rfl), by omega⟩
  · have hs2 := hg2.size
    rcases hg with hg | rfl | rfl
    · have := h1.lts g hg; omega
    · omega
    · have := hM.lt; omega
/-- What a deed leaves: an answer whose parts are small, and records. -/
def deedPost (m c : Nat) (G F : Nat → Prop) (w : World) (e : Ending) (w' : World) : Prop :=
  ∃ (k v : Int) (t : ByteArray) (G' F' : Nat → Prop), e = .returned (.agg (anCells k v t).toArray) ∧ (0 ≤ k ∧ k < 6) ∧ (0 ≤ v ∧ v < 9) ∧ t.size ≤ 8 ∧ RecsAt w' m (c + 2) G' F' ∧ Kept G w w' ∧ (∀ g, G' g → G g ∨ w.heap.size ≤ g)
end Go.Proofs.YteglimjonofdeaaGreatDoor
namespace Go.Proofs.YteglimjonofdeaaGreatDoor
open Go.RowKit

theorem zero_rp (w : World) : (zeroValue 281).run Tryz.prog w = .ok (.pointer none) w := by kernel_rfl
theorem zero_tx (w : World) : (zeroValue 290).run Tryz.prog w = .ok (.agg #[.string ⟨#[]⟩]) w := by kernel_rfl
/-- What find tells. -/
def findPost (F : Nat → Prop) (w : World) (e : Ending) (w' : World) : Prop :=
  w' = w ∧ (e = .returned (.tuple #[.pointer none, .int .i64 1]) ∨ ∃ (r : Nat) (k : Int), F r ∧ (k = 4 ∨ k = 0) ∧ e = .returned (.tuple #[.pointer (some ⟨r, 0, none⟩), .int .i64 k]))
set_option maxRecDepth 10000 in
set_option maxHeartbeats 1000000 in
theorem find_any (m c : Nat) (G F : Nat → Prop) (p : Int) (w : World) (h : RecsAt w m c G F) (hp : 0 ≤ p ∧ p < 1000) :
    Calls Tryz.prog 188 #[.map (some m), .int .i64 p] w (findPost F w) := by
  obtain ⟨v, hrun, hv⟩ := h.map.look (t := 175) (e := 281) Tryz.underlying175 (zero_rp w) (by rw [ptr_nil]; rfl) p (by omega)
  rcases ptr_inv hv with rfl | ⟨r, hr, rfl⟩
  · clear hv h
    go_enter Tryz.func188, Tryz.ntmps188
    go_wp2_with fail
    go_ret2
    exact ⟨rfl, Or.inl rfl⟩
  · obtain ⟨v, x, mm, h1, h2, h3, h4, h5, h6, h7⟩ := (h.recs r hr).2
    have cx : w.cell? ⟨r, 1, none⟩ = some (.bool x) := h3 1 _ rfl
    clear hv h h3 h4 h5
    cases x
    · go_enter Tryz.func188, Tryz.ntmps188
      go_wp2_with fail
      go_ret2
      exact ⟨rfl, Or.inr ⟨r, 0, hr, Or.inr rfl, rfl⟩⟩
    · go_enter Tryz.func188, Tryz.ntmps188
      go_wp2_with fail
      go_ret2
      exact ⟨rfl, Or.inr ⟨r, 4, hr, Or.inl rfl, rfl⟩⟩
theorem tx_built (s : ByteArray) : Tryz.prog.built 290 [(0, .string s)] = some #[.string s] := by kernel_rfl
set_option maxRecDepth 10000 in
set_option maxHeartbeats 2000000 in
/-- One more version. -/
theorem radd_any (m c r : Nat) (G F : Nat → Prop) (v : Int) (s : ByteArray) (w : World) (h : RecsAt w m c G F) (hr : F r) (hv : w.cell? ⟨r, 0, none⟩ = some (.int .i64 v)) (hv0 : 0 ≤ v ∧ v ≤ 7) (hs : s.size ≤ 8) (hc : c < 1000) :
    Calls Tryz.prog 187 #[.pointer (some ⟨r, 0, none⟩), .string s] w (fun e w' => e = .returned (.agg (anCells 0 (v + 1) ⟨#[]⟩).toArray) ∧ RecsAt w' m (c + 1) G F ∧ Kept G w w') := by
  obtain ⟨v0, v7⟩ := hv0
  obtain ⟨v', x, mm, h1, h2, h3, h4, h5, h6, h7⟩ := (h.recs r hr).2
  have hGr := (h.recs r hr).1
  have hrl := h.lts r hGr
  obtain rfl : v' = v := by
    have := (h3 0 _ rfl).symm.trans hv
    simpa using this
  have hne : r ≠ mm := (h.recs r hr).2.ne h5
  have hml := h5.lt
  obtain ⟨V, hV⟩ : ∃ V, V = w.alloc (.cells (anCells 0 0 ⟨#[]⟩).toArray 166) := ⟨_, rfl⟩
  have hVs : V.heap.size = w.heap.size + 1 := by rw [hV]; simp
  have bV : Below w.heap.size w V := by rw [hV]; exact (Below.refl _ _).alloc (Nat.le_refl _) _
  have kV : Kept (fun _ => False) w V := Kept.fresh bV
  have tV : V.there w.heap.size 0 3 := by rw [hV]; exact there_new w (anCells 0 0 ⟨#[]⟩).toArray _
  have RV := h.kept kV (fun g _ => id)
  have c0 : V.cell? ⟨r, 0, none⟩ = some (.int .i64 v') := (kV.cell (a := ⟨r, 0, none⟩) hrl id).trans (h3 0 _ rfl)
  have f0 : V.frozen? ⟨r, 0, none⟩ = false := (kV.frozen (a := ⟨r, 0, none⟩) hrl id).trans (h4 0 (by omega)).2
  -- the number is written
  obtain ⟨U, hU⟩ : ∃ U, U = V.setCell ⟨r, 0, none⟩ (.int .i64 (v' + 1)) := ⟨_, rfl⟩
  have kU : Kept (· = r) V U := by rw [hU]; exact Kept.setCell _ _ _ (Or.inl rfl)
  have hUs : U.heap.size = w.heap.size + 1 := by rw [hU]; simp; omega
  have rV : V.rangeAt r 0 (rcL v' x mm) := range_kept h3 kV hrl id
  have thV : V.there r 0 3 := there_kept h4 kV hrl id
  have rU : U.rangeAt r 0 (rcL (v' + 1) x mm) := by
    rw [hU]
    intro i u hu
    match i, hu with
    | 0, hu => rw [show r = r from rfl]; exact (World.cell?_setCell_same _ ⟨r, 0, none⟩ _ (u := .int .i64 v') c0).trans hu
    | 1, hu => rw [World.cell?_setCell_other _ _ _ _ (by intro e; have := congrArg Addr.off e; simp at this)]; exact rV 1 _ hu
    | 2, hu => rw [World.cell?_setCell_other _ _ _ _ (by intro e; have := congrArg Addr.off e; simp at this)]; exact rV 2 _ hu
    | i + 3, hu => cases hu
  have thU : U.there r 0 3 := by
    rw [hU]
    exact World.there_setCells thV r 0 [.int .i64 (v' + 1)]
  have m5 : MapOf V txtElem mm c := h5.same (kV.block mm hml id)
  have RU : RecsAt U m c G F := RV.wrote hr kU ⟨v' + 1, x, mm, by omega, by omega, rU, thU, m5, h6, h7⟩
  have mU : MapOf U txtElem mm c := m5.same (kU.block mm m5.lt (fun e => hne e.symm))
  have tU : U.there w.heap.size 0 3 := there_kept tV kU (by omega) (by show ¬ w.heap.size = r; omega)
  have J0 : U.drew.cell? ⟨r, 0, none⟩ = some (.int .i64 (v' + 1)) ∧ U.drew.cell? ⟨r, 2, none⟩ = some (.map (some mm)) := ⟨rU 0 _ rfl, rU 2 _ rfl⟩
  obtain ⟨X, hrun, mX, gX⟩ := (show MapOf U.drew txtElem mm c from mU).store (t := 282) (e := 290) Tryz.underlying282 (by omega) (v' + 1) (by omega) (.agg #[.string s]) (by rw [txt_of s hs]; rfl)
  have kX : Kept (· = mm) U.drew X := Kept.grown gX (fun k e => Or.inl (by simpa using e.symm))
  have kX' : Kept (· = mm) U X := (Kept.drew (· = mm) U).trans kX (fun _ _ h => h)
  have RX : RecsAt X m (c + 1) G F := RU.texted h6 h7 mU kX' mX
  have hXs : w.heap.size + 1 ≤ X.heap.size := by have := kX'.size; omega
  have kwX : Kept G w X := ((kV.mono (fun _ _ h => h.elim)).trans kU (fun g _ e => by subst e; exact hGr)).trans kX' (fun g _ e => by subst e; exact h6)
  have tX : X.there w.heap.size 0 3 := there_kept tU kX' (by omega) (by show ¬ w.heap.size = mm; omega)
  have J3 : X.cell? ⟨r, 0, none⟩ = some (.int .i64 (v' + 1)) ∧ X.cell? ⟨r, 2, none⟩ = some (.map (some mm)) := ⟨(kX.cell (a := ⟨r, 0, none⟩) (by show r < U.heap.size; omega) hne).trans J0.1, (kX.cell (a := ⟨r, 2, none⟩) (by show r < U.heap.size; omega) hne).trans J0.2⟩
  have htold := rtold_any r 0 (v' + 1) X (by omega) J3.1
  have HR : Hid (RecsAt X m (c + 1) G F) := RX
  have HK : Hid (Kept G w X) := kwX
  have HT : Hid (X.there w.heap.size 0 3) := tX
  have HG : Hid (∀ g, G g → g < w.heap.size) := h.lts
  have hbt := tx_built s
  have hi1 : v' + 1 ≤ 8 := by omega
  clear h h3 h4 h5 bV kV tV RV kU rV thV rU thU m5 RU mU tU mX gX kX kX' RX kwX tX hv
  go_enter Tryz.func187, Tryz.ntmps187
  go_wp2_with (first
    | (refine wpList_alloc_of rfl 166 rfl (anCells 0 0 ⟨#[]⟩).toArray alloc_an ?_; rw [← hV]; clear hV))
  rw [← hU]
  clear hU
  refine wp_region_noPanic ?_
  refine wp_region_held_drew (S := fun W => W.cell? ⟨r, 0, none⟩ = some (.int .i64 (v' + 1)) ∧ W.cell? ⟨r, 2, none⟩ = some (.map (some mm))) (by kernel_rfl) J0 (fun _ => ?_)
  refine tk 0 J0 ?_
  refine tk 1 J0 ?_
  refine tk 2 J0 ?_
  refine tq (i := 3) (v := ?_) rfl J0 ?_ ?_
  rotate_left 1
  · intro W hSW; have qc : W.cell? ⟨r, 2, none⟩ = some (.map (some mm)) := hSW.2; clear hSW; go_simp; try with_reducible rfl
  simp only [qA, qB, qC, Act.put, qD, qE, qF]
  refine tk 4 J0 ?_
  refine tk 5 J0 ?_
  refine tk 6 J0 ?_
  refine tq (i := 7) (v := ?_) rfl J0 ?_ ?_
  rotate_left 1
  · intro W hSW; have qc : W.cell? ⟨r, 0, none⟩ = some (.int .i64 (v' + 1)) := hSW.1; clear hSW; go_simp; try with_reducible rfl
  simp only [qA, qB, qC, Act.put, qD, qE, qF]
  refine tk 8 J0 ?_
  refine tk 9 J0 ?_
  refine rk 10 (fun K' hK' => ?_)
  go_simp
  refine hK'.out _ _ J3 (fun _ => ?_)
  clear hK' K'
  try simp only [qA, qB, qC, Act.put, qD, qE, qF]
  refine ⟨by kernel_rfl, ?_⟩
  refine NoPanic.normal ?_
  try simp only [qA, qB, qC, Act.put, qD, qE, qF]
  clear hrun J0
  go_wp2_with fail
  refine htold.mono ?_
  rintro e Y ⟨rfl, hbY⟩
  have tY : Y.there w.heap.size 0 (anCells 0 (v' + 1) ⟨#[]⟩).length := there_below hbY (by omega) HT.out
  have RY : Hid (RecsAt Y m (c + 1) G F) := HR.out.kept (Kept.fresh (S := fun _ => False) hbY) (fun g _ => id)
  have KY : Hid (Kept G w Y) := HK.out.trans (Kept.fresh (S := G) hbY) (fun _ _ h => h)
  have HI := info_an 0 (v' + 1) ⟨#[]⟩
  have HO := an_one 0 (v' + 1) ⟨#[]⟩
  clear htold
  go_wp2_with (first
    | (refine wpList_store_abs rfl 166 _ _ rfl w.heap.size 0 (anCells 0 (v' + 1) ⟨#[]⟩) rfl rfl tY HI HO ?_
       intro w5 hw5 hr5 _ht5 hb5
       have kz : Hid (Kept (fun g => g = w.heap.size) Y w5) := (by show Kept _ _ _; rw [hw5]; exact Kept.setCells _ _ _ _ (Or.inl rfl))
       clear hw5 _ht5))
  exact ret_cell rfl w.heap.size 0 (anCells 0 (v' + 1) ⟨#[]⟩) _ rfl hr5 Tryz.underlying166 rfl HI rfl ⟨rfl, RY.out.kept kz.out (fun g hg e => by have := HG.out g hg; omega), KY.out.trans kz.out (fun g hg e => by omega)⟩
theorem an_built1 (k : Int) : Tryz.prog.built 166 [(0, .int .i64 k)] = some (anCells k 0 ⟨#[]⟩).toArray := by kernel_rfl
theorem an_built3 (k v : Int) (t : ByteArray) : Tryz.prog.built 166 [(0, .int .i64 k), (1, .int .i64 v), (2, .string t)] = some (anCells k v t).toArray := by kernel_rfl
theorem deed_head {w U V : World} {c n o p v : Int} {t : ByteArray} (hU : U = w.alloc (.cells (rqCells c n o p v t).toArray 29)) (hV : V = U.alloc (.cells (anCells 0 0 ⟨#[]⟩).toArray 166)) :
    U.heap.size = w.heap.size + 1 ∧ V.heap.size = w.heap.size + 2 ∧ Kept (fun _ => False) w V ∧ V.rangeAt w.heap.size 0 (rqCells c n o p v t) ∧ V.there (w.heap.size + 1) 0 3 := by
  have hUs : U.heap.size = w.heap.size + 1 := by rw [hU]; simp
  have bU : Below w.heap.size w U := by rw [hU]; exact (Below.refl _ _).alloc (Nat.le_refl _) _
  have bV : Below U.heap.size U V := by rw [hV]; exact (Below.refl _ _).alloc (Nat.le_refl _) _
  have rU : U.rangeAt w.heap.size 0 (rqCells c n o p v t) := by rw [hU]; exact range_new _ _ _
  refine ⟨hUs, by rw [hV]; simp; omega, Kept.fresh (bU.trans (bV.mono (by omega))), fun i u hu => (bV.cell (p := ⟨w.heap.size, 0 + i, none⟩) (by show w.heap.size < _; omega)).trans (rU i u hu), ?_⟩
  have := there_new U (anCells 0 0 ⟨#[]⟩).toArray 166
  rw [← hV, hUs] at this
  exact this
theorem deed_end2 {m cc : Nat} {G F G' F' : Nat → Prop} {w Y w5 : World} {k v : Int} {t : ByteArray} (R : RecsAt Y m (cc + 2) G' F') (hK : Kept G w Y) (hG : ∀ g, G' g → G g ∨ w.heap.size + 2 ≤ g) (hl : ∀ g, G g → g < w.heap.size) (hk : 0 ≤ k ∧ k < 6) (hv : 0 ≤ v ∧ v < 9) (ht : t.size ≤ 8)
    {cs : List Value} (h5 : w5 = Y.setCells (w.heap.size + 1) 0 cs) : deedPost m cc G F w (.returned (.agg (anCells k v t).toArray)) w5 := by
  have kz : Kept (fun g => g = w.heap.size + 1) Y w5 := by rw [h5]; exact Kept.setCells _ _ _ _ (Or.inl rfl)
  exact ⟨k, v, t, G', F', rfl, hk, hv, ht, R.kept kz (fun g hg e => by rcases hG g hg with h | h; have := hl g h; omega; omega), hK.trans kz (fun g hg e => by omega), fun g hg => (hG g hg).imp id (fun h => by omega)⟩
theorem deed_end {m cc : Nat} {G F G' F' : Nat → Prop} {w Y w5 : World} {k v : Int} {t : ByteArray} (R : RecsAt Y m (cc + 1) G' F') (hK : Kept G w Y) (hG : ∀ g, G' g → G g ∨ w.heap.size + 2 ≤ g) (hl : ∀ g, G g → g < w.heap.size) (hk : 0 ≤ k ∧ k < 6) (hv : 0 ≤ v ∧ v < 9) (ht : t.size ≤ 8)
    {cs : List Value} (h5 : w5 = Y.setCells (w.heap.size + 1) 0 cs) : deedPost m cc G F w (.returned (.agg (anCells k v t).toArray)) w5 := deed_end2 (R.mono (by omega)) hK hG hl hk hv ht h5

set_option maxRecDepth 10000 in
set_option maxHeartbeats 2000000 in
theorem hist_any (m cc : Nat) (G F : Nat → Prop) (c n o p v : Int) (t : ByteArray) (w : World) (h : RecsAt w m cc G F) (hp : 0 ≤ p ∧ p < 1000) (hv : 0 ≤ v ∧ v ≤ 8) (ht : t.size ≤ 8) (hc : cc < 900) :
    Calls Tryz.prog 185 #[.map (some m), .agg (rqCells c n o p v t).toArray] w (deedPost m cc G F w) := by
  obtain ⟨U, hU⟩ : ∃ U, U = w.alloc (.cells (rqCells c n o p v t).toArray 29) := ⟨_, rfl⟩
  obtain ⟨V, hV⟩ : ∃ V, V = U.alloc (.cells (anCells 0 0 ⟨#[]⟩).toArray 166) := ⟨_, rfl⟩
  obtain ⟨hUs, hVs, kV, rV, tV⟩ := deed_head hU hV
  have RV := h.kept kV (fun g _ => id)
  have hf := find_any m cc G F p V RV hp
  have c3 : V.cell? ⟨w.heap.size, 3, none⟩ = some (.int .i64 p) := rV 3 _ rfl
  have c4 : V.cell? ⟨w.heap.size, 4, none⟩ = some (.int .i64 v) := rV 4 _ rfl
  have c5 : V.cell? ⟨w.heap.size, 5, none⟩ = some (.string t) := rV 5 _ rfl
  have HL : Hid (∀ g, G g → g < w.heap.size) := h.lts
  have HKV : Hid (Kept (fun _ => False) w V) := kV
  have HT : Hid (V.there (w.heap.size + 1) 0 3) := tV
  have HR : Hid (RecsAt V m cc G F) := RV
  obtain ⟨v0, v8⟩ := hv
  clear h kV tV RV rV
  go_enter Tryz.func185, Tryz.ntmps185
  unfold rqCells at hU
  unfold rqCells
  go_wp2_with (first
    | (rw [← hU]; clear hU)
    | (refine wpList_alloc_of rfl 166 rfl (anCells 0 0 ⟨#[]⟩).toArray alloc_an ?_; rw [← hV]; clear hV))
  refine hf.mono ?_
  rintro e V' ⟨hVV, hcase⟩
  obtain rfl : V = V' := hVV.symm
  clear hVV hf
  rcases hcase with rfl | ⟨r, k, hr, hk, rfl⟩
  · have HI := info_an 1 0 ⟨#[]⟩
    have HO := an_one 1 0 ⟨#[]⟩
    have hT : V.there (w.heap.size + 1) 0 (anCells 1 0 ⟨#[]⟩).length := HT.out
    go_wp2_with (first
      | (refine wpList_build_tm rfl 166 _ rfl _ (Eq.trans (congrArg (Tryz.prog.built _) (by simp [Act.eval])) (an_built1 1)) ?_)
      | (refine wpList_store_abs rfl 166 _ _ rfl (w.heap.size + 1) 0 (anCells 1 0 ⟨#[]⟩) rfl rfl hT HI HO ?_
         intro w5 hw5 hr5 _ht5 hb5
         clear _ht5))
    exact ret_cell rfl (w.heap.size + 1) 0 (anCells 1 0 ⟨#[]⟩) _ rfl hr5 Tryz.underlying166 rfl HI rfl (deed_end (HR.out.mono (by omega)) (HKV.out.mono (fun _ _ h => h.elim)) (fun g hg => Or.inl hg) HL.out (by omega) (by omega) (by decide) hw5)
  · obtain ⟨vv, x, mm, h1, h2, h3, h4, h5, h6, h7⟩ := (HR.out.recs r hr).2
    have hGr := (HR.out.recs r hr).1
    have hrl : r < V.heap.size := HR.out.lts r hGr
    have cv : V.cell? ⟨r, 0, none⟩ = some (.int .i64 vv) := h3 0 _ rfl
    have hk2 : 0 ≤ k ∧ k < 6 := by omega
    clear hk h3 h4 h5
    go_wp2_with fail
    refine (rtold_any r k vv V (by omega) cv).mono ?_
    rintro e Y ⟨rfl, hbY⟩
    have HKY : Hid (Kept G w Y) := (HKV.out.mono (fun _ _ h => h.elim)).trans (Kept.fresh (S := G) hbY) (fun _ _ h => h)
    have HRY : Hid (RecsAt Y m (cc + 1) G F) := (HR.out.mono (by omega)).kept (Kept.fresh (S := fun _ => False) hbY) (fun g _ => id)
    have HTY : Hid (Y.there (w.heap.size + 1) 0 3) := there_below hbY (by omega) (HT.out)
    clear hbY
    have HI := info_an k vv ⟨#[]⟩
    have HO := an_one k vv ⟨#[]⟩
    have hT : Y.there (w.heap.size + 1) 0 (anCells k vv ⟨#[]⟩).length := HTY.out
    go_wp2_with (first
      | (refine wpList_build_tm rfl 166 _ rfl _ (Eq.trans (congrArg (Tryz.prog.built _) (by simp [Act.eval])) (an_built1 k)) ?_)
      | (refine wpList_store_abs rfl 166 _ _ rfl (w.heap.size + 1) 0 (anCells k vv ⟨#[]⟩) rfl rfl hT HI HO ?_
         intro w5 hw5 hr5 _ht5 hb5
         clear _ht5))
    exact ret_cell rfl (w.heap.size + 1) 0 (anCells k vv ⟨#[]⟩) _ rfl hr5 Tryz.underlying166 rfl HI rfl (deed_end (HRY.out) (HKY.out) (fun g hg => Or.inl hg) HL.out (by omega) (by omega) (by decide) hw5)

set_option maxRecDepth 10000 in
set_option maxHeartbeats 2000000 in
theorem redact_any (m cc : Nat) (G F : Nat → Prop) (c n o p v : Int) (t : ByteArray) (w : World) (h : RecsAt w m cc G F) (hp : 0 ≤ p ∧ p < 1000) (hv : 0 ≤ v ∧ v ≤ 8) (ht : t.size ≤ 8) (hc : cc < 900) :
    Calls Tryz.prog 184 #[.map (some m), .agg (rqCells c n o p v t).toArray] w (deedPost m cc G F w) := by
  obtain ⟨U, hU⟩ : ∃ U, U = w.alloc (.cells (rqCells c n o p v t).toArray 29) := ⟨_, rfl⟩
  obtain ⟨V, hV⟩ : ∃ V, V = U.alloc (.cells (anCells 0 0 ⟨#[]⟩).toArray 166) := ⟨_, rfl⟩
  obtain ⟨hUs, hVs, kV, rV, tV⟩ := deed_head hU hV
  have RV := h.kept kV (fun g _ => id)
  have hf := find_any m cc G F p V RV hp
  have c3 : V.cell? ⟨w.heap.size, 3, none⟩ = some (.int .i64 p) := rV 3 _ rfl
  have c4 : V.cell? ⟨w.heap.size, 4, none⟩ = some (.int .i64 v) := rV 4 _ rfl
  have c5 : V.cell? ⟨w.heap.size, 5, none⟩ = some (.string t) := rV 5 _ rfl
  have HL : Hid (∀ g, G g → g < w.heap.size) := h.lts
  have HKV : Hid (Kept (fun _ => False) w V) := kV
  have HT : Hid (V.there (w.heap.size + 1) 0 3) := tV
  have HR : Hid (RecsAt V m cc G F) := RV
  obtain ⟨v0, v8⟩ := hv
  clear h kV tV RV rV
  go_enter Tryz.func184, Tryz.ntmps184
  unfold rqCells at hU
  unfold rqCells
  go_wp2_with (first
    | (rw [← hU]; clear hU)
    | (refine wpList_alloc_of rfl 166 rfl (anCells 0 0 ⟨#[]⟩).toArray alloc_an ?_; rw [← hV]; clear hV))
  refine hf.mono ?_
  rintro e V' ⟨hVV, hcase⟩
  obtain rfl : V = V' := hVV.symm
  clear hVV hf
  rcases hcase with rfl | ⟨r, k, hr, hk, rfl⟩
  · have HI := info_an 1 0 ⟨#[]⟩
    have HO := an_one 1 0 ⟨#[]⟩
    have hT : V.there (w.heap.size + 1) 0 (anCells 1 0 ⟨#[]⟩).length := HT.out
    go_wp2_with (first
      | (refine wpList_build_tm rfl 166 _ rfl _ (Eq.trans (congrArg (Tryz.prog.built _) (by simp [Act.eval])) (an_built1 1)) ?_)
      | (refine wpList_store_abs rfl 166 _ _ rfl (w.heap.size + 1) 0 (anCells 1 0 ⟨#[]⟩) rfl rfl hT HI HO ?_
         intro w5 hw5 hr5 _ht5 hb5
         clear _ht5))
    exact ret_cell rfl (w.heap.size + 1) 0 (anCells 1 0 ⟨#[]⟩) _ rfl hr5 Tryz.underlying166 rfl HI rfl (deed_end (HR.out.mono (by omega)) (HKV.out.mono (fun _ _ h => h.elim)) (fun g hg => Or.inl hg) HL.out (by omega) (by omega) (by decide) hw5)
  rcases hk with rfl | rfl
  · have HI := info_an 4 0 ⟨#[]⟩
    have HO := an_one 4 0 ⟨#[]⟩
    have hT : V.there (w.heap.size + 1) 0 (anCells 4 0 ⟨#[]⟩).length := HT.out
    go_wp2_with (first
      | (refine wpList_build_tm rfl 166 _ rfl _ (Eq.trans (congrArg (Tryz.prog.built _) (by simp [Act.eval])) (an_built1 4)) ?_)
      | (refine wpList_store_abs rfl 166 _ _ rfl (w.heap.size + 1) 0 (anCells 4 0 ⟨#[]⟩) rfl rfl hT HI HO ?_
         intro w5 hw5 hr5 _ht5 hb5
         clear _ht5))
    exact ret_cell rfl (w.heap.size + 1) 0 (anCells 4 0 ⟨#[]⟩) _ rfl hr5 Tryz.underlying166 rfl HI rfl (deed_end (HR.out.mono (by omega)) (HKV.out.mono (fun _ _ h => h.elim)) (fun g hg => Or.inl hg) HL.out (by omega) (by omega) (by decide) hw5)
  · obtain ⟨vv, x, mm, h1, h2, h3, h4, h5, h6, h7⟩ := (HR.out.recs r hr).2
    have hGr := (HR.out.recs r hr).1
    have hrl : r < V.heap.size := HR.out.lts r hGr
    have cv : V.cell? ⟨r, 0, none⟩ = some (.int .i64 vv) := h3 0 _ rfl
    have hne : r ≠ mm := (HR.out.recs r hr).2.ne h5
    have cm : V.cell? ⟨r, 2, none⟩ = some (.map (some mm)) := h3 2 _ rfl
    have cx : V.cell? ⟨r, 1, none⟩ = some (.bool x) := h3 1 _ rfl
    have fx : V.frozen? ⟨r, 1, none⟩ = false := (h4 1 (by omega)).2
    obtain ⟨X, hX⟩ : ∃ X, X = V.setCell ⟨r, 1, none⟩ (.bool true) := ⟨_, rfl⟩
    have kX : Kept (· = r) V X := by rw [hX]; exact Kept.setCell _ _ _ (Or.inl rfl)
    have hXs : X.heap.size = w.heap.size + 2 := by rw [hX]; simp; omega
    have rX : X.rangeAt r 0 (rcL vv true mm) := by
      rw [hX]
      intro i u hu
      match i, hu with
      | 0, hu => rw [World.cell?_setCell_other _ _ _ _ (by intro e; have := congrArg Addr.off e; simp at this)]; exact h3 0 _ hu
      | 1, hu => exact (World.cell?_setCell_same _ ⟨r, 1, none⟩ _ (u := .bool x) cx).trans hu
      | 2, hu => rw [World.cell?_setCell_other _ _ _ _ (by intro e; have := congrArg Addr.off e; simp at this)]; exact h3 2 _ hu
      | i + 3, hu => cases hu
    have thX : X.there r 0 3 := by
      rw [hX]
      exact World.there_setCells h4 r 1 [.bool true]
    have RX : RecsAt X m cc G F := HR.out.wrote hr kX ⟨vv, true, mm, by omega, by omega, rX, thX, h5, h6, h7⟩
    have mX : MapOf X txtElem mm cc := h5.same (kX.block mm h5.lt (fun e => hne e.symm))
    have xm : X.cell? ⟨r, 2, none⟩ = some (.map (some mm)) := rX 2 _ rfl
    obtain ⟨Z, hrun, mZ, gZ⟩ := mX.clear (t := 282) (e := 290) (ty := 0) Tryz.underlying282
    have kZ : Kept (· = mm) X Z := Kept.grown gZ (fun k e => Or.inl (by simpa using e.symm))
    have RZ : Hid (RecsAt Z m (cc + 1) G F) := RX.texted h6 h7 mX kZ (mZ.mono (by omega))
    have KZ : Hid (Kept G w Z) := ((HKV.out.mono (fun _ _ h => h.elim)).trans kX (fun g _ e => by subst e; exact hGr)).trans kZ (fun g _ e => by subst e; exact h6)
    have hrw := HL.out r hGr
    have hmw := HL.out mm h6
    have TZ : Hid (Z.there (w.heap.size + 1) 0 3) := there_kept (there_kept HT.out kX (by omega) (by show ¬ w.heap.size + 1 = r; omega)) kZ (by omega) (by show ¬ w.heap.size + 1 = mm; omega)
    have hZs : w.heap.size + 2 ≤ Z.heap.size := by have := kZ.size; omega
    have czv : Z.cell? ⟨r, 0, none⟩ = some (.int .i64 vv) := (kZ.cell (a := ⟨r, 0, none⟩) (by show r < X.heap.size; omega) hne).trans (rX 0 _ rfl)
    clear h3 h4 h5 kX rX thX RX mX mZ gZ kZ cv
    go_wp2_with (rw [← hX]; clear hX)
    have cv := czv
    refine (rtold_any r 0 vv Z (by omega) cv).mono ?_
    rintro e Y ⟨rfl, hbY⟩
    have HKY : Hid (Kept G w Y) := (KZ.out).trans (Kept.fresh (S := G) hbY) (fun _ _ h => h)
    have HRY : Hid (RecsAt Y m (cc + 1) G F) := (RZ.out).kept (Kept.fresh (S := fun _ => False) hbY) (fun g _ => id)
    have HTY : Hid (Y.there (w.heap.size + 1) 0 3) := there_below hbY (by omega) (TZ.out)
    clear hbY
    have HI := info_an 0 vv ⟨#[]⟩
    have HO := an_one 0 vv ⟨#[]⟩
    have hT : Y.there (w.heap.size + 1) 0 (anCells 0 vv ⟨#[]⟩).length := HTY.out
    go_wp2_with (first
      | (refine wpList_build_tm rfl 166 _ rfl _ (Eq.trans (congrArg (Tryz.prog.built _) (by simp [Act.eval])) (an_built1 0)) ?_)
      | (refine wpList_store_abs rfl 166 _ _ rfl (w.heap.size + 1) 0 (anCells 0 vv ⟨#[]⟩) rfl rfl hT HI HO ?_
         intro w5 hw5 hr5 _ht5 hb5
         clear _ht5))
    exact ret_cell rfl (w.heap.size + 1) 0 (anCells 0 vv ⟨#[]⟩) _ rfl hr5 Tryz.underlying166 rfl HI rfl (deed_end (HRY.out) (HKY.out) (fun g hg => Or.inl hg) HL.out (by omega) (by omega) (by decide) hw5)
theorem tx_field (s : ByteArray) (w : World) : (Instr.field 290 (.agg #[.string s]) 0).run Tryz.prog w = .ok (.string s) w := by kernel_rfl

set_option maxRecDepth 10000 in
set_option maxHeartbeats 2000000 in
theorem amend_any (m cc : Nat) (G F : Nat → Prop) (c n o p v : Int) (t : ByteArray) (w : World) (h : RecsAt w m cc G F) (hp : 0 ≤ p ∧ p < 1000) (hv : 0 ≤ v ∧ v ≤ 8) (ht : t.size ≤ 8) (hc : cc < 900) :
    Calls Tryz.prog 182 #[.map (some m), .agg (rqCells c n o p v t).toArray] w (deedPost m cc G F w) := by
  obtain ⟨U, hU⟩ : ∃ U, U = w.alloc (.cells (rqCells c n o p v t).toArray 29) := ⟨_, rfl⟩
  obtain ⟨V, hV⟩ : ∃ V, V = U.alloc (.cells (anCells 0 0 ⟨#[]⟩).toArray 166) := ⟨_, rfl⟩
  obtain ⟨hUs, hVs, kV, rV, tV⟩ := deed_head hU hV
  have RV := h.kept kV (fun g _ => id)
  have hf := find_any m cc G F p V RV hp
  have c3 : V.cell? ⟨w.heap.size, 3, none⟩ = some (.int .i64 p) := rV 3 _ rfl
  have c4 : V.cell? ⟨w.heap.size, 4, none⟩ = some (.int .i64 v) := rV 4 _ rfl
  have c5 : V.cell? ⟨w.heap.size, 5, none⟩ = some (.string t) := rV 5 _ rfl
  have HL : Hid (∀ g, G g → g < w.heap.size) := h.lts
  have HKV : Hid (Kept (fun _ => False) w V) := kV
  have HT : Hid (V.there (w.heap.size + 1) 0 3) := tV
  have HR : Hid (RecsAt V m cc G F) := RV
  obtain ⟨v0, v8⟩ := hv
  clear h kV tV RV rV
  go_enter Tryz.func182, Tryz.ntmps182
  unfold rqCells at hU
  unfold rqCells
  go_wp2_with (first
    | (rw [← hU]; clear hU)
    | (refine wpList_alloc_of rfl 166 rfl (anCells 0 0 ⟨#[]⟩).toArray alloc_an ?_; rw [← hV]; clear hV))
  refine hf.mono ?_
  rintro e V' ⟨hVV, hcase⟩
  obtain rfl : V = V' := hVV.symm
  clear hVV hf
  rcases hcase with rfl | ⟨r, k, hr, hk, rfl⟩
  · have HI := info_an 1 0 ⟨#[]⟩
    have HO := an_one 1 0 ⟨#[]⟩
    have hT : V.there (w.heap.size + 1) 0 (anCells 1 0 ⟨#[]⟩).length := HT.out
    go_wp2_with (first
      | (refine wpList_build_tm rfl 166 _ rfl _ (Eq.trans (congrArg (Tryz.prog.built _) (by simp [Act.eval])) (an_built1 1)) ?_)
      | (refine wpList_store_abs rfl 166 _ _ rfl (w.heap.size + 1) 0 (anCells 1 0 ⟨#[]⟩) rfl rfl hT HI HO ?_
         intro w5 hw5 hr5 _ht5 hb5
         clear _ht5))
    exact ret_cell rfl (w.heap.size + 1) 0 (anCells 1 0 ⟨#[]⟩) _ rfl hr5 Tryz.underlying166 rfl HI rfl (deed_end (HR.out.mono (by omega)) (HKV.out.mono (fun _ _ h => h.elim)) (fun g hg => Or.inl hg) HL.out (by omega) (by omega) (by decide) hw5)
  rcases hk with rfl | rfl
  · have HI := info_an 4 0 ⟨#[]⟩
    have HO := an_one 4 0 ⟨#[]⟩
    have hT : V.there (w.heap.size + 1) 0 (anCells 4 0 ⟨#[]⟩).length := HT.out
    go_wp2_with (first
      | (refine wpList_build_tm rfl 166 _ rfl _ (Eq.trans (congrArg (Tryz.prog.built _) (by simp [Act.eval])) (an_built1 4)) ?_)
      | (refine wpList_store_abs rfl 166 _ _ rfl (w.heap.size + 1) 0 (anCells 4 0 ⟨#[]⟩) rfl rfl hT HI HO ?_
         intro w5 hw5 hr5 _ht5 hb5
         clear _ht5))
    exact ret_cell rfl (w.heap.size + 1) 0 (anCells 4 0 ⟨#[]⟩) _ rfl hr5 Tryz.underlying166 rfl HI rfl (deed_end (HR.out.mono (by omega)) (HKV.out.mono (fun _ _ h => h.elim)) (fun g hg => Or.inl hg) HL.out (by omega) (by omega) (by decide) hw5)
  · obtain ⟨vv, x, mm, h1, h2, h3, h4, h5, h6, h7⟩ := (HR.out.recs r hr).2
    have hGr := (HR.out.recs r hr).1
    have hrl : r < V.heap.size := HR.out.lts r hGr
    have cv : V.cell? ⟨r, 0, none⟩ = some (.int .i64 vv) := h3 0 _ rfl
    have H3 : Hid (V.rangeAt r 0 (rcL vv x mm)) := h3
    have H5 : Hid (MapOf V txtElem mm cc) := h5
    clear h3 h4 h5
    by_cases e : v = vv
    · by_cases e8 : vv = 8
      · subst e8
        go_wp2_with fail
        go_quiet (fail)
        have kD : Kept (fun _ => False) V (V.drewN nq) := Kept.fresh (below_draws (Below.refl V.heap.size V) nq)
        have hDs : (V.drewN nq).heap.size = w.heap.size + 2 := hVs
        generalize V.drewN nq = D at kD hDs ⊢
        have HRD : Hid (RecsAt D m cc G F) := HR.out.kept kD (fun g _ => id)
        have HKD : Hid (Kept (fun _ => False) w D) := HKV.out.trans kD (fun _ _ h => h)
        have HTD : Hid (D.there (w.heap.size + 1) 0 3) := there_kept HT.out kD (by omega) id
        have d5 : D.cell? ⟨w.heap.size, 5, none⟩ = some (.string t) := (kD.cell (a := ⟨w.heap.size, 5, none⟩) (by show w.heap.size < _; omega) id).trans c5
        have d4 : D.cell? ⟨w.heap.size, 4, none⟩ = some (.int .i64 v) := (kD.cell (a := ⟨w.heap.size, 4, none⟩) (by show w.heap.size < _; omega) id).trans c4
        have dv : D.cell? ⟨r, 0, none⟩ = some (.int .i64 8) := (kD.cell (a := ⟨r, 0, none⟩) hrl id).trans cv
        have dm : D.cell? ⟨r, 2, none⟩ = some (.map (some mm)) := (kD.cell (a := ⟨r, 2, none⟩) hrl id).trans (H3.out 2 _ rfl)
        have mD : Hid (MapOf D txtElem mm cc) := H5.out.same (kD.block mm H5.out.lt id)
        clear kD c3 c4 c5 cv
        have cv := dv
        go_wp2_with fail
        refine (rtold_any r 5 8 D (by omega) cv).mono ?_
        rintro e Y ⟨rfl, hbY⟩
        have HKY : Hid (Kept G w Y) := (HKD.out.mono (fun _ _ h => h.elim)).trans (Kept.fresh (S := G) hbY) (fun _ _ h => h)
        have HRY : Hid (RecsAt Y m (cc + 1) G F) := (HRD.out.mono (by omega)).kept (Kept.fresh (S := fun _ => False) hbY) (fun g _ => id)
        have HTY : Hid (Y.there (w.heap.size + 1) 0 3) := there_below hbY (by omega) (HTD.out)
        clear hbY
        have HI := info_an 5 8 ⟨#[]⟩
        have HO := an_one 5 8 ⟨#[]⟩
        have hT : Y.there (w.heap.size + 1) 0 (anCells 5 8 ⟨#[]⟩).length := HTY.out
        go_wp2_with (first
          | (refine wpList_build_tm rfl 166 _ rfl _ (Eq.trans (congrArg (Tryz.prog.built _) (by simp [Act.eval])) (an_built1 5)) ?_)
          | (refine wpList_store_abs rfl 166 _ _ rfl (w.heap.size + 1) 0 (anCells 5 8 ⟨#[]⟩) rfl rfl hT HI HO ?_
             intro w5 hw5 hr5 _ht5 hb5
             clear _ht5))
        exact ret_cell rfl (w.heap.size + 1) 0 (anCells 5 8 ⟨#[]⟩) _ rfl hr5 Tryz.underlying166 rfl HI rfl (deed_end (HRY.out) (HKY.out) (fun g hg => Or.inl hg) HL.out (by omega) (by omega) (by decide) hw5)
      · go_wp2_with fail
        go_quiet (fail)
        have kD : Kept (fun _ => False) V (V.drewN nq) := Kept.fresh (below_draws (Below.refl V.heap.size V) nq)
        have hDs : (V.drewN nq).heap.size = w.heap.size + 2 := hVs
        generalize V.drewN nq = D at kD hDs ⊢
        have HRD : Hid (RecsAt D m cc G F) := HR.out.kept kD (fun g _ => id)
        have HKD : Hid (Kept (fun _ => False) w D) := HKV.out.trans kD (fun _ _ h => h)
        have HTD : Hid (D.there (w.heap.size + 1) 0 3) := there_kept HT.out kD (by omega) id
        have d5 : D.cell? ⟨w.heap.size, 5, none⟩ = some (.string t) := (kD.cell (a := ⟨w.heap.size, 5, none⟩) (by show w.heap.size < _; omega) id).trans c5
        have d4 : D.cell? ⟨w.heap.size, 4, none⟩ = some (.int .i64 v) := (kD.cell (a := ⟨w.heap.size, 4, none⟩) (by show w.heap.size < _; omega) id).trans c4
        have dv : D.cell? ⟨r, 0, none⟩ = some (.int .i64 vv) := (kD.cell (a := ⟨r, 0, none⟩) hrl id).trans cv
        have dm : D.cell? ⟨r, 2, none⟩ = some (.map (some mm)) := (kD.cell (a := ⟨r, 2, none⟩) hrl id).trans (H3.out 2 _ rfl)
        have mD : Hid (MapOf D txtElem mm cc) := H5.out.same (kD.block mm H5.out.lt id)
        clear kD c3 c4 c5 cv
        have cv := dv
        go_wp2_with fail
        refine (radd_any m cc r G F vv t D HRD.out hr cv (by omega) ht (by omega)).mono ?_
        rintro e' Y ⟨rfl, RY, kY⟩
        have HKY : Hid (Kept G w Y) := (HKD.out.mono (fun _ _ h => h.elim)).trans kY (fun _ _ h => h)
        have HRY : Hid (RecsAt Y m (cc + 1) G F) := RY
        have HTY : Hid (Y.there (w.heap.size + 1) 0 3) := there_kept HTD.out kY (by omega) (fun hg => by have := HL.out _ hg; omega)
        clear RY kY
        have HI := info_an 0 (vv + 1) ⟨#[]⟩
        have HO := an_one 0 (vv + 1) ⟨#[]⟩
        have hT : Y.there (w.heap.size + 1) 0 (anCells 0 (vv + 1) ⟨#[]⟩).length := HTY.out
        go_wp2_with (first
          | (refine wpList_build_tm rfl 166 _ rfl _ (Eq.trans (congrArg (Tryz.prog.built _) (by simp [Act.eval])) (an_built1 0)) ?_)
          | (refine wpList_store_abs rfl 166 _ _ rfl (w.heap.size + 1) 0 (anCells 0 (vv + 1) ⟨#[]⟩) rfl rfl hT HI HO ?_
             intro w5 hw5 hr5 _ht5 hb5
             clear _ht5))
        exact ret_cell rfl (w.heap.size + 1) 0 (anCells 0 (vv + 1) ⟨#[]⟩) _ rfl hr5 Tryz.underlying166 rfl HI rfl (deed_end (HRY.out) (HKY.out) (fun g hg => Or.inl hg) HL.out (by omega) (by omega) (by decide) hw5)
    · go_wp2_with fail
      go_quiet (fail)
      have kD : Kept (fun _ => False) V (V.drewN nq) := Kept.fresh (below_draws (Below.refl V.heap.size V) nq)
      have hDs : (V.drewN nq).heap.size = w.heap.size + 2 := hVs
      generalize V.drewN nq = D at kD hDs ⊢
      have HRD : Hid (RecsAt D m cc G F) := HR.out.kept kD (fun g _ => id)
      have HKD : Hid (Kept (fun _ => False) w D) := HKV.out.trans kD (fun _ _ h => h)
      have HTD : Hid (D.there (w.heap.size + 1) 0 3) := there_kept HT.out kD (by omega) id
      have d5 : D.cell? ⟨w.heap.size, 5, none⟩ = some (.string t) := (kD.cell (a := ⟨w.heap.size, 5, none⟩) (by show w.heap.size < _; omega) id).trans c5
      have d4 : D.cell? ⟨w.heap.size, 4, none⟩ = some (.int .i64 v) := (kD.cell (a := ⟨w.heap.size, 4, none⟩) (by show w.heap.size < _; omega) id).trans c4
      have dv : D.cell? ⟨r, 0, none⟩ = some (.int .i64 vv) := (kD.cell (a := ⟨r, 0, none⟩) hrl id).trans cv
      have dm : D.cell? ⟨r, 2, none⟩ = some (.map (some mm)) := (kD.cell (a := ⟨r, 2, none⟩) hrl id).trans (H3.out 2 _ rfl)
      have mD : Hid (MapOf D txtElem mm cc) := H5.out.same (kD.block mm H5.out.lt id)
      clear kD c3 c4 c5 cv
      have cv := dv
      go_wp2_with fail
      refine (rtold_any r 3 vv D (by omega) cv).mono ?_
      rintro e Y ⟨rfl, hbY⟩
      have HKY : Hid (Kept G w Y) := (HKD.out.mono (fun _ _ h => h.elim)).trans (Kept.fresh (S := G) hbY) (fun _ _ h => h)
      have HRY : Hid (RecsAt Y m (cc + 1) G F) := (HRD.out.mono (by omega)).kept (Kept.fresh (S := fun _ => False) hbY) (fun g _ => id)
      have HTY : Hid (Y.there (w.heap.size + 1) 0 3) := there_below hbY (by omega) (HTD.out)
      clear hbY
      have HI := info_an 3 vv ⟨#[]⟩
      have HO := an_one 3 vv ⟨#[]⟩
      have hT : Y.there (w.heap.size + 1) 0 (anCells 3 vv ⟨#[]⟩).length := HTY.out
      go_wp2_with (first
        | (refine wpList_build_tm rfl 166 _ rfl _ (Eq.trans (congrArg (Tryz.prog.built _) (by simp [Act.eval])) (an_built1 3)) ?_)
        | (refine wpList_store_abs rfl 166 _ _ rfl (w.heap.size + 1) 0 (anCells 3 vv ⟨#[]⟩) rfl rfl hT HI HO ?_
           intro w5 hw5 hr5 _ht5 hb5
           clear _ht5))
      exact ret_cell rfl (w.heap.size + 1) 0 (anCells 3 vv ⟨#[]⟩) _ rfl hr5 Tryz.underlying166 rfl HI rfl (deed_end (HRY.out) (HKY.out) (fun g hg => Or.inl hg) HL.out (by omega) (by omega) (by decide) hw5)

set_option maxRecDepth 10000 in
set_option maxHeartbeats 2000000 in
theorem rread_any (m cc : Nat) (G F : Nat → Prop) (c n o p v : Int) (t : ByteArray) (w : World) (h : RecsAt w m cc G F) (hp : 0 ≤ p ∧ p < 1000) (hv : 0 ≤ v ∧ v ≤ 8) (ht : t.size ≤ 8) (hc : cc < 900) :
    Calls Tryz.prog 183 #[.map (some m), .agg (rqCells c n o p v t).toArray] w (deedPost m cc G F w) := by
  obtain ⟨U, hU⟩ : ∃ U, U = w.alloc (.cells (rqCells c n o p v t).toArray 29) := ⟨_, rfl⟩
  obtain ⟨V, hV⟩ : ∃ V, V = U.alloc (.cells (anCells 0 0 ⟨#[]⟩).toArray 166) := ⟨_, rfl⟩
  obtain ⟨hUs, hVs, kV, rV, tV⟩ := deed_head hU hV
  have RV := h.kept kV (fun g _ => id)
  have hf := find_any m cc G F p V RV hp
  have c3 : V.cell? ⟨w.heap.size, 3, none⟩ = some (.int .i64 p) := rV 3 _ rfl
  have c4 : V.cell? ⟨w.heap.size, 4, none⟩ = some (.int .i64 v) := rV 4 _ rfl
  have c5 : V.cell? ⟨w.heap.size, 5, none⟩ = some (.string t) := rV 5 _ rfl
  have HL : Hid (∀ g, G g → g < w.heap.size) := h.lts
  have HKV : Hid (Kept (fun _ => False) w V) := kV
  have HT : Hid (V.there (w.heap.size + 1) 0 3) := tV
  have HR : Hid (RecsAt V m cc G F) := RV
  obtain ⟨v0, v8⟩ := hv
  clear h kV tV RV rV
  go_enter Tryz.func183, Tryz.ntmps183
  unfold rqCells at hU
  unfold rqCells
  go_wp2_with (first
    | (rw [← hU]; clear hU)
    | (refine wpList_alloc_of rfl 166 rfl (anCells 0 0 ⟨#[]⟩).toArray alloc_an ?_; rw [← hV]; clear hV))
  refine hf.mono ?_
  rintro e V' ⟨hVV, hcase⟩
  obtain rfl : V = V' := hVV.symm
  clear hVV hf
  rcases hcase with rfl | ⟨r, k, hr, hk, rfl⟩
  · have HI := info_an 1 0 ⟨#[]⟩
    have HO := an_one 1 0 ⟨#[]⟩
    have hT : V.there (w.heap.size + 1) 0 (anCells 1 0 ⟨#[]⟩).length := HT.out
    go_wp2_with (first
      | (refine wpList_build_tm rfl 166 _ rfl _ (Eq.trans (congrArg (Tryz.prog.built _) (by simp [Act.eval])) (an_built1 1)) ?_)
      | (refine wpList_store_abs rfl 166 _ _ rfl (w.heap.size + 1) 0 (anCells 1 0 ⟨#[]⟩) rfl rfl hT HI HO ?_
         intro w5 hw5 hr5 _ht5 hb5
         clear _ht5))
    exact ret_cell rfl (w.heap.size + 1) 0 (anCells 1 0 ⟨#[]⟩) _ rfl hr5 Tryz.underlying166 rfl HI rfl (deed_end (HR.out.mono (by omega)) (HKV.out.mono (fun _ _ h => h.elim)) (fun g hg => Or.inl hg) HL.out (by omega) (by omega) (by decide) hw5)
  rcases hk with rfl | rfl
  · have HI := info_an 4 0 ⟨#[]⟩
    have HO := an_one 4 0 ⟨#[]⟩
    have hT : V.there (w.heap.size + 1) 0 (anCells 4 0 ⟨#[]⟩).length := HT.out
    go_wp2_with (first
      | (refine wpList_build_tm rfl 166 _ rfl _ (Eq.trans (congrArg (Tryz.prog.built _) (by simp [Act.eval])) (an_built1 4)) ?_)
      | (refine wpList_store_abs rfl 166 _ _ rfl (w.heap.size + 1) 0 (anCells 4 0 ⟨#[]⟩) rfl rfl hT HI HO ?_
         intro w5 hw5 hr5 _ht5 hb5
         clear _ht5))
    exact ret_cell rfl (w.heap.size + 1) 0 (anCells 4 0 ⟨#[]⟩) _ rfl hr5 Tryz.underlying166 rfl HI rfl (deed_end (HR.out.mono (by omega)) (HKV.out.mono (fun _ _ h => h.elim)) (fun g hg => Or.inl hg) HL.out (by omega) (by omega) (by decide) hw5)
  · obtain ⟨vv, x, mm, h1, h2, h3, h4, h5, h6, h7⟩ := (HR.out.recs r hr).2
    have hGr := (HR.out.recs r hr).1
    have hrl : r < V.heap.size := HR.out.lts r hGr
    have cv : V.cell? ⟨r, 0, none⟩ = some (.int .i64 vv) := h3 0 _ rfl
    have H3 : Hid (V.rangeAt r 0 (rcL vv x mm)) := h3
    have H5 : Hid (MapOf V txtElem mm cc) := h5
    clear h3 h4 h5
    by_cases e : v > vv
    · go_wp2_with fail
      go_quiet (fail)
      have kD : Kept (fun _ => False) V (V.drewN nq) := Kept.fresh (below_draws (Below.refl V.heap.size V) nq)
      have hDs : (V.drewN nq).heap.size = w.heap.size + 2 := hVs
      generalize V.drewN nq = D at kD hDs ⊢
      have HRD : Hid (RecsAt D m cc G F) := HR.out.kept kD (fun g _ => id)
      have HKD : Hid (Kept (fun _ => False) w D) := HKV.out.trans kD (fun _ _ h => h)
      have HTD : Hid (D.there (w.heap.size + 1) 0 3) := there_kept HT.out kD (by omega) id
      have d5 : D.cell? ⟨w.heap.size, 5, none⟩ = some (.string t) := (kD.cell (a := ⟨w.heap.size, 5, none⟩) (by show w.heap.size < _; omega) id).trans c5
      have d4 : D.cell? ⟨w.heap.size, 4, none⟩ = some (.int .i64 v) := (kD.cell (a := ⟨w.heap.size, 4, none⟩) (by show w.heap.size < _; omega) id).trans c4
      have dv : D.cell? ⟨r, 0, none⟩ = some (.int .i64 vv) := (kD.cell (a := ⟨r, 0, none⟩) hrl id).trans cv
      have dm : D.cell? ⟨r, 2, none⟩ = some (.map (some mm)) := (kD.cell (a := ⟨r, 2, none⟩) hrl id).trans (H3.out 2 _ rfl)
      have mD : Hid (MapOf D txtElem mm cc) := H5.out.same (kD.block mm H5.out.lt id)
      clear kD c3 c4 c5 cv
      have cv := dv
      have HI := info_an 1 0 ⟨#[]⟩
      have HO := an_one 1 0 ⟨#[]⟩
      have hT : D.there (w.heap.size + 1) 0 (anCells 1 0 ⟨#[]⟩).length := HTD.out
      go_wp2_with (first
        | (refine wpList_build_tm rfl 166 _ rfl _ (Eq.trans (congrArg (Tryz.prog.built _) (by simp [Act.eval])) (an_built1 1)) ?_)
        | (refine wpList_store_abs rfl 166 _ _ rfl (w.heap.size + 1) 0 (anCells 1 0 ⟨#[]⟩) rfl rfl hT HI HO ?_
           intro w5 hw5 hr5 _ht5 hb5
           clear _ht5))
      exact ret_cell rfl (w.heap.size + 1) 0 (anCells 1 0 ⟨#[]⟩) _ rfl hr5 Tryz.underlying166 rfl HI rfl (deed_end (HRD.out.mono (by omega)) (HKD.out.mono (fun _ _ h => h.elim)) (fun g hg => Or.inl hg) HL.out (by omega) (by omega) (by decide) hw5)
    · by_cases e0 : v = 0
      · go_wp2_with fail
        go_quiet (fail)
        have kD : Kept (fun _ => False) V (V.drewN nq) := Kept.fresh (below_draws (Below.refl V.heap.size V) nq)
        have hDs : (V.drewN nq).heap.size = w.heap.size + 2 := hVs
        generalize V.drewN nq = D at kD hDs ⊢
        have HRD : Hid (RecsAt D m cc G F) := HR.out.kept kD (fun g _ => id)
        have HKD : Hid (Kept (fun _ => False) w D) := HKV.out.trans kD (fun _ _ h => h)
        have HTD : Hid (D.there (w.heap.size + 1) 0 3) := there_kept HT.out kD (by omega) id
        have d5 : D.cell? ⟨w.heap.size, 5, none⟩ = some (.string t) := (kD.cell (a := ⟨w.heap.size, 5, none⟩) (by show w.heap.size < _; omega) id).trans c5
        have d4 : D.cell? ⟨w.heap.size, 4, none⟩ = some (.int .i64 v) := (kD.cell (a := ⟨w.heap.size, 4, none⟩) (by show w.heap.size < _; omega) id).trans c4
        have dv : D.cell? ⟨r, 0, none⟩ = some (.int .i64 vv) := (kD.cell (a := ⟨r, 0, none⟩) hrl id).trans cv
        have dm : D.cell? ⟨r, 2, none⟩ = some (.map (some mm)) := (kD.cell (a := ⟨r, 2, none⟩) hrl id).trans (H3.out 2 _ rfl)
        have mD : Hid (MapOf D txtElem mm cc) := H5.out.same (kD.block mm H5.out.lt id)
        clear kD c3 c4 c5 cv
        have cv := dv
        obtain ⟨u, hrun, hu⟩ := mD.out.look (t := 282) (e := 290) Tryz.underlying282 (zero_tx D) (by rw [txt_of _ (by decide)]; rfl) vv (by omega)
        obtain ⟨s, hs, rfl⟩ := txt_inv hu
        clear hu
        have hfd := tx_field s
        have HI := info_an 0 vv s
        have HO := an_one 0 vv s
        have hT : D.there (w.heap.size + 1) 0 (anCells 0 vv s).length := HTD.out
        go_wp2_with (first
          | (refine wpList_build_tm rfl 166 _ rfl _ (Eq.trans (congrArg (Tryz.prog.built _) (by simp [Act.eval])) (an_built3 0 vv s)) ?_)
          | (refine wpList_store_abs rfl 166 _ _ rfl (w.heap.size + 1) 0 (anCells 0 vv s) rfl rfl hT HI HO ?_
             intro w5 hw5 hr5 _ht5 hb5
             clear _ht5))
        exact ret_cell rfl (w.heap.size + 1) 0 (anCells 0 vv s) _ rfl hr5 Tryz.underlying166 rfl HI rfl (deed_end (HRD.out.mono (by omega)) (HKD.out.mono (fun _ _ h => h.elim)) (fun g hg => Or.inl hg) HL.out (by omega) (by omega) (hs) hw5)
      · go_wp2_with fail
        go_quiet (fail)
        have kD : Kept (fun _ => False) V (V.drewN nq) := Kept.fresh (below_draws (Below.refl V.heap.size V) nq)
        have hDs : (V.drewN nq).heap.size = w.heap.size + 2 := hVs
        generalize V.drewN nq = D at kD hDs ⊢
        have HRD : Hid (RecsAt D m cc G F) := HR.out.kept kD (fun g _ => id)
        have HKD : Hid (Kept (fun _ => False) w D) := HKV.out.trans kD (fun _ _ h => h)
        have HTD : Hid (D.there (w.heap.size + 1) 0 3) := there_kept HT.out kD (by omega) id
        have d5 : D.cell? ⟨w.heap.size, 5, none⟩ = some (.string t) := (kD.cell (a := ⟨w.heap.size, 5, none⟩) (by show w.heap.size < _; omega) id).trans c5
        have d4 : D.cell? ⟨w.heap.size, 4, none⟩ = some (.int .i64 v) := (kD.cell (a := ⟨w.heap.size, 4, none⟩) (by show w.heap.size < _; omega) id).trans c4
        have dv : D.cell? ⟨r, 0, none⟩ = some (.int .i64 vv) := (kD.cell (a := ⟨r, 0, none⟩) hrl id).trans cv
        have dm : D.cell? ⟨r, 2, none⟩ = some (.map (some mm)) := (kD.cell (a := ⟨r, 2, none⟩) hrl id).trans (H3.out 2 _ rfl)
        have mD : Hid (MapOf D txtElem mm cc) := H5.out.same (kD.block mm H5.out.lt id)
        clear kD c3 c4 c5 cv
        have cv := dv
        obtain ⟨u, hrun, hu⟩ := mD.out.look (t := 282) (e := 290) Tryz.underlying282 (zero_tx D) (by rw [txt_of _ (by decide)]; rfl) v (by omega)
        obtain ⟨s, hs, rfl⟩ := txt_inv hu
        clear hu
        have hfd := tx_field s
        have HI := info_an 0 v s
        have HO := an_one 0 v s
        have hT : D.there (w.heap.size + 1) 0 (anCells 0 v s).length := HTD.out
        go_wp2_with (first
          | (refine wpList_build_tm rfl 166 _ rfl _ (Eq.trans (congrArg (Tryz.prog.built _) (by simp [Act.eval])) (an_built3 0 v s)) ?_)
          | (refine wpList_store_abs rfl 166 _ _ rfl (w.heap.size + 1) 0 (anCells 0 v s) rfl rfl hT HI HO ?_
             intro w5 hw5 hr5 _ht5 hb5
             clear _ht5))
        exact ret_cell rfl (w.heap.size + 1) 0 (anCells 0 v s) _ rfl hr5 Tryz.underlying166 rfl HI rfl (deed_end (HRD.out.mono (by omega)) (HKD.out.mono (fun _ _ h => h.elim)) (fun g hg => Or.inl hg) HL.out (by omega) (by omega) (hs) hw5)
end Go.Proofs.YteglimjonofdeaaGreatDoor
