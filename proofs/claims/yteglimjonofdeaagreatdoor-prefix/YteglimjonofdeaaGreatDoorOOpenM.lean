import Derived.Test.YteglimjonofdeaaGreatDoorNBookM
import Derived.ProofKit
import Derived.OpenShut
import Derived.SizedLaws
import Derived.Deep.Slices
import Derived.ChangeSame
import Derived.Carry
import Derived.Test.YteglimjonofdeaaGreatDoorNBopenM
import Derived.Test.YteglimjonofdeaaGreatDoorHReckM
import Derived.Maps.Views
set_option linter.unusedVariables false
set_option linter.unusedSimpArgs false
namespace Go.Proofs.YteglimjonofdeaaGreatDoor
open Go.ChangeShapes Go.WideShapes Go.ChangeAt Go.RowKit

/-- What a client asks for. -/
structure Ask5 where
  (c o p v t : Int)
def Ask5.cells (a : Ask5) : List Value := [.int .i64 a.c, .int .i64 a.o, .int .i64 a.p, .int .i64 a.v, .int .i64 a.t]
def inI (k : Int) : Prop := -9223372036854775808 ≤ k ∧ k ≤ 9223372036854775807
def Ask5.ok (a : Ask5) : Prop := inI a.c ∧ inI a.o ∧ inI a.p ∧ inI a.v ∧ inI a.t
/-- The list of asks as it lies. -/
structure AsksAt (W : World) (v : Value) (l : List Ask5) : Prop where
  at_ : ((∃ a cap, v = .slice a 0 cap) ∧ l = []) ∨ ∃ g off cap, v = .slice (some ⟨g, off, none⟩) l.length cap ∧ ∀ i o, l[i]? = some o → W.rangeAt g (off + i * 5) o.cells

theorem cellsAsk : Tryz.prog.cellsOf 32 = 5 := by kernel_rfl
theorem cellsIntA : Tryz.prog.cellsOf 3 = 1 := by kernel_rfl
theorem bytesAsk : Tryz.prog.bytesOf 32 = 40 := by kernel_rfl
theorem fieldsAsk : ∃ fs : Array Field, Tryz.prog.underlying 32 = some (.struct fs) ∧ fs.toList.map (fun f => (f.type, f.offset)) = [(3, 0), (3, 1), (3, 2), (3, 3), (3, 4)] :=
  ⟨_, Tryz.underlying32, by kernel_rfl⟩
theorem field_atA {fs : Array Field} {i t off : Nat} (h : (fs.toList.map (fun f => (f.type, f.offset)))[i]? = some (t, off)) : ∃ f, fs[i]? = some f ∧ f.type = t ∧ f.offset = off := by
  rw [List.getElem?_map] at h
  obtain ⟨f, hf, e⟩ := Option.map_eq_some_iff.1 h
  simp only [Prod.mk.injEq] at e
  exact ⟨f, by simpa using hf, e.1, e.2⟩

theorem open_ask {H : Type} {enc : TypeId × Value → H} {W : World} {base n : Nat} {sp : Nat → Bool} {held : Bool} {cs : List Value} {x : DataW H × List MemPlace} (h : DataW.trod enc Tryz.prog W base sp held n 32 cs = some x) :
    ∃ o : Ask5, cs = o.cells ∧ o.ok := by
  obtain ⟨fs, hu, hfs⟩ := fieldsAsk
  obtain ⟨xs, m, _, rfl, hcl, hxl, hf⟩ := DataW.trod_struct hu h
  rw [cellsAsk] at hcl
  have num : ∀ i, i < 5 → ∃ k : Int, cs[i]? = some (.int .i64 k) ∧ inI k := by
    intro i hi
    obtain ⟨f, hf1, hft, hfo⟩ := field_atA (fs := fs) (i := i) (t := 3) (off := i) (by
      rw [hfs]
      obtain rfl | rfl | rfl | rfl | rfl : i = 0 ∨ i = 1 ∨ i = 2 ∨ i = 3 ∨ i = 4 := by omega
      all_goals rfl)
    have hx := hf i f hf1
    rw [hft, hfo, cellsIntA] at hx
    have hlt : i < xs.length := by
      rw [hxl]; exact (Array.getElem?_eq_some_iff.1 hf1).1
    rw [List.getElem?_eq_getElem hlt] at hx
    obtain ⟨k, hk, _, hwf⟩ := DataW.trod_int Tryz.underlying3 hx
    have hb := bounds_i64 hwf
    refine ⟨k, ?_, by unfold inI; omega⟩
    have : ((cs.drop i).take 1)[0]? = some (.int .i64 k) := by rw [hk]; rfl
    rw [List.getElem?_take_of_lt (by omega), List.getElem?_drop] at this
    simpa using this
  obtain ⟨k0, e0, l0⟩ := num 0 (by omega)
  obtain ⟨k1, e1, l1⟩ := num 1 (by omega)
  obtain ⟨k2, e2, l2⟩ := num 2 (by omega)
  obtain ⟨k3, e3, l3⟩ := num 3 (by omega)
  obtain ⟨k4, e4, l4⟩ := num 4 (by omega)
  refine ⟨⟨k0, k1, k2, k3, k4⟩, ?_, ⟨l0, l1, l2, l3, l4⟩⟩
  match cs, hcl, e0, e1, e2, e3, e4 with
  | [a0, a1, a2, a3, a4], _, e0, e1, e2, e3, e4 =>
    simp at e0 e1 e2 e3 e4
    subst e0 e1 e2 e3 e4
    rfl

theorem open_asks {H : Type} {enc : TypeId × Value → H} {W : World} {v : Value} {d : DataW H} {ps : List MemPlace} (hv : ∃ a len cap, v = .slice a len cap) (h : DataW.Trod enc Tryz.prog W 0 (fun _ => true) true 22 v d ps)
    (hw : ∀ n ∈ d.weights Tryz.prog 22, n ≤ reachBytes) :
    ∃ l : List Ask5, AsksAt W v l ∧ l.length ≤ 140737488355328 ∧ ∀ o ∈ l, o.ok := by
  obtain ⟨fuel, hf⟩ := h
  obtain ⟨ao, vlen, vcap, rfl⟩ := hv
  have hrb : reachBytes ≤ 140737488355328 := by decide
  rcases Deep.open_slice Tryz.underlying22 hf with ⟨hc, _⟩ | ⟨a, len, cap, m, n, D, Pl, hc, _, hl, hm, hmm, hx, hall⟩
  · simp [Value.cells] at hc
    obtain ⟨rfl, rfl, rfl⟩ := hc
    exact ⟨[], ⟨Or.inl ⟨⟨none, 0, rfl⟩, rfl⟩⟩, by simp, fun o ho => by cases ho⟩
  · simp [Value.cells] at hc
    obtain ⟨rfl, rfl, rfl⟩ := hc
    simp only [Prod.mk.injEq] at hx
    obtain ⟨rfl, _⟩ := hx
    have hlm : vlen ≤ m := by rw [hmm]; simp; exact hl
    have each : ∀ i, i < vlen → ∃ o : Ask5, (∀ j u, o.cells[j]? = some u → W.cell? ((a.add (i * 5)).add j) = some u) ∧ o.ok := by
      intro i hi
      obtain ⟨cs', h1, h2⟩ := hall i (by omega)
      obtain ⟨o, rfl, ho1⟩ := open_ask h2
      rw [cellsAsk] at h1
      obtain ⟨_, hlen, hcell⟩ := World.cells?_some h1
      refine ⟨o, fun j u hu => ?_, ho1⟩
      have hj : j < 5 := (List.getElem?_eq_some_iff.1 hu).1
      rw [hcell j hj]; exact hu
    have inst : Inhabited Ask5 := ⟨⟨0, 0, 0, 0, 0⟩⟩
    obtain ⟨O, hO⟩ := Deep.choose_lt each
    have hlen : vlen * 40 ≤ reachBytes := by
      have := hw ((vlen + (m - vlen)) * 40) (by
        unfold DataW.weights
        rw [Tryz.underlying22]
        simp only [List.mem_cons, List.length_map, List.length_range, bytesAsk, true_or])
      have h1 : vlen * 40 ≤ (vlen + (m - vlen)) * 40 := Nat.mul_le_mul_right _ (by omega)
      omega
    refine ⟨(List.range vlen).map O, ?_, ?_, ?_⟩
    · by_cases h0 : vlen = 0
      · subst h0
        exact ⟨Or.inl ⟨⟨_, _, rfl⟩, rfl⟩⟩
      · have hsp : a.spot = none := by
          have := (hO 0 (by omega)).1 0 _ rfl
          simp [Addr.add] at this
          exact World.cell?_spot this
        obtain ⟨g, off, sp⟩ := a
        simp only at hsp
        subst hsp
        refine ⟨Or.inr ⟨g, off, vcap, by simp, fun i o ho j u hu => ?_⟩⟩
        have hi : i < vlen := by have := (List.getElem?_eq_some_iff.1 ho).1; simpa using this
        rw [List.getElem?_map, List.getElem?_range hi] at ho
        simp at ho
        subst ho
        have := (hO i hi).1 j u hu
        rw [Addr.add_lit, Addr.add_lit] at this
        exact this
    · simp; omega
    · intro o ho
      obtain ⟨i, hi, rfl⟩ := List.mem_map.1 ho
      exact (hO i (List.mem_range.1 hi)).2
theorem info_ask (a : Ask5) : (Tryz.prog.info? 32).map (·.size) = some a.cells.length := by show _ = some 5; kernel_rfl
theorem AsksAt.slice {W : World} {v : Value} {l : List Ask5} (h : AsksAt W v l) : ∃ ao cap, v = .slice ao l.length cap := by
  rcases h.at_ with ⟨⟨ao, cap, rfl⟩, rfl⟩ | ⟨g, off, cap, rfl, _⟩
  · exact ⟨ao, cap, rfl⟩
  · exact ⟨_, _, rfl⟩
end Go.Proofs.YteglimjonofdeaaGreatDoor
set_option linter.unusedVariables false
set_option linter.unusedSimpArgs false
namespace Go.Proofs.YteglimjonofdeaaGreatDoor
open Go.RowKit

set_option maxHeartbeats 400000 in
theorem opick_fix (c n : Int) (h0 : -9223372036854775808 ≤ c) (h1 : c ≤ 9223372036854775807) (hn : 0 < n) (hn1 : n ≤ 4294967296) :
    ∃ r : Nat, (r : Int) < n ∧ ∀ w, Calls Tryz.prog 23 #[.int .i64 c, .int .i64 n] w fun e w' => e = .returned (.int .i64 r) ∧ w' = w := by
  by_cases hc : c < 0
  · have e1 : 0 ≤ -((c + 1).tmod n) := by rw [← Int.neg_tmod, Int.tmod_eq_emod_of_nonneg (by omega)]; exact Int.emod_nonneg _ (by omega)
    have e2 : -((c + 1).tmod n) < n := by rw [← Int.neg_tmod, Int.tmod_eq_emod_of_nonneg (by omega)]; exact Int.emod_lt_of_pos _ hn
    refine ⟨(-((c + 1).tmod n)).toNat, by omega, fun w => ?_⟩
    have HE : Hid (((-((c + 1).tmod n)).toNat : Int) = -((c + 1).tmod n)) := by show _ = _; omega
    clear e1 e2
    generalize (-((c + 1).tmod n)).toNat = r at *
    go_enter Tryz.func23, Tryz.ntmps23
    go_wp2
    go_ret
    exact ⟨by show Ending.returned (Value.int .i64 (-((c + 1).tmod n))) = Ending.returned (Value.int .i64 (r : Int)); rw [HE.out], rfl⟩
  · have e1 : 0 ≤ c % n := Int.emod_nonneg _ (by omega)
    have e2 : c % n < n := Int.emod_lt_of_pos _ hn
    refine ⟨(c % n).toNat, by omega, fun w => ?_⟩
    have HE : Hid (((c % n).toNat : Int) = c % n) := by show _ = _; omega
    clear e1 e2
    generalize (c % n).toNat = r at *
    go_enter Tryz.func23, Tryz.ntmps23
    go_wp2
    go_ret
    exact ⟨by show Ending.returned (Value.int .i64 (c % n)) = Ending.returned (Value.int .i64 (r : Int)); rw [HE.out], rfl⟩
set_option maxRecDepth 10000 in
set_option maxHeartbeats 1000000 in
theorem oseed_any (c : Int) (K : Nat → Int) (w : World) (c0 : -9223372036854775808 ≤ c) (c1 : c ≤ 9223372036854775807) (T : Tab K w) :
    Calls Tryz.prog 7 #[.int .i64 c] w fun e w' => ∃ s : ByteArray, e = .returned (.string s) ∧ s.size = 32 ∧ Below w.heap.size w w' := by
  have hcv := convert_range (w := w.alloc (.cells #[.int .u8 (c % 256), .int .u8 (c / 256 % 256), .int .u8 (c / 65536 % 256)] 5)) (b := w.heap.size) (cap := 3) (ns := [c % 256, c / 256 % 256, c / 65536 % 256]) 3 rfl (range_new w (bytesV [c % 256, c / 256 % 256, c / 65536 % 256]) 5)
  obtain ⟨t, ht⟩ : ∃ t, t = strOfNums [c % 256, c / 256 % 256, c / 65536 % 256] := ⟨_, rfl⟩
  have ht3 : t.size = 3 := by rw [ht, strOfNums_size]; rfl
  rw [← ht] at hcv
  clear ht
  have hb0 : Below w.heap.size w (w.alloc (.cells #[.int .u8 (c % 256), .int .u8 (c / 256 % 256), .int .u8 (c / 65536 % 256)] 5)) := (Below.refl _ _).alloc (Nat.le_refl _) _
  have T1 := T.below hb0
  have hsum := sum_any (⟨#[115, 101, 101, 100]⟩ ++ t) K _ (by rw [ByteArray.size_append, ht3, show (⟨#[115, 101, 101, 100]⟩ : ByteArray).size = 4 from rfl]; omega) T1.lt T1.cells
  have HS : Hid ((sumOf K (⟨#[115, 101, 101, 100]⟩ ++ t)).size = 32) := sumOf_size K _
  obtain ⟨s, hs⟩ : ∃ s, s = sumOf K (⟨#[115, 101, 101, 100]⟩ ++ t) := ⟨_, rfl⟩
  rw [← hs] at hsum HS
  clear hs T T1
  go_enter Tryz.func7, Tryz.ntmps7
  go_wp2_with fail
  refine hsum.mono ?_
  rintro e w1 ⟨rfl, hb1⟩
  go_wp2_with fail
  go_ret
  exact ⟨s, rfl, HS.out, hb0.trans (hb1.mono hb0.size)⟩


theorem xn_built (nd : Nat) : Tryz.prog.built 89 [(0, .pointer (some ⟨nd, 0, none⟩))] = some #[.pointer (some ⟨nd, 0, none⟩)] := by kernel_rfl
/-- What the door Open leaves. -/
def dopPost (K : Nat → Int) (z : Nv) (q bb N : Nat) (C : Nat → List Int) (w : World) (e : Ending) (w' : World) : Prop :=
  ∃ xn nd bk j lm m l, e = .returned (.tuple #[.pointer (some ⟨xn, 0, none⟩), .nilIface]) ∧ Al K w' z nd q bb N j 1 C l bk lm m 0 0 (.slice none 0 0) [] (fun g => g = m) (fun _ => False) (.map []) ∧ (w.heap.size ≤ j ∧ w.heap.size ≤ bk ∧ w.heap.size ≤ lm ∧ w.heap.size ≤ m ∧ w.heap.size ≤ nd) ∧ Kept (fun g => g = q ∨ g = bb) w w' ∧
    w'.cell? ⟨xn, 0, none⟩ = some (.pointer (some ⟨nd, 0, none⟩)) ∧ xn < w'.heap.size ∧ w.heap.size ≤ xn ∧ ¬ alOwn q bb j bk lm (.slice none 0 0) (fun g => g = m) xn
set_option maxRecDepth 10000 in
set_option maxHeartbeats 1000000 in
theorem aopen_any (K : Nat → Int) (ro la h : Int) (q bb N : Nat) (C : Nat → List Int) (r s : ByteArray) (w : World) (hro : 0 ≤ ro) (hrl : ro ≤ la) (hla : la < 3) (hh0 : 0 ≤ h) (hh5 : h ≤ 5) (h4 : N ≤ 400) (hn8 : 8 ≤ N) (hr : r.size ≤ 18) (hs : s.size = 32) (hD : DiskAt w q bb N C (.slice none 0 0) []) (T : Tab K w) (hpT : ¬ 1 = q) (hbT : ¬ 1 = bb)
    (hC0 : C 0 = packN K (sumOf K origT) r) (hC1 : C 1 = z128) (hno : z128.take 32 ≠ (packN K (sumOf K (sumOf K origT ++ r)) ⟨#[]⟩).take 32) :
    Calls Tryz.prog 53 #[devV q, .int .i64 ro, .int .i64 la, .string s, .int .i64 h] w (dopPost K (nv0 ro la s h) q bb N C w) := by
  have ho := nopen_any K ro la h q bb N C r s w hro hrl hla hh0 hh5 h4 hn8 hr hs hD T hpT hbT hC0 hC1 hno
  have HQL : Hid (q < w.heap.size ∧ bb < w.heap.size) := hD.lt
  clear hD T hC0 hC1 hno
  unfold devV at ho ⊢
  go_enter Tryz.func53, Tryz.ntmps53
  go_wp2_with fail
  refine ho.mono ?_
  rintro e W1 ⟨nd, bk, j, lm, m, l, rfl, a1, g1, k1⟩
  have s1 := k1.size
  obtain ⟨W2, h2⟩ : ∃ X, X = W1.alloc (.cells #[.pointer (some ⟨nd, 0, none⟩)] 89) := ⟨_, rfl⟩
  have b2 : Below W1.heap.size W1 W2 := by rw [h2]; exact (Below.refl _ _).alloc (Nat.le_refl _) _
  have hno : ¬ alOwn q bb j bk lm (.slice none 0 0) (fun g => g = m) W1.heap.size := fun e => by
    rcases e with e | e
    · have := a1.jat.ownLt _ e; omega
    · have := a1.book.ownLt _ e; omega
  have HR : Hid (dopPost K (nv0 ro la s h) q bb N C w (.returned (.tuple #[.pointer (some ⟨W1.heap.size, 0, none⟩), .nilIface])) W2) := ⟨W1.heap.size, nd, bk, j, lm, m, l, rfl, a1.fresh b2, g1, k1.trans (Kept.fresh (S := fun g => g = q ∨ g = bb) b2) (fun _ _ h => h), by rw [h2, World.cell?_alloc_at _ _ _ _ rfl]; rfl, by rw [h2]; simp, s1, hno⟩
  have hxb := xn_built nd
  clear ho a1 k1 b2 hno g1
  go_wp2_with (rw [← h2]; clear h2)
  go_ret2
  try rw [← h2]
  exact HR.out
set_option maxHeartbeats 400000 in
theorem popen_any (K : Nat → Int) (ro la h : Int) (q bb N : Nat) (C : Nat → List Int) (s : ByteArray) (w : World) (ho : Calls Tryz.prog 53 #[devV q, .int .i64 ro, .int .i64 la, .string s, .int .i64 h] w (dopPost K (nv0 ro la s h) q bb N C w)) :
    Calls Tryz.prog 31 #[.pointer (some ⟨q, 0, none⟩), .int .i64 ro, .int .i64 la, .string s, .int .i64 h] w (dopPost K (nv0 ro la s h) q bb N C w) := by
  unfold devV at ho
  go_enter Tryz.func31, Tryz.ntmps31
  go_wp2_with fail
  refine ho.mono ?_
  rintro e W1 ⟨xn, nd, bk, j, lm, m, l, rfl, hrest⟩
  have HR : Hid (dopPost K (nv0 ro la s h) q bb N C w (.returned (.tuple #[.pointer (some ⟨xn, 0, none⟩), .nilIface])) W1) := ⟨xn, nd, bk, j, lm, m, l, rfl, hrest⟩
  clear ho hrest
  go_wp2_with fail
  go_ret2
  exact HR.out
/-- A disk with an empty book. -/
theorem made_any (K : Nat → Int) (N : Nat) (w : World) (h8 : 8 ≤ N) (h4 : N ≤ 400) (T : Tab K w) :
    Calls Tryz.prog 30 #[.int .i64 N] w fun e w' => ∃ p bb, e = .returned (.pointer (some ⟨p, 0, none⟩)) ∧ w.heap.size ≤ p ∧ w.heap.size ≤ bb ∧ DiskAt w' p bb N (fmtC (packN K (sumOf K origT) (stampT K zeroC N))) (.slice none 0 0) [] ∧ Below w.heap.size w w' := by
  have hnd := newdisk_any N w (by omega) (by omega)
  have HT : Hid (Tab K w) := T
  clear T
  go_enter Tryz.func30, Tryz.ntmps30
  go_wp2_with fail
  refine hnd.mono ?_
  rintro e W1 ⟨p, bb, rfl, hp, hb, hd, b1⟩
  have hTl := HT.out.lt
  have hf := pformat_any K p bb N zeroC W1 h8 h4 hd (fun i _ x hx => by rw [List.eq_of_mem_replicate (show x ∈ List.replicate 128 (0 : Int) from hx)]; decide) (HT.out.below b1) (by omega)
  have HB1 : Hid (Below w.heap.size w W1) := b1
  clear hnd hd b1
  go_wp2_with fail
  refine hf.mono ?_
  rintro e W2 ⟨rfl, d2, k2⟩
  have B2 : Below w.heap.size w W2 := HB1.out.trans (k2.toBelow HB1.out.size (fun g hg => by omega))
  have HD : Hid (DiskAt W2 p bb N (fmtC (packN K (sumOf K origT) (stampT K zeroC N))) (.slice none 0 0) []) := d2
  have HB2 : Hid (Below w.heap.size w W2) := B2
  clear hf d2 k2 B2
  go_wp2_with fail
  go_ret
  exact ⟨p, bb, rfl, hp, hb, HD.out, HB2.out⟩
end Go.Proofs.YteglimjonofdeaaGreatDoor
set_option linter.unusedVariables false
set_option linter.unusedSimpArgs false
namespace Go.Proofs.YteglimjonofdeaaGreatDoor
open Go.RowKit

theorem rq_whole (c n o p v : Int) (t : ByteArray) (hc : 1 ≤ c ∧ c ≤ 9) (hn : 1 ≤ n ∧ n ≤ 2147483647) (ho : 1 ≤ o ∧ o ≤ 5) (hp : 1 ≤ p ∧ p ≤ 99) (hv : 0 ≤ v ∧ v ≤ 8) (ht : t.size ≤ 8) : rqWhole c n o p v t = true := by
  simp [rqWhole, wholeB, inB]
  omega
theorem owrap (x : Int) (h0 : 0 ≤ x) (h1 : x ≤ 4294967295) : IntKind.i64.wrap x = x := by
  simp [IntKind.wrap, IntKind.bits, IntKind.signed]; omega
theorem slice_abc (r : Nat) (hr : r ≤ 8) : ∃ T : ByteArray, T.size ≤ 8 ∧ ∀ w, (Instr.slice 9 (.string ⟨#[97, 98, 99, 100, 101, 102, 103, 104]⟩) none (some (.int .i64 (r : Int))) none).run Tryz.prog w = .ok (.string T) w := by
  obtain rfl | rfl | rfl | rfl | rfl | rfl | rfl | rfl | rfl : r = 0 ∨ r = 1 ∨ r = 2 ∨ r = 3 ∨ r = 4 ∨ r = 5 ∨ r = 6 ∨ r = 7 ∨ r = 8 := by omega
  · exact ⟨⟨#[]⟩, by decide, fun w => by kernel_rfl⟩
  · exact ⟨⟨#[97]⟩, by decide, fun w => by kernel_rfl⟩
  · exact ⟨⟨#[97, 98]⟩, by decide, fun w => by kernel_rfl⟩
  · exact ⟨⟨#[97, 98, 99]⟩, by decide, fun w => by kernel_rfl⟩
  · exact ⟨⟨#[97, 98, 99, 100]⟩, by decide, fun w => by kernel_rfl⟩
  · exact ⟨⟨#[97, 98, 99, 100, 101]⟩, by decide, fun w => by kernel_rfl⟩
  · exact ⟨⟨#[97, 98, 99, 100, 101, 102]⟩, by decide, fun w => by kernel_rfl⟩
  · exact ⟨⟨#[97, 98, 99, 100, 101, 102, 103]⟩, by decide, fun w => by kernel_rfl⟩
  · exact ⟨⟨#[97, 98, 99, 100, 101, 102, 103, 104]⟩, by decide, fun w => by kernel_rfl⟩

set_option maxRecDepth 10000 in
set_option maxHeartbeats 4000000 in
/-- A request out of what a client asks for: whole, whatever that is. -/
theorem request_any (a : Ask5) (no : Int) (w : World) (hok : a.ok) (hno : 1 ≤ no ∧ no ≤ 2147483647) :
    Calls Tryz.prog 8 #[.agg a.cells.toArray, .int .i64 no] w fun e w' => ∃ c o p v t, e = .returned (.agg (rqCells c no o p v t).toArray) ∧ rqWhole c no o p v t = true ∧ Below w.heap.size w w' := by
  obtain ⟨⟨x1, x2⟩, ⟨x3, x4⟩, ⟨x5, x6⟩, ⟨x7, x8⟩, ⟨x9, x10⟩⟩ := hok
  obtain ⟨rc, lc, hc⟩ := opick_fix a.c 3 x1 x2 (by omega) (by omega)
  obtain ⟨ro, lo, ho⟩ := opick_fix a.o 5 x3 x4 (by omega) (by omega)
  obtain ⟨rp, lp, hp⟩ := opick_fix a.p 4 x5 x6 (by omega) (by omega)
  obtain ⟨rv, lv, hv⟩ := opick_fix a.v 5 x7 x8 (by omega) (by omega)
  obtain ⟨rt, lt, ht⟩ := opick_fix a.t 9 x9 x10 (by omega) (by omega)
  obtain ⟨T, hT8, hslice⟩ := slice_abc rt (by omega)
  have HW : Hid (rqWhole (1 + rc) no (1 + ro) (1 + rp) rv T = true) := rq_whole _ _ _ _ _ _ (by omega) hno (by omega) (by omega) (by omega) hT8
  have wrc : IntKind.i64.wrap (1 + (rc : Int)) = 1 + rc := owrap _ (by omega) (by omega)
  have wro : IntKind.i64.wrap (1 + (ro : Int)) = 1 + ro := owrap _ (by omega) (by omega)
  have wrp : IntKind.i64.wrap (1 + (rp : Int)) = 1 + rp := owrap _ (by omega) (by omega)
  obtain ⟨U, hU⟩ : ∃ U, U = w.alloc (.cells a.cells.toArray 32) := ⟨_, rfl⟩
  obtain ⟨V, hV⟩ : ∃ V, V = U.alloc (.cells (rqCells 0 0 0 0 0 ⟨#[]⟩).toArray 29) := ⟨_, rfl⟩
  have hUs : U.heap.size = w.heap.size + 1 := by rw [hU]; simp
  have bU : Below w.heap.size w U := by rw [hU]; exact (Below.refl _ _).alloc (Nat.le_refl _) _
  have bV : Below U.heap.size U V := by rw [hV]; exact (Below.refl _ _).alloc (Nat.le_refl _) _
  have rU : U.rangeAt w.heap.size 0 a.cells := by rw [hU]; exact range_new _ _ _
  have hVs : V.heap.size = w.heap.size + 2 := by rw [hV]; simp; omega
  have TV : Hid (V.there (w.heap.size + 1) 0 6) := by
    have := there_new U (rqCells 0 0 0 0 0 ⟨#[]⟩).toArray 29
    rw [← hV, hUs] at this; exact this
  have BV : Hid (Below w.heap.size w V) := bU.trans (bV.mono (by omega))
  have J0 : V.drew.rangeAt w.heap.size 0 a.cells := fun i x hx => (bV.cell (p := ⟨w.heap.size, 0 + i, none⟩) (by show w.heap.size < _; omega)).trans (rU i x hx)
  have hVV : (w.alloc (.cells a.cells.toArray 32)).alloc (.cells #[.int .i64 0, .int .i64 0, .int .i64 0, .int .i64 0, .int .i64 0, .string ⟨#[]⟩] 29) = V := by rw [hV, hU]; rfl
  clear bU bV rU x1 x2 x3 x4 x5 x6 x7 x8 x9 x10 hT8 hU hV
  go_enter Tryz.func8, Tryz.ntmps8
  go_wp2_with fail
  try rw [hVV]
  clear hVV
  refine wp_region_noPanic ?_
  refine wp_region_held_drew (S := fun W => W.rangeAt w.heap.size 0 a.cells) (by kernel_rfl) J0 (fun _ => ?_)
  refine wpAnyH_take (i := 0) (v := ?_) rfl (by kernel_rfl) (by kernel_rfl) (by kernel_rfl) (fun _ _ _ h => h) (Or.inl ⟨by rfl, ?_⟩) J0 ?_
  rotate_left 1
  · intro W hSW; clear hSW; go_simp; try with_reducible rfl
  simp only [qA, qB, qC, Act.put, qD, qE, qF]
  refine wpAnyH_take (i := 1) (v := ?_) rfl (by kernel_rfl) (by kernel_rfl) (by kernel_rfl) (fun _ _ _ h => h) (Or.inl ⟨by rfl, ?_⟩) J0 ?_
  rotate_left 1
  · intro W hSW; have qc : W.cell? ⟨w.heap.size, 0, none⟩ = some (.int .i64 a.c) := hSW 0 _ rfl; clear hSW; go_simp; try with_reducible rfl
  simp only [qA, qB, qC, Act.put, qD, qE, qF]
  refine wpAnyH_take (i := 4) (v := ?_) rfl (by kernel_rfl) (by kernel_rfl) (by kernel_rfl) (fun _ _ _ h => h) (Or.inl ⟨by rfl, ?_⟩) J0 ?_
  rotate_left 1
  · intro W hSW; clear hSW; go_simp; try with_reducible rfl
  simp only [qA, qB, qC, Act.put, qD, qE, qF]
  refine wpAnyH_take (i := 5) (v := ?_) rfl (by kernel_rfl) (by kernel_rfl) (by kernel_rfl) (fun _ _ _ h => h) (Or.inl ⟨by rfl, ?_⟩) J0 ?_
  rotate_left 1
  · intro W hSW; clear hSW; go_simp; try with_reducible rfl
  simp only [qA, qB, qC, Act.put, qD, qE, qF]
  refine wpAnyH_take (i := 6) (v := ?_) rfl (by kernel_rfl) (by kernel_rfl) (by kernel_rfl) (fun _ _ _ h => h) (Or.inl ⟨by rfl, ?_⟩) J0 ?_
  rotate_left 1
  · intro W hSW; have qc : W.cell? ⟨w.heap.size, 1, none⟩ = some (.int .i64 a.o) := hSW 1 _ rfl; clear hSW; go_simp; try with_reducible rfl
  simp only [qA, qB, qC, Act.put, qD, qE, qF]
  refine wpAnyH_take (i := 9) (v := ?_) rfl (by kernel_rfl) (by kernel_rfl) (by kernel_rfl) (fun _ _ _ h => h) (Or.inl ⟨by rfl, ?_⟩) J0 ?_
  rotate_left 1
  · intro W hSW; clear hSW; go_simp; try with_reducible rfl
  simp only [qA, qB, qC, Act.put, qD, qE, qF]
  refine wpAnyH_take (i := 10) (v := ?_) rfl (by kernel_rfl) (by kernel_rfl) (by kernel_rfl) (fun _ _ _ h => h) (Or.inl ⟨by rfl, ?_⟩) J0 ?_
  rotate_left 1
  · intro W hSW; have qc : W.cell? ⟨w.heap.size, 2, none⟩ = some (.int .i64 a.p) := hSW 2 _ rfl; clear hSW; go_simp; try with_reducible rfl
  simp only [qA, qB, qC, Act.put, qD, qE, qF]
  refine wpAnyH_take (i := 13) (v := ?_) rfl (by kernel_rfl) (by kernel_rfl) (by kernel_rfl) (fun _ _ _ h => h) (Or.inl ⟨by rfl, ?_⟩) J0 ?_
  rotate_left 1
  · intro W hSW; clear hSW; go_simp; try with_reducible rfl
  simp only [qA, qB, qC, Act.put, qD, qE, qF]
  refine wpAnyH_take (i := 14) (v := ?_) rfl (by kernel_rfl) (by kernel_rfl) (by kernel_rfl) (fun _ _ _ h => h) (Or.inl ⟨by rfl, ?_⟩) J0 ?_
  rotate_left 1
  · intro W hSW; have qc : W.cell? ⟨w.heap.size, 3, none⟩ = some (.int .i64 a.v) := hSW 3 _ rfl; clear hSW; go_simp; try with_reducible rfl
  simp only [qA, qB, qC, Act.put, qD, qE, qF]
  refine wpAnyH_take (i := 16) (v := ?_) rfl (by kernel_rfl) (by kernel_rfl) (by kernel_rfl) (fun _ _ _ h => h) (Or.inl ⟨by rfl, ?_⟩) J0 ?_
  rotate_left 1
  · intro W hSW; clear hSW; go_simp; try with_reducible rfl
  simp only [qA, qB, qC, Act.put, qD, qE, qF]
  refine wpAnyH_take (i := 17) (v := ?_) rfl (by kernel_rfl) (by kernel_rfl) (by kernel_rfl) (fun _ _ _ h => h) (Or.inl ⟨by rfl, ?_⟩) J0 ?_
  rotate_left 1
  · intro W hSW; have qc : W.cell? ⟨w.heap.size, 4, none⟩ = some (.int .i64 a.t) := hSW 4 _ rfl; clear hSW; go_simp; try with_reducible rfl
  simp only [qA, qB, qC, Act.put, qD, qE, qF]
  refine wpAnyH_ready (rs := [2]) (by kernel_rfl) (by simp) ?_
  refine AllReadyH.cons rfl (fun K' hK' => ?_) AllReadyH.nil
  rw [if_pos (by rfl)]
  go_simp
  refine (hc V.drew).mono ?_
  rintro e W' ⟨rfl, hw'⟩
  obtain rfl : V.drew = W' := hw'.symm
  clear hw'
  refine hK'.out _ _ J0 (fun _ => ?_)
  clear hK' K'
  try simp only [qA, qB, qC, Act.put, qD, qE, qF]
  refine wpAnyH_take (i := 3) (v := ?_) rfl (by kernel_rfl) (by kernel_rfl) (by kernel_rfl) (fun _ _ _ h => h) (Or.inl ⟨by rfl, ?_⟩) J0 ?_
  rotate_left 1
  · intro W hSW; clear hSW; go_simp; try with_reducible rfl
  simp only [qA, qB, qC, Act.put, qD, qE, qF]
  refine wpAnyH_ready (rs := [7]) (by kernel_rfl) (by simp) ?_
  refine AllReadyH.cons rfl (fun K' hK' => ?_) AllReadyH.nil
  rw [if_pos (by rfl)]
  go_simp
  refine (ho V.drew).mono ?_
  rintro e W' ⟨rfl, hw'⟩
  obtain rfl : V.drew = W' := hw'.symm
  clear hw'
  refine hK'.out _ _ J0 (fun _ => ?_)
  clear hK' K'
  try simp only [qA, qB, qC, Act.put, qD, qE, qF]
  refine wpAnyH_take (i := 8) (v := ?_) rfl (by kernel_rfl) (by kernel_rfl) (by kernel_rfl) (fun _ _ _ h => h) (Or.inl ⟨by rfl, ?_⟩) J0 ?_
  rotate_left 1
  · intro W hSW; clear hSW; go_simp; try with_reducible rfl
  simp only [qA, qB, qC, Act.put, qD, qE, qF]
  refine wpAnyH_ready (rs := [11]) (by kernel_rfl) (by simp) ?_
  refine AllReadyH.cons rfl (fun K' hK' => ?_) AllReadyH.nil
  rw [if_pos (by rfl)]
  go_simp
  refine (hp V.drew).mono ?_
  rintro e W' ⟨rfl, hw'⟩
  obtain rfl : V.drew = W' := hw'.symm
  clear hw'
  refine hK'.out _ _ J0 (fun _ => ?_)
  clear hK' K'
  try simp only [qA, qB, qC, Act.put, qD, qE, qF]
  refine wpAnyH_take (i := 12) (v := ?_) rfl (by kernel_rfl) (by kernel_rfl) (by kernel_rfl) (fun _ _ _ h => h) (Or.inl ⟨by rfl, ?_⟩) J0 ?_
  rotate_left 1
  · intro W hSW; clear hSW; go_simp; try with_reducible rfl
  simp only [qA, qB, qC, Act.put, qD, qE, qF]
  refine wpAnyH_ready (rs := [15]) (by kernel_rfl) (by simp) ?_
  refine AllReadyH.cons rfl (fun K' hK' => ?_) AllReadyH.nil
  rw [if_pos (by rfl)]
  go_simp
  refine (hv V.drew).mono ?_
  rintro e W' ⟨rfl, hw'⟩
  obtain rfl : V.drew = W' := hw'.symm
  clear hw'
  refine hK'.out _ _ J0 (fun _ => ?_)
  clear hK' K'
  try simp only [qA, qB, qC, Act.put, qD, qE, qF]
  refine wpAnyH_ready (rs := [18]) (by kernel_rfl) (by simp) ?_
  refine AllReadyH.cons rfl (fun K' hK' => ?_) AllReadyH.nil
  rw [if_pos (by rfl)]
  go_simp
  refine (ht V.drew).mono ?_
  rintro e W' ⟨rfl, hw'⟩
  obtain rfl : V.drew = W' := hw'.symm
  clear hw'
  refine hK'.out _ _ J0 (fun _ => ?_)
  clear hK' K'
  try simp only [qA, qB, qC, Act.put, qD, qE, qF]
  refine wpAnyH_take (i := 19) (v := .string T) rfl (by kernel_rfl) (by kernel_rfl) (by kernel_rfl) (fun _ _ _ h => h) (Or.inl ⟨by rfl, ?_⟩) J0 ?_
  · intro W hSW; have hsl := hslice W; clear hSW; go_simp; try with_reducible rfl
  simp only [qA, qB, qC, Act.put, qD, qE, qF]
  refine wpAnyH_take (i := 20) (v := .agg (rqCells (1 + rc) no (1 + ro) (1 + rp) rv T).toArray) rfl (by kernel_rfl) (by kernel_rfl) (by kernel_rfl) (fun _ _ _ h => h) (yieldsIf_build (by rfl) 29 _ rfl (rqCells (1 + rc) no (1 + ro) (1 + rp) rv T).toArray (Eq.trans (congrArg (Tryz.prog.built _) (by simp [Act.eval, wrc, wro, wrp])) (rq_built _ _ _ _ _ _))) J0 ?_
  simp only [qA, qB, qC, Act.put, qD, qE, qF]
  refine wpAnyH_ready (rs := [21]) (by kernel_rfl) (by simp) ?_
  refine AllReadyH.cons rfl (fun K' hK' => ?_) AllReadyH.nil
  rw [if_pos (by rfl)]
  refine wp_store_abs 29 _ _ rfl (w.heap.size + 1) 0 (rqCells (1 + rc) no (1 + ro) (1 + rp) rv T) rfl rfl TV.out (info_rq _ _ _ _ _ _) (rq_one _ _ _ _ _ _) ?_
  intro W6 hw6 hr6 _ht6 hb6
  have J6 : W6.rangeAt w.heap.size 0 a.cells := by rw [hw6]; exact World.rangeAt_setCells_apart J0 _ _ _ (Or.inl (by omega))
  have B6 : Below w.heap.size w W6 := (BV.out.drew).trans (hb6 w.heap.size (by omega))
  clear _ht6 hw6 hb6
  refine hK'.out _ _ J6 (fun _ => ?_)
  clear hK' K'
  try simp only [qA, qB, qC, Act.put, qD, qE, qF]
  refine ⟨by kernel_rfl, ?_⟩
  refine NoPanic.normal ?_
  try simp only [qA, qB, qC, Act.put, qD, qE, qF]
  go_wp2_with fail
  exact ret_cell rfl (w.heap.size + 1) 0 (rqCells (1 + rc) no (1 + ro) (1 + rp) rv T) _ rfl hr6 Tryz.underlying29 rfl (info_rq _ _ _ _ _ _) rfl ⟨_, _, _, _, _, rfl, HW.out, B6⟩
end Go.Proofs.YteglimjonofdeaaGreatDoor
set_option linter.unusedVariables false
set_option linter.unusedSimpArgs false
namespace Go.Proofs.YteglimjonofdeaaGreatDoor
open Go.RowKit

/-- A node that is alone, with k entries in its log; all its blocks lie from B on; xn: the door's node. -/
structure Onc (K : Nat → Int) (z : Nv) (ky N B xn k nd q bb j : Nat) (C : Nat → List Int) (l : ByteArray) (bk lm m : Nat) (lv : Value) (L : List En) (G F : Nat → Prop) (D : DataW Unit) (w : World) : Prop where
  al : Al K w z nd q bb N j (k + 1 + ky) C l bk lm m (3 * k) ky lv L G F D
  r0 : z.r = 0
  l0 : z.last = 0
  x : w.cell? ⟨xn, 0, none⟩ = some (.pointer (some ⟨nd, 0, none⟩))
  xl : xn < w.heap.size
  xo : ¬ alOwn q bb j bk lm lv G xn
  len : L.length = k
  nos : ∀ e ∈ L, e.n ≤ k
  last : ∀ c : Int, ∃ i no, lastIs L D c no i
  base : ∀ g, alOwn q bb j bk lm lv G g → B ≤ g
  bl : B ≤ w.heap.size
theorem Onc.fresh {K : Nat → Int} {z : Nv} {ky N B xn k nd q bb j : Nat} {C : Nat → List Int} {l : ByteArray} {bk lm m : Nat} {lv : Value} {L : List En} {G F : Nat → Prop} {D : DataW Unit} {w w' : World} (h : Onc K z ky N B xn k nd q bb j C l bk lm m lv L G F D w) (hb : Below w.heap.size w w') : Onc K z ky N B xn k nd q bb j C l bk lm m lv L G F D w' :=
  ⟨h.al.fresh hb, h.r0, h.l0, (hb.cell (p := ⟨xn, 0, none⟩) h.xl).trans h.x, Nat.lt_of_lt_of_le h.xl hb.size, h.xo, h.len, h.nos, h.last, h.base, Nat.le_trans h.bl hb.size⟩
theorem Onc.lastBound {K : Nat → Int} {z : Nv} {ky N B xn k nd q bb j : Nat} {C : Nat → List Int} {l : ByteArray} {bk lm m : Nat} {lv : Value} {L : List En} {G F : Nat → Prop} {D : DataW Unit} {w : World} (h : Onc K z ky N B xn k nd q bb j C l bk lm m lv L G F D w) {c no : Int} {i : Nat} (hl : lastIs L D c no i) : no ≤ k := by
  rcases hl.2 with ⟨_, rfl⟩ | ⟨e, _, he, rfl⟩
  · omega
  · exact h.nos e (List.mem_of_getElem? he)
theorem last_put (L : List En) (D : DataW Unit) (c : Int) (e : En) (hD : Maps.IsMap D) : lastIs (L ++ [e]) (D.put (.int .i64 c) (.lit (.int .i64 ((L.length + 1 : Nat) : Int)))) c e.n (L.length + 1) :=
  ⟨Maps.atKey_put_same hD (by simp [WideAt.IsKeyLit]) _ _, Or.inr ⟨e, by omega, by rw [Nat.add_sub_cancel, List.getElem?_append_right (Nat.le_refl _), Nat.sub_self]; rfl, rfl⟩⟩
theorem last_other (L : List En) (D : DataW Unit) (c c' no : Int) (i : Nat) (e : En) (d : DataW Unit) (hne : c' ≠ c) (h : lastIs L D c' no i) : lastIs (L ++ [e]) (D.put (.int .i64 c) d) c' no i := by
  refine ⟨(Maps.atKey_put_other (by simpa using hne) _ _).trans h.1, h.2.imp id (fun ⟨x, h1, h2, h3⟩ => ⟨x, h1, ?_, h3⟩)⟩
  rw [List.getElem?_append_left (List.getElem?_eq_some_iff.1 h2).1]
  exact h2

set_option maxHeartbeats 1000000 in
/-- A new request. -/
theorem o_new (K : Nat → Int) (z : Nv) (ky N B xn k nd q bb j : Nat) (C : Nat → List Int) (l : ByteArray) (bk lm m : Nat) (lv : Value) (L : List En) (G F : Nat → Prop) (D : DataW Unit) (c n o p v : Int) (t : ByteArray) (w : World) (h : Onc K z ky N B xn k nd q bb j C l bk lm m lv L G F D w) (hw : rqWhole c n o p v t = true) (hn : n = ((k + 1 : Nat) : Int)) (hk : k < 150) (hN : N ≤ 400) (hkN : k + 1 + ky < N) :
    Calls Tryz.prog 9 #[.pointer (some ⟨xn, 0, none⟩), .agg (rqCells c n o p v t).toArray] w fun e w' => ∃ C' l' lv' G' F' L' D' en b, e = .returned (.tuple #[.slice (some ⟨b, 0, none⟩) 1 1, .nilIface]) ∧ Onc K z ky N B xn (k + 1) nd q bb j C' l' bk lm m lv' L' G' F' D' w' ∧ onePk en w w' b ∧ Below B w w' ∧ lastIs L' D' c n (k + 1) ∧ L'[k]? = some en ∧ en.c = c ∧ Kept (alOwn q bb j bk lm lv G) w w' := by
  obtain ⟨i, no, hl⟩ := h.last c
  have hno := h.lastBound hl
  have hlen := h.len
  have hD : Maps.IsMap D := by obtain ⟨es, clock, _, _, _, e⟩ := h.al.book.lasts; exact ⟨_, e⟩
  refine (dreq_any xn nd c n o p v t (fun W s r w' => ∃ C' l' lv' G' F' k' vv tt b, s = .slice (some ⟨b, 0, none⟩) 1 1 ∧ r = .nilIface ∧ Al K w' z nd q bb N j (k + 2 + ky) C' l' bk lm m (3 * (k + 1)) ky lv' (L ++ [⟨c, n, o, p, v, t, k', vv, tt⟩]) G' F' (D.put (.int .i64 c) (.lit (.int .i64 ((L.length + 1 : Nat) : Int)))) ∧ onePk ⟨c, n, o, p, v, t, k', vv, tt⟩ W w' b ∧ Kept (alOwn q bb j bk lm lv G) W w' ∧ ∀ g, bkOwn bk lm lv' G' g → bkOwn bk lm lv G g ∨ W.heap.size ≤ g)
    (alOwn q bb j bk lm lv G) w h.x h.xl h.xo (fun g hg => by rcases hg with hg | hg; exact h.al.jat.ownLt g hg; exact h.al.book.ownLt g hg) (fun W hbW => ?_)).mono ?_
  · refine (req_new K z nd q bb N j (k + 1 + ky) C l bk lm m (3 * k) ky lv L G F D c n o p v t no i W (h.al.fresh hbW) h.r0 hw hl (by omega) (by omega) (fun W2 s r w' => ∃ C' l' lv' G' F' k' vv tt b, s = .slice (some ⟨b, 0, none⟩) 1 1 ∧ r = .nilIface ∧ Al K w' z nd q bb N j (k + 2 + ky) C' l' bk lm m (3 * (k + 1)) ky lv' (L ++ [⟨c, n, o, p, v, t, k', vv, tt⟩]) G' F' (D.put (.int .i64 c) (.lit (.int .i64 ((L.length + 1 : Nat) : Int)))) ∧ onePk ⟨c, n, o, p, v, t, k', vv, tt⟩ W2 w' b ∧ Kept (alOwn q bb j bk lm lv G) W2 w' ∧ ∀ g, bkOwn bk lm lv' G' g → bkOwn bk lm lv G g ∨ W2.heap.size ≤ g) (fun W2 hb2 => ?_)).mono ?_
    · refine (ntake_alone K z nd q bb N j (k + 1 + ky) C l bk lm m (3 * k) ky lv L G F D c n o p v t W2 ((h.al.fresh hbW).fresh hb2) h.r0 h.l0 (by omega) (by omega) hw (by omega) (by omega)).mono ?_
      rintro e w' ⟨C', l', lv', G', F', k', vv, tt, b, rfl, a, pk, kk, oo⟩
      rw [show k + 1 + ky + 1 = k + 2 + ky by omega, show 3 * k + 3 = 3 * (k + 1) by omega] at a
      exact ⟨_, _, rfl, C', l', lv', G', F', k', vv, tt, b, rfl, rfl, a, pk, kk, oo⟩
    · rintro e w' ⟨W2, s, r, hb2, rfl, C', l', lv', G', F', k', vv, tt, b, rfl, rfl, a, pk, kk, oo⟩
      have s2 := hb2.size
      have kk' : Kept (alOwn q bb j bk lm lv G) W w' := (Kept.fresh (S := alOwn q bb j bk lm lv G) hb2).trans kk (fun _ _ h => h)
      exact ⟨_, _, rfl, ⟨C', l', lv', G', F', k', vv, tt, b, rfl, rfl, a, ⟨Nat.le_trans s2 pk.1, pk.2⟩, kk', fun g hg => (oo g hg).imp id (fun e => Nat.le_trans s2 e)⟩, kk'⟩
  · rintro e w' ⟨W, s, r, hbW, rfl, C', l', lv', G', F', k', vv, tt, b, rfl, rfl, a, pk, kk, oo⟩
    have sW := hbW.size
    have sw := kk.size
    have bW : Below B w w' := (hbW.mono h.bl).trans (kk.toBelow (Nat.le_trans h.bl sW) h.base)
    have hb := h.bl
    refine ⟨C', l', lv', G', F', _, _, ⟨c, n, o, p, v, t, k', vv, tt⟩, b, rfl, ⟨by rw [show k + 1 + 1 + ky = k + 2 + ky by omega]; exact a, h.r0, h.l0, ?_, by have := h.xl; omega, fun e => ?_, ?_, fun x hx => ?_, fun c' => ?_, fun g hg => ?_, by omega⟩, ⟨Nat.le_trans sW pk.1, pk.2⟩, bW, ?_, ?_, rfl, (Kept.fresh (S := alOwn q bb j bk lm lv G) hbW).trans kk (fun _ _ h => h)⟩
    · exact (kk.cell (a := ⟨xn, 0, none⟩) (Nat.lt_of_lt_of_le h.xl sW) h.xo).trans ((hbW.cell (p := ⟨xn, 0, none⟩) h.xl).trans h.x)
    · rcases e with e | e
      · exact h.xo (Or.inl e)
      · rcases oo xn e with e | e
        · exact h.xo (Or.inr e)
        · have := h.xl; omega
    · rw [List.length_append, List.length_singleton, hlen]
    · rcases List.mem_append.1 hx with hx | hx
      · have := h.nos x hx; omega
      · rw [List.mem_singleton.1 hx]; show n ≤ _; omega
    · by_cases e : c' = c
      · subst e; exact ⟨_, _, last_put L D c' ⟨c', n, o, p, v, t, k', vv, tt⟩ hD⟩
      · obtain ⟨i', no', hl'⟩ := h.last c'
        exact ⟨i', no', last_other L D c c' no' i' _ _ e hl'⟩
    · rcases hg with hg | hg
      · exact h.base g (Or.inl hg)
      · rcases oo g hg with e | e
        · exact h.base g (Or.inr e)
        · omega
    · have := last_put L D c ⟨c, n, o, p, v, t, k', vv, tt⟩ hD
      rw [← hlen]; exact this
    · rw [← hlen, List.getElem?_append_right (Nat.le_refl _), Nat.sub_self]; rfl

set_option maxHeartbeats 1000000 in
/-- The same request again. -/
theorem o_again (K : Nat → Int) (z : Nv) (ky N B xn k nd q bb j : Nat) (C : Nat → List Int) (l : ByteArray) (bk lm m : Nat) (lv : Value) (L : List En) (G F : Nat → Prop) (D : DataW Unit) (c n o p v : Int) (t : ByteArray) (i : Nat) (en : En) (w : World) (h : Onc K z ky N B xn k nd q bb j C l bk lm m lv L G F D w) (hw : rqWhole c n o p v t = true) (hl : lastIs L D c n (i + 1)) (hi : L[i]? = some en) (hk : k < 300) :
    Calls Tryz.prog 9 #[.pointer (some ⟨xn, 0, none⟩), .agg (rqCells c n o p v t).toArray] w fun e w' => ∃ b, e = .returned (.tuple #[.slice (some ⟨b, 0, none⟩) 1 1, .nilIface]) ∧ onePk en w w' b ∧ Below w.heap.size w w' := by
  have hlen := h.len
  refine (dreq_any xn nd c n o p v t (fun W s r w' => ∃ b, s = .slice (some ⟨b, 0, none⟩) 1 1 ∧ r = .nilIface ∧ onePk en W w' b ∧ Below W.heap.size W w') (fun _ => False) w h.x h.xl id (fun g hg => hg.elim) (fun W hbW => ?_)).mono ?_
  · have hlt : i < L.length := (List.getElem?_eq_some_iff.1 hi).1
    refine (req_again K z nd q bb N j (k + 1 + ky) C l bk lm m (3 * k) ky lv L G F D c n o p v t (i + 1) W (h.al.fresh hbW) h.r0 hw hl (by omega) (by omega) (fun W2 s w' => ∃ b, s = .slice (some ⟨b, 0, none⟩) 1 1 ∧ onePk en W2 w' b) (fun W2 hb2 => ?_)).mono ?_
    · refine (again_any K z nd q bb N j (k + 1 + ky) C l bk lm m (3 * k) ky lv L G F D (i + 1) en W2 ((h.al.fresh hbW).fresh hb2) (by omega) (by rw [Nat.add_sub_cancel]; exact hi) (by omega) (by unfold ackOf; rw [if_pos (h.r0.trans h.l0.symm)]; omega)).mono ?_
      rintro e w' ⟨b, rfl, pk, b2⟩
      exact ⟨_, rfl, ⟨b, rfl, pk⟩, b2⟩
    · rintro e w' ⟨W2, s, hb2, rfl, ⟨b, rfl, pk⟩, bw⟩
      exact ⟨_, _, rfl, ⟨b, rfl, rfl, ⟨Nat.le_trans hb2.size pk.1, pk.2⟩, bw⟩, Kept.fresh bw⟩
  · rintro e w' ⟨W, s, r, hbW, rfl, b, rfl, rfl, pk, bb'⟩
    exact ⟨b, rfl, ⟨Nat.le_trans hbW.size pk.1, pk.2⟩, hbW.trans (bb'.mono hbW.size)⟩

set_option maxHeartbeats 1000000 in
/-- An old request. -/
theorem o_old (K : Nat → Int) (z : Nv) (ky N B xn k nd q bb j : Nat) (C : Nat → List Int) (l : ByteArray) (bk lm m : Nat) (lv : Value) (L : List En) (G F : Nat → Prop) (D : DataW Unit) (c n o p v no : Int) (t : ByteArray) (i : Nat) (w : World) (h : Onc K z ky N B xn k nd q bb j C l bk lm m lv L G F D w) (hw : rqWhole c n o p v t = true) (hl : lastIs L D c no i) (hno : n < no) (hk : k < 300) :
    Calls Tryz.prog 9 #[.pointer (some ⟨xn, 0, none⟩), .agg (rqCells c n o p v t).toArray] w fun e w' => e = .returned (.tuple #[.slice none 0 0, .iface 41 (.int .i64 2)]) ∧ Below w.heap.size w w' := by
  have hlen := h.len
  refine (dreq_any xn nd c n o p v t (fun W s r w' => s = .slice none 0 0 ∧ r = .iface 41 (.int .i64 2) ∧ Below W.heap.size W w') (fun _ => False) w h.x h.xl id (fun g hg => hg.elim) (fun W hbW => ?_)).mono ?_
  · refine (req_old K z nd q bb N j (k + 1 + ky) C l bk lm m (3 * k) ky lv L G F D c n o p v t no i W (h.al.fresh hbW) h.r0 hw hl (by omega) hno).mono ?_
    rintro e w' ⟨rfl, bb'⟩
    exact ⟨_, _, rfl, ⟨rfl, rfl, bb'⟩, Kept.fresh bb'⟩
  · rintro e w' ⟨W, s, r, hbW, rfl, rfl, rfl, bb'⟩
    exact ⟨rfl, hbW.trans (bb'.mono hbW.size)⟩
/-- What is seen. -/
theorem o_see (K : Nat → Int) (z : Nv) (ky N B xn k nd q bb j : Nat) (C : Nat → List Int) (l : ByteArray) (bk lm m : Nat) (lv : Value) (L : List En) (G F : Nat → Prop) (D : DataW Unit) (es : Array MapEntry) (clock : Nat) (w : World) (h : Onc K z ky N B xn k nd q bb j C l bk lm m lv L G F D w) (hm : w.heap[m]? = some (.map es clock)) (hk : k < 300) :
    Calls Tryz.prog 10 #[.pointer (some ⟨xn, 0, none⟩)] w fun e w' => e = .returned (.agg (stG (k : Nat) (k : Nat) (es.size : Nat) (ky : Nat)).toArray) ∧ Below w.heap.size w w' := by
  have hlen := h.len
  obtain ⟨es', clock', hm', hsz⟩ := h.al.book.recs.map.block
  obtain rfl : es' = es := by rw [hm] at hm'; simp at hm'; exact hm'.1.symm
  have := dsee_any K z nd q bb N j (k + 1 + ky) C l bk lm m (3 * k) ky lv L G F D es' clock xn w h.al h.x h.xl hm (by omega) (by omega)
  rw [show ackOf z L.length = (L.length : Int) from if_pos (h.r0.trans h.l0.symm), hlen] at this
  exact this
end Go.Proofs.YteglimjonofdeaaGreatDoor
