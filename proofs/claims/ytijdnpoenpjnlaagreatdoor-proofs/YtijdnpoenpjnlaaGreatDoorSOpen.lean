import Derived.Test.YtijdnpoenpjnlaaGreatDoorRSums
import Derived.ProofKit
import Derived.OpenShut
import Derived.SizedLaws
import Derived.Deep.Slices
import Derived.ChangeSame
import Derived.Carry
set_option linter.unusedVariables false
set_option linter.unusedSimpArgs false
namespace Go.Proofs.YtijdnpoenpjnlaaGreatDoor
open Go.ChangeShapes Go.WideShapes Go.ChangeAt Go.RowKit

theorem weights_all {H : Type} {P : Program} {e : TypeId} : ∀ {ds : List (DataW H)} {d : DataW H}, d ∈ ds → ∀ n ∈ d.weights P e, n ∈ DataW.weightsAll P e ds
  | d0 :: ds, d, hd, n, hn => by
    simp only [DataW.weightsAll, List.mem_append]
    rcases List.mem_cons.1 hd with rfl | hd
    · exact Or.inl hn
    · exact Or.inr (weights_all hd n hn)

theorem cellsOp : Tryz.prog.cellsOf 28 = 8 := by kernel_rfl
theorem cellsInt : Tryz.prog.cellsOf 3 = 1 := by kernel_rfl
theorem cellsStr : Tryz.prog.cellsOf 9 = 1 := by kernel_rfl
theorem bytesOp : Tryz.prog.bytesOf 28 = 72 := by kernel_rfl
/-- The step's fields: seven numbers and a text. -/
theorem fieldsOp : ∃ fs : Array Field, Tryz.prog.underlying 28 = some (.struct fs) ∧ fs.toList.map (fun f => (f.type, f.offset)) = [(3, 0), (3, 1), (3, 2), (3, 3), (3, 4), (3, 5), (3, 6), (9, 7)] :=
  ⟨_, Tryz.underlying28, by kernel_rfl⟩

theorem field_at {fs : Array Field} {i t off : Nat} (h : (fs.toList.map (fun f => (f.type, f.offset)))[i]? = some (t, off)) : ∃ f, fs[i]? = some f ∧ f.type = t ∧ f.offset = off := by
  rw [List.getElem?_map] at h
  obtain ⟨f, hf, e⟩ := Option.map_eq_some_iff.1 h
  simp only [Prod.mk.injEq] at e
  exact ⟨f, by simpa using hf, e.1, e.2⟩

theorem open_op {H : Type} {enc : TypeId × Value → H} {W : World} {base n : Nat} {sp : Nat → Bool} {held : Bool} {cs : List Value} {x : DataW H × List MemPlace} (h : DataW.trod enc Tryz.prog W base sp held n 28 cs = some x) :
    ∃ o : Op8, cs = o.cells ∧ OpOk o.x o.y o.z o.a o.b o.c ∧ -9223372036854775808 ≤ o.k ∧ o.k ≤ 9223372036854775807 ∧ o.s.size ∈ x.1.weights Tryz.prog 28 := by
  obtain ⟨fs, hu, hfs⟩ := fieldsOp
  obtain ⟨xs, m, _, rfl, hcl, hxl, hf⟩ := DataW.trod_struct hu h
  rw [cellsOp] at hcl
  have num : ∀ i, i < 7 → ∃ k : Int, cs[i]? = some (.int .i64 k) ∧ -9223372036854775808 ≤ k ∧ k ≤ 9223372036854775807 := by
    intro i hi
    obtain ⟨f, hf1, hft, hfo⟩ := field_at (fs := fs) (i := i) (t := 3) (off := i) (by
      rw [hfs]
      obtain rfl | rfl | rfl | rfl | rfl | rfl | rfl : i = 0 ∨ i = 1 ∨ i = 2 ∨ i = 3 ∨ i = 4 ∨ i = 5 ∨ i = 6 := by omega
      all_goals rfl)
    have hx := hf i f hf1
    rw [hft, hfo, cellsInt] at hx
    have hlt : i < xs.length := by
      rw [hxl]; exact (Array.getElem?_eq_some_iff.1 hf1).1
    rw [List.getElem?_eq_getElem hlt] at hx
    obtain ⟨k, hk, _, hwf⟩ := DataW.trod_int Tryz.underlying3 hx
    have hb := bounds_i64 hwf
    refine ⟨k, ?_, by omega, by omega⟩
    have : ((cs.drop i).take 1)[0]? = some (.int .i64 k) := by rw [hk]; rfl
    rw [List.getElem?_take_of_lt (by omega), List.getElem?_drop] at this
    simpa using this
  obtain ⟨s, hs, hsw⟩ : ∃ s : ByteArray, cs[7]? = some (.string s) ∧ s.size ∈ DataW.weights Tryz.prog 28 (.agg (xs.map (·.1))) := by
    obtain ⟨f, hf1, hft, hfo⟩ := field_at (fs := fs) (i := 7) (t := 9) (off := 7) (by rw [hfs]; rfl)
    have hx := hf 7 f hf1
    rw [hft, hfo, cellsStr] at hx
    have hlt : 7 < xs.length := by
      rw [hxl]; exact (Array.getElem?_eq_some_iff.1 hf1).1
    have hxe := List.getElem?_eq_getElem hlt
    rw [hxe] at hx
    obtain ⟨s, hk, hd, _⟩ := DataW.trod_string Tryz.underlying9 hx
    refine ⟨s, ?_, ?_⟩
    · have : ((cs.drop 7).take 1)[0]? = some (.string s) := by rw [hk]; rfl
      rw [List.getElem?_take_of_lt (by omega), List.getElem?_drop] at this
      simpa using this
    · unfold DataW.weights
      rw [hu]
      refine DataW.weights_mem_each (j := 7) (t := 9) (d := .lit (.string s.data.toList)) ?_ ?_ s.size ?_
      · have : (fs.toList.map (fun f => (f.type, f.offset)))[7]? = some (9, 7) := by rw [hfs]; rfl
        rw [List.getElem?_map] at this ⊢
        obtain ⟨f', hf', e'⟩ := Option.map_eq_some_iff.1 this
        simp only [Prod.mk.injEq] at e'
        rw [hf', Option.map_some, e'.1]
      · rw [List.getElem?_map, hxe, Option.map_some, hd]
      · simp only [DataW.weights, List.mem_singleton]; exact Lib.size_eq s
  obtain ⟨k0, e0, l0, u0⟩ := num 0 (by omega)
  obtain ⟨k1, e1, l1, u1⟩ := num 1 (by omega)
  obtain ⟨k2, e2, l2, u2⟩ := num 2 (by omega)
  obtain ⟨k3, e3, l3, u3⟩ := num 3 (by omega)
  obtain ⟨k4, e4, l4, u4⟩ := num 4 (by omega)
  obtain ⟨k5, e5, l5, u5⟩ := num 5 (by omega)
  obtain ⟨k6, e6, l6, u6⟩ := num 6 (by omega)
  refine ⟨⟨k0, k1, k2, k3, k4, k5, k6, s⟩, ?_, ⟨l1, u1, l2, u2, l3, u3, l4, u4, l5, u5, l6, u6⟩, l0, u0, hsw⟩
  match cs, hcl, e0, e1, e2, e3, e4, e5, e6, hs with
  | [a0, a1, a2, a3, a4, a5, a6, a7], _, e0, e1, e2, e3, e4, e5, e6, hs =>
    simp at e0 e1 e2 e3 e4 e5 e6 hs
    subst e0 e1 e2 e3 e4 e5 e6 hs
    rfl

theorem open_ops {H : Type} {enc : TypeId × Value → H} {W : World} {v : Value} {d : DataW H} {ps : List MemPlace} (hv : ∃ a len cap, v = .slice a len cap) (h : DataW.Trod enc Tryz.prog W 0 (fun _ => true) true 22 v d ps)
    (hw : ∀ n ∈ d.weights Tryz.prog 22, n ≤ reachBytes) :
    ∃ l : List Op8, OpsAt W v l ∧ l.length ≤ 140737488355328 ∧ (∀ o ∈ l, o.s.size ≤ 140737488355328) ∧ ∀ o ∈ l, OpOk o.x o.y o.z o.a o.b o.c ∧ -9223372036854775808 ≤ o.k ∧ o.k ≤ 9223372036854775807 := by
  obtain ⟨fuel, hf⟩ := h
  obtain ⟨ao, vlen, vcap, rfl⟩ := hv
  have hrb : reachBytes ≤ 140737488355328 := by decide
  rcases Deep.open_slice Tryz.underlying22 hf with ⟨hc, _⟩ | ⟨a, len, cap, m, n, D, Pl, hc, _, hl, hm, hmm, hx, hall⟩
  · simp [Value.cells] at hc
    obtain ⟨rfl, rfl, rfl⟩ := hc
    exact ⟨[], ⟨Or.inl ⟨⟨none, 0, rfl⟩, rfl⟩⟩, by simp, (fun o ho => by cases ho), fun o ho => by cases ho⟩
  · simp [Value.cells] at hc
    obtain ⟨rfl, rfl, rfl⟩ := hc
    simp only [Prod.mk.injEq] at hx
    obtain ⟨rfl, _⟩ := hx
    have hlm : vlen ≤ m := by rw [hmm]; simp; exact hl
    have each : ∀ i, i < vlen → ∃ o : Op8, (∀ j u, o.cells[j]? = some u → W.cell? ((a.add (i * 8)).add j) = some u) ∧ OpOk o.x o.y o.z o.a o.b o.c ∧ -9223372036854775808 ≤ o.k ∧ o.k ≤ 9223372036854775807 ∧ o.s.size ∈ (D i).weights Tryz.prog 28 := by
      intro i hi
      obtain ⟨cs', h1, h2⟩ := hall i (by omega)
      obtain ⟨o, rfl, ho1, ho2, ho3, ho4⟩ := open_op h2
      rw [cellsOp] at h1
      obtain ⟨_, hlen, hcell⟩ := World.cells?_some h1
      refine ⟨o, fun j u hu => ?_, ho1, ho2, ho3, ho4⟩
      have hj : j < 8 := (List.getElem?_eq_some_iff.1 hu).1
      rw [hcell j hj]; exact hu
    have inst : Inhabited Op8 := ⟨⟨0, 0, 0, 0, 0, 0, 0, ⟨#[]⟩⟩⟩
    obtain ⟨O, hO⟩ := Deep.choose_lt each
    have hsize : ∀ i, i < vlen → (O i).s.size ≤ reachBytes := fun i hi => by
      refine hw _ ?_
      unfold DataW.weights
      rw [Tryz.underlying22]
      simp only [List.mem_cons, List.mem_append]
      exact Or.inr (Or.inl (weights_all (List.mem_map.2 ⟨i, List.mem_range.2 hi, rfl⟩) _ (hO i hi).2.2.2.2))
    have hlen : vlen * 72 ≤ reachBytes := by
      have := hw ((vlen + (m - vlen)) * 72) (by
        unfold DataW.weights
        rw [Tryz.underlying22]
        simp only [List.mem_cons, List.length_map, List.length_range, bytesOp, true_or])
      have h1 : vlen * 72 ≤ (vlen + (m - vlen)) * 72 := Nat.mul_le_mul_right _ (by omega)
      omega
    refine ⟨(List.range vlen).map O, ?_, ?_, ?_, ?_⟩
    · by_cases h0 : vlen = 0
      · subst h0
        exact ⟨Or.inl ⟨⟨_, _, rfl⟩, rfl⟩⟩
      · have hsp : a.spot = none := by
          have := (hO 0 (by omega)).1 0 _ rfl
          simp [Addr.add] at this
          exact World.cell?_spot this
        obtain ⟨g, off, sp⟩ := a
        simp only at hsp
        subst hsp
        refine ⟨Or.inr ⟨g, off, vcap, by simp, fun i o ho j u hu => ?_⟩⟩
        have hi : i < vlen := by have := (List.getElem?_eq_some_iff.1 ho).1; simpa using this
        rw [List.getElem?_map, List.getElem?_range hi] at ho
        simp at ho
        subst ho
        have := (hO i hi).1 j u hu
        rw [Addr.add_lit, Addr.add_lit] at this
        exact this
    · simp; omega
    · intro o ho
      obtain ⟨i, hi, rfl⟩ := List.mem_map.1 ho
      exact Nat.le_trans (hsize i (List.mem_range.1 hi)) hrb
    · intro o ho
      obtain ⟨i, hi, rfl⟩ := List.mem_map.1 ho
      have := hO i (List.mem_range.1 hi)
      exact ⟨this.2.1, this.2.2.1, this.2.2.2.1⟩
end Go.Proofs.YtijdnpoenpjnlaaGreatDoor
