import Derived.Test.YteebdadnfaekmaaDoorIRoot
set_option linter.unusedVariables false
set_option linter.unusedSimpArgs false
namespace Go.Proofs.YteebdadnfaekmaaDoor
open Go.RowKit

theorem ba_self (x : ByteArray) : (x == x) = true := by
  show (x.data == x.data) = true
  simp
theorem ba_ne {a b : ByteArray} (h : a ≠ b) : (a == b) = false := by
  show (a.data == b.data) = false
  rw [beq_eq_false_iff_ne]
  exact fun e => h (ByteArray.ext e)
/-- Two texts of one hash. -/
def clashAt (H : ByteArray → ByteArray) (ts : List ByteArray) (i j : Nat) : Prop := ∃ (hi : i < ts.length) (hj : j < ts.length), H (ts[i]'hi) = H (ts[j]'hj) ∧ ts[i]'hi ≠ ts[j]'hj
def clPost (H : ByteArray → ByteArray) (ts : List ByteArray) (w : World) (e : Ending) (w' : World) : Prop := ∃ r, e = .returned (.bool r) ∧ ((∃ i j, j < i ∧ clashAt H ts i j) → r = true) ∧ Below w.heap.size w w'
def clRel (H : ByteArray → ByteArray) (ts : List ByteArray) (w : World) (i : Value) (wr : World) : Prop := ∃ q : Nat, i = .int .i64 q ∧ q ≤ ts.length ∧ Below w.heap.size w wr ∧ ∀ i' j', i' < q → j' < i' → ¬ clashAt H ts i' j'
def clRel2 (H : ByteArray → ByteArray) (ts : List ByteArray) (w : World) (q : Nat) (j : Value) (wr : World) : Prop := ∃ m : Nat, j = .int .i64 m ∧ m ≤ q ∧ Below w.heap.size w wr ∧ ∀ j', j' < m → ¬ clashAt H ts q j'

set_option maxRecDepth 10000 in
set_option maxHeartbeats 2000000 in
theorem clash_any (H : ByteArray → ByteArray) (p : Nat) (w : World) (tv hv : Value) (ts : List ByteArray) (h : KAt H p w tv hv ts) (hn : ts.length ≤ 1000000) :
    Calls Tryd.prog 36 #[.pointer (some ⟨p, 0, none⟩)] w (clPost H ts w) := by
  have HA : Hid (KAt H p w tv hv ts) := h
  obtain ⟨ta, tn, tc, htv, htn⟩ : ∃ ao n cap, tv = .slice ao n cap ∧ n = ts.length := by
    rcases h.texts.2 with ⟨rfl, e⟩ | ⟨g, cap, cur, rfl, _⟩
    · exact ⟨none, 0, 0, rfl, e.symm⟩
    · exact ⟨_, _, _, rfl, rfl⟩
  obtain ⟨ha, hn', hc, hhv, hhn⟩ : ∃ ao n cap, hv = .slice ao n cap ∧ n = ts.length := by
    rcases h.hashes.2 with ⟨rfl, e⟩ | ⟨g, cap, cur, rfl, _⟩
    · exact ⟨none, 0, 0, rfl, e.symm⟩
    · exact ⟨_, _, _, rfl, rfl⟩
  have HT : Hid (tn = ts.length) := htn
  have HH : Hid (hn' = ts.length) := hhn
  subst htv hhv
  have hnb : hn' ≤ 1000000 := by omega
  clear htn hhn h
  go_enter Tryd.func36, Tryd.ntmps36
  go_wp2_with fail
  go_loopw [3] (clRel H ts w) (fun i _ => hn' - (intOf i).toNat)
  case atStart => exact ⟨0, rfl, Nat.zero_le _, Below.refl _ _, fun i' j' h => by omega⟩
  case round =>
    obtain ⟨q, rfl, hq, hB, hno⟩ := hrel
    have HNO : Hid (∀ i' j', i' < q → j' < i' → ¬ clashAt H ts i' j') := hno
    clear hno
    have A := HA.out.below hB
    have c1 : wr.cell? ⟨p, 1, none⟩ = some (.slice ha hn' hc) := by rw [cell_of_row wr p 1 _ _ _ A.block]; rfl
    by_cases hlt : q < hn'
    · have q1 : (q : Int) < (hn' : Int) := by omega
      have HA' : Hid (KAt H p wr (.slice ta tn tc) (.slice ha hn' hc) ts) := A
      clear A
      go_wp2_with fail
      clear c1
      go_loopw [4] (clRel2 H ts w q) (fun j _ => q - (intOf j).toNat)
      case atStart => exact ⟨0, rfl, Nat.zero_le _, hB, fun j' h => by omega⟩
      case round =>
        obtain ⟨m, rfl, hm, hB2, hno2⟩ := hrel
        have HNO2 : Hid (∀ j', j' < m → ¬ clashAt H ts q j') := hno2
        clear hno2
        by_cases hmq : m < q
        · have m1 : (m : Int) < (q : Int) := by omega
          have A := HA.out.below hB2
          have hql : q < ts.length := by have := HH.out; omega
          have hml : m < ts.length := by omega
          obtain ⟨gt, hgt⟩ : ∃ gt, ta = some ⟨gt, 0, none⟩ := by
            rcases A.texts.2 with ⟨_, e⟩ | ⟨g, cap, cur, e, _⟩
            · omega
            · exact ⟨g, by injection e⟩
          obtain ⟨gh, hgh⟩ : ∃ gh, ha = some ⟨gh, 0, none⟩ := by
            rcases A.hashes.2 with ⟨_, e⟩ | ⟨g, cap, cur, e, _⟩
            · omega
            · exact ⟨g, by injection e⟩
          subst hgt hgh
          have eT := HT.out
          have eH := HH.out
          have t1 := A.texts
          have h1 := A.hashes
          rw [← eT] at t1
          rw [← eH] at h1
          have cT : wr.cell? ⟨p, 0, none⟩ = some (.slice (some ⟨gt, 0, none⟩) tn tc) := by rw [cell_of_row wr p 0 _ _ _ A.block]; rfl
          have cH : wr.cell? ⟨p, 1, none⟩ = some (.slice (some ⟨gh, 0, none⟩) hn' hc) := by rw [cell_of_row wr p 1 _ _ _ A.block]; rfl
          obtain ⟨x, hx⟩ : ∃ x, x = ts[q]'hql := ⟨_, rfl⟩
          obtain ⟨y, hy⟩ : ∃ y, y = ts[m]'hml := ⟨_, rfl⟩
          have cx : wr.cell? ⟨gt, q, none⟩ = some (.string x) := by rw [t1.cellAt q (by omega), List.getElem?_map, List.getElem?_eq_getElem hql, hx]; rfl
          have cy : wr.cell? ⟨gt, m, none⟩ = some (.string y) := by rw [t1.cellAt m (by omega), List.getElem?_map, List.getElem?_eq_getElem hml, hy]; rfl
          obtain ⟨a, haa⟩ : ∃ a, a = H x := ⟨_, rfl⟩
          obtain ⟨b, hbb⟩ : ∃ b, b = H y := ⟨_, rfl⟩
          have ca : wr.cell? ⟨gh, q, none⟩ = some (.string a) := by rw [h1.cellAt q (by omega), List.getElem?_map, List.getElem?_map, List.getElem?_eq_getElem hql, haa, hx]; rfl
          have cb : wr.cell? ⟨gh, m, none⟩ = some (.string b) := by rw [h1.cellAt m (by omega), List.getElem?_map, List.getElem?_map, List.getElem?_eq_getElem hml, hbb, hy]; rfl
          have HCL : Hid (clashAt H ts q m ↔ (a = b ∧ x ≠ y)) := by
            show clashAt H ts q m ↔ (a = b ∧ x ≠ y)
            rw [haa, hbb, hx, hy]
            exact ⟨fun ⟨_, _, h⟩ => h, fun h => ⟨hql, hml, h⟩⟩
          have qh : (q : Int) < (hn' : Int) := by omega
          have mh : (m : Int) < (hn' : Int) := by omega
          have qt : (q : Int) < (tn : Int) := by omega
          have mt : (m : Int) < (tn : Int) := by omega
          have q0 : (0 : Int) ≤ (q : Int) := by omega
          have m0' : (0 : Int) ≤ (m : Int) := by omega
          clear A t1 h1 hx hy haa hbb eT eH
          by_cases hab : a = b
          · subst hab
            by_cases hxy : x = y
            · subst hxy
              have by' : (a.toList == a.toList) = true := by rw [← beq_toListBytes]; exact ba_self a
              have bz : (x.toList == x.toList) = true := by rw [← beq_toListBytes]; exact ba_self x
              go_wp2_with fail
              go_quiet (fail)
              go_wp2_with fail
              refine ⟨⟨m + 1, by go_num, by omega, below_draws hB2 _, fun j' hj' => ?_⟩, ?_⟩
              · by_cases e : j' < m
                · exact HNO2.out j' e
                · obtain rfl : j' = m := by omega
                  intro hc'; exact (HCL.out.1 hc').2 rfl
              · simp [intOf]; omega
            · have by' : (a.toList == a.toList) = true := by rw [← beq_toListBytes]; exact ba_self a
              have bz : (x.toList == y.toList) = false := by rw [← beq_toListBytes]; exact ba_ne hxy
              go_wp2_with fail
              go_quiet (fail)
              go_wp2_with fail
              go_ret
              exact ⟨true, rfl, fun _ => rfl, below_draws hB2 _⟩
          · have bb : (a.toList == b.toList) = false := by rw [← beq_toListBytes]; exact ba_ne hab
            go_wp2_with fail
            go_quiet (fail)
            go_wp2_with fail
            refine ⟨⟨m + 1, by go_num, by omega, below_draws hB2 _, fun j' hj' => ?_⟩, ?_⟩
            · by_cases e : j' < m
              · exact HNO2.out j' e
              · obtain rfl : j' = m := by omega
                intro hc'; exact hab (HCL.out.1 hc').1
            · simp [intOf]; omega
        · have m1 : ¬ (m : Int) < (q : Int) := by omega
          obtain rfl : m = q := by omega
          go_wp2_with fail
          refine ⟨⟨m + 1, by go_num, by have := HH.out; omega, hB2, fun i' j' h1 h2 => ?_⟩, ?_⟩
          · by_cases e : i' < m
            · exact HNO.out i' j' e h2
            · obtain rfl : i' = m := by omega
              exact HNO2.out j' h2
          · simp [intOf]; omega
    · have q1 : ¬ (q : Int) < (hn' : Int) := by omega
      clear A
      go_wp2_with fail
      go_ret
      refine ⟨false, rfl, ?_, hB⟩
      rintro ⟨i, j, hji, hcl⟩
      exact absurd hcl (HNO.out i j (by obtain ⟨hi, _⟩ := hcl; have := HH.out; omega) hji)
theorem known_new (H : ByteArray → ByteArray) (w : World) : KAt H w.heap.size (w.alloc (.cells #[.slice none 0 0, .slice none 0 0] 62)) (.slice none 0 0) (.slice none 0 0) [] :=
  ⟨heap_alloc_new w _, World.ownsRow_nil _ _ _ _, World.ownsRow_nil _ _ _ _, fun g h => by cases h⟩
end Go.Proofs.YteebdadnfaekmaaDoor
