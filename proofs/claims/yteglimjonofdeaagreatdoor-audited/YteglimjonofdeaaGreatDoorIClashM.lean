import Derived.Test.YteglimjonofdeaaGreatDoorPCheckM
import Derived.Test.YteglimjonofdeaaGreatDoorConstsM
import Derived.Test.YteglimjonofdeaaGreatDoorTJoinM
import Derived.Test.YteglimjonofdeaaGreatDoorWTakeM
import Derived.Test.YteglimjonofdeaaGreatDoorGRootM
import Derived.Test.YteglimjonofdeaaGreatDoorTPathM
import Derived.Test.YteglimjonofdeaaGreatDoorTClimb2M
set_option linter.unusedVariables false
set_option linter.unusedSimpArgs false
namespace Go.Proofs.YteglimjonofdeaaGreatDoor
open Go.RowKit

theorem ba_self (x : ByteArray) : (x == x) = true := by
  show (x.data == x.data) = true
  simp
theorem ba_ne {a b : ByteArray} (h : a ≠ b) : (a == b) = false := by
  show (a.data == b.data) = false
  rw [beq_eq_false_iff_ne]
  exact fun e => h (ByteArray.ext e)
/-- Two texts of one hash. -/
def clashAt (H : ByteArray → ByteArray) (ts : List ByteArray) (i j : Nat) : Prop := ∃ (hi : i < ts.length) (hj : j < ts.length), H (ts[i]'hi) = H (ts[j]'hj) ∧ ts[i]'hi ≠ ts[j]'hj
def clPost (H : ByteArray → ByteArray) (ts : List ByteArray) (w : World) (e : Ending) (w' : World) : Prop := ∃ r, e = .returned (.bool r) ∧ ((∃ i j, j < i ∧ clashAt H ts i j) → r = true) ∧ Below w.heap.size w w'
def clRel (H : ByteArray → ByteArray) (ts : List ByteArray) (w : World) (i : Value) (wr : World) : Prop := ∃ q : Nat, i = .int .i64 q ∧ q ≤ ts.length ∧ Below w.heap.size w wr ∧ ∀ i' j', i' < q → j' < i' → ¬ clashAt H ts i' j'
def clRel2 (H : ByteArray → ByteArray) (ts : List ByteArray) (w : World) (q : Nat) (j : Value) (wr : World) : Prop := ∃ m : Nat, j = .int .i64 m ∧ m ≤ q ∧ Below w.heap.size w wr ∧ ∀ j', j' < m → ¬ clashAt H ts q j'

set_option maxRecDepth 10000 in
set_option maxHeartbeats 2000000 in
theorem clash_any (H : ByteArray → ByteArray) (p : Nat) (w : World) (tv hv : Value) (ts : List ByteArray) (h : KAt H p w tv hv ts) (hn : ts.length ≤ 1000000) :
    Calls Tryz.prog 29 #[.pointer (some ⟨p, 0, none⟩)] w (clPost H ts w) := by
  have HA : Hid (KAt H p w tv hv ts) := h
  obtain ⟨ta, tn, tc, htv, htn⟩ : ∃ ao n cap, tv = .slice ao n cap ∧ n = ts.length := by
    rcases h.texts.2 with ⟨rfl, e⟩ | ⟨g, cap, cur, rfl, _⟩
    · exact ⟨none, 0, 0, rfl, e.symm⟩
    · exact ⟨_, _, _, rfl, rfl⟩
  obtain ⟨ha, hn', hc, hhv, hhn⟩ : ∃ ao n cap, hv = .slice ao n cap ∧ n = ts.length := by
    rcases h.hashes.2 with ⟨rfl, e⟩ | ⟨g, cap, cur, rfl, _⟩
    · exact ⟨none, 0, 0, rfl, e.symm⟩
    · exact ⟨_, _, _, rfl, rfl⟩
  have HT : Hid (tn = ts.length) := htn
  have HH : Hid (hn' = ts.length) := hhn
  subst htv hhv
  have hnb : hn' ≤ 1000000 := by omega
  clear htn hhn h
  go_enter Tryz.func29, Tryz.ntmps29
  go_wp2_with fail
  go_loopw [3] (clRel H ts w) (fun i _ => hn' - (intOf i).toNat)
  case atStart => exact ⟨0, rfl, Nat.zero_le _, Below.refl _ _, fun i' j' h => by omega⟩
  case round =>
    obtain ⟨q, rfl, hq, hB, hno⟩ := hrel
    have HNO : Hid (∀ i' j', i' < q → j' < i' → ¬ clashAt H ts i' j') := hno
    clear hno
    have A := HA.out.below hB
    have c1 : wr.cell? ⟨p, 1, none⟩ = some (.slice ha hn' hc) := by rw [cell_of_row wr p 1 _ _ _ A.block]; rfl
    by_cases hlt : q < hn'
    · have q1 : (q : Int) < (hn' : Int) := by omega
      have HA' : Hid (KAt H p wr (.slice ta tn tc) (.slice ha hn' hc) ts) := A
      clear A
      go_wp2_with fail
      clear c1
      go_loopw [4] (clRel2 H ts w q) (fun j _ => q - (intOf j).toNat)
      case atStart => exact ⟨0, rfl, Nat.zero_le _, hB, fun j' h => by omega⟩
      case round =>
        obtain ⟨m, rfl, hm, hB2, hno2⟩ := hrel
        have HNO2 : Hid (∀ j', j' < m → ¬ clashAt H ts q j') := hno2
        clear hno2
        by_cases hmq : m < q
        · have m1 : (m : Int) < (q : Int) := by omega
          have A := HA.out.below hB2
          have hql : q < ts.length := by have := HH.out; omega
          have hml : m < ts.length := by omega
          obtain ⟨gt, hgt⟩ : ∃ gt, ta = some ⟨gt, 0, none⟩ := by
            rcases A.texts.2 with ⟨_, e⟩ | ⟨g, cap, cur, e, _⟩
            · omega
            · exact ⟨g, by injection e⟩
          obtain ⟨gh, hgh⟩ : ∃ gh, ha = some ⟨gh, 0, none⟩ := by
            rcases A.hashes.2 with ⟨_, e⟩ | ⟨g, cap, cur, e, _⟩
            · omega
            · exact ⟨g, by injection e⟩
          subst hgt hgh
          have eT := HT.out
          have eH := HH.out
          have t1 := A.texts
          have h1 := A.hashes
          rw [← eT] at t1
          rw [← eH] at h1
          have cT : wr.cell? ⟨p, 0, none⟩ = some (.slice (some ⟨gt, 0, none⟩) tn tc) := by rw [cell_of_row wr p 0 _ _ _ A.block]; rfl
          have cH : wr.cell? ⟨p, 1, none⟩ = some (.slice (some ⟨gh, 0, none⟩) hn' hc) := by rw [cell_of_row wr p 1 _ _ _ A.block]; rfl
          obtain ⟨x, hx⟩ : ∃ x, x = ts[q]'hql := ⟨_, rfl⟩
          obtain ⟨y, hy⟩ : ∃ y, y = ts[m]'hml := ⟨_, rfl⟩
          have cx : wr.cell? ⟨gt, q, none⟩ = some (.string x) := by rw [t1.cellAt q (by omega), List.getElem?_map, List.getElem?_eq_getElem hql, hx]; rfl
          have cy : wr.cell? ⟨gt, m, none⟩ = some (.string y) := by rw [t1.cellAt m (by omega), List.getElem?_map, List.getElem?_eq_getElem hml, hy]; rfl
          obtain ⟨a, haa⟩ : ∃ a, a = H x := ⟨_, rfl⟩
          obtain ⟨b, hbb⟩ : ∃ b, b = H y := ⟨_, rfl⟩
          have ca : wr.cell? ⟨gh, q, none⟩ = some (.string a) := by rw [h1.cellAt q (by omega), List.getElem?_map, List.getElem?_map, List.getElem?_eq_getElem hql, haa, hx]; rfl
          have cb : wr.cell? ⟨gh, m, none⟩ = some (.string b) := by rw [h1.cellAt m (by omega), List.getElem?_map, List.getElem?_map, List.getElem?_eq_getElem hml, hbb, hy]; rfl
          have HCL : Hid (clashAt H ts q m ↔ (a = b ∧ x ≠ y)) := by
            show clashAt H ts q m ↔ (a = b ∧ x ≠ y)
            rw [haa, hbb, hx, hy]
            exact ⟨fun ⟨_, _, h⟩ => h, fun h => ⟨hql, hml, h⟩⟩
          have qh : (q : Int) < (hn' : Int) := by omega
          have mh : (m : Int) < (hn' : Int) := by omega
          have qt : (q : Int) < (tn : Int) := by omega
          have mt : (m : Int) < (tn : Int) := by omega
          have q0 : (0 : Int) ≤ (q : Int) := by omega
          have m0' : (0 : Int) ≤ (m : Int) := by omega
          clear A t1 h1 hx hy haa hbb eT eH
          by_cases hab : a = b
          · subst hab
            by_cases hxy : x = y
            · subst hxy
              have by' : (a.toList == a.toList) = true := by rw [← beq_toListBytes]; exact ba_self a
              have bz : (x.toList == x.toList) = true := by rw [← beq_toListBytes]; exact ba_self x
              go_wp2_with fail
              go_quiet (fail)
              go_wp2_with fail
              refine ⟨⟨m + 1, by go_num, by omega, below_draws hB2 _, fun j' hj' => ?_⟩, ?_⟩
              · by_cases e : j' < m
                · exact HNO2.out j' e
                · obtain rfl : j' = m := by omega
                  intro hc'; exact (HCL.out.1 hc').2 rfl
              · simp [intOf]; omega
            · have by' : (a.toList == a.toList) = true := by rw [← beq_toListBytes]; exact ba_self a
              have bz : (x.toList == y.toList) = false := by rw [← beq_toListBytes]; exact ba_ne hxy
              go_wp2_with fail
              go_quiet (fail)
              go_wp2_with fail
              go_ret
              exact ⟨true, rfl, fun _ => rfl, below_draws hB2 _⟩
          · have bb : (a.toList == b.toList) = false := by rw [← beq_toListBytes]; exact ba_ne hab
            go_wp2_with fail
            go_quiet (fail)
            go_wp2_with fail
            refine ⟨⟨m + 1, by go_num, by omega, below_draws hB2 _, fun j' hj' => ?_⟩, ?_⟩
            · by_cases e : j' < m
              · exact HNO2.out j' e
              · obtain rfl : j' = m := by omega
                intro hc'; exact hab (HCL.out.1 hc').1
            · simp [intOf]; omega
        · have m1 : ¬ (m : Int) < (q : Int) := by omega
          obtain rfl : m = q := by omega
          go_wp2_with fail
          refine ⟨⟨m + 1, by go_num, by have := HH.out; omega, hB2, fun i' j' h1 h2 => ?_⟩, ?_⟩
          · by_cases e : i' < m
            · exact HNO.out i' j' e h2
            · obtain rfl : i' = m := by omega
              exact HNO2.out j' h2
          · simp [intOf]; omega
    · have q1 : ¬ (q : Int) < (hn' : Int) := by omega
      clear A
      go_wp2_with fail
      go_ret
      refine ⟨false, rfl, ?_, hB⟩
      rintro ⟨i, j, hji, hcl⟩
      exact absurd hcl (HNO.out i j (by obtain ⟨hi, _⟩ := hcl; have := HH.out; omega) hji)
theorem known_new (H : ByteArray → ByteArray) (w : World) : KAt H w.heap.size (w.alloc (.cells #[.slice none 0 0, .slice none 0 0] 77)) (.slice none 0 0) (.slice none 0 0) [] :=
  ⟨heap_alloc_new w _, World.ownsRow_nil _ _ _ _, World.ownsRow_nil _ _ _ _, fun g h => by cases h⟩
/-- What a proof makes of a leaf, and the texts that are hashed for it. -/
def upF (H : ByteArray → ByteArray) (leaf : ByteArray) (i n : Nat) (pf : List ByteArray) : ByteArray × List ByteArray :=
  if n = 1 then (H (m0 ++ leaf), [m0 ++ leaf]) else
  match h : pf.getLast? with
  | none => (H (m0 ++ leaf), [m0 ++ leaf])
  | some b =>
      if i < halfN n then (H (m1 ++ (upF H leaf i (halfN n) pf.dropLast).1 ++ b), (upF H leaf i (halfN n) pf.dropLast).2 ++ [m1 ++ (upF H leaf i (halfN n) pf.dropLast).1 ++ b])
      else (H (m1 ++ b ++ (upF H leaf (i - halfN n) (n - halfN n) pf.dropLast).1), (upF H leaf (i - halfN n) (n - halfN n) pf.dropLast).2 ++ [m1 ++ b ++ (upF H leaf (i - halfN n) (n - halfN n) pf.dropLast).1])
  termination_by pf.length
  decreasing_by all_goals (have : pf ≠ [] := by intro e; rw [e] at h; simp at h) <;> (have := List.length_pos_iff.2 this) <;> simp <;> omega
theorem upF_one (H : ByteArray → ByteArray) (leaf : ByteArray) (i : Nat) (pf : List ByteArray) : upF H leaf i 1 pf = (H (m0 ++ leaf), [m0 ++ leaf]) := by rw [upF, if_pos rfl]
theorem upF_none (H : ByteArray → ByteArray) (leaf : ByteArray) (i n : Nat) : upF H leaf i n [] = (H (m0 ++ leaf), [m0 ++ leaf]) := by
  rw [upF]; split <;> rfl
theorem upF_left (H : ByteArray → ByteArray) (leaf : ByteArray) (i n : Nat) (hn : n ≠ 1) (pf : List ByteArray) (b : ByteArray) (hi : i < halfN n) :
    upF H leaf i n (pf ++ [b]) = (H (m1 ++ (upF H leaf i (halfN n) pf).1 ++ b), (upF H leaf i (halfN n) pf).2 ++ [m1 ++ (upF H leaf i (halfN n) pf).1 ++ b]) := by
  rw [upF, if_neg hn]
  split
  · rename_i h; rw [List.getLast?_concat] at h; cases h
  · rename_i b' h
    rw [List.getLast?_concat] at h
    obtain rfl := Option.some.inj h
    rw [if_pos hi, List.dropLast_concat]
theorem upF_right (H : ByteArray → ByteArray) (leaf : ByteArray) (i n : Nat) (hn : n ≠ 1) (pf : List ByteArray) (b : ByteArray) (hi : ¬ i < halfN n) :
    upF H leaf i n (pf ++ [b]) = (H (m1 ++ b ++ (upF H leaf (i - halfN n) (n - halfN n) pf).1), (upF H leaf (i - halfN n) (n - halfN n) pf).2 ++ [m1 ++ b ++ (upF H leaf (i - halfN n) (n - halfN n) pf).1]) := by
  rw [upF, if_neg hn]
  split
  · rename_i h; rw [List.getLast?_concat] at h; cases h
  · rename_i b' h
    rw [List.getLast?_concat] at h
    obtain rfl := Option.some.inj h
    rw [if_neg hi, List.dropLast_concat]
theorem upF_size (H : ByteArray → ByteArray) (hH : ∀ s, (H s).size = 32) (leaf : ByteArray) (i n : Nat) (pf : List ByteArray) : (upF H leaf i n pf).1.size = 32 := by
  rw [upF]
  split
  · exact hH _
  · split
    · exact hH _
    · split <;> exact hH _

set_option maxRecDepth 10000 in
set_option maxHeartbeats 1000000 in
theorem kup_end (K : Nat → Int) (p : Nat) (w : World) (s h : ByteArray) (i n m : Nat) (ao : Option Addr) (cap : Nat) (ts : List ByteArray) (hs : s.size ≤ 100000) (he : n = 1 ∨ m = 0)
    (hof : Calls Tryz.prog 44 #[.pointer (some ⟨p, 0, none⟩), .string (⟨#[0]⟩ ++ s)] w (kPost K p w ts h)) :
    Calls Tryz.prog 47 #[.pointer (some ⟨p, 0, none⟩), .int .i64 n, .int .i64 i, .string s, .slice ao m cap] w (kPost K p w ts h) := by
  by_cases h1 : n = 1
  · subst h1
    go_enter Tryz.func47, Tryz.ntmps47
    go_wp2_with fail
    refine hof.mono ?_
    rintro e w1 ⟨rfl, hk, hb⟩
    go_wp2_with fail
    go_ret
    exact ⟨rfl, hk, hb⟩
  · obtain rfl : m = 0 := by omega
    have n1 : ((n : Int) == 1) = false := by rw [beq_eq_false_iff_ne]; omega
    clear he h1
    go_enter Tryz.func47, Tryz.ntmps47
    go_wp2_with fail
    refine hof.mono ?_
    rintro e w1 ⟨rfl, hk, hb⟩
    go_wp2_with fail
    go_ret
    exact ⟨rfl, hk, hb⟩

set_option maxRecDepth 10000 in
set_option maxHeartbeats 1000000 in
theorem kup_left (K : Nat → Int) (p : Nat) (w : World) (s b x h : ByteArray) (i n k m g off cap : Nat) (t1 t2 : List ByteArray) (hn : 2 ≤ n) (hn1 : n ≤ 2147483647) (hk1 : k < n) (hi1 : i < n) (hik : i < k) (hm : m ≤ 1000000) (hcap : m + 1 ≤ cap) (hb : b.size ≤ 100000) (hx : x.size = 32)
    (hc : w.cell? ⟨g, off + m, none⟩ = some (.string b))
    (hh : ∀ W, Calls Tryz.prog 50 #[.int .i64 n] W fun e w' => e = .returned (.int .i64 k) ∧ w' = W)
    (hrec : Calls Tryz.prog 47 #[.pointer (some ⟨p, 0, none⟩), .int .i64 k, .int .i64 i, .string s, .slice (some ⟨g, off, none⟩) m cap] w (kPost K p w t1 x))
    (hof : ∀ W, (∃ tv hv, KAt (sumOf K) p W tv hv t1) → Below p w W → Calls Tryz.prog 44 #[.pointer (some ⟨p, 0, none⟩), .string (⟨#[1]⟩ ++ x ++ b)] W (kPost K p W t2 h)) :
    Calls Tryz.prog 47 #[.pointer (some ⟨p, 0, none⟩), .int .i64 n, .int .i64 i, .string s, .slice (some ⟨g, off, none⟩) (m + 1) cap] w (kPost K p w t2 h) := by
  have n1 : ((n : Int) == 1) = false := by rw [beq_eq_false_iff_ne]; omega
  have m0' : ((m + 1 : Nat) : Int) = (m : Int) + 1 := by omega
  have m1' : ((m : Int) + 1 == 0) = false := by rw [beq_eq_false_iff_ne]; omega
  have m2' : (m : Int) < (m : Int) + 1 := by omega
  have m3' : (m : Int) ≤ (cap : Int) := by omega
  have ik : (i : Int) < (k : Int) := by omega
  have HOF : Hid (∀ W, (∃ tv hv, KAt (sumOf K) p W tv hv t1) → Below p w W → Calls Tryz.prog 44 #[.pointer (some ⟨p, 0, none⟩), .string (⟨#[1]⟩ ++ x ++ b)] W (kPost K p W t2 h)) := hof
  clear hof
  go_enter Tryz.func47, Tryz.ntmps47
  go_wp2_with (go_at_call 50; refine (hh _).mono ?_; rintro e wx ⟨rfl, hwx⟩; obtain rfl : w = wx := hwx.symm; clear hwx)
  refine hrec.mono ?_
  rintro e w1 ⟨rfl, hk1', hb1⟩
  clear hrec
  go_wp2_with fail
  refine (HOF.out w1 hk1' hb1).mono ?_
  rintro e w2 ⟨rfl, hk2', hb2⟩
  go_wp2_with fail
  go_ret
  exact ⟨rfl, hk2', hb1.trans hb2⟩

set_option maxRecDepth 10000 in
set_option maxHeartbeats 1000000 in
theorem kup_right (K : Nat → Int) (p : Nat) (w : World) (s b x h : ByteArray) (i n k m g off cap : Nat) (t1 t2 : List ByteArray) (hn : 2 ≤ n) (hn1 : n ≤ 2147483647) (hk1 : k < n) (hi1 : i < n) (hik : k ≤ i) (hm : m ≤ 1000000) (hcap : m + 1 ≤ cap) (hb : b.size ≤ 100000) (hx : x.size = 32)
    (hc : w.cell? ⟨g, off + m, none⟩ = some (.string b))
    (hh : ∀ W, Calls Tryz.prog 50 #[.int .i64 n] W fun e w' => e = .returned (.int .i64 k) ∧ w' = W)
    (hrec : Calls Tryz.prog 47 #[.pointer (some ⟨p, 0, none⟩), .int .i64 ((n : Int) - (k : Int)), .int .i64 ((i : Int) - (k : Int)), .string s, .slice (some ⟨g, off, none⟩) m cap] w (kPost K p w t1 x))
    (hof : ∀ W, (∃ tv hv, KAt (sumOf K) p W tv hv t1) → Below p w W → Calls Tryz.prog 44 #[.pointer (some ⟨p, 0, none⟩), .string (⟨#[1]⟩ ++ b ++ x)] W (kPost K p W t2 h)) :
    Calls Tryz.prog 47 #[.pointer (some ⟨p, 0, none⟩), .int .i64 n, .int .i64 i, .string s, .slice (some ⟨g, off, none⟩) (m + 1) cap] w (kPost K p w t2 h) := by
  have n1 : ((n : Int) == 1) = false := by rw [beq_eq_false_iff_ne]; omega
  have m0' : ((m + 1 : Nat) : Int) = (m : Int) + 1 := by omega
  have m1' : ((m : Int) + 1 == 0) = false := by rw [beq_eq_false_iff_ne]; omega
  have m2' : (m : Int) < (m : Int) + 1 := by omega
  have m3' : (m : Int) ≤ (cap : Int) := by omega
  have ik : ¬ (i : Int) < (k : Int) := by omega
  have ik2 : (k : Int) ≤ (i : Int) := by omega
  have ik3 : (i : Int) < (n : Int) := by omega
  have HOF : Hid (∀ W, (∃ tv hv, KAt (sumOf K) p W tv hv t1) → Below p w W → Calls Tryz.prog 44 #[.pointer (some ⟨p, 0, none⟩), .string (⟨#[1]⟩ ++ b ++ x)] W (kPost K p W t2 h)) := hof
  clear hof
  go_enter Tryz.func47, Tryz.ntmps47
  go_wp2_with (go_at_call 50; refine (hh _).mono ?_; rintro e wx ⟨rfl, hwx⟩; obtain rfl : w = wx := hwx.symm; clear hwx)
  refine hrec.mono ?_
  rintro e w1 ⟨rfl, hk1', hb1⟩
  clear hrec
  go_wp2_with fail
  refine (HOF.out w1 hk1' hb1).mono ?_
  rintro e w2 ⟨rfl, hk2', hb2⟩
  go_wp2_with fail
  go_ret
  exact ⟨rfl, hk2', hb1.trans hb2⟩

theorem kup_any (K : Nat → Int) (p : Nat) (hp : 1 < p) (s : ByteArray) (hs : s.size ≤ 100000) : ∀ (m : Nat) (pf : List ByteArray) (i n : Nat) (v : Value) (w : World) (ts : List ByteArray), pf.length = m → m ≤ 100000 → i < n → n ≤ 2147483647 →
    (pf = [] ∧ (∃ ao cap, v = .slice ao 0 cap) ∨ ∃ g off cap, v = .slice (some ⟨g, off, none⟩) m cap ∧ m ≤ cap ∧ ∀ j (h : j < pf.length), w.cell? ⟨g, off + j, none⟩ = some (.string (pf[j]'h))) →
    (∀ b ∈ pf, b.size ≤ 100000) → (∃ tv hv, KAt (sumOf K) p w tv hv ts) → ts.length + m + 1 ≤ 1000000 → Tab K w →
    Calls Tryz.prog 47 #[.pointer (some ⟨p, 0, none⟩), .int .i64 n, .int .i64 i, .string s, v] w (kPost K p w (ts ++ (upF (sumOf K) s i n pf).2) (upF (sumOf K) s i n pf).1) := by
  have hms : (m0 ++ s).size ≤ 140737488355000 := by rw [ByteArray.size_append, m0_size]; omega
  intro m
  induction m with
  | zero =>
    intro pf i n v w ts hm _ hin hn1 hv _ hk ht T
    obtain rfl : pf = [] := List.eq_nil_of_length_eq_zero hm
    obtain ⟨tv, hv', hA⟩ := hk
    have hof := kof_any K p w tv hv' ts (m0 ++ s) hA (by omega) hms T
    rw [upF_none]
    obtain ⟨ao, cap, rfl⟩ : ∃ ao cap, v = .slice ao 0 cap := by
      rcases hv with ⟨_, h⟩ | ⟨g, off, cap, rfl, _⟩
      · exact h
      · exact ⟨_, _, rfl⟩
    exact kup_end K p w s _ i n 0 ao cap _ hs (Or.inr rfl) hof
  | succ m ih =>
    intro pf i n v w ts hm hm1 hin hn1 hv hb hk ht T
    obtain ⟨rest, b, rfl⟩ : ∃ rest b, pf = rest ++ [b] := ⟨pf.dropLast, pf.getLast (by intro e; subst e; simp at hm), (List.dropLast_concat_getLast _).symm⟩
    have hrl : rest.length = m := by simp at hm; exact hm
    obtain ⟨g, off, cap, rfl, hcap, hc⟩ : ∃ g off cap, v = .slice (some ⟨g, off, none⟩) (m + 1) cap ∧ m + 1 ≤ cap ∧ ∀ j (h : j < (rest ++ [b]).length), w.cell? ⟨g, off + j, none⟩ = some (.string ((rest ++ [b])[j]'h)) := by
      rcases hv with ⟨e, _⟩ | h
      · simp at e
      · exact h
    by_cases h1 : n = 1
    · subst h1
      obtain ⟨tv, hv', hA⟩ := hk
      have hof := kof_any K p w tv hv' ts (m0 ++ s) hA (by omega) hms T
      rw [upF_one]
      exact kup_end K p w s _ i 1 (m + 1) _ cap _ hs (Or.inl rfl) hof
    · have h2 : 2 ≤ n := by omega
      have hk0 := halfN_pos n
      have hk1 := halfN_lt h2
      have hbs := hb b (by simp)
      have hcm : w.cell? ⟨g, off + m, none⟩ = some (.string b) := by
        have := hc m (by simp; omega)
        rw [this]; simp [← hrl]
      have hvr : (rest = [] ∧ (∃ ao cap', (Value.slice (some ⟨g, off, none⟩) m cap) = .slice ao 0 cap') ∨ ∃ g' off' cap', (Value.slice (some ⟨g, off, none⟩) m cap) = .slice (some ⟨g', off', none⟩) m cap' ∧ m ≤ cap' ∧ ∀ j (h : j < rest.length), w.cell? ⟨g', off' + j, none⟩ = some (.string (rest[j]'h))) :=
        Or.inr ⟨g, off, cap, rfl, by omega, fun j hj => by rw [hc j (by simp; omega), List.getElem_append_left hj]⟩
      have hlen : ∀ i' n', (upF (sumOf K) s i' n' rest).2.length ≤ m + 1 := fun i' n' => by
        have : ∀ (q : Nat) (pf : List ByteArray) (i n : Nat), pf.length = q → (upF (sumOf K) s i n pf).2.length ≤ q + 1 := by
          intro q
          induction q with
          | zero => intro pf i n hq; obtain rfl := List.eq_nil_of_length_eq_zero hq; rw [upF_none]; simp
          | succ q ihq =>
            intro pf i n hq
            obtain ⟨rest', b', rfl⟩ : ∃ rest' b', pf = rest' ++ [b'] := ⟨pf.dropLast, pf.getLast (by intro e; subst e; simp at hq), (List.dropLast_concat_getLast _).symm⟩
            have hq' : rest'.length = q := by simp at hq; exact hq
            by_cases hn : n = 1
            · subst hn; rw [upF_one]; simp
            · by_cases hi : i < halfN n
              · rw [upF_left _ _ _ _ hn _ _ hi]; have := ihq rest' i (halfN n) hq'; simp; omega
              · rw [upF_right _ _ _ _ hn _ _ hi]; have := ihq rest' (i - halfN n) (n - halfN n) hq'; simp; omega
        exact this m rest i' n' hrl
      by_cases hik : i < halfN n
      · rw [upF_left _ _ _ _ h1 _ _ hik, ← List.append_assoc]
        refine kup_left K p w s b _ _ i n (halfN n) m g off cap _ _ h2 hn1 hk1 hin hik (by omega) hcap hbs (upF_size _ (sumOf_size K) _ _ _ _) hcm (fun W => half_any n W h2 hn1) (ih rest i (halfN n) _ w ts hrl (by omega) hik (by omega) hvr (fun b' hb' => hb b' (by simp [hb'])) hk (by omega) T) ?_
        intro W hkW hbW
        obtain ⟨tv, hv', hA⟩ := hkW
        refine kof_any K p W tv hv' _ _ hA (by have := hlen i (halfN n); simp; omega) ?_ (T.belowp hp hbW)
        rw [ByteArray.size_append, ByteArray.size_append, upF_size _ (sumOf_size K), show (⟨#[1]⟩ : ByteArray).size = 1 from rfl]; omega
      · rw [upF_right _ _ _ _ h1 _ _ hik, ← List.append_assoc]
        refine kup_right K p w s b _ _ i n (halfN n) m g off cap _ _ h2 hn1 hk1 hin (by omega) (by omega) hcap hbs (upF_size _ (sumOf_size K) _ _ _ _) hcm (fun W => half_any n W h2 hn1) (by
          have := ih rest (i - halfN n) (n - halfN n) _ w ts hrl (by omega) (by omega) (by omega) hvr (fun b' hb' => hb b' (by simp [hb'])) hk (by omega) T
          rw [show ((i - halfN n : Nat) : Int) = (i : Int) - (halfN n : Int) by omega, show ((n - halfN n : Nat) : Int) = (n : Int) - (halfN n : Int) by omega] at this
          exact this) ?_
        intro W hkW hbW
        obtain ⟨tv, hv', hA⟩ := hkW
        refine kof_any K p W tv hv' _ _ hA (by have := hlen (i - halfN n) (n - halfN n); simp; omega) ?_ (T.belowp hp hbW)
        rw [ByteArray.size_append, ByteArray.size_append, upF_size _ (sumOf_size K), show (⟨#[1]⟩ : ByteArray).size = 1 from rfl]; omega
set_option maxRecDepth 10000 in
set_option maxHeartbeats 1000000 in
/-- met: where two texts of one hash are in hand, it says so. -/
theorem met_any (K : Nat → Int) (ls pf : List ByteArray) (s : ByteArray) (v v' : Value) (i : Nat) (w : World) (hn0 : i < ls.length) (hn1 : ls.length ≤ 1000) (hp1 : pf.length ≤ 1000) (hl : LeafAt w v ls) (hp : LeafAt w v' pf) (hs : ∀ t ∈ ls, t.size ≤ 100000) (hs2 : s.size ≤ 100000) (hs3 : ∀ t ∈ pf, t.size ≤ 100000) (T : Tab K w)
    (hcl : ∃ a b, b < a ∧ clashAt (sumOf K) (rootT (sumOf K) ls ++ (upF (sumOf K) s i ls.length pf).2) a b) :
    Calls Tryz.prog 26 #[v, .int .i64 i, .string s, v'] w fun e w' => e = .returned (.bool true) ∧ Below w.heap.size w w' := by
  obtain ⟨g, off, cap, rfl, hcap, hc⟩ : ∃ g off cap, v = .slice (some ⟨g, off, none⟩) ls.length cap ∧ ls.length ≤ cap ∧ ∀ j (h : j < ls.length), w.cell? ⟨g, off + j, none⟩ = some (.string (ls[j]'h)) := by
    rcases hl with ⟨rfl, _⟩ | h
    · simp at hn0
    · exact h
  have hg : g < w.heap.size := World.block_lt_of_cell? w _ (hc 0 (by omega))
  have hb0 : Below w.heap.size w (w.alloc (.cells #[.slice none 0 0, .slice none 0 0] 77)) := (Below.refl _ _).alloc (Nat.le_refl _) _
  have hv' : ∀ W, Below w.heap.size w W → (pf = [] ∧ (∃ ao cap, v' = .slice ao 0 cap) ∨ ∃ g off cap, v' = .slice (some ⟨g, off, none⟩) pf.length cap ∧ pf.length ≤ cap ∧ ∀ j (h : j < pf.length), W.cell? ⟨g, off + j, none⟩ = some (.string (pf[j]'h))) := fun W hb => by
    rcases hp with h | ⟨g', off', cap', rfl, hc', h⟩
    · exact Or.inl h
    · by_cases h0 : pf = []
      · subst h0; exact Or.inl ⟨rfl, _, _, rfl⟩
      · have hlt : 0 < pf.length := List.length_pos_iff.2 h0
        have hg' : g' < w.heap.size := World.block_lt_of_cell? w _ (h 0 hlt)
        exact Or.inr ⟨g', off', cap', rfl, hc', fun j hj => (hb.cell (p := ⟨g', off' + j, none⟩) hg').trans (h j hj)⟩
  obtain ⟨ao, cap2, hv2⟩ := leaf_form hp
  subst hv2
  have hrl := rootT_len (sumOf K) _ ls rfl (by omega)
  have hR := kroot_any K w.heap.size T.lt ls.length ls g off cap _ [] rfl (by omega) (by omega) hcap hg (fun j hj => (hb0.cell (p := ⟨g, off + j, none⟩) hg).trans (hc j hj)) hs ⟨_, _, known_new (sumOf K) w⟩ (by simp; omega) (T.below hb0)
  have hU : ∀ W, (∃ tv hv, KAt (sumOf K) w.heap.size W tv hv ([] ++ rootT (sumOf K) ls)) → Below w.heap.size w W → Calls Tryz.prog 47 #[.pointer (some ⟨w.heap.size, 0, none⟩), .int .i64 ls.length, .int .i64 i, .string s, .slice ao pf.length cap2] W (kPost K w.heap.size W ([] ++ rootT (sumOf K) ls ++ (upF (sumOf K) s i ls.length pf).2) (upF (sumOf K) s i ls.length pf).1) := fun W hk hb =>
    kup_any K w.heap.size T.lt s hs2 pf.length pf i ls.length _ W _ rfl (by omega) hn0 (by omega) (hv' W hb) hs3 hk (by simp; omega) (T.belowp T.lt hb)
  have hul : (upF (sumOf K) s i ls.length pf).2.length ≤ 900000 := by
    have : ∀ (q : Nat) (pf : List ByteArray) (i n : Nat), pf.length = q → (upF (sumOf K) s i n pf).2.length ≤ q + 1 := by
      intro q
      induction q with
      | zero => intro pf i n hq; obtain rfl := List.eq_nil_of_length_eq_zero hq; rw [upF_none]; simp
      | succ q ihq =>
        intro pf i n hq
        obtain ⟨rest', b', rfl⟩ : ∃ rest' b', pf = rest' ++ [b'] := ⟨pf.dropLast, pf.getLast (by intro e; subst e; simp at hq), (List.dropLast_concat_getLast _).symm⟩
        have hq' : rest'.length = q := by simp at hq; exact hq
        by_cases hn : n = 1
        · subst hn; rw [upF_one]; simp
        · by_cases hi : i < halfN n
          · rw [upF_left _ _ _ _ hn _ _ hi]; have := ihq rest' i (halfN n) hq'; simp; omega
          · rw [upF_right _ _ _ _ hn _ _ hi]; have := ihq rest' (i - halfN n) (n - halfN n) hq'; simp; omega
    have := this pf.length pf i ls.length rfl
    omega
  have hC : ∀ W, (∃ tv hv, KAt (sumOf K) w.heap.size W tv hv ([] ++ rootT (sumOf K) ls ++ (upF (sumOf K) s i ls.length pf).2)) → Calls Tryz.prog 29 #[.pointer (some ⟨w.heap.size, 0, none⟩)] W fun e w' => e = .returned (.bool true) ∧ Below W.heap.size W w' := fun W ⟨tv, hv, hk⟩ =>
    (clash_any (sumOf K) w.heap.size W tv hv _ hk (by simp; omega)).mono fun e w' ⟨r, h1, h2, h3⟩ => ⟨by rw [h1, h2 (by simpa using hcl)], h3⟩
  have HU : Hid (∀ W, (∃ tv hv, KAt (sumOf K) w.heap.size W tv hv ([] ++ rootT (sumOf K) ls)) → Below w.heap.size w W → Calls Tryz.prog 47 #[.pointer (some ⟨w.heap.size, 0, none⟩), .int .i64 ls.length, .int .i64 i, .string s, .slice ao pf.length cap2] W (kPost K w.heap.size W ([] ++ rootT (sumOf K) ls ++ (upF (sumOf K) s i ls.length pf).2) (upF (sumOf K) s i ls.length pf).1)) := hU
  have HC : Hid (∀ W, (∃ tv hv, KAt (sumOf K) w.heap.size W tv hv ([] ++ rootT (sumOf K) ls ++ (upF (sumOf K) s i ls.length pf).2)) → Calls Tryz.prog 29 #[.pointer (some ⟨w.heap.size, 0, none⟩)] W fun e w' => e = .returned (.bool true) ∧ Below W.heap.size W w') := hC
  clear hU hC hcl hv' hc hs hs3 hl hp hul hrl T
  generalize ([] ++ rootT (sumOf K) ls ++ (upF (sumOf K) s i ls.length pf).2) = t2 at *
  generalize ([] ++ rootT (sumOf K) ls) = t1 at *
  generalize (upF (sumOf K) s i ls.length pf).1 = x at *
  generalize rootF (sumOf K) ls = y at *
  generalize ls.length = N at *
  generalize pf.length = M at *
  go_enter Tryz.func26, Tryz.ntmps26
  go_wp2_with fail
  refine hR.mono ?_
  rintro e w1 ⟨rfl, hk1, hb1⟩
  have hB1 : Below w.heap.size w w1 := hb0.trans hb1
  go_wp2_with fail
  refine (HU.out w1 hk1 hB1).mono ?_
  rintro e w2 ⟨rfl, hk2, hb2⟩
  go_wp2_with fail
  refine (HC.out w2 hk2).mono ?_
  rintro e w3 ⟨rfl, hb3⟩
  go_wp2_with fail
  go_ret
  have hB2 := hB1.trans hb2
  exact ⟨rfl, hB2.trans (hb3.mono hB2.size)⟩
end Go.Proofs.YteglimjonofdeaaGreatDoor
namespace Go.Proofs.YteglimjonofdeaaGreatDoor

/-- A proof leads to the root. -/
theorem climb_good (H : ByteArray → ByteArray) (hH : ∀ s, (H s).size = 32) : ∀ (n : Nat) (l : List ByteArray) (i : Nat) (leaf : ByteArray), l.length = n → i < n → l[i]? = some leaf → climbF H leaf i n (inclF H l i) = (rootF H l, true) := by
  intro n
  induction n using Nat.strongRecOn with
  | _ n ih =>
  intro l i leaf hl hi hx
  by_cases h2 : 2 ≤ l.length
  · have hk0 := halfN_pos l.length
    have hk1 := halfN_lt h2
    by_cases hik : i < halfN l.length
    · rw [inclF_left H h2 hik, ← hl, climbF_left H _ _ _ (by omega) _ _ (rootF_size H hH _) hik, rootF_more H h2]
      rw [ih (halfN l.length) (by omega) (l.take (halfN l.length)) i leaf (by simp; omega) hik (by rw [List.getElem?_take_of_lt hik]; exact hx)]
    · rw [inclF_right H h2 hik, ← hl, climbF_right H _ _ _ (by omega) _ _ (rootF_size H hH _) hik, rootF_more H h2]
      rw [ih (l.length - halfN l.length) (by omega) (l.drop (halfN l.length)) (i - halfN l.length) leaf (by simp) (by omega) (by rw [List.getElem?_drop, show halfN l.length + (i - halfN l.length) = i by omega]; exact hx)]
  · obtain ⟨s, rfl⟩ : ∃ s, l = [s] := List.length_eq_one_iff.1 (by omega)
    obtain rfl : i = 0 := by simp at hl; omega
    simp at hx hl
    subst hx hl
    rw [inclF_one H (by simp), climbF_one, rootF]; rfl

/-- What known.up makes is what the check makes, where the proof fits. -/
theorem up_climb (H : ByteArray → ByteArray) : ∀ (m : Nat) (pf : List ByteArray) (i n : Nat) (leaf : ByteArray), pf.length = m → (climbF H leaf i n pf).2 = true → (upF H leaf i n pf).1 = (climbF H leaf i n pf).1 := by
  intro m
  induction m with
  | zero =>
    intro pf i n leaf hm hf
    obtain rfl := List.eq_nil_of_length_eq_zero hm
    by_cases h1 : n = 1
    · subst h1; rw [climbF_one, upF_one]
    · rw [climbF_none H _ _ _ h1] at hf; cases hf
  | succ m ih =>
    intro pf i n leaf hm hf
    obtain ⟨rest, b, rfl⟩ : ∃ rest b, pf = rest ++ [b] := ⟨pf.dropLast, pf.getLast (by intro e; subst e; simp at hm), (List.dropLast_concat_getLast _).symm⟩
    have hr : rest.length = m := by simp at hm; exact hm
    by_cases h1 : n = 1
    · subst h1; rw [climbF_one, upF_one]
    · by_cases hb : b.size = 32
      · by_cases hik : i < halfN n
        · rw [climbF_left H _ _ _ h1 _ _ hb hik] at hf ⊢
          rw [upF_left H _ _ _ h1 _ _ hik]
          show H _ = H _
          rw [ih rest i (halfN n) leaf hr hf]
        · rw [climbF_right H _ _ _ h1 _ _ hb hik] at hf ⊢
          rw [upF_right H _ _ _ h1 _ _ hik]
          show H _ = H _
          rw [ih rest (i - halfN n) (n - halfN n) leaf hr hf]
      · rw [climbF_bad H _ _ _ h1 _ _ hb] at hf; cases hf
/-- Another leaf or proof that leads to the root: two texts of one hash are in hand. -/
theorem climb_clash (H : ByteArray → ByteArray) (hH : ∀ s, (H s).size = 32) : ∀ (n : Nat) (l : List ByteArray) (i : Nat) (leaf : ByteArray) (pf : List ByteArray) (hl : l.length = n) (hi : i < l.length), climbF H leaf i l.length pf = (rootF H l, true) →
    (leaf = l[i]'hi ∧ pf = inclF H l i) ∨ ∃ a ∈ rootT H l, ∃ b ∈ (upF H leaf i l.length pf).2, H a = H b ∧ a ≠ b := by
  intro n
  induction n using Nat.strongRecOn with
  | _ n ih =>
  intro l i leaf pf hl hi hc
  by_cases h2 : 2 ≤ l.length
  · have hk0 := halfN_pos l.length
    have hk1 := halfN_lt h2
    have nT : (l.take (halfN l.length)).length = halfN l.length := by simp; omega
    have nD : (l.drop (halfN l.length)).length = l.length - halfN l.length := by simp
    by_cases hp : pf = []
    · subst hp; rw [climbF_none H _ _ _ (by omega)] at hc; cases (Prod.mk.inj hc).2
    · obtain ⟨rest, b, rfl⟩ : ∃ rest b, pf = rest ++ [b] := ⟨pf.dropLast, pf.getLast hp, (List.dropLast_concat_getLast _).symm⟩
      by_cases hb : b.size = 32
      · by_cases hik : i < halfN l.length
        · rw [climbF_left H _ _ _ (by omega) _ _ hb hik] at hc
          obtain ⟨hc1, hc2⟩ := Prod.mk.inj hc
          rw [rootF_more H h2] at hc1
          have hup := up_climb H _ rest i (halfN l.length) leaf rfl hc2
          rw [upF_left H _ _ _ (by omega) _ _ hik, hup, rootT_more H h2]
          by_cases ht : m1 ++ (climbF H leaf i (halfN l.length) rest).1 ++ b = m1 ++ rootF H (l.take (halfN l.length)) ++ rootF H (l.drop (halfN l.length))
          · obtain ⟨e1, e2⟩ := three_inj m1 (by rw [climbF_size H hH, rootF_size H hH]) ht
            have := ih (halfN l.length) (by omega) (l.take (halfN l.length)) i leaf rest nT (by omega) (by rw [nT]; exact Prod.ext e1 hc2)
            rcases this with ⟨h3, h4⟩ | ⟨a, ha, b', hb', h5⟩
            · left
              rw [List.getElem_take] at h3
              exact ⟨h3, by rw [inclF_left H h2 hik, h4, e2]⟩
            · right
              rw [nT] at hb'
              exact ⟨a, by simp [ha], b', by simp [hb'], h5⟩
          · right
            exact ⟨_, by simp, _, by simp, hc1.symm, fun e => ht e.symm⟩
        · rw [climbF_right H _ _ _ (by omega) _ _ hb hik] at hc
          obtain ⟨hc1, hc2⟩ := Prod.mk.inj hc
          rw [rootF_more H h2] at hc1
          have hup := up_climb H _ rest (i - halfN l.length) (l.length - halfN l.length) leaf rfl hc2
          rw [upF_right H _ _ _ (by omega) _ _ hik, hup, rootT_more H h2]
          by_cases ht : m1 ++ b ++ (climbF H leaf (i - halfN l.length) (l.length - halfN l.length) rest).1 = m1 ++ rootF H (l.take (halfN l.length)) ++ rootF H (l.drop (halfN l.length))
          · obtain ⟨e1, e2⟩ := three_inj m1 (by rw [hb, rootF_size H hH]) ht
            have := ih (l.length - halfN l.length) (by omega) (l.drop (halfN l.length)) (i - halfN l.length) leaf rest nD (by omega) (by rw [nD]; exact Prod.ext e2 hc2)
            rcases this with ⟨h3, h4⟩ | ⟨a, ha, b', hb', h5⟩
            · left
              rw [List.getElem_drop] at h3
              simp only [show halfN l.length + (i - halfN l.length) = i by omega] at h3
              exact ⟨h3, by rw [inclF_right H h2 hik, h4, e1]⟩
            · right
              rw [nD] at hb'
              exact ⟨a, by simp [ha], b', by simp [hb'], h5⟩
          · right
            exact ⟨_, by simp, _, by simp, hc1.symm, fun e => ht e.symm⟩
      · rw [climbF_bad H _ _ _ (by omega) _ _ hb] at hc; cases (Prod.mk.inj hc).2
  · obtain ⟨s, rfl⟩ : ∃ s, l = [s] := List.length_eq_one_iff.1 (by omega)
    obtain rfl : i = 0 := by simp at hi; exact hi
    rw [show [s].length = 1 from rfl, climbF_one] at hc
    obtain ⟨hc1, hc2⟩ := Prod.mk.inj hc
    rw [rootF] at hc1
    rw [inclF_one H (by simp), show [s].length = 1 from rfl, upF_one, rootT_one]
    by_cases e : leaf = s
    · left; exact ⟨e, by simpa using hc2⟩
    · right
      exact ⟨_, by simp, _, by simp, hc1.symm, fun h => e (two_inj m0 h).symm⟩

theorem clash_of (H : ByteArray → ByteArray) (hH : ∀ s, (H s).size = 32) (l : List ByteArray) (i : Nat) (leaf : ByteArray) (pf : List ByteArray) (hi : i < l.length) (hc : climbF H leaf i l.length pf = (rootF H l, true)) (hne : ¬ (leaf = l[i]'hi ∧ pf = inclF H l i)) :
    ∃ a b, b < a ∧ clashAt H (rootT H l ++ (upF H leaf i l.length pf).2) a b := by
  rcases climb_clash H hH _ l i leaf pf rfl hi hc with h | ⟨x, hx, y, hy, h1, h2⟩
  · exact absurd h hne
  · obtain ⟨j, hj, rfl⟩ := List.mem_iff_getElem.1 hx
    obtain ⟨q, hq, rfl⟩ := List.mem_iff_getElem.1 hy
    refine ⟨(rootT H l).length + q, j, by omega, by simp; omega, by simp; omega, ?_⟩
    rw [List.getElem_append_right (by omega), List.getElem_append_left hj]
    simp only [show (rootT H l).length + q - (rootT H l).length = q by omega]
    exact ⟨h1.symm, fun e => h2 e.symm⟩
end Go.Proofs.YteglimjonofdeaaGreatDoor
namespace Go.Proofs.YteglimjonofdeaaGreatDoor
open Go.RowKit

set_option maxHeartbeats 400000 in
theorem pick_any (c n : Int) (w : World) (h0 : -9223372036854775808 ≤ c) (h1 : c ≤ 9223372036854775807) (hn : 0 < n) (hn1 : n ≤ 4294967296) :
    Calls Tryz.prog 23 #[.int .i64 c, .int .i64 n] w fun e w' => ∃ r : Int, e = .returned (.int .i64 r) ∧ 0 ≤ r ∧ r < n ∧ w' = w := by
  go_enter Tryz.func23, Tryz.ntmps23
  go_wp2
  · go_ret
    refine ⟨-((c + 1).tmod n), rfl, ?_, ?_, rfl⟩
    · rw [← Int.neg_tmod, Int.tmod_eq_emod_of_nonneg (by omega)]; exact Int.emod_nonneg _ (by omega)
    · rw [← Int.neg_tmod, Int.tmod_eq_emod_of_nonneg (by omega)]; exact Int.emod_lt_of_pos _ hn
  · go_ret
    exact ⟨c % n, rfl, Int.emod_nonneg _ (by omega), Int.emod_lt_of_pos _ hn, rfl⟩
set_option maxRecDepth 100000 in
theorem xor_turns : ∀ (x : Fin 256) (r : Fin 8), bits .xor .u8 (x.val : Int) ((2 ^ r.val : Nat) : Int) ≠ (x.val : Int) ∧ 0 ≤ bits .xor .u8 (x.val : Int) ((2 ^ r.val : Nat) : Int) ∧ bits .xor .u8 (x.val : Int) ((2 ^ r.val : Nat) : Int) < 256 := by decide +kernel

set_option maxHeartbeats 400000 in
theorem pick_fix (c n : Int) (h0 : -9223372036854775808 ≤ c) (h1 : c ≤ 9223372036854775807) (hn : 0 < n) (hn1 : n ≤ 4294967296) :
    ∃ r : Nat, (r : Int) < n ∧ ∀ w, Calls Tryz.prog 23 #[.int .i64 c, .int .i64 n] w fun e w' => e = .returned (.int .i64 r) ∧ w' = w := by
  by_cases hc : c < 0
  · have e1 : 0 ≤ -((c + 1).tmod n) := by rw [← Int.neg_tmod, Int.tmod_eq_emod_of_nonneg (by omega)]; exact Int.emod_nonneg _ (by omega)
    have e2 : -((c + 1).tmod n) < n := by rw [← Int.neg_tmod, Int.tmod_eq_emod_of_nonneg (by omega)]; exact Int.emod_lt_of_pos _ hn
    refine ⟨(-((c + 1).tmod n)).toNat, by omega, fun w => ?_⟩
    have HE : Hid (((-((c + 1).tmod n)).toNat : Int) = -((c + 1).tmod n)) := by show _ = _; omega
    clear e1 e2
    generalize (-((c + 1).tmod n)).toNat = r at *
    go_enter Tryz.func23, Tryz.ntmps23
    go_wp2
    go_ret
    exact ⟨by show Ending.returned (Value.int .i64 (-((c + 1).tmod n))) = Ending.returned (Value.int .i64 (r : Int)); rw [HE.out], rfl⟩
  · have e1 : 0 ≤ c % n := Int.emod_nonneg _ (by omega)
    have e2 : c % n < n := Int.emod_lt_of_pos _ hn
    refine ⟨(c % n).toNat, by omega, fun w => ?_⟩
    have HE : Hid (((c % n).toNat : Int) = c % n) := by show _ = _; omega
    clear e1 e2
    generalize (c % n).toNat = r at *
    go_enter Tryz.func23, Tryz.ntmps23
    go_wp2
    go_ret
    exact ⟨by show Ending.returned (Value.int .i64 (c % n)) = Ending.returned (Value.int .i64 (r : Int)); rw [HE.out], rfl⟩
theorem pick_ex (c n : Int) (h0 : -9223372036854775808 ≤ c) (h1 : c ≤ 9223372036854775807) (hn : 0 < n) (hn1 : n ≤ 4294967296) (w : World) :
    Calls Tryz.prog 23 #[.int .i64 c, .int .i64 n] w fun e w' => ∃ r : Nat, e = .returned (.int .i64 r) ∧ (r : Int) < n ∧ w' = w :=
  (pick_any c n w h0 h1 hn hn1).mono fun e w' ⟨r, h2, h3, h4, h5⟩ => ⟨r.toNat, by rw [h2]; congr 2; omega, by omega, h5⟩

theorem buf_set' {B : Nat} {w : World} {g n cap : Nat} {xs : List Int} (h : BufAt B w g n cap xs) (q : Nat) (hq : q < n) (v : Int) : BufAt B (w.setCell ⟨g, q, none⟩ (.int .u8 v)) g n cap (xs.set q v) := by
  refine ⟨by rw [List.length_set]; exact h.len, fun j u hu => ?_, World.there_setCells h.room g q [_], h.le, h.lo, by simpa using h.hi⟩
  rw [Nat.zero_add]
  have hc : ∃ u', w.cell? ⟨g, q, none⟩ = some u' := by
    have := (h.room q (Nat.lt_of_lt_of_le hq h.le)).1
    rw [Nat.zero_add] at this
    exact Option.isSome_iff_exists.1 this
  obtain ⟨u', hc⟩ := hc
  rw [bytesV, List.getElem?_map, List.getElem?_set] at hu
  by_cases hj : q = j
  · subst hj
    rw [World.cell?_setCell_same _ _ _ hc]
    rw [if_pos rfl, if_pos (by rw [h.len]; exact hq)] at hu
    simpa using hu
  · rw [World.cell?_setCell_other (w := w) (a := ⟨g, q, none⟩) (b := ⟨g, j, none⟩) _ (by intro e; exact hj (congrArg Addr.off e))]
    rw [if_neg hj] at hu
    have := h.cells j u (by rw [bytesV, List.getElem?_map]; exact hu)
    rwa [Nat.zero_add] at this

set_option maxRecDepth 10000 in
set_option maxHeartbeats 1000000 in
/-- turned: another byte, at one place. -/
theorem turned_one (s : ByteArray) (at' : Int) (hs0 : 0 < s.size) (hs : s.size ≤ 100000) (h0 : -9223372036854775808 ≤ at') (h1 : at' ≤ 9223372036854775807) :
    ∃ (q : Nat) (y : Int), Hid (numsOf (strOfNums ((numsOf s).set q y)) = (numsOf s).set q y ∧ strOfNums ((numsOf s).set q y) ≠ s) ∧ ∀ w, Calls Tryz.prog 20 #[.string s, .int .i64 at'] w fun e w' => e = .returned (.string (strOfNums ((numsOf s).set q y))) ∧ Below w.heap.size w w' := by
  obtain ⟨k, hk, hpick⟩ := pick_fix at' (8 * (s.size : Int)) h0 h1 (by omega) (by omega)
  have hr : k % 8 < 8 := by omega
  have ha : k / 8 < s.size := by omega
  have hal : k / 8 < s.data.toList.length := by rw [← Lib.size_eq]; exact ha
  obtain ⟨x, hx⟩ : ∃ x : Nat, x = (s.data.toList[k / 8]'hal).toNat := ⟨_, rfl⟩
  have hx8 : x < 256 := by rw [hx]; exact UInt8.toNat_lt _
  have hna : (numsOf s)[k / 8]? = some (x : Int) := by unfold numsOf; rw [List.getElem?_map, List.getElem?_eq_getElem hal, hx]; rfl
  have hxt := xor_turns ⟨x, hx8⟩ ⟨k % 8, hr⟩
  have HX : Hid (bits .xor .u8 (x : Int) ((2 ^ (k % 8) : Nat) : Int) ≠ (x : Int) ∧ 0 ≤ bits .xor .u8 (x : Int) ((2 ^ (k % 8) : Nat) : Int) ∧ bits .xor .u8 (x : Int) ((2 ^ (k % 8) : Nat) : Int) < 256) := hxt
  have k8 : (k : Int) < 8 * (s.size : Int) := by omega
  have k9 : k < 8 * s.size := by omega
  have HNA : Hid ((numsOf s)[k / 8]? = some (x : Int)) := hna
  have e2 : ((2 : Int) ^ (k % 8) % 256) = ((2 ^ (k % 8) : Nat) : Int) := by
    rw [show ((2 ^ (k % 8) : Nat) : Int) = (2 : Int) ^ (k % 8) by simp]
    apply Int.emod_eq_of_lt
    · exact Int.pow_nonneg (by omega)
    · have : (2 : Nat) ^ (k % 8) < 2 ^ 8 := Nat.pow_lt_pow_right (by omega) hr
      have h3 : ((2 ^ (k % 8) : Nat) : Int) < 256 := by omega
      simpa using h3
  have HE2 : Hid (((2 : Int) ^ (k % 8) % 256) = ((2 ^ (k % 8) : Nat) : Int)) := e2
  clear hxt hx hna e2
  obtain ⟨y, hy⟩ : ∃ y, y = bits .xor .u8 (x : Int) ((2 : Int) ^ (k % 8) % 256) := ⟨_, rfl⟩
  have hyx : Hid (y ≠ (x : Int) ∧ 0 ≤ y ∧ y < 256) := by
    show y ≠ (x : Int) ∧ 0 ≤ y ∧ y < 256
    rw [hy, HE2.out]; exact HX.out
  have HY : Hid (y = bits .xor .u8 (x : Int) ((2 : Int) ^ (k % 8) % 256)) := hy
  clear hy
  have hrg : ∀ z ∈ (numsOf s).set (k / 8) y, 0 ≤ z ∧ z < 256 := fun z hz => by
    rcases List.mem_or_eq_of_mem_set hz with hz | rfl
    · exact nums_range s z hz
    · exact hyx.out.2
  have h5 := nums_str _ hrg
  have H5 : Hid (numsOf (strOfNums ((numsOf s).set (k / 8) y)) = (numsOf s).set (k / 8) y) := h5
  clear h5 hrg
  refine ⟨k / 8, y, ⟨H5.out, ?_⟩, fun w => ?_⟩
  · intro e
    have h5 := H5.out
    rw [e] at h5
    have h6 : (numsOf s)[k / 8]? = some y := by
      rw [h5, List.getElem?_set_self (by rw [numsOf_length]; exact ha)]
    rw [HNA.out] at h6
    exact hyx.out.1 (Option.some.inj h6).symm
  clear H5
  go_enter Tryz.func20, Tryz.ntmps20
  go_wp2_with (refine wpList_conv_buf rfl _ rfl s rfl ?_; intro w1 g cap hbuf hb1)
  refine (hpick _).mono ?_
  rintro e w1' ⟨hke, hw⟩
  subst hke
  obtain rfl : w1 = w1' := hw.symm
  clear hw hpick
  have hcx : w1.cell? ⟨g, k / 8, none⟩ = some (.int .u8 (x : Int)) := by
    have := hbuf.cells (k / 8) (.int .u8 (x : Int)) (by unfold bytesV; rw [List.getElem?_map, HNA.out]; rfl)
    rwa [Nat.zero_add] at this
  have hfx : w1.frozen? ⟨g, k / 8, none⟩ = false := by
    have := (hbuf.room (k / 8) (Nat.lt_of_lt_of_le ha hbuf.le)).2
    rwa [Nat.zero_add] at this
  go_wp2_with fail
  go_region
  rw [← HY.out]
  have hb2 := buf_set' hbuf (k / 8) ha y
  have hb3 := hb2.below (Below.refl _ _).drew hb2.hi
  have hB : Below w.heap.size w (w1.setCell ⟨g, k / 8, none⟩ (.int .u8 y)).drew := (hb1.setCell (p := ⟨g, k / 8, none⟩) hbuf.lo _).drew
  generalize (w1.setCell ⟨g, k / 8, none⟩ (.int .u8 y)).drew = w2 at *
  have hcv := convert_range (cap := cap) s.size hb3.len hb3.cells
  clear hb2 hcx hfx
  go_wp2_with fail
  go_ret
  exact ⟨rfl, hB⟩
theorem ok_good (K : Nat → Int) (l : List ByteArray) (i : Nat) (leaf : ByteArray) (hi : i < l.length) (hx : l[i]? = some leaf) : inclOk K leaf i l.length (rootF (sumOf K) l) (inclF (sumOf K) l i) = true := by
  unfold inclOk
  rw [climb_good (sumOf K) (sumOf_size K) _ l i leaf rfl hi hx, rootF_size _ (sumOf_size K)]
  simp
theorem ok_clash (K : Nat → Int) (l : List ByteArray) (i : Nat) (leaf : ByteArray) (pf : List ByteArray) (hi : i < l.length) (ho : inclOk K leaf i l.length (rootF (sumOf K) l) pf = true) (hne : ¬ (leaf = l[i]'hi ∧ pf = inclF (sumOf K) l i)) :
    ∃ a b, b < a ∧ clashAt (sumOf K) (rootT (sumOf K) l ++ (upF (sumOf K) leaf i l.length pf).2) a b := by
  unfold inclOk at ho
  simp only [Bool.and_eq_true, decide_eq_true_eq] at ho
  exact clash_of (sumOf K) (sumOf_size K) l i leaf pf hi (Prod.ext ho.2.2 ho.2.1) hne
theorem inclF_sizes (H : ByteArray → ByteArray) (hH : ∀ s, (H s).size = 32) : ∀ (n : Nat) (l : List ByteArray) (i : Nat), l.length = n → ∀ b ∈ inclF H l i, b.size = 32 := by
  intro n
  induction n using Nat.strongRecOn with
  | _ n ih =>
  intro l i hl b hb
  by_cases h2 : 2 ≤ l.length
  · have hk0 := halfN_pos l.length
    have hk1 := halfN_lt h2
    by_cases hik : i < halfN l.length
    · rw [inclF_left H h2 hik] at hb
      rcases List.mem_append.1 hb with hb | hb
      · exact ih (halfN l.length) (by omega) (l.take (halfN l.length)) i (by simp; omega) b hb
      · simp at hb; rw [hb]; exact rootF_size H hH _
    · rw [inclF_right H h2 hik] at hb
      rcases List.mem_append.1 hb with hb | hb
      · exact ih (l.length - halfN l.length) (by omega) (l.drop (halfN l.length)) (i - halfN l.length) (by simp) b hb
      · simp at hb; rw [hb]; exact rootF_size H hH _
  · rw [inclF_one H (by omega)] at hb; cases hb

/-- The texts that are hashed along a chain. -/
def stepT (H : ByteArray → ByteArray) (x : ByteArray) : Nat → List ByteArray
  | 0 => []
  | n + 1 => stepT H x n ++ [m2 ++ stepF H x n]
theorem stepT_len (H : ByteArray → ByteArray) (x : ByteArray) : ∀ n, (stepT H x n).length = n
  | 0 => rfl
  | n + 1 => by rw [stepT, List.length_append, stepT_len H x n]; rfl
theorem mem_stepT (H : ByteArray → ByteArray) (x : ByteArray) : ∀ n j, j < n → m2 ++ stepF H x j ∈ stepT H x n
  | n + 1, j, h => by
    rw [stepT]
    by_cases e : j = n
    · subst e; simp
    · exact List.mem_append_left _ (mem_stepT H x n j (by omega))
def chainTx (H : ByteArray → ByteArray) (seed : ByteArray) (i c : Nat) : List ByteArray := [mK ++ seed ++ two i c] ++ stepT H (beginF H seed i c) 15
theorem chainTx_len (H : ByteArray → ByteArray) (seed : ByteArray) (i c : Nat) : (chainTx H seed i c).length = 16 := by unfold chainTx; rw [List.length_append, stepT_len]; rfl
/-- The texts of the first chains of a key. -/
def keyT (H : ByteArray → ByteArray) (seed : ByteArray) (i : Nat) : Nat → List ByteArray
  | 0 => []
  | c + 1 => keyT H seed i c ++ chainTx H seed i c
theorem keyT_len (H : ByteArray → ByteArray) (seed : ByteArray) (i : Nat) : ∀ c, (keyT H seed i c).length = 16 * c
  | 0 => rfl
  | c + 1 => by rw [keyT, List.length_append, keyT_len H seed i c, chainTx_len]; omega
theorem mem_keyT (H : ByteArray → ByteArray) (seed : ByteArray) (i : Nat) (x : ByteArray) : ∀ n c, c < n → x ∈ chainTx H seed i c → x ∈ keyT H seed i n
  | n + 1, c, h, hx => by
    rw [keyT]
    by_cases e : c = n
    · subst e; exact List.mem_append_right _ hx
    · exact List.mem_append_left _ (mem_keyT H seed i x n c (by omega) hx)
/-- The texts of the first keys. -/
def keysT (H : ByteArray → ByteArray) (seed : ByteArray) : Nat → List ByteArray
  | 0 => []
  | i + 1 => keysT H seed i ++ keyT H seed i 67
theorem keysT_len (H : ByteArray → ByteArray) (seed : ByteArray) : ∀ i, (keysT H seed i).length = 1072 * i
  | 0 => rfl
  | i + 1 => by rw [keysT, List.length_append, keysT_len H seed i, keyT_len]; omega
theorem mem_keysT (H : ByteArray → ByteArray) (seed : ByteArray) (x : ByteArray) (n i : Nat) (h : i < n) (hx : x ∈ keyT H seed i 67) : x ∈ keysT H seed n := by
  revert hx
  generalize hm : (67 : Nat) = m
  intro hx
  induction n with
  | zero => omega
  | succ n ih =>
    rw [keysT, hm]
    by_cases e : i = n
    · subst e; exact List.mem_append_right _ hx
    · exact List.mem_append_left _ (ih (by omega))
/-- The texts that a signature's values are gone on to by. -/
def finTs (H : ByteArray → ByteArray) (V : ByteArray) (D : Nat → Nat) : Nat → List ByteArray
  | 0 => []
  | c + 1 => finTs H V D c ++ stepT H (pieceF V c) (15 - D c)
theorem finTs_len (H : ByteArray → ByteArray) (V : ByteArray) (D : Nat → Nat) : ∀ c, (finTs H V D c).length ≤ 15 * c
  | 0 => Nat.le_refl _
  | c + 1 => by have := finTs_len H V D c; rw [finTs, List.length_append, stepT_len]; omega
theorem mem_finTs (H : ByteArray → ByteArray) (V : ByteArray) (D : Nat → Nat) (x : ByteArray) : ∀ n c, c < n → x ∈ stepT H (pieceF V c) (15 - D c) → x ∈ finTs H V D n
  | n + 1, c, h, hx => by
    rw [finTs]
    by_cases e : c = n
    · subst e; exact List.mem_append_right _ hx
    · exact List.mem_append_left _ (mem_finTs H V D x n c (by omega) hx)
/-- All texts that forged has in hand. -/
def forgedT (H : ByteArray → ByteArray) (seed : ByteArray) (h : Nat) (was msg sig : ByteArray) : List ByteArray :=
  keysT H seed (2 ^ h) ++ rootT H (leavesF H seed (2 ^ h)) ++ [was] ++ [msg] ++ finTs H (sig.extract 1 2145) (dig (H msg)) 67 ++ (upF H (finT H (sig.extract 1 2145) msg) (keyN sig) (2 ^ h) (besideF h sig)).2

theorem clash_mem (H : ByteArray → ByteArray) (T : List ByteArray) (x y : ByteArray) (hx : x ∈ T) (hy : y ∈ T) (h1 : H x = H y) (h2 : x ≠ y) : ∃ a b, b < a ∧ clashAt H T a b := by
  obtain ⟨i, hi, rfl⟩ := List.mem_iff_getElem.1 hx
  obtain ⟨j, hj, rfl⟩ := List.mem_iff_getElem.1 hy
  rcases Nat.lt_trichotomy i j with h | h | h
  · exact ⟨j, i, h, hj, hi, h1.symm, fun e => h2 e.symm⟩
  · subst h; exact absurd rfl h2
  · exact ⟨i, j, h, hi, hj, h1, h2⟩

theorem nums_inj {a b : ByteArray} (h : numsOf a = numsOf b) : a = b := by rw [← str_nums a, h, str_nums]
theorem app_inj {a b c d : ByteArray} (hs : a.size = c.size) (h : a ++ b = c ++ d) : a = c ∧ b = d :=
  three_inj m0 hs (by rw [ByteArray.append_assoc, h, ByteArray.append_assoc])

/-- Back along two chains that end at the same. -/
theorem back (H : ByteArray → ByteArray) (T : List ByteArray) (inj : ∀ x ∈ T, ∀ y ∈ T, H x = H y → x = y) : ∀ (a b : Nat) (x y : ByteArray), a ≤ b → (∀ i, i < a → m2 ++ stepF H x i ∈ T) → (∀ i, i < b → m2 ++ stepF H y i ∈ T) → stepF H x a = stepF H y b → x = stepF H y (b - a)
  | 0, b, x, y, _, _, _, h => h
  | a + 1, b, x, y, hab, hx, hy, h => by
    obtain ⟨b', rfl⟩ : ∃ b', b = b' + 1 := ⟨b - 1, by omega⟩
    have h1 := inj _ (hx a (by omega)) _ (hy b' (by omega)) h
    have h2 := two_inj m2 h1
    have := back H T inj a b' x y (by omega) (fun i hi => hx i (by omega)) (fun i hi => hy i (by omega)) h2
    rw [show b' + 1 - (a + 1) = b' - a by omega]
    exact this

theorem chains_at (H : ByteArray → ByteArray) (hH : ∀ s, (H s).size = 32) (B B' : Nat → ByteArray) (N N' : Nat → Nat) (hB : ∀ c, (B c).size = 32) (hB' : ∀ c, (B' c).size = 32) : ∀ n, chainsT H B N n = chainsT H B' N' n → ∀ c, c < n → stepF H (B c) (N c) = stepF H (B' c) (N' c)
  | n + 1, h, c, hc => by
    rw [chainsT, chainsT] at h
    obtain ⟨h1, h2⟩ := app_inj (by rw [chainsT_size H hH B N hB, chainsT_size H hH B' N' hB']) h
    by_cases e : c = n
    · subst e; exact h2
    · exact chains_at H hH B B' N N' hB hB' n h1 c (by omega)

theorem piece_app_left (a b : ByteArray) (c : Nat) (h : 32 * c + 32 ≤ a.size) : pieceF (a ++ b) c = pieceF a c := by
  apply nums_inj
  unfold pieceF
  rw [nums_extract, nums_extract, nums_app, List.drop_append_of_le_length (by rw [numsOf_length]; omega), List.take_append_of_le_length (by rw [List.length_drop, numsOf_length]; omega)]
theorem piece_app_at (a b : ByteArray) (c : Nat) (h : a.size = 32 * c) (hb : b.size = 32) : pieceF (a ++ b) c = b := by
  apply nums_inj
  unfold pieceF
  rw [nums_extract, nums_app, List.drop_left' (by rw [numsOf_length, h]), List.take_of_length_le (by rw [numsOf_length]; omega)]
theorem piece_chains (H : ByteArray → ByteArray) (hH : ∀ s, (H s).size = 32) (B : Nat → ByteArray) (N : Nat → Nat) (hB : ∀ c, (B c).size = 32) : ∀ n c, c < n → pieceF (chainsT H B N n) c = stepF H (B c) (N c)
  | n + 1, c, hc => by
    rw [chainsT]
    by_cases e : c = n
    · subst e
      exact piece_app_at _ _ _ (chainsT_size H hH B N hB c) (stepF_size H hH _ (hB c) _)
    · rw [piece_app_left _ _ _ (by rw [chainsT_size H hH B N hB]; omega)]
      exact piece_chains H hH B N hB n c (by omega)
theorem pieces_ext (X Y : ByteArray) (n : Nat) (hX : X.size = 32 * n) (hY : Y.size = 32 * n) (h : ∀ c, c < n → pieceF X c = pieceF Y c) : X = Y := by
  apply nums_inj
  apply List.ext_getElem?
  intro j
  by_cases hj : j < 32 * n
  · have h1 := congrArg numsOf (h (j / 32) (by omega))
    unfold pieceF at h1
    rw [nums_extract, nums_extract] at h1
    have h2 : (((numsOf X).drop (32 * (j / 32))).take (32 * (j / 32) + 32 - 32 * (j / 32)))[j % 32]? = (((numsOf Y).drop (32 * (j / 32))).take (32 * (j / 32) + 32 - 32 * (j / 32)))[j % 32]? := by rw [h1]
    rw [List.getElem?_take_of_lt (by omega), List.getElem?_take_of_lt (by omega), List.getElem?_drop, List.getElem?_drop, show 32 * (j / 32) + j % 32 = j by omega] at h2
    exact h2
  · rw [List.getElem?_eq_none (by rw [numsOf_length]; omega), List.getElem?_eq_none (by rw [numsOf_length]; omega)]
theorem piece_join : ∀ (ls : List ByteArray) (X : ByteArray) (q : Nat) (hq : q < ls.length), (∀ b ∈ ls, b.size = 32) → numsOf X = joinN ls → pieceF X q = ls[q]'hq
  | l :: ls, X, q, hq, hs, h => by
    have e : X = l ++ strOfNums (joinN ls) := by
      have hr : numsOf (strOfNums (joinN ls)) = joinN ls := by
        apply nums_str
        intro x hx
        unfold joinN at hx
        obtain ⟨y, hy, hx⟩ := List.mem_flatMap.1 hx
        exact nums_range y x hx
      apply nums_inj
      rw [h, nums_app, hr]
      simp [joinN]
    have hl : l.size = 32 := hs l (by simp)
    have hr : numsOf (strOfNums (joinN ls)) = joinN ls := by
      have := h
      rw [e, nums_app] at this
      have h3 : joinN (l :: ls) = numsOf l ++ joinN ls := by simp [joinN]
      rw [h3] at this
      exact List.append_cancel_left this
    cases q with
    | zero =>
      subst e
      apply nums_inj
      unfold pieceF
      rw [nums_extract, nums_app]
      simp [List.take_append_of_le_length, numsOf_length, hl, List.take_of_length_le]
    | succ q =>
      have := piece_join ls (strOfNums (joinN ls)) q (by simpa using hq) (fun b hb => hs b (by simp [hb])) hr
      rw [List.getElem_cons_succ, ← this]
      subst e
      apply nums_inj
      unfold pieceF
      rw [nums_extract, nums_extract, nums_app, show 32 * (q + 1) = (numsOf l).length + 32 * q by rw [numsOf_length, hl]; omega, List.drop_append]
      simp [List.drop_eq_nil_of_le]
theorem nums_head (s : ByteArray) (h : 0 < s.size) : numsOf s = (keyN s : Int) :: (numsOf s).drop 1 := by
  unfold keyN numsOf
  rcases s with ⟨⟨l⟩⟩
  cases l with
  | nil => exact absurd h (Nat.lt_irrefl 0)
  | cons a l => simp
theorem sig_ext (h : Nat) (s t : ByteArray) (hs : s.size = 2145 + 32 * h) (ht : t.size = 2145 + 32 * h) (h0 : keyN s = keyN t) (h1 : ∀ c, c < 67 → pieceF (s.extract 1 2145) c = pieceF (t.extract 1 2145) c) (h2 : besideF h s = besideF h t) : s = t := by
  have e1 : s.extract 1 2145 = t.extract 1 2145 := pieces_ext _ _ 67 (by rw [ByteArray.size_extract]; omega) (by rw [ByteArray.size_extract]; omega) h1
  have e2 : s.extract 2145 s.size = t.extract 2145 t.size := by
    refine pieces_ext _ _ h (by rw [ByteArray.size_extract]; omega) (by rw [ByteArray.size_extract]; omega) (fun c hc => ?_)
    have := congrArg (fun l : List ByteArray => l[c]?) h2
    unfold besideF at this
    simpa [hc] using this
  have n1 := congrArg numsOf e1
  have n2 := congrArg numsOf e2
  rw [nums_extract, nums_extract] at n1 n2
  have l1 := numsOf_length s
  have l2 := numsOf_length t
  apply nums_inj
  rw [nums_head s (by omega), nums_head t (by omega), h0]
  refine congrArg (List.cons _) ?_
  rw [← List.take_append_drop 2144 ((numsOf s).drop 1), ← List.take_append_drop 2144 ((numsOf t).drop 1)]
  rw [List.drop_drop, List.drop_drop]
  rw [List.take_of_length_le (by rw [List.length_drop]; omega), List.take_of_length_le (by rw [List.length_drop]; omega)] at n2
  rw [n1, n2]
theorem dig_inj (a b : ByteArray) (ha : a.size = 32) (hb : b.size = 32) (h : ∀ c, c < 67 → dig a c = dig b c) : a = b := by
  apply nums_inj
  have hB : ∀ i, i < 32 → bAt a i = bAt b i := fun i hi => by
    have h1 := h (2 * i) (by omega)
    have h2 := h (2 * i + 1) (by omega)
    unfold dig at h1 h2
    rw [if_pos (by omega), if_pos (by omega)] at h1 h2
    unfold nib at h1 h2
    rw [if_pos (by omega), if_pos (by omega), show 2 * i / 2 = i by omega] at h1
    rw [if_neg (by omega), if_neg (by omega), show (2 * i + 1) / 2 = i by omega] at h2
    have := bAt_lo a i
    have := bAt_lo b i
    omega
  apply List.ext_getElem
  · rw [numsOf_length, numsOf_length, ha, hb]
  · intro i h1 h2
    rw [numsOf_length] at h1 h2
    have := hB i (by omega)
    rw [bAt_nums, bAt_nums] at this
    rw [List.getD_eq_getElem?_getD, List.getD_eq_getElem?_getD, List.getElem?_eq_getElem (by rw [numsOf_length]; omega), List.getElem?_eq_getElem (by rw [numsOf_length]; omega)] at this
    exact this
theorem mK_ne (s t x : ByteArray) : mK ++ s ++ t ≠ m2 ++ x := fun e => by
  have := congrArg numsOf e
  rw [nums_app, nums_app, nums_app, show numsOf mK = [75] from rfl, show numsOf m2 = [2] from rfl] at this
  simp at this
theorem two_ne (k k' c : Nat) (hk : k < 256) (hk' : k' < 256) (h : two k c = two k' c) : k = k' := by
  have := congrArg numsOf h
  unfold two at this
  rw [nums_str _ (by intro x hx; simp at hx; omega), nums_str _ (by intro x hx; simp at hx; omega)] at this
  have := (List.cons.inj this).1
  omega
end Go.Proofs.YteglimjonofdeaaGreatDoor
