import Derived.Test.YtijdnpoenpjnlaaGreatDoorRUpTo
set_option linter.unusedVariables false
set_option linter.unusedSimpArgs false
namespace Go.Proofs.YtijdnpoenpjnlaaGreatDoor
open Go.RowKit

theorem ops_form {w : World} {v : Value} {l : List Op8} (h : OpsAt w v l) : ∃ ao n cap, v = .slice ao n cap ∧ n = l.length ∧
    (∀ q (hq : q < l.length), ∃ g off, ao = some ⟨g, off, none⟩ ∧ w.rangeAt g (off + q * 8) (l[q]'hq).cells) := by
  rcases h.form with ⟨⟨ao, cap, rfl⟩, rfl⟩ | ⟨g, off, cap, rfl, hc⟩
  · exact ⟨ao, 0, cap, rfl, rfl, fun q hq => by simp at hq⟩
  · exact ⟨_, _, _, rfl, rfl, fun q hq => ⟨g, off, rfl, fun j u hu => hc q _ (List.getElem?_eq_getElem hq) j u hu⟩⟩

def smallPost (l : List Op8) (w : World) (e : Ending) (w' : World) : Prop := ∃ r, e = .returned (.bool r) ∧ w' = w ∧ (r = true → l.length ≤ 16384 ∧ ∀ o ∈ l, o.s.size ≤ 16384)
set_option maxHeartbeats 400000 in
theorem small_any (v : Value) (l : List Op8) (w : World) (h : OpsAt w v l) (hn : l.length ≤ 140737488355328) (hs : ∀ o ∈ l, o.s.size ≤ 140737488355328) :
    Calls Tryz.prog 14 #[v] w (smallPost l w) := by
  obtain ⟨ao, n, cap, rfl, hnl, hr⟩ := ops_form h
  have HR : Hid (∀ q (hq : q < l.length), ∃ g off, ao = some ⟨g, off, none⟩ ∧ w.rangeAt g (off + q * 8) (l[q]'hq).cells) := hr
  have HS : Hid (∀ o ∈ l, o.s.size ≤ 140737488355328) := hs
  have HN : Hid (n = l.length) := hnl
  have hn' : n ≤ 140737488355328 := by omega
  clear h hnl hr hs hn
  by_cases hbig : 16384 < n
  · have hb' : (16384 : Int) < (n : Int) := by omega
    go_enter Tryz.func14, Tryz.ntmps14
    go_wp2_with fail
    go_ret
    exact ⟨false, rfl, rfl, fun e => by cases e⟩
  · have hb' : ¬ (16384 : Int) < (n : Int) := by omega
    go_enter Tryz.func14, Tryz.ntmps14
    go_wp2_with fail
    go_loopw [3, 4] (fun t i wr => ∃ (q m : Nat), q ≤ n ∧ i = .int .i64 q ∧ t = .int .i64 m ∧ m ≤ 16384 ∧ wr = w ∧ ∀ j (hj : j < l.length), j < q → (l[j]'hj).s.size ≤ 16384) (fun _ i _ => n - (intOf i).toNat)
    case atStart => exact ⟨0, n, by omega, rfl, rfl, by omega, rfl, fun j _ h => by omega⟩
    case round =>
      obtain ⟨q, m, hq, rfl, rfl, hm, hwr, hall⟩ := hrel
      obtain rfl : w = wr := hwr.symm
      clear hwr
      have HAL : Hid (∀ j (hj : j < l.length), j < q → (l[j]'hj).s.size ≤ 16384) := hall
      clear hall
      by_cases hlt : q < n
      · have q1 : (q : Int) < (n : Int) := by omega
        have q0 : (0 : Int) ≤ (q : Int) := by omega
        have hql : q < l.length := by have := HN.out; omega
        obtain ⟨g, off, hao, hrg⟩ := HR.out q hql
        subst hao
        have hsz := HS.out _ (List.getElem_mem hql)
        obtain ⟨s, hs⟩ : ∃ s, s = (l[q]'hql).s := ⟨_, rfl⟩
        have hc7 : w.cell? ⟨g, off + q * 8 + 7, none⟩ = some (.string s) := by rw [hs]; exact hrg 7 _ rfl
        rw [← hs] at hsz
        have HQ : Hid (s = (l[q]'hql).s) := hs
        clear hs hrg
        by_cases hov : 16384 < m + s.size
        · have ho' : (16384 : Int) < (m : Int) + (s.size : Int) := by omega
          go_wp2_with fail
          go_ret
          exact ⟨false, rfl, rfl, fun e => by cases e⟩
        · have ho' : ¬ (16384 : Int) < (m : Int) + (s.size : Int) := by omega
          go_wp2_with fail
          refine ⟨⟨q + 1, m + s.size, by omega, by go_num, by go_num, by omega, by trivial, fun j hj hjq => ?_⟩, ?_⟩
          · by_cases hjq' : j < q
            · exact HAL.out j hj hjq'
            · obtain rfl : j = q := by omega
              rw [← HQ.out]; omega
          · simp [intOf]; omega
      · have q1 : ¬ (q : Int) < (n : Int) := by omega
        go_wp2_with fail
        go_ret
        refine ⟨true, rfl, rfl, fun _ => ⟨by have := HN.out; omega, fun o ho => ?_⟩⟩
        obtain ⟨j, hj, rfl⟩ := List.mem_iff_getElem.1 ho
        exact HAL.out j hj (by have := HN.out; omega)

theorem info_op8 : ∃ i z, Tryz.prog.info? 28 = some i ∧ i.zero = some z ∧ i.size = 8 ∧ i.bytes = 72 ∧ z.cells.size = 8 := by
  obtain ⟨i, hi⟩ : ∃ i, Tryz.prog.info? 28 = some i := Option.isSome_iff_exists.1 (by kernel_rfl)
  have h1 : ((Tryz.prog.info? 28).bind (·.zero)).map (·.cells.size) = some 8 := by kernel_rfl
  rw [hi] at h1
  obtain ⟨z, hz, hz8⟩ := Option.map_eq_some_iff.1 h1
  refine ⟨i, z, hi, hz, ?_, ?_, hz8⟩
  · have : (Tryz.prog.info? 28).map (·.size) = some 8 := by kernel_rfl
    rw [hi] at this; exact Option.some.inj this
  · have : (Tryz.prog.info? 28).map (·.bytes) = some 72 := by kernel_rfl
    rw [hi] at this; exact Option.some.inj this
/-- The cells of steps, one behind the other. -/
def flatC (L : List Op8) : List Value := L.flatMap Op8.cells
theorem flatC_len (L : List Op8) : (flatC L).length = L.length * 8 := by
  induction L with
  | nil => rfl
  | cons o r ih => simp only [flatC, List.flatMap_cons, List.length_append, List.length_cons] at *; rw [ih, show o.cells.length = 8 from rfl]; omega
theorem flatC_at (L : List Op8) (i : Nat) (o : Op8) (h : L[i]? = some o) (j : Nat) (u : Value) (hu : o.cells[j]? = some u) : (flatC L)[i * 8 + j]? = some u := by
  have hj : j < 8 := by have := (List.getElem?_eq_some_iff.1 hu).1; exact this
  induction L generalizing i with
  | nil => simp at h
  | cons o' r ih =>
    simp only [flatC, List.flatMap_cons]
    cases i with
    | zero =>
      simp at h; subst h
      rw [List.getElem?_append_left (by rw [show o'.cells.length = 8 from rfl]; omega), Nat.zero_mul, Nat.zero_add]; exact hu
    | succ i =>
      simp at h
      rw [List.getElem?_append_right (by rw [show o'.cells.length = 8 from rfl]; omega), show (i + 1) * 8 + j - o'.cells.length = i * 8 + j by rw [show o'.cells.length = 8 from rfl]; omega]
      exact ih i h
theorem ops_own {w : World} {B : Nat} {v : Value} {L : List Op8} (h : w.ownsRow B 28 8 v L.length (flatC L)) : OpsAt w v L := by
  rcases h.2 with ⟨rfl, h0⟩ | ⟨g, cap, cur, rfl, _⟩
  · exact ⟨Or.inl ⟨⟨none, 0, rfl⟩, List.eq_nil_of_length_eq_zero h0⟩⟩
  · refine ⟨Or.inr ⟨g, 0, cap, rfl, fun i o ho j u hu => ?_⟩⟩
    have hi : i < L.length := (List.getElem?_eq_some_iff.1 ho).1
    have hj : j < 8 := (List.getElem?_eq_some_iff.1 hu).1
    rw [Nat.zero_add, h.cellAt (i * 8 + j) (by omega)]
    exact flatC_at L i o ho j u hu
end Go.Proofs.YtijdnpoenpjnlaaGreatDoor
