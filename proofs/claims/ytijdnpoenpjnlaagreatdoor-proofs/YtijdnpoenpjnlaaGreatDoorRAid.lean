import Derived.Test.YtijdnpoenpjnlaaGreatDoorWSumAM
import Derived.ArgAppend
set_option linter.unusedVariables false
set_option linter.unusedSimpArgs false
namespace Go.Proofs.YtijdnpoenpjnlaaGreatDoor
open Go.RowKit

/-- Bytes that the call has made: n of them lie at the head of block g, which has room for cap, and may be written. -/
structure BufAt (B : Nat) (w : World) (g n cap : Nat) (xs : List Int) : Prop where
  len : xs.length = n
  cells : w.rangeAt g 0 (bytesV xs)
  room : w.there g 0 cap
  le : n ≤ cap
  lo : B ≤ g
  hi : g < w.heap.size
theorem BufAt.below {B : Nat} {w w' : World} {g n cap : Nat} {xs : List Int} (h : BufAt B w g n cap xs) {C : Nat} (hb : Below C w w') (hg : g < C) : BufAt B w' g n cap xs :=
  ⟨h.len, fun j v hv => (hb.cell (p := ⟨g, 0 + j, none⟩) hg).trans (h.cells j v hv), there_below hb hg h.room, h.le, h.lo, Nat.lt_of_lt_of_le h.hi hb.size⟩
theorem BufAt.alloc {B : Nat} {w : World} {g n cap : Nat} {xs : List Int} (h : BufAt B w g n cap xs) (o : Obj) : BufAt B (w.alloc o) g n cap xs :=
  h.below ((Below.refl _ _).alloc (Nat.le_refl _) _) h.hi
theorem buf_of_own {B : Nat} {w : World} {v : Value} {n : Nat} {xs : List Int} (h : w.ownsRow B 5 1 v n (bytesV xs)) (hn : 0 < n) : ∃ g cap, v = .slice (some ⟨g, 0, none⟩) n cap ∧ BufAt B w g n cap xs := by
  rcases h.2 with ⟨_, h0⟩ | ⟨g, cap, cur, rfl, hb, hg, hnc, hm, hc, _⟩
  · omega
  · have hl := h.1
    refine ⟨g, cap, rfl, by simpa [bytesV] using hl, fun j u hu => ?_, fun j hj => ?_, hnc, hb, (h.lt g rfl).2⟩
    · have := h.cells (g := g) rfl j u hu
      rwa [Addr.add_mid] at this
    · rw [cell_of_row w g (0 + j) cur _ _ hg, frozen_of_row w g (0 + j) cur _ hg]
      have hj' : j < cur.size := by omega
      simp [hj']

/-- 'b = append(b, x ..)': in place, or into a new row; the world behind it a letter. -/
theorem wpList_append_buf {ops : Array Oper} {rest : List Oper} {o : Oper} {a : Act} {w : World} {Q : Exit → Act → World → Prop} (hg : o.guard = none) (s x : Operand)
    (hop : o.op = Op.call { callee := Callee.builtin Builtin.append, args := #[s, x], argTypes := #[42, 42] })
    (B g n cap : Nat) (xs : List Int) (hs : a.eval s = .slice (some ⟨g, 0, none⟩) n cap) (hb : BufAt B w g n cap xs)
    (ad : Addr) (c : Nat) (news : List Int) (hx : a.eval x = .slice (some ad) news.length c) (hc : ∀ j u, (bytesV news)[j]? = some u → w.cell? (ad.add j) = some u)
    (hB : B ≤ w.heap.size) (hbd : n + news.length ≤ 140737488355328) (hpos : 0 < n + news.length)
    (hK : ∀ w' g' cap', BufAt B w' g' (n + news.length) cap' (xs ++ news) → Below B w w' → wpList Tryz.prog ops Q rest (a.put o.dst (.slice (some ⟨g', 0, none⟩) (n + news.length) cap')) w') :
    wpList Tryz.prog ops Q (o :: rest) a w := by
  obtain ⟨i0, hi, hz0, hz1, hz2⟩ := info_parts info5
  refine wpList_append_arg w hg s x 42 hop 5 i0 (.int .u8 0) 1 1 Tryz.underlying42 hi hz0 hz1 hz2 rfl (by decide) g 0 n cap (bytesV xs) hs (by rw [bytesV_length, hb.len, Nat.mul_one]) hb.cells ad news.length c (bytesV news) hx (by rw [bytesV_length, Nat.mul_one]) hc (bytesV_one _)
    (fun hr j hj => ?_) (by unfold maxLen; omega) (by omega) (fun hr => ?_) (fun hr v' w' ho hgr => ?_)
  · rw [bytesV_length] at hj
    have := hb.room (n + j) (by omega)
    simpa using this
  · have hr0 : w.there g 0 (bytesV xs ++ bytesV (List.replicate news.length 0)).length := fun j hj => hb.room j (by simp [bytesV_length, hb.len] at hj; omega)
    refine hK (w.setCells g (0 + n * 1) (bytesV news)) g cap ⟨by simp [hb.len], ?_, World.there_setCells hb.room _ _ _, hr, hb.lo, by rw [size_setCells]; exact hb.hi⟩ (below_setCells hb.lo _ _ _ (Below.refl _ _))
    intro j v hv
    rw [bytesV_append] at hv
    rw [show 0 + n * 1 = n by omega]
    rcases Nat.lt_or_ge j n with h | h
    · have e : (w.setCells g n (bytesV news)).cell? ⟨g, 0 + j, none⟩ = w.cell? ⟨g, 0 + j, none⟩ := World.cell?_setCells_out g _ n w ⟨g, 0 + j, none⟩ (fun _ _ => Or.inl (by simp; omega))
      rw [e]
      rw [List.getElem?_append_left (by rw [bytesV_length, hb.len]; exact h)] at hv
      exact hb.cells j v hv
    · rw [List.getElem?_append_right (by rw [bytesV_length, hb.len]; exact h), bytesV_length, hb.len] at hv
      have h2 := World.rangeAt_setCells_same w g n (bytesV news) (fun q hq => by rw [bytesV_length] at hq; have := hb.room (n + q) (by omega); simpa using this)
      have := h2 (j - n) v hv
      rwa [show n + (j - n) = 0 + j by omega] at this
  · rw [← bytesV_append] at ho
    obtain ⟨g', cap', rfl, hb'⟩ := buf_of_own ho hpos
    exact hK w' g' cap' ⟨hb'.len, hb'.cells, hb'.room, hb'.le, Nat.le_trans hB hb'.lo, hb'.hi⟩ (((Below.refl _ _).grown hgr (Nat.le_refl _) (fun k hk => by cases hk)).mono hB)

/-- '[]byte(s)', at the list of operations. -/
theorem wpList_conv_buf {ops : Array Oper} {rest : List Oper} {o : Oper} {a : Act} {w : World} {Q : Exit → Act → World → Prop} (hg : o.guard = none) (x : Operand) (ho : o.op = .convert 9 42 x) (t : ByteArray) (hx : a.eval x = .string t)
    (hK : ∀ w' g cap, BufAt w.heap.size w' g t.size cap (numsOf t) → Below w.heap.size w w' → wpList Tryz.prog ops Q rest (a.put o.dst (.slice (some ⟨g, 0, none⟩) t.size cap)) w') : wpList Tryz.prog ops Q (o :: rest) a w := by
  refine wpList_plain hg fun K hK' => ?_
  unfold Oper.wp
  have hr := run_bytes_of_string (P := Tryz.prog) w 9 42 5 t Tryz.underlying9 Tryz.underlying42 Tryz.underlying5
  simp only [execOp, ho, hx, Sem.run_bind, hr, Result.andThen_ok, Sem.run_pure]
  have hcap : t.size ≤ grownCap w t.size 0 5 := grownCap_ge w t.size 0 5
  obtain ⟨cap, hc⟩ : ∃ cap, cap = grownCap w t.size 0 5 := ⟨_, rfl⟩
  rw [← hc] at hcap ⊢
  have hsz : (bytesRow t cap).size = cap := by
    have : t.data.size = t.size := rfl
    simp [bytesRow, this]; omega
  have hh : (w.drew.alloc (.cells (bytesRow t cap) 5 ((bytesRow t cap).size, (bytesRow t cap).size + 1))).heap[w.heap.size]? = some (.cells (bytesRow t cap) 5 ((bytesRow t cap).size, (bytesRow t cap).size + 1)) := heap_alloc_new w.drew _
  refine hK' _ _ (hK _ w.heap.size cap ⟨numsOf_length t, fun j v hv => ?_, fun j hj => ?_, hcap, Nat.le_refl _, by simp⟩ ((Below.refl _ _).drew.alloc (Nat.le_refl _) _))
  · have hj : j < t.data.size := by
      have := (List.getElem?_eq_some_iff.1 hv).1
      rw [bytesV_length, numsOf_length] at this; exact this
    rw [cell_of_row _ _ _ _ _ _ hh, Nat.zero_add, bytesRow_at t cap j hj]
    rw [← hv]
    have hj2 : j < t.data.toList.length := by simpa using hj
    simp [bytesV, numsOf, List.getElem?_eq_getElem hj2, hj]
  · rw [cell_of_row _ _ _ _ _ _ hh]
    refine ⟨by rw [Nat.zero_add]; simp [hsz, hj], ?_⟩
    have hn : ¬ cap ≤ 0 + j := by omega
    rw [hsz] at hh ⊢
    simp only [World.frozen?]
    rw [hh]
    simp only [hn, decide_false, Bool.false_and]
end Go.Proofs.YtijdnpoenpjnlaaGreatDoor
