import Derived.Test.YtijdnpoenpjnlaaGreatDoorRWorld
set_option linter.unusedVariables false
set_option linter.unusedSimpArgs false
namespace Go.Proofs.YtijdnpoenpjnlaaGreatDoor
open Go.RowKit

set_option maxHeartbeats 400000 in
theorem lpick_ex (c n : Int) (h0 : -9223372036854775808 ≤ c) (h1 : c ≤ 9223372036854775807) (hn : 0 < n) (hn1 : n ≤ 4294967296) :
    ∃ r : Int, 0 ≤ r ∧ r < n ∧ ∀ w, Calls Tryz.prog 25 #[.int .i64 c, .int .i64 n] w fun e w' => e = .returned (.int .i64 r) ∧ w' = w := by
  by_cases hc : c < 0
  · have a0 : 0 ≤ (-(c + 1)) % n := Int.emod_nonneg _ (by omega)
    have a1 : (-(c + 1)) % n < n := Int.emod_lt_of_pos _ hn
    refine ⟨n - 1 - (-(c + 1)) % n, by omega, by omega, fun w => ?_⟩
    have e1 : (-(c + 1)).tmod n = (-(c + 1)) % n := Int.tmod_eq_emod_of_nonneg (by omega)
    have e2 : -((c + 1).tmod n) = (-(c + 1)) % n := by rw [← Int.neg_tmod]; exact e1
    obtain ⟨q, hq⟩ : ∃ q, q = (-(c + 1)) % n := ⟨_, rfl⟩
    rw [← hq] at a0 a1 e1 e2 ⊢
    have HQ : Hid ((-(c + 1)).tmod n = q) := e1
    have HQ2 : Hid (-((c + 1).tmod n) = q) := e2
    clear hq e1 e2
    go_enter Tryz.func25, Tryz.ntmps25
    go_wp2
    go_ret
    refine ⟨ret_int ?_, rfl⟩
    have := HQ.out; have := HQ2.out
    rw [IntWalk.wrap64_in _ ⟨by omega, by omega⟩]
    omega
  · have hc' : 0 ≤ c := by omega
    refine ⟨c % n, Int.emod_nonneg _ (by omega), Int.emod_lt_of_pos _ hn, fun w => ?_⟩
    go_enter Tryz.func25, Tryz.ntmps25
    go_wp2
    go_ret
    exact ⟨rfl, rfl⟩

set_option maxHeartbeats 400000 in
theorem text_any (p k : Nat) (S : WS) (c : Int) (w : World) (h : WAt p k w S) (hk : k ≤ 1000000) (h0 : -9223372036854775808 ≤ c) (h1 : c ≤ 9223372036854775807) :
    Calls Tryz.prog 23 #[.pointer (some ⟨p, 0, none⟩), .int .i64 c] w fun e w' => ∃ s, e = .returned (.string s) ∧ s.size ≤ 20000 ∧ ∃ m, w' = w.drewN m := by
  have hc0 : w.cell? ⟨p, 0, none⟩ = some S.tv := h.cell 0
  have hT := h.texts
  have hnT := h.nT
  have hsT := h.sT
  clear h
  rcases hT.2 with ⟨hv, hn⟩ | ⟨g, cap, cur, hv, hb, hg, hnc, hcm, hcs, htk⟩
  · rw [hv] at hc0
    clear hT hnT hsT hn
    go_enter Tryz.func23, Tryz.ntmps23
    go_wp2
    go_ret
    exact ⟨_, rfl, Nat.zero_le _, 0, rfl⟩
  · rw [hv] at hc0 hT
    by_cases hz : S.T.length = 0
    · rw [hz] at hc0
      clear hT hnT hsT hv hb hg hcs htk
      go_enter Tryz.func23, Tryz.ntmps23
      go_wp2
      go_ret
      exact ⟨_, rfl, Nat.zero_le _, 0, rfl⟩
    · obtain ⟨r, r0, r1, hr⟩ := lpick_ex c S.T.length h0 h1 (by omega) (by omega)
      obtain ⟨q, rfl⟩ : ∃ q : Nat, r = q := ⟨r.toNat, by omega⟩
      have hq : q < S.T.length := by omega
      have hcq : w.cell? ⟨g, q, none⟩ = some (.string S.T[q]) := by
        rw [hT.cellAt q (by omega), List.getElem?_map, List.getElem?_eq_getElem hq]; rfl
      have hsq := hsT _ (List.getElem_mem hq)
      obtain ⟨n, hn⟩ : ∃ n, n = S.T.length := ⟨_, rfl⟩
      obtain ⟨s, hs⟩ : ∃ s, s = S.T[q] := ⟨_, rfl⟩
      rw [← hs] at hcq hsq
      rw [← hn] at hc0 r1 hr hz
      have z0 : (0 : Int) ≤ (q : Int) := by omega
      have hnz : ((n : Int) == 0) = false := by rw [beq_eq_false_iff_ne]; omega
      clear hT hnT hsT hv hb hg hcs htk hs hn hq
      go_enter Tryz.func23, Tryz.ntmps23
      go_wp2
      go_quiet ((go_at_call 25; exact Calls.quiet_of_same (hr _)))
      go_wp2
      go_ret
      exact ⟨s, rfl, hsq, _, rfl⟩

theorem info_str : ∃ i, Tryz.prog.info? 9 = some i ∧ i.zero = some (.string ⟨#[]⟩) ∧ i.size = 1 ∧ i.bytes = 16 := by
  obtain ⟨i, hi⟩ : ∃ i, Tryz.prog.info? 9 = some i := Option.isSome_iff_exists.1 (by kernel_rfl)
  refine ⟨i, hi, ?_, ?_, ?_⟩
  · have : (Tryz.prog.info? 9).bind (·.zero) = some (.string ⟨#[]⟩) := by kernel_rfl
    rw [hi] at this; exact this
  · have : (Tryz.prog.info? 9).map (·.size) = some 1 := by kernel_rfl
    rw [hi] at this; exact Option.some.inj this
  · have : (Tryz.prog.info? 9).map (·.bytes) = some 16 := by kernel_rfl
    rw [hi] at this; exact Option.some.inj this

theorem grown_trans {w a b : World} {row : Option Nat} (h : w.grownBy a row) (k : a.grownBy b row) : w.grownBy b row :=
  ⟨k.os.trans h.os, k.tape.trans h.tape, k.output.trans h.output, Nat.le_trans h.size k.size, fun j hj hr => (k.block j (Nat.lt_of_lt_of_le hj h.size) hr).trans (h.block j hj hr)⟩
set_option maxHeartbeats 400000 in
theorem add_any (p k : Nat) (S : WS) (s : ByteArray) (w : World) (h : WAt p k w S) (hk : k ≤ 1000000) :
    Calls Tryz.prog 24 #[.pointer (some ⟨p, 0, none⟩), .string s] w fun e w' => e = .returned (.tuple #[]) ∧ ∃ S', WAt p (k + 1) w' S' ∧ Far p S S' w w' := by
  have hc0 : w.cell? ⟨p, 0, none⟩ = some S.tv := h.cell 0
  have HW : Hid (WAt p k w S) := h
  have hown : (w.alloc (.cells #[.string s] 9)).ownsRow (p + 1) 9 1 S.tv S.T.length (S.T.map .string) := h.texts.alloc _
  have hnT := h.nT
  have hlt := h.lt
  have hf0 : w.frozen? ⟨p, 0, none⟩ = false := h.frozen 0
  have hnp : some p ≠ S.tv.ownBlock := fun e => by have := h.texts.lt p e.symm; omega
  clear h
  obtain ⟨i, hi, hz, hsz, hby⟩ := info_str
  have hnews : ∀ j u, [Value.string s][j]? = some u → (w.alloc (.cells #[.string s] 9)).cell? ((⟨w.heap.size, 0, none⟩ : Addr).add j) = some u := World.news_of_block (heap_alloc_new w (.cells #[.string s] 9))
  by_cases hs : s.size ≤ 20000
  · have hs' : ((s.size : Int) ≤ 20000) := by omega
    go_enter Tryz.func24, Tryz.ntmps24
    go_wp2_with (refine wpList_append_lies _ rfl _ _ 30 rfl (p + 1) 9 i _ 1 16 Tryz.underlying30 hi hz hsz hby rfl (by decide) S.tv S.T.length _ rfl hown ⟨w.heap.size, 0, none⟩ 1 1 [.string s] rfl rfl hnews (by simp [Value.oneCell']) (by decide) (by unfold maxLen; omega) (by omega) (by simp; omega) _ rfl ?_; intro g cap w1 ho hgr hat hlt1; have hp1 : w1.cell? ⟨p, 0, none⟩ = some S.tv := (hgr.cell_far ⟨p, 0, none⟩ (by simp; omega) hnp).trans ((World.cell?_alloc_past _ _ _ hlt).trans hc0); have hf1 : w1.frozen? ⟨p, 0, none⟩ = false := (hgr.frozen_far ⟨p, 0, none⟩ (by simp; omega) hnp).trans ((World.frozen?_alloc_past _ _ _ hlt).trans hf0))
    go_end0
    refine ⟨rfl, _, HW.out.setT (T := S.T ++ [s]) (grown_trans (World.grownBy_alloc w _ _) hgr) (by simpa using ho) ?_ (by simp; omega) ?_⟩
    · intro b hb
      rcases hat with e | e
      · exact Or.inl (by rw [e]; exact hb)
      · refine Or.inr ?_
        have : g = b := by simpa [Value.ownBlock] using hb
        simp at e; omega
    · intro x hx
      rcases List.mem_append.1 hx with hx | hx
      · exact HW.out.sT x hx
      · simp at hx; rw [hx]; exact hs
  · have hs' : ¬ ((s.size : Int) ≤ 20000) := by omega
    go_enter Tryz.func24, Tryz.ntmps24
    go_wp2
    go_end0
    exact ⟨rfl, S, HW.out.mono (by omega), Far.refl _ _ _⟩
end Go.Proofs.YtijdnpoenpjnlaaGreatDoor
