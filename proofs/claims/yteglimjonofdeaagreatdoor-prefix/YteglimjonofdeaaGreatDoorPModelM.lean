import Derived.WalkKit
set_option linter.unusedVariables false
set_option linter.unusedSimpArgs false
namespace Go.Proofs.YteglimjonofdeaaGreatDoor

/-! A chain of three nodes whose one client asks for one thing at a time: packets and logs by their numbers alone. -/
inductive Pk where
  | F1 (n : Nat) | F2 (n : Nat) | K0 (n : Nat) | K1 (n : Nat) | Q0 (n : Nat) | Q1 (n : Nat) | A (n : Nat)
/-- How many entries the three logs have, how many of them nodes 0 and 1 know to be in all, whether nodes 1 and 2 have heard a Forward, what was told. -/
structure PS where
  (a b c k0 k1 : Nat)
  (h1 h2 : Bool)
  told : List Nat
def fwdL (mk : Nat → Pk) (n hi : Nat) : List Pk := (List.range (min 4 (hi - n))).map fun d => mk (n + 1 + d)
def recv (s : PS) : Pk → PS × List Pk
  | .F1 n => if n ≤ s.b then ({ s with h1 := true }, [.K0 s.k1]) else if s.b < n - 1 then ({ s with h1 := true }, [.Q0 s.b]) else ({ s with h1 := true, b := s.b + 1 }, [.F2 (s.b + 1)])
  | .F2 n => if n ≤ s.c then ({ s with h2 := true }, [.K1 s.c]) else if s.c < n - 1 then ({ s with h2 := true }, [.Q1 s.c]) else ({ s with h2 := true, c := s.c + 1 }, [.K1 (s.c + 1), .A (s.c + 1)])
  | .K0 n => if n ≤ s.k0 ∨ s.a < n then (s, []) else ({ s with k0 := n }, [])
  | .K1 n => if n ≤ s.k1 ∨ s.b < n then (s, []) else ({ s with k1 := n }, [.K0 n])
  | .Q0 n => (s, fwdL .F1 n s.a)
  | .Q1 n => (s, fwdL .F2 n s.b)
  | .A n => ({ s with told := n :: s.told }, [])
def deliver (s : PS) : List Pk → PS × List Pk
  | [] => (s, [])
  | p :: ps => ((deliver (recv s p).1 ps).1, (recv s p).2 ++ (deliver (recv s p).1 ps).2)
/-- What Request (again) and the three Ticks send. -/
def reqL (s : PS) : List Pk := if s.a ≤ s.k0 then [.A s.a] else fwdL .F1 s.k0 s.a
def tickL (s : PS) : List Pk := fwdL .F1 s.k0 s.a ++ ((if s.h1 then [] else [.Q0 s.b]) ++ (fwdL .F2 s.k1 s.b ++ (if s.h2 then [] else [.Q1 s.c])))
/-- What holds while the client asks for its (i + 1)-th thing. -/
structure PInv (i : Nat) (s : PS) : Prop where
  ic : i ≤ s.c
  cb : s.c ≤ s.b
  ba : s.b ≤ s.a
  ai : s.a ≤ i + 1
  kk : s.k0 ≤ s.k1
  kc : s.k1 ≤ s.c
  u1 : s.h1 = false → s.b = 0
  u2 : s.h2 = false → s.c = 0
  tc : ∀ n ∈ s.told, 1 ≤ n ∧ n ≤ s.c
  ti : ∀ n, 1 ≤ n → n ≤ i → n ∈ s.told
/-- A packet that can be on its way; Asks only within a round. -/
def okP (s : PS) : Pk → Prop
  | .F1 n => 1 ≤ n ∧ n ≤ s.a
  | .F2 n => 1 ≤ n ∧ n ≤ s.b
  | .K0 n => n ≤ s.k1
  | .K1 n => n ≤ s.c
  | .Q0 n => n ≤ s.c ∧ s.a ≤ n + 1
  | .Q1 n => n ≤ s.c ∧ s.a ≤ n + 1
  | .A n => 1 ≤ n ∧ n ≤ s.c
def isQ : Pk → Bool
  | .Q0 _ | .Q1 _ => true
  | _ => false
def isF : Pk → Bool
  | .F1 _ | .F2 _ => true
  | _ => false
theorem fwdL_mem {mk : Nat → Pk} {n hi : Nat} {p : Pk} (h : p ∈ fwdL mk n hi) : ∃ m, p = mk m ∧ n + 1 ≤ m ∧ m ≤ hi ∧ m ≤ n + 4 := by
  unfold fwdL at h
  obtain ⟨d, hd, rfl⟩ := List.mem_map.1 h
  have := List.mem_range.1 hd
  exact ⟨_, rfl, by omega, by omega, by omega⟩
theorem fwdL_len (mk : Nat → Pk) (n hi : Nat) : (fwdL mk n hi).length = min 4 (hi - n) := by unfold fwdL; simp
theorem fwdL_first {mk : Nat → Pk} {n hi : Nat} (h : n < hi) : mk (n + 1) ∈ fwdL mk n hi := by
  unfold fwdL
  exact List.mem_map.2 ⟨0, List.mem_range.2 (by omega), rfl⟩
/-- One packet comes: the invariant stays; what goes out can be on its way, and is no Ask; what could be on its way can be still. -/
theorem recv_ok {i : Nat} {s : PS} (h : PInv i s) (p : Pk) (hp : okP s p) :
    PInv i (recv s p).1 ∧ (∀ q ∈ (recv s p).2, okP (recv s p).1 q ∧ isQ q = false) ∧ (∀ q, okP s q → okP (recv s p).1 q) ∧ (recv s p).1.a = s.a := by
  obtain ⟨h1, h2, h3, h4, h5, h6, h7, h8, h9, h10⟩ := h
  cases p with
  | F1 n =>
    simp only [okP] at hp
    unfold recv
    by_cases e : n ≤ s.b
    · simp only [e, if_true]
      refine ⟨⟨h1, h2, h3, h4, h5, h6, fun x => by simp at x, h8, h9, h10⟩, fun q hq => ?_, fun q hq => ?_, by trivial⟩
      · simp at hq; subst hq; exact ⟨Nat.le_refl _, rfl⟩
      · cases q <;> exact hq
    · have e2 : ¬ s.b < n - 1 := by omega
      simp only [e, e2, if_false]
      refine ⟨⟨h1, by simp; omega, by simp; omega, h4, h5, h6, fun x => by simp at x, h8, h9, h10⟩, fun q hq => ?_, fun q hq => ?_, by trivial⟩
      · simp at hq; subst hq; exact ⟨by simp [okP], rfl⟩
      · cases q <;> simp [okP] at hq ⊢ <;> omega
  | F2 n =>
    simp only [okP] at hp
    unfold recv
    by_cases e : n ≤ s.c
    · simp only [e, if_true]
      refine ⟨⟨h1, h2, h3, h4, h5, h6, h7, fun x => by simp at x, h9, h10⟩, fun q hq => ?_, fun q hq => ?_, by trivial⟩
      · simp at hq; subst hq; exact ⟨Nat.le_refl _, rfl⟩
      · cases q <;> exact hq
    · have e2 : ¬ s.c < n - 1 := by omega
      simp only [e, e2, if_false]
      refine ⟨⟨by simp; omega, by simp; omega, h3, h4, h5, by simp; omega, h7, fun x => by simp at x, fun m hm => ?_, h10⟩, fun q hq => ?_, fun q hq => ?_, by trivial⟩
      · have := h9 m hm; simp; omega
      · simp at hq
        rcases hq with rfl | rfl
        · exact ⟨by simp [okP], rfl⟩
        · exact ⟨by simp [okP], rfl⟩
      · cases q <;> simp [okP] at hq ⊢ <;> omega
  | K0 n =>
    simp only [okP] at hp
    unfold recv
    by_cases e : n ≤ s.k0 ∨ s.a < n
    · simp only [e, if_true]
      exact ⟨⟨h1, h2, h3, h4, h5, h6, h7, h8, h9, h10⟩, fun q hq => by simp at hq, fun q hq => hq, by trivial⟩
    · simp only [e, if_false]
      refine ⟨⟨h1, h2, h3, h4, hp, h6, h7, h8, h9, h10⟩, fun q hq => by simp at hq, fun q hq => ?_, by trivial⟩
      cases q <;> exact hq
  | K1 n =>
    simp only [okP] at hp
    unfold recv
    by_cases e : n ≤ s.k1 ∨ s.b < n
    · simp only [e, if_true]
      exact ⟨⟨h1, h2, h3, h4, h5, h6, h7, h8, h9, h10⟩, fun q hq => by simp at hq, fun q hq => hq, by trivial⟩
    · simp only [e, if_false]
      refine ⟨⟨h1, h2, h3, h4, by simp; omega, hp, h7, h8, h9, h10⟩, fun q hq => ?_, fun q hq => ?_, by trivial⟩
      · simp at hq; subst hq; exact ⟨by simp [okP], rfl⟩
      · cases q <;> simp [okP] at hq ⊢ <;> omega
  | Q0 n =>
    simp only [okP] at hp
    unfold recv
    refine ⟨⟨h1, h2, h3, h4, h5, h6, h7, h8, h9, h10⟩, fun q hq => ?_, fun q hq => hq, by trivial⟩
    obtain ⟨m, rfl, m1, m2, _⟩ := fwdL_mem hq
    exact ⟨⟨by omega, m2⟩, rfl⟩
  | Q1 n =>
    simp only [okP] at hp
    unfold recv
    refine ⟨⟨h1, h2, h3, h4, h5, h6, h7, h8, h9, h10⟩, fun q hq => ?_, fun q hq => hq, by trivial⟩
    obtain ⟨m, rfl, m1, m2, _⟩ := fwdL_mem hq
    exact ⟨⟨by omega, m2⟩, rfl⟩
  | A n =>
    simp only [okP] at hp
    unfold recv
    refine ⟨⟨h1, h2, h3, h4, h5, h6, h7, h8, fun m hm => ?_, fun m m1 m2 => List.mem_cons_of_mem _ (h10 m m1 m2)⟩, fun q hq => by simp at hq, fun q hq => ?_, by trivial⟩
    · simp at hm
      rcases hm with rfl | hm
      · exact hp
      · exact h9 m hm
    · cases q <;> exact hq
theorem deliver_ok {i : Nat} : ∀ (ps : List Pk) {s : PS}, PInv i s → (∀ p ∈ ps, okP s p) →
    PInv i (deliver s ps).1 ∧ (∀ q ∈ (deliver s ps).2, okP (deliver s ps).1 q ∧ isQ q = false) ∧ (∀ q, okP s q → okP (deliver s ps).1 q) ∧ (deliver s ps).1.a = s.a
  | [], s, h, _ => ⟨h, fun q hq => by simp [deliver] at hq, fun q hq => hq, rfl⟩
  | p :: ps, s, h, hp => by
    obtain ⟨i1, o1, m1, a1⟩ := recv_ok h p (hp p (List.mem_cons_self ..))
    obtain ⟨i2, o2, m2, a2⟩ := deliver_ok ps i1 (fun q hq => m1 q (hp q (List.mem_cons_of_mem _ hq)))
    refine ⟨i2, fun q hq => ?_, fun q hq => m2 q (m1 q hq), a2.trans a1⟩
    simp only [deliver, List.mem_append] at hq
    rcases hq with hq | hq
    · exact ⟨m2 q (o1 q hq).1, (o1 q hq).2⟩
    · exact o2 q hq
theorem tick_ok {i : Nat} {s : PS} (h : PInv i s) : ∀ p ∈ tickL s, okP s p := by
  intro p hp
  simp only [tickL, List.mem_append] at hp
  have := h.ic; have := h.cb; have := h.ba; have := h.ai; have := h.kk; have := h.kc
  rcases hp with hp | hp | hp | hp
  · obtain ⟨m, rfl, m1, m2, _⟩ := fwdL_mem hp
    exact ⟨by omega, m2⟩
  · cases e : s.h1 with
    | true => simp [e] at hp
    | false =>
      have := h.u1 e
      simp [e] at hp; subst hp
      simp only [okP]; omega
  · obtain ⟨m, rfl, m1, m2, _⟩ := fwdL_mem hp
    exact ⟨by omega, m2⟩
  · cases e : s.h2 with
    | true => simp [e] at hp
    | false =>
      have := h.u2 e
      simp [e] at hp; subst hp
      simp only [okP]; omega
theorem req_ok {i : Nat} {s : PS} (h : PInv i s) (ha : 1 ≤ s.a) : ∀ p ∈ reqL s, okP s p := by
  intro p hp
  unfold reqL at hp
  have := h.ic; have := h.cb; have := h.ba; have := h.ai; have := h.kk; have := h.kc
  by_cases e : s.a ≤ s.k0
  · rw [if_pos e] at hp
    simp at hp; subst hp
    simp only [okP]; omega
  · rw [if_neg e] at hp
    obtain ⟨m, rfl, m1, m2, _⟩ := fwdL_mem hp
    exact ⟨by omega, m2⟩
end Go.Proofs.YteglimjonofdeaaGreatDoor
set_option linter.unusedVariables false
set_option linter.unusedSimpArgs false
namespace Go.Proofs.YteglimjonofdeaaGreatDoor

/-- What is still to be done. -/
def om (i : Nat) (s : PS) : Nat := (i + 1 - s.b) + (i + 1 - s.c) + (i + 1 - s.k1) + (i + 1 - s.k0) + (if s.h1 then 0 else 1) + (if s.h2 then 0 else 1)
structure same (s s' : PS) : Prop where
  a : s'.a = s.a
  b : s'.b = s.b
  c : s'.c = s.c
  k0 : s'.k0 = s.k0
  k1 : s'.k1 = s.k1
  h1 : s'.h1 = s.h1
  h2 : s'.h2 = s.h2
theorem same.refl (s : PS) : same s s := ⟨rfl, rfl, rfl, rfl, rfl, rfl, rfl⟩
theorem same.trans {s t u : PS} (h : same s t) (g : same t u) : same s u := ⟨g.a.trans h.a, g.b.trans h.b, g.c.trans h.c, g.k0.trans h.k0, g.k1.trans h.k1, g.h1.trans h.h1, g.h2.trans h.h2⟩
theorem same.om {s s' : PS} (h : same s s') (i : Nat) : om i s' = om i s := by unfold Proofs.YteglimjonofdeaaGreatDoor.om; rw [h.b, h.c, h.k0, h.k1, h.h1, h.h2]
/-- What a packet that changes nothing leads to. -/
def dupOut (s : PS) : Pk → List Pk
  | .F1 _ => [.K0 s.k1]
  | .F2 _ => [.K1 s.c]
  | .K0 _ => []
  | .K1 _ => []
  | .Q0 n => fwdL .F1 n s.a
  | .Q1 n => fwdL .F2 n s.b
  | .A _ => []
def quiet (s : PS) : Pk → Prop
  | .F1 n => n ≤ s.b
  | .F2 n => n ≤ s.c
  | .K0 n => n ≤ s.k0
  | .K1 n => n ≤ s.k1
  | _ => True
theorem same.dup {s s' : PS} (h : same s s') : dupOut s' = dupOut s := by
  funext p; cases p <;> simp [dupOut, h.a, h.b, h.c, h.k1]
theorem same.quiet {s s' : PS} (h : same s s') (p : Pk) : quiet s' p ↔ quiet s p := by
  cases p <;> simp [Proofs.YteglimjonofdeaaGreatDoor.quiet, h.b, h.c, h.k0, h.k1]
theorem recv_or {i : Nat} {s : PS} (h : PInv i s) (p : Pk) (hp : okP s p) : (same s (recv s p).1 ∧ (recv s p).2 = dupOut s p ∧ quiet s p) ∨ om i (recv s p).1 < om i s := by
  have c1 := h.ic; have c2 := h.cb; have c3 := h.ba; have c4 := h.ai; have c5 := h.kk; have c6 := h.kc
  cases p with
  | F1 n =>
    simp only [okP] at hp
    unfold recv
    by_cases e : n ≤ s.b
    · cases e1 : s.h1 with
      | true => left; simp only [e, if_true]; exact ⟨⟨rfl, rfl, rfl, rfl, rfl, e1.symm ▸ rfl, rfl⟩, rfl, e⟩
      | false => right; simp only [e, if_true]; unfold om; simp [e1]
    · have e2 : ¬ s.b < n - 1 := by omega
      right
      simp only [e, e2, if_false]
      unfold om
      cases s.h1 <;> simp <;> omega
  | F2 n =>
    simp only [okP] at hp
    unfold recv
    by_cases e : n ≤ s.c
    · cases e1 : s.h2 with
      | true => left; simp only [e, if_true]; exact ⟨⟨rfl, rfl, rfl, rfl, rfl, rfl, e1.symm ▸ rfl⟩, rfl, e⟩
      | false => right; simp only [e, if_true]; unfold om; simp [e1]
    · have e2 : ¬ s.c < n - 1 := by omega
      right
      simp only [e, e2, if_false]
      unfold om
      cases s.h2 <;> simp <;> omega
  | K0 n =>
    simp only [okP] at hp
    by_cases e : n ≤ s.k0
    · have e2 : n ≤ s.k0 ∨ s.a < n := Or.inl e
      left; simp only [recv, e2, if_true]; exact ⟨same.refl s, rfl, e⟩
    · have e2 : ¬ (n ≤ s.k0 ∨ s.a < n) := by omega
      right; simp only [recv, e2, if_false]; unfold om; simp; omega
  | K1 n =>
    simp only [okP] at hp
    by_cases e : n ≤ s.k1
    · have e2 : n ≤ s.k1 ∨ s.b < n := Or.inl e
      left; simp only [recv, e2, if_true]; exact ⟨same.refl s, rfl, e⟩
    · have e2 : ¬ (n ≤ s.k1 ∨ s.b < n) := by omega
      right; simp only [recv, e2, if_false]; unfold om; simp; omega
  | Q0 n => left; exact ⟨same.refl s, rfl, trivial⟩
  | Q1 n => left; exact ⟨same.refl s, rfl, trivial⟩
  | A n => left; exact ⟨⟨rfl, rfl, rfl, rfl, rfl, rfl, rfl⟩, rfl, trivial⟩
theorem deliver_or {i : Nat} : ∀ (ps : List Pk) {s : PS}, PInv i s → (∀ p ∈ ps, okP s p) →
    (same s (deliver s ps).1 ∧ (deliver s ps).2 = ps.flatMap (dupOut s) ∧ ∀ p ∈ ps, quiet s p) ∨ om i (deliver s ps).1 < om i s
  | [], s, h, _ => Or.inl ⟨same.refl s, rfl, fun p hp => by simp at hp⟩
  | p :: ps, s, h, hp => by
    obtain ⟨i1, _, m1, _⟩ := recv_ok h p (hp p (List.mem_cons_self ..))
    have h2 := deliver_or ps i1 (fun q hq => m1 q (hp q (List.mem_cons_of_mem _ hq)))
    rcases recv_or h p (hp p (List.mem_cons_self ..)) with ⟨e1, e2, e3⟩ | e1
    · rcases h2 with ⟨f1, f2, f3⟩ | f1
      · left
        refine ⟨e1.trans f1, ?_, fun q hq => ?_⟩
        · simp only [deliver, List.flatMap_cons]; rw [e2, f2, e1.dup]
        · rcases List.mem_cons.1 hq with rfl | hq
          · exact e3
          · exact (e1.quiet q).1 (f3 q hq)
      · right; simp only [deliver]; rw [← e1.om i]; exact f1
    · right
      simp only [deliver]
      rcases h2 with ⟨f1, _, _⟩ | f1
      · rw [f1.om i]; exact e1
      · omega
theorem deliver_le {i : Nat} (ps : List Pk) {s : PS} (h : PInv i s) (hp : ∀ p ∈ ps, okP s p) : om i (deliver s ps).1 ≤ om i s := by
  rcases deliver_or ps h hp with ⟨e, _, _⟩ | e
  · rw [e.om i]; exact Nat.le_refl _
  · omega
theorem recv_told (s : PS) (p : Pk) (n : Nat) (h : n ∈ s.told) : n ∈ (recv s p).1.told := by
  cases p <;> simp only [recv] <;> (repeat' split) <;> first | exact h | exact List.mem_cons_of_mem _ h
theorem deliver_told : ∀ (ps : List Pk) (s : PS) (n : Nat), (n ∈ s.told ∨ Pk.A n ∈ ps) → n ∈ (deliver s ps).1.told
  | [], s, n, h => by rcases h with h | h; exact h; simp at h
  | p :: ps, s, n, h => by
    simp only [deliver]
    refine deliver_told ps _ n ?_
    rcases h with h | h
    · exact Or.inl (recv_told s p n h)
    · rcases List.mem_cons.1 h with rfl | h
      · left; simp [recv]
      · exact Or.inr h
/-- A round in which nothing is lost. -/
def rnd (x : PS × List Pk) : PS × List Pk := deliver x.1 ((x.2 ++ (reqL x.1 ++ tickL x.1)).take 30)
/-- A state and what is on its way. -/
structure Way (i : Nat) (x : PS × List Pk) : Prop where
  inv : PInv i x.1
  full : x.1.a = i + 1
  ok : ∀ p ∈ x.2, okP x.1 p ∧ isQ p = false
theorem Way.all {i : Nat} {x : PS × List Pk} (h : Way i x) : ∀ p ∈ (x.2 ++ (reqL x.1 ++ tickL x.1)).take 30, okP x.1 p := by
  intro p hp
  have hp := List.mem_of_mem_take hp
  simp only [List.mem_append] at hp
  rcases hp with hp | hp | hp
  · exact (h.ok p hp).1
  · exact req_ok h.inv (by have := h.full; omega) p hp
  · exact tick_ok h.inv p hp
theorem Way.rnd {i : Nat} {x : PS × List Pk} (h : Way i x) : Way i (rnd x) := by
  obtain ⟨a, b, _, d⟩ := deliver_ok _ h.inv h.all
  exact ⟨a, d.trans h.full, b⟩
theorem Way.le {i : Nat} {x : PS × List Pk} (h : Way i x) : om i (Proofs.YteglimjonofdeaaGreatDoor.rnd x).1 ≤ om i x.1 := deliver_le _ h.inv h.all
theorem rnd_told (x : PS × List Pk) (n : Nat) (h : n ∈ x.1.told) : n ∈ (rnd x).1.told := deliver_told _ _ _ (Or.inl h)
def rnds : Nat → PS × List Pk → PS × List Pk
  | 0, x => x
  | k + 1, x => rnds k (rnd x)
theorem rnds_told : ∀ (k : Nat) (x : PS × List Pk) (n : Nat), n ∈ x.1.told → n ∈ (rnds k x).1.told
  | 0, _, _, h => h
  | k + 1, x, n, h => rnds_told k _ n (rnd_told x n h)
/-! counting -/
theorem dup_len {s : PS} {i : Nat} (h : PInv i s) (p : Pk) (hp : okP s p) : (dupOut s p).length ≤ (if isF p then 1 else 0) + (if isQ p then 1 else 0) := by
  have := h.ba
  cases p <;> simp [dupOut, isF, isQ, fwdL_len, okP] at hp ⊢ <;> omega
theorem dup_f (s : PS) (i : Nat) (h : PInv i s) (p : Pk) (hp : okP s p) : (dupOut s p).countP isF ≤ if isQ p then 1 else 0 := by
  have h1 := dup_len h p hp
  have h2 := List.countP_le_length (p := isF) (l := dupOut s p)
  cases p <;> simp [dupOut, isF, isQ] at h1 h2 ⊢ <;> omega
theorem flat_len {s : PS} {i : Nat} (h : PInv i s) : ∀ (ps : List Pk), (∀ p ∈ ps, okP s p) → (ps.flatMap (dupOut s)).length ≤ ps.countP isF + ps.countP isQ
  | [], _ => by simp
  | p :: ps, hp => by
    have h1 := dup_len h p (hp p (List.mem_cons_self ..))
    have h2 := flat_len h ps (fun q hq => hp q (List.mem_cons_of_mem _ hq))
    rw [List.flatMap_cons, List.length_append, List.countP_cons, List.countP_cons]
    omega
theorem flat_f {s : PS} {i : Nat} (h : PInv i s) : ∀ (ps : List Pk), (∀ p ∈ ps, okP s p) → (ps.flatMap (dupOut s)).countP isF ≤ ps.countP isQ
  | [], _ => by simp
  | p :: ps, hp => by
    have h1 := dup_f s i h p (hp p (List.mem_cons_self ..))
    have h2 := flat_f h ps (fun q hq => hp q (List.mem_cons_of_mem _ hq))
    rw [List.flatMap_cons, List.countP_append, List.countP_cons]
    omega
theorem fwd_count (n hi : Nat) : (fwdL .F1 n hi).countP isQ = 0 ∧ (fwdL .F2 n hi).countP isQ = 0 := by
  constructor <;>
  · rw [List.countP_eq_zero]
    intro p hp
    obtain ⟨m, rfl, _⟩ := fwdL_mem hp
    simp [isQ]
theorem x_count (s : PS) : (reqL s ++ tickL s).countP isF ≤ 12 ∧ (reqL s ++ tickL s).countP isQ ≤ 2 ∧ (reqL s ++ tickL s).length ≤ 14 := by
  have f1 := List.countP_le_length (p := isF) (l := fwdL .F1 s.k0 s.a)
  have f2 := List.countP_le_length (p := isF) (l := fwdL .F2 s.k1 s.b)
  have q1 := (fwd_count s.k0 s.a).1
  have q2 := (fwd_count s.k1 s.b).2
  have l1 := fwdL_len .F1 s.k0 s.a
  have l2 := fwdL_len .F2 s.k1 s.b
  have hreq : (reqL s).countP isF ≤ 4 ∧ (reqL s).countP isQ = 0 ∧ (reqL s).length ≤ 4 := by
    unfold reqL
    by_cases e : s.a ≤ s.k0
    · rw [if_pos e]; simp [isF, isQ]
    · rw [if_neg e]; omega
  unfold tickL
  rw [List.countP_append, List.countP_append, List.length_append, List.countP_append, List.countP_append, List.length_append, List.countP_append, List.countP_append, List.length_append, List.countP_append, List.countP_append, List.length_append]
  cases s.h1 <;> cases s.h2 <;> simp [isF, isQ] <;> omega
theorem same.req {s s' : PS} (h : same s s') : reqL s' ++ tickL s' = reqL s ++ tickL s := by
  unfold reqL tickL; rw [h.a, h.b, h.c, h.k0, h.k1, h.h1, h.h2]
end Go.Proofs.YteglimjonofdeaaGreatDoor
set_option linter.unusedVariables false
set_option linter.unusedSimpArgs false
namespace Go.Proofs.YteglimjonofdeaaGreatDoor

theorem countP_take_le (p : Pk → Bool) (n : Nat) (l : List Pk) : (l.take n).countP p ≤ l.countP p := (List.take_sublist n l).countP_le
theorem Way.noQ {i : Nat} {x : PS × List Pk} (h : Way i x) : x.2.countP isQ = 0 := by
  rw [List.countP_eq_zero]
  intro p hp
  simp [(h.ok p hp).2]
/-- A round without progress. -/
theorem quiet_round {i : Nat} {x : PS × List Pk} (h : Way i x) : om i (rnd x).1 < om i x.1 ∨
    (same x.1 (rnd x).1 ∧ (rnd x).2 = ((x.2 ++ (reqL x.1 ++ tickL x.1)).take 30).flatMap (dupOut x.1) ∧ (∀ p ∈ (x.2 ++ (reqL x.1 ++ tickL x.1)).take 30, quiet x.1 p) ∧
      (rnd x).2.countP isF ≤ 2 ∧ (rnd x).2.length ≤ x.2.countP isF + 14) := by
  rcases deliver_or _ h.inv h.all with ⟨e1, e2, e3⟩ | e
  · right
    have hx := x_count x.1
    have f := flat_f h.inv _ h.all
    have g := flat_len h.inv _ h.all
    have t1 := countP_take_le isQ 30 (x.2 ++ (reqL x.1 ++ tickL x.1))
    have t2 := countP_take_le isF 30 (x.2 ++ (reqL x.1 ++ tickL x.1))
    rw [List.countP_append] at t1 t2
    have hq := h.noQ
    have e2' : (rnd x).2 = ((x.2 ++ (reqL x.1 ++ tickL x.1)).take 30).flatMap (dupOut x.1) := e2
    refine ⟨e1, e2, e3, ?_, ?_⟩
    · rw [e2']; omega
    · rw [e2']; omega
  · exact Or.inl e
theorem whole_take {i : Nat} {x : PS × List Pk} (h : Way i x) (hl : x.2.length ≤ 16) : (x.2 ++ (reqL x.1 ++ tickL x.1)).take 30 = x.2 ++ (reqL x.1 ++ tickL x.1) := by
  rw [List.take_of_length_le]
  have := (x_count x.1).2.2
  rw [List.length_append]; omega
/-- Four rounds: the thing is told, or something went on. -/
theorem window {i : Nat} {x : PS × List Pk} (h : Way i x) : i + 1 ∈ (rnds 4 x).1.told ∨ om i (rnds 4 x).1 < om i x.1 := by
  have h1 := h.rnd
  have h2 := h1.rnd
  have h3 := h2.rnd
  have h4 := h3.rnd
  have l1 := h.le; have l2 := h1.le; have l3 := h2.le; have l4 := h3.le
  show i + 1 ∈ (rnd (rnd (rnd (rnd x)))).1.told ∨ om i (rnd (rnd (rnd (rnd x)))).1 < om i x.1
  rcases quiet_round h with e | ⟨s1, _, _, f1, _⟩
  · right; omega
  rcases quiet_round h1 with e | ⟨s2, _, _, f2, n2⟩
  · right; omega
  rcases quiet_round h2 with e | ⟨s3, o3, q3, f3, n3⟩
  · right; omega
  rcases quiet_round h3 with e | ⟨s4, o4, q4, _, _⟩
  · right; omega
  have w2 := whole_take h2 (by omega)
  have w3 := whole_take h3 (by omega)
  rw [w2] at q3 o3
  rw [w3] at q4
  generalize hy : rnd (rnd x) = y at *
  have hfull := h2.full
  have c1 := h2.inv.cb; have c2 := h2.inv.kc; have c3 := h2.inv.kk
  by_cases ek : y.1.a ≤ y.1.k0
  · left
    refine rnd_told _ _ ?_
    show i + 1 ∈ (deliver y.1 ((y.2 ++ (reqL y.1 ++ tickL y.1)).take 30)).1.told
    rw [w2]
    refine deliver_told _ _ _ (Or.inr ?_)
    have : Pk.A (i + 1) ∈ reqL y.1 := by unfold reqL; rw [if_pos ek, hfull]; exact List.mem_singleton.2 rfl
    simp [this]
  · exfalso
    have m1 : Pk.F1 (y.1.k0 + 1) ∈ y.2 ++ (reqL y.1 ++ tickL y.1) := by
      have : Pk.F1 (y.1.k0 + 1) ∈ reqL y.1 := by unfold reqL; rw [if_neg ek]; exact fwdL_first (by omega)
      simp [this]
    have b1 : y.1.k0 + 1 ≤ y.1.b := q3 _ m1
    have m2 : Pk.K0 y.1.k1 ∈ (rnd y).2 := by
      rw [o3]
      exact List.mem_flatMap.2 ⟨_, m1, List.mem_singleton.2 rfl⟩
    have b2 : y.1.k1 ≤ y.1.k0 := (s3.quiet (.K0 y.1.k1)).1 (q4 _ (List.mem_append_left _ m2))
    have m3 : Pk.F2 (y.1.k1 + 1) ∈ y.2 ++ (reqL y.1 ++ tickL y.1) := by
      have : Pk.F2 (y.1.k1 + 1) ∈ fwdL .F2 y.1.k1 y.1.b := fwdL_first (by omega)
      simp [tickL, this]
    have b3 : y.1.k1 + 1 ≤ y.1.c := q3 _ m3
    have m4 : Pk.K1 y.1.c ∈ (rnd y).2 := by
      rw [o3]
      exact List.mem_flatMap.2 ⟨_, m3, List.mem_singleton.2 rfl⟩
    have b4 : y.1.c ≤ y.1.k1 := (s3.quiet (.K1 y.1.c)).1 (q4 _ (List.mem_append_left _ m4))
    omega
theorem rnds_add : ∀ (m n : Nat) (x : PS × List Pk), rnds (m + n) x = rnds n (rnds m x)
  | 0, n, x => by rw [Nat.zero_add]; rfl
  | m + 1, n, x => by rw [show m + 1 + n = (m + n) + 1 by omega]; exact rnds_add m n (rnd x)
theorem Way.rnds {i : Nat} : ∀ (k : Nat) {x : PS × List Pk}, Way i x → Way i (rnds k x)
  | 0, _, h => h
  | k + 1, _, h => Way.rnds k h.rnd
/-- The thing is told in the end. -/
theorem live {i : Nat} : ∀ (w : Nat) {x : PS × List Pk}, Way i x → om i x.1 ≤ w → i + 1 ∈ (Proofs.YteglimjonofdeaaGreatDoor.rnds (4 * (w + 1)) x).1.told
  | w, x, h, hw => by
    rw [show 4 * (w + 1) = 4 + 4 * w by omega, rnds_add]
    rcases window h with e | e
    · exact rnds_told _ _ _ e
    · cases w with
      | zero => omega
      | succ w => exact live w (h.rnds 4) (by omega)
theorem live_all {i : Nat} (hi : i < 12) {x : PS × List Pk} (h : Way i x) : i + 1 ∈ (Proofs.YteglimjonofdeaaGreatDoor.rnds 150 x).1.told := by
  have h1 := h.inv.ic; have h2 := h.inv.cb
  have : om i x.1 ≤ 28 := by unfold om; split <;> split <;> omega
  have := live 28 h this
  rw [show (150 : Nat) = 4 * (28 + 1) + 34 from rfl, rnds_add]
  exact rnds_told _ _ _ this
end Go.Proofs.YteglimjonofdeaaGreatDoor
set_option linter.unusedVariables false
set_option linter.unusedSimpArgs false
namespace Go.Proofs.YteglimjonofdeaaGreatDoor

theorem recv_mono (s : PS) (p : Pk) : s.k0 ≤ (recv s p).1.k0 ∧ s.k1 ≤ (recv s p).1.k1 := by
  cases p <;> simp only [recv] <;> (repeat' split) <;> simp <;> omega
theorem deliver_mono : ∀ (ps : List Pk) (s : PS), s.k0 ≤ (deliver s ps).1.k0 ∧ s.k1 ≤ (deliver s ps).1.k1
  | [], s => ⟨Nat.le_refl _, Nat.le_refl _⟩
  | p :: ps, s => by
    have h1 := recv_mono s p
    have h2 := deliver_mono ps (recv s p).1
    simp only [deliver]; omega
/-- A packet of a row is met by a state between. -/
theorem deliver_mem {i : Nat} : ∀ (ps : List Pk) {s : PS} (p : Pk), PInv i s → (∀ q ∈ ps, okP s q) → p ∈ ps →
    ∃ s', PInv i s' ∧ s'.a = s.a ∧ okP s' p ∧ s.k0 ≤ s'.k0 ∧ s.k1 ≤ s'.k1 ∧ (∀ q ∈ (recv s' p).2, q ∈ (deliver s ps).2) ∧ (recv s' p).1.k0 ≤ (deliver s ps).1.k0 ∧ (recv s' p).1.k1 ≤ (deliver s ps).1.k1
  | [], s, p, _, _, hp => by simp at hp
  | r :: ps, s, p, h, ho, hp => by
    by_cases e : p = r
    · subst e
      have := deliver_mono ps (recv s p).1
      exact ⟨s, h, rfl, ho p (List.mem_cons_self ..), Nat.le_refl _, Nat.le_refl _, fun q hq => by simp only [deliver, List.mem_append]; exact Or.inl hq, by simp only [deliver]; exact this.1, by simp only [deliver]; exact this.2⟩
    · obtain ⟨i1, _, m1, a1⟩ := recv_ok h r (ho r (List.mem_cons_self ..))
      have hp' : p ∈ ps := by rcases List.mem_cons.1 hp with h | h; exact absurd h e; exact h
      obtain ⟨s', x1, x2, x3, x4, x5, x6, x7, x8⟩ := deliver_mem ps p i1 (fun q hq => m1 q (ho q (List.mem_cons_of_mem _ hq))) hp'
      have mo := recv_mono s r
      exact ⟨s', x1, x2.trans a1, x3, by omega, by omega, fun q hq => by simp only [deliver, List.mem_append]; exact Or.inr (x6 q hq), by simp only [deliver]; exact x7, by simp only [deliver]; exact x8⟩
/-- All logs are whole, and what is on its way. -/
structure Done (n : Nat) (x : PS × List Pk) : Prop where
  inv : PInv n x.1
  an : x.1.a = n
  n1 : 1 ≤ n
  ok : ∀ p ∈ x.2, okP x.1 p ∧ isQ p = false
theorem Done.logs {n : Nat} {x : PS × List Pk} (h : Done n x) : x.1.b = n ∧ x.1.c = n ∧ x.1.h1 = true ∧ x.1.h2 = true := by
  have h1 := h.inv.ic; have h2 := h.inv.cb; have h3 := h.inv.ba; have h4 := h.an; have h5 := h.n1
  refine ⟨by omega, by omega, ?_, ?_⟩
  · cases e : x.1.h1 with
    | true => rfl
    | false => have := h.inv.u1 e; omega
  · cases e : x.1.h2 with
    | true => rfl
    | false => have := h.inv.u2 e; omega
def rndT (x : PS × List Pk) : PS × List Pk := deliver x.1 ((x.2 ++ tickL x.1).take 30)
theorem Done.all {n : Nat} {x : PS × List Pk} (h : Done n x) : ∀ p ∈ (x.2 ++ tickL x.1).take 30, okP x.1 p := by
  intro p hp
  have hp := List.mem_of_mem_take hp
  rcases List.mem_append.1 hp with hp | hp
  · exact (h.ok p hp).1
  · exact tick_ok h.inv p hp
theorem Done.rnd {n : Nat} {x : PS × List Pk} (h : Done n x) : Done n (rndT x) := by
  obtain ⟨a, b, _, d⟩ := deliver_ok _ h.inv h.all
  exact ⟨a, d.trans h.an, h.n1, b⟩
/-- What a packet leads to when all logs are whole: no Forward; and it pays with what node 1 comes to know. -/
theorem recv_done {n : Nat} {s : PS} (h : PInv n s) (ha : s.a = n) (p : Pk) (hp : okP s p) (hq : isQ p = false) :
    (recv s p).2.countP isF = 0 ∧ (recv s p).2.length + s.k1 ≤ (if isF p then 1 else 0) + (recv s p).1.k1 ∧ (recv s p).2.length ≤ 1 := by
  have h1 := h.ic; have h2 := h.cb; have h3 := h.ba
  cases p with
  | F1 m =>
    simp only [okP] at hp
    have e : m ≤ s.b := by omega
    simp only [recv, e, if_true]; simp [isF]
  | F2 m =>
    simp only [okP] at hp
    have e : m ≤ s.c := by omega
    simp only [recv, e, if_true]; simp [isF]
  | K0 m => simp only [recv]; split <;> simp [isF]
  | K1 m =>
    simp only [recv]; split
    · simp [isF]
    · simp [isF]; omega
  | Q0 m => simp [isQ] at hq
  | Q1 m => simp [isQ] at hq
  | A m => simp [recv, isF]
theorem deliver_done {n : Nat} : ∀ (ps : List Pk) {s : PS}, PInv n s → s.a = n → (∀ p ∈ ps, okP s p ∧ isQ p = false) →
    (deliver s ps).2.countP isF = 0 ∧ (deliver s ps).2.length + s.k1 ≤ ps.countP isF + (deliver s ps).1.k1 ∧ (deliver s ps).2.length ≤ ps.length
  | [], s, _, _, _ => by simp [deliver]
  | p :: ps, s, h, ha, hp => by
    have hp1 := hp p (List.mem_cons_self ..)
    obtain ⟨i1, _, m1, a1⟩ := recv_ok h p hp1.1
    obtain ⟨x1, x2, x3⟩ := recv_done h ha p hp1.1 hp1.2
    obtain ⟨y1, y2, y3⟩ := deliver_done ps i1 (a1.trans ha) (fun q hq => ⟨m1 q (hp q (List.mem_cons_of_mem _ hq)).1, (hp q (List.mem_cons_of_mem _ hq)).2⟩)
    simp only [deliver, List.countP_append, List.length_append, List.countP_cons, List.length_cons]
    omega
theorem Done.noQ {n : Nat} {x : PS × List Pk} (h : Done n x) : ∀ p ∈ (x.2 ++ tickL x.1).take 30, okP x.1 p ∧ isQ p = false := by
  intro p hp
  refine ⟨h.all p hp, ?_⟩
  have hp := List.mem_of_mem_take hp
  obtain ⟨_, _, e1, e2⟩ := h.logs
  rcases List.mem_append.1 hp with hp | hp
  · exact (h.ok p hp).2
  · simp only [tickL, e1, e2, if_true, List.nil_append, List.append_nil, List.mem_append] at hp
    rcases hp with hp | hp <;> (obtain ⟨m, rfl, _⟩ := fwdL_mem hp; rfl)
theorem tick_len {n : Nat} {x : PS × List Pk} (h : Done n x) : (tickL x.1).length ≤ 8 ∧ (tickL x.1).countP isF ≤ 8 := by
  obtain ⟨_, _, e1, e2⟩ := h.logs
  have l1 := fwdL_len .F1 x.1.k0 x.1.a
  have l2 := fwdL_len .F2 x.1.k1 x.1.b
  have : (tickL x.1).length ≤ 8 := by simp only [tickL, e1, e2, if_true, List.nil_append, List.append_nil, List.length_append]; omega
  exact ⟨this, Nat.le_trans List.countP_le_length this⟩
/-- .. and no Forward among it, and little. -/
structure Calm (n : Nat) (x : PS × List Pk) : Prop where
  done : Done n x
  noF : x.2.countP isF = 0
  len : x.2.length ≤ 20
theorem calm_first {n : Nat} {x : PS × List Pk} (h : Done n x) (hn : n ≤ 12) : Calm n (rndT (rndT x)) := by
  have d1 := deliver_done _ h.inv h.an h.noQ
  have h1 := h.rnd
  have d2 := deliver_done _ h1.inv h1.an h1.noQ
  have h2 := h1.rnd
  have t := countP_take_le isF 30 ((rndT x).2 ++ tickL (rndT x).1)
  rw [List.countP_append] at t
  have tl := (tick_len h1).2
  have f1 : (rndT x).2.countP isF = 0 := d1.1
  have k2 : (rndT (rndT x)).1.k1 ≤ n := by have := h2.inv.kc; have := h2.logs.2.1; omega
  have l2 : (rndT (rndT x)).2.length + (rndT x).1.k1 ≤ _ := d2.2.1
  exact ⟨h2, d2.1, by
    have : (deliver (rndT x).1 (List.take 30 ((rndT x).2 ++ tickL (rndT x).1))).1.k1 ≤ n := k2
    omega⟩
theorem Calm.whole {n : Nat} {x : PS × List Pk} (h : Calm n x) : (x.2 ++ tickL x.1).take 30 = x.2 ++ tickL x.1 := by
  rw [List.take_of_length_le]
  have := (tick_len h.done).1
  have := h.len
  rw [List.length_append]; omega
theorem Calm.rnd {n : Nat} {x : PS × List Pk} (h : Calm n x) (hn : n ≤ 12) : Calm n (rndT x) := by
  have d := deliver_done _ h.done.inv h.done.an h.done.noQ
  have h1 := h.done.rnd
  have t := countP_take_le isF 30 (x.2 ++ tickL x.1)
  rw [List.countP_append, h.noF] at t
  have tl := (tick_len h.done).2
  have k1 : (rndT x).1.k1 ≤ n := by have := h1.inv.kc; have := h1.logs.2.1; omega
  exact ⟨h1, d.1, by
    have l : (rndT x).2.length + x.1.k1 ≤ _ := d.2.1
    have : (deliver x.1 (List.take 30 (x.2 ++ tickL x.1))).1.k1 ≤ n := k1
    omega⟩
theorem Calm.up1 {n : Nat} {x : PS × List Pk} (h : Calm n x) : (x.1.k1 < n → Pk.K1 n ∈ (rndT x).2) ∧ (Pk.K1 n ∈ x.2 → (rndT x).1.k1 = n) := by
  obtain ⟨eb, ec, e1, e2⟩ := h.done.logs
  have hr := h.done.rnd
  have hk : (rndT x).1.k1 ≤ n := by have := hr.inv.kc; have := hr.logs.2.1; omega
  have hall := h.done.all
  unfold rndT at hk ⊢
  rw [h.whole] at hall hk ⊢
  refine ⟨fun hlt => ?_, fun hm => ?_⟩
  · have m : Pk.F2 (x.1.k1 + 1) ∈ x.2 ++ tickL x.1 := by
      have : Pk.F2 (x.1.k1 + 1) ∈ fwdL .F2 x.1.k1 x.1.b := fwdL_first (by omega)
      simp [tickL, this]
    obtain ⟨s', i', a', o', _, _, out, _, _⟩ := deliver_mem _ _ h.done.inv hall m
    have := i'.ic; have := i'.cb; have := i'.ba; have := h.done.an
    simp only [okP] at o'
    have e : x.1.k1 + 1 ≤ s'.c := by omega
    refine out _ ?_
    simp only [recv, e, if_true]
    have : s'.c = n := by omega
    simp [this]
  · obtain ⟨s', i', a', o', _, _, _, _, kk⟩ := deliver_mem _ _ h.done.inv hall (List.mem_append_left (tickL x.1) hm)
    have := i'.ic; have := i'.cb
    have : n ≤ (recv s' (.K1 n)).1.k1 := by
      simp only [recv]
      split
      · rename_i e; rcases e with e | e
        · exact e
        · omega
      · exact Nat.le_refl _
    omega
theorem Calm.up0 {n : Nat} {x : PS × List Pk} (h : Calm n x) : (x.1.k1 = n → x.1.k0 < n → Pk.K0 n ∈ (rndT x).2) ∧ (Pk.K0 n ∈ x.2 → (rndT x).1.k0 = n) := by
  obtain ⟨eb, ec, e1, e2⟩ := h.done.logs
  have hr := h.done.rnd
  have hk : (rndT x).1.k0 ≤ n := by have := hr.inv.kk; have := hr.inv.kc; have := hr.logs.2.1; omega
  have hall := h.done.all
  have han := h.done.an
  unfold rndT at hk ⊢
  rw [h.whole] at hall hk ⊢
  refine ⟨fun hk1 hlt => ?_, fun hm => ?_⟩
  · have m : Pk.F1 (x.1.k0 + 1) ∈ x.2 ++ tickL x.1 := by
      have : Pk.F1 (x.1.k0 + 1) ∈ fwdL .F1 x.1.k0 x.1.a := fwdL_first (by omega)
      simp [tickL, this]
    obtain ⟨s', i', a', o', _, k', out, _, _⟩ := deliver_mem _ _ h.done.inv hall m
    have := i'.ic; have := i'.cb; have := i'.ba; have := i'.kc
    simp only [okP] at o'
    have e : x.1.k0 + 1 ≤ s'.b := by omega
    refine out _ ?_
    simp only [recv, e, if_true]
    have : s'.k1 = n := by omega
    simp [this]
  · obtain ⟨s', i', a', o', _, _, _, kk, _⟩ := deliver_mem _ _ h.done.inv hall (List.mem_append_left (tickL x.1) hm)
    have := i'.ic; have := i'.cb
    have : n ≤ (recv s' (.K0 n)).1.k0 := by
      simp only [recv]
      split
      · rename_i e; rcases e with e | e
        · exact e
        · omega
      · exact Nat.le_refl _
    omega
def rndsT : Nat → PS × List Pk → PS × List Pk
  | 0, x => x
  | k + 1, x => rndsT k (rndT x)
theorem rndT_mono (x : PS × List Pk) : x.1.k0 ≤ (rndT x).1.k0 ∧ x.1.k1 ≤ (rndT x).1.k1 := deliver_mono _ _
theorem Done.rnds {n : Nat} : ∀ (k : Nat) {x : PS × List Pk}, Done n x → Done n (rndsT k x) ∧ x.1.k0 ≤ (rndsT k x).1.k0
  | 0, _, h => ⟨h, Nat.le_refl _⟩
  | k + 1, x, h => ⟨(Done.rnds k h.rnd).1, Nat.le_trans (rndT_mono x).1 (Done.rnds k h.rnd).2⟩
theorem rndsT_add : ∀ (m n : Nat) (x : PS × List Pk), rndsT (m + n) x = rndsT n (rndsT m x)
  | 0, n, x => by rw [Nat.zero_add]; rfl
  | m + 1, n, x => by rw [show m + 1 + n = (m + n) + 1 by omega]; exact rndsT_add m n (rndT x)
/-- In the end all is known to be in all logs. -/
theorem finale {n : Nat} {x : PS × List Pk} (h : Done n x) (hn : n ≤ 12) : (rndsT 30 x).1.k0 = n ∧ (rndsT 30 x).1.a = n ∧ (rndsT 30 x).1.c = n := by
  have c2 := calm_first h hn
  have hy : rndsT 30 x = rndsT 24 (rndT (rndT (rndT (rndT (rndT (rndT x)))))) := rndsT_add 6 24 x
  rw [hy]
  generalize rndT (rndT x) = y at c2
  have c3 := c2.rnd hn
  have c4 := c3.rnd hn
  have c5 := c4.rnd hn
  have c6 := c5.rnd hn
  have top : ∀ {z : PS × List Pk}, Done n z → z.1.k1 ≤ n ∧ z.1.k0 ≤ n := fun {z} hz => by
    have h1 := hz.inv.kk; have h2 := hz.inv.kc; have h3 := hz.logs.2.1
    omega
  have k4 : (rndT (rndT y)).1.k1 = n := by
    by_cases e : y.1.k1 < n
    · exact c3.up1.2 (c2.up1.1 e)
    · have m1 := (rndT_mono y).2
      have m2 := (rndT_mono (rndT y)).2
      have := (top c4.done).1
      omega
  have k6 : (rndT (rndT (rndT (rndT y)))).1.k0 = n := by
    by_cases e : (rndT (rndT y)).1.k0 < n
    · exact c5.up0.2 (c4.up0.1 k4 e)
    · have m1 := (rndT_mono (rndT (rndT y))).1
      have m2 := (rndT_mono (rndT (rndT (rndT y)))).1
      have := (top c6.done).2
      omega
  obtain ⟨d, kd⟩ := Done.rnds 24 c6.done
  have := (top d).2
  exact ⟨by omega, d.an, d.logs.2.1⟩
end Go.Proofs.YteglimjonofdeaaGreatDoor
set_option linter.unusedVariables false
set_option linter.unusedSimpArgs false
namespace Go.Proofs.YteglimjonofdeaaGreatDoor

/-! Each answer comes once: node 2's, in the round behind that in which it takes the entry; or, if that is lost, node 0's. -/
def isA : Pk → Bool
  | .A _ => true
  | _ => false
theorem recv_full {i : Nat} {s : PS} (h : PInv i s) (ha : s.a = i + 1) (hc : s.c = i + 1) (p : Pk) (hp : okP s p) : (recv s p).2.countP isA = 0 ∧ (recv s p).1.c = i + 1 := by
  have h2 := h.cb; have h3 := h.ba
  cases p with
  | F1 n =>
    simp only [recv]; (repeat' split) <;> simp [isA, hc]
  | F2 n =>
    simp only [okP] at hp
    have e : n ≤ s.c := by omega
    simp only [recv, e, if_true]; simp [isA, hc]
  | K0 n => simp only [recv]; split <;> simp [isA, hc]
  | K1 n => simp only [recv]; split <;> simp [isA, hc]
  | Q0 n =>
    refine ⟨?_, hc⟩
    rw [List.countP_eq_zero]; intro q hq
    obtain ⟨m, rfl, _⟩ := fwdL_mem hq
    simp [isA]
  | Q1 n =>
    refine ⟨?_, hc⟩
    rw [List.countP_eq_zero]; intro q hq
    obtain ⟨m, rfl, _⟩ := fwdL_mem hq
    simp [isA]
  | A n => simp [recv, isA, hc]
theorem deliver_full {i : Nat} : ∀ (ps : List Pk) {s : PS}, PInv i s → s.a = i + 1 → s.c = i + 1 → (∀ p ∈ ps, okP s p) → (deliver s ps).2.countP isA = 0 ∧ (deliver s ps).1.c = i + 1
  | [], s, _, _, hc, _ => ⟨rfl, hc⟩
  | p :: ps, s, h, ha, hc, hp => by
    obtain ⟨i1, _, m1, a1⟩ := recv_ok h p (hp p (List.mem_cons_self ..))
    obtain ⟨x1, x2⟩ := recv_full h ha hc p (hp p (List.mem_cons_self ..))
    obtain ⟨y1, y2⟩ := deliver_full ps i1 (a1.trans ha) x2 (fun q hq => m1 q (hp q (List.mem_cons_of_mem _ hq)))
    simp only [deliver, List.countP_append]
    exact ⟨by omega, y2⟩
theorem deliver_k1 {i : Nat} : ∀ (ps : List Pk) {s : PS}, s.k1 ≤ i → (∀ m, Pk.K1 m ∈ ps → m ≤ i) → (deliver s ps).1.k1 ≤ i
  | [], s, h, _ => h
  | p :: ps, s, h, hk => by
    simp only [deliver]
    refine deliver_k1 ps ?_ (fun m hm => hk m (List.mem_cons_of_mem _ hm))
    cases p with
    | K1 m =>
      have := hk m (List.mem_cons_self ..)
      simp only [recv]; split
      · exact h
      · exact this
    | F1 n => simp only [recv]; (repeat' split) <;> exact h
    | F2 n => simp only [recv]; (repeat' split) <;> exact h
    | K0 n => simp only [recv]; split <;> exact h
    | Q0 n => exact h
    | Q1 n => exact h
    | A n => exact h
/-- What a row of packets leads to has at most one answer: of the entry that node 2 has just taken. -/
theorem deliver_ans {i : Nat} : ∀ (ps : List Pk) {s : PS}, PInv i s → s.a = i + 1 → s.c = i → (∀ p ∈ ps, okP s p) →
    (deliver s ps).2.countP isA ≤ 1 ∧ ∀ n, Pk.A n ∈ (deliver s ps).2 → n = i + 1 ∧ (deliver s ps).1.c = i + 1
  | [], s, _, _, _, _ => by simp [deliver]
  | p :: ps, s, h, ha, hc, hp => by
    have hp1 := hp p (List.mem_cons_self ..)
    obtain ⟨i1, _, m1, a1⟩ := recv_ok h p hp1
    have hps : ∀ q ∈ ps, okP (recv s p).1 q := fun q hq => m1 q (hp q (List.mem_cons_of_mem _ hq))
    have h2 := h.cb; have h3 := h.ba
    by_cases e : (recv s p).1.c = i
    · obtain ⟨y1, y2⟩ := deliver_ans ps i1 (a1.trans ha) e hps
      have hno : (recv s p).2.countP isA = 0 := by
        cases p with
        | F1 n => simp only [recv]; (repeat' split) <;> simp [isA]
        | F2 n =>
          simp only [okP] at hp1
          by_cases e2 : n ≤ s.c
          · simp only [recv, e2, if_true]; simp [isA]
          · have e3 : ¬ s.c < n - 1 := by omega
            simp only [recv, e2, e3, if_false] at e
            omega
        | K0 n => simp only [recv]; split <;> simp [isA]
        | K1 n => simp only [recv]; split <;> simp [isA]
        | Q0 n => rw [List.countP_eq_zero]; intro q hq; obtain ⟨m, rfl, _⟩ := fwdL_mem hq; simp [isA]
        | Q1 n => rw [List.countP_eq_zero]; intro q hq; obtain ⟨m, rfl, _⟩ := fwdL_mem hq; simp [isA]
        | A n => simp [recv, isA]
      simp only [deliver, List.countP_append]
      refine ⟨by omega, fun n hn => ?_⟩
      rcases List.mem_append.1 hn with hn | hn
      · rw [List.countP_eq_zero] at hno
        have := hno _ hn
        simp [isA] at this
      · exact y2 n hn
    · have e1 : (recv s p).1.c = i + 1 := by have := i1.ic; have := i1.cb; have := i1.ba; omega
      obtain ⟨y1, y2⟩ := deliver_full ps i1 (a1.trans ha) e1 hps
      have hout : (recv s p).2.countP isA ≤ 1 ∧ ∀ n, Pk.A n ∈ (recv s p).2 → n = i + 1 := by
        cases p with
        | F2 n =>
          simp only [okP] at hp1
          by_cases e2 : n ≤ s.c
          · simp only [recv, e2, if_true] at e; exact absurd hc e
          · have e3 : ¬ s.c < n - 1 := by omega
            simp only [recv, e2, e3, if_false]
            refine ⟨by simp [isA], fun m hm => ?_⟩
            simp at hm; omega
        | F1 n => exfalso; apply e; simp only [recv]; (repeat' split) <;> exact hc
        | K0 n => exfalso; apply e; simp only [recv]; split <;> exact hc
        | K1 n => exfalso; apply e; simp only [recv]; split <;> exact hc
        | Q0 n => exact absurd hc e
        | Q1 n => exact absurd hc e
        | A n => exact absurd hc e
      simp only [deliver, List.countP_append]
      refine ⟨by omega, fun n hn => ?_⟩
      rcases List.mem_append.1 hn with hn | hn
      · exact ⟨hout.2 n hn, y2⟩
      · rw [List.countP_eq_zero] at y1
        have := y1 _ hn
        simp [isA] at this
/-- How answers are on their way. -/
structure Ans (i : Nat) (x : PS × List Pk) : Prop where
  one : x.2.countP isA ≤ 1
  at_ : ∀ n, Pk.A n ∈ x.2 → n = i + 1 ∧ x.1.c = i + 1 ∧ x.1.k1 ≤ i
/-- A round keeps it, whatever is lost or doubled of the packets to nodes. -/
theorem Ans.round {i : Nat} {s : PS} (h : PInv i s) (ha : s.a = i + 1) (P : List Pk) (hok : ∀ p ∈ P, okP s p) : Ans i (deliver s P) := by
  have c1 := h.ic; have c2 := h.cb; have c3 := h.ba
  by_cases e : s.c = i
  · obtain ⟨y1, y2⟩ := deliver_ans P h ha e hok
    have hk : (deliver s P).1.k1 ≤ i := deliver_k1 P (by have := h.kc; omega) (fun m hm => by have : m ≤ s.c := hok _ hm; omega)
    exact ⟨y1, fun n hn => ⟨(y2 n hn).1, (y2 n hn).2, hk⟩⟩
  · obtain ⟨y1, y2⟩ := deliver_full P h ha (by omega) hok
    refine ⟨by omega, fun n hn => ?_⟩
    rw [List.countP_eq_zero] at y1
    have := y1 _ hn
    simp [isA] at this
theorem recv_only (s : PS) (p : Pk) (n : Nat) (h : n ∈ (recv s p).1.told) : n ∈ s.told ∨ p = .A n := by
  cases p with
  | A m =>
    simp [recv] at h
    rcases h with rfl | h
    · exact Or.inr rfl
    · exact Or.inl h
  | F1 m => left; revert h; simp only [recv]; (repeat' split) <;> exact id
  | F2 m => left; revert h; simp only [recv]; (repeat' split) <;> exact id
  | K0 m => left; revert h; simp only [recv]; split <;> exact id
  | K1 m => left; revert h; simp only [recv]; split <;> exact id
  | Q0 m => exact Or.inl h
  | Q1 m => exact Or.inl h
theorem deliver_only : ∀ (ps : List Pk) (s : PS) (n : Nat), n ∈ (deliver s ps).1.told → n ∈ s.told ∨ Pk.A n ∈ ps
  | [], s, n, h => Or.inl h
  | p :: ps, s, n, h => by
    simp only [deliver] at h
    rcases deliver_only ps _ n h with h | h
    · rcases recv_only s p n h with h | rfl
      · exact Or.inl h
      · exact Or.inr (List.mem_cons_self ..)
    · exact Or.inr (List.mem_cons_of_mem _ h)
end Go.Proofs.YteglimjonofdeaaGreatDoor
