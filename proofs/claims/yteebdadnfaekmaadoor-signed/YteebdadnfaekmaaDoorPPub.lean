import Derived.Test.YteebdadnfaekmaaDoorPLeaf
import Derived.Test.YteebdadnfaekmaaDoorGRoot
import Derived.Test.YteebdadnfaekmaaDoorTPath
import Derived.Test.YteebdadnfaekmaaDoorTReadM
set_option linter.unusedVariables false
set_option linter.unusedSimpArgs false
namespace Go.Proofs.YteebdadnfaekmaaDoor
open Go.RowKit

def errSd : Value := .iface 34 (.int .i64 11)
def errSg : Value := .iface 34 (.int .i64 13)
/-- The leaves of all keys. -/
def leavesF (H : ByteArray → ByteArray) (seed : ByteArray) (n : Nat) : List ByteArray := (List.range n).map (leafF H seed)
theorem leavesF_len (H : ByteArray → ByteArray) (seed : ByteArray) (n : Nat) : (leavesF H seed n).length = n := by unfold leavesF; simp
theorem leafF_size (K : Nat → Int) (seed : ByteArray) (k : Nat) : (leafF (sumOf K) seed k).size = 2144 :=
  chainsT_size (sumOf K) (sumOf_size K) (beginF (sumOf K) seed k) (fun _ => 15) (fun c => sumOf_size K _) 67
theorem leavesF_small (K : Nat → Int) (seed : ByteArray) (n : Nat) : ∀ s ∈ leavesF (sumOf K) seed n, s.size ≤ 140737488355000 := by
  intro s hs
  unfold leavesF at hs
  rw [List.mem_map] at hs
  obtain ⟨k, _, rfl⟩ := hs
  rw [leafF_size]; omega

set_option maxRecDepth 10000 in
set_option maxHeartbeats 400000 in
theorem tincl_any (K : Nat → Int) (ls : List ByteArray) (v : Value) (i : Nat) (w : World) (hin : i < ls.length) (hn1 : ls.length ≤ 2147483647) (hl : LeafAt w v ls) (hs : ∀ s ∈ ls, s.size ≤ 140737488355000) (T : Tab K w) :
    Calls Tryd.prog 32 #[v, .int .i64 i] w fun e w' => ∃ ao cap, e = .returned (.tuple #[.slice ao (inclF (sumOf K) ls i).length cap, .nilIface]) ∧ w'.ownsRow w.heap.size 9 1 (.slice ao (inclF (sumOf K) ls i).length cap) (inclF (sumOf K) ls i).length ((inclF (sumOf K) ls i).map .string) ∧ Below w.heap.size w w' := by
  have hp := path_any K _ ls v i w rfl hin hn1 hl hs T
  obtain ⟨g, off, cap, rfl, hcap, hc⟩ : ∃ g off cap, v = .slice (some ⟨g, off, none⟩) ls.length cap ∧ ls.length ≤ cap ∧ ∀ j (h : j < ls.length), w.cell? ⟨g, off + j, none⟩ = some (.string (ls[j]'h)) := by
    rcases hl with ⟨rfl, _⟩ | h
    · simp at hin
    · exact h
  generalize inclF (sumOf K) ls i = F at *
  have HP : Hid (Calls Tryd.prog 60 #[.slice (some ⟨g, off, none⟩) ls.length cap, .int .i64 i] w fun e w' => madeL w w' e F) := hp
  clear hp hc hl hs T
  generalize ls.length = N at *
  have i0 : ¬ (i : Int) < 0 := by omega
  have i1 : ¬ (N : Int) ≤ (i : Int) := by omega
  go_enter Tryd.func32, Tryd.ntmps32
  go_wp2_with fail
  refine HP.out.mono ?_
  rintro e w1 ⟨ao, cp, rfl, ho, hb⟩
  go_wp2_with fail
  go_ret2
  exact ⟨ao, cp, rfl, ho, hb⟩
set_option maxRecDepth 10000 in
set_option maxHeartbeats 400000 in
theorem tincl_err (ao : Option Addr) (N cap : Nat) (i : Int) (w : World) (h : i < 0 ∨ (N : Int) ≤ i) :
    Calls Tryd.prog 32 #[.slice ao N cap, .int .i64 i] w fun e w' => e = .returned (.tuple #[.slice none 0 0, errIx]) ∧ w' = w := by
  rcases h with h | h
  · go_enter Tryd.func32, Tryd.ntmps32
    go_wp2_with fail
    go_ret2
    exact ⟨rfl, rfl⟩
  · have h0 : ¬ i < 0 := by omega
    go_enter Tryd.func32, Tryd.ntmps32
    go_wp2_with fail
    go_ret2
    exact ⟨rfl, rfl⟩
theorem tchk_any (K : Nat → Int) (s r : ByteArray) (i n : Nat) (pf : List ByteArray) (v : Value) (w : World) (hs : s.size ≤ 140737488355000) (hin : i < n) (hn1 : n ≤ 2147483647) (hl : LeafAt w v pf) (hpf : pf.length ≤ 1000000000) (T : Tab K w) :
    Calls Tryd.prog 33 #[.string s, .int .i64 i, .int .i64 n, .string r, v] w fun e w' => e = .returned (chkV (inclOk K s i n r pf)) ∧ Below w.heap.size w w' := by
  by_cases hr : r.size = 32
  · have := chk_any s r _ _ i n v w hin hn1 hr (climbF_size _ (sumOf_size K) s i n pf) (fun W hb => climb_any K s hs _ pf v i n W rfl hpf hin hn1 (hl.below hb) (T.below hb))
    rw [show inclOk K s i n r pf = ((climbF (sumOf K) s i n pf).2 && decide ((climbF (sumOf K) s i n pf).1 = r)) by unfold inclOk; simp [hr]]
    exact this
  · have := chk_root s r i n v w hin hn1 hr
    rw [show inclOk K s i n r pf = false by unfold inclOk; simp [hr]]
    exact this
set_option maxRecDepth 10000 in
set_option maxHeartbeats 400000 in
theorem tchk_err (s r : ByteArray) (i n : Int) (v : Value) (w : World) (h0 : ¬ i < 0) (h1 : n ≤ i) : Calls Tryd.prog 33 #[.string s, .int .i64 i, .int .i64 n, .string r, v] w fun e w' => e = .returned errIx ∧ Below w.heap.size w w' := by
  go_enter Tryd.func33, Tryd.ntmps33
  go_wp2_with fail
  go_ret
  exact ⟨rfl, Below.refl _ _⟩

/-- The public key. -/
def pubF (H : ByteArray → ByteArray) (seed : ByteArray) (h : Nat) : ByteArray := rootF H (leavesF H seed (2 ^ h))
/-- What the program's PublicKey answers. -/
def pubV (K : Nat → Int) (seed : ByteArray) (h : Int) : Value := if seed.size = 32 ∧ 0 ≤ h ∧ h ≤ 5 then .tuple #[.string (pubF (sumOf K) seed h.toNat), .nilIface] else .tuple #[.string ⟨#[]⟩, errSd]

set_option maxRecDepth 10000 in
set_option maxHeartbeats 400000 in
theorem spub_any (K : Nat → Int) (seed : ByteArray) (h : Int) (w : World) (hs : seed.size ≤ 140737488355000) (T : Tab K w) :
    Calls Tryd.prog 40 #[.string seed, .int .i64 h] w fun e w' => e = .returned (pubV K seed h) ∧ Below w.heap.size w w' := by
  have hf := fits_any seed h w hs
  by_cases hc : seed.size = 32 ∧ 0 ≤ h ∧ h ≤ 5
  · obtain ⟨n, rfl⟩ : ∃ n : Nat, h = n := ⟨h.toNat, by omega⟩
    have hn : n ≤ 5 := by omega
    rw [show pubV K seed (n : Int) = .tuple #[.string (pubF (sumOf K) seed n), .nilIface] by unfold pubV; rw [if_pos hc]; simp]
    have hd : decide (seed.size = 32 ∧ 0 ≤ (n : Int) ∧ (n : Int) ≤ 5) = true := decide_eq_true hc
    rw [hd] at hf
    have HL : Hid (∀ W, Below w.heap.size w W → Calls Tryd.prog 68 #[.string seed, .int .i64 n] W fun e w' => e = .returned (.slice (some ⟨W.heap.size, 0, none⟩) (2 ^ n) (2 ^ n)) ∧ PartAt W.heap.size (2 ^ n) (2 ^ n) (leafF (sumOf K) seed) W w') := fun W hb => rowLeaves_any K seed n W hn (by omega) (T.below hb)
    have HR : Hid (∀ (B : Nat) W0 W, Below w.heap.size w W → PartAt B (2 ^ n) (2 ^ n) (leafF (sumOf K) seed) W0 W → Calls Tryd.prog 31 #[.slice (some ⟨B, 0, none⟩) (2 ^ n) (2 ^ n)] W fun e w' => e = .returned (.agg (hV (pubF (sumOf K) seed n)).toArray) ∧ Below W.heap.size W w') := fun B W0 W hb HP =>
      root_any K _ (leavesF (sumOf K) seed (2 ^ n)) _ W (leavesF_len _ _ _) (Nat.two_pow_pos n) (Nat.le_trans (Nat.pow_le_pow_right (n := 2) (by omega) hn) (by omega)) HP.leaf (leavesF_small K seed _) (T.below hb)
    have htx := htx_any (pubF (sumOf K) seed n) (rootF_size (sumOf K) (sumOf_size K) _)
    clear T hs hc hd
    generalize pubF (sumOf K) seed n = R at *
    generalize leafF (sumOf K) seed = F at *
    generalize 2 ^ n = N at *
    go_enter Tryd.func40, Tryd.ntmps40
    go_wp2_with fail
    refine hf.mono ?_
    rintro e w1 ⟨rfl, hb1⟩
    clear hf
    go_wp2_with fail
    refine (HL.out w1 hb1).mono ?_
    rintro e w2 ⟨rfl, hp2⟩
    have hb2 : Below w.heap.size w w2 := hb1.trans (hp2.b.mono hb1.size)
    go_wp2_with fail
    refine (HR.out w1.heap.size w1 w2 hb2 hp2).mono ?_
    rintro e w3 ⟨rfl, hb3⟩
    clear hp2
    go_wp2_with fail
    refine (htx w3).mono ?_
    rintro e w4 ⟨rfl, hb4⟩
    clear htx
    go_wp2_with fail
    go_ret2
    exact ⟨rfl, (hb2.trans (hb3.mono hb2.size)).trans (hb4.mono (Nat.le_trans hb2.size hb3.size))⟩
  · rw [show pubV K seed h = .tuple #[.string ⟨#[]⟩, errSd] by unfold pubV; rw [if_neg hc]]
    rw [show decide (seed.size = 32 ∧ 0 ≤ h ∧ h ≤ 5) = false from decide_eq_false hc] at hf
    clear hc T hs
    go_enter Tryd.func40, Tryd.ntmps40
    go_wp2_with fail
    refine hf.mono ?_
    rintro e w1 ⟨rfl, hb1⟩
    clear hf
    go_wp2_with fail
    go_ret2
    exact ⟨rfl, hb1⟩
set_option maxRecDepth 10000 in
set_option maxHeartbeats 400000 in
theorem apub_any (K : Nat → Int) (seed : ByteArray) (h : Int) (w : World) (hs : seed.size ≤ 140737488355000) (T : Tab K w) :
    Calls Tryd.prog 22 #[.string seed, .int .i64 h] w fun e w' => e = .returned (pubV K seed h) ∧ Below w.heap.size w w' := by
  have hp := spub_any K seed h w hs T
  obtain ⟨s, ev, hv⟩ : ∃ s ev, pubV K seed h = .tuple #[.string s, ev] := by unfold pubV; split <;> exact ⟨_, _, rfl⟩
  rw [hv] at hp ⊢
  clear hv T hs
  go_enter Tryd.func22, Tryd.ntmps22
  go_wp2_with fail
  refine hp.mono ?_
  rintro e w1 ⟨rfl, hb1⟩
  clear hp
  go_wp2_with fail
  go_ret2
  exact ⟨rfl, hb1⟩
end Go.Proofs.YteebdadnfaekmaaDoor
