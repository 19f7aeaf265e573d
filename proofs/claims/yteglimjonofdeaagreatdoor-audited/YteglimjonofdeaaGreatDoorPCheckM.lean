import Derived.Test.YteglimjonofdeaaGreatDoorTClimb2M
import Derived.Test.YteglimjonofdeaaGreatDoorTJoinM
set_option linter.unusedVariables false
set_option linter.unusedSimpArgs false
namespace Go.Proofs.YteglimjonofdeaaGreatDoor
open Go.RowKit

/-- The number in a signature's first byte. -/
def keyN (sig : ByteArray) : Nat := (sig.data.getD 0 0).toNat
/-- The hashes behind a signature's values. -/
def besideF (h : Nat) (sig : ByteArray) : List ByteArray := (List.range h).map (pieceF (sig.extract 2145 sig.size))
theorem finT_size (K : Nat → Int) (V msg : ByteArray) (hV1 : V.size = 2144) : (finT (sumOf K) V msg).size = 2144 :=
  chainsT_size (sumOf K) (sumOf_size K) (finB V) (fun c => 15 - dig (sumOf K msg) c) (fun c => by unfold finB; split; exact pieceF_size V c (by omega); rfl) 67
set_option maxRecDepth 10000 in
set_option maxHeartbeats 1000000 in
theorem pcheck_core (key : ByteArray) (h : Nat) (msg sig L : ByteArray) (ev : Value) (ok : Bool) (w : World) (hh : h ≤ 5) (hk : key.size = 32) (hsig : sig.size = 2145 + 32 * h)
    (hev : ok = true ∧ ev = .nilIface ∨ ok = false ∧ ∃ n, ev = .iface 41 (.int .i64 n))
    (hF : ∀ W, Below w.heap.size w W → Calls Tryz.prog 126 #[.string (sig.extract 1 2145), .string msg] W (strPost1 L W))
    (hC : ∀ (B : Nat) W0 W, Below w.heap.size w W → PartAt B h h (pieceF (sig.extract 2145 sig.size)) W0 W → Calls Tryz.prog 87 #[.string L, .int .i64 (keyN sig), .int .i64 ((2 ^ h : Nat) : Int), .string key, .slice (some ⟨B, 0, none⟩) h h] W fun e w' => e = .returned ev ∧ Below W.heap.size W w') :
    Calls Tryz.prog 83 #[.string key, .int .i64 h, .string msg, .string sig] w fun e w' => e = .returned (if ok then .tuple #[.int .i64 (keyN sig), .nilIface] else .tuple #[.int .i64 0, errSg]) ∧ Below w.heap.size w w' := by
  have hf := pfits_any key h w (by omega)
  rw [show decide (key.size = 32 ∧ 0 ≤ (h : Int) ∧ (h : Int) ≤ 5) = true from decide_eq_true ⟨hk, by omega, by omega⟩] at hf
  have hsz := fun W => size_any' h W (by omega)
  rw [← hsig] at hsz
  have HSZ : Hid (∀ W, Calls Tryz.prog 81 #[.int .i64 h] W fun e w' => e = .returned (.int .i64 ((sig.size : Nat) : Int)) ∧ w' = W) := hsz
  have HKC : Hid (∀ W, Calls Tryz.prog 114 #[.int .i64 h] W fun e w' => e = .returned (.int .i64 ((2 ^ h : Nat) : Int)) ∧ w' = W) := fun W => keyCount_any h W (by omega)
  have HCUT : Hid (∀ W, Calls Tryz.prog 127 #[.string (sig.extract 2145 sig.size)] W fun e w' => e = .returned (.slice (some ⟨W.heap.size, 0, none⟩) h h) ∧ PartAt W.heap.size h h (pieceF (sig.extract 2145 sig.size)) W w') := fun W => cutS_any _ h W (by omega) (by rw [ByteArray.size_extract]; omega)
  have HF : Hid (∀ W, Below w.heap.size w W → Calls Tryz.prog 126 #[.string (sig.extract 1 2145), .string msg] W (strPost1 L W)) := hF
  have HC : Hid (∀ (B : Nat) W0 W, Below w.heap.size w W → PartAt B h h (pieceF (sig.extract 2145 sig.size)) W0 W → Calls Tryz.prog 87 #[.string L, .int .i64 (keyN sig), .int .i64 ((2 ^ h : Nat) : Int), .string key, .slice (some ⟨B, 0, none⟩) h h] W fun e w' => e = .returned ev ∧ Below W.heap.size W w') := hC
  clear hsz hF hC
  have b0 : (0 : Int) < (sig.size : Int) := by omega
  have b1 : (2145 : Int) ≤ (sig.size : Int) := by omega
  have hpos : 0 < sig.size := by omega
  have hs1 : ∀ W, (Instr.slice 9 (.string sig) (some (.int .i64 1)) (some (.int .i64 2145)) none).run Tryz.prog W = .ok (.string (sig.extract 1 2145)) W := fun W => run_cut_str sig 1 2145 W (by omega) (by omega)
  have hw : wrap64 ((sig[0]'hpos).toNat : Int) = ((keyN sig : Nat) : Int) := by
    have e : (sig[0]'hpos).toNat = keyN sig := by
      unfold keyN; rw [Array.getD_eq_getD_getElem?, Array.getElem?_eq_getElem (by exact hpos)]; rfl
    rw [e]
    have : keyN sig < 256 := by unfold keyN; exact UInt8.toNat_lt _
    unfold wrap64; omega
  have HS : Hid (sig.size = 2145 + 32 * h) := hsig
  clear hsig
  generalize 2 ^ h = N at *
  generalize keyN sig = kn at *
  rcases hev with ⟨rfl, rfl⟩ | ⟨rfl, n, rfl⟩
  all_goals
    go_enter Tryz.func83, Tryz.ntmps83
    go_wp2_with fail
    refine hf.mono ?_
    rintro e w1 ⟨rfl, hb1⟩
    clear hf
    go_wp2_with fail
    refine (HSZ.out w1).mono ?_
    rintro e w1' ⟨rfl, rfl⟩
    go_wp2_with fail
    refine (HF.out w1' hb1).mono ?_
    rintro e w2 ⟨rfl, hb2⟩
    have hB2 : Below w.heap.size w w2 := hb1.trans (hb2.mono hb1.size)
    clear hb2
    go_wp2_with fail
    have J0 : Below w.heap.size w w2.drew := hB2.drew
    refine wp_region_noPanic ?_
    refine wp_region_held_drew (S := fun W => Below w.heap.size w W) (by kernel_rfl) J0 (fun _ => ?_)
    refine tk 0 J0 ?_
    refine tk 1 J0 ?_
    refine tk 2 J0 ?_
    refine tk 4 J0 ?_
    refine tk 5 J0 ?_
    refine tk 6 J0 ?_
    refine rk 3 (fun K hK => ?_)
    go_simp
    refine (HKC.out w2.drew).mono ?_
    rintro e w3 ⟨rfl, hw3⟩
    obtain rfl : w2.drew = w3 := hw3.symm
    refine hK.out _ _ J0 (fun _ => ?_)
    clear hK K
    try simp only [qA, qB, qC, Act.put, qD, qE, qF]
    refine rk 7 (fun K hK => ?_)
    go_simp
    refine (HCUT.out w2.drew).mono ?_
    rintro e w4 ⟨rfl, hp4⟩
    have J4 : Below w.heap.size w w4 := J0.trans (hp4.b.mono J0.size)
    refine hK.out _ _ J4 (fun _ => ?_)
    clear hK K
    try simp only [qA, qB, qC, Act.put, qD, qE, qF]
    refine rk 8 (fun K hK => ?_)
    go_simp
    refine (HC.out _ _ w4 J4 hp4).mono ?_
    rintro e w5 ⟨rfl, hb5⟩
    have J5 : Below w.heap.size w w5 := J4.trans (hb5.mono J4.size)
    refine hK.out _ _ J5 (fun _ => ?_)
    clear hK K
    try simp only [qA, qB, qC, Act.put, qD, qE, qF]
    refine tk 9 J5 ?_
    refine ⟨by kernel_rfl, ?_⟩
    refine NoPanic.normal ?_
    go_wp2_with fail
    go_ret2
    exact ⟨rfl, J5⟩

set_option maxRecDepth 10000 in
set_option maxHeartbeats 400000 in
theorem pcheck_seed (key : ByteArray) (h : Int) (msg sig : ByteArray) (w : World) (hs : key.size ≤ 140737488355000) (hc : ¬ (key.size = 32 ∧ 0 ≤ h ∧ h ≤ 5)) :
    Calls Tryz.prog 83 #[.string key, .int .i64 h, .string msg, .string sig] w fun e w' => e = .returned (.tuple #[.int .i64 0, errSd]) ∧ Below w.heap.size w w' := by
  have hf := pfits_any key h w hs
  rw [show decide (key.size = 32 ∧ 0 ≤ h ∧ h ≤ 5) = false from decide_eq_false hc] at hf
  clear hc hs
  go_enter Tryz.func83, Tryz.ntmps83
  go_wp2_with fail
  refine hf.mono ?_
  rintro e w1 ⟨rfl, hb1⟩
  clear hf
  go_wp2_with fail
  go_ret2
  exact ⟨rfl, hb1⟩
set_option maxRecDepth 10000 in
set_option maxHeartbeats 400000 in
theorem pcheck_size (key : ByteArray) (h : Nat) (msg sig : ByteArray) (w : World) (hk : key.size = 32) (hh : h ≤ 5) (hc : ¬ sig.size = 2145 + 32 * h) :
    Calls Tryz.prog 83 #[.string key, .int .i64 h, .string msg, .string sig] w fun e w' => e = .returned (.tuple #[.int .i64 0, errSg]) ∧ Below w.heap.size w w' := by
  have hf := pfits_any key h w (by omega)
  rw [show decide (key.size = 32 ∧ 0 ≤ (h : Int) ∧ (h : Int) ≤ 5) = true from decide_eq_true ⟨hk, by omega, by omega⟩] at hf
  have hsz := fun W => size_any' h W (by omega)
  obtain ⟨M, hM⟩ : ∃ M : Nat, M = 2145 + 32 * h := ⟨_, rfl⟩
  rw [← hM] at hsz hc
  have hne : ((sig.size : Int) == (M : Int)) = false := by rw [beq_eq_false_iff_ne]; omega
  clear hM hc
  go_enter Tryz.func83, Tryz.ntmps83
  go_wp2_with fail
  refine hf.mono ?_
  rintro e w1 ⟨rfl, hb1⟩
  clear hf
  go_wp2_with fail
  refine (hsz w1).mono ?_
  rintro e w1' ⟨rfl, rfl⟩
  go_wp2_with fail
  go_ret2
  exact ⟨rfl, hb1⟩
/-- Does the program take the signature? -/
def sigOk (K : Nat → Int) (key : ByteArray) (h : Nat) (msg sig : ByteArray) : Bool :=
  decide (sig.size = 2145 + 32 * h) && (decide (keyN sig < 2 ^ h) && inclOk K (finT (sumOf K) (sig.extract 1 2145) msg) (keyN sig) (2 ^ h) key (besideF h sig))
/-- What the program's Check answers. -/
def checkV (K : Nat → Int) (key : ByteArray) (h : Int) (msg sig : ByteArray) : Value :=
  if key.size = 32 ∧ 0 ≤ h ∧ h ≤ 5 then
    if sigOk K key h.toNat msg sig then .tuple #[.int .i64 (keyN sig), .nilIface] else .tuple #[.int .i64 0, errSg]
  else .tuple #[.int .i64 0, errSd]
theorem pcheck_any (K : Nat → Int) (key : ByteArray) (h : Int) (msg sig : ByteArray) (w : World) (hs : key.size ≤ 140737488355000) (hm : msg.size ≤ 140737488355000) (T : Tab K w) :
    Calls Tryz.prog 83 #[.string key, .int .i64 h, .string msg, .string sig] w fun e w' => e = .returned (checkV K key h msg sig) ∧ Below w.heap.size w w' := by
  by_cases hc : key.size = 32 ∧ 0 ≤ h ∧ h ≤ 5
  · obtain ⟨n, rfl⟩ : ∃ n : Nat, h = n := ⟨h.toNat, by omega⟩
    have hn : n ≤ 5 := by omega
    have hN : 2 ^ n ≤ 32 := Nat.pow_le_pow_right (n := 2) (by omega) hn
    have e1 : checkV K key (n : Int) msg sig = if sigOk K key n msg sig then .tuple #[.int .i64 (keyN sig), .nilIface] else .tuple #[.int .i64 0, errSg] := by unfold checkV; rw [if_pos hc]; simp
    rw [e1]
    by_cases hz : sig.size = 2145 + 32 * n
    · have hV : (sig.extract 1 2145).size = 2144 := by rw [ByteArray.size_extract]; omega
      have hF : ∀ W, Below w.heap.size w W → Calls Tryz.prog 126 #[.string (sig.extract 1 2145), .string msg] W (strPost1 (finT (sumOf K) (sig.extract 1 2145) msg) W) := fun W hb => finish_any K _ msg W hV hm (T.below hb)
      by_cases hk : keyN sig < 2 ^ n
      · have e2 : sigOk K key n msg sig = inclOk K (finT (sumOf K) (sig.extract 1 2145) msg) (keyN sig) (2 ^ n) key (besideF n sig) := by unfold sigOk; simp [hz, hk]
        rw [e2]
        refine pcheck_core key n msg sig _ (chkV (inclOk K (finT (sumOf K) (sig.extract 1 2145) msg) (keyN sig) (2 ^ n) key (besideF n sig))) _ w hn hc.1 hz ?_ hF (fun B W0 W hb HP => ?_)
        rotate_left 1
        · have := tchk_any K (finT (sumOf K) (sig.extract 1 2145) msg) key (keyN sig) (2 ^ n) (besideF n sig) (.slice (some ⟨B, 0, none⟩) n n) W (by rw [finT_size K _ _ hV]; omega) hk (by omega) HP.leaf (by unfold besideF; simp; omega) (T.below hb)
          exact this
        · unfold chkV; cases inclOk K (finT (sumOf K) (sig.extract 1 2145) msg) (keyN sig) (2 ^ n) key (besideF n sig)
          · exact Or.inr ⟨rfl, 14, rfl⟩
          · exact Or.inl ⟨rfl, rfl⟩
      · have e2 : sigOk K key n msg sig = false := by unfold sigOk; simp [hk]
        rw [e2]
        exact pcheck_core key n msg sig _ errIx false w hn hc.1 hz (Or.inr ⟨rfl, 10, rfl⟩) hF (fun B W0 W hb HP => tchk_err _ key _ _ _ W (by omega) (by omega))
    · have e2 : sigOk K key n msg sig = false := by unfold sigOk; simp [hz]
      rw [e2]
      exact pcheck_size key n msg sig w hc.1 hn hz
  · rw [show checkV K key h msg sig = .tuple #[.int .i64 0, errSd] by unfold checkV; rw [if_neg hc]]
    exact pcheck_seed key h msg sig w hs hc
set_option maxRecDepth 10000 in
set_option maxHeartbeats 400000 in
theorem half_any (n : Nat) (w : World) (h0 : 2 ≤ n) (h1 : n ≤ 2147483647) :
    Calls Tryz.prog 50 #[.int .i64 n] w fun e w' => e = .returned (.int .i64 (halfN n)) ∧ w' = w := by
  go_enter Tryz.func50, Tryz.ntmps50
  go_wp2_with fail
  go_loopw [3] (fun k wr => ∃ q : Nat, k = .int .i64 q ∧ q < n ∧ Hid (∃ j, q = 2 ^ j) ∧ wr = w) (fun k _ => n - (intOf k).toNat)
  case atStart => exact ⟨1, rfl, by omega, ⟨0, rfl⟩, rfl⟩
  case round =>
    obtain ⟨q, rfl, hq, hj, hwr⟩ := hrel
    obtain rfl : w = wr := hwr.symm
    clear hwr
    by_cases hlt : q < n - q
    · have q1 : (q : Int) < (n : Int) - (q : Int) := by omega
      go_wp2_with fail
      refine ⟨⟨2 * q, by go_num, by omega, ?_, by trivial⟩, ?_⟩
      · obtain ⟨j, e⟩ := hj.out
        exact ⟨j + 1, by rw [e, Nat.pow_succ]; omega⟩
      · have h0 : 0 < q := by
          obtain ⟨j, e⟩ := hj.out
          rw [e]; exact Nat.pow_pos (by omega)
        simp [intOf]; omega
    · have q1 : ¬ (q : Int) < (n : Int) - (q : Int) := by omega
      have hh : q = halfN n := by
        obtain ⟨j, e⟩ := hj.out
        rw [e] at hq hlt ⊢
        exact halfN_unique hq (by omega)
      have HH : Hid (q = halfN n) := hh
      clear hh
      go_wp2_with fail
      go_ret
      exact ⟨by rw [← HH.out]; rfl, rfl⟩

def awayT (a b : Value) : Prop := ∀ g, a.ownBlock = some g → b.ownBlock ≠ some g
theorem awayT.ne {a b : Value} (h : awayT a b) : a.ownBlock = none ∨ a.ownBlock ≠ b.ownBlock := by
  cases ha : a.ownBlock with
  | none => exact Or.inl rfl
  | some g => exact Or.inr fun e => h g ha e.symm
theorem awayT.symm {a b : Value} (h : awayT a b) : awayT b a := fun g h1 h2 => h g h2 h1

/-- The texts that were hashed, each with its hash: block p. -/
structure KAt (H : ByteArray → ByteArray) (p : Nat) (w : World) (tv hv : Value) (ts : List ByteArray) : Prop where
  block : w.heap[p]? = some (.cells #[tv, hv] 77 (0, 0))
  texts : w.ownsRow (p + 1) 9 1 tv ts.length (ts.map .string)
  hashes : w.ownsRow (p + 1) 9 1 hv ts.length ((ts.map H).map .string)
  away : awayT tv hv
theorem KAt.lt {H : ByteArray → ByteArray} {p : Nat} {w : World} {tv hv : Value} {ts : List ByteArray} (h : KAt H p w tv hv ts) : p < w.heap.size := (Array.getElem?_eq_some_iff.1 h.block).1
theorem KAt.below {H : ByteArray → ByteArray} {p : Nat} {w w' : World} {tv hv : Value} {ts : List ByteArray} (h : KAt H p w tv hv ts) (hb : Below w.heap.size w w') : KAt H p w' tv hv ts :=
  ⟨(hb.block p h.lt).trans h.block, own_below' h.texts hb, own_below' h.hashes hb, h.away⟩
theorem grown_trans' {w a b : World} {row : Option Nat} (h : w.grownBy a row) (k : a.grownBy b row) : w.grownBy b row :=
  ⟨k.os.trans h.os, k.tape.trans h.tape, k.output.trans h.output, Nat.le_trans h.size k.size, fun j hj hr => (k.block j (Nat.lt_of_lt_of_le hj h.size) hr).trans (h.block j hj hr)⟩

/-- A store into a field of block p leaves a row of another block as it was. -/
theorem own_field {w : World} {p i : Nat} {u : Value} {e : TypeId} {x : Value} {n : Nat} {xs : List Value} (hx : w.ownsRow (p + 1) e 1 x n xs) : (w.setCell ⟨p, i, none⟩ u).ownsRow (p + 1) e 1 x n xs :=
  hx.kept (row := some p) ⟨rfl, rfl, rfl, by simp, fun b _ hb => heap_setCell_other w ⟨p, i, none⟩ b u (fun e => hb (by simp [e]))⟩ (Or.inr fun e => by have := hx.lt p e; omega)

set_option maxRecDepth 10000 in
set_option maxHeartbeats 1000000 in
theorem kof_any (K : Nat → Int) (p : Nat) (w : World) (tv hv : Value) (ts : List ByteArray) (t : ByteArray) (h : KAt (sumOf K) p w tv hv ts) (hn : ts.length ≤ 1000000) (ht : t.size ≤ 140737488355000) (T : Tab K w) :
    Calls Tryz.prog 44 #[.pointer (some ⟨p, 0, none⟩), .string t] w fun e w' => e = .returned (.string (sumOf K t)) ∧ (∃ tv' hv', KAt (sumOf K) p w' tv' hv' (ts ++ [t])) ∧ Below p w w' := by
  have hsum := sum_any t K w (by omega) T.lt T.cells
  have hlt := h.lt
  obtain ⟨i, hi, hz, hsz, hby⟩ := info_strT
  have HA : Hid (KAt (sumOf K) p w tv hv ts) := h
  obtain ⟨d, hd⟩ : ∃ d, d = sumOf K t := ⟨_, rfl⟩
  have HD : Hid (d = sumOf K t) := hd
  rw [← hd] at hsum ⊢
  clear hd h T
  go_enter Tryz.func44, Tryz.ntmps44
  go_wp2_with fail
  refine hsum.mono ?_
  rintro e w1 ⟨rfl, hb1⟩
  have A1 := HA.out.below hb1
  have hs1 := hb1.size
  have c0 : w1.cell? ⟨p, 0, none⟩ = some tv := by rw [cell_of_row w1 p 0 _ _ _ A1.block]; rfl
  have f0 : w1.frozen? ⟨p, 0, none⟩ = false := frozen_of_row w1 p 0 _ _ A1.block
  have ho1 : (w1.alloc (.cells #[.string t] 9)).ownsRow (p + 1) 9 1 tv ts.length (ts.map .string) := A1.texts.alloc _
  have hnp1 : some p ≠ tv.ownBlock := fun e => by have := A1.texts.lt p e.symm; omega
  have hn1 : ∀ j u, [Value.string t][j]? = some u → (w1.alloc (.cells #[.string t] 9)).cell? ((⟨w1.heap.size, 0, none⟩ : Addr).add j) = some u := World.news_of_block (heap_alloc_new w1 (.cells #[.string t] 9))
  have HA1 : Hid (KAt (sumOf K) p w1 tv hv ts) := A1
  clear A1 hsum
  have HL : Hid (∀ k, hv.ownBlock = some k → p + 1 ≤ k ∧ k < w1.heap.size) := HA1.out.hashes.lt
  have hnp2 : some p ≠ hv.ownBlock := fun e => by have := HL.out p e.symm; omega
  go_wp2_with (first
    | (refine wpList_append_lies _ rfl _ _ 51 rfl (p + 1) 9 i _ 1 16 Tryz.underlying51 hi hz hsz hby rfl (by decide) hv ts.length _ rfl hoB ⟨w2.heap.size, 0, none⟩ 1 1 [.string d] rfl rfl hnB (by simp [Value.oneCell']) (by decide) (by unfold maxLen; omega) (by omega) (by simp; omega) _ rfl ?_
       intro g3 cap3 w3 ho3 hgr3 hat3 hlt3
       have c3 : w3.cell? ⟨p, 1, none⟩ = some hv := (hgr3.cell_far ⟨p, 1, none⟩ (by simp; omega) hnp2).trans ((World.cell?_alloc_past _ _ _ (by simp; omega)).trans c1)
       have f3 : w3.frozen? ⟨p, 1, none⟩ = false := (hgr3.frozen_far ⟨p, 1, none⟩ (by simp; omega) hnp2).trans ((World.frozen?_alloc_past _ _ _ (by simp; omega)).trans f1))
    | (refine wpList_append_lies _ rfl _ _ 51 rfl (p + 1) 9 i _ 1 16 Tryz.underlying51 hi hz hsz hby rfl (by decide) tv ts.length _ rfl ho1 ⟨w1.heap.size, 0, none⟩ 1 1 [.string t] rfl rfl hn1 (by simp [Value.oneCell']) (by decide) (by unfold maxLen; omega) (by omega) (by simp; omega) _ rfl ?_
       intro g2 cap2 w2 ho2 hgr2 hat2 hlt2
       have hs2 := hgr2.size
       simp at hs2
       have c2 : w2.cell? ⟨p, 0, none⟩ = some tv := (hgr2.cell_far ⟨p, 0, none⟩ (by simp; omega) hnp1).trans ((World.cell?_alloc_past _ _ _ (by show p < _; omega)).trans c0)
       have f2 : w2.frozen? ⟨p, 0, none⟩ = false := (hgr2.frozen_far ⟨p, 0, none⟩ (by simp; omega) hnp1).trans ((World.frozen?_alloc_past _ _ _ (by show p < _; omega)).trans f0)
       have hgr12 : w1.grownBy w2 tv.ownBlock := grown_trans' (World.grownBy_alloc w1 _ _) hgr2
       have bB : (w2.setCell ⟨p, 0, none⟩ (.slice (some ⟨g2, 0, none⟩) (ts.length + 1) cap2)).heap[p]? = some (.cells #[.slice (some ⟨g2, 0, none⟩) (ts.length + 1) cap2, hv] 77 (0, 0)) := by
         rw [heap_setCell_same w2 p 0 _ _ _ ((hgr12.block p (by omega) hnp1).trans HA1.out.block)]; rfl
       have c1 : (w2.setCell ⟨p, 0, none⟩ (.slice (some ⟨g2, 0, none⟩) (ts.length + 1) cap2)).cell? ⟨p, 1, none⟩ = some hv := by rw [cell_of_row _ p 1 _ _ _ bB]; rfl
       have f1 : (w2.setCell ⟨p, 0, none⟩ (.slice (some ⟨g2, 0, none⟩) (ts.length + 1) cap2)).frozen? ⟨p, 1, none⟩ = false := frozen_of_row _ p 1 _ _ bB
       have hoB : ((w2.setCell ⟨p, 0, none⟩ (.slice (some ⟨g2, 0, none⟩) (ts.length + 1) cap2)).alloc (.cells #[.string d] 9)).ownsRow (p + 1) 9 1 hv ts.length ((ts.map (sumOf K)).map .string) := (own_field (HA1.out.hashes.kept hgr12 HA1.out.away.symm.ne)).alloc _
       have hnB : ∀ j u, [Value.string d][j]? = some u → ((w2.setCell ⟨p, 0, none⟩ (.slice (some ⟨g2, 0, none⟩) (ts.length + 1) cap2)).alloc (.cells #[.string d] 9)).cell? ((⟨w2.heap.size, 0, none⟩ : Addr).add j) = some u := fun j u hu => by
         have := World.news_of_block (heap_alloc_new (w2.setCell ⟨p, 0, none⟩ (.slice (some ⟨g2, 0, none⟩) (ts.length + 1) cap2)) (.cells #[.string d] 9)) j u hu
         rw [show (w2.setCell ⟨p, 0, none⟩ (.slice (some ⟨g2, 0, none⟩) (ts.length + 1) cap2)).heap.size = w2.heap.size by simp] at this
         exact this
       have HB : Hid ((w2.setCell ⟨p, 0, none⟩ (.slice (some ⟨g2, 0, none⟩) (ts.length + 1) cap2)).heap[p]? = some (.cells #[.slice (some ⟨g2, 0, none⟩) (ts.length + 1) cap2, hv] 77 (0, 0))) := bB
       clear bB))
  go_ret
  refine ⟨rfl, ⟨.slice (some ⟨g2, 0, none⟩) (ts.length + 1) cap2, .slice (some ⟨g3, 0, none⟩) (ts.length + 1) cap3, ?_, ?_, ?_, ?_⟩, ?_⟩
  · rw [heap_setCell_same w3 p 1 _ _ _ ((hgr3.block p (by simp; omega) hnp2).trans ((heap_alloc_old _ _ (by simp; omega)).trans HB.out))]; rfl
  · have h2 : w2.ownsRow (p + 1) 9 1 (.slice (some ⟨g2, 0, none⟩) (ts.length + 1) cap2) (ts ++ [t]).length ((ts ++ [t]).map .string) := by simpa using ho2
    refine own_field (World.ownsRow.kept ((own_field h2).alloc _) hgr3 (Or.inr fun e => ?_))
    have e' : hv.ownBlock = some g2 := by rw [← e]; rfl
    rcases hat2 with h3 | h3
    · exact HA1.out.away g2 h3 e'
    · have := HL.out g2 e'; simp at h3; omega
  · have h3 : w3.ownsRow (p + 1) 9 1 (.slice (some ⟨g3, 0, none⟩) (ts.length + 1) cap3) (ts ++ [t]).length (((ts ++ [t]).map (sumOf K)).map .string) := by
      have := ho3
      rw [HD.out] at this
      simpa using this
    exact own_field h3
  · intro g e1 e2
    have e1' : g2 = g := by simpa [Value.ownBlock] using e1
    have e2' : g3 = g := by simpa [Value.ownBlock] using e2
    subst e1'
    rcases hat3 with h3 | h3
    · rw [e2'] at h3
      rcases hat2 with h4 | h4
      · exact HA1.out.away g2 h4 h3
      · have := HL.out g2 h3; simp at h4; omega
    · simp at h3; omega
  · have hb2 : Below p w1 w2 := ((Below.refl _ _).alloc (by omega) _).trans ((Below.refl _ _).grown hgr2 (by simp; omega) (fun k hk => by have := HA1.out.texts.lt k hk; omega))
    have hb3 : Below p (w2.setCell ⟨p, 0, none⟩ (.slice (some ⟨g2, 0, none⟩) (ts.length + 1) cap2)) w3 := ((Below.refl _ _).alloc (by simp; omega) _).trans ((Below.refl _ _).grown hgr3 (by simp; omega) (fun k hk => by have := HL.out k hk; omega))
    exact (hb1.mono (by omega)).trans ((hb2.setCell (p := ⟨p, 0, none⟩) (Nat.le_refl _) _).trans (hb3.setCell (p := ⟨p, 1, none⟩) (Nat.le_refl _) _))
/-- What known's calls leave. -/
def kPost (K : Nat → Int) (p : Nat) (w : World) (ts : List ByteArray) (h : ByteArray) (e : Ending) (w' : World) : Prop :=
  e = .returned (.string h) ∧ (∃ tv hv, KAt (sumOf K) p w' tv hv ts) ∧ Below p w w'

set_option maxRecDepth 10000 in
set_option maxHeartbeats 1000000 in
theorem kroot_one (K : Nat → Int) (p : Nat) (w : World) (g off cap : Nat) (s h : ByteArray) (ts : List ByteArray) (hc : w.cell? ⟨g, off, none⟩ = some (.string s)) (hs : s.size ≤ 100000)
    (hof : Calls Tryz.prog 44 #[.pointer (some ⟨p, 0, none⟩), .string (⟨#[0]⟩ ++ s)] w (kPost K p w ts h)) :
    Calls Tryz.prog 28 #[.pointer (some ⟨p, 0, none⟩), .slice (some ⟨g, off, none⟩) 1 cap] w (kPost K p w ts h) := by
  go_enter Tryz.func28, Tryz.ntmps28
  go_wp2_with fail
  refine hof.mono ?_
  rintro e w1 ⟨rfl, hk, hb⟩
  go_wp2_with fail
  go_ret
  exact ⟨rfl, hk, hb⟩

set_option maxRecDepth 10000 in
set_option maxHeartbeats 1000000 in
theorem kroot_more (K : Nat → Int) (p : Nat) (w : World) (g off cap N k : Nat) (a b h : ByteArray) (t1 t2 t3 : List ByteArray) (hN : 2 ≤ N) (hN1 : N ≤ 2147483647) (hk0 : 0 < k) (hk1 : k < N) (hcap : N ≤ cap) (ha : a.size = 32) (hb : b.size = 32)
    (hh : ∀ W, Calls Tryz.prog 50 #[.int .i64 N] W fun e w' => e = .returned (.int .i64 k) ∧ w' = W)
    (hA : Calls Tryz.prog 28 #[.pointer (some ⟨p, 0, none⟩), .slice (some ⟨g, off, none⟩) k cap] w (kPost K p w t1 a))
    (hB : ∀ W, (∃ tv hv, KAt (sumOf K) p W tv hv t1) → Below p w W → Calls Tryz.prog 28 #[.pointer (some ⟨p, 0, none⟩), .slice (some ⟨g, off + k, none⟩) (N - k) (cap - k)] W (kPost K p W t2 b))
    (hof : ∀ W, (∃ tv hv, KAt (sumOf K) p W tv hv t2) → Below p w W → Calls Tryz.prog 44 #[.pointer (some ⟨p, 0, none⟩), .string (⟨#[1]⟩ ++ a ++ b)] W (kPost K p W t3 h)) :
    Calls Tryz.prog 28 #[.pointer (some ⟨p, 0, none⟩), .slice (some ⟨g, off, none⟩) N cap] w (kPost K p w t3 h) := by
  have n0 : ((N : Int) == 0) = false := by rw [beq_eq_false_iff_ne]; omega
  have n1 : ((N : Int) == 1) = false := by rw [beq_eq_false_iff_ne]; omega
  have k1 : (k : Int) ≤ (N : Int) := by omega
  have k2 : (k : Int) ≤ (cap : Int) := by omega
  have k3 : ¬ cap = k := by omega
  have HB : Hid (∀ W, (∃ tv hv, KAt (sumOf K) p W tv hv t1) → Below p w W → Calls Tryz.prog 28 #[.pointer (some ⟨p, 0, none⟩), .slice (some ⟨g, off + k, none⟩) (N - k) (cap - k)] W (kPost K p W t2 b)) := hB
  have HOF : Hid (∀ W, (∃ tv hv, KAt (sumOf K) p W tv hv t2) → Below p w W → Calls Tryz.prog 44 #[.pointer (some ⟨p, 0, none⟩), .string (⟨#[1]⟩ ++ a ++ b)] W (kPost K p W t3 h)) := hof
  clear hB hof
  go_enter Tryz.func28, Tryz.ntmps28
  go_wp2_with (go_at_call 50; refine (hh _).mono ?_; rintro e wx ⟨rfl, hwx⟩; obtain rfl : w = wx := hwx.symm; clear hwx)
  refine hA.mono ?_
  rintro e w1 ⟨rfl, hk1', hb1⟩
  clear hA
  go_wp2_with fail
  refine (HB.out w1 hk1' hb1).mono ?_
  rintro e w2 ⟨rfl, hk2', hb2⟩
  go_wp2_with fail
  refine (HOF.out w2 hk2' (hb1.trans hb2)).mono ?_
  rintro e w3 ⟨rfl, hk3', hb3⟩
  go_wp2_with fail
  go_ret
  exact ⟨rfl, hk3', (hb1.trans hb2).trans hb3⟩

theorem Tab.belowp {K : Nat → Int} {p : Nat} {w w' : World} (h : Tab K w) (hp : 1 < p) (hb : Below p w w') : Tab K w' :=
  ⟨Nat.lt_of_lt_of_le h.lt hb.size, fun j hj => (hb.cell (p := ⟨1, j, none⟩) hp).trans (h.cells j hj)⟩

theorem kroot_any (K : Nat → Int) (p : Nat) (hp : 1 < p) : ∀ (n : Nat) (ls : List ByteArray) (g off cap : Nat) (w : World) (ts : List ByteArray), ls.length = n → 0 < n → n ≤ 2147483647 → n ≤ cap → g < p → (∀ j (h : j < ls.length), w.cell? ⟨g, off + j, none⟩ = some (.string (ls[j]'h))) → (∀ s ∈ ls, s.size ≤ 100000) → (∃ tv hv, KAt (sumOf K) p w tv hv ts) → ts.length + 2 * n ≤ 1000000 → Tab K w →
    Calls Tryz.prog 28 #[.pointer (some ⟨p, 0, none⟩), .slice (some ⟨g, off, none⟩) n cap] w (kPost K p w (ts ++ rootT (sumOf K) ls) (rootF (sumOf K) ls)) := by
  intro n
  induction n using Nat.strongRecOn with
  | _ n ih =>
  intro ls g off cap w ts hn hn0 hn1 hcap hg hc hs hk ht T
  have hszF : ∀ l, (rootF (sumOf K) l).size = 32 := rootF_size (sumOf K) (sumOf_size K)
  by_cases h1 : n = 1
  · subst h1
    obtain ⟨s, rfl⟩ : ∃ s, ls = [s] := List.length_eq_one_iff.1 hn
    rw [rootT_one]
    have hss := hs s (by simp)
    refine kroot_one K p w g off cap s _ _ (by have := hc 0 (by simp); simpa using this) hss ?_
    obtain ⟨tv, hv, hA⟩ := hk
    have hm : (m0 ++ s).size ≤ 140737488355000 := by rw [ByteArray.size_append, m0_size]; omega
    have := kof_any K p w tv hv ts (m0 ++ s) hA (by omega) hm T
    rw [show rootF (sumOf K) [s] = sumOf K (m0 ++ s) by rw [rootF]]
    exact this
  · have h2 : 2 ≤ ls.length := by omega
    have hk0 := halfN_pos ls.length
    have hk1 := halfN_lt h2
    have lT := rootT_len (sumOf K) _ (ls.take (halfN ls.length)) rfl (by simp; omega)
    have lD := rootT_len (sumOf K) _ (ls.drop (halfN ls.length)) rfl (by simp; omega)
    have nT : (ls.take (halfN ls.length)).length = halfN ls.length := by simp; omega
    have nD : (ls.drop (halfN ls.length)).length = ls.length - halfN ls.length := by simp
    rw [nT] at lT
    rw [nD] at lD
    rw [rootT_more _ h2, rootF_more _ h2, ← List.append_assoc, ← List.append_assoc]
    rw [← hn]
    refine kroot_more K p w g off cap ls.length (halfN ls.length) (rootF (sumOf K) (ls.take (halfN ls.length))) (rootF (sumOf K) (ls.drop (halfN ls.length))) _ (ts ++ rootT (sumOf K) (ls.take (halfN ls.length))) (ts ++ rootT (sumOf K) (ls.take (halfN ls.length)) ++ rootT (sumOf K) (ls.drop (halfN ls.length))) _ h2 (by omega) hk0 hk1 (by omega) (hszF _) (hszF _) (fun W => half_any ls.length W h2 (by omega)) ?_ ?_ ?_
    · refine ih (halfN ls.length) (by omega) (ls.take (halfN ls.length)) g off cap w ts nT hk0 (by omega) (by omega) hg (fun j hj => ?_) (fun s hs' => hs s (List.mem_of_mem_take hs')) hk (by omega) T
      rw [List.getElem_take]; exact hc j (by simp at hj; omega)
    · intro W hkW hbW
      refine ih (ls.length - halfN ls.length) (by omega) (ls.drop (halfN ls.length)) g (off + halfN ls.length) (cap - halfN ls.length) W _ nD (by omega) (by omega) (by omega) hg (fun j hj => ?_) (fun s hs' => hs s (List.mem_of_mem_drop hs')) hkW (by simp; omega) (T.belowp hp hbW)
      rw [List.getElem_drop, Nat.add_assoc, hbW.cell (p := ⟨g, off + (halfN ls.length + j), none⟩) hg]
      exact hc _ (by simp at hj; omega)
    · intro W hkW hbW
      obtain ⟨tv, hv, hA⟩ := hkW
      have hm : (m1 ++ rootF (sumOf K) (ls.take (halfN ls.length)) ++ rootF (sumOf K) (ls.drop (halfN ls.length))).size ≤ 140737488355000 := by
        rw [ByteArray.size_append, ByteArray.size_append, hszF, hszF, m1_size]; omega
      exact kof_any K p W tv hv _ _ hA (by simp; omega) hm (T.belowp hp hbW)
end Go.Proofs.YteglimjonofdeaaGreatDoor
