import Derived.Test.YtijdnpoenpjnlaaGreatDoorPChainM
import Derived.Test.YtijdnpoenpjnlaaGreatDoorTPathM
import Derived.Test.YtijdnpoenpjnlaaGreatDoorTReadM
import Derived.Lib.AppendStr
set_option linter.unusedVariables false
set_option linter.unusedSimpArgs false
namespace Go.Proofs.YtijdnpoenpjnlaaGreatDoor
open Go.RowKit

def errSd : Value := .iface 138 (.int .i64 11)
def errSg : Value := .iface 138 (.int .i64 13)
/-- The leaves of all keys. -/
def leavesF (H : ByteArray → ByteArray) (seed : ByteArray) (n : Nat) : List ByteArray := (List.range n).map (leafF H seed)
theorem leavesF_len (H : ByteArray → ByteArray) (seed : ByteArray) (n : Nat) : (leavesF H seed n).length = n := by unfold leavesF; simp
theorem leafF_size (K : Nat → Int) (seed : ByteArray) (k : Nat) : (leafF (sumOf K) seed k).size = 2144 :=
  chainsT_size (sumOf K) (sumOf_size K) (beginF (sumOf K) seed k) (fun _ => 15) (fun c => sumOf_size K _) 67
theorem leavesF_small (K : Nat → Int) (seed : ByteArray) (n : Nat) : ∀ s ∈ leavesF (sumOf K) seed n, s.size ≤ 140737488355000 := by
  intro s hs
  unfold leavesF at hs
  rw [List.mem_map] at hs
  obtain ⟨k, _, rfl⟩ := hs
  rw [leafF_size]; omega

set_option maxRecDepth 10000 in
set_option maxHeartbeats 400000 in
theorem tincl_any (K : Nat → Int) (ls : List ByteArray) (v : Value) (i : Nat) (w : World) (hin : i < ls.length) (hn1 : ls.length ≤ 2147483647) (hl : LeafAt w v ls) (hs : ∀ s ∈ ls, s.size ≤ 140737488355000) (T : Tab K w) :
    Calls Tryz.prog 119 #[v, .int .i64 i] w fun e w' => ∃ ao cap, e = .returned (.tuple #[.slice ao (inclF (sumOf K) ls i).length cap, .nilIface]) ∧ w'.ownsRow w.heap.size 9 1 (.slice ao (inclF (sumOf K) ls i).length cap) (inclF (sumOf K) ls i).length ((inclF (sumOf K) ls i).map .string) ∧ Below w.heap.size w w' := by
  have hp := path_any K _ ls v i w rfl hin hn1 hl hs T
  obtain ⟨g, off, cap, rfl, hcap, hc⟩ : ∃ g off cap, v = .slice (some ⟨g, off, none⟩) ls.length cap ∧ ls.length ≤ cap ∧ ∀ j (h : j < ls.length), w.cell? ⟨g, off + j, none⟩ = some (.string (ls[j]'h)) := by
    rcases hl with ⟨rfl, _⟩ | h
    · simp at hin
    · exact h
  generalize inclF (sumOf K) ls i = F at *
  have HP : Hid (Calls Tryz.prog 166 #[.slice (some ⟨g, off, none⟩) ls.length cap, .int .i64 i] w fun e w' => madeL w w' e F) := hp
  clear hp hc hl hs T
  generalize ls.length = N at *
  have i0 : ¬ (i : Int) < 0 := by omega
  have i1 : ¬ (N : Int) ≤ (i : Int) := by omega
  go_enter Tryz.func119, Tryz.ntmps119
  go_wp2_with fail
  refine HP.out.mono ?_
  rintro e w1 ⟨ao, cp, rfl, ho, hb⟩
  go_wp2_with fail
  go_ret2
  exact ⟨ao, cp, rfl, ho, hb⟩
set_option maxRecDepth 10000 in
set_option maxHeartbeats 400000 in
theorem tincl_err (ao : Option Addr) (N cap : Nat) (i : Int) (w : World) (h : i < 0 ∨ (N : Int) ≤ i) :
    Calls Tryz.prog 119 #[.slice ao N cap, .int .i64 i] w fun e w' => e = .returned (.tuple #[.slice none 0 0, errIx]) ∧ w' = w := by
  rcases h with h | h
  · go_enter Tryz.func119, Tryz.ntmps119
    go_wp2_with fail
    go_ret2
    exact ⟨rfl, rfl⟩
  · have h0 : ¬ i < 0 := by omega
    go_enter Tryz.func119, Tryz.ntmps119
    go_wp2_with fail
    go_ret2
    exact ⟨rfl, rfl⟩
theorem tchk_any (K : Nat → Int) (s r : ByteArray) (i n : Nat) (pf : List ByteArray) (v : Value) (w : World) (hs : s.size ≤ 140737488355000) (hin : i < n) (hn1 : n ≤ 2147483647) (hl : LeafAt w v pf) (hpf : pf.length ≤ 1000000000) (T : Tab K w) :
    Calls Tryz.prog 120 #[.string s, .int .i64 i, .int .i64 n, .string r, v] w fun e w' => e = .returned (chkV (inclOk K s i n r pf)) ∧ Below w.heap.size w w' := by
  by_cases hr : r.size = 32
  · have := chk_any s r _ _ i n v w hin hn1 hr (climbF_size _ (sumOf_size K) s i n pf) (fun W hb => climb_any K s hs _ pf v i n W rfl hpf hin hn1 (hl.below hb) (T.below hb))
    rw [show inclOk K s i n r pf = ((climbF (sumOf K) s i n pf).2 && decide ((climbF (sumOf K) s i n pf).1 = r)) by unfold inclOk; simp [hr]]
    exact this
  · have := chk_root s r i n v w hin hn1 hr
    rw [show inclOk K s i n r pf = false by unfold inclOk; simp [hr]]
    exact this
set_option maxRecDepth 10000 in
set_option maxHeartbeats 400000 in
theorem tchk_err (s r : ByteArray) (i n : Int) (v : Value) (w : World) (h0 : ¬ i < 0) (h1 : n ≤ i) : Calls Tryz.prog 120 #[.string s, .int .i64 i, .int .i64 n, .string r, v] w fun e w' => e = .returned errIx ∧ Below w.heap.size w w' := by
  go_enter Tryz.func120, Tryz.ntmps120
  go_wp2_with fail
  go_ret
  exact ⟨rfl, Below.refl _ _⟩

/-- The public key. -/
def pubF (H : ByteArray → ByteArray) (seed : ByteArray) (h : Nat) : ByteArray := rootF H (leavesF H seed (2 ^ h))
/-- What the program's PublicKey answers. -/
def pubV (K : Nat → Int) (seed : ByteArray) (h : Int) : Value := if seed.size = 32 ∧ 0 ≤ h ∧ h ≤ 5 then .tuple #[.string (pubF (sumOf K) seed h.toNat), .nilIface] else .tuple #[.string ⟨#[]⟩, errSd]

set_option maxRecDepth 10000 in
set_option maxHeartbeats 400000 in
theorem spub_any (K : Nat → Int) (seed : ByteArray) (h : Int) (w : World) (hs : seed.size ≤ 140737488355000) (T : Tab K w) :
    Calls Tryz.prog 125 #[.string seed, .int .i64 h] w fun e w' => e = .returned (pubV K seed h) ∧ Below w.heap.size w w' := by
  have hf := fits_any seed h w hs
  by_cases hc : seed.size = 32 ∧ 0 ≤ h ∧ h ≤ 5
  · obtain ⟨n, rfl⟩ : ∃ n : Nat, h = n := ⟨h.toNat, by omega⟩
    have hn : n ≤ 5 := by omega
    rw [show pubV K seed (n : Int) = .tuple #[.string (pubF (sumOf K) seed n), .nilIface] by unfold pubV; rw [if_pos hc]; simp]
    have hd : decide (seed.size = 32 ∧ 0 ≤ (n : Int) ∧ (n : Int) ≤ 5) = true := decide_eq_true hc
    rw [hd] at hf
    have HL : Hid (∀ W, Below w.heap.size w W → Calls Tryz.prog 172 #[.string seed, .int .i64 n] W fun e w' => e = .returned (.slice (some ⟨W.heap.size, 0, none⟩) (2 ^ n) (2 ^ n)) ∧ PartAt W.heap.size (2 ^ n) (2 ^ n) (leafF (sumOf K) seed) W w') := fun W hb => rowLeaves_any K seed n W hn (by omega) (T.below hb)
    have HR : Hid (∀ (B : Nat) W0 W, Below w.heap.size w W → PartAt B (2 ^ n) (2 ^ n) (leafF (sumOf K) seed) W0 W → Calls Tryz.prog 115 #[.slice (some ⟨B, 0, none⟩) (2 ^ n) (2 ^ n)] W fun e w' => e = .returned (.agg (hV (pubF (sumOf K) seed n)).toArray) ∧ Below W.heap.size W w') := fun B W0 W hb HP =>
      root_any K _ (leavesF (sumOf K) seed (2 ^ n)) _ W (leavesF_len _ _ _) (Nat.two_pow_pos n) (Nat.le_trans (Nat.pow_le_pow_right (n := 2) (by omega) hn) (by omega)) HP.leaf (leavesF_small K seed _) (T.below hb)
    have htx := htx_any (pubF (sumOf K) seed n) (rootF_size (sumOf K) (sumOf_size K) _)
    clear T hs hc hd
    generalize pubF (sumOf K) seed n = R at *
    generalize leafF (sumOf K) seed = F at *
    generalize 2 ^ n = N at *
    go_enter Tryz.func125, Tryz.ntmps125
    go_wp2_with fail
    refine hf.mono ?_
    rintro e w1 ⟨rfl, hb1⟩
    clear hf
    go_wp2_with fail
    refine (HL.out w1 hb1).mono ?_
    rintro e w2 ⟨rfl, hp2⟩
    have hb2 : Below w.heap.size w w2 := hb1.trans (hp2.b.mono hb1.size)
    go_wp2_with fail
    refine (HR.out w1.heap.size w1 w2 hb2 hp2).mono ?_
    rintro e w3 ⟨rfl, hb3⟩
    clear hp2
    go_wp2_with fail
    refine (htx w3).mono ?_
    rintro e w4 ⟨rfl, hb4⟩
    clear htx
    go_wp2_with fail
    go_ret2
    exact ⟨rfl, (hb2.trans (hb3.mono hb2.size)).trans (hb4.mono (Nat.le_trans hb2.size hb3.size))⟩
  · rw [show pubV K seed h = .tuple #[.string ⟨#[]⟩, errSd] by unfold pubV; rw [if_neg hc]]
    rw [show decide (seed.size = 32 ∧ 0 ≤ h ∧ h ≤ 5) = false from decide_eq_false hc] at hf
    clear hc T hs
    go_enter Tryz.func125, Tryz.ntmps125
    go_wp2_with fail
    refine hf.mono ?_
    rintro e w1 ⟨rfl, hb1⟩
    clear hf
    go_wp2_with fail
    go_ret2
    exact ⟨rfl, hb1⟩
set_option maxRecDepth 10000 in
set_option maxHeartbeats 400000 in
theorem apub_any (K : Nat → Int) (seed : ByteArray) (h : Int) (w : World) (hs : seed.size ≤ 140737488355000) (T : Tab K w) :
    Calls Tryz.prog 79 #[.string seed, .int .i64 h] w fun e w' => e = .returned (pubV K seed h) ∧ Below w.heap.size w w' := by
  have hp := spub_any K seed h w hs T
  obtain ⟨s, ev, hv⟩ : ∃ s ev, pubV K seed h = .tuple #[.string s, ev] := by unfold pubV; split <;> exact ⟨_, _, rfl⟩
  rw [hv] at hp ⊢
  clear hv T hs
  go_enter Tryz.func79, Tryz.ntmps79
  go_wp2_with fail
  refine hp.mono ?_
  rintro e w1 ⟨rfl, hb1⟩
  clear hp
  go_wp2_with fail
  go_ret2
  exact ⟨rfl, hb1⟩
end Go.Proofs.YtijdnpoenpjnlaaGreatDoor
set_option linter.unusedVariables false
set_option linter.unusedSimpArgs false
namespace Go.Proofs.YtijdnpoenpjnlaaGreatDoor
open Go.RowKit

theorem strCells_nums (s : ByteArray) : Lib.strCells s = bytesV (numsOf s) := by
  unfold Lib.strCells bytesV numsOf; rw [List.map_map]; rfl
/-- A tree of 2^h leaves has h hashes in a proof. -/
theorem inclF_pow (H : ByteArray → ByteArray) : ∀ (h : Nat) (l : List ByteArray) (i : Nat), l.length = 2 ^ h → (inclF H l i).length = h
  | 0, l, i, hl => by rw [inclF_one H (by rw [hl]; decide)]; rfl
  | h + 1, l, i, hl => by
    have p := Nat.two_pow_pos h
    have e : 2 ^ h = halfN l.length := halfN_unique (j := h) (by rw [hl, Nat.pow_succ]; omega) (by rw [hl, Nat.pow_succ]; omega)
    have h2 : 2 ≤ l.length := by rw [hl, Nat.pow_succ]; omega
    by_cases hi : i < halfN l.length
    · rw [inclF_left H h2 hi, List.length_append, inclF_pow H h _ i (by rw [List.length_take, ← e, hl, Nat.pow_succ]; omega)]; rfl
    · rw [inclF_right H h2 hi, List.length_append, inclF_pow H h _ _ (by rw [List.length_drop, ← e, hl, Nat.pow_succ]; omega)]; rfl
theorem inclF_sizesP (H : ByteArray → ByteArray) (hH : ∀ s, (H s).size = 32) : ∀ (n : Nat) (l : List ByteArray) (i : Nat), l.length = n → ∀ b ∈ inclF H l i, b.size = 32 := by
  intro n
  induction n using Nat.strongRecOn with
  | _ n ih =>
  intro l i hl b hb
  by_cases h2 : 2 ≤ l.length
  · have hk0 := halfN_pos l.length
    have hk1 := halfN_lt h2
    by_cases hik : i < halfN l.length
    · rw [inclF_left H h2 hik] at hb
      rcases List.mem_append.1 hb with hb | hb
      · exact ih (halfN l.length) (by omega) (l.take (halfN l.length)) i (by simp; omega) b hb
      · simp at hb; rw [hb]; exact rootF_size H hH _
    · rw [inclF_right H h2 hik] at hb
      rcases List.mem_append.1 hb with hb | hb
      · exact ih (l.length - halfN l.length) (by omega) (l.drop (halfN l.length)) (i - halfN l.length) (by simp) b hb
      · simp at hb; rw [hb]; exact rootF_size H hH _
  · rw [inclF_one H (by omega)] at hb; cases hb
/-- The values that a signature shows. -/
def valuesF (H : ByteArray → ByteArray) (seed : ByteArray) (k : Nat) (msg : ByteArray) : ByteArray := chainsT H (beginF H seed k) (fun c => dig (H msg) c) 67
/-- The bytes of a signature. -/
def sigN (H : ByteArray → ByteArray) (seed : ByteArray) (h k : Nat) (msg : ByteArray) : List Int := ([(k : Int) % 256] ++ numsOf (valuesF H seed k msg)) ++ joinN (inclF H (leavesF H seed (2 ^ h)) k)
def sigF (H : ByteArray → ByteArray) (seed : ByteArray) (h k : Nat) (msg : ByteArray) : ByteArray := strOfNums (sigN H seed h k msg)
theorem join_all : ∀ (ls : List ByteArray), (∀ b ∈ ls, b.size = 32) → (joinN ls).length = 32 * ls.length
  | [], _ => rfl
  | s :: r, h => by
    have e : joinN (s :: r) = numsOf s ++ joinN r := by simp [joinN]
    rw [e, List.length_append, numsOf_length, h s (List.mem_cons_self ..), join_all r (fun b hb => h b (List.mem_cons_of_mem _ hb)), List.length_cons]; omega

set_option maxRecDepth 10000 in
set_option maxHeartbeats 2000000 in
theorem psign_any (K : Nat → Int) (seed : ByteArray) (h k : Nat) (msg : ByteArray) (w : World) (hs : seed.size = 32) (hh : h ≤ 5) (hk : k < 2 ^ h) (hm : msg.size ≤ 140737488355000) (T : Tab K w) :
    Calls Tryz.prog 127 #[.string seed, .int .i64 h, .int .i64 k, .string msg] w fun e w' => e = .returned (.tuple #[.string (sigF (sumOf K) seed h k msg), .nilIface]) ∧ Below w.heap.size w w' := by
  have hmf : ∀ (fn : Fn) (first cap : Array Value) (w : World), (Instr.makeFunc fn first cap).run Tryz.prog w = .ok (.func fn first cap) w := fun _ _ _ _ => rfl
  have hN32 : 2 ^ h ≤ 32 := Nat.pow_le_pow_right (n := 2) (by omega) hh
  have hf := fits_any seed h w (by omega)
  rw [show decide (seed.size = 32 ∧ 0 ≤ (h : Int) ∧ (h : Int) ≤ 5) = true from decide_eq_true ⟨hs, by omega, by omega⟩] at hf
  have HL : Hid (∀ W, Below w.heap.size w W → Calls Tryz.prog 172 #[.string seed, .int .i64 h] W fun e w' => e = .returned (.slice (some ⟨W.heap.size, 0, none⟩) (2 ^ h) (2 ^ h)) ∧ PartAt W.heap.size (2 ^ h) (2 ^ h) (leafF (sumOf K) seed) W w') := fun W hb => rowLeaves_any K seed h W hh (by omega) (T.below hb)
  have HI : Hid (∀ (B : Nat) W0 W, Below w.heap.size w W → PartAt B (2 ^ h) (2 ^ h) (leafF (sumOf K) seed) W0 W → Calls Tryz.prog 119 #[.slice (some ⟨B, 0, none⟩) (2 ^ h) (2 ^ h), .int .i64 k] W fun e w' => ∃ ao cap, e = .returned (.tuple #[.slice ao (inclF (sumOf K) (leavesF (sumOf K) seed (2 ^ h)) k).length cap, .nilIface]) ∧ w'.ownsRow W.heap.size 9 1 (.slice ao (inclF (sumOf K) (leavesF (sumOf K) seed (2 ^ h)) k).length cap) (inclF (sumOf K) (leavesF (sumOf K) seed (2 ^ h)) k).length ((inclF (sumOf K) (leavesF (sumOf K) seed (2 ^ h)) k).map .string) ∧ Below W.heap.size W w') := fun B W0 W hb HP =>
    tincl_any K (leavesF (sumOf K) seed (2 ^ h)) _ k W (by rw [leavesF_len]; exact hk) (by rw [leavesF_len]; omega) HP.leaf (leavesF_small K seed _) (T.below hb)
  have HOF : Hid (∀ W, Below w.heap.size w W → Calls Tryz.prog 54 #[.slice (some ⟨W.heap.size, 0, none⟩) 1 1] (W.alloc (.cells #[.string msg] 9)) fun e w' => e = .returned (.agg (hV (sumOf K msg)).toArray) ∧ Below (W.heap.size + 1) (W.alloc (.cells #[.string msg] 9)) w') := fun W hb => of_msg K msg W hm (T.below hb)
  have HDG : Hid (∀ W, Calls Tryz.prog 173 #[.agg (hV (sumOf K msg)).toArray] W fun e w' => e = .returned (.agg (digV (sumOf K msg)).toArray) ∧ Below W.heap.size W w') := fun W => digits_any (sumOf K msg) (sumOf_size K msg) W
  have HAL : Hid (∀ W W1 (bd : Nat), Below w.heap.size w W → W1.cell? ⟨W.heap.size, 0, none⟩ = some (.string seed) → W1.cell? ⟨W.heap.size + 1, 0, none⟩ = some (.int .i64 k) → Below W.heap.size W W1 → W1.rangeAt bd 0 (digV (sumOf K msg)) → bd < W1.heap.size → Calls Tryz.prog 174 #[.func (.func 216) #[] #[.pointer (some ⟨W.heap.size, 0, none⟩), .pointer (some ⟨W.heap.size + 1, 0, none⟩)], .func (.func 176) #[] #[.pointer (some ⟨bd, 0, none⟩)]] W1 (strPost1 (valuesF (sumOf K) seed k msg) W1)) := fun W W1 bd hb c1 c2 hb1 hr hbd => by
    have T1 := T.below (hb.trans (hb1.mono hb.size))
    have l1 := World.block_lt_of_cell? W1 _ c1
    have l2 := World.block_lt_of_cell? W1 _ c2
    exact along_sign K (beginF (sumOf K) seed k) (fun c => dig (sumOf K msg) c) W.heap.size (W.heap.size + 1) bd W1 T1 (fun c => sumOf_size K _) (fun c => dig_le _ c)
      (fun W' hb' c hc => begin1_any K seed k c W.heap.size (W.heap.size + 1) W' (by omega) ((hb'.cell (p := ⟨W.heap.size, 0, none⟩) l1).trans c1) ((hb'.cell (p := ⟨W.heap.size + 1, 0, none⟩) l2).trans c2) (T1.below hb'))
      (fun W' hb' c hc => sign1_any (sumOf K msg) c bd W' hc (fun j u hu => (hb'.cell (p := ⟨bd, 0 + j, none⟩) hbd).trans (hr j u hu)))
  have HF32 : Hid (∀ b ∈ inclF (sumOf K) (leavesF (sumOf K) seed (2 ^ h)) k, b.size = 32) := inclF_sizesP _ (sumOf_size K) _ _ k rfl
  have HFL : (inclF (sumOf K) (leavesF (sumOf K) seed (2 ^ h)) k).length = h := inclF_pow _ h _ k (leavesF_len _ _ _)
  have HVS : (valuesF (sumOf K) seed k msg).size = 2144 := chainsT_size (sumOf K) (sumOf_size K) (beginF (sumOf K) seed k) (fun c => dig (sumOf K msg) c) (fun c => sumOf_size K _) 67
  have idv := digV_info (sumOf K msg)
  have odv := digV_one (sumOf K msg)
  have ldv := digV_len (sumOf K msg)
  unfold sigF sigN
  generalize valuesF (sumOf K) seed k msg = V at *
  generalize digV (sumOf K msg) = D at *
  generalize sumOf K msg = hm0 at *
  generalize inclF (sumOf K) (leavesF (sumOf K) seed (2 ^ h)) k = F at *
  generalize leafF (sumOf K) seed = LF at *
  clear T
  rw [HFL] at HI
  have HFL2 : Hid (F.length = h) := HFL
  clear HFL
  have hszz := fun W => size_any' h W (by omega)
  obtain ⟨M, hM⟩ : ∃ M : Nat, M = 2145 + 32 * h := ⟨_, rfl⟩
  rw [← hM] at hszz
  obtain ⟨R, hR⟩ : ∃ R, R = strOfNums ([(k : Int) % 256] ++ numsOf V ++ joinN F) := ⟨_, rfl⟩
  rw [← hR]
  have HR : Hid (R = strOfNums ([(k : Int) % 256] ++ numsOf V ++ joinN F)) := hR
  have HM : Hid (M = 2145 + 32 * h) := hM
  have hM2 : M ≤ 3000 := by omega
  clear hR hM hk hN32
  generalize 2 ^ h = N at *
  obtain ⟨i0, hi, hz, hsz, hby⟩ := info_u8
  go_enter Tryz.func127, Tryz.ntmps127
  go_wp2_with fail
  refine hf.mono ?_
  rintro e w1 ⟨rfl, hb1⟩
  clear hf
  go_wp2_with fail
  refine (HL.out w1 hb1).mono ?_
  rintro e w2 ⟨rfl, hp2⟩
  have hb2 : Below w.heap.size w w2 := hb1.trans (hp2.b.mono hb1.size)
  go_wp2_with fail
  refine (HI.out w1.heap.size w1 w2 hb2 hp2).mono ?_
  rintro e w3 ⟨ao, cp, rfl, ho3, hb3⟩
  have hb23 : Below w.heap.size w w3 := hb2.trans (hb3.mono hb2.size)
  have HO3 : Hid (LeafAt w3 (.slice ao h cp) F) := leaf_own (L := F) (by rw [HFL2.out]; exact ho3)
  clear hp2 ho3 hb3 hb2 hb1
  have hof := HOF.out w3 hb23
  go_wp2_with fail
  refine hof.mono ?_
  rintro e w4 ⟨rfl, hb4⟩
  clear hof
  have hb34 : Below w3.heap.size w3 w4 := ((Below.refl _ _).alloc (Nat.le_refl _) _).trans (hb4.mono (by omega))
  clear hb4
  go_wp2_with fail
  refine (HDG.out w4).mono ?_
  rintro e w5 ⟨rfl, hb5⟩
  have hb35 : Below w3.heap.size w3 w5 := hb34.trans (hb5.mono hb34.size)
  have ht5 : (w5.alloc (.cells z67.toArray 180)).there w5.heap.size 0 D.length := by rw [ldv]; exact there_z67 w5
  clear hb34 hb5
  go_wp2_with (first | (refine wpList_alloc_of rfl 180 rfl z67.toArray alloc_67 ?_) | (refine wpList_store_abs rfl 180 _ _ rfl w5.heap.size 0 D rfl rfl ht5 idv odv ?_; intro w6 _hw6 hr6 _ht6 hb6; clear _hw6 _ht6))
  have hb56 : Below w5.heap.size w5 w6 := ((Below.refl _ _).alloc (Nat.le_refl _) _).trans (hb6 _ (Nat.le_refl _))
  have hb36 : Below w3.heap.size w3 w6 := hb35.trans (hb56.mono hb35.size)
  have hq6 : w5.heap.size < w6.heap.size := by have := (hb6 _ (Nat.le_refl _)).size; simp at this; omega
  clear hb6 hb56 ht5 hb35
  refine (beginnings_any seed k w6).mono ?_
  rintro e w7 ⟨rfl, c1, c2, hb7⟩
  have hb06 : Below w.heap.size w w6 := hb23.trans (hb36.mono hb23.size)
  have hal := HAL.out w6 w7 w5.heap.size hb06 c1 c2 hb7 (fun j u hu => (hb7.cell (p := ⟨w5.heap.size, 0 + j, none⟩) hq6).trans (hr6 j u hu)) (Nat.lt_of_lt_of_le hq6 hb7.size)
  have hb37 : Below w3.heap.size w3 w7 := hb36.trans (hb7.mono hb36.size)
  clear c1 c2 hb7 hr6 hb36 hb06
  go_wp2_with fail
  refine hal.mono ?_
  rintro e w8 ⟨rfl, hb8⟩
  clear hal
  have hb38 : Below w3.heap.size w3 w8 := hb37.trans (hb8.mono hb37.size)
  have HO8 : Hid (LeafAt w8 (.slice ao h cp) F) := HO3.out.below hb38
  have hb08 : Below w.heap.size w w8 := hb23.trans (hb38.mono hb23.size)
  clear hb8 hb38 hb37 hb23
  go_wp2_with fail
  refine (hszz w8).mono ?_
  rintro e w8' ⟨rfl, rfl⟩
  clear hszz
  obtain ⟨wM, hmk0, hoM, hgM⟩ := run_make_own (P := Tryz.prog) w8' w8'.heap.size 42 5 i0 (.int .u8 0) 1 Tryz.underlying42 hi hz hsz .i64 .i64 M (by rw [hby]; omega) (by unfold maxLen; omega) (Nat.le_refl _)
  have hmk : (Instr.makeSlice 42 (.int .i64 0) (.int .i64 (M : Int))).run Tryz.prog w8' = .ok (.slice (some ⟨w8'.heap.size, 0, none⟩) 0 M) wM := hmk0
  have hbM : Below w8'.heap.size w8' wM := (Below.refl _ _).grown hgM (Nat.le_refl _) (fun g e => by cases e)
  have hzM : w8'.heap.size < wM.heap.size := (hoM.lt w8'.heap.size rfl).2
  clear hmk0 hgM
  have ho1 : (wM.alloc (.cells #[.int .u8 ((k : Int) % 256)] 5)).ownsRow w8'.heap.size 5 1 (.slice (some ⟨w8'.heap.size, 0, none⟩) 0 M) 0 [] := own_below' hoM ((Below.refl _ _).alloc (Nat.le_refl _) _)
  have hnews : ∀ j u, ([.int .u8 ((k : Int) % 256)] : List Value)[j]? = some u → (wM.alloc (.cells #[.int .u8 ((k : Int) % 256)] 5)).cell? ((⟨wM.heap.size, 0, none⟩ : Addr).add j) = some u := fun j u hu => by
    rw [Addr.add_mid, World.cell?_alloc_at _ _ _ _ rfl]
    simpa using hu
  have hbA : Below w8'.heap.size w8' (wM.alloc (.cells #[.int .u8 ((k : Int) % 256)] 5)) := hbM.alloc (Nat.le_of_lt hzM) _
  have HBA : Hid (Below w8'.heap.size w8' (wM.alloc (.cells #[.int .u8 ((k : Int) % 256)] 5))) := hbA
  have hsA : w8'.heap.size ≤ wM.heap.size + 1 := by omega
  have hsA' : w8'.heap.size ≤ (wM.alloc (.cells #[.int .u8 ((k : Int) % 256)] 5)).heap.size := hbA.size
  clear hbA hoM hbM
  go_wp2_with (first | (refine wpList_append_lies _ rfl _ _ 42 rfl w8'.heap.size 5 i0 _ 1 1 Tryz.underlying42 hi hz hsz hby rfl (by decide) (.slice (some ⟨w8'.heap.size, 0, none⟩) 0 M) 0 [] rfl ho1 ⟨wM.heap.size, 0, none⟩ 1 1 [.int .u8 ((k : Int) % 256)] rfl rfl hnews (by simp [Value.oneCell']) (by decide) (by unfold maxLen; omega) (by omega) hsA' _ rfl ?_; intro g9 cap9 w9 ho9 hgr9 _hat9 hlt9; have HB9 : Hid (Below w8'.heap.size w8' w9) := HBA.out.trans ((Below.refl _ _).grown hgr9 hsA' (fun g e => by simp [Value.ownBlock] at e; omega)); clear hgr9 _hat9 hnews ho1) | (refine Lib.wpList_append_own_string _ rfl _ _ 42 9 rfl w8'.heap.size 5 i0 Tryz.underlying42 Tryz.underlying9 hi hz hsz hby (.slice (some ⟨g9, 0, none⟩) 1 cap9) 1 _ rfl ho9 V rfl (by unfold maxLen; omega) (by omega) HB9.out.size ?_; intro v10 w10 ho10 hgr10 _; obtain ⟨g10, cap10, hv10, _⟩ := own_open ho10 (by omega)))
  have HB10 : Hid (Below w8'.heap.size w8' w10) := HB9.out.trans ((Below.refl _ _).grown hgr10 HB9.out.size (fun g e => (ho9.lt g e).1))
  have HO10 : Hid (w10.ownsRow w8'.heap.size 5 1 (.slice (some ⟨g10, 0, none⟩) 2145 cap10) 2145 (bytesV ([(k : Int) % 256] ++ numsOf V))) := by
    rw [hv10, HVS, strCells_nums] at ho10
    rw [bytesV_append]
    exact ho10
  rename_i hrt hxx
  clear hv10 ho10 hgr10 ho9 hlt9 HB9 HBA hsA hsA'
  go_loopw [14, 55] (fun v i wr => ∃ (q : Nat) (u : Value), u = v ∧ q ≤ h ∧ i = .int .i64 q ∧ Hid (wr.ownsRow w8'.heap.size 5 1 u (2145 + 32 * q) (bytesV ([(k : Int) % 256] ++ numsOf V ++ joinN (F.take q))) ∧ Below w8'.heap.size w8' wr)) (fun _ i _ => h - (intOf i).toNat)
  case atStart => exact ⟨0, _, rfl, Nat.zero_le _, rfl, by simpa [joinN] using HO10.out, HB10.out⟩
  case round =>
    obtain ⟨q, v, hvu, hq, rfl, hI⟩ := hrel
    subst hvu
    by_cases hlt : q < h
    · have q1 : (q : Int) < (h : Int) := by omega
      have q0 : (0 : Int) ≤ (q : Int) := by omega
      have hql : q < F.length := by have := HFL2.out; omega
      obtain ⟨s, es⟩ : ∃ s, s = F[q]'hql := ⟨_, rfl⟩
      have s32 : s.size = 32 := by rw [es]; exact HF32.out _ (List.getElem_mem hql)
      obtain ⟨gp, off, ea, ca⟩ : ∃ g off, ao = some ⟨g, off, none⟩ ∧ wr.cell? ⟨g, off + q, none⟩ = some (.string s) := by
        rcases HO8.out.below hI.out.2 with ⟨e, _⟩ | ⟨g, off, cap', e, _, hh'⟩
        · rw [e] at hql; simp at hql
        · injection e with e1 _ _
          exact ⟨g, off, e1, by rw [hh' q hql, es]⟩
      subst ea
      have HE : Hid (joinN (F.take (q + 1)) = joinN (F.take q) ++ numsOf s) := by
        show _ = _
        rw [join_snoc F q hql, es, List.getD, List.getElem?_eq_getElem hql]; rfl
      clear es
      have hoq := hI.out.1
      have hsq := hI.out.2.size
      go_wp2_with (first | (refine Lib.wpList_append_own_string _ rfl _ _ 42 9 rfl w8'.heap.size 5 i0 Tryz.underlying42 Tryz.underlying9 hi hz hsz hby v (2145 + 32 * q) _ rfl hoq s rfl (by unfold maxLen; omega) (by omega) hsq ?_; intro v11 w11 ho11 hgr11 _))
      refine ⟨⟨q + 1, _, rfl, by omega, by go_num, ?_, ?_⟩, ?_⟩
      · rw [s32, strCells_nums, ← bytesV_append] at ho11
        rw [HE.out, ← List.append_assoc]
        exact ho11
      · exact hI.out.2.trans ((Below.refl _ _).grown hgr11 hsq (fun g e => (hoq.lt g e).1))
      · simp [intOf]; omega
    · have q1 : ¬ (q : Int) < (h : Int) := by omega
      obtain rfl : q = h := by omega
      have hrow := hI.out.1
      rw [show F.take q = F from List.take_of_length_le (by rw [HFL2.out]; exact Nat.le_refl _)] at hrow
      obtain ⟨g, cap, hv, hg1, hg2, hr⟩ := own_open hrow (by omega)
      subst hv
      have hcv := convert_range (cap := cap) (ns := [(k : Int) % 256] ++ numsOf V ++ joinN F) (2145 + 32 * q) (by rw [List.length_append, List.length_append, numsOf_length, HVS, join_all F HF32.out, HFL2.out]; rfl) hr
      rw [← HR.out] at hcv
      have hbE : Below w.heap.size w wr := hb08.trans (hI.out.2.mono hb08.size)
      clear hrow hr
      go_wp2_with fail
      go_ret2
      exact ⟨rfl, hbE⟩
end Go.Proofs.YtijdnpoenpjnlaaGreatDoor
set_option linter.unusedVariables false
set_option linter.unusedSimpArgs false
namespace Go.Proofs.YtijdnpoenpjnlaaGreatDoor
open Go.RowKit

/-- What the program's Sign answers. -/
def signV (K : Nat → Int) (seed : ByteArray) (h k : Int) (msg : ByteArray) : Value :=
  if seed.size = 32 ∧ 0 ≤ h ∧ h ≤ 5 then
    if 0 ≤ k ∧ k < ((2 ^ h.toNat : Nat) : Int) then .tuple #[.string (sigF (sumOf K) seed h.toNat k.toNat msg), .nilIface] else .tuple #[.string ⟨#[]⟩, errIx]
  else .tuple #[.string ⟨#[]⟩, errSd]
set_option maxRecDepth 10000 in
set_option maxHeartbeats 400000 in
theorem psign_seed (seed : ByteArray) (h k : Int) (msg : ByteArray) (w : World) (hs : seed.size ≤ 140737488355000) (hc : ¬ (seed.size = 32 ∧ 0 ≤ h ∧ h ≤ 5)) :
    Calls Tryz.prog 127 #[.string seed, .int .i64 h, .int .i64 k, .string msg] w fun e w' => e = .returned (.tuple #[.string ⟨#[]⟩, errSd]) ∧ Below w.heap.size w w' := by
  have hf := fits_any seed h w hs
  rw [show decide (seed.size = 32 ∧ 0 ≤ h ∧ h ≤ 5) = false from decide_eq_false hc] at hf
  clear hc hs
  go_enter Tryz.func127, Tryz.ntmps127
  go_wp2_with fail
  refine hf.mono ?_
  rintro e w1 ⟨rfl, hb1⟩
  clear hf
  go_wp2_with fail
  go_ret2
  exact ⟨rfl, hb1⟩
set_option maxRecDepth 10000 in
set_option maxHeartbeats 400000 in
theorem psign_ix (K : Nat → Int) (seed : ByteArray) (h : Nat) (k : Int) (msg : ByteArray) (w : World) (hs : seed.size = 32) (hh : h ≤ 5) (hk : k < 0 ∨ ((2 ^ h : Nat) : Int) ≤ k) (T : Tab K w) :
    Calls Tryz.prog 127 #[.string seed, .int .i64 h, .int .i64 k, .string msg] w fun e w' => e = .returned (.tuple #[.string ⟨#[]⟩, errIx]) ∧ Below w.heap.size w w' := by
  have hf := fits_any seed h w (by omega)
  rw [show decide (seed.size = 32 ∧ 0 ≤ (h : Int) ∧ (h : Int) ≤ 5) = true from decide_eq_true ⟨hs, by omega, by omega⟩] at hf
  have HL : Hid (∀ W, Below w.heap.size w W → Calls Tryz.prog 172 #[.string seed, .int .i64 h] W fun e w' => e = .returned (.slice (some ⟨W.heap.size, 0, none⟩) (2 ^ h) (2 ^ h)) ∧ PartAt W.heap.size (2 ^ h) (2 ^ h) (leafF (sumOf K) seed) W w') := fun W hb => rowLeaves_any K seed h W hh (by omega) (T.below hb)
  have HI : Hid (∀ (B : Nat) W, Calls Tryz.prog 119 #[.slice (some ⟨B, 0, none⟩) (2 ^ h) (2 ^ h), .int .i64 k] W fun e w' => e = .returned (.tuple #[.slice none 0 0, .iface 138 (.int .i64 10)]) ∧ w' = W) := fun B W => tincl_err _ _ _ k W hk
  rw [show errIx = .iface 138 (.int .i64 10) from rfl]
  clear T hk
  generalize leafF (sumOf K) seed = LF at *
  generalize 2 ^ h = N at *
  go_enter Tryz.func127, Tryz.ntmps127
  go_wp2_with fail
  refine hf.mono ?_
  rintro e w1 ⟨rfl, hb1⟩
  clear hf
  go_wp2_with fail
  refine (HL.out w1 hb1).mono ?_
  rintro e w2 ⟨rfl, hp2⟩
  have hb2 : Below w.heap.size w w2 := hb1.trans (hp2.b.mono hb1.size)
  clear hp2
  go_wp2_with fail
  refine (HI.out w1.heap.size w2).mono ?_
  rintro e w3 ⟨rfl, rfl⟩
  go_wp2_with fail
  go_ret2
  exact ⟨rfl, hb2⟩
set_option maxRecDepth 10000 in
set_option maxHeartbeats 400000 in
theorem asign_any (K : Nat → Int) (seed : ByteArray) (h k : Int) (msg : ByteArray) (w : World) (hs : seed.size ≤ 140737488355000) (hm : msg.size ≤ 140737488355000) (T : Tab K w) :
    Calls Tryz.prog 81 #[.string seed, .int .i64 h, .int .i64 k, .string msg] w fun e w' => e = .returned (signV K seed h k msg) ∧ Below w.heap.size w w' := by
  have hp : Calls Tryz.prog 127 #[.string seed, .int .i64 h, .int .i64 k, .string msg] w fun e w' => e = .returned (signV K seed h k msg) ∧ Below w.heap.size w w' := by
    by_cases hc : seed.size = 32 ∧ 0 ≤ h ∧ h ≤ 5
    · obtain ⟨n, rfl⟩ : ∃ n : Nat, h = n := ⟨h.toNat, by omega⟩
      by_cases hk : 0 ≤ k ∧ k < ((2 ^ n : Nat) : Int)
      · obtain ⟨i, rfl⟩ : ∃ i : Nat, k = i := ⟨k.toNat, by omega⟩
        rw [show signV K seed (n : Int) (i : Int) msg = .tuple #[.string (sigF (sumOf K) seed n i msg), .nilIface] by unfold signV; rw [if_pos hc, if_pos (by simpa using hk)]; simp]
        exact psign_any K seed n i msg w hc.1 (by omega) (by have := hk.2; omega) hm T
      · rw [show signV K seed (n : Int) k msg = .tuple #[.string ⟨#[]⟩, errIx] by unfold signV; rw [if_pos hc, if_neg (by simpa using hk)]]
        exact psign_ix K seed n k msg w hc.1 (by omega) (by omega) T
    · rw [show signV K seed h k msg = .tuple #[.string ⟨#[]⟩, errSd] by unfold signV; rw [if_neg hc]]
      exact psign_seed seed h k msg w hs hc
  obtain ⟨s, ev, hv⟩ : ∃ s ev, signV K seed h k msg = .tuple #[.string s, ev] := by unfold signV; split; split <;> exact ⟨_, _, rfl⟩; exact ⟨_, _, rfl⟩
  rw [hv] at hp ⊢
  clear hv T hs hm
  go_enter Tryz.func81, Tryz.ntmps81
  go_wp2_with fail
  refine hp.mono ?_
  rintro e w1 ⟨rfl, hb1⟩
  clear hp
  go_wp2_with fail
  go_ret2
  exact ⟨rfl, hb1⟩
end Go.Proofs.YtijdnpoenpjnlaaGreatDoor
set_option linter.unusedVariables false
set_option linter.unusedSimpArgs false
namespace Go.Proofs.YtijdnpoenpjnlaaGreatDoor
open Go.RowKit

/-- The number in a signature's first byte. -/
def keyN (sig : ByteArray) : Nat := (sig.data.getD 0 0).toNat
/-- The hashes behind a signature's values. -/
def besideF (h : Nat) (sig : ByteArray) : List ByteArray := (List.range h).map (pieceF (sig.extract 2145 sig.size))
theorem finT_size (K : Nat → Int) (V msg : ByteArray) (hV1 : V.size = 2144) : (finT (sumOf K) V msg).size = 2144 :=
  chainsT_size (sumOf K) (sumOf_size K) (finB V) (fun c => 15 - dig (sumOf K msg) c) (fun c => by unfold finB; split; exact pieceF_size V c (by omega); rfl) 67
set_option maxRecDepth 10000 in
set_option maxHeartbeats 1000000 in
theorem pcheck_core (key : ByteArray) (h : Nat) (msg sig L : ByteArray) (ev : Value) (ok : Bool) (w : World) (hh : h ≤ 5) (hk : key.size = 32) (hsig : sig.size = 2145 + 32 * h)
    (hev : ok = true ∧ ev = .nilIface ∨ ok = false ∧ ∃ n, ev = .iface 138 (.int .i64 n))
    (hF : ∀ W, Below w.heap.size w W → Calls Tryz.prog 178 #[.string (sig.extract 1 2145), .string msg] W (strPost1 L W))
    (hC : ∀ (B : Nat) W0 W, Below w.heap.size w W → PartAt B h h (pieceF (sig.extract 2145 sig.size)) W0 W → Calls Tryz.prog 120 #[.string L, .int .i64 (keyN sig), .int .i64 ((2 ^ h : Nat) : Int), .string key, .slice (some ⟨B, 0, none⟩) h h] W fun e w' => e = .returned ev ∧ Below W.heap.size W w') :
    Calls Tryz.prog 131 #[.string key, .int .i64 h, .string msg, .string sig] w fun e w' => e = .returned (if ok then .tuple #[.int .i64 (keyN sig), .nilIface] else .tuple #[.int .i64 0, errSg]) ∧ Below w.heap.size w w' := by
  have hf := fits_any key h w (by omega)
  rw [show decide (key.size = 32 ∧ 0 ≤ (h : Int) ∧ (h : Int) ≤ 5) = true from decide_eq_true ⟨hk, by omega, by omega⟩] at hf
  have hsz := fun W => size_any' h W (by omega)
  rw [← hsig] at hsz
  have HSZ : Hid (∀ W, Calls Tryz.prog 177 #[.int .i64 h] W fun e w' => e = .returned (.int .i64 ((sig.size : Nat) : Int)) ∧ w' = W) := hsz
  have HKC : Hid (∀ W, Calls Tryz.prog 179 #[.int .i64 h] W fun e w' => e = .returned (.int .i64 ((2 ^ h : Nat) : Int)) ∧ w' = W) := fun W => keyCount_any h W (by omega)
  have HCUT : Hid (∀ W, Calls Tryz.prog 180 #[.string (sig.extract 2145 sig.size)] W fun e w' => e = .returned (.slice (some ⟨W.heap.size, 0, none⟩) h h) ∧ PartAt W.heap.size h h (pieceF (sig.extract 2145 sig.size)) W w') := fun W => cutS_any _ h W (by omega) (by rw [ByteArray.size_extract]; omega)
  have HF : Hid (∀ W, Below w.heap.size w W → Calls Tryz.prog 178 #[.string (sig.extract 1 2145), .string msg] W (strPost1 L W)) := hF
  have HC : Hid (∀ (B : Nat) W0 W, Below w.heap.size w W → PartAt B h h (pieceF (sig.extract 2145 sig.size)) W0 W → Calls Tryz.prog 120 #[.string L, .int .i64 (keyN sig), .int .i64 ((2 ^ h : Nat) : Int), .string key, .slice (some ⟨B, 0, none⟩) h h] W fun e w' => e = .returned ev ∧ Below W.heap.size W w') := hC
  clear hsz hF hC
  have b0 : (0 : Int) < (sig.size : Int) := by omega
  have b1 : (2145 : Int) ≤ (sig.size : Int) := by omega
  have hpos : 0 < sig.size := by omega
  have hs1 : ∀ W, (Instr.slice 9 (.string sig) (some (.int .i64 1)) (some (.int .i64 2145)) none).run Tryz.prog W = .ok (.string (sig.extract 1 2145)) W := fun W => run_cut_str sig 1 2145 W (by omega) (by omega)
  have hw : wrap64 ((sig[0]'hpos).toNat : Int) = ((keyN sig : Nat) : Int) := by
    have e : (sig[0]'hpos).toNat = keyN sig := by
      unfold keyN; rw [Array.getD_eq_getD_getElem?, Array.getElem?_eq_getElem (by exact hpos)]; rfl
    rw [e]
    have : keyN sig < 256 := by unfold keyN; exact UInt8.toNat_lt _
    unfold wrap64; omega
  have HS : Hid (sig.size = 2145 + 32 * h) := hsig
  clear hsig
  generalize 2 ^ h = N at *
  generalize keyN sig = kn at *
  rcases hev with ⟨rfl, rfl⟩ | ⟨rfl, n, rfl⟩
  all_goals
    go_enter Tryz.func131, Tryz.ntmps131
    go_wp2_with fail
    refine hf.mono ?_
    rintro e w1 ⟨rfl, hb1⟩
    clear hf
    go_wp2_with fail
    refine (HSZ.out w1).mono ?_
    rintro e w1' ⟨rfl, rfl⟩
    go_wp2_with fail
    refine (HF.out w1' hb1).mono ?_
    rintro e w2 ⟨rfl, hb2⟩
    have hB2 : Below w.heap.size w w2 := hb1.trans (hb2.mono hb1.size)
    clear hb2
    go_wp2_with fail
    have J0 : Below w.heap.size w w2.drew := hB2.drew
    refine wp_region_noPanic ?_
    refine wp_region_held_drew (S := fun W => Below w.heap.size w W) (by kernel_rfl) J0 (fun _ => ?_)
    refine wpAnyH_take (i := 0) (v := ?_) rfl (by kernel_rfl) (by kernel_rfl) (by kernel_rfl) (fun _ _ _ h => h) (Or.inl ⟨by rfl, ?_⟩) J0 ?_
    rotate_left 1
    · intro w hSw; clear hSw; go_simp; try with_reducible rfl
    simp only [List.getElem_toArray, List.getElem_cons_zero, List.getElem_cons_succ, Act.put, List.setIfInBounds_toArray, List.set_cons_zero, List.set_cons_succ]
    refine wpAnyH_take (i := 1) (v := ?_) rfl (by kernel_rfl) (by kernel_rfl) (by kernel_rfl) (fun _ _ _ h => h) (Or.inl ⟨by rfl, ?_⟩) J0 ?_
    rotate_left 1
    · intro w hSw; clear hSw; go_simp; try with_reducible rfl
    simp only [List.getElem_toArray, List.getElem_cons_zero, List.getElem_cons_succ, Act.put, List.setIfInBounds_toArray, List.set_cons_zero, List.set_cons_succ]
    refine wpAnyH_take (i := 2) (v := ?_) rfl (by kernel_rfl) (by kernel_rfl) (by kernel_rfl) (fun _ _ _ h => h) (Or.inl ⟨by rfl, ?_⟩) J0 ?_
    rotate_left 1
    · intro w hSw; clear hSw; go_simp; try with_reducible rfl
    simp only [List.getElem_toArray, List.getElem_cons_zero, List.getElem_cons_succ, Act.put, List.setIfInBounds_toArray, List.set_cons_zero, List.set_cons_succ]
    refine wpAnyH_take (i := 4) (v := ?_) rfl (by kernel_rfl) (by kernel_rfl) (by kernel_rfl) (fun _ _ _ h => h) (Or.inl ⟨by rfl, ?_⟩) J0 ?_
    rotate_left 1
    · intro w hSw; clear hSw; go_simp; try with_reducible rfl
    simp only [List.getElem_toArray, List.getElem_cons_zero, List.getElem_cons_succ, Act.put, List.setIfInBounds_toArray, List.set_cons_zero, List.set_cons_succ]
    refine wpAnyH_take (i := 5) (v := ?_) rfl (by kernel_rfl) (by kernel_rfl) (by kernel_rfl) (fun _ _ _ h => h) (Or.inl ⟨by rfl, ?_⟩) J0 ?_
    rotate_left 1
    · intro w hSw; clear hSw; go_simp; try with_reducible rfl
    simp only [List.getElem_toArray, List.getElem_cons_zero, List.getElem_cons_succ, Act.put, List.setIfInBounds_toArray, List.set_cons_zero, List.set_cons_succ]
    refine wpAnyH_take (i := 6) (v := ?_) rfl (by kernel_rfl) (by kernel_rfl) (by kernel_rfl) (fun _ _ _ h => h) (Or.inl ⟨by rfl, ?_⟩) J0 ?_
    rotate_left 1
    · intro w hSw; clear hSw; go_simp; try with_reducible rfl
    simp only [List.getElem_toArray, List.getElem_cons_zero, List.getElem_cons_succ, Act.put, List.setIfInBounds_toArray, List.set_cons_zero, List.set_cons_succ]
    refine wpAnyH_ready (rs := [3]) (by kernel_rfl) (by simp) ?_
    refine AllReadyH.cons rfl (fun K hK => ?_) AllReadyH.nil
    rw [if_pos (by rfl)]
    go_simp
    refine (HKC.out w2.drew).mono ?_
    rintro e w3 ⟨rfl, hw3⟩
    obtain rfl : w2.drew = w3 := hw3.symm
    refine hK.out _ _ J0 (fun _ => ?_)
    clear hK K
    try simp only [List.getElem_toArray, List.getElem_cons_zero, List.getElem_cons_succ, Act.put, List.setIfInBounds_toArray, List.set_cons_zero, List.set_cons_succ]
    refine wpAnyH_ready (rs := [7]) (by kernel_rfl) (by simp) ?_
    refine AllReadyH.cons rfl (fun K hK => ?_) AllReadyH.nil
    rw [if_pos (by rfl)]
    go_simp
    refine (HCUT.out w2.drew).mono ?_
    rintro e w4 ⟨rfl, hp4⟩
    have J4 : Below w.heap.size w w4 := J0.trans (hp4.b.mono J0.size)
    refine hK.out _ _ J4 (fun _ => ?_)
    clear hK K
    try simp only [List.getElem_toArray, List.getElem_cons_zero, List.getElem_cons_succ, Act.put, List.setIfInBounds_toArray, List.set_cons_zero, List.set_cons_succ]
    refine wpAnyH_ready (rs := [8]) (by kernel_rfl) (by simp) ?_
    refine AllReadyH.cons rfl (fun K hK => ?_) AllReadyH.nil
    rw [if_pos (by rfl)]
    go_simp
    refine (HC.out _ _ w4 J4 hp4).mono ?_
    rintro e w5 ⟨rfl, hb5⟩
    have J5 : Below w.heap.size w w5 := J4.trans (hb5.mono J4.size)
    refine hK.out _ _ J5 (fun _ => ?_)
    clear hK K
    try simp only [List.getElem_toArray, List.getElem_cons_zero, List.getElem_cons_succ, Act.put, List.setIfInBounds_toArray, List.set_cons_zero, List.set_cons_succ]
    refine wpAnyH_take (i := 9) (v := ?_) rfl (by kernel_rfl) (by kernel_rfl) (by kernel_rfl) (fun _ _ _ h => h) (Or.inl ⟨by rfl, ?_⟩) J5 ?_
    rotate_left 1
    · intro w hSw; clear hSw; go_simp; try with_reducible rfl
    simp only [List.getElem_toArray, List.getElem_cons_zero, List.getElem_cons_succ, Act.put, List.setIfInBounds_toArray, List.set_cons_zero, List.set_cons_succ]
    refine ⟨by kernel_rfl, ?_⟩
    refine NoPanic.normal ?_
    go_wp2_with fail
    go_ret2
    exact ⟨rfl, J5⟩

set_option maxRecDepth 10000 in
set_option maxHeartbeats 400000 in
theorem pcheck_seed (key : ByteArray) (h : Int) (msg sig : ByteArray) (w : World) (hs : key.size ≤ 140737488355000) (hc : ¬ (key.size = 32 ∧ 0 ≤ h ∧ h ≤ 5)) :
    Calls Tryz.prog 131 #[.string key, .int .i64 h, .string msg, .string sig] w fun e w' => e = .returned (.tuple #[.int .i64 0, errSd]) ∧ Below w.heap.size w w' := by
  have hf := fits_any key h w hs
  rw [show decide (key.size = 32 ∧ 0 ≤ h ∧ h ≤ 5) = false from decide_eq_false hc] at hf
  clear hc hs
  go_enter Tryz.func131, Tryz.ntmps131
  go_wp2_with fail
  refine hf.mono ?_
  rintro e w1 ⟨rfl, hb1⟩
  clear hf
  go_wp2_with fail
  go_ret2
  exact ⟨rfl, hb1⟩
set_option maxRecDepth 10000 in
set_option maxHeartbeats 400000 in
theorem pcheck_size (key : ByteArray) (h : Nat) (msg sig : ByteArray) (w : World) (hk : key.size = 32) (hh : h ≤ 5) (hc : ¬ sig.size = 2145 + 32 * h) :
    Calls Tryz.prog 131 #[.string key, .int .i64 h, .string msg, .string sig] w fun e w' => e = .returned (.tuple #[.int .i64 0, errSg]) ∧ Below w.heap.size w w' := by
  have hf := fits_any key h w (by omega)
  rw [show decide (key.size = 32 ∧ 0 ≤ (h : Int) ∧ (h : Int) ≤ 5) = true from decide_eq_true ⟨hk, by omega, by omega⟩] at hf
  have hsz := fun W => size_any' h W (by omega)
  obtain ⟨M, hM⟩ : ∃ M : Nat, M = 2145 + 32 * h := ⟨_, rfl⟩
  rw [← hM] at hsz hc
  have hne : ((sig.size : Int) == (M : Int)) = false := by rw [beq_eq_false_iff_ne]; omega
  clear hM hc
  go_enter Tryz.func131, Tryz.ntmps131
  go_wp2_with fail
  refine hf.mono ?_
  rintro e w1 ⟨rfl, hb1⟩
  clear hf
  go_wp2_with fail
  refine (hsz w1).mono ?_
  rintro e w1' ⟨rfl, rfl⟩
  go_wp2_with fail
  go_ret2
  exact ⟨rfl, hb1⟩
/-- Does the program take the signature? -/
def sigOk (K : Nat → Int) (key : ByteArray) (h : Nat) (msg sig : ByteArray) : Bool :=
  decide (sig.size = 2145 + 32 * h) && (decide (keyN sig < 2 ^ h) && inclOk K (finT (sumOf K) (sig.extract 1 2145) msg) (keyN sig) (2 ^ h) key (besideF h sig))
/-- What the program's Check answers. -/
def checkV (K : Nat → Int) (key : ByteArray) (h : Int) (msg sig : ByteArray) : Value :=
  if key.size = 32 ∧ 0 ≤ h ∧ h ≤ 5 then
    if sigOk K key h.toNat msg sig then .tuple #[.int .i64 (keyN sig), .nilIface] else .tuple #[.int .i64 0, errSg]
  else .tuple #[.int .i64 0, errSd]
theorem pcheck_any (K : Nat → Int) (key : ByteArray) (h : Int) (msg sig : ByteArray) (w : World) (hs : key.size ≤ 140737488355000) (hm : msg.size ≤ 140737488355000) (T : Tab K w) :
    Calls Tryz.prog 131 #[.string key, .int .i64 h, .string msg, .string sig] w fun e w' => e = .returned (checkV K key h msg sig) ∧ Below w.heap.size w w' := by
  by_cases hc : key.size = 32 ∧ 0 ≤ h ∧ h ≤ 5
  · obtain ⟨n, rfl⟩ : ∃ n : Nat, h = n := ⟨h.toNat, by omega⟩
    have hn : n ≤ 5 := by omega
    have hN : 2 ^ n ≤ 32 := Nat.pow_le_pow_right (n := 2) (by omega) hn
    have e1 : checkV K key (n : Int) msg sig = if sigOk K key n msg sig then .tuple #[.int .i64 (keyN sig), .nilIface] else .tuple #[.int .i64 0, errSg] := by unfold checkV; rw [if_pos hc]; simp
    rw [e1]
    by_cases hz : sig.size = 2145 + 32 * n
    · have hV : (sig.extract 1 2145).size = 2144 := by rw [ByteArray.size_extract]; omega
      have hF : ∀ W, Below w.heap.size w W → Calls Tryz.prog 178 #[.string (sig.extract 1 2145), .string msg] W (strPost1 (finT (sumOf K) (sig.extract 1 2145) msg) W) := fun W hb => finish_any K _ msg W hV hm (T.below hb)
      by_cases hk : keyN sig < 2 ^ n
      · have e2 : sigOk K key n msg sig = inclOk K (finT (sumOf K) (sig.extract 1 2145) msg) (keyN sig) (2 ^ n) key (besideF n sig) := by unfold sigOk; simp [hz, hk]
        rw [e2]
        refine pcheck_core key n msg sig _ (chkV (inclOk K (finT (sumOf K) (sig.extract 1 2145) msg) (keyN sig) (2 ^ n) key (besideF n sig))) _ w hn hc.1 hz ?_ hF (fun B W0 W hb HP => ?_)
        rotate_left 1
        · have := tchk_any K (finT (sumOf K) (sig.extract 1 2145) msg) key (keyN sig) (2 ^ n) (besideF n sig) (.slice (some ⟨B, 0, none⟩) n n) W (by rw [finT_size K _ _ hV]; omega) hk (by omega) HP.leaf (by unfold besideF; simp; omega) (T.below hb)
          exact this
        · unfold chkV; cases inclOk K (finT (sumOf K) (sig.extract 1 2145) msg) (keyN sig) (2 ^ n) key (besideF n sig)
          · exact Or.inr ⟨rfl, 14, rfl⟩
          · exact Or.inl ⟨rfl, rfl⟩
      · have e2 : sigOk K key n msg sig = false := by unfold sigOk; simp [hk]
        rw [e2]
        exact pcheck_core key n msg sig _ errIx false w hn hc.1 hz (Or.inr ⟨rfl, 10, rfl⟩) hF (fun B W0 W hb HP => tchk_err _ key _ _ _ W (by omega) (by omega))
    · have e2 : sigOk K key n msg sig = false := by unfold sigOk; simp [hz]
      rw [e2]
      exact pcheck_size key n msg sig w hc.1 hn hz
  · rw [show checkV K key h msg sig = .tuple #[.int .i64 0, errSd] by unfold checkV; rw [if_neg hc]]
    exact pcheck_seed key h msg sig w hs hc
set_option maxRecDepth 10000 in
set_option maxHeartbeats 400000 in
theorem acheck_any (K : Nat → Int) (key : ByteArray) (h : Int) (msg sig : ByteArray) (w : World) (hs : key.size ≤ 140737488355000) (hm : msg.size ≤ 140737488355000) (T : Tab K w) :
    Calls Tryz.prog 83 #[.string key, .int .i64 h, .string msg, .string sig] w fun e w' => e = .returned (checkV K key h msg sig) ∧ Below w.heap.size w w' := by
  have hp := pcheck_any K key h msg sig w hs hm T
  obtain ⟨s, ev, hv⟩ : ∃ s ev, checkV K key h msg sig = .tuple #[.int .i64 s, ev] := by unfold checkV; split; split <;> exact ⟨_, _, rfl⟩; exact ⟨_, _, rfl⟩
  rw [hv] at hp ⊢
  clear hv T hs hm
  go_enter Tryz.func83, Tryz.ntmps83
  go_wp2_with fail
  refine hp.mono ?_
  rintro e w1 ⟨rfl, hb1⟩
  clear hp
  go_wp2_with fail
  go_ret2
  exact ⟨rfl, hb1⟩
end Go.Proofs.YtijdnpoenpjnlaaGreatDoor
