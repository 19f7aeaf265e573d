import Derived.Test.YteebdadnfaekmaaDoorMTreeM
set_option linter.unusedVariables false
set_option linter.unusedSimpArgs false
namespace Go.Proofs.YteebdadnfaekmaaDoor
open Go.RowKit

def m2 : ByteArray := ⟨#[2]⟩
def mK : ByteArray := ⟨#[75]⟩
/-- A chain's value, some steps on. -/
def stepF (H : ByteArray → ByteArray) (x : ByteArray) : Nat → ByteArray
  | 0 => x
  | n + 1 => H (m2 ++ stepF H x n)
theorem stepF_size (H : ByteArray → ByteArray) (hH : ∀ s, (H s).size = 32) (x : ByteArray) (hx : x.size = 32) : ∀ n, (stepF H x n).size = 32
  | 0 => hx
  | n + 1 => hH _
/-- The ends of the first k chains, one behind the other. -/
def chainsT (H : ByteArray → ByteArray) (B : Nat → ByteArray) (N : Nat → Nat) : Nat → ByteArray
  | 0 => ⟨#[]⟩
  | k + 1 => chainsT H B N k ++ stepF H (B k) (N k)
theorem chainsT_size (H : ByteArray → ByteArray) (hH : ∀ s, (H s).size = 32) (B : Nat → ByteArray) (N : Nat → Nat) (hB : ∀ c, (B c).size = 32) : ∀ k, (chainsT H B N k).size = 32 * k
  | 0 => rfl
  | k + 1 => by rw [chainsT, ByteArray.size_append, chainsT_size H hH B N hB k, stepF_size H hH _ (hB k)]; omega
/-- One step of a chain. -/
theorem of_step (K : Nat → Int) (x : ByteArray) (W : World) (hx : x.size = 32) (T : Tab K W) :
    Calls Tryd.prog 26 #[.slice (some ⟨W.heap.size, 0, none⟩) 2 2] (W.alloc (.cells #[.string ⟨#[2]⟩, .string x] 9)) fun e w' => e = .returned (.agg (hV (sumOf K (m2 ++ x))).toArray) ∧ Below (W.heap.size + 1) (W.alloc (.cells #[.string ⟨#[2]⟩, .string x] 9)) w' := by
  have T0 := T.below ((Below.refl _ W).alloc (Nat.le_refl _) (.cells #[.string ⟨#[2]⟩, .string x] 9))
  have hof := of_any [m2, x] W.heap.size 2 K (W.alloc (.cells #[.string ⟨#[2]⟩, .string x] 9)) (by simp) (by simp)
    (by simp [joinN, numsOf_length, m2, numsOf]; omega)
    (fun j hj => by
      rw [World.cell?_alloc_at _ _ _ _ (by simp)]
      have hj2 : j < 2 := hj
      obtain rfl | rfl : j = 0 ∨ j = 1 := by omega
      all_goals rfl) T0.lt T0.cells
  rw [hV_sum K (joinN [m2, x]) (m2 ++ x) (by rw [nums_app]; simp [joinN])] at hof
  rw [show [m2, x].length = 2 from rfl] at hof
  simpa using hof
def strPost1 (h : ByteArray) (w : World) (e : Ending) (w' : World) : Prop := e = .returned (.string h) ∧ Below w.heap.size w w'

set_option maxRecDepth 10000 in
set_option maxHeartbeats 2000000 in
theorem along_leaf (K : Nat → Int) (Bf : Nat → ByteArray) (Nf : Nat → Nat) (bs bk : Nat) (w : World) (T : Tab K w) (hb32 : ∀ c, (Bf c).size = 32) (hN : ∀ c, Nf c ≤ 15)
    (hB : ∀ W, Below w.heap.size w W → ∀ c : Nat, c < 67 → Calls Tryd.prog 87 #[.int .i64 c, .pointer (some ⟨bs, 0, none⟩), .pointer (some ⟨bk, 0, none⟩)] W fun e w' => e = .returned (.agg (hV (Bf c)).toArray) ∧ Below W.heap.size W w')
    (hNf : ∀ W, Below w.heap.size w W → ∀ c : Nat, c < 67 → Calls Tryd.prog 86 #[.int .i64 c] W fun e w' => e = .returned (.int .i64 (Nf c : Nat)) ∧ Below W.heap.size W w') :
    Calls Tryd.prog 70 #[.func (.func 87) #[] #[.pointer (some ⟨bs, 0, none⟩), .pointer (some ⟨bk, 0, none⟩)], .func (.func 86) #[] #[]] w (strPost1 (chainsT (sumOf K) Bf Nf 67) w) := by
  have HB : Hid (∀ W, Below w.heap.size w W → ∀ c : Nat, c < 67 → Calls Tryd.prog 87 #[.int .i64 c, .pointer (some ⟨bs, 0, none⟩), .pointer (some ⟨bk, 0, none⟩)] W fun e w' => e = .returned (.agg (hV (Bf c)).toArray) ∧ Below W.heap.size W w') := hB
  have HN : Hid (∀ W, Below w.heap.size w W → ∀ c : Nat, c < 67 → Calls Tryd.prog 86 #[.int .i64 c] W fun e w' => e = .returned (.int .i64 (Nf c : Nat)) ∧ Below W.heap.size W w') := hNf
  have HT : Hid (Tab K w) := T
  have H32 : Hid (∀ c, (Bf c).size = 32) := hb32
  have H15 : Hid (∀ c, Nf c ≤ 15) := hN
  have HCS : Hid (∀ k, (chainsT (sumOf K) Bf Nf k).size = 32 * k) := chainsT_size (sumOf K) (sumOf_size K) Bf Nf hb32
  clear hB hNf T hb32 hN
  obtain ⟨i0, hi, hz, hsz, hby⟩ := info_u8
  obtain ⟨wM, hmk0, hoM, hgM⟩ := run_make_own (P := Tryd.prog) w w.heap.size 27 5 i0 (.int .u8 0) 1 Tryd.underlying27 hi hz hsz .i64 .i64 2144 (by rw [hby]; omega) (by unfold maxLen; omega) (Nat.le_refl _)
  have hmk : (Instr.makeSlice 27 (.int .i64 0) (.int .i64 2144)).run Tryd.prog w = .ok (.slice (some ⟨w.heap.size, 0, none⟩) 0 2144) wM := hmk0
  have hbM : Below w.heap.size w wM := (Below.refl _ _).grown hgM (Nat.le_refl _) (fun g e => by cases e)
  have HOM : Hid (wM.ownsRow w.heap.size 5 1 (.slice (some ⟨w.heap.size, 0, none⟩) 0 2144) 0 []) := hoM
  clear hmk0 hoM hgM
  go_enter Tryd.func70, Tryd.ntmps70
  go_wp2_with fail
  clear hmk
  go_loopw [5, 9] (fun v i wr => ∃ (k : Nat) (u : Value), u = v ∧ k ≤ 67 ∧ i = .int .i64 k ∧ Hid (wr.ownsRow w.heap.size 5 1 u (32 * k) (hV (chainsT (sumOf K) Bf Nf k)) ∧ Below w.heap.size w wr)) (fun _ i _ => 67 - (intOf i).toNat)
  case atStart =>
    exact ⟨0, _, rfl, by omega, rfl, HOM.out, hbM⟩
  case round =>
    obtain ⟨k, v, hvu, hk, rfl, hI⟩ := hrel
    subst hvu
    have hB0 := hI.out.2
    have hs0 := hB0.size
    by_cases hlt : k < 67
    · have k1 : (k : Int) < 67 := by omega
      go_wp2_with fail
      refine (HB.out wr hB0 k hlt).mono ?_
      rintro e w1 ⟨rfl, hb1⟩
      have hB1 : Below w.heap.size w w1 := hB0.trans (hb1.mono hs0)
      have hs1 := hB1.size
      have hs01 := hb1.size
      have x32 := H32.out k
      obtain ⟨x, hx⟩ : ∃ x, x = Bf k := ⟨_, rfl⟩
      rw [← hx] at x32 ⊢
      have HX : Hid (x = Bf k) := hx
      clear hx
      have ht1 : (w1.alloc (.cells z32.toArray 54)).there w1.heap.size 0 (hV x).length := by rw [hV_len x32]; exact there_z32 w1
      have ix := hV_info x32
      have ox := hV_one x
      go_wp2_with (first | (refine wpList_alloc_of rfl 54 rfl z32.toArray alloc_32 ?_) | (refine wpList_store_abs rfl 54 _ _ rfl w1.heap.size 0 (hV x) rfl rfl ht1 ix ox ?_; intro w2 _hw2 hr2 ht2 hb2; clear _hw2))
      have hb12 : Below w1.heap.size w1 w2 := ((Below.refl _ _).alloc (Nat.le_refl _) _).trans (hb2 _ (Nat.le_refl _))
      have hB2 : Below w.heap.size w w2 := hB1.trans (hb12.mono hs1)
      have hq2 : w1.heap.size < w2.heap.size := by have := (hb2 _ (Nat.le_refl _)).size; simp at this; omega
      have HR2 : Hid (w2.rangeAt w1.heap.size 0 (hV x)) := hr2
      have HT2 : Hid (w2.there w1.heap.size 0 32) := by have := ht2; rw [hV_len x32] at this; exact this
      clear ht1 hr2 ht2 hb2
      refine (HN.out w2 hB2 k hlt).mono ?_
      rintro e w3 ⟨rfl, hb3⟩
      have hB3 : Below w.heap.size w w3 := hB2.trans (hb3.mono hB2.size)
      have HO3 : Hid (w3.ownsRow w.heap.size 5 1 _ (32 * k) (hV (chainsT (sumOf K) Bf Nf k))) := own_below' (own_below' (own_below' hI.out.1 hb1) hb12) hb3
      have n15 := H15.out k
      obtain ⟨n, hn⟩ : ∃ n, n = Nf k := ⟨_, rfl⟩
      rw [← hn] at n15 ⊢
      have HNK : Hid (n = Nf k) := hn
      have HR3 : Hid (w3.rangeAt w1.heap.size 0 (hV x) ∧ w3.there w1.heap.size 0 32 ∧ w1.heap.size < w3.heap.size) := ⟨fun j u hu => (hb3.cell (p := ⟨w1.heap.size, 0 + j, none⟩) hq2).trans (HR2.out j u hu), there_below hb3 hq2 HT2.out, Nat.lt_of_lt_of_le hq2 hb3.size⟩
      have HB3 : Hid (Below w.heap.size w w3) := hB3
      clear hn hb1 hb12 hb3 HR2 HT2
      go_wp2_with fail
      go_loopw [18] (fun i w4 => ∃ j : Nat, j ≤ n ∧ i = .int .i64 j ∧ Hid (w4.rangeAt w1.heap.size 0 (hV (stepF (sumOf K) x j)) ∧ w4.there w1.heap.size 0 32 ∧ w1.heap.size < w4.heap.size ∧ w4.ownsRow w.heap.size 5 1 v (32 * k) (hV (chainsT (sumOf K) Bf Nf k)) ∧ Below w.heap.size w w4)) (fun i _ => n - (intOf i).toNat)
      case atStart => exact ⟨0, Nat.zero_le _, rfl, HR3.out.1, HR3.out.2.1, HR3.out.2.2, HO3.out, HB3.out⟩
      case round =>
        obtain ⟨j, hj, rfl, hJ⟩ := hrel
        have y32 : (stepF (sumOf K) x j).size = 32 := stepF_size (sumOf K) (sumOf_size K) x x32 j
        have hry := hJ.out.1
        have hqy := hJ.out.2.2.1
        have hBy := hJ.out.2.2.2.2
        by_cases hjn : j < n
        · have j1 : (j : Int) < (n : Int) := by omega
          obtain ⟨y, hy⟩ : ∃ y, y = stepF (sumOf K) x j := ⟨_, rfl⟩
          have hyn : sumOf K (m2 ++ y) = stepF (sumOf K) x (j + 1) := by rw [hy]; rfl
          have z32' : (stepF (sumOf K) x (j + 1)).size = 32 := stepF_size (sumOf K) (sumOf_size K) x x32 (j + 1)
          rw [← hy] at y32 hry
          have iy := hV_info y32
          have htx := htx_any y y32
          obtain ⟨z, hz'⟩ : ∃ z, z = stepF (sumOf K) x (j + 1) := ⟨_, rfl⟩
          rw [← hz'] at z32' hyn
          have hst := fun W (T : Tab K W) => of_step K y W y32 T
          simp only [hyn] at hst
          have HZ : Hid (z = stepF (sumOf K) x (j + 1)) := hz'
          have iz := hV_info z32'
          have oz := hV_one z
          have lz := hV_len z32'
          clear hy hyn hz'
          go_wp2_with (first | (refine wpList_load_mid rfl 54 (.tmp 7) rfl w1.heap.size 0 rfl (hV y) _ hry Tryd.underlying54 rfl iy ?_))
          refine (htx wr).mono ?_
          rintro e w5 ⟨rfl, hb5⟩
          clear htx
          have hB5 : Below w.heap.size w w5 := hBy.trans (hb5.mono hBy.size)
          have hs45 := hb5.size
          have hof := hst w5 (HT.out.below hB5)
          go_wp2_with fail
          refine hof.mono ?_
          rintro e w6 ⟨rfl, hb6⟩
          clear hof hst
          have hb56 : Below w5.heap.size w5 w6 := ((Below.refl _ _).alloc (Nat.le_refl _) _).trans (hb6.mono (by omega))
          have hb46 : Below wr.heap.size wr w6 := hb5.trans (hb56.mono hs45)
          have ht6 : w6.there w1.heap.size 0 (hV z).length := by rw [lz]; exact there_below hb46 hqy hJ.out.2.1
          have hB6 : Below w.heap.size w w6 := hBy.trans (hb46.mono hBy.size)
          have HO6 : Hid (w6.ownsRow w.heap.size 5 1 v (32 * k) (hV (chainsT (sumOf K) Bf Nf k))) := own_below' hJ.out.2.2.2.1 hb46
          have hq6 : w1.heap.size < w6.heap.size := Nat.lt_of_lt_of_le hqy hb46.size
          have HQ : Hid (v.ownBlock ≠ some w1.heap.size) := fun e => by have h1 := hI.out.1.lt w1.heap.size e; omega
          clear hb5 hb6 hb56 hb46 hry
          go_wp2_with (first | (refine wpList_store_abs rfl 54 _ _ rfl w1.heap.size 0 (hV z) rfl rfl ht6 iz oz ?_; intro w7 hw7 hr7 ht7 hb7; have HW7 : Hid (w7 = w6.setCells w1.heap.size 0 (hV z)) := hw7; clear hw7))
          refine ⟨⟨j + 1, by omega, by go_num, ?_, ?_, ?_, ?_, ?_⟩, ?_⟩
          · rw [← HZ.out]; exact hr7
          · have := ht7; rw [lz] at this; exact this
          · rw [HW7.out, size_setCells]; exact hq6
          · rw [HW7.out]; exact own_sameX HO6.out (fun g e => heap_setCells_other' _ _ _ _ _ (fun e' => HQ.out (by rw [← e']; exact e)))
          · rw [HW7.out]; exact below_setCells (by omega) _ _ _ hB6
          · simp [intOf]; omega
        · have j1 : ¬ (j : Int) < (n : Int) := by omega
          obtain rfl : j = n := by omega
          obtain ⟨y, hy⟩ : ∃ y, y = stepF (sumOf K) x j := ⟨_, rfl⟩
          rw [← hy] at y32 hry
          have hoA := hJ.out.2.2.2.1
          have hnews : ∀ q u, (hV y)[q]? = some u → wr.cell? ((⟨w1.heap.size, 0, none⟩ : Addr).add q) = some u := fun q u hu => by rw [Addr.add_mid]; exact hry q u hu
          have hs4 := hBy.size
          have oy := hV_one y
          have ly := hV_len y32
          have HE : Hid (chainsT (sumOf K) Bf Nf k ++ y = chainsT (sumOf K) Bf Nf (k + 1)) := by
            show _ = chainsT (sumOf K) Bf Nf k ++ stepF (sumOf K) (Bf k) (Nf k)
            rw [hy, ← HX.out, ← HNK.out]
          have HOL : Hid (∀ g, v.ownBlock = some g → w.heap.size ≤ g) := fun g e => (hoA.lt g e).1
          clear hy
          go_wp2_with (first | (refine wpList_append_lies _ rfl _ _ 27 rfl w.heap.size 5 i0 _ 1 1 Tryd.underlying27 hi hz hsz hby rfl (by decide) v (32 * k) _ rfl hoA ⟨w1.heap.size, 0, none⟩ 32 32 (hV y) rfl (by rw [ly]) hnews oy (by decide) (by unfold maxLen; omega) (by omega) hs4 _ rfl ?_; intro g8 cap8 w8 ho8 hgr8 hat8 hlt8))
          refine ⟨⟨k + 1, _, rfl, by omega, by go_num, ?_, ?_⟩, ?_⟩
          · rw [← HE.out, show 32 * (k + 1) = 32 * k + 32 by omega, hV_app]; exact ho8
          · exact hBy.trans ((Below.refl _ _).grown hgr8 hs4 HOL.out)
          · simp [intOf]; omega
    · obtain rfl : k = 67 := by omega
      obtain ⟨g, cap, hv, hg1, hg2, hr⟩ := own_open hI.out.1 (by omega)
      subst hv
      have hcv := convert_range (cap := cap) (ns := numsOf (chainsT (sumOf K) Bf Nf 67)) 2144 (by rw [numsOf_length, HCS.out]) hr
      rw [str_nums] at hcv
      generalize chainsT (sumOf K) Bf Nf 67 = C at *
      go_wp2_with fail
      go_ret
      exact ⟨rfl, hB0⟩

set_option maxRecDepth 10000 in
set_option maxHeartbeats 2000000 in
theorem along_sign (K : Nat → Int) (Bf : Nat → ByteArray) (Nf : Nat → Nat) (bs bk bd : Nat) (w : World) (T : Tab K w) (hb32 : ∀ c, (Bf c).size = 32) (hN : ∀ c, Nf c ≤ 15)
    (hB : ∀ W, Below w.heap.size w W → ∀ c : Nat, c < 67 → Calls Tryd.prog 87 #[.int .i64 c, .pointer (some ⟨bs, 0, none⟩), .pointer (some ⟨bk, 0, none⟩)] W fun e w' => e = .returned (.agg (hV (Bf c)).toArray) ∧ Below W.heap.size W w')
    (hNf : ∀ W, Below w.heap.size w W → ∀ c : Nat, c < 67 → Calls Tryd.prog 72 #[.int .i64 c, .pointer (some ⟨bd, 0, none⟩)] W fun e w' => e = .returned (.int .i64 (Nf c : Nat)) ∧ Below W.heap.size W w') :
    Calls Tryd.prog 70 #[.func (.func 87) #[] #[.pointer (some ⟨bs, 0, none⟩), .pointer (some ⟨bk, 0, none⟩)], .func (.func 72) #[] #[.pointer (some ⟨bd, 0, none⟩)]] w (strPost1 (chainsT (sumOf K) Bf Nf 67) w) := by
  have HB : Hid (∀ W, Below w.heap.size w W → ∀ c : Nat, c < 67 → Calls Tryd.prog 87 #[.int .i64 c, .pointer (some ⟨bs, 0, none⟩), .pointer (some ⟨bk, 0, none⟩)] W fun e w' => e = .returned (.agg (hV (Bf c)).toArray) ∧ Below W.heap.size W w') := hB
  have HN : Hid (∀ W, Below w.heap.size w W → ∀ c : Nat, c < 67 → Calls Tryd.prog 72 #[.int .i64 c, .pointer (some ⟨bd, 0, none⟩)] W fun e w' => e = .returned (.int .i64 (Nf c : Nat)) ∧ Below W.heap.size W w') := hNf
  have HT : Hid (Tab K w) := T
  have H32 : Hid (∀ c, (Bf c).size = 32) := hb32
  have H15 : Hid (∀ c, Nf c ≤ 15) := hN
  have HCS : Hid (∀ k, (chainsT (sumOf K) Bf Nf k).size = 32 * k) := chainsT_size (sumOf K) (sumOf_size K) Bf Nf hb32
  clear hB hNf T hb32 hN
  obtain ⟨i0, hi, hz, hsz, hby⟩ := info_u8
  obtain ⟨wM, hmk0, hoM, hgM⟩ := run_make_own (P := Tryd.prog) w w.heap.size 27 5 i0 (.int .u8 0) 1 Tryd.underlying27 hi hz hsz .i64 .i64 2144 (by rw [hby]; omega) (by unfold maxLen; omega) (Nat.le_refl _)
  have hmk : (Instr.makeSlice 27 (.int .i64 0) (.int .i64 2144)).run Tryd.prog w = .ok (.slice (some ⟨w.heap.size, 0, none⟩) 0 2144) wM := hmk0
  have hbM : Below w.heap.size w wM := (Below.refl _ _).grown hgM (Nat.le_refl _) (fun g e => by cases e)
  have HOM : Hid (wM.ownsRow w.heap.size 5 1 (.slice (some ⟨w.heap.size, 0, none⟩) 0 2144) 0 []) := hoM
  clear hmk0 hoM hgM
  go_enter Tryd.func70, Tryd.ntmps70
  go_wp2_with fail
  clear hmk
  go_loopw [5, 9] (fun v i wr => ∃ (k : Nat) (u : Value), u = v ∧ k ≤ 67 ∧ i = .int .i64 k ∧ Hid (wr.ownsRow w.heap.size 5 1 u (32 * k) (hV (chainsT (sumOf K) Bf Nf k)) ∧ Below w.heap.size w wr)) (fun _ i _ => 67 - (intOf i).toNat)
  case atStart =>
    exact ⟨0, _, rfl, by omega, rfl, HOM.out, hbM⟩
  case round =>
    obtain ⟨k, v, hvu, hk, rfl, hI⟩ := hrel
    subst hvu
    have hB0 := hI.out.2
    have hs0 := hB0.size
    by_cases hlt : k < 67
    · have k1 : (k : Int) < 67 := by omega
      go_wp2_with fail
      refine (HB.out wr hB0 k hlt).mono ?_
      rintro e w1 ⟨rfl, hb1⟩
      have hB1 : Below w.heap.size w w1 := hB0.trans (hb1.mono hs0)
      have hs1 := hB1.size
      have hs01 := hb1.size
      have x32 := H32.out k
      obtain ⟨x, hx⟩ : ∃ x, x = Bf k := ⟨_, rfl⟩
      rw [← hx] at x32 ⊢
      have HX : Hid (x = Bf k) := hx
      clear hx
      have ht1 : (w1.alloc (.cells z32.toArray 54)).there w1.heap.size 0 (hV x).length := by rw [hV_len x32]; exact there_z32 w1
      have ix := hV_info x32
      have ox := hV_one x
      go_wp2_with (first | (refine wpList_alloc_of rfl 54 rfl z32.toArray alloc_32 ?_) | (refine wpList_store_abs rfl 54 _ _ rfl w1.heap.size 0 (hV x) rfl rfl ht1 ix ox ?_; intro w2 _hw2 hr2 ht2 hb2; clear _hw2))
      have hb12 : Below w1.heap.size w1 w2 := ((Below.refl _ _).alloc (Nat.le_refl _) _).trans (hb2 _ (Nat.le_refl _))
      have hB2 : Below w.heap.size w w2 := hB1.trans (hb12.mono hs1)
      have hq2 : w1.heap.size < w2.heap.size := by have := (hb2 _ (Nat.le_refl _)).size; simp at this; omega
      have HR2 : Hid (w2.rangeAt w1.heap.size 0 (hV x)) := hr2
      have HT2 : Hid (w2.there w1.heap.size 0 32) := by have := ht2; rw [hV_len x32] at this; exact this
      clear ht1 hr2 ht2 hb2
      refine (HN.out w2 hB2 k hlt).mono ?_
      rintro e w3 ⟨rfl, hb3⟩
      have hB3 : Below w.heap.size w w3 := hB2.trans (hb3.mono hB2.size)
      have HO3 : Hid (w3.ownsRow w.heap.size 5 1 _ (32 * k) (hV (chainsT (sumOf K) Bf Nf k))) := own_below' (own_below' (own_below' hI.out.1 hb1) hb12) hb3
      have n15 := H15.out k
      obtain ⟨n, hn⟩ : ∃ n, n = Nf k := ⟨_, rfl⟩
      rw [← hn] at n15 ⊢
      have HNK : Hid (n = Nf k) := hn
      have HR3 : Hid (w3.rangeAt w1.heap.size 0 (hV x) ∧ w3.there w1.heap.size 0 32 ∧ w1.heap.size < w3.heap.size) := ⟨fun j u hu => (hb3.cell (p := ⟨w1.heap.size, 0 + j, none⟩) hq2).trans (HR2.out j u hu), there_below hb3 hq2 HT2.out, Nat.lt_of_lt_of_le hq2 hb3.size⟩
      have HB3 : Hid (Below w.heap.size w w3) := hB3
      clear hn hb1 hb12 hb3 HR2 HT2
      go_wp2_with fail
      go_loopw [18] (fun i w4 => ∃ j : Nat, j ≤ n ∧ i = .int .i64 j ∧ Hid (w4.rangeAt w1.heap.size 0 (hV (stepF (sumOf K) x j)) ∧ w4.there w1.heap.size 0 32 ∧ w1.heap.size < w4.heap.size ∧ w4.ownsRow w.heap.size 5 1 v (32 * k) (hV (chainsT (sumOf K) Bf Nf k)) ∧ Below w.heap.size w w4)) (fun i _ => n - (intOf i).toNat)
      case atStart => exact ⟨0, Nat.zero_le _, rfl, HR3.out.1, HR3.out.2.1, HR3.out.2.2, HO3.out, HB3.out⟩
      case round =>
        obtain ⟨j, hj, rfl, hJ⟩ := hrel
        have y32 : (stepF (sumOf K) x j).size = 32 := stepF_size (sumOf K) (sumOf_size K) x x32 j
        have hry := hJ.out.1
        have hqy := hJ.out.2.2.1
        have hBy := hJ.out.2.2.2.2
        by_cases hjn : j < n
        · have j1 : (j : Int) < (n : Int) := by omega
          obtain ⟨y, hy⟩ : ∃ y, y = stepF (sumOf K) x j := ⟨_, rfl⟩
          have hyn : sumOf K (m2 ++ y) = stepF (sumOf K) x (j + 1) := by rw [hy]; rfl
          have z32' : (stepF (sumOf K) x (j + 1)).size = 32 := stepF_size (sumOf K) (sumOf_size K) x x32 (j + 1)
          rw [← hy] at y32 hry
          have iy := hV_info y32
          have htx := htx_any y y32
          obtain ⟨z, hz'⟩ : ∃ z, z = stepF (sumOf K) x (j + 1) := ⟨_, rfl⟩
          rw [← hz'] at z32' hyn
          have hst := fun W (T : Tab K W) => of_step K y W y32 T
          simp only [hyn] at hst
          have HZ : Hid (z = stepF (sumOf K) x (j + 1)) := hz'
          have iz := hV_info z32'
          have oz := hV_one z
          have lz := hV_len z32'
          clear hy hyn hz'
          go_wp2_with (first | (refine wpList_load_mid rfl 54 (.tmp 7) rfl w1.heap.size 0 rfl (hV y) _ hry Tryd.underlying54 rfl iy ?_))
          refine (htx wr).mono ?_
          rintro e w5 ⟨rfl, hb5⟩
          clear htx
          have hB5 : Below w.heap.size w w5 := hBy.trans (hb5.mono hBy.size)
          have hs45 := hb5.size
          have hof := hst w5 (HT.out.below hB5)
          go_wp2_with fail
          refine hof.mono ?_
          rintro e w6 ⟨rfl, hb6⟩
          clear hof hst
          have hb56 : Below w5.heap.size w5 w6 := ((Below.refl _ _).alloc (Nat.le_refl _) _).trans (hb6.mono (by omega))
          have hb46 : Below wr.heap.size wr w6 := hb5.trans (hb56.mono hs45)
          have ht6 : w6.there w1.heap.size 0 (hV z).length := by rw [lz]; exact there_below hb46 hqy hJ.out.2.1
          have hB6 : Below w.heap.size w w6 := hBy.trans (hb46.mono hBy.size)
          have HO6 : Hid (w6.ownsRow w.heap.size 5 1 v (32 * k) (hV (chainsT (sumOf K) Bf Nf k))) := own_below' hJ.out.2.2.2.1 hb46
          have hq6 : w1.heap.size < w6.heap.size := Nat.lt_of_lt_of_le hqy hb46.size
          have HQ : Hid (v.ownBlock ≠ some w1.heap.size) := fun e => by have h1 := hI.out.1.lt w1.heap.size e; omega
          clear hb5 hb6 hb56 hb46 hry
          go_wp2_with (first | (refine wpList_store_abs rfl 54 _ _ rfl w1.heap.size 0 (hV z) rfl rfl ht6 iz oz ?_; intro w7 hw7 hr7 ht7 hb7; have HW7 : Hid (w7 = w6.setCells w1.heap.size 0 (hV z)) := hw7; clear hw7))
          refine ⟨⟨j + 1, by omega, by go_num, ?_, ?_, ?_, ?_, ?_⟩, ?_⟩
          · rw [← HZ.out]; exact hr7
          · have := ht7; rw [lz] at this; exact this
          · rw [HW7.out, size_setCells]; exact hq6
          · rw [HW7.out]; exact own_sameX HO6.out (fun g e => heap_setCells_other' _ _ _ _ _ (fun e' => HQ.out (by rw [← e']; exact e)))
          · rw [HW7.out]; exact below_setCells (by omega) _ _ _ hB6
          · simp [intOf]; omega
        · have j1 : ¬ (j : Int) < (n : Int) := by omega
          obtain rfl : j = n := by omega
          obtain ⟨y, hy⟩ : ∃ y, y = stepF (sumOf K) x j := ⟨_, rfl⟩
          rw [← hy] at y32 hry
          have hoA := hJ.out.2.2.2.1
          have hnews : ∀ q u, (hV y)[q]? = some u → wr.cell? ((⟨w1.heap.size, 0, none⟩ : Addr).add q) = some u := fun q u hu => by rw [Addr.add_mid]; exact hry q u hu
          have hs4 := hBy.size
          have oy := hV_one y
          have ly := hV_len y32
          have HE : Hid (chainsT (sumOf K) Bf Nf k ++ y = chainsT (sumOf K) Bf Nf (k + 1)) := by
            show _ = chainsT (sumOf K) Bf Nf k ++ stepF (sumOf K) (Bf k) (Nf k)
            rw [hy, ← HX.out, ← HNK.out]
          have HOL : Hid (∀ g, v.ownBlock = some g → w.heap.size ≤ g) := fun g e => (hoA.lt g e).1
          clear hy
          go_wp2_with (first | (refine wpList_append_lies _ rfl _ _ 27 rfl w.heap.size 5 i0 _ 1 1 Tryd.underlying27 hi hz hsz hby rfl (by decide) v (32 * k) _ rfl hoA ⟨w1.heap.size, 0, none⟩ 32 32 (hV y) rfl (by rw [ly]) hnews oy (by decide) (by unfold maxLen; omega) (by omega) hs4 _ rfl ?_; intro g8 cap8 w8 ho8 hgr8 hat8 hlt8))
          refine ⟨⟨k + 1, _, rfl, by omega, by go_num, ?_, ?_⟩, ?_⟩
          · rw [← HE.out, show 32 * (k + 1) = 32 * k + 32 by omega, hV_app]; exact ho8
          · exact hBy.trans ((Below.refl _ _).grown hgr8 hs4 HOL.out)
          · simp [intOf]; omega
    · obtain rfl : k = 67 := by omega
      obtain ⟨g, cap, hv, hg1, hg2, hr⟩ := own_open hI.out.1 (by omega)
      subst hv
      have hcv := convert_range (cap := cap) (ns := numsOf (chainsT (sumOf K) Bf Nf 67)) 2144 (by rw [numsOf_length, HCS.out]) hr
      rw [str_nums] at hcv
      generalize chainsT (sumOf K) Bf Nf 67 = C at *
      go_wp2_with fail
      go_ret
      exact ⟨rfl, hB0⟩

set_option maxRecDepth 10000 in
set_option maxHeartbeats 2000000 in
theorem along_fin (K : Nat → Int) (Bf : Nat → ByteArray) (Nf : Nat → Nat) (bs bd : Nat) (w : World) (T : Tab K w) (hb32 : ∀ c, (Bf c).size = 32) (hN : ∀ c, Nf c ≤ 15)
    (hB : ∀ W, Below w.heap.size w W → ∀ c : Nat, c < 67 → Calls Tryd.prog 88 #[.int .i64 c, .pointer (some ⟨bs, 0, none⟩)] W fun e w' => e = .returned (.agg (hV (Bf c)).toArray) ∧ Below W.heap.size W w')
    (hNf : ∀ W, Below w.heap.size w W → ∀ c : Nat, c < 67 → Calls Tryd.prog 89 #[.int .i64 c, .pointer (some ⟨bd, 0, none⟩)] W fun e w' => e = .returned (.int .i64 (Nf c : Nat)) ∧ Below W.heap.size W w') :
    Calls Tryd.prog 70 #[.func (.func 88) #[] #[.pointer (some ⟨bs, 0, none⟩)], .func (.func 89) #[] #[.pointer (some ⟨bd, 0, none⟩)]] w (strPost1 (chainsT (sumOf K) Bf Nf 67) w) := by
  have HB : Hid (∀ W, Below w.heap.size w W → ∀ c : Nat, c < 67 → Calls Tryd.prog 88 #[.int .i64 c, .pointer (some ⟨bs, 0, none⟩)] W fun e w' => e = .returned (.agg (hV (Bf c)).toArray) ∧ Below W.heap.size W w') := hB
  have HN : Hid (∀ W, Below w.heap.size w W → ∀ c : Nat, c < 67 → Calls Tryd.prog 89 #[.int .i64 c, .pointer (some ⟨bd, 0, none⟩)] W fun e w' => e = .returned (.int .i64 (Nf c : Nat)) ∧ Below W.heap.size W w') := hNf
  have HT : Hid (Tab K w) := T
  have H32 : Hid (∀ c, (Bf c).size = 32) := hb32
  have H15 : Hid (∀ c, Nf c ≤ 15) := hN
  have HCS : Hid (∀ k, (chainsT (sumOf K) Bf Nf k).size = 32 * k) := chainsT_size (sumOf K) (sumOf_size K) Bf Nf hb32
  clear hB hNf T hb32 hN
  obtain ⟨i0, hi, hz, hsz, hby⟩ := info_u8
  obtain ⟨wM, hmk0, hoM, hgM⟩ := run_make_own (P := Tryd.prog) w w.heap.size 27 5 i0 (.int .u8 0) 1 Tryd.underlying27 hi hz hsz .i64 .i64 2144 (by rw [hby]; omega) (by unfold maxLen; omega) (Nat.le_refl _)
  have hmk : (Instr.makeSlice 27 (.int .i64 0) (.int .i64 2144)).run Tryd.prog w = .ok (.slice (some ⟨w.heap.size, 0, none⟩) 0 2144) wM := hmk0
  have hbM : Below w.heap.size w wM := (Below.refl _ _).grown hgM (Nat.le_refl _) (fun g e => by cases e)
  have HOM : Hid (wM.ownsRow w.heap.size 5 1 (.slice (some ⟨w.heap.size, 0, none⟩) 0 2144) 0 []) := hoM
  clear hmk0 hoM hgM
  go_enter Tryd.func70, Tryd.ntmps70
  go_wp2_with fail
  clear hmk
  go_loopw [5, 9] (fun v i wr => ∃ (k : Nat) (u : Value), u = v ∧ k ≤ 67 ∧ i = .int .i64 k ∧ Hid (wr.ownsRow w.heap.size 5 1 u (32 * k) (hV (chainsT (sumOf K) Bf Nf k)) ∧ Below w.heap.size w wr)) (fun _ i _ => 67 - (intOf i).toNat)
  case atStart =>
    exact ⟨0, _, rfl, by omega, rfl, HOM.out, hbM⟩
  case round =>
    obtain ⟨k, v, hvu, hk, rfl, hI⟩ := hrel
    subst hvu
    have hB0 := hI.out.2
    have hs0 := hB0.size
    by_cases hlt : k < 67
    · have k1 : (k : Int) < 67 := by omega
      go_wp2_with fail
      refine (HB.out wr hB0 k hlt).mono ?_
      rintro e w1 ⟨rfl, hb1⟩
      have hB1 : Below w.heap.size w w1 := hB0.trans (hb1.mono hs0)
      have hs1 := hB1.size
      have hs01 := hb1.size
      have x32 := H32.out k
      obtain ⟨x, hx⟩ : ∃ x, x = Bf k := ⟨_, rfl⟩
      rw [← hx] at x32 ⊢
      have HX : Hid (x = Bf k) := hx
      clear hx
      have ht1 : (w1.alloc (.cells z32.toArray 54)).there w1.heap.size 0 (hV x).length := by rw [hV_len x32]; exact there_z32 w1
      have ix := hV_info x32
      have ox := hV_one x
      go_wp2_with (first | (refine wpList_alloc_of rfl 54 rfl z32.toArray alloc_32 ?_) | (refine wpList_store_abs rfl 54 _ _ rfl w1.heap.size 0 (hV x) rfl rfl ht1 ix ox ?_; intro w2 _hw2 hr2 ht2 hb2; clear _hw2))
      have hb12 : Below w1.heap.size w1 w2 := ((Below.refl _ _).alloc (Nat.le_refl _) _).trans (hb2 _ (Nat.le_refl _))
      have hB2 : Below w.heap.size w w2 := hB1.trans (hb12.mono hs1)
      have hq2 : w1.heap.size < w2.heap.size := by have := (hb2 _ (Nat.le_refl _)).size; simp at this; omega
      have HR2 : Hid (w2.rangeAt w1.heap.size 0 (hV x)) := hr2
      have HT2 : Hid (w2.there w1.heap.size 0 32) := by have := ht2; rw [hV_len x32] at this; exact this
      clear ht1 hr2 ht2 hb2
      refine (HN.out w2 hB2 k hlt).mono ?_
      rintro e w3 ⟨rfl, hb3⟩
      have hB3 : Below w.heap.size w w3 := hB2.trans (hb3.mono hB2.size)
      have HO3 : Hid (w3.ownsRow w.heap.size 5 1 _ (32 * k) (hV (chainsT (sumOf K) Bf Nf k))) := own_below' (own_below' (own_below' hI.out.1 hb1) hb12) hb3
      have n15 := H15.out k
      obtain ⟨n, hn⟩ : ∃ n, n = Nf k := ⟨_, rfl⟩
      rw [← hn] at n15 ⊢
      have HNK : Hid (n = Nf k) := hn
      have HR3 : Hid (w3.rangeAt w1.heap.size 0 (hV x) ∧ w3.there w1.heap.size 0 32 ∧ w1.heap.size < w3.heap.size) := ⟨fun j u hu => (hb3.cell (p := ⟨w1.heap.size, 0 + j, none⟩) hq2).trans (HR2.out j u hu), there_below hb3 hq2 HT2.out, Nat.lt_of_lt_of_le hq2 hb3.size⟩
      have HB3 : Hid (Below w.heap.size w w3) := hB3
      clear hn hb1 hb12 hb3 HR2 HT2
      go_wp2_with fail
      go_loopw [18] (fun i w4 => ∃ j : Nat, j ≤ n ∧ i = .int .i64 j ∧ Hid (w4.rangeAt w1.heap.size 0 (hV (stepF (sumOf K) x j)) ∧ w4.there w1.heap.size 0 32 ∧ w1.heap.size < w4.heap.size ∧ w4.ownsRow w.heap.size 5 1 v (32 * k) (hV (chainsT (sumOf K) Bf Nf k)) ∧ Below w.heap.size w w4)) (fun i _ => n - (intOf i).toNat)
      case atStart => exact ⟨0, Nat.zero_le _, rfl, HR3.out.1, HR3.out.2.1, HR3.out.2.2, HO3.out, HB3.out⟩
      case round =>
        obtain ⟨j, hj, rfl, hJ⟩ := hrel
        have y32 : (stepF (sumOf K) x j).size = 32 := stepF_size (sumOf K) (sumOf_size K) x x32 j
        have hry := hJ.out.1
        have hqy := hJ.out.2.2.1
        have hBy := hJ.out.2.2.2.2
        by_cases hjn : j < n
        · have j1 : (j : Int) < (n : Int) := by omega
          obtain ⟨y, hy⟩ : ∃ y, y = stepF (sumOf K) x j := ⟨_, rfl⟩
          have hyn : sumOf K (m2 ++ y) = stepF (sumOf K) x (j + 1) := by rw [hy]; rfl
          have z32' : (stepF (sumOf K) x (j + 1)).size = 32 := stepF_size (sumOf K) (sumOf_size K) x x32 (j + 1)
          rw [← hy] at y32 hry
          have iy := hV_info y32
          have htx := htx_any y y32
          obtain ⟨z, hz'⟩ : ∃ z, z = stepF (sumOf K) x (j + 1) := ⟨_, rfl⟩
          rw [← hz'] at z32' hyn
          have hst := fun W (T : Tab K W) => of_step K y W y32 T
          simp only [hyn] at hst
          have HZ : Hid (z = stepF (sumOf K) x (j + 1)) := hz'
          have iz := hV_info z32'
          have oz := hV_one z
          have lz := hV_len z32'
          clear hy hyn hz'
          go_wp2_with (first | (refine wpList_load_mid rfl 54 (.tmp 7) rfl w1.heap.size 0 rfl (hV y) _ hry Tryd.underlying54 rfl iy ?_))
          refine (htx wr).mono ?_
          rintro e w5 ⟨rfl, hb5⟩
          clear htx
          have hB5 : Below w.heap.size w w5 := hBy.trans (hb5.mono hBy.size)
          have hs45 := hb5.size
          have hof := hst w5 (HT.out.below hB5)
          go_wp2_with fail
          refine hof.mono ?_
          rintro e w6 ⟨rfl, hb6⟩
          clear hof hst
          have hb56 : Below w5.heap.size w5 w6 := ((Below.refl _ _).alloc (Nat.le_refl _) _).trans (hb6.mono (by omega))
          have hb46 : Below wr.heap.size wr w6 := hb5.trans (hb56.mono hs45)
          have ht6 : w6.there w1.heap.size 0 (hV z).length := by rw [lz]; exact there_below hb46 hqy hJ.out.2.1
          have hB6 : Below w.heap.size w w6 := hBy.trans (hb46.mono hBy.size)
          have HO6 : Hid (w6.ownsRow w.heap.size 5 1 v (32 * k) (hV (chainsT (sumOf K) Bf Nf k))) := own_below' hJ.out.2.2.2.1 hb46
          have hq6 : w1.heap.size < w6.heap.size := Nat.lt_of_lt_of_le hqy hb46.size
          have HQ : Hid (v.ownBlock ≠ some w1.heap.size) := fun e => by have h1 := hI.out.1.lt w1.heap.size e; omega
          clear hb5 hb6 hb56 hb46 hry
          go_wp2_with (first | (refine wpList_store_abs rfl 54 _ _ rfl w1.heap.size 0 (hV z) rfl rfl ht6 iz oz ?_; intro w7 hw7 hr7 ht7 hb7; have HW7 : Hid (w7 = w6.setCells w1.heap.size 0 (hV z)) := hw7; clear hw7))
          refine ⟨⟨j + 1, by omega, by go_num, ?_, ?_, ?_, ?_, ?_⟩, ?_⟩
          · rw [← HZ.out]; exact hr7
          · have := ht7; rw [lz] at this; exact this
          · rw [HW7.out, size_setCells]; exact hq6
          · rw [HW7.out]; exact own_sameX HO6.out (fun g e => heap_setCells_other' _ _ _ _ _ (fun e' => HQ.out (by rw [← e']; exact e)))
          · rw [HW7.out]; exact below_setCells (by omega) _ _ _ hB6
          · simp [intOf]; omega
        · have j1 : ¬ (j : Int) < (n : Int) := by omega
          obtain rfl : j = n := by omega
          obtain ⟨y, hy⟩ : ∃ y, y = stepF (sumOf K) x j := ⟨_, rfl⟩
          rw [← hy] at y32 hry
          have hoA := hJ.out.2.2.2.1
          have hnews : ∀ q u, (hV y)[q]? = some u → wr.cell? ((⟨w1.heap.size, 0, none⟩ : Addr).add q) = some u := fun q u hu => by rw [Addr.add_mid]; exact hry q u hu
          have hs4 := hBy.size
          have oy := hV_one y
          have ly := hV_len y32
          have HE : Hid (chainsT (sumOf K) Bf Nf k ++ y = chainsT (sumOf K) Bf Nf (k + 1)) := by
            show _ = chainsT (sumOf K) Bf Nf k ++ stepF (sumOf K) (Bf k) (Nf k)
            rw [hy, ← HX.out, ← HNK.out]
          have HOL : Hid (∀ g, v.ownBlock = some g → w.heap.size ≤ g) := fun g e => (hoA.lt g e).1
          clear hy
          go_wp2_with (first | (refine wpList_append_lies _ rfl _ _ 27 rfl w.heap.size 5 i0 _ 1 1 Tryd.underlying27 hi hz hsz hby rfl (by decide) v (32 * k) _ rfl hoA ⟨w1.heap.size, 0, none⟩ 32 32 (hV y) rfl (by rw [ly]) hnews oy (by decide) (by unfold maxLen; omega) (by omega) hs4 _ rfl ?_; intro g8 cap8 w8 ho8 hgr8 hat8 hlt8))
          refine ⟨⟨k + 1, _, rfl, by omega, by go_num, ?_, ?_⟩, ?_⟩
          · rw [← HE.out, show 32 * (k + 1) = 32 * k + 32 by omega, hV_app]; exact ho8
          · exact hBy.trans ((Below.refl _ _).grown hgr8 hs4 HOL.out)
          · simp [intOf]; omega
    · obtain rfl : k = 67 := by omega
      obtain ⟨g, cap, hv, hg1, hg2, hr⟩ := own_open hI.out.1 (by omega)
      subst hv
      have hcv := convert_range (cap := cap) (ns := numsOf (chainsT (sumOf K) Bf Nf 67)) 2144 (by rw [numsOf_length, HCS.out]) hr
      rw [str_nums] at hcv
      generalize chainsT (sumOf K) Bf Nf 67 = C at *
      go_wp2_with fail
      go_ret
      exact ⟨rfl, hB0⟩
end Go.Proofs.YteebdadnfaekmaaDoor
