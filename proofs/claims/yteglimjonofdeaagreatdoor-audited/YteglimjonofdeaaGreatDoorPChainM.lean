import Derived.Test.YteglimjonofdeaaGreatDoorTJoinM
set_option linter.unusedVariables false
set_option linter.unusedSimpArgs false
namespace Go.Proofs.YteglimjonofdeaaGreatDoor
open Go.RowKit

def m2 : ByteArray := ⟨#[2]⟩
def mK : ByteArray := ⟨#[75]⟩
/-- A chain's value, some steps on. -/
def stepF (H : ByteArray → ByteArray) (x : ByteArray) : Nat → ByteArray
  | 0 => x
  | n + 1 => H (m2 ++ stepF H x n)
theorem stepF_size (H : ByteArray → ByteArray) (hH : ∀ s, (H s).size = 32) (x : ByteArray) (hx : x.size = 32) : ∀ n, (stepF H x n).size = 32
  | 0 => hx
  | n + 1 => hH _
/-- The ends of the first k chains, one behind the other. -/
def chainsT (H : ByteArray → ByteArray) (B : Nat → ByteArray) (N : Nat → Nat) : Nat → ByteArray
  | 0 => ⟨#[]⟩
  | k + 1 => chainsT H B N k ++ stepF H (B k) (N k)
theorem chainsT_size (H : ByteArray → ByteArray) (hH : ∀ s, (H s).size = 32) (B : Nat → ByteArray) (N : Nat → Nat) (hB : ∀ c, (B c).size = 32) : ∀ k, (chainsT H B N k).size = 32 * k
  | 0 => rfl
  | k + 1 => by rw [chainsT, ByteArray.size_append, chainsT_size H hH B N hB k, stepF_size H hH _ (hB k)]; omega
/-- One step of a chain. -/
theorem of_step (K : Nat → Int) (x : ByteArray) (W : World) (hx : x.size = 32) (T : Tab K W) :
    Calls Tryz.prog 54 #[.slice (some ⟨W.heap.size, 0, none⟩) 2 2] (W.alloc (.cells #[.string ⟨#[2]⟩, .string x] 9)) fun e w' => e = .returned (.agg (hV (sumOf K (m2 ++ x))).toArray) ∧ Below (W.heap.size + 1) (W.alloc (.cells #[.string ⟨#[2]⟩, .string x] 9)) w' := by
  have T0 := T.below ((Below.refl _ W).alloc (Nat.le_refl _) (.cells #[.string ⟨#[2]⟩, .string x] 9))
  have hof := of_any [m2, x] W.heap.size 2 K (W.alloc (.cells #[.string ⟨#[2]⟩, .string x] 9)) (by simp) (by simp)
    (by simp [joinN, numsOf_length, m2, numsOf]; omega)
    (fun j hj => by
      rw [World.cell?_alloc_at _ _ _ _ (by simp)]
      have hj2 : j < 2 := hj
      obtain rfl | rfl : j = 0 ∨ j = 1 := by omega
      all_goals rfl) T0.lt T0.cells
  rw [hV_sum K (joinN [m2, x]) (m2 ++ x) (by rw [nums_app]; simp [joinN])] at hof
  rw [show [m2, x].length = 2 from rfl] at hof
  simpa using hof
def strPost1 (h : ByteArray) (w : World) (e : Ending) (w' : World) : Prop := e = .returned (.string h) ∧ Below w.heap.size w w'

set_option maxRecDepth 10000 in
set_option maxHeartbeats 2000000 in
theorem along_leaf (K : Nat → Int) (Bf : Nat → ByteArray) (Nf : Nat → Nat) (bs bk : Nat) (w : World) (T : Tab K w) (hb32 : ∀ c, (Bf c).size = 32) (hN : ∀ c, Nf c ≤ 15)
    (hB : ∀ W, Below w.heap.size w W → ∀ c : Nat, c < 67 → Calls Tryz.prog 148 #[.int .i64 c, .pointer (some ⟨bs, 0, none⟩), .pointer (some ⟨bk, 0, none⟩)] W fun e w' => e = .returned (.agg (hV (Bf c)).toArray) ∧ Below W.heap.size W w')
    (hNf : ∀ W, Below w.heap.size w W → ∀ c : Nat, c < 67 → Calls Tryz.prog 117 #[.int .i64 c] W fun e w' => e = .returned (.int .i64 (Nf c : Nat)) ∧ Below W.heap.size W w') :
    Calls Tryz.prog 115 #[.func (.func 148) #[] #[.pointer (some ⟨bs, 0, none⟩), .pointer (some ⟨bk, 0, none⟩)], .func (.func 117) #[] #[]] w (strPost1 (chainsT (sumOf K) Bf Nf 67) w) := by
  have HB : Hid (∀ W, Below w.heap.size w W → ∀ c : Nat, c < 67 → Calls Tryz.prog 148 #[.int .i64 c, .pointer (some ⟨bs, 0, none⟩), .pointer (some ⟨bk, 0, none⟩)] W fun e w' => e = .returned (.agg (hV (Bf c)).toArray) ∧ Below W.heap.size W w') := hB
  have HN : Hid (∀ W, Below w.heap.size w W → ∀ c : Nat, c < 67 → Calls Tryz.prog 117 #[.int .i64 c] W fun e w' => e = .returned (.int .i64 (Nf c : Nat)) ∧ Below W.heap.size W w') := hNf
  have HT : Hid (Tab K w) := T
  have H32 : Hid (∀ c, (Bf c).size = 32) := hb32
  have H15 : Hid (∀ c, Nf c ≤ 15) := hN
  have HCS : Hid (∀ k, (chainsT (sumOf K) Bf Nf k).size = 32 * k) := chainsT_size (sumOf K) (sumOf_size K) Bf Nf hb32
  clear hB hNf T hb32 hN
  obtain ⟨i0, hi, hz, hsz, hby⟩ := info_u8
  obtain ⟨wM, hmk0, hoM, hgM⟩ := run_make_own (P := Tryz.prog) w w.heap.size 85 5 i0 (.int .u8 0) 1 Tryz.underlying85 hi hz hsz .i64 .i64 2144 (by rw [hby]; omega) (by unfold maxLen; omega) (Nat.le_refl _)
  have hmk : (Instr.makeSlice 85 (.int .i64 0) (.int .i64 2144)).run Tryz.prog w = .ok (.slice (some ⟨w.heap.size, 0, none⟩) 0 2144) wM := hmk0
  have hbM : Below w.heap.size w wM := (Below.refl _ _).grown hgM (Nat.le_refl _) (fun g e => by cases e)
  have HOM : Hid (wM.ownsRow w.heap.size 5 1 (.slice (some ⟨w.heap.size, 0, none⟩) 0 2144) 0 []) := hoM
  clear hmk0 hoM hgM
  go_enter Tryz.func115, Tryz.ntmps115
  go_wp2_with fail
  clear hmk
  go_loopw [5, 9] (fun v i wr => ∃ (k : Nat) (u : Value), u = v ∧ k ≤ 67 ∧ i = .int .i64 k ∧ Hid (wr.ownsRow w.heap.size 5 1 u (32 * k) (hV (chainsT (sumOf K) Bf Nf k)) ∧ Below w.heap.size w wr)) (fun _ i _ => 67 - (intOf i).toNat)
  case atStart =>
    exact ⟨0, _, rfl, by omega, rfl, HOM.out, hbM⟩
  case round =>
    obtain ⟨k, v, hvu, hk, rfl, hI⟩ := hrel
    subst hvu
    have hB0 := hI.out.2
    have hs0 := hB0.size
    by_cases hlt : k < 67
    · have k1 : (k : Int) < 67 := by omega
      go_wp2_with fail
      refine (HB.out wr hB0 k hlt).mono ?_
      rintro e w1 ⟨rfl, hb1⟩
      have hB1 : Below w.heap.size w w1 := hB0.trans (hb1.mono hs0)
      have hs1 := hB1.size
      have hs01 := hb1.size
      have x32 := H32.out k
      obtain ⟨x, hx⟩ : ∃ x, x = Bf k := ⟨_, rfl⟩
      rw [← hx] at x32 ⊢
      have HX : Hid (x = Bf k) := hx
      clear hx
      have ht1 : (w1.alloc (.cells z32.toArray 104)).there w1.heap.size 0 (hV x).length := by rw [hV_len x32]; exact there_z32 w1
      have ix := hV_info x32
      have ox := hV_one x
      go_wp2_with (first | (refine wpList_alloc_of rfl 104 rfl z32.toArray alloc_32 ?_) | (refine wpList_store_abs rfl 104 _ _ rfl w1.heap.size 0 (hV x) rfl rfl ht1 ix ox ?_; intro w2 _hw2 hr2 ht2 hb2; clear _hw2))
      have hb12 : Below w1.heap.size w1 w2 := ((Below.refl _ _).alloc (Nat.le_refl _) _).trans (hb2 _ (Nat.le_refl _))
      have hB2 : Below w.heap.size w w2 := hB1.trans (hb12.mono hs1)
      have hq2 : w1.heap.size < w2.heap.size := by have := (hb2 _ (Nat.le_refl _)).size; simp at this; omega
      have HR2 : Hid (w2.rangeAt w1.heap.size 0 (hV x)) := hr2
      have HT2 : Hid (w2.there w1.heap.size 0 32) := by have := ht2; rw [hV_len x32] at this; exact this
      clear ht1 hr2 ht2 hb2
      refine (HN.out w2 hB2 k hlt).mono ?_
      rintro e w3 ⟨rfl, hb3⟩
      have hB3 : Below w.heap.size w w3 := hB2.trans (hb3.mono hB2.size)
      have HO3 : Hid (w3.ownsRow w.heap.size 5 1 _ (32 * k) (hV (chainsT (sumOf K) Bf Nf k))) := own_below' (own_below' (own_below' hI.out.1 hb1) hb12) hb3
      have n15 := H15.out k
      obtain ⟨n, hn⟩ : ∃ n, n = Nf k := ⟨_, rfl⟩
      rw [← hn] at n15 ⊢
      have HNK : Hid (n = Nf k) := hn
      have HR3 : Hid (w3.rangeAt w1.heap.size 0 (hV x) ∧ w3.there w1.heap.size 0 32 ∧ w1.heap.size < w3.heap.size) := ⟨fun j u hu => (hb3.cell (p := ⟨w1.heap.size, 0 + j, none⟩) hq2).trans (HR2.out j u hu), there_below hb3 hq2 HT2.out, Nat.lt_of_lt_of_le hq2 hb3.size⟩
      have HB3 : Hid (Below w.heap.size w w3) := hB3
      clear hn hb1 hb12 hb3 HR2 HT2
      go_wp2_with fail
      go_loopw [18] (fun i w4 => ∃ j : Nat, j ≤ n ∧ i = .int .i64 j ∧ Hid (w4.rangeAt w1.heap.size 0 (hV (stepF (sumOf K) x j)) ∧ w4.there w1.heap.size 0 32 ∧ w1.heap.size < w4.heap.size ∧ w4.ownsRow w.heap.size 5 1 v (32 * k) (hV (chainsT (sumOf K) Bf Nf k)) ∧ Below w.heap.size w w4)) (fun i _ => n - (intOf i).toNat)
      case atStart => exact ⟨0, Nat.zero_le _, rfl, HR3.out.1, HR3.out.2.1, HR3.out.2.2, HO3.out, HB3.out⟩
      case round =>
        obtain ⟨j, hj, rfl, hJ⟩ := hrel
        have y32 : (stepF (sumOf K) x j).size = 32 := stepF_size (sumOf K) (sumOf_size K) x x32 j
        have hry := hJ.out.1
        have hqy := hJ.out.2.2.1
        have hBy := hJ.out.2.2.2.2
        by_cases hjn : j < n
        · have j1 : (j : Int) < (n : Int) := by omega
          obtain ⟨y, hy⟩ : ∃ y, y = stepF (sumOf K) x j := ⟨_, rfl⟩
          have hyn : sumOf K (m2 ++ y) = stepF (sumOf K) x (j + 1) := by rw [hy]; rfl
          have z32' : (stepF (sumOf K) x (j + 1)).size = 32 := stepF_size (sumOf K) (sumOf_size K) x x32 (j + 1)
          rw [← hy] at y32 hry
          have iy := hV_info y32
          have htx := htx_any y y32
          obtain ⟨z, hz'⟩ : ∃ z, z = stepF (sumOf K) x (j + 1) := ⟨_, rfl⟩
          rw [← hz'] at z32' hyn
          have hst := fun W (T : Tab K W) => of_step K y W y32 T
          simp only [hyn] at hst
          have HZ : Hid (z = stepF (sumOf K) x (j + 1)) := hz'
          have iz := hV_info z32'
          have oz := hV_one z
          have lz := hV_len z32'
          clear hy hyn hz'
          go_wp2_with (first | (refine wpList_load_mid rfl 104 (.tmp 7) rfl w1.heap.size 0 rfl (hV y) _ hry Tryz.underlying104 rfl iy ?_))
          refine (htx wr).mono ?_
          rintro e w5 ⟨rfl, hb5⟩
          clear htx
          have hB5 : Below w.heap.size w w5 := hBy.trans (hb5.mono hBy.size)
          have hs45 := hb5.size
          have hof := hst w5 (HT.out.below hB5)
          go_wp2_with fail
          refine hof.mono ?_
          rintro e w6 ⟨rfl, hb6⟩
          clear hof hst
          have hb56 : Below w5.heap.size w5 w6 := ((Below.refl _ _).alloc (Nat.le_refl _) _).trans (hb6.mono (by omega))
          have hb46 : Below wr.heap.size wr w6 := hb5.trans (hb56.mono hs45)
          have ht6 : w6.there w1.heap.size 0 (hV z).length := by rw [lz]; exact there_below hb46 hqy hJ.out.2.1
          have hB6 : Below w.heap.size w w6 := hBy.trans (hb46.mono hBy.size)
          have HO6 : Hid (w6.ownsRow w.heap.size 5 1 v (32 * k) (hV (chainsT (sumOf K) Bf Nf k))) := own_below' hJ.out.2.2.2.1 hb46
          have hq6 : w1.heap.size < w6.heap.size := Nat.lt_of_lt_of_le hqy hb46.size
          have HQ : Hid (v.ownBlock ≠ some w1.heap.size) := fun e => by have h1 := hI.out.1.lt w1.heap.size e; omega
          clear hb5 hb6 hb56 hb46 hry
          go_wp2_with (first | (refine wpList_store_abs rfl 104 _ _ rfl w1.heap.size 0 (hV z) rfl rfl ht6 iz oz ?_; intro w7 hw7 hr7 ht7 hb7; have HW7 : Hid (w7 = w6.setCells w1.heap.size 0 (hV z)) := hw7; clear hw7))
          refine ⟨⟨j + 1, by omega, by go_num, ?_, ?_, ?_, ?_, ?_⟩, ?_⟩
          · rw [← HZ.out]; exact hr7
          · have := ht7; rw [lz] at this; exact this
          · rw [HW7.out, size_setCells]; exact hq6
          · rw [HW7.out]; exact own_sameX HO6.out (fun g e => heap_setCells_other' _ _ _ _ _ (fun e' => HQ.out (by rw [← e']; exact e)))
          · rw [HW7.out]; exact below_setCells (by omega) _ _ _ hB6
          · simp [intOf]; omega
        · have j1 : ¬ (j : Int) < (n : Int) := by omega
          obtain rfl : j = n := by omega
          obtain ⟨y, hy⟩ : ∃ y, y = stepF (sumOf K) x j := ⟨_, rfl⟩
          rw [← hy] at y32 hry
          have hoA := hJ.out.2.2.2.1
          have hnews : ∀ q u, (hV y)[q]? = some u → wr.cell? ((⟨w1.heap.size, 0, none⟩ : Addr).add q) = some u := fun q u hu => by rw [Addr.add_mid]; exact hry q u hu
          have hs4 := hBy.size
          have oy := hV_one y
          have ly := hV_len y32
          have HE : Hid (chainsT (sumOf K) Bf Nf k ++ y = chainsT (sumOf K) Bf Nf (k + 1)) := by
            show _ = chainsT (sumOf K) Bf Nf k ++ stepF (sumOf K) (Bf k) (Nf k)
            rw [hy, ← HX.out, ← HNK.out]
          have HOL : Hid (∀ g, v.ownBlock = some g → w.heap.size ≤ g) := fun g e => (hoA.lt g e).1
          clear hy
          go_wp2_with (first | (refine wpList_append_lies _ rfl _ _ 85 rfl w.heap.size 5 i0 _ 1 1 Tryz.underlying85 hi hz hsz hby rfl (by decide) v (32 * k) _ rfl hoA ⟨w1.heap.size, 0, none⟩ 32 32 (hV y) rfl (by rw [ly]) hnews oy (by decide) (by unfold maxLen; omega) (by omega) hs4 _ rfl ?_; intro g8 cap8 w8 ho8 hgr8 hat8 hlt8))
          refine ⟨⟨k + 1, _, rfl, by omega, by go_num, ?_, ?_⟩, ?_⟩
          · rw [← HE.out, show 32 * (k + 1) = 32 * k + 32 by omega, hV_app]; exact ho8
          · exact hBy.trans ((Below.refl _ _).grown hgr8 hs4 HOL.out)
          · simp [intOf]; omega
    · obtain rfl : k = 67 := by omega
      obtain ⟨g, cap, hv, hg1, hg2, hr⟩ := own_open hI.out.1 (by omega)
      subst hv
      have hcv := convert_range (cap := cap) (ns := numsOf (chainsT (sumOf K) Bf Nf 67)) 2144 (by rw [numsOf_length, HCS.out]) hr
      rw [str_nums] at hcv
      generalize chainsT (sumOf K) Bf Nf 67 = C at *
      go_wp2_with fail
      go_ret
      exact ⟨rfl, hB0⟩

set_option maxRecDepth 10000 in
set_option maxHeartbeats 2000000 in
theorem along_sign (K : Nat → Int) (Bf : Nat → ByteArray) (Nf : Nat → Nat) (bs bk bd : Nat) (w : World) (T : Tab K w) (hb32 : ∀ c, (Bf c).size = 32) (hN : ∀ c, Nf c ≤ 15)
    (hB : ∀ W, Below w.heap.size w W → ∀ c : Nat, c < 67 → Calls Tryz.prog 148 #[.int .i64 c, .pointer (some ⟨bs, 0, none⟩), .pointer (some ⟨bk, 0, none⟩)] W fun e w' => e = .returned (.agg (hV (Bf c)).toArray) ∧ Below W.heap.size W w')
    (hNf : ∀ W, Below w.heap.size w W → ∀ c : Nat, c < 67 → Calls Tryz.prog 152 #[.int .i64 c, .pointer (some ⟨bd, 0, none⟩)] W fun e w' => e = .returned (.int .i64 (Nf c : Nat)) ∧ Below W.heap.size W w') :
    Calls Tryz.prog 115 #[.func (.func 148) #[] #[.pointer (some ⟨bs, 0, none⟩), .pointer (some ⟨bk, 0, none⟩)], .func (.func 152) #[] #[.pointer (some ⟨bd, 0, none⟩)]] w (strPost1 (chainsT (sumOf K) Bf Nf 67) w) := by
  have HB : Hid (∀ W, Below w.heap.size w W → ∀ c : Nat, c < 67 → Calls Tryz.prog 148 #[.int .i64 c, .pointer (some ⟨bs, 0, none⟩), .pointer (some ⟨bk, 0, none⟩)] W fun e w' => e = .returned (.agg (hV (Bf c)).toArray) ∧ Below W.heap.size W w') := hB
  have HN : Hid (∀ W, Below w.heap.size w W → ∀ c : Nat, c < 67 → Calls Tryz.prog 152 #[.int .i64 c, .pointer (some ⟨bd, 0, none⟩)] W fun e w' => e = .returned (.int .i64 (Nf c : Nat)) ∧ Below W.heap.size W w') := hNf
  have HT : Hid (Tab K w) := T
  have H32 : Hid (∀ c, (Bf c).size = 32) := hb32
  have H15 : Hid (∀ c, Nf c ≤ 15) := hN
  have HCS : Hid (∀ k, (chainsT (sumOf K) Bf Nf k).size = 32 * k) := chainsT_size (sumOf K) (sumOf_size K) Bf Nf hb32
  clear hB hNf T hb32 hN
  obtain ⟨i0, hi, hz, hsz, hby⟩ := info_u8
  obtain ⟨wM, hmk0, hoM, hgM⟩ := run_make_own (P := Tryz.prog) w w.heap.size 85 5 i0 (.int .u8 0) 1 Tryz.underlying85 hi hz hsz .i64 .i64 2144 (by rw [hby]; omega) (by unfold maxLen; omega) (Nat.le_refl _)
  have hmk : (Instr.makeSlice 85 (.int .i64 0) (.int .i64 2144)).run Tryz.prog w = .ok (.slice (some ⟨w.heap.size, 0, none⟩) 0 2144) wM := hmk0
  have hbM : Below w.heap.size w wM := (Below.refl _ _).grown hgM (Nat.le_refl _) (fun g e => by cases e)
  have HOM : Hid (wM.ownsRow w.heap.size 5 1 (.slice (some ⟨w.heap.size, 0, none⟩) 0 2144) 0 []) := hoM
  clear hmk0 hoM hgM
  go_enter Tryz.func115, Tryz.ntmps115
  go_wp2_with fail
  clear hmk
  go_loopw [5, 9] (fun v i wr => ∃ (k : Nat) (u : Value), u = v ∧ k ≤ 67 ∧ i = .int .i64 k ∧ Hid (wr.ownsRow w.heap.size 5 1 u (32 * k) (hV (chainsT (sumOf K) Bf Nf k)) ∧ Below w.heap.size w wr)) (fun _ i _ => 67 - (intOf i).toNat)
  case atStart =>
    exact ⟨0, _, rfl, by omega, rfl, HOM.out, hbM⟩
  case round =>
    obtain ⟨k, v, hvu, hk, rfl, hI⟩ := hrel
    subst hvu
    have hB0 := hI.out.2
    have hs0 := hB0.size
    by_cases hlt : k < 67
    · have k1 : (k : Int) < 67 := by omega
      go_wp2_with fail
      refine (HB.out wr hB0 k hlt).mono ?_
      rintro e w1 ⟨rfl, hb1⟩
      have hB1 : Below w.heap.size w w1 := hB0.trans (hb1.mono hs0)
      have hs1 := hB1.size
      have hs01 := hb1.size
      have x32 := H32.out k
      obtain ⟨x, hx⟩ : ∃ x, x = Bf k := ⟨_, rfl⟩
      rw [← hx] at x32 ⊢
      have HX : Hid (x = Bf k) := hx
      clear hx
      have ht1 : (w1.alloc (.cells z32.toArray 104)).there w1.heap.size 0 (hV x).length := by rw [hV_len x32]; exact there_z32 w1
      have ix := hV_info x32
      have ox := hV_one x
      go_wp2_with (first | (refine wpList_alloc_of rfl 104 rfl z32.toArray alloc_32 ?_) | (refine wpList_store_abs rfl 104 _ _ rfl w1.heap.size 0 (hV x) rfl rfl ht1 ix ox ?_; intro w2 _hw2 hr2 ht2 hb2; clear _hw2))
      have hb12 : Below w1.heap.size w1 w2 := ((Below.refl _ _).alloc (Nat.le_refl _) _).trans (hb2 _ (Nat.le_refl _))
      have hB2 : Below w.heap.size w w2 := hB1.trans (hb12.mono hs1)
      have hq2 : w1.heap.size < w2.heap.size := by have := (hb2 _ (Nat.le_refl _)).size; simp at this; omega
      have HR2 : Hid (w2.rangeAt w1.heap.size 0 (hV x)) := hr2
      have HT2 : Hid (w2.there w1.heap.size 0 32) := by have := ht2; rw [hV_len x32] at this; exact this
      clear ht1 hr2 ht2 hb2
      refine (HN.out w2 hB2 k hlt).mono ?_
      rintro e w3 ⟨rfl, hb3⟩
      have hB3 : Below w.heap.size w w3 := hB2.trans (hb3.mono hB2.size)
      have HO3 : Hid (w3.ownsRow w.heap.size 5 1 _ (32 * k) (hV (chainsT (sumOf K) Bf Nf k))) := own_below' (own_below' (own_below' hI.out.1 hb1) hb12) hb3
      have n15 := H15.out k
      obtain ⟨n, hn⟩ : ∃ n, n = Nf k := ⟨_, rfl⟩
      rw [← hn] at n15 ⊢
      have HNK : Hid (n = Nf k) := hn
      have HR3 : Hid (w3.rangeAt w1.heap.size 0 (hV x) ∧ w3.there w1.heap.size 0 32 ∧ w1.heap.size < w3.heap.size) := ⟨fun j u hu => (hb3.cell (p := ⟨w1.heap.size, 0 + j, none⟩) hq2).trans (HR2.out j u hu), there_below hb3 hq2 HT2.out, Nat.lt_of_lt_of_le hq2 hb3.size⟩
      have HB3 : Hid (Below w.heap.size w w3) := hB3
      clear hn hb1 hb12 hb3 HR2 HT2
      go_wp2_with fail
      go_loopw [18] (fun i w4 => ∃ j : Nat, j ≤ n ∧ i = .int .i64 j ∧ Hid (w4.rangeAt w1.heap.size 0 (hV (stepF (sumOf K) x j)) ∧ w4.there w1.heap.size 0 32 ∧ w1.heap.size < w4.heap.size ∧ w4.ownsRow w.heap.size 5 1 v (32 * k) (hV (chainsT (sumOf K) Bf Nf k)) ∧ Below w.heap.size w w4)) (fun i _ => n - (intOf i).toNat)
      case atStart => exact ⟨0, Nat.zero_le _, rfl, HR3.out.1, HR3.out.2.1, HR3.out.2.2, HO3.out, HB3.out⟩
      case round =>
        obtain ⟨j, hj, rfl, hJ⟩ := hrel
        have y32 : (stepF (sumOf K) x j).size = 32 := stepF_size (sumOf K) (sumOf_size K) x x32 j
        have hry := hJ.out.1
        have hqy := hJ.out.2.2.1
        have hBy := hJ.out.2.2.2.2
        by_cases hjn : j < n
        · have j1 : (j : Int) < (n : Int) := by omega
          obtain ⟨y, hy⟩ : ∃ y, y = stepF (sumOf K) x j := ⟨_, rfl⟩
          have hyn : sumOf K (m2 ++ y) = stepF (sumOf K) x (j + 1) := by rw [hy]; rfl
          have z32' : (stepF (sumOf K) x (j + 1)).size = 32 := stepF_size (sumOf K) (sumOf_size K) x x32 (j + 1)
          rw [← hy] at y32 hry
          have iy := hV_info y32
          have htx := htx_any y y32
          obtain ⟨z, hz'⟩ : ∃ z, z = stepF (sumOf K) x (j + 1) := ⟨_, rfl⟩
          rw [← hz'] at z32' hyn
          have hst := fun W (T : Tab K W) => of_step K y W y32 T
          simp only [hyn] at hst
          have HZ : Hid (z = stepF (sumOf K) x (j + 1)) := hz'
          have iz := hV_info z32'
          have oz := hV_one z
          have lz := hV_len z32'
          clear hy hyn hz'
          go_wp2_with (first | (refine wpList_load_mid rfl 104 (.tmp 7) rfl w1.heap.size 0 rfl (hV y) _ hry Tryz.underlying104 rfl iy ?_))
          refine (htx wr).mono ?_
          rintro e w5 ⟨rfl, hb5⟩
          clear htx
          have hB5 : Below w.heap.size w w5 := hBy.trans (hb5.mono hBy.size)
          have hs45 := hb5.size
          have hof := hst w5 (HT.out.below hB5)
          go_wp2_with fail
          refine hof.mono ?_
          rintro e w6 ⟨rfl, hb6⟩
          clear hof hst
          have hb56 : Below w5.heap.size w5 w6 := ((Below.refl _ _).alloc (Nat.le_refl _) _).trans (hb6.mono (by omega))
          have hb46 : Below wr.heap.size wr w6 := hb5.trans (hb56.mono hs45)
          have ht6 : w6.there w1.heap.size 0 (hV z).length := by rw [lz]; exact there_below hb46 hqy hJ.out.2.1
          have hB6 : Below w.heap.size w w6 := hBy.trans (hb46.mono hBy.size)
          have HO6 : Hid (w6.ownsRow w.heap.size 5 1 v (32 * k) (hV (chainsT (sumOf K) Bf Nf k))) := own_below' hJ.out.2.2.2.1 hb46
          have hq6 : w1.heap.size < w6.heap.size := Nat.lt_of_lt_of_le hqy hb46.size
          have HQ : Hid (v.ownBlock ≠ some w1.heap.size) := fun e => by have h1 := hI.out.1.lt w1.heap.size e; omega
          clear hb5 hb6 hb56 hb46 hry
          go_wp2_with (first | (refine wpList_store_abs rfl 104 _ _ rfl w1.heap.size 0 (hV z) rfl rfl ht6 iz oz ?_; intro w7 hw7 hr7 ht7 hb7; have HW7 : Hid (w7 = w6.setCells w1.heap.size 0 (hV z)) := hw7; clear hw7))
          refine ⟨⟨j + 1, by omega, by go_num, ?_, ?_, ?_, ?_, ?_⟩, ?_⟩
          · rw [← HZ.out]; exact hr7
          · have := ht7; rw [lz] at this; exact this
          · rw [HW7.out, size_setCells]; exact hq6
          · rw [HW7.out]; exact own_sameX HO6.out (fun g e => heap_setCells_other' _ _ _ _ _ (fun e' => HQ.out (by rw [← e']; exact e)))
          · rw [HW7.out]; exact below_setCells (by omega) _ _ _ hB6
          · simp [intOf]; omega
        · have j1 : ¬ (j : Int) < (n : Int) := by omega
          obtain rfl : j = n := by omega
          obtain ⟨y, hy⟩ : ∃ y, y = stepF (sumOf K) x j := ⟨_, rfl⟩
          rw [← hy] at y32 hry
          have hoA := hJ.out.2.2.2.1
          have hnews : ∀ q u, (hV y)[q]? = some u → wr.cell? ((⟨w1.heap.size, 0, none⟩ : Addr).add q) = some u := fun q u hu => by rw [Addr.add_mid]; exact hry q u hu
          have hs4 := hBy.size
          have oy := hV_one y
          have ly := hV_len y32
          have HE : Hid (chainsT (sumOf K) Bf Nf k ++ y = chainsT (sumOf K) Bf Nf (k + 1)) := by
            show _ = chainsT (sumOf K) Bf Nf k ++ stepF (sumOf K) (Bf k) (Nf k)
            rw [hy, ← HX.out, ← HNK.out]
          have HOL : Hid (∀ g, v.ownBlock = some g → w.heap.size ≤ g) := fun g e => (hoA.lt g e).1
          clear hy
          go_wp2_with (first | (refine wpList_append_lies _ rfl _ _ 85 rfl w.heap.size 5 i0 _ 1 1 Tryz.underlying85 hi hz hsz hby rfl (by decide) v (32 * k) _ rfl hoA ⟨w1.heap.size, 0, none⟩ 32 32 (hV y) rfl (by rw [ly]) hnews oy (by decide) (by unfold maxLen; omega) (by omega) hs4 _ rfl ?_; intro g8 cap8 w8 ho8 hgr8 hat8 hlt8))
          refine ⟨⟨k + 1, _, rfl, by omega, by go_num, ?_, ?_⟩, ?_⟩
          · rw [← HE.out, show 32 * (k + 1) = 32 * k + 32 by omega, hV_app]; exact ho8
          · exact hBy.trans ((Below.refl _ _).grown hgr8 hs4 HOL.out)
          · simp [intOf]; omega
    · obtain rfl : k = 67 := by omega
      obtain ⟨g, cap, hv, hg1, hg2, hr⟩ := own_open hI.out.1 (by omega)
      subst hv
      have hcv := convert_range (cap := cap) (ns := numsOf (chainsT (sumOf K) Bf Nf 67)) 2144 (by rw [numsOf_length, HCS.out]) hr
      rw [str_nums] at hcv
      generalize chainsT (sumOf K) Bf Nf 67 = C at *
      go_wp2_with fail
      go_ret
      exact ⟨rfl, hB0⟩

set_option maxRecDepth 10000 in
set_option maxHeartbeats 2000000 in
theorem along_fin (K : Nat → Int) (Bf : Nat → ByteArray) (Nf : Nat → Nat) (bs bd : Nat) (w : World) (T : Tab K w) (hb32 : ∀ c, (Bf c).size = 32) (hN : ∀ c, Nf c ≤ 15)
    (hB : ∀ W, Below w.heap.size w W → ∀ c : Nat, c < 67 → Calls Tryz.prog 153 #[.int .i64 c, .pointer (some ⟨bs, 0, none⟩)] W fun e w' => e = .returned (.agg (hV (Bf c)).toArray) ∧ Below W.heap.size W w')
    (hNf : ∀ W, Below w.heap.size w W → ∀ c : Nat, c < 67 → Calls Tryz.prog 154 #[.int .i64 c, .pointer (some ⟨bd, 0, none⟩)] W fun e w' => e = .returned (.int .i64 (Nf c : Nat)) ∧ Below W.heap.size W w') :
    Calls Tryz.prog 115 #[.func (.func 153) #[] #[.pointer (some ⟨bs, 0, none⟩)], .func (.func 154) #[] #[.pointer (some ⟨bd, 0, none⟩)]] w (strPost1 (chainsT (sumOf K) Bf Nf 67) w) := by
  have HB : Hid (∀ W, Below w.heap.size w W → ∀ c : Nat, c < 67 → Calls Tryz.prog 153 #[.int .i64 c, .pointer (some ⟨bs, 0, none⟩)] W fun e w' => e = .returned (.agg (hV (Bf c)).toArray) ∧ Below W.heap.size W w') := hB
  have HN : Hid (∀ W, Below w.heap.size w W → ∀ c : Nat, c < 67 → Calls Tryz.prog 154 #[.int .i64 c, .pointer (some ⟨bd, 0, none⟩)] W fun e w' => e = .returned (.int .i64 (Nf c : Nat)) ∧ Below W.heap.size W w') := hNf
  have HT : Hid (Tab K w) := T
  have H32 : Hid (∀ c, (Bf c).size = 32) := hb32
  have H15 : Hid (∀ c, Nf c ≤ 15) := hN
  have HCS : Hid (∀ k, (chainsT (sumOf K) Bf Nf k).size = 32 * k) := chainsT_size (sumOf K) (sumOf_size K) Bf Nf hb32
  clear hB hNf T hb32 hN
  obtain ⟨i0, hi, hz, hsz, hby⟩ := info_u8
  obtain ⟨wM, hmk0, hoM, hgM⟩ := run_make_own (P := Tryz.prog) w w.heap.size 85 5 i0 (.int .u8 0) 1 Tryz.underlying85 hi hz hsz .i64 .i64 2144 (by rw [hby]; omega) (by unfold maxLen; omega) (Nat.le_refl _)
  have hmk : (Instr.makeSlice 85 (.int .i64 0) (.int .i64 2144)).run Tryz.prog w = .ok (.slice (some ⟨w.heap.size, 0, none⟩) 0 2144) wM := hmk0
  have hbM : Below w.heap.size w wM := (Below.refl _ _).grown hgM (Nat.le_refl _) (fun g e => by cases e)
  have HOM : Hid (wM.ownsRow w.heap.size 5 1 (.slice (some ⟨w.heap.size, 0, none⟩) 0 2144) 0 []) := hoM
  clear hmk0 hoM hgM
  go_enter Tryz.func115, Tryz.ntmps115
  go_wp2_with fail
  clear hmk
  go_loopw [5, 9] (fun v i wr => ∃ (k : Nat) (u : Value), u = v ∧ k ≤ 67 ∧ i = .int .i64 k ∧ Hid (wr.ownsRow w.heap.size 5 1 u (32 * k) (hV (chainsT (sumOf K) Bf Nf k)) ∧ Below w.heap.size w wr)) (fun _ i _ => 67 - (intOf i).toNat)
  case atStart =>
    exact ⟨0, _, rfl, by omega, rfl, HOM.out, hbM⟩
  case round =>
    obtain ⟨k, v, hvu, hk, rfl, hI⟩ := hrel
    subst hvu
    have hB0 := hI.out.2
    have hs0 := hB0.size
    by_cases hlt : k < 67
    · have k1 : (k : Int) < 67 := by omega
      go_wp2_with fail
      refine (HB.out wr hB0 k hlt).mono ?_
      rintro e w1 ⟨rfl, hb1⟩
      have hB1 : Below w.heap.size w w1 := hB0.trans (hb1.mono hs0)
      have hs1 := hB1.size
      have hs01 := hb1.size
      have x32 := H32.out k
      obtain ⟨x, hx⟩ : ∃ x, x = Bf k := ⟨_, rfl⟩
      rw [← hx] at x32 ⊢
      have HX : Hid (x = Bf k) := hx
      clear hx
      have ht1 : (w1.alloc (.cells z32.toArray 104)).there w1.heap.size 0 (hV x).length := by rw [hV_len x32]; exact there_z32 w1
      have ix := hV_info x32
      have ox := hV_one x
      go_wp2_with (first | (refine wpList_alloc_of rfl 104 rfl z32.toArray alloc_32 ?_) | (refine wpList_store_abs rfl 104 _ _ rfl w1.heap.size 0 (hV x) rfl rfl ht1 ix ox ?_; intro w2 _hw2 hr2 ht2 hb2; clear _hw2))
      have hb12 : Below w1.heap.size w1 w2 := ((Below.refl _ _).alloc (Nat.le_refl _) _).trans (hb2 _ (Nat.le_refl _))
      have hB2 : Below w.heap.size w w2 := hB1.trans (hb12.mono hs1)
      have hq2 : w1.heap.size < w2.heap.size := by have := (hb2 _ (Nat.le_refl _)).size; simp at this; omega
      have HR2 : Hid (w2.rangeAt w1.heap.size 0 (hV x)) := hr2
      have HT2 : Hid (w2.there w1.heap.size 0 32) := by have := ht2; rw [hV_len x32] at this; exact this
      clear ht1 hr2 ht2 hb2
      refine (HN.out w2 hB2 k hlt).mono ?_
      rintro e w3 ⟨rfl, hb3⟩
      have hB3 : Below w.heap.size w w3 := hB2.trans (hb3.mono hB2.size)
      have HO3 : Hid (w3.ownsRow w.heap.size 5 1 _ (32 * k) (hV (chainsT (sumOf K) Bf Nf k))) := own_below' (own_below' (own_below' hI.out.1 hb1) hb12) hb3
      have n15 := H15.out k
      obtain ⟨n, hn⟩ : ∃ n, n = Nf k := ⟨_, rfl⟩
      rw [← hn] at n15 ⊢
      have HNK : Hid (n = Nf k) := hn
      have HR3 : Hid (w3.rangeAt w1.heap.size 0 (hV x) ∧ w3.there w1.heap.size 0 32 ∧ w1.heap.size < w3.heap.size) := ⟨fun j u hu => (hb3.cell (p := ⟨w1.heap.size, 0 + j, none⟩) hq2).trans (HR2.out j u hu), there_below hb3 hq2 HT2.out, Nat.lt_of_lt_of_le hq2 hb3.size⟩
      have HB3 : Hid (Below w.heap.size w w3) := hB3
      clear hn hb1 hb12 hb3 HR2 HT2
      go_wp2_with fail
      go_loopw [18] (fun i w4 => ∃ j : Nat, j ≤ n ∧ i = .int .i64 j ∧ Hid (w4.rangeAt w1.heap.size 0 (hV (stepF (sumOf K) x j)) ∧ w4.there w1.heap.size 0 32 ∧ w1.heap.size < w4.heap.size ∧ w4.ownsRow w.heap.size 5 1 v (32 * k) (hV (chainsT (sumOf K) Bf Nf k)) ∧ Below w.heap.size w w4)) (fun i _ => n - (intOf i).toNat)
      case atStart => exact ⟨0, Nat.zero_le _, rfl, HR3.out.1, HR3.out.2.1, HR3.out.2.2, HO3.out, HB3.out⟩
      case round =>
        obtain ⟨j, hj, rfl, hJ⟩ := hrel
        have y32 : (stepF (sumOf K) x j).size = 32 := stepF_size (sumOf K) (sumOf_size K) x x32 j
        have hry := hJ.out.1
        have hqy := hJ.out.2.2.1
        have hBy := hJ.out.2.2.2.2
        by_cases hjn : j < n
        · have j1 : (j : Int) < (n : Int) := by omega
          obtain ⟨y, hy⟩ : ∃ y, y = stepF (sumOf K) x j := ⟨_, rfl⟩
          have hyn : sumOf K (m2 ++ y) = stepF (sumOf K) x (j + 1) := by rw [hy]; rfl
          have z32' : (stepF (sumOf K) x (j + 1)).size = 32 := stepF_size (sumOf K) (sumOf_size K) x x32 (j + 1)
          rw [← hy] at y32 hry
          have iy := hV_info y32
          have htx := htx_any y y32
          obtain ⟨z, hz'⟩ : ∃ z, z = stepF (sumOf K) x (j + 1) := ⟨_, rfl⟩
          rw [← hz'] at z32' hyn
          have hst := fun W (T : Tab K W) => of_step K y W y32 T
          simp only [hyn] at hst
          have HZ : Hid (z = stepF (sumOf K) x (j + 1)) := hz'
          have iz := hV_info z32'
          have oz := hV_one z
          have lz := hV_len z32'
          clear hy hyn hz'
          go_wp2_with (first | (refine wpList_load_mid rfl 104 (.tmp 7) rfl w1.heap.size 0 rfl (hV y) _ hry Tryz.underlying104 rfl iy ?_))
          refine (htx wr).mono ?_
          rintro e w5 ⟨rfl, hb5⟩
          clear htx
          have hB5 : Below w.heap.size w w5 := hBy.trans (hb5.mono hBy.size)
          have hs45 := hb5.size
          have hof := hst w5 (HT.out.below hB5)
          go_wp2_with fail
          refine hof.mono ?_
          rintro e w6 ⟨rfl, hb6⟩
          clear hof hst
          have hb56 : Below w5.heap.size w5 w6 := ((Below.refl _ _).alloc (Nat.le_refl _) _).trans (hb6.mono (by omega))
          have hb46 : Below wr.heap.size wr w6 := hb5.trans (hb56.mono hs45)
          have ht6 : w6.there w1.heap.size 0 (hV z).length := by rw [lz]; exact there_below hb46 hqy hJ.out.2.1
          have hB6 : Below w.heap.size w w6 := hBy.trans (hb46.mono hBy.size)
          have HO6 : Hid (w6.ownsRow w.heap.size 5 1 v (32 * k) (hV (chainsT (sumOf K) Bf Nf k))) := own_below' hJ.out.2.2.2.1 hb46
          have hq6 : w1.heap.size < w6.heap.size := Nat.lt_of_lt_of_le hqy hb46.size
          have HQ : Hid (v.ownBlock ≠ some w1.heap.size) := fun e => by have h1 := hI.out.1.lt w1.heap.size e; omega
          clear hb5 hb6 hb56 hb46 hry
          go_wp2_with (first | (refine wpList_store_abs rfl 104 _ _ rfl w1.heap.size 0 (hV z) rfl rfl ht6 iz oz ?_; intro w7 hw7 hr7 ht7 hb7; have HW7 : Hid (w7 = w6.setCells w1.heap.size 0 (hV z)) := hw7; clear hw7))
          refine ⟨⟨j + 1, by omega, by go_num, ?_, ?_, ?_, ?_, ?_⟩, ?_⟩
          · rw [← HZ.out]; exact hr7
          · have := ht7; rw [lz] at this; exact this
          · rw [HW7.out, size_setCells]; exact hq6
          · rw [HW7.out]; exact own_sameX HO6.out (fun g e => heap_setCells_other' _ _ _ _ _ (fun e' => HQ.out (by rw [← e']; exact e)))
          · rw [HW7.out]; exact below_setCells (by omega) _ _ _ hB6
          · simp [intOf]; omega
        · have j1 : ¬ (j : Int) < (n : Int) := by omega
          obtain rfl : j = n := by omega
          obtain ⟨y, hy⟩ : ∃ y, y = stepF (sumOf K) x j := ⟨_, rfl⟩
          rw [← hy] at y32 hry
          have hoA := hJ.out.2.2.2.1
          have hnews : ∀ q u, (hV y)[q]? = some u → wr.cell? ((⟨w1.heap.size, 0, none⟩ : Addr).add q) = some u := fun q u hu => by rw [Addr.add_mid]; exact hry q u hu
          have hs4 := hBy.size
          have oy := hV_one y
          have ly := hV_len y32
          have HE : Hid (chainsT (sumOf K) Bf Nf k ++ y = chainsT (sumOf K) Bf Nf (k + 1)) := by
            show _ = chainsT (sumOf K) Bf Nf k ++ stepF (sumOf K) (Bf k) (Nf k)
            rw [hy, ← HX.out, ← HNK.out]
          have HOL : Hid (∀ g, v.ownBlock = some g → w.heap.size ≤ g) := fun g e => (hoA.lt g e).1
          clear hy
          go_wp2_with (first | (refine wpList_append_lies _ rfl _ _ 85 rfl w.heap.size 5 i0 _ 1 1 Tryz.underlying85 hi hz hsz hby rfl (by decide) v (32 * k) _ rfl hoA ⟨w1.heap.size, 0, none⟩ 32 32 (hV y) rfl (by rw [ly]) hnews oy (by decide) (by unfold maxLen; omega) (by omega) hs4 _ rfl ?_; intro g8 cap8 w8 ho8 hgr8 hat8 hlt8))
          refine ⟨⟨k + 1, _, rfl, by omega, by go_num, ?_, ?_⟩, ?_⟩
          · rw [← HE.out, show 32 * (k + 1) = 32 * k + 32 by omega, hV_app]; exact ho8
          · exact hBy.trans ((Below.refl _ _).grown hgr8 hs4 HOL.out)
          · simp [intOf]; omega
    · obtain rfl : k = 67 := by omega
      obtain ⟨g, cap, hv, hg1, hg2, hr⟩ := own_open hI.out.1 (by omega)
      subst hv
      have hcv := convert_range (cap := cap) (ns := numsOf (chainsT (sumOf K) Bf Nf 67)) 2144 (by rw [numsOf_length, HCS.out]) hr
      rw [str_nums] at hcv
      generalize chainsT (sumOf K) Bf Nf 67 = C at *
      go_wp2_with fail
      go_ret
      exact ⟨rfl, hB0⟩
theorem hV_get (h : ByteArray) (k : Nat) (hk : k < h.size) : (hV h)[k]? = some (.int .u8 (bAt h k)) := by
  have hl : k < h.data.toList.length := by rw [← Lib.size_eq]; exact hk
  unfold hV bytesV numsOf bAt
  rw [List.map_map, List.getElem?_map, List.getElem?_eq_getElem hl, List.getD, List.getElem?_eq_getElem hl]; rfl
theorem index_hash (h : ByteArray) (hh : h.size = 32) (k : Nat) (hk : k < 32) (w : World) : (Instr.index 104 (.agg (hV h).toArray) (.int .i64 (k : Int))).run Tryz.prog w = .ok (.int .u8 (bAt h k)) w := by
  have hn : (0 : Int) ≤ (k : Int) ∧ (k : Int) < 32 := by omega
  have h1 : (k : Int) < 32 := by omega
  obtain ⟨i, hi, hz, hsz, hby⟩ := info_u8
  simp [Instr.index, run_underlying Tryz.underlying104, asIntOf, hn, h1, go_sem]
  rw [if_pos hk, hV_get h k (by omega)]
  rfl
theorem and15 : ∀ x : Fin 256, bits .and .u8 (x.val : Int) 15 = (x.val : Int) % 16 := by decide +kernel
set_option maxRecDepth 100000 in
theorem and15i : ∀ x : Fin 1024, bits .and .i64 (x.val : Int) 15 = (x.val : Int) % 16 := by decide +kernel
/-- A hash's half bytes, the high one first. -/
def nib (h : ByteArray) (c : Nat) : Nat := if c % 2 = 0 then (bAt h (c / 2)).toNat / 16 else (bAt h (c / 2)).toNat % 16
theorem bAt_lt (h : ByteArray) (i : Nat) : (bAt h i).toNat < 256 := by have := bAt_hi h i; have := bAt_lo h i; omega
theorem nib_lt (h : ByteArray) (c : Nat) : nib h c < 16 := by
  have := bAt_lt h (c / 2)
  unfold nib; split <;> omega
/-- How much the first k lack of 15 each. -/
def lackN (h : ByteArray) : Nat → Nat
  | 0 => 0
  | c + 1 => lackN h c + (15 - nib h c)
theorem lackN_le (h : ByteArray) : ∀ c, lackN h c ≤ 15 * c
  | 0 => Nat.le_refl _
  | c + 1 => by have := lackN_le h c; simp only [lackN]; omega
/-- How many steps of a chain a signature of this hash shows. -/
def dig (h : ByteArray) (c : Nat) : Nat := if c < 64 then nib h c else if c = 64 then lackN h 64 / 256 else if c = 65 then lackN h 64 / 16 % 16 else lackN h 64 % 16
theorem dig_le (h : ByteArray) (c : Nat) : dig h c ≤ 15 := by
  have h1 := nib_lt h c
  have h2 := lackN_le h 64
  unfold dig
  split
  · omega
  · split
    · omega
    · split <;> omega
def digV (h : ByteArray) : List Value := (List.range 67).map fun c => .int .i64 (dig h c : Nat)
theorem digV_len (h : ByteArray) : (digV h).length = 67 := by unfold digV; simp
theorem digV_get (h : ByteArray) (c : Nat) (hc : c < 67) : (digV h)[c]? = some (.int .i64 (dig h c : Nat)) := by unfold digV; simp [hc]
theorem digV_one (h : ByteArray) : ∀ u ∈ digV h, u.oneCell' = true := fun u hu => by unfold digV at hu; simp at hu; obtain ⟨c, _, rfl⟩ := hu; rfl
def z67 : List Value := List.replicate 67 (.int .i64 0)
theorem alloc_67 (w : World) : (Instr.alloc 246 true (.tuple #[])).run Tryz.prog w = .ok (.pointer (some ⟨w.heap.size, 0, none⟩)) (w.alloc (.cells z67.toArray 246)) := by kernel_rfl
theorem info_67 : (Tryz.prog.info? 246).map (·.size) = some 67 := by kernel_rfl
theorem digV_info (h : ByteArray) : (Tryz.prog.info? 246).map (·.size) = some (digV h).length := by rw [digV_len]; exact info_67
theorem there_z67 (w : World) : (w.alloc (.cells z67.toArray 246)).there w.heap.size 0 67 := by
  have h := there_new w z67.toArray 246
  rwa [show z67.toArray.size = 67 by decide +kernel] at h
theorem lack_two (h : ByteArray) (i : Nat) : lackN h (2 * (i + 1)) = lackN h (2 * i) + (15 - (bAt h i).toNat / 16) + (15 - (bAt h i).toNat % 16) := by
  have e0 : nib h (2 * i) = (bAt h i).toNat / 16 := by unfold nib; rw [if_pos (by omega), show 2 * i / 2 = i by omega]
  have e1 : nib h (2 * i + 1) = (bAt h i).toNat % 16 := by unfold nib; rw [if_neg (by omega), show (2 * i + 1) / 2 = i by omega]
  rw [show 2 * (i + 1) = 2 * i + 1 + 1 by omega, lackN, lackN, e0, e1]

def cellI (w : World) (q j : Nat) (x : Nat) : Prop := w.cell? ⟨q, j, none⟩ = some (.int .i64 (x : Nat))

set_option maxRecDepth 10000 in
set_option maxHeartbeats 2000000 in
theorem digits_any (h : ByteArray) (hh : h.size = 32) (w : World) :
    Calls Tryz.prog 151 #[.agg (hV h).toArray] w fun e w' => e = .returned (.agg (digV h).toArray) ∧ Below w.heap.size w w' := by
  obtain ⟨wB, hwB⟩ : ∃ wB, wB = ((w.alloc (.cells (hV h).toArray 104)).alloc (.cells z67.toArray 246)).alloc (.cells z67.toArray 246) := ⟨_, rfl⟩
  have hbB : Below w.heap.size w wB := by rw [hwB]; exact (((Below.refl _ _).alloc (Nat.le_refl _) _).alloc (by simp) _).alloc (by simp; omega) _
  have hr0 : wB.rangeAt w.heap.size 0 (hV h) := by rw [hwB]; exact World.rangeAt_alloc (World.rangeAt_alloc (range_new w (hV h) 104) _) _
  have ht1 : wB.there (w.heap.size + 1) 0 67 := by
    rw [hwB]
    have := there_z67 (w.alloc (.cells (hV h).toArray 104))
    rw [show (w.alloc (.cells (hV h).toArray 104)).heap.size = w.heap.size + 1 by simp] at this
    exact there_below ((Below.refl _ _).alloc (Nat.le_refl _) _) (by simp) this
  have ht2 : wB.there (w.heap.size + 1 + 1) 0 67 := by
    rw [hwB]
    have := there_z67 ((w.alloc (.cells (hV h).toArray 104)).alloc (.cells z67.toArray 246))
    simpa using this
  have hc2 : ∀ j, j < 67 → wB.cell? ⟨w.heap.size + 1 + 1, j, none⟩ = some (.int .i64 0) := fun j hj => by
    rw [hwB]
    have := range_new ((w.alloc (.cells (hV h).toArray 104)).alloc (.cells z67.toArray 246)) z67 246 j (.int .i64 0) (by show (List.replicate 67 (Value.int .i64 0))[j]? = _; rw [List.getElem?_replicate, if_pos hj])
    simpa using this
  have ih := hV_info hh
  have HIX : Hid (∀ (k : Nat) (w : World), k < 32 → (Instr.index 104 (.agg (hV h).toArray) (.int .i64 (k : Int))).run Tryz.prog w = .ok (.int .u8 (bAt h k)) w) := fun k w hk => index_hash h hh k hk w
  have idv := digV_info h
  have odv := digV_one h
  go_enter Tryz.func151, Tryz.ntmps151
  rw [hwB] at hr0
  go_wp2_with (first | (refine wpList_alloc_of rfl 246 rfl z67.toArray alloc_67 ?_) | (refine wpList_load_mid rfl 104 _ rfl w.heap.size 0 rfl (hV h) _ hr0 Tryz.underlying104 rfl ih ?_))
  rw [← hwB]
  clear hr0 hwB
  go_loopw [4, 11] (fun l i wr => ∃ k : Nat, k ≤ 32 ∧ i = .int .i64 k ∧ l = .int .i64 (lackN h (2 * k) : Nat) ∧ Hid ((∀ j, j < 67 → cellI wr (w.heap.size + 1 + 1) j (if j < 2 * k then nib h j else 0)) ∧ wr.there (w.heap.size + 1 + 1) 0 67 ∧ wr.there (w.heap.size + 1) 0 67 ∧ Below w.heap.size w wr)) (fun _ i _ => 32 - (intOf i).toNat)
  case atStart => exact ⟨0, by omega, rfl, rfl, fun j hj => by rw [if_neg (by omega)]; exact hc2 j hj, ht2, ht1, hbB⟩
  case round =>
    clear hc2 ht1 ht2 hbB
    obtain ⟨k, hk, rfl, rfl, hI⟩ := hrel
    by_cases hlt : k < 32
    · have k1 : (k : Int) < 32 := by omega
      have hix := fun w => HIX.out k w hlt
      have b8 := bAt_lt h k
      have blo := bAt_lo h k
      obtain ⟨x, hx⟩ : ∃ x, x = (bAt h k).toNat := ⟨_, rfl⟩
      have hx2 : bAt h k = (x : Int) := by omega
      rw [← hx] at b8
      simp only [hx2] at hix
      have ha := and15 ⟨x, b8⟩
      simp only at ha
      have hl2 := lack_two h k
      rw [← hx] at hl2
      have hlk := lackN_le h (2 * k)
      obtain ⟨L, hL⟩ : ∃ L, L = lackN h (2 * k) := ⟨_, rfl⟩
      rw [← hL] at hl2 hlk ⊢
      have HL2 : Hid (lackN h (2 * (k + 1)) = L + (15 - x / 16) + (15 - x % 16)) := hl2
      have e0 : nib h (2 * k) = x / 16 := by unfold nib; rw [if_pos (by omega), show 2 * k / 2 = k by omega, hx]
      have e1 : nib h (2 * k + 1) = x % 16 := by unfold nib; rw [if_neg (by omega), show (2 * k + 1) / 2 = k by omega, hx]
      have HE0 : Hid (nib h (2 * k) = x / 16) := e0
      have HE1 : Hid (nib h (2 * k + 1) = x % 16) := e1
      have f0 : wr.frozen? ⟨w.heap.size + 1 + 1, 2 * k, none⟩ = false := by have := (hI.out.2.1 (2 * k) (by omega)).2; rwa [Nat.zero_add] at this
      have c0 : wr.cell? ⟨w.heap.size + 1 + 1, 2 * k, none⟩ = some (.int .i64 0) := by have := hI.out.1 (2 * k) (by omega); rw [if_neg (by omega)] at this; exact this
      obtain ⟨wx, hwx⟩ : ∃ wx, wx = wr.setCell ⟨w.heap.size + 1 + 1, 2 * k, none⟩ (.int .i64 ((x : Int) / 16)) := ⟨_, rfl⟩
      have f1 : wx.frozen? ⟨w.heap.size + 1 + 1, 2 * k + 1, none⟩ = false := by rw [hwx]; have := (World.there_setCells hI.out.2.1 (w.heap.size + 1 + 1) (2 * k) [.int .i64 ((x : Int) / 16)] (2 * k + 1) (by omega)).2; rwa [Nat.zero_add] at this
      have c1 : wx.cell? ⟨w.heap.size + 1 + 1, 2 * k + 1, none⟩ = some (.int .i64 0) := by
        rw [hwx, World.cell?_setCell_other (w := wr) (a := ⟨w.heap.size + 1 + 1, 2 * k, none⟩) (b := ⟨w.heap.size + 1 + 1, 2 * k + 1, none⟩) _ (by intro e; have := congrArg Addr.off e; simp at this)]
        have := hI.out.1 (2 * k + 1) (by omega); rw [if_neg (by omega)] at this; exact this
      rw [hwx] at f1 c1
      clear hwx hx hx2 hL e0 e1 hl2
      go_wp2_with fail
      refine ⟨⟨k + 1, by omega, by go_num, ?_, ?_, ?_, ?_, ?_⟩, ?_⟩
      · rw [HL2.out]; congr 2; omega
      · intro j hj
        by_cases e1 : j = 2 * k + 1
        · subst e1
          rw [if_pos (by omega), HE1.out]
          show World.cell? _ _ = some (.int .i64 ((x % 16 : Nat) : Int))
          rw [show ((x % 16 : Nat) : Int) = (x : Int) % 16 by omega]
          exact World.cell?_setCell_same _ _ _ c1
        · show World.cell? _ _ = _
          rw [World.cell?_setCell_other (w := wr.setCell ⟨w.heap.size + 1 + 1, 2 * k, none⟩ (.int .i64 ((x : Int) / 16))) (a := ⟨w.heap.size + 1 + 1, 2 * k + 1, none⟩) (b := ⟨w.heap.size + 1 + 1, j, none⟩) _ (by intro e; have := congrArg Addr.off e; simp at this; omega)]
          by_cases e0 : j = 2 * k
          · subst e0
            rw [if_pos (by omega), HE0.out]
            rw [show ((x / 16 : Nat) : Int) = (x : Int) / 16 by omega]
            exact World.cell?_setCell_same _ _ _ c0
          · rw [World.cell?_setCell_other (w := wr) (a := ⟨w.heap.size + 1 + 1, 2 * k, none⟩) (b := ⟨w.heap.size + 1 + 1, j, none⟩) _ (by intro e; have := congrArg Addr.off e; simp at this; omega)]
            have := hI.out.1 j hj
            rw [show (if j < 2 * (k + 1) then nib h j else 0) = (if j < 2 * k then nib h j else 0) by
              by_cases e2 : j < 2 * k
              · rw [if_pos e2, if_pos (by omega)]
              · rw [if_neg e2, if_neg (by omega)]]
            exact this
      · exact World.there_setCells (World.there_setCells hI.out.2.1 (w.heap.size + 1 + 1) (2 * k) [_]) (w.heap.size + 1 + 1) (2 * k + 1) [_]
      · exact World.there_setCells (World.there_setCells hI.out.2.2.1 (w.heap.size + 1 + 1) (2 * k) [_]) (w.heap.size + 1 + 1) (2 * k + 1) [_]
      · exact (hI.out.2.2.2.setCell (p := ⟨w.heap.size + 1 + 1, 2 * k, none⟩) (by show w.heap.size ≤ w.heap.size + 1 + 1; omega) _).setCell (p := ⟨w.heap.size + 1 + 1, 2 * k + 1, none⟩) (by show w.heap.size ≤ w.heap.size + 1 + 1; omega) _
      · simp [intOf]; omega
    · obtain rfl : k = 32 := by omega
      have hlk := lackN_le h 64
      obtain ⟨L, hL⟩ : ∃ L, L = lackN h 64 := ⟨_, rfl⟩
      rw [show 2 * 32 = 64 from rfl, ← hL]
      rw [← hL] at hlk
      have HL : Hid (L = lackN h 64) := hL
      clear hL HIX
      go_wp2_with fail
      go_loopw [38] (fun i w2 => ∃ r : Nat, r ≤ 3 ∧ i = .int .i64 r ∧ Hid ((∀ j, j < 67 → cellI w2 (w.heap.size + 1 + 1) j (if j < 64 then nib h j else if 66 < j + r then dig h j else 0)) ∧ w2.there (w.heap.size + 1 + 1) 0 67 ∧ w2.there (w.heap.size + 1) 0 67 ∧ Below w.heap.size w w2)) (fun i _ => 3 - (intOf i).toNat)
      case atStart =>
        refine ⟨0, by omega, rfl, fun j hj => ?_, hI.out.2⟩
        have := hI.out.1 j hj
        rw [show (if j < 64 then nib h j else if 66 < j + 0 then dig h j else 0) = (if j < 2 * 32 then nib h j else 0) by
          by_cases e : j < 64
          · rw [if_pos e, if_pos (by omega)]
          · rw [if_neg e, if_neg (by omega), if_neg (by omega)]]
        exact this
      case round =>
        clear hI
        obtain ⟨r, hr, rfl, hI⟩ := hrel
        by_cases hlt2 : r < 3
        · have r1 : (r : Int) < 3 := by omega
          have fz : wr.frozen? ⟨w.heap.size + 1 + 1, 66 - r, none⟩ = false := by have := (hI.out.2.1 (66 - r) (by omega)).2; rwa [Nat.zero_add] at this
          obtain ⟨y, cz⟩ : ∃ y, wr.cell? ⟨w.heap.size + 1 + 1, 66 - r, none⟩ = some y := ⟨_, hI.out.1 (66 - r) (by omega)⟩
          have hb : ∀ z, Below w.heap.size w (wr.setCell ⟨w.heap.size + 1 + 1, 66 - r, none⟩ z) := fun z => hI.out.2.2.2.setCell (p := ⟨w.heap.size + 1 + 1, 66 - r, none⟩) (by show w.heap.size ≤ w.heap.size + 1 + 1; omega) _
          have fin : ∀ (d : Nat), d = dig h (66 - r) → (∀ j, j < 67 → cellI (wr.setCell ⟨w.heap.size + 1 + 1, 66 - r, none⟩ (.int .i64 (d : Nat))) (w.heap.size + 1 + 1) j (if j < 64 then nib h j else if 66 < j + (r + 1) then dig h j else 0)) ∧ (wr.setCell ⟨w.heap.size + 1 + 1, 66 - r, none⟩ (.int .i64 (d : Nat))).there (w.heap.size + 1 + 1) 0 67 ∧ (wr.setCell ⟨w.heap.size + 1 + 1, 66 - r, none⟩ (.int .i64 (d : Nat))).there (w.heap.size + 1) 0 67 ∧ Below w.heap.size w (wr.setCell ⟨w.heap.size + 1 + 1, 66 - r, none⟩ (.int .i64 (d : Nat))) := fun d hd => by
            refine ⟨fun j hj => ?_, World.there_setCells hI.out.2.1 (w.heap.size + 1 + 1) (66 - r) [_], World.there_setCells hI.out.2.2.1 (w.heap.size + 1 + 1) (66 - r) [_], hb _⟩
            by_cases e : j = 66 - r
            · subst e
              rw [if_neg (by omega), if_pos (by omega), ← hd]
              exact World.cell?_setCell_same _ _ _ cz
            · show World.cell? _ _ = _
              rw [World.cell?_setCell_other (w := wr) (a := ⟨w.heap.size + 1 + 1, 66 - r, none⟩) (b := ⟨w.heap.size + 1 + 1, j, none⟩) _ (by intro e'; have := congrArg Addr.off e'; simp at this; omega)]
              have := hI.out.1 j hj
              rw [show (if j < 64 then nib h j else if 66 < j + (r + 1) then dig h j else 0) = (if j < 64 then nib h j else if 66 < j + r then dig h j else 0) by
                by_cases e1 : j < 64
                · rw [if_pos e1, if_pos e1]
                · rw [if_neg e1, if_neg e1]
                  by_cases e2 : 66 < j + r
                  · rw [if_pos e2, if_pos (by omega)]
                  · rw [if_neg e2, if_neg (by omega)]]
              exact this
          have FIN : Hid (∀ (d : Nat), d = dig h (66 - r) → (∀ j, j < 67 → cellI (wr.setCell ⟨w.heap.size + 1 + 1, 66 - r, none⟩ (.int .i64 (d : Nat))) (w.heap.size + 1 + 1) j (if j < 64 then nib h j else if 66 < j + (r + 1) then dig h j else 0)) ∧ (wr.setCell ⟨w.heap.size + 1 + 1, 66 - r, none⟩ (.int .i64 (d : Nat))).there (w.heap.size + 1 + 1) 0 67 ∧ (wr.setCell ⟨w.heap.size + 1 + 1, 66 - r, none⟩ (.int .i64 (d : Nat))).there (w.heap.size + 1) 0 67 ∧ Below w.heap.size w (wr.setCell ⟨w.heap.size + 1 + 1, 66 - r, none⟩ (.int .i64 (d : Nat)))) := fin
          clear fin hb hI
          have hd0 : Hid (dig h 66 = L % 16 ∧ dig h 65 = L / 16 % 16 ∧ dig h 64 = L / 256) := by
            show dig h 66 = L % 16 ∧ dig h 65 = L / 16 % 16 ∧ dig h 64 = L / 256
            rw [HL.out]; exact ⟨rfl, rfl, rfl⟩
          have a0 := and15i ⟨L, by omega⟩
          have a1 := and15i ⟨L / 16, by omega⟩
          have a2 := and15i ⟨L / 256, by omega⟩
          have d1 : ((L / 16 : Nat) : Int) = (L : Int) / 16 := by omega
          have d2 : ((L / 256 : Nat) : Int) = (L : Int) / 256 := by omega
          simp only [d1, d2] at a0 a1 a2
          obtain rfl | rfl | rfl : r = 0 ∨ r = 1 ∨ r = 2 := by omega
          · clear a1 a2 d1 d2
            go_wp2_with fail
            refine ⟨⟨1, by omega, rfl, ?_⟩, ?_⟩
            · have := FIN.out (L % 16) (by rw [hd0.out.1])
              rw [show ((L % 16 : Nat) : Int) = (L : Int) % 16 by omega] at this
              exact this
            · simp [intOf]
          · clear a0 a2 d1 d2
            go_wp2_with fail
            refine ⟨⟨2, by omega, rfl, ?_⟩, ?_⟩
            · have := FIN.out (L / 16 % 16) (by rw [hd0.out.2.1])
              rw [show ((L / 16 % 16 : Nat) : Int) = (L : Int) / 16 % 16 by omega] at this
              exact this
            · simp [intOf]
          · clear a0 a1 d1 d2
            go_wp2_with fail
            refine ⟨⟨3, by omega, rfl, ?_⟩, ?_⟩
            · have := FIN.out (L / 256) (by rw [hd0.out.2.2])
              rw [show ((L / 256 : Nat) : Int) = (L : Int) / 256 % 16 by omega] at this
              exact this
            · simp [intOf]
        · obtain rfl : r = 3 := by omega
          have hrg : wr.rangeAt (w.heap.size + 1 + 1) 0 (digV h) := fun j u hu => by
            have hj : j < 67 := by
              rcases Nat.lt_or_ge j 67 with e | e
              · exact e
              · rw [List.getElem?_eq_none (by rw [digV_len]; exact e)] at hu; cases hu
            rw [digV_get h j hj] at hu
            obtain rfl := Option.some.inj hu
            rw [Nat.zero_add]
            have := hI.out.1 j hj
            rw [show (if j < 64 then nib h j else if 66 < j + 3 then dig h j else 0) = dig h j by
              by_cases e : j < 64
              · rw [if_pos e]; unfold dig; rw [if_pos e]
              · rw [if_neg e, if_pos (by omega)]] at this
            exact this
          have ht : wr.there (w.heap.size + 1) 0 (digV h).length := by rw [digV_len]; exact hI.out.2.2.1
          have hBr := hI.out.2.2.2
          clear hI
          go_wp2_with (first | (refine wpList_load_mid rfl 246 _ rfl (w.heap.size + 1 + 1) 0 rfl (digV h) _ hrg Tryz.underlying246 rfl idv ?_) | (refine wpList_store_abs rfl 246 _ _ rfl (w.heap.size + 1) 0 (digV h) rfl rfl ht idv odv ?_; intro w9 _hw9 hr9 _ht9 hb9; clear _hw9 _ht9))
          exact ret_cell rfl (w.heap.size + 1) 0 (digV h) _ rfl hr9 Tryz.underlying246 rfl idv rfl ⟨rfl, hBr.trans (hb9 _ (by omega))⟩
end Go.Proofs.YteglimjonofdeaaGreatDoor
