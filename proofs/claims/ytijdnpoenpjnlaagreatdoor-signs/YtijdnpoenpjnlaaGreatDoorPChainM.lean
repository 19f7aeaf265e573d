import Derived.Test.YtijdnpoenpjnlaaGreatDoorMTreeM
import Derived.Laws.OwnMore
set_option linter.unusedVariables false
set_option linter.unusedSimpArgs false
namespace Go.Proofs.YtijdnpoenpjnlaaGreatDoor
open Go.RowKit

def m2 : ByteArray := ⟨#[2]⟩
def mK : ByteArray := ⟨#[75]⟩
/-- A chain's value, some steps on. -/
def stepF (H : ByteArray → ByteArray) (x : ByteArray) : Nat → ByteArray
  | 0 => x
  | n + 1 => H (m2 ++ stepF H x n)
theorem stepF_size (H : ByteArray → ByteArray) (hH : ∀ s, (H s).size = 32) (x : ByteArray) (hx : x.size = 32) : ∀ n, (stepF H x n).size = 32
  | 0 => hx
  | n + 1 => hH _
/-- The ends of the first k chains, one behind the other. -/
def chainsT (H : ByteArray → ByteArray) (B : Nat → ByteArray) (N : Nat → Nat) : Nat → ByteArray
  | 0 => ⟨#[]⟩
  | k + 1 => chainsT H B N k ++ stepF H (B k) (N k)
theorem chainsT_size (H : ByteArray → ByteArray) (hH : ∀ s, (H s).size = 32) (B : Nat → ByteArray) (N : Nat → Nat) (hB : ∀ c, (B c).size = 32) : ∀ k, (chainsT H B N k).size = 32 * k
  | 0 => rfl
  | k + 1 => by rw [chainsT, ByteArray.size_append, chainsT_size H hH B N hB k, stepF_size H hH _ (hB k)]; omega
/-- One step of a chain. -/
theorem of_step (K : Nat → Int) (x : ByteArray) (W : World) (hx : x.size = 32) (T : Tab K W) :
    Calls Tryz.prog 54 #[.slice (some ⟨W.heap.size, 0, none⟩) 2 2] (W.alloc (.cells #[.string ⟨#[2]⟩, .string x] 9)) fun e w' => e = .returned (.agg (hV (sumOf K (m2 ++ x))).toArray) ∧ Below (W.heap.size + 1) (W.alloc (.cells #[.string ⟨#[2]⟩, .string x] 9)) w' := by
  have T0 := T.below ((Below.refl _ W).alloc (Nat.le_refl _) (.cells #[.string ⟨#[2]⟩, .string x] 9))
  have hof := of_any [m2, x] W.heap.size 2 K (W.alloc (.cells #[.string ⟨#[2]⟩, .string x] 9)) (by simp) (by simp)
    (by simp [joinN, numsOf_length, m2, numsOf]; omega)
    (fun j hj => by
      rw [World.cell?_alloc_at _ _ _ _ (by simp)]
      have hj2 : j < 2 := hj
      obtain rfl | rfl : j = 0 ∨ j = 1 := by omega
      all_goals rfl) T0.lt T0.cells
  rw [hV_sum K (joinN [m2, x]) (m2 ++ x) (by rw [nums_app]; simp [joinN])] at hof
  rw [show [m2, x].length = 2 from rfl] at hof
  simpa using hof
def strPost1 (h : ByteArray) (w : World) (e : Ending) (w' : World) : Prop := e = .returned (.string h) ∧ Below w.heap.size w w'

set_option maxRecDepth 10000 in
set_option maxHeartbeats 2000000 in
theorem along_leaf (K : Nat → Int) (Bf : Nat → ByteArray) (Nf : Nat → Nat) (bs bk : Nat) (w : World) (T : Tab K w) (hb32 : ∀ c, (Bf c).size = 32) (hN : ∀ c, Nf c ≤ 15)
    (hB : ∀ W, Below w.heap.size w W → ∀ c : Nat, c < 67 → Calls Tryz.prog 216 #[.int .i64 c, .pointer (some ⟨bs, 0, none⟩), .pointer (some ⟨bk, 0, none⟩)] W fun e w' => e = .returned (.agg (hV (Bf c)).toArray) ∧ Below W.heap.size W w')
    (hNf : ∀ W, Below w.heap.size w W → ∀ c : Nat, c < 67 → Calls Tryz.prog 215 #[.int .i64 c] W fun e w' => e = .returned (.int .i64 (Nf c : Nat)) ∧ Below W.heap.size W w') :
    Calls Tryz.prog 174 #[.func (.func 216) #[] #[.pointer (some ⟨bs, 0, none⟩), .pointer (some ⟨bk, 0, none⟩)], .func (.func 215) #[] #[]] w (strPost1 (chainsT (sumOf K) Bf Nf 67) w) := by
  have HB : Hid (∀ W, Below w.heap.size w W → ∀ c : Nat, c < 67 → Calls Tryz.prog 216 #[.int .i64 c, .pointer (some ⟨bs, 0, none⟩), .pointer (some ⟨bk, 0, none⟩)] W fun e w' => e = .returned (.agg (hV (Bf c)).toArray) ∧ Below W.heap.size W w') := hB
  have HN : Hid (∀ W, Below w.heap.size w W → ∀ c : Nat, c < 67 → Calls Tryz.prog 215 #[.int .i64 c] W fun e w' => e = .returned (.int .i64 (Nf c : Nat)) ∧ Below W.heap.size W w') := hNf
  have HT : Hid (Tab K w) := T
  have H32 : Hid (∀ c, (Bf c).size = 32) := hb32
  have H15 : Hid (∀ c, Nf c ≤ 15) := hN
  have HCS : Hid (∀ k, (chainsT (sumOf K) Bf Nf k).size = 32 * k) := chainsT_size (sumOf K) (sumOf_size K) Bf Nf hb32
  clear hB hNf T hb32 hN
  obtain ⟨i0, hi, hz, hsz, hby⟩ := info_u8
  obtain ⟨wM, hmk0, hoM, hgM⟩ := run_make_own (P := Tryz.prog) w w.heap.size 42 5 i0 (.int .u8 0) 1 Tryz.underlying42 hi hz hsz .i64 .i64 2144 (by rw [hby]; omega) (by unfold maxLen; omega) (Nat.le_refl _)
  have hmk : (Instr.makeSlice 42 (.int .i64 0) (.int .i64 2144)).run Tryz.prog w = .ok (.slice (some ⟨w.heap.size, 0, none⟩) 0 2144) wM := hmk0
  have hbM : Below w.heap.size w wM := (Below.refl _ _).grown hgM (Nat.le_refl _) (fun g e => by cases e)
  have HOM : Hid (wM.ownsRow w.heap.size 5 1 (.slice (some ⟨w.heap.size, 0, none⟩) 0 2144) 0 []) := hoM
  clear hmk0 hoM hgM
  go_enter Tryz.func174, Tryz.ntmps174
  go_wp2_with fail
  clear hmk
  go_loopw [5, 9] (fun v i wr => ∃ (k : Nat) (u : Value), u = v ∧ k ≤ 67 ∧ i = .int .i64 k ∧ Hid (wr.ownsRow w.heap.size 5 1 u (32 * k) (hV (chainsT (sumOf K) Bf Nf k)) ∧ Below w.heap.size w wr)) (fun _ i _ => 67 - (intOf i).toNat)
  case atStart =>
    exact ⟨0, _, rfl, by omega, rfl, HOM.out, hbM⟩
  case round =>
    obtain ⟨k, v, hvu, hk, rfl, hI⟩ := hrel
    subst hvu
    have hB0 := hI.out.2
    have hs0 := hB0.size
    by_cases hlt : k < 67
    · have k1 : (k : Int) < 67 := by omega
      go_wp2_with fail
      refine (HB.out wr hB0 k hlt).mono ?_
      rintro e w1 ⟨rfl, hb1⟩
      have hB1 : Below w.heap.size w w1 := hB0.trans (hb1.mono hs0)
      have hs1 := hB1.size
      have hs01 := hb1.size
      have x32 := H32.out k
      obtain ⟨x, hx⟩ : ∃ x, x = Bf k := ⟨_, rfl⟩
      rw [← hx] at x32 ⊢
      have HX : Hid (x = Bf k) := hx
      clear hx
      have ht1 : (w1.alloc (.cells z32.toArray 90)).there w1.heap.size 0 (hV x).length := by rw [hV_len x32]; exact there_z32 w1
      have ix := hV_info x32
      have ox := hV_one x
      go_wp2_with (first | (refine wpList_alloc_of rfl 90 rfl z32.toArray alloc_32 ?_) | (refine wpList_store_abs rfl 90 _ _ rfl w1.heap.size 0 (hV x) rfl rfl ht1 ix ox ?_; intro w2 _hw2 hr2 ht2 hb2; clear _hw2))
      have hb12 : Below w1.heap.size w1 w2 := ((Below.refl _ _).alloc (Nat.le_refl _) _).trans (hb2 _ (Nat.le_refl _))
      have hB2 : Below w.heap.size w w2 := hB1.trans (hb12.mono hs1)
      have hq2 : w1.heap.size < w2.heap.size := by have := (hb2 _ (Nat.le_refl _)).size; simp at this; omega
      have HR2 : Hid (w2.rangeAt w1.heap.size 0 (hV x)) := hr2
      have HT2 : Hid (w2.there w1.heap.size 0 32) := by have := ht2; rw [hV_len x32] at this; exact this
      clear ht1 hr2 ht2 hb2
      refine (HN.out w2 hB2 k hlt).mono ?_
      rintro e w3 ⟨rfl, hb3⟩
      have hB3 : Below w.heap.size w w3 := hB2.trans (hb3.mono hB2.size)
      have HO3 : Hid (w3.ownsRow w.heap.size 5 1 _ (32 * k) (hV (chainsT (sumOf K) Bf Nf k))) := own_below' (own_below' (own_below' hI.out.1 hb1) hb12) hb3
      have n15 := H15.out k
      obtain ⟨n, hn⟩ : ∃ n, n = Nf k := ⟨_, rfl⟩
      rw [← hn] at n15 ⊢
      have HNK : Hid (n = Nf k) := hn
      have HR3 : Hid (w3.rangeAt w1.heap.size 0 (hV x) ∧ w3.there w1.heap.size 0 32 ∧ w1.heap.size < w3.heap.size) := ⟨fun j u hu => (hb3.cell (p := ⟨w1.heap.size, 0 + j, none⟩) hq2).trans (HR2.out j u hu), there_below hb3 hq2 HT2.out, Nat.lt_of_lt_of_le hq2 hb3.size⟩
      have HB3 : Hid (Below w.heap.size w w3) := hB3
      clear hn hb1 hb12 hb3 HR2 HT2
      go_wp2_with fail
      go_loopw [18] (fun i w4 => ∃ j : Nat, j ≤ n ∧ i = .int .i64 j ∧ Hid (w4.rangeAt w1.heap.size 0 (hV (stepF (sumOf K) x j)) ∧ w4.there w1.heap.size 0 32 ∧ w1.heap.size < w4.heap.size ∧ w4.ownsRow w.heap.size 5 1 v (32 * k) (hV (chainsT (sumOf K) Bf Nf k)) ∧ Below w.heap.size w w4)) (fun i _ => n - (intOf i).toNat)
      case atStart => exact ⟨0, Nat.zero_le _, rfl, HR3.out.1, HR3.out.2.1, HR3.out.2.2, HO3.out, HB3.out⟩
      case round =>
        obtain ⟨j, hj, rfl, hJ⟩ := hrel
        have y32 : (stepF (sumOf K) x j).size = 32 := stepF_size (sumOf K) (sumOf_size K) x x32 j
        have hry := hJ.out.1
        have hqy := hJ.out.2.2.1
        have hBy := hJ.out.2.2.2.2
        by_cases hjn : j < n
        · have j1 : (j : Int) < (n : Int) := by omega
          obtain ⟨y, hy⟩ : ∃ y, y = stepF (sumOf K) x j := ⟨_, rfl⟩
          have hyn : sumOf K (m2 ++ y) = stepF (sumOf K) x (j + 1) := by rw [hy]; rfl
          have z32' : (stepF (sumOf K) x (j + 1)).size = 32 := stepF_size (sumOf K) (sumOf_size K) x x32 (j + 1)
          rw [← hy] at y32 hry
          have iy := hV_info y32
          have htx := htx_any y y32
          obtain ⟨z, hz'⟩ : ∃ z, z = stepF (sumOf K) x (j + 1) := ⟨_, rfl⟩
          rw [← hz'] at z32' hyn
          have hst := fun W (T : Tab K W) => of_step K y W y32 T
          simp only [hyn] at hst
          have HZ : Hid (z = stepF (sumOf K) x (j + 1)) := hz'
          have iz := hV_info z32'
          have oz := hV_one z
          have lz := hV_len z32'
          clear hy hyn hz'
          go_wp2_with (first | (refine wpList_load_mid rfl 90 (.tmp 7) rfl w1.heap.size 0 rfl (hV y) _ hry Tryz.underlying90 rfl iy ?_))
          refine (htx wr).mono ?_
          rintro e w5 ⟨rfl, hb5⟩
          clear htx
          have hB5 : Below w.heap.size w w5 := hBy.trans (hb5.mono hBy.size)
          have hs45 := hb5.size
          have hof := hst w5 (HT.out.below hB5)
          go_wp2_with fail
          refine hof.mono ?_
          rintro e w6 ⟨rfl, hb6⟩
          clear hof hst
          have hb56 : Below w5.heap.size w5 w6 := ((Below.refl _ _).alloc (Nat.le_refl _) _).trans (hb6.mono (by omega))
          have hb46 : Below wr.heap.size wr w6 := hb5.trans (hb56.mono hs45)
          have ht6 : w6.there w1.heap.size 0 (hV z).length := by rw [lz]; exact there_below hb46 hqy hJ.out.2.1
          have hB6 : Below w.heap.size w w6 := hBy.trans (hb46.mono hBy.size)
          have HO6 : Hid (w6.ownsRow w.heap.size 5 1 v (32 * k) (hV (chainsT (sumOf K) Bf Nf k))) := own_below' hJ.out.2.2.2.1 hb46
          have hq6 : w1.heap.size < w6.heap.size := Nat.lt_of_lt_of_le hqy hb46.size
          have HQ : Hid (v.ownBlock ≠ some w1.heap.size) := fun e => by have h1 := hI.out.1.lt w1.heap.size e; omega
          clear hb5 hb6 hb56 hb46 hry
          go_wp2_with (first | (refine wpList_store_abs rfl 90 _ _ rfl w1.heap.size 0 (hV z) rfl rfl ht6 iz oz ?_; intro w7 hw7 hr7 ht7 hb7; have HW7 : Hid (w7 = w6.setCells w1.heap.size 0 (hV z)) := hw7; clear hw7))
          refine ⟨⟨j + 1, by omega, by go_num, ?_, ?_, ?_, ?_, ?_⟩, ?_⟩
          · rw [← HZ.out]; exact hr7
          · have := ht7; rw [lz] at this; exact this
          · rw [HW7.out, size_setCells]; exact hq6
          · rw [HW7.out]; exact own_sameX HO6.out (fun g e => heap_setCells_other' _ _ _ _ _ (fun e' => HQ.out (by rw [← e']; exact e)))
          · rw [HW7.out]; exact below_setCells (by omega) _ _ _ hB6
          · simp [intOf]; omega
        · have j1 : ¬ (j : Int) < (n : Int) := by omega
          obtain rfl : j = n := by omega
          obtain ⟨y, hy⟩ : ∃ y, y = stepF (sumOf K) x j := ⟨_, rfl⟩
          rw [← hy] at y32 hry
          have hoA := hJ.out.2.2.2.1
          have hnews : ∀ q u, (hV y)[q]? = some u → wr.cell? ((⟨w1.heap.size, 0, none⟩ : Addr).add q) = some u := fun q u hu => by rw [Addr.add_mid]; exact hry q u hu
          have hs4 := hBy.size
          have oy := hV_one y
          have ly := hV_len y32
          have HE : Hid (chainsT (sumOf K) Bf Nf k ++ y = chainsT (sumOf K) Bf Nf (k + 1)) := by
            show _ = chainsT (sumOf K) Bf Nf k ++ stepF (sumOf K) (Bf k) (Nf k)
            rw [hy, ← HX.out, ← HNK.out]
          have HOL : Hid (∀ g, v.ownBlock = some g → w.heap.size ≤ g) := fun g e => (hoA.lt g e).1
          clear hy
          go_wp2_with (first | (refine wpList_append_lies _ rfl _ _ 42 rfl w.heap.size 5 i0 _ 1 1 Tryz.underlying42 hi hz hsz hby rfl (by decide) v (32 * k) _ rfl hoA ⟨w1.heap.size, 0, none⟩ 32 32 (hV y) rfl (by rw [ly]) hnews oy (by decide) (by unfold maxLen; omega) (by omega) hs4 _ rfl ?_; intro g8 cap8 w8 ho8 hgr8 hat8 hlt8))
          refine ⟨⟨k + 1, _, rfl, by omega, by go_num, ?_, ?_⟩, ?_⟩
          · rw [← HE.out, show 32 * (k + 1) = 32 * k + 32 by omega, hV_app]; exact ho8
          · exact hBy.trans ((Below.refl _ _).grown hgr8 hs4 HOL.out)
          · simp [intOf]; omega
    · obtain rfl : k = 67 := by omega
      obtain ⟨g, cap, hv, hg1, hg2, hr⟩ := own_open hI.out.1 (by omega)
      subst hv
      have hcv := convert_range (cap := cap) (ns := numsOf (chainsT (sumOf K) Bf Nf 67)) 2144 (by rw [numsOf_length, HCS.out]) hr
      rw [str_nums] at hcv
      generalize chainsT (sumOf K) Bf Nf 67 = C at *
      go_wp2_with fail
      go_ret
      exact ⟨rfl, hB0⟩

set_option maxRecDepth 10000 in
set_option maxHeartbeats 2000000 in
theorem along_sign (K : Nat → Int) (Bf : Nat → ByteArray) (Nf : Nat → Nat) (bs bk bd : Nat) (w : World) (T : Tab K w) (hb32 : ∀ c, (Bf c).size = 32) (hN : ∀ c, Nf c ≤ 15)
    (hB : ∀ W, Below w.heap.size w W → ∀ c : Nat, c < 67 → Calls Tryz.prog 216 #[.int .i64 c, .pointer (some ⟨bs, 0, none⟩), .pointer (some ⟨bk, 0, none⟩)] W fun e w' => e = .returned (.agg (hV (Bf c)).toArray) ∧ Below W.heap.size W w')
    (hNf : ∀ W, Below w.heap.size w W → ∀ c : Nat, c < 67 → Calls Tryz.prog 176 #[.int .i64 c, .pointer (some ⟨bd, 0, none⟩)] W fun e w' => e = .returned (.int .i64 (Nf c : Nat)) ∧ Below W.heap.size W w') :
    Calls Tryz.prog 174 #[.func (.func 216) #[] #[.pointer (some ⟨bs, 0, none⟩), .pointer (some ⟨bk, 0, none⟩)], .func (.func 176) #[] #[.pointer (some ⟨bd, 0, none⟩)]] w (strPost1 (chainsT (sumOf K) Bf Nf 67) w) := by
  have HB : Hid (∀ W, Below w.heap.size w W → ∀ c : Nat, c < 67 → Calls Tryz.prog 216 #[.int .i64 c, .pointer (some ⟨bs, 0, none⟩), .pointer (some ⟨bk, 0, none⟩)] W fun e w' => e = .returned (.agg (hV (Bf c)).toArray) ∧ Below W.heap.size W w') := hB
  have HN : Hid (∀ W, Below w.heap.size w W → ∀ c : Nat, c < 67 → Calls Tryz.prog 176 #[.int .i64 c, .pointer (some ⟨bd, 0, none⟩)] W fun e w' => e = .returned (.int .i64 (Nf c : Nat)) ∧ Below W.heap.size W w') := hNf
  have HT : Hid (Tab K w) := T
  have H32 : Hid (∀ c, (Bf c).size = 32) := hb32
  have H15 : Hid (∀ c, Nf c ≤ 15) := hN
  have HCS : Hid (∀ k, (chainsT (sumOf K) Bf Nf k).size = 32 * k) := chainsT_size (sumOf K) (sumOf_size K) Bf Nf hb32
  clear hB hNf T hb32 hN
  obtain ⟨i0, hi, hz, hsz, hby⟩ := info_u8
  obtain ⟨wM, hmk0, hoM, hgM⟩ := run_make_own (P := Tryz.prog) w w.heap.size 42 5 i0 (.int .u8 0) 1 Tryz.underlying42 hi hz hsz .i64 .i64 2144 (by rw [hby]; omega) (by unfold maxLen; omega) (Nat.le_refl _)
  have hmk : (Instr.makeSlice 42 (.int .i64 0) (.int .i64 2144)).run Tryz.prog w = .ok (.slice (some ⟨w.heap.size, 0, none⟩) 0 2144) wM := hmk0
  have hbM : Below w.heap.size w wM := (Below.refl _ _).grown hgM (Nat.le_refl _) (fun g e => by cases e)
  have HOM : Hid (wM.ownsRow w.heap.size 5 1 (.slice (some ⟨w.heap.size, 0, none⟩) 0 2144) 0 []) := hoM
  clear hmk0 hoM hgM
  go_enter Tryz.func174, Tryz.ntmps174
  go_wp2_with fail
  clear hmk
  go_loopw [5, 9] (fun v i wr => ∃ (k : Nat) (u : Value), u = v ∧ k ≤ 67 ∧ i = .int .i64 k ∧ Hid (wr.ownsRow w.heap.size 5 1 u (32 * k) (hV (chainsT (sumOf K) Bf Nf k)) ∧ Below w.heap.size w wr)) (fun _ i _ => 67 - (intOf i).toNat)
  case atStart =>
    exact ⟨0, _, rfl, by omega, rfl, HOM.out, hbM⟩
  case round =>
    obtain ⟨k, v, hvu, hk, rfl, hI⟩ := hrel
    subst hvu
    have hB0 := hI.out.2
    have hs0 := hB0.size
    by_cases hlt : k < 67
    · have k1 : (k : Int) < 67 := by omega
      go_wp2_with fail
      refine (HB.out wr hB0 k hlt).mono ?_
      rintro e w1 ⟨rfl, hb1⟩
      have hB1 : Below w.heap.size w w1 := hB0.trans (hb1.mono hs0)
      have hs1 := hB1.size
      have hs01 := hb1.size
      have x32 := H32.out k
      obtain ⟨x, hx⟩ : ∃ x, x = Bf k := ⟨_, rfl⟩
      rw [← hx] at x32 ⊢
      have HX : Hid (x = Bf k) := hx
      clear hx
      have ht1 : (w1.alloc (.cells z32.toArray 90)).there w1.heap.size 0 (hV x).length := by rw [hV_len x32]; exact there_z32 w1
      have ix := hV_info x32
      have ox := hV_one x
      go_wp2_with (first | (refine wpList_alloc_of rfl 90 rfl z32.toArray alloc_32 ?_) | (refine wpList_store_abs rfl 90 _ _ rfl w1.heap.size 0 (hV x) rfl rfl ht1 ix ox ?_; intro w2 _hw2 hr2 ht2 hb2; clear _hw2))
      have hb12 : Below w1.heap.size w1 w2 := ((Below.refl _ _).alloc (Nat.le_refl _) _).trans (hb2 _ (Nat.le_refl _))
      have hB2 : Below w.heap.size w w2 := hB1.trans (hb12.mono hs1)
      have hq2 : w1.heap.size < w2.heap.size := by have := (hb2 _ (Nat.le_refl _)).size; simp at this; omega
      have HR2 : Hid (w2.rangeAt w1.heap.size 0 (hV x)) := hr2
      have HT2 : Hid (w2.there w1.heap.size 0 32) := by have := ht2; rw [hV_len x32] at this; exact this
      clear ht1 hr2 ht2 hb2
      refine (HN.out w2 hB2 k hlt).mono ?_
      rintro e w3 ⟨rfl, hb3⟩
      have hB3 : Below w.heap.size w w3 := hB2.trans (hb3.mono hB2.size)
      have HO3 : Hid (w3.ownsRow w.heap.size 5 1 _ (32 * k) (hV (chainsT (sumOf K) Bf Nf k))) := own_below' (own_below' (own_below' hI.out.1 hb1) hb12) hb3
      have n15 := H15.out k
      obtain ⟨n, hn⟩ : ∃ n, n = Nf k := ⟨_, rfl⟩
      rw [← hn] at n15 ⊢
      have HNK : Hid (n = Nf k) := hn
      have HR3 : Hid (w3.rangeAt w1.heap.size 0 (hV x) ∧ w3.there w1.heap.size 0 32 ∧ w1.heap.size < w3.heap.size) := ⟨fun j u hu => (hb3.cell (p := ⟨w1.heap.size, 0 + j, none⟩) hq2).trans (HR2.out j u hu), there_below hb3 hq2 HT2.out, Nat.lt_of_lt_of_le hq2 hb3.size⟩
      have HB3 : Hid (Below w.heap.size w w3) := hB3
      clear hn hb1 hb12 hb3 HR2 HT2
      go_wp2_with fail
      go_loopw [18] (fun i w4 => ∃ j : Nat, j ≤ n ∧ i = .int .i64 j ∧ Hid (w4.rangeAt w1.heap.size 0 (hV (stepF (sumOf K) x j)) ∧ w4.there w1.heap.size 0 32 ∧ w1.heap.size < w4.heap.size ∧ w4.ownsRow w.heap.size 5 1 v (32 * k) (hV (chainsT (sumOf K) Bf Nf k)) ∧ Below w.heap.size w w4)) (fun i _ => n - (intOf i).toNat)
      case atStart => exact ⟨0, Nat.zero_le _, rfl, HR3.out.1, HR3.out.2.1, HR3.out.2.2, HO3.out, HB3.out⟩
      case round =>
        obtain ⟨j, hj, rfl, hJ⟩ := hrel
        have y32 : (stepF (sumOf K) x j).size = 32 := stepF_size (sumOf K) (sumOf_size K) x x32 j
        have hry := hJ.out.1
        have hqy := hJ.out.2.2.1
        have hBy := hJ.out.2.2.2.2
        by_cases hjn : j < n
        · have j1 : (j : Int) < (n : Int) := by omega
          obtain ⟨y, hy⟩ : ∃ y, y = stepF (sumOf K) x j := ⟨_, rfl⟩
          have hyn : sumOf K (m2 ++ y) = stepF (sumOf K) x (j + 1) := by rw [hy]; rfl
          have z32' : (stepF (sumOf K) x (j + 1)).size = 32 := stepF_size (sumOf K) (sumOf_size K) x x32 (j + 1)
          rw [← hy] at y32 hry
          have iy := hV_info y32
          have htx := htx_any y y32
          obtain ⟨z, hz'⟩ : ∃ z, z = stepF (sumOf K) x (j + 1) := ⟨_, rfl⟩
          rw [← hz'] at z32' hyn
          have hst := fun W (T : Tab K W) => of_step K y W y32 T
          simp only [hyn] at hst
          have HZ : Hid (z = stepF (sumOf K) x (j + 1)) := hz'
          have iz := hV_info z32'
          have oz := hV_one z
          have lz := hV_len z32'
          clear hy hyn hz'
          go_wp2_with (first | (refine wpList_load_mid rfl 90 (.tmp 7) rfl w1.heap.size 0 rfl (hV y) _ hry Tryz.underlying90 rfl iy ?_))
          refine (htx wr).mono ?_
          rintro e w5 ⟨rfl, hb5⟩
          clear htx
          have hB5 : Below w.heap.size w w5 := hBy.trans (hb5.mono hBy.size)
          have hs45 := hb5.size
          have hof := hst w5 (HT.out.below hB5)
          go_wp2_with fail
          refine hof.mono ?_
          rintro e w6 ⟨rfl, hb6⟩
          clear hof hst
          have hb56 : Below w5.heap.size w5 w6 := ((Below.refl _ _).alloc (Nat.le_refl _) _).trans (hb6.mono (by omega))
          have hb46 : Below wr.heap.size wr w6 := hb5.trans (hb56.mono hs45)
          have ht6 : w6.there w1.heap.size 0 (hV z).length := by rw [lz]; exact there_below hb46 hqy hJ.out.2.1
          have hB6 : Below w.heap.size w w6 := hBy.trans (hb46.mono hBy.size)
          have HO6 : Hid (w6.ownsRow w.heap.size 5 1 v (32 * k) (hV (chainsT (sumOf K) Bf Nf k))) := own_below' hJ.out.2.2.2.1 hb46
          have hq6 : w1.heap.size < w6.heap.size := Nat.lt_of_lt_of_le hqy hb46.size
          have HQ : Hid (v.ownBlock ≠ some w1.heap.size) := fun e => by have h1 := hI.out.1.lt w1.heap.size e; omega
          clear hb5 hb6 hb56 hb46 hry
          go_wp2_with (first | (refine wpList_store_abs rfl 90 _ _ rfl w1.heap.size 0 (hV z) rfl rfl ht6 iz oz ?_; intro w7 hw7 hr7 ht7 hb7; have HW7 : Hid (w7 = w6.setCells w1.heap.size 0 (hV z)) := hw7; clear hw7))
          refine ⟨⟨j + 1, by omega, by go_num, ?_, ?_, ?_, ?_, ?_⟩, ?_⟩
          · rw [← HZ.out]; exact hr7
          · have := ht7; rw [lz] at this; exact this
          · rw [HW7.out, size_setCells]; exact hq6
          · rw [HW7.out]; exact own_sameX HO6.out (fun g e => heap_setCells_other' _ _ _ _ _ (fun e' => HQ.out (by rw [← e']; exact e)))
          · rw [HW7.out]; exact below_setCells (by omega) _ _ _ hB6
          · simp [intOf]; omega
        · have j1 : ¬ (j : Int) < (n : Int) := by omega
          obtain rfl : j = n := by omega
          obtain ⟨y, hy⟩ : ∃ y, y = stepF (sumOf K) x j := ⟨_, rfl⟩
          rw [← hy] at y32 hry
          have hoA := hJ.out.2.2.2.1
          have hnews : ∀ q u, (hV y)[q]? = some u → wr.cell? ((⟨w1.heap.size, 0, none⟩ : Addr).add q) = some u := fun q u hu => by rw [Addr.add_mid]; exact hry q u hu
          have hs4 := hBy.size
          have oy := hV_one y
          have ly := hV_len y32
          have HE : Hid (chainsT (sumOf K) Bf Nf k ++ y = chainsT (sumOf K) Bf Nf (k + 1)) := by
            show _ = chainsT (sumOf K) Bf Nf k ++ stepF (sumOf K) (Bf k) (Nf k)
            rw [hy, ← HX.out, ← HNK.out]
          have HOL : Hid (∀ g, v.ownBlock = some g → w.heap.size ≤ g) := fun g e => (hoA.lt g e).1
          clear hy
          go_wp2_with (first | (refine wpList_append_lies _ rfl _ _ 42 rfl w.heap.size 5 i0 _ 1 1 Tryz.underlying42 hi hz hsz hby rfl (by decide) v (32 * k) _ rfl hoA ⟨w1.heap.size, 0, none⟩ 32 32 (hV y) rfl (by rw [ly]) hnews oy (by decide) (by unfold maxLen; omega) (by omega) hs4 _ rfl ?_; intro g8 cap8 w8 ho8 hgr8 hat8 hlt8))
          refine ⟨⟨k + 1, _, rfl, by omega, by go_num, ?_, ?_⟩, ?_⟩
          · rw [← HE.out, show 32 * (k + 1) = 32 * k + 32 by omega, hV_app]; exact ho8
          · exact hBy.trans ((Below.refl _ _).grown hgr8 hs4 HOL.out)
          · simp [intOf]; omega
    · obtain rfl : k = 67 := by omega
      obtain ⟨g, cap, hv, hg1, hg2, hr⟩ := own_open hI.out.1 (by omega)
      subst hv
      have hcv := convert_range (cap := cap) (ns := numsOf (chainsT (sumOf K) Bf Nf 67)) 2144 (by rw [numsOf_length, HCS.out]) hr
      rw [str_nums] at hcv
      generalize chainsT (sumOf K) Bf Nf 67 = C at *
      go_wp2_with fail
      go_ret
      exact ⟨rfl, hB0⟩

set_option maxRecDepth 10000 in
set_option maxHeartbeats 2000000 in
theorem along_fin (K : Nat → Int) (Bf : Nat → ByteArray) (Nf : Nat → Nat) (bs bd : Nat) (w : World) (T : Tab K w) (hb32 : ∀ c, (Bf c).size = 32) (hN : ∀ c, Nf c ≤ 15)
    (hB : ∀ W, Below w.heap.size w W → ∀ c : Nat, c < 67 → Calls Tryz.prog 217 #[.int .i64 c, .pointer (some ⟨bs, 0, none⟩)] W fun e w' => e = .returned (.agg (hV (Bf c)).toArray) ∧ Below W.heap.size W w')
    (hNf : ∀ W, Below w.heap.size w W → ∀ c : Nat, c < 67 → Calls Tryz.prog 218 #[.int .i64 c, .pointer (some ⟨bd, 0, none⟩)] W fun e w' => e = .returned (.int .i64 (Nf c : Nat)) ∧ Below W.heap.size W w') :
    Calls Tryz.prog 174 #[.func (.func 217) #[] #[.pointer (some ⟨bs, 0, none⟩)], .func (.func 218) #[] #[.pointer (some ⟨bd, 0, none⟩)]] w (strPost1 (chainsT (sumOf K) Bf Nf 67) w) := by
  have HB : Hid (∀ W, Below w.heap.size w W → ∀ c : Nat, c < 67 → Calls Tryz.prog 217 #[.int .i64 c, .pointer (some ⟨bs, 0, none⟩)] W fun e w' => e = .returned (.agg (hV (Bf c)).toArray) ∧ Below W.heap.size W w') := hB
  have HN : Hid (∀ W, Below w.heap.size w W → ∀ c : Nat, c < 67 → Calls Tryz.prog 218 #[.int .i64 c, .pointer (some ⟨bd, 0, none⟩)] W fun e w' => e = .returned (.int .i64 (Nf c : Nat)) ∧ Below W.heap.size W w') := hNf
  have HT : Hid (Tab K w) := T
  have H32 : Hid (∀ c, (Bf c).size = 32) := hb32
  have H15 : Hid (∀ c, Nf c ≤ 15) := hN
  have HCS : Hid (∀ k, (chainsT (sumOf K) Bf Nf k).size = 32 * k) := chainsT_size (sumOf K) (sumOf_size K) Bf Nf hb32
  clear hB hNf T hb32 hN
  obtain ⟨i0, hi, hz, hsz, hby⟩ := info_u8
  obtain ⟨wM, hmk0, hoM, hgM⟩ := run_make_own (P := Tryz.prog) w w.heap.size 42 5 i0 (.int .u8 0) 1 Tryz.underlying42 hi hz hsz .i64 .i64 2144 (by rw [hby]; omega) (by unfold maxLen; omega) (Nat.le_refl _)
  have hmk : (Instr.makeSlice 42 (.int .i64 0) (.int .i64 2144)).run Tryz.prog w = .ok (.slice (some ⟨w.heap.size, 0, none⟩) 0 2144) wM := hmk0
  have hbM : Below w.heap.size w wM := (Below.refl _ _).grown hgM (Nat.le_refl _) (fun g e => by cases e)
  have HOM : Hid (wM.ownsRow w.heap.size 5 1 (.slice (some ⟨w.heap.size, 0, none⟩) 0 2144) 0 []) := hoM
  clear hmk0 hoM hgM
  go_enter Tryz.func174, Tryz.ntmps174
  go_wp2_with fail
  clear hmk
  go_loopw [5, 9] (fun v i wr => ∃ (k : Nat) (u : Value), u = v ∧ k ≤ 67 ∧ i = .int .i64 k ∧ Hid (wr.ownsRow w.heap.size 5 1 u (32 * k) (hV (chainsT (sumOf K) Bf Nf k)) ∧ Below w.heap.size w wr)) (fun _ i _ => 67 - (intOf i).toNat)
  case atStart =>
    exact ⟨0, _, rfl, by omega, rfl, HOM.out, hbM⟩
  case round =>
    obtain ⟨k, v, hvu, hk, rfl, hI⟩ := hrel
    subst hvu
    have hB0 := hI.out.2
    have hs0 := hB0.size
    by_cases hlt : k < 67
    · have k1 : (k : Int) < 67 := by omega
      go_wp2_with fail
      refine (HB.out wr hB0 k hlt).mono ?_
      rintro e w1 ⟨rfl, hb1⟩
      have hB1 : Below w.heap.size w w1 := hB0.trans (hb1.mono hs0)
      have hs1 := hB1.size
      have hs01 := hb1.size
      have x32 := H32.out k
      obtain ⟨x, hx⟩ : ∃ x, x = Bf k := ⟨_, rfl⟩
      rw [← hx] at x32 ⊢
      have HX : Hid (x = Bf k) := hx
      clear hx
      have ht1 : (w1.alloc (.cells z32.toArray 90)).there w1.heap.size 0 (hV x).length := by rw [hV_len x32]; exact there_z32 w1
      have ix := hV_info x32
      have ox := hV_one x
      go_wp2_with (first | (refine wpList_alloc_of rfl 90 rfl z32.toArray alloc_32 ?_) | (refine wpList_store_abs rfl 90 _ _ rfl w1.heap.size 0 (hV x) rfl rfl ht1 ix ox ?_; intro w2 _hw2 hr2 ht2 hb2; clear _hw2))
      have hb12 : Below w1.heap.size w1 w2 := ((Below.refl _ _).alloc (Nat.le_refl _) _).trans (hb2 _ (Nat.le_refl _))
      have hB2 : Below w.heap.size w w2 := hB1.trans (hb12.mono hs1)
      have hq2 : w1.heap.size < w2.heap.size := by have := (hb2 _ (Nat.le_refl _)).size; simp at this; omega
      have HR2 : Hid (w2.rangeAt w1.heap.size 0 (hV x)) := hr2
      have HT2 : Hid (w2.there w1.heap.size 0 32) := by have := ht2; rw [hV_len x32] at this; exact this
      clear ht1 hr2 ht2 hb2
      refine (HN.out w2 hB2 k hlt).mono ?_
      rintro e w3 ⟨rfl, hb3⟩
      have hB3 : Below w.heap.size w w3 := hB2.trans (hb3.mono hB2.size)
      have HO3 : Hid (w3.ownsRow w.heap.size 5 1 _ (32 * k) (hV (chainsT (sumOf K) Bf Nf k))) := own_below' (own_below' (own_below' hI.out.1 hb1) hb12) hb3
      have n15 := H15.out k
      obtain ⟨n, hn⟩ : ∃ n, n = Nf k := ⟨_, rfl⟩
      rw [← hn] at n15 ⊢
      have HNK : Hid (n = Nf k) := hn
      have HR3 : Hid (w3.rangeAt w1.heap.size 0 (hV x) ∧ w3.there w1.heap.size 0 32 ∧ w1.heap.size < w3.heap.size) := ⟨fun j u hu => (hb3.cell (p := ⟨w1.heap.size, 0 + j, none⟩) hq2).trans (HR2.out j u hu), there_below hb3 hq2 HT2.out, Nat.lt_of_lt_of_le hq2 hb3.size⟩
      have HB3 : Hid (Below w.heap.size w w3) := hB3
      clear hn hb1 hb12 hb3 HR2 HT2
      go_wp2_with fail
      go_loopw [18] (fun i w4 => ∃ j : Nat, j ≤ n ∧ i = .int .i64 j ∧ Hid (w4.rangeAt w1.heap.size 0 (hV (stepF (sumOf K) x j)) ∧ w4.there w1.heap.size 0 32 ∧ w1.heap.size < w4.heap.size ∧ w4.ownsRow w.heap.size 5 1 v (32 * k) (hV (chainsT (sumOf K) Bf Nf k)) ∧ Below w.heap.size w w4)) (fun i _ => n - (intOf i).toNat)
      case atStart => exact ⟨0, Nat.zero_le _, rfl, HR3.out.1, HR3.out.2.1, HR3.out.2.2, HO3.out, HB3.out⟩
      case round =>
        obtain ⟨j, hj, rfl, hJ⟩ := hrel
        have y32 : (stepF (sumOf K) x j).size = 32 := stepF_size (sumOf K) (sumOf_size K) x x32 j
        have hry := hJ.out.1
        have hqy := hJ.out.2.2.1
        have hBy := hJ.out.2.2.2.2
        by_cases hjn : j < n
        · have j1 : (j : Int) < (n : Int) := by omega
          obtain ⟨y, hy⟩ : ∃ y, y = stepF (sumOf K) x j := ⟨_, rfl⟩
          have hyn : sumOf K (m2 ++ y) = stepF (sumOf K) x (j + 1) := by rw [hy]; rfl
          have z32' : (stepF (sumOf K) x (j + 1)).size = 32 := stepF_size (sumOf K) (sumOf_size K) x x32 (j + 1)
          rw [← hy] at y32 hry
          have iy := hV_info y32
          have htx := htx_any y y32
          obtain ⟨z, hz'⟩ : ∃ z, z = stepF (sumOf K) x (j + 1) := ⟨_, rfl⟩
          rw [← hz'] at z32' hyn
          have hst := fun W (T : Tab K W) => of_step K y W y32 T
          simp only [hyn] at hst
          have HZ : Hid (z = stepF (sumOf K) x (j + 1)) := hz'
          have iz := hV_info z32'
          have oz := hV_one z
          have lz := hV_len z32'
          clear hy hyn hz'
          go_wp2_with (first | (refine wpList_load_mid rfl 90 (.tmp 7) rfl w1.heap.size 0 rfl (hV y) _ hry Tryz.underlying90 rfl iy ?_))
          refine (htx wr).mono ?_
          rintro e w5 ⟨rfl, hb5⟩
          clear htx
          have hB5 : Below w.heap.size w w5 := hBy.trans (hb5.mono hBy.size)
          have hs45 := hb5.size
          have hof := hst w5 (HT.out.below hB5)
          go_wp2_with fail
          refine hof.mono ?_
          rintro e w6 ⟨rfl, hb6⟩
          clear hof hst
          have hb56 : Below w5.heap.size w5 w6 := ((Below.refl _ _).alloc (Nat.le_refl _) _).trans (hb6.mono (by omega))
          have hb46 : Below wr.heap.size wr w6 := hb5.trans (hb56.mono hs45)
          have ht6 : w6.there w1.heap.size 0 (hV z).length := by rw [lz]; exact there_below hb46 hqy hJ.out.2.1
          have hB6 : Below w.heap.size w w6 := hBy.trans (hb46.mono hBy.size)
          have HO6 : Hid (w6.ownsRow w.heap.size 5 1 v (32 * k) (hV (chainsT (sumOf K) Bf Nf k))) := own_below' hJ.out.2.2.2.1 hb46
          have hq6 : w1.heap.size < w6.heap.size := Nat.lt_of_lt_of_le hqy hb46.size
          have HQ : Hid (v.ownBlock ≠ some w1.heap.size) := fun e => by have h1 := hI.out.1.lt w1.heap.size e; omega
          clear hb5 hb6 hb56 hb46 hry
          go_wp2_with (first | (refine wpList_store_abs rfl 90 _ _ rfl w1.heap.size 0 (hV z) rfl rfl ht6 iz oz ?_; intro w7 hw7 hr7 ht7 hb7; have HW7 : Hid (w7 = w6.setCells w1.heap.size 0 (hV z)) := hw7; clear hw7))
          refine ⟨⟨j + 1, by omega, by go_num, ?_, ?_, ?_, ?_, ?_⟩, ?_⟩
          · rw [← HZ.out]; exact hr7
          · have := ht7; rw [lz] at this; exact this
          · rw [HW7.out, size_setCells]; exact hq6
          · rw [HW7.out]; exact own_sameX HO6.out (fun g e => heap_setCells_other' _ _ _ _ _ (fun e' => HQ.out (by rw [← e']; exact e)))
          · rw [HW7.out]; exact below_setCells (by omega) _ _ _ hB6
          · simp [intOf]; omega
        · have j1 : ¬ (j : Int) < (n : Int) := by omega
          obtain rfl : j = n := by omega
          obtain ⟨y, hy⟩ : ∃ y, y = stepF (sumOf K) x j := ⟨_, rfl⟩
          rw [← hy] at y32 hry
          have hoA := hJ.out.2.2.2.1
          have hnews : ∀ q u, (hV y)[q]? = some u → wr.cell? ((⟨w1.heap.size, 0, none⟩ : Addr).add q) = some u := fun q u hu => by rw [Addr.add_mid]; exact hry q u hu
          have hs4 := hBy.size
          have oy := hV_one y
          have ly := hV_len y32
          have HE : Hid (chainsT (sumOf K) Bf Nf k ++ y = chainsT (sumOf K) Bf Nf (k + 1)) := by
            show _ = chainsT (sumOf K) Bf Nf k ++ stepF (sumOf K) (Bf k) (Nf k)
            rw [hy, ← HX.out, ← HNK.out]
          have HOL : Hid (∀ g, v.ownBlock = some g → w.heap.size ≤ g) := fun g e => (hoA.lt g e).1
          clear hy
          go_wp2_with (first | (refine wpList_append_lies _ rfl _ _ 42 rfl w.heap.size 5 i0 _ 1 1 Tryz.underlying42 hi hz hsz hby rfl (by decide) v (32 * k) _ rfl hoA ⟨w1.heap.size, 0, none⟩ 32 32 (hV y) rfl (by rw [ly]) hnews oy (by decide) (by unfold maxLen; omega) (by omega) hs4 _ rfl ?_; intro g8 cap8 w8 ho8 hgr8 hat8 hlt8))
          refine ⟨⟨k + 1, _, rfl, by omega, by go_num, ?_, ?_⟩, ?_⟩
          · rw [← HE.out, show 32 * (k + 1) = 32 * k + 32 by omega, hV_app]; exact ho8
          · exact hBy.trans ((Below.refl _ _).grown hgr8 hs4 HOL.out)
          · simp [intOf]; omega
    · obtain rfl : k = 67 := by omega
      obtain ⟨g, cap, hv, hg1, hg2, hr⟩ := own_open hI.out.1 (by omega)
      subst hv
      have hcv := convert_range (cap := cap) (ns := numsOf (chainsT (sumOf K) Bf Nf 67)) 2144 (by rw [numsOf_length, HCS.out]) hr
      rw [str_nums] at hcv
      generalize chainsT (sumOf K) Bf Nf 67 = C at *
      go_wp2_with fail
      go_ret
      exact ⟨rfl, hB0⟩
end Go.Proofs.YtijdnpoenpjnlaaGreatDoor
set_option linter.unusedVariables false
set_option linter.unusedSimpArgs false
namespace Go.Proofs.YtijdnpoenpjnlaaGreatDoor
open Go.RowKit

theorem hV_get (h : ByteArray) (k : Nat) (hk : k < h.size) : (hV h)[k]? = some (.int .u8 (bAt h k)) := by
  have hl : k < h.data.toList.length := by rw [← Lib.size_eq]; exact hk
  unfold hV bytesV numsOf bAt
  rw [List.map_map, List.getElem?_map, List.getElem?_eq_getElem hl, List.getD, List.getElem?_eq_getElem hl]; rfl
theorem index_hash (h : ByteArray) (hh : h.size = 32) (k : Nat) (hk : k < 32) (w : World) : (Instr.index 90 (.agg (hV h).toArray) (.int .i64 (k : Int))).run Tryz.prog w = .ok (.int .u8 (bAt h k)) w := by
  have hn : (0 : Int) ≤ (k : Int) ∧ (k : Int) < 32 := by omega
  have h1 : (k : Int) < 32 := by omega
  obtain ⟨i, hi, hz, hsz, hby⟩ := info_u8
  simp [Instr.index, run_underlying Tryz.underlying90, asIntOf, hn, h1, go_sem]
  rw [if_pos hk, hV_get h k (by omega)]
  rfl
theorem and15 : ∀ x : Fin 256, bits .and .u8 (x.val : Int) 15 = (x.val : Int) % 16 := by decide +kernel
set_option maxRecDepth 100000 in
theorem and15i : ∀ x : Fin 1024, bits .and .i64 (x.val : Int) 15 = (x.val : Int) % 16 := by decide +kernel
/-- A hash's half bytes, the high one first. -/
def nib (h : ByteArray) (c : Nat) : Nat := if c % 2 = 0 then (bAt h (c / 2)).toNat / 16 else (bAt h (c / 2)).toNat % 16
theorem bAt_lt (h : ByteArray) (i : Nat) : (bAt h i).toNat < 256 := by have := bAt_hi h i; have := bAt_lo h i; omega
theorem nib_lt (h : ByteArray) (c : Nat) : nib h c < 16 := by
  have := bAt_lt h (c / 2)
  unfold nib; split <;> omega
/-- How much the first k lack of 15 each. -/
def lackN (h : ByteArray) : Nat → Nat
  | 0 => 0
  | c + 1 => lackN h c + (15 - nib h c)
theorem lackN_le (h : ByteArray) : ∀ c, lackN h c ≤ 15 * c
  | 0 => Nat.le_refl _
  | c + 1 => by have := lackN_le h c; simp only [lackN]; omega
/-- How many steps of a chain a signature of this hash shows. -/
def dig (h : ByteArray) (c : Nat) : Nat := if c < 64 then nib h c else if c = 64 then lackN h 64 / 256 else if c = 65 then lackN h 64 / 16 % 16 else lackN h 64 % 16
theorem dig_le (h : ByteArray) (c : Nat) : dig h c ≤ 15 := by
  have h1 := nib_lt h c
  have h2 := lackN_le h 64
  unfold dig
  split
  · omega
  · split
    · omega
    · split <;> omega
def digV (h : ByteArray) : List Value := (List.range 67).map fun c => .int .i64 (dig h c : Nat)
theorem digV_len (h : ByteArray) : (digV h).length = 67 := by unfold digV; simp
theorem digV_get (h : ByteArray) (c : Nat) (hc : c < 67) : (digV h)[c]? = some (.int .i64 (dig h c : Nat)) := by unfold digV; simp [hc]
theorem digV_one (h : ByteArray) : ∀ u ∈ digV h, u.oneCell' = true := fun u hu => by unfold digV at hu; simp at hu; obtain ⟨c, _, rfl⟩ := hu; rfl
def z67 : List Value := List.replicate 67 (.int .i64 0)
theorem alloc_67 (w : World) : (Instr.alloc 180 true (.tuple #[])).run Tryz.prog w = .ok (.pointer (some ⟨w.heap.size, 0, none⟩)) (w.alloc (.cells z67.toArray 180)) := by kernel_rfl
theorem info_67 : (Tryz.prog.info? 180).map (·.size) = some 67 := by kernel_rfl
theorem digV_info (h : ByteArray) : (Tryz.prog.info? 180).map (·.size) = some (digV h).length := by rw [digV_len]; exact info_67
theorem there_z67 (w : World) : (w.alloc (.cells z67.toArray 180)).there w.heap.size 0 67 := by
  have h := there_new w z67.toArray 180
  rwa [show z67.toArray.size = 67 by decide +kernel] at h
theorem lack_two (h : ByteArray) (i : Nat) : lackN h (2 * (i + 1)) = lackN h (2 * i) + (15 - (bAt h i).toNat / 16) + (15 - (bAt h i).toNat % 16) := by
  have e0 : nib h (2 * i) = (bAt h i).toNat / 16 := by unfold nib; rw [if_pos (by omega), show 2 * i / 2 = i by omega]
  have e1 : nib h (2 * i + 1) = (bAt h i).toNat % 16 := by unfold nib; rw [if_neg (by omega), show (2 * i + 1) / 2 = i by omega]
  rw [show 2 * (i + 1) = 2 * i + 1 + 1 by omega, lackN, lackN, e0, e1]

def cellI (w : World) (q j : Nat) (x : Nat) : Prop := w.cell? ⟨q, j, none⟩ = some (.int .i64 (x : Nat))

set_option maxRecDepth 10000 in
set_option maxHeartbeats 2000000 in
theorem digits_any (h : ByteArray) (hh : h.size = 32) (w : World) :
    Calls Tryz.prog 173 #[.agg (hV h).toArray] w fun e w' => e = .returned (.agg (digV h).toArray) ∧ Below w.heap.size w w' := by
  obtain ⟨wB, hwB⟩ : ∃ wB, wB = ((w.alloc (.cells (hV h).toArray 90)).alloc (.cells z67.toArray 180)).alloc (.cells z67.toArray 180) := ⟨_, rfl⟩
  have hbB : Below w.heap.size w wB := by rw [hwB]; exact (((Below.refl _ _).alloc (Nat.le_refl _) _).alloc (by simp) _).alloc (by simp; omega) _
  have hr0 : wB.rangeAt w.heap.size 0 (hV h) := by rw [hwB]; exact World.rangeAt_alloc (World.rangeAt_alloc (range_new w (hV h) 90) _) _
  have ht1 : wB.there (w.heap.size + 1) 0 67 := by
    rw [hwB]
    have := there_z67 (w.alloc (.cells (hV h).toArray 90))
    rw [show (w.alloc (.cells (hV h).toArray 90)).heap.size = w.heap.size + 1 by simp] at this
    exact there_below ((Below.refl _ _).alloc (Nat.le_refl _) _) (by simp) this
  have ht2 : wB.there (w.heap.size + 1 + 1) 0 67 := by
    rw [hwB]
    have := there_z67 ((w.alloc (.cells (hV h).toArray 90)).alloc (.cells z67.toArray 180))
    simpa using this
  have hc2 : ∀ j, j < 67 → wB.cell? ⟨w.heap.size + 1 + 1, j, none⟩ = some (.int .i64 0) := fun j hj => by
    rw [hwB]
    have := range_new ((w.alloc (.cells (hV h).toArray 90)).alloc (.cells z67.toArray 180)) z67 180 j (.int .i64 0) (by show (List.replicate 67 (Value.int .i64 0))[j]? = _; rw [List.getElem?_replicate, if_pos hj])
    simpa using this
  have ih := hV_info hh
  have HIX : Hid (∀ (k : Nat) (w : World), k < 32 → (Instr.index 90 (.agg (hV h).toArray) (.int .i64 (k : Int))).run Tryz.prog w = .ok (.int .u8 (bAt h k)) w) := fun k w hk => index_hash h hh k hk w
  have idv := digV_info h
  have odv := digV_one h
  go_enter Tryz.func173, Tryz.ntmps173
  rw [hwB] at hr0
  go_wp2_with (first | (refine wpList_alloc_of rfl 180 rfl z67.toArray alloc_67 ?_) | (refine wpList_load_mid rfl 90 _ rfl w.heap.size 0 rfl (hV h) _ hr0 Tryz.underlying90 rfl ih ?_))
  rw [← hwB]
  clear hr0 hwB
  go_loopw [4, 11] (fun l i wr => ∃ k : Nat, k ≤ 32 ∧ i = .int .i64 k ∧ l = .int .i64 (lackN h (2 * k) : Nat) ∧ Hid ((∀ j, j < 67 → cellI wr (w.heap.size + 1 + 1) j (if j < 2 * k then nib h j else 0)) ∧ wr.there (w.heap.size + 1 + 1) 0 67 ∧ wr.there (w.heap.size + 1) 0 67 ∧ Below w.heap.size w wr)) (fun _ i _ => 32 - (intOf i).toNat)
  case atStart => exact ⟨0, by omega, rfl, rfl, fun j hj => by rw [if_neg (by omega)]; exact hc2 j hj, ht2, ht1, hbB⟩
  case round =>
    clear hc2 ht1 ht2 hbB
    obtain ⟨k, hk, rfl, rfl, hI⟩ := hrel
    by_cases hlt : k < 32
    · have k1 : (k : Int) < 32 := by omega
      have hix := fun w => HIX.out k w hlt
      have b8 := bAt_lt h k
      have blo := bAt_lo h k
      obtain ⟨x, hx⟩ : ∃ x, x = (bAt h k).toNat := ⟨_, rfl⟩
      have hx2 : bAt h k = (x : Int) := by omega
      rw [← hx] at b8
      simp only [hx2] at hix
      have ha := and15 ⟨x, b8⟩
      simp only at ha
      have hl2 := lack_two h k
      rw [← hx] at hl2
      have hlk := lackN_le h (2 * k)
      obtain ⟨L, hL⟩ : ∃ L, L = lackN h (2 * k) := ⟨_, rfl⟩
      rw [← hL] at hl2 hlk ⊢
      have HL2 : Hid (lackN h (2 * (k + 1)) = L + (15 - x / 16) + (15 - x % 16)) := hl2
      have e0 : nib h (2 * k) = x / 16 := by unfold nib; rw [if_pos (by omega), show 2 * k / 2 = k by omega, hx]
      have e1 : nib h (2 * k + 1) = x % 16 := by unfold nib; rw [if_neg (by omega), show (2 * k + 1) / 2 = k by omega, hx]
      have HE0 : Hid (nib h (2 * k) = x / 16) := e0
      have HE1 : Hid (nib h (2 * k + 1) = x % 16) := e1
      have f0 : wr.frozen? ⟨w.heap.size + 1 + 1, 2 * k, none⟩ = false := by have := (hI.out.2.1 (2 * k) (by omega)).2; rwa [Nat.zero_add] at this
      have c0 : wr.cell? ⟨w.heap.size + 1 + 1, 2 * k, none⟩ = some (.int .i64 0) := by have := hI.out.1 (2 * k) (by omega); rw [if_neg (by omega)] at this; exact this
      obtain ⟨wx, hwx⟩ : ∃ wx, wx = wr.setCell ⟨w.heap.size + 1 + 1, 2 * k, none⟩ (.int .i64 ((x : Int) / 16)) := ⟨_, rfl⟩
      have f1 : wx.frozen? ⟨w.heap.size + 1 + 1, 2 * k + 1, none⟩ = false := by rw [hwx]; have := (World.there_setCells hI.out.2.1 (w.heap.size + 1 + 1) (2 * k) [.int .i64 ((x : Int) / 16)] (2 * k + 1) (by omega)).2; rwa [Nat.zero_add] at this
      have c1 : wx.cell? ⟨w.heap.size + 1 + 1, 2 * k + 1, none⟩ = some (.int .i64 0) := by
        rw [hwx, World.cell?_setCell_other (w := wr) (a := ⟨w.heap.size + 1 + 1, 2 * k, none⟩) (b := ⟨w.heap.size + 1 + 1, 2 * k + 1, none⟩) _ (by intro e; have := congrArg Addr.off e; simp at this)]
        have := hI.out.1 (2 * k + 1) (by omega); rw [if_neg (by omega)] at this; exact this
      rw [hwx] at f1 c1
      clear hwx hx hx2 hL e0 e1 hl2
      go_wp2_with fail
      refine ⟨⟨k + 1, by omega, by go_num, ?_, ?_, ?_, ?_, ?_⟩, ?_⟩
      · rw [HL2.out]; congr 2; omega
      · intro j hj
        by_cases e1 : j = 2 * k + 1
        · subst e1
          rw [if_pos (by omega), HE1.out]
          show World.cell? _ _ = some (.int .i64 ((x % 16 : Nat) : Int))
          rw [show ((x % 16 : Nat) : Int) = (x : Int) % 16 by omega]
          exact World.cell?_setCell_same _ _ _ c1
        · show World.cell? _ _ = _
          rw [World.cell?_setCell_other (w := wr.setCell ⟨w.heap.size + 1 + 1, 2 * k, none⟩ (.int .i64 ((x : Int) / 16))) (a := ⟨w.heap.size + 1 + 1, 2 * k + 1, none⟩) (b := ⟨w.heap.size + 1 + 1, j, none⟩) _ (by intro e; have := congrArg Addr.off e; simp at this; omega)]
          by_cases e0 : j = 2 * k
          · subst e0
            rw [if_pos (by omega), HE0.out]
            rw [show ((x / 16 : Nat) : Int) = (x : Int) / 16 by omega]
            exact World.cell?_setCell_same _ _ _ c0
          · rw [World.cell?_setCell_other (w := wr) (a := ⟨w.heap.size + 1 + 1, 2 * k, none⟩) (b := ⟨w.heap.size + 1 + 1, j, none⟩) _ (by intro e; have := congrArg Addr.off e; simp at this; omega)]
            have := hI.out.1 j hj
            rw [show (if j < 2 * (k + 1) then nib h j else 0) = (if j < 2 * k then nib h j else 0) by
              by_cases e2 : j < 2 * k
              · rw [if_pos e2, if_pos (by omega)]
              · rw [if_neg e2, if_neg (by omega)]]
            exact this
      · exact World.there_setCells (World.there_setCells hI.out.2.1 (w.heap.size + 1 + 1) (2 * k) [_]) (w.heap.size + 1 + 1) (2 * k + 1) [_]
      · exact World.there_setCells (World.there_setCells hI.out.2.2.1 (w.heap.size + 1 + 1) (2 * k) [_]) (w.heap.size + 1 + 1) (2 * k + 1) [_]
      · exact (hI.out.2.2.2.setCell (p := ⟨w.heap.size + 1 + 1, 2 * k, none⟩) (by show w.heap.size ≤ w.heap.size + 1 + 1; omega) _).setCell (p := ⟨w.heap.size + 1 + 1, 2 * k + 1, none⟩) (by show w.heap.size ≤ w.heap.size + 1 + 1; omega) _
      · simp [intOf]; omega
    · obtain rfl : k = 32 := by omega
      have hlk := lackN_le h 64
      obtain ⟨L, hL⟩ : ∃ L, L = lackN h 64 := ⟨_, rfl⟩
      rw [show 2 * 32 = 64 from rfl, ← hL]
      rw [← hL] at hlk
      have HL : Hid (L = lackN h 64) := hL
      clear hL HIX
      go_wp2_with fail
      go_loopw [38] (fun i w2 => ∃ r : Nat, r ≤ 3 ∧ i = .int .i64 r ∧ Hid ((∀ j, j < 67 → cellI w2 (w.heap.size + 1 + 1) j (if j < 64 then nib h j else if 66 < j + r then dig h j else 0)) ∧ w2.there (w.heap.size + 1 + 1) 0 67 ∧ w2.there (w.heap.size + 1) 0 67 ∧ Below w.heap.size w w2)) (fun i _ => 3 - (intOf i).toNat)
      case atStart =>
        refine ⟨0, by omega, rfl, fun j hj => ?_, hI.out.2⟩
        have := hI.out.1 j hj
        rw [show (if j < 64 then nib h j else if 66 < j + 0 then dig h j else 0) = (if j < 2 * 32 then nib h j else 0) by
          by_cases e : j < 64
          · rw [if_pos e, if_pos (by omega)]
          · rw [if_neg e, if_neg (by omega), if_neg (by omega)]]
        exact this
      case round =>
        clear hI
        obtain ⟨r, hr, rfl, hI⟩ := hrel
        by_cases hlt2 : r < 3
        · have r1 : (r : Int) < 3 := by omega
          have fz : wr.frozen? ⟨w.heap.size + 1 + 1, 66 - r, none⟩ = false := by have := (hI.out.2.1 (66 - r) (by omega)).2; rwa [Nat.zero_add] at this
          obtain ⟨y, cz⟩ : ∃ y, wr.cell? ⟨w.heap.size + 1 + 1, 66 - r, none⟩ = some y := ⟨_, hI.out.1 (66 - r) (by omega)⟩
          have hb : ∀ z, Below w.heap.size w (wr.setCell ⟨w.heap.size + 1 + 1, 66 - r, none⟩ z) := fun z => hI.out.2.2.2.setCell (p := ⟨w.heap.size + 1 + 1, 66 - r, none⟩) (by show w.heap.size ≤ w.heap.size + 1 + 1; omega) _
          have fin : ∀ (d : Nat), d = dig h (66 - r) → (∀ j, j < 67 → cellI (wr.setCell ⟨w.heap.size + 1 + 1, 66 - r, none⟩ (.int .i64 (d : Nat))) (w.heap.size + 1 + 1) j (if j < 64 then nib h j else if 66 < j + (r + 1) then dig h j else 0)) ∧ (wr.setCell ⟨w.heap.size + 1 + 1, 66 - r, none⟩ (.int .i64 (d : Nat))).there (w.heap.size + 1 + 1) 0 67 ∧ (wr.setCell ⟨w.heap.size + 1 + 1, 66 - r, none⟩ (.int .i64 (d : Nat))).there (w.heap.size + 1) 0 67 ∧ Below w.heap.size w (wr.setCell ⟨w.heap.size + 1 + 1, 66 - r, none⟩ (.int .i64 (d : Nat))) := fun d hd => by
            refine ⟨fun j hj => ?_, World.there_setCells hI.out.2.1 (w.heap.size + 1 + 1) (66 - r) [_], World.there_setCells hI.out.2.2.1 (w.heap.size + 1 + 1) (66 - r) [_], hb _⟩
            by_cases e : j = 66 - r
            · subst e
              rw [if_neg (by omega), if_pos (by omega), ← hd]
              exact World.cell?_setCell_same _ _ _ cz
            · show World.cell? _ _ = _
              rw [World.cell?_setCell_other (w := wr) (a := ⟨w.heap.size + 1 + 1, 66 - r, none⟩) (b := ⟨w.heap.size + 1 + 1, j, none⟩) _ (by intro e'; have := congrArg Addr.off e'; simp at this; omega)]
              have := hI.out.1 j hj
              rw [show (if j < 64 then nib h j else if 66 < j + (r + 1) then dig h j else 0) = (if j < 64 then nib h j else if 66 < j + r then dig h j else 0) by
                by_cases e1 : j < 64
                · rw [if_pos e1, if_pos e1]
                · rw [if_neg e1, if_neg e1]
                  by_cases e2 : 66 < j + r
                  · rw [if_pos e2, if_pos (by omega)]
                  · rw [if_neg e2, if_neg (by omega)]]
              exact this
          have FIN : Hid (∀ (d : Nat), d = dig h (66 - r) → (∀ j, j < 67 → cellI (wr.setCell ⟨w.heap.size + 1 + 1, 66 - r, none⟩ (.int .i64 (d : Nat))) (w.heap.size + 1 + 1) j (if j < 64 then nib h j else if 66 < j + (r + 1) then dig h j else 0)) ∧ (wr.setCell ⟨w.heap.size + 1 + 1, 66 - r, none⟩ (.int .i64 (d : Nat))).there (w.heap.size + 1 + 1) 0 67 ∧ (wr.setCell ⟨w.heap.size + 1 + 1, 66 - r, none⟩ (.int .i64 (d : Nat))).there (w.heap.size + 1) 0 67 ∧ Below w.heap.size w (wr.setCell ⟨w.heap.size + 1 + 1, 66 - r, none⟩ (.int .i64 (d : Nat)))) := fin
          clear fin hb hI
          have hd0 : Hid (dig h 66 = L % 16 ∧ dig h 65 = L / 16 % 16 ∧ dig h 64 = L / 256) := by
            show dig h 66 = L % 16 ∧ dig h 65 = L / 16 % 16 ∧ dig h 64 = L / 256
            rw [HL.out]; exact ⟨rfl, rfl, rfl⟩
          have a0 := and15i ⟨L, by omega⟩
          have a1 := and15i ⟨L / 16, by omega⟩
          have a2 := and15i ⟨L / 256, by omega⟩
          have d1 : ((L / 16 : Nat) : Int) = (L : Int) / 16 := by omega
          have d2 : ((L / 256 : Nat) : Int) = (L : Int) / 256 := by omega
          simp only [d1, d2] at a0 a1 a2
          obtain rfl | rfl | rfl : r = 0 ∨ r = 1 ∨ r = 2 := by omega
          · clear a1 a2 d1 d2
            go_wp2_with fail
            refine ⟨⟨1, by omega, rfl, ?_⟩, ?_⟩
            · have := FIN.out (L % 16) (by rw [hd0.out.1])
              rw [show ((L % 16 : Nat) : Int) = (L : Int) % 16 by omega] at this
              exact this
            · simp [intOf]
          · clear a0 a2 d1 d2
            go_wp2_with fail
            refine ⟨⟨2, by omega, rfl, ?_⟩, ?_⟩
            · have := FIN.out (L / 16 % 16) (by rw [hd0.out.2.1])
              rw [show ((L / 16 % 16 : Nat) : Int) = (L : Int) / 16 % 16 by omega] at this
              exact this
            · simp [intOf]
          · clear a0 a1 d1 d2
            go_wp2_with fail
            refine ⟨⟨3, by omega, rfl, ?_⟩, ?_⟩
            · have := FIN.out (L / 256) (by rw [hd0.out.2.2])
              rw [show ((L / 256 : Nat) : Int) = (L : Int) / 256 % 16 by omega] at this
              exact this
            · simp [intOf]
        · obtain rfl : r = 3 := by omega
          have hrg : wr.rangeAt (w.heap.size + 1 + 1) 0 (digV h) := fun j u hu => by
            have hj : j < 67 := by
              rcases Nat.lt_or_ge j 67 with e | e
              · exact e
              · rw [List.getElem?_eq_none (by rw [digV_len]; exact e)] at hu; cases hu
            rw [digV_get h j hj] at hu
            obtain rfl := Option.some.inj hu
            rw [Nat.zero_add]
            have := hI.out.1 j hj
            rw [show (if j < 64 then nib h j else if 66 < j + 3 then dig h j else 0) = dig h j by
              by_cases e : j < 64
              · rw [if_pos e]; unfold dig; rw [if_pos e]
              · rw [if_neg e, if_pos (by omega)]] at this
            exact this
          have ht : wr.there (w.heap.size + 1) 0 (digV h).length := by rw [digV_len]; exact hI.out.2.2.1
          have hBr := hI.out.2.2.2
          clear hI
          go_wp2_with (first | (refine wpList_load_mid rfl 180 _ rfl (w.heap.size + 1 + 1) 0 rfl (digV h) _ hrg Tryz.underlying180 rfl idv ?_) | (refine wpList_store_abs rfl 180 _ _ rfl (w.heap.size + 1) 0 (digV h) rfl rfl ht idv odv ?_; intro w9 _hw9 hr9 _ht9 hb9; clear _hw9 _ht9))
          exact ret_cell rfl (w.heap.size + 1) 0 (digV h) _ rfl hr9 Tryz.underlying180 rfl idv rfl ⟨rfl, hBr.trans (hb9 _ (by omega))⟩
end Go.Proofs.YtijdnpoenpjnlaaGreatDoor
set_option linter.unusedVariables false
set_option linter.unusedSimpArgs false
namespace Go.Proofs.YtijdnpoenpjnlaaGreatDoor
open Go.RowKit

/-- The hash of no text. -/
theorem of_none (K : Nat → Int) (w : World) (T : Tab K w) : Calls Tryz.prog 54 #[.slice none 0 0] w fun e w' => e = .returned (.agg (hV (sumOf K ⟨#[]⟩)).toArray) ∧ Below w.heap.size w w' := by
  have := of_gen [] none 0 K w (by simp) (by simp [joinN]) (textsAt_nil w none) T.lt T.cells
  rw [hV_sum K (joinN []) ⟨#[]⟩ (by simp [joinN, numsOf])] at this
  exact this

set_option maxRecDepth 10000 in
set_option maxHeartbeats 1000000 in
theorem root_nil (K : Nat → Int) (ao : Option Addr) (cap : Nat) (w : World) (T : Tab K w) :
    Calls Tryz.prog 115 #[.slice ao 0 cap] w fun e w' => e = .returned (.agg (hV (rootF (sumOf K) [])).toArray) ∧ Below w.heap.size w w' := by
  have J0 := rs_new w
  have hr1 := of_none K (w.alloc (.cells z32.toArray 90)) (T.below ((Below.refl _ _).alloc (Nat.le_refl _) _))
  rw [show sumOf K ⟨#[]⟩ = rootF (sumOf K) [] by rw [rootF]] at hr1
  have h32 := rootF_size (sumOf K) (sumOf_size K) []
  generalize rootF (sumOf K) [] = h at *
  clear T
  go_enter Tryz.func115, Tryz.ntmps115
  go_wp2_with (first | (refine wpList_alloc_of rfl 90 rfl z32.toArray alloc_32 ?_))
  refine hr1.mono ?_
  rintro e w1 ⟨rfl, hb1⟩
  have J1 := J0.step hb1
  have ht : w1.there w.heap.size 0 (hV h).length := by rw [hV_len h32]; exact J1.t
  go_wp2_with (refine wpList_store_abs rfl 90 _ _ rfl w.heap.size 0 (hV h) rfl rfl ht (hV_info h32) (hV_one h) ?_; intro w2 _hw2 hr2 _ht2 hb2; clear _hw2 _ht2)
  exact ret_cell rfl w.heap.size 0 (hV h) _ rfl hr2 Tryz.underlying90 rfl (hV_info h32) rfl ⟨rfl, J1.b.trans (hb2 _ (Nat.le_refl _))⟩

theorem root_all (K : Nat → Int) (ls : List ByteArray) (v : Value) (w : World) (hn1 : ls.length ≤ 2147483647) (hl : LeafAt w v ls) (hs : ∀ s ∈ ls, s.size ≤ 140737488355000) (T : Tab K w) :
    Calls Tryz.prog 115 #[v] w fun e w' => e = .returned (.agg (hV (rootF (sumOf K) ls)).toArray) ∧ Below w.heap.size w w' := by
  by_cases h0 : ls = []
  · subst h0
    obtain ⟨ao, cap, rfl⟩ := leaf_form hl
    exact root_nil K ao cap w T
  · exact root_any K _ ls v w rfl (List.length_pos_iff.2 h0) hn1 hl hs T

set_option maxRecDepth 10000 in
set_option maxHeartbeats 400000 in
/-- The program's Root, of any leaves. -/
theorem aroot_all (K : Nat → Int) (ls : List ByteArray) (v : Value) (w : World) (hn1 : ls.length ≤ 2147483647) (hl : LeafAt w v ls) (hs : ∀ s ∈ ls, s.size ≤ 140737488355000) (T : Tab K w) :
    Calls Tryz.prog 66 #[v] w fun e w' => e = .returned (.string (rootF (sumOf K) ls)) ∧ Below w.heap.size w w' := by
  have hr := root_all K ls v w hn1 hl hs T
  have htx := htx_any (rootF (sumOf K) ls) (rootF_size (sumOf K) (sumOf_size K) ls)
  obtain ⟨ao, cap, rfl⟩ := leaf_form hl
  generalize rootF (sumOf K) ls = R at *
  clear hl hs T
  generalize ls.length = N at *
  go_enter Tryz.func66, Tryz.ntmps66
  go_wp2_with fail
  refine hr.mono ?_
  rintro e w1 ⟨rfl, hb1⟩
  clear hr
  go_wp2_with fail
  refine (htx w1).mono ?_
  rintro e w2 ⟨rfl, hb2⟩
  clear htx
  go_wp2_with fail
  go_ret
  exact ⟨rfl, hb1.trans (hb2.mono hb1.size)⟩
end Go.Proofs.YtijdnpoenpjnlaaGreatDoor
set_option linter.unusedVariables false
set_option linter.unusedSimpArgs false
namespace Go.Proofs.YtijdnpoenpjnlaaGreatDoor
open Go.RowKit

/-- A row of texts that a call has made is a list of texts. -/
theorem leaf_own {w : World} {B : Nat} {v : Value} {L : List ByteArray} (h : w.ownsRow B 9 1 v L.length (L.map .string)) : LeafAt w v L := by
  rcases h.2 with ⟨rfl, h0⟩ | ⟨g, cap, cur, rfl, _, _, hc, _⟩
  · exact Or.inl ⟨List.eq_nil_of_length_eq_zero h0, none, 0, rfl⟩
  · refine Or.inr ⟨g, 0, cap, rfl, hc, fun j hj => ?_⟩
    rw [Nat.zero_add, h.cellAt j (by omega), List.getElem?_map, List.getElem?_eq_getElem hj]; rfl

/-- 'append(v, y...)' of texts: v of the call's own; at the operation. -/
theorem wp_append_texts {o : Oper} {a : Act} {w : World} {C : Act → World → Prop} {Q : Exit → Act → World → Prop} (s x : Operand)
    (hop : o.op = Op.call { callee := Callee.builtin Builtin.append, args := #[s, x], argTypes := #[30, 30] })
    (base : Nat) (v : Value) (n : Nat) (xs : List Value) (hs : a.eval s = v) (hown : w.ownsRow base 9 1 v n xs) (y : Value) (L : List ByteArray) (hx : a.eval x = y) (B2 : Nat) (hy : w.ownsRow B2 9 1 y L.length (L.map .string))
    (hbd : n + L.length ≤ 10000000) (hbase : base ≤ w.heap.size)
    (hK : ∀ ao m cap' w', Hid (m = n + L.length) → w'.ownsRow base 9 1 (.slice ao m cap') m (xs ++ L.map .string) → w.grownBy w' v.ownBlock → C (a.put o.dst (.slice ao m cap')) w') :
    o.wp Tryz.prog a w C Q := by
  obtain ⟨i, hi, hz, hsz, hby⟩ := info_strT
  have form : ∀ {w : World} {v : Value} {n : Nat} {xs : List Value}, w.ownsRow base 9 1 v n xs → ∃ ao cap, v = .slice ao n cap := fun {w v n xs} h => by
    rcases h.2 with ⟨rfl, rfl⟩ | ⟨g, cap, cur, rfl, _⟩
    · exact ⟨none, 0, rfl⟩
    · exact ⟨_, cap, rfl⟩
  rcases hy.2 with ⟨rfl, h0⟩ | ⟨g, cap, cur, rfl, _⟩
  · obtain rfl := List.eq_nil_of_length_eq_zero h0
    have hr := run_append_owned_none (P := Tryz.prog) w base 30 o.type 9 i 1 Tryz.underlying30 hi v n xs hown
    unfold Oper.wp
    simp [execOp, hop, resolve, invoke, builtin, hs, hx, hr, Result.andThen]
    obtain ⟨ao, cp, rfl⟩ := form hown
    exact hK ao n cp w (by show n = n + 0; rfl) (by simpa using hown) ⟨rfl, rfl, rfl, Nat.le_refl _, fun _ _ _ => rfl⟩
  · have hnews : ∀ j u, (L.map Value.string)[j]? = some u → w.cell? ((⟨g, 0, none⟩ : Addr).add j) = some u := hy.cells rfl
    obtain ⟨v', w', hr, ho, hgr, _⟩ := run_append_own (P := Tryz.prog) w base 30 o.type 9 i _ 1 16 Tryz.underlying30 hi hz hsz hby rfl (by decide) v n xs hown ⟨g, 0, none⟩ L.length cap (L.map .string) (by simp) hnews (by intro u hu; simp at hu; obtain ⟨q, _, rfl⟩ := hu; rfl) (by unfold maxLen; omega) (by omega) hbase
    unfold Oper.wp
    simp [execOp, hop, resolve, invoke, builtin, hs, hx, hr, Result.andThen]
    obtain ⟨ao, cp, rfl⟩ := form ho
    exact hK ao _ cp w' rfl ho hgr
theorem wpList_append_texts {ops : Array Oper} {rest : List Oper} {o : Oper} {a : Act} {w : World} {Q : Exit → Act → World → Prop} (hg : o.guard = none) (s x : Operand)
    (hop : o.op = Op.call { callee := Callee.builtin Builtin.append, args := #[s, x], argTypes := #[30, 30] })
    (base : Nat) (v : Value) (n : Nat) (xs : List Value) (hs : a.eval s = v) (hown : w.ownsRow base 9 1 v n xs) (y : Value) (L : List ByteArray) (hx : a.eval x = y) (B2 : Nat) (hy : w.ownsRow B2 9 1 y L.length (L.map .string))
    (hbd : n + L.length ≤ 10000000) (hbase : base ≤ w.heap.size)
    (hK : ∀ ao m cap' w', Hid (m = n + L.length) → w'.ownsRow base 9 1 (.slice ao m cap') m (xs ++ L.map .string) → w.grownBy w' v.ownBlock → wpList Tryz.prog ops Q rest (a.put o.dst (.slice ao m cap')) w') :
    wpList Tryz.prog ops Q (o :: rest) a w :=
  wpList_plain hg fun _ hK' => wp_append_texts s x hop base v n xs hs hown y L hx B2 hy hbd hbase fun ao m cap' w' h1 h2 h3 => hK' _ _ (hK ao m cap' w' h1 h2 h3)
theorem own_mono {w : World} {B B' : Nat} {e : TypeId} {v : Value} {n : Nat} {xs : List Value} (h : w.ownsRow B e 1 v n xs) (hB : B' ≤ B) : w.ownsRow B' e 1 v n xs := by
  refine ⟨h.1, ?_⟩
  rcases h.2 with h0 | ⟨g, cap, cur, e1, e2, e3⟩
  · exact Or.inl h0
  · exact Or.inr ⟨g, cap, cur, e1, by omega, e3⟩
end Go.Proofs.YtijdnpoenpjnlaaGreatDoor
set_option linter.unusedVariables false
set_option linter.unusedSimpArgs false
namespace Go.Proofs.YtijdnpoenpjnlaaGreatDoor
open Go.RowKit

/-- The bytes of a key's number and a chain's. -/
def two (k c : Nat) : ByteArray := strOfNums [(k : Int) % 256, (c : Int) % 256]
theorem two_size (k c : Nat) : (two k c).size = 2 := by unfold two; rw [strOfNums_size]; rfl
def beginF (H : ByteArray → ByteArray) (seed : ByteArray) (k c : Nat) : ByteArray := H (mK ++ seed ++ two k c)

set_option maxRecDepth 10000 in
set_option maxHeartbeats 1000000 in
theorem begin1_any (K : Nat → Int) (seed : ByteArray) (k c bs bk : Nat) (w : World) (hs : seed.size ≤ 100000) (c1 : w.cell? ⟨bs, 0, none⟩ = some (.string seed)) (c2 : w.cell? ⟨bk, 0, none⟩ = some (.int .i64 k)) (T : Tab K w) :
    Calls Tryz.prog 216 #[.int .i64 c, .pointer (some ⟨bs, 0, none⟩), .pointer (some ⟨bk, 0, none⟩)] w fun e w' => e = .returned (.agg (hV (beginF (sumOf K) seed k c)).toArray) ∧ Below w.heap.size w w' := by
  have l1 := World.block_lt_of_cell? w _ c1
  have l2 := World.block_lt_of_cell? w _ c2
  have c1' : (w.alloc (.cells z32.toArray 90)).cell? ⟨bs, 0, none⟩ = some (.string seed) := by rw [World.cell?_alloc_past _ _ _ l1]; exact c1
  have c2' : (w.alloc (.cells z32.toArray 90)).cell? ⟨bk, 0, none⟩ = some (.int .i64 k) := by rw [World.cell?_alloc_past _ _ _ l2]; exact c2
  obtain ⟨wB, hwB⟩ : ∃ wB, wB = (w.alloc (.cells z32.toArray 90)).alloc (.cells #[.int .u8 ((k : Int) % 256), .int .u8 ((c : Int) % 256)] 5) := ⟨_, rfl⟩
  have hcv := convert_range (w := wB) (b := w.heap.size + 1) (cap := 2) (ns := [(k : Int) % 256, (c : Int) % 256]) 2 rfl (by
    rw [hwB]
    have := range_new (w.alloc (.cells z32.toArray 90)) (bytesV [(k : Int) % 256, (c : Int) % 256]) 5
    rw [show (w.alloc (.cells z32.toArray 90)).heap.size = w.heap.size + 1 by simp] at this
    exact this)
  rw [hwB] at hcv
  rw [show strOfNums [(k : Int) % 256, (c : Int) % 256] = two k c from rfl] at hcv
  have hb0 : Below w.heap.size w (((w.alloc (.cells z32.toArray 90)).alloc (.cells #[.int .u8 ((k : Int) % 256), .int .u8 ((c : Int) % 256)] 5)).alloc (.cells #[.string ⟨#[75]⟩, .string seed, .string (two k c)] 9)) := (((Below.refl _ _).alloc (Nat.le_refl _) _).alloc (by simp) _).alloc (by simp; omega) _
  have T0 := T.below hb0
  have hof := of_any [mK, seed, two k c] (w.heap.size + 1 + 1) 3 K _ (by simp) (by simp)
    (by simp [joinN, numsOf_length, mK, numsOf, two_size]; omega)
    (fun j hj => by
      rw [World.cell?_alloc_at _ _ _ _ (by simp)]
      have hj2 : j < 3 := hj
      obtain rfl | rfl | rfl : j = 0 ∨ j = 1 ∨ j = 2 := by omega
      all_goals rfl) T0.lt T0.cells
  rw [hV_sum K (joinN [mK, seed, two k c]) (mK ++ seed ++ two k c) (by rw [nums_app, nums_app]; simp [joinN])] at hof
  rw [show [mK, seed, two k c].length = 3 from rfl] at hof
  have h32 := sumOf_size K (mK ++ seed ++ two k c)
  unfold beginF
  generalize sumOf K (mK ++ seed ++ two k c) = h at *
  generalize two k c = tw at *
  clear T0 T hwB
  go_enter Tryz.func216, Tryz.ntmps216
  go_wp2_with (first | (refine wpList_alloc_of rfl 90 rfl z32.toArray alloc_32 ?_))
  refine hof.mono ?_
  rintro e w1 ⟨rfl, hb1⟩
  have hb1' : Below w.heap.size w w1 := hb0.trans (hb1.mono (by simp; omega))
  have ht : w1.there w.heap.size 0 (hV h).length := by
    rw [hV_len h32]
    exact there_below (hb1.mono (B' := w.heap.size + 1) (by simp)) (Nat.lt_succ_self _) (there_below (((Below.refl _ _).alloc (by simp) _).alloc (by simp) _) (Nat.lt_succ_self _) (there_z32 w))
  clear hof hb1
  go_wp2_with (refine wpList_store_abs rfl 90 _ _ rfl w.heap.size 0 (hV h) rfl rfl ht (hV_info h32) (hV_one h) ?_; intro w2 _hw2 hr2 _ht2 hb2; clear _hw2 _ht2)
  exact ret_cell rfl w.heap.size 0 (hV h) _ rfl hr2 Tryz.underlying90 rfl (hV_info h32) rfl ⟨rfl, hb1'.trans (hb2 _ (Nat.le_refl _))⟩

set_option maxHeartbeats 400000 in
theorem leaves1_any (c : Int) (w : World) : Calls Tryz.prog 215 #[.int .i64 c] w fun e w' => e = .returned (.int .i64 ((15 : Nat) : Int)) ∧ Below w.heap.size w w' := by
  go_enter Tryz.func215, Tryz.ntmps215
  go_wp2_with fail
  go_ret
  exact ⟨rfl, Below.refl _ _⟩
set_option maxHeartbeats 400000 in
theorem sign1_any (h : ByteArray) (c bd : Nat) (w : World) (hc : c < 67) (hr : w.rangeAt bd 0 (digV h)) : Calls Tryz.prog 176 #[.int .i64 c, .pointer (some ⟨bd, 0, none⟩)] w fun e w' => e = .returned (.int .i64 ((dig h c : Nat) : Int)) ∧ Below w.heap.size w w' := by
  have cc : w.cell? ⟨bd, c, none⟩ = some (.int .i64 ((dig h c : Nat) : Int)) := by have := hr c _ (digV_get h c hc); rwa [Nat.zero_add] at this
  have c1 : (c : Int) < 67 := by omega
  generalize dig h c = d at *
  clear hr
  go_enter Tryz.func176, Tryz.ntmps176
  go_wp2_with fail
  go_ret
  exact ⟨rfl, Below.refl _ _⟩
set_option maxHeartbeats 400000 in
theorem finish2_any (h : ByteArray) (c bd : Nat) (w : World) (hc : c < 67) (hr : w.rangeAt bd 0 (digV h)) : Calls Tryz.prog 218 #[.int .i64 c, .pointer (some ⟨bd, 0, none⟩)] w fun e w' => e = .returned (.int .i64 ((15 - dig h c : Nat) : Int)) ∧ Below w.heap.size w w' := by
  have cc : w.cell? ⟨bd, c, none⟩ = some (.int .i64 ((dig h c : Nat) : Int)) := by have := hr c _ (digV_get h c hc); rwa [Nat.zero_add] at this
  have c1 : (c : Int) < 67 := by omega
  have d15 := dig_le h c
  generalize dig h c = d at *
  clear hr
  go_enter Tryz.func218, Tryz.ntmps218
  go_wp2_with fail
  go_ret
  refine ⟨?_, Below.refl _ _⟩
  show Ending.returned (Value.int .i64 (15 - (d : Int))) = _
  congr 2; omega

set_option maxHeartbeats 400000 in
theorem beginnings_any (seed : ByteArray) (k : Int) (w : World) : Calls Tryz.prog 175 #[.string seed, .int .i64 k] w fun e w' => e = .returned (.func (.func 216) #[] #[.pointer (some ⟨w.heap.size, 0, none⟩), .pointer (some ⟨w.heap.size + 1, 0, none⟩)]) ∧ w'.cell? ⟨w.heap.size, 0, none⟩ = some (.string seed) ∧ w'.cell? ⟨w.heap.size + 1, 0, none⟩ = some (.int .i64 k) ∧ Below w.heap.size w w' := by
  have hmf : ∀ (fn : Fn) (first cap : Array Value) (w : World), (Instr.makeFunc fn first cap).run Tryz.prog w = .ok (.func fn first cap) w := fun _ _ _ _ => rfl
  have hb : Below w.heap.size w ((w.alloc (.cells #[.string seed] 9)).alloc (.cells #[.int .i64 k] 3)) := ((Below.refl _ _).alloc (Nat.le_refl _) _).alloc (by simp) _
  go_enter Tryz.func175, Tryz.ntmps175
  go_wp2_with fail
  go_ret
  refine ⟨rfl, ?_, ?_, hb⟩
  · rw [World.cell?_alloc_past _ _ _ (by simp), World.cell?_alloc_at _ _ _ _ rfl]; rfl
  · rw [World.cell?_alloc_at _ _ _ _ (by simp)]; rfl

set_option maxHeartbeats 400000 in
theorem keyCount_any (h : Nat) (w : World) (hh : h ≤ 8) : Calls Tryz.prog 179 #[.int .i64 h] w fun e w' => e = .returned (.int .i64 ((2 ^ h : Nat) : Int)) ∧ w' = w := by
  obtain rfl | rfl | rfl | rfl | rfl | rfl | rfl | rfl | rfl : h = 0 ∨ h = 1 ∨ h = 2 ∨ h = 3 ∨ h = 4 ∨ h = 5 ∨ h = 6 ∨ h = 7 ∨ h = 8 := by omega
  all_goals
    go_enter Tryz.func179, Tryz.ntmps179
    go_wp2_with fail
    go_ret
    exact ⟨rfl, rfl⟩
set_option maxHeartbeats 400000 in
theorem size_any' (h : Nat) (w : World) (hh : h ≤ 8) : Calls Tryz.prog 177 #[.int .i64 h] w fun e w' => e = .returned (.int .i64 ((2145 + 32 * h : Nat) : Int)) ∧ w' = w := by
  go_enter Tryz.func177, Tryz.ntmps177
  go_wp2_with fail
  go_ret
  refine ⟨?_, rfl⟩
  show Ending.returned (Value.int .i64 (2145 + (h : Int) * 32)) = _
  congr 2; omega
end Go.Proofs.YtijdnpoenpjnlaaGreatDoor
set_option linter.unusedVariables false
set_option linter.unusedSimpArgs false
namespace Go.Proofs.YtijdnpoenpjnlaaGreatDoor
open Go.RowKit

/-- copy of a string that is as long at least. -/
theorem run_copy_cut (w : World) (b dLen dCap : Nat) (t : ByteArray) (hle : dLen ≤ t.size) (ht : w.there b 0 dLen) :
    (Builtin.copy_ #[42, 9] 3 #[.slice (some ⟨b, 0, none⟩) dLen dCap, .string t]).run Tryz.prog w = .ok (goInt dLen) (w.setCells b 0 ((hV t).take dLen)) := by
  have hmin : Nat.min t.size dLen = dLen := Nat.min_eq_right hle
  have hl : ((hV t).take dLen).length = dLen := by rw [List.length_take]; unfold hV; rw [bytesV_length, numsOf_length]; omega
  have hst := run_storeCells_cells (P := Tryz.prog) b 0 ((hV t).take dLen) 0 w (by rw [hl]; intro j hj; simpa using (ht j hj).1) (by rw [hl]; intro j hj; simpa using (ht j hj).2) (fun v hv => hV_one t v (List.mem_of_mem_take hv))
  have e : (t.data.toList.map fun x => Value.int .u8 (x.toNat : Int)) = hV t := by unfold hV bytesV numsOf; rw [List.map_map]; rfl
  simp [Builtin.copy_, run_underlying Tryz.underlying42, Builtin.lenOf, Builtin.firstCells, size_byte, hmin]
  rw [e, hst]
  rfl
def zT0 : ByteArray := strOfNums (List.replicate 32 0)
/-- The c-th hash of a text of hashes. -/
def pieceF (V : ByteArray) (c : Nat) : ByteArray := V.extract (32 * c) (32 * c + 32)
theorem pieceF_size (V : ByteArray) (c : Nat) (h : 32 * c + 32 ≤ V.size) : (pieceF V c).size = 32 := by unfold pieceF; rw [ByteArray.size_extract]; omega

theorem nums_extract (V : ByteArray) (a b : Nat) : numsOf (V.extract a b) = ((numsOf V).drop a).take (b - a) := by
  unfold numsOf
  rw [ByteArray.data_extract, Array.toList_extract, List.extract_eq_take_drop, List.map_take, List.map_drop]
theorem piece_take (V : ByteArray) (c : Nat) (hc : 32 * c + 32 ≤ V.size) : (hV (V.extract (32 * c) V.size)).take 32 = hV (pieceF V c) := by
  unfold pieceF hV bytesV
  rw [nums_extract, nums_extract, ← List.map_take, List.take_take, Nat.min_eq_left (by omega), show 32 * c + 32 - 32 * c = 32 by omega]

set_option maxRecDepth 10000 in
set_option maxHeartbeats 1000000 in
theorem finish1_any (V : ByteArray) (c bv : Nat) (w : World) (hc : 32 * c + 32 ≤ V.size) (hV1 : V.size ≤ 1000000) (cv : w.cell? ⟨bv, 0, none⟩ = some (.string V)) :
    Calls Tryz.prog 217 #[.int .i64 c, .pointer (some ⟨bv, 0, none⟩)] w fun e w' => e = .returned (.agg (hV (pieceF V c)).toArray) ∧ Below w.heap.size w w' := by
  have l1 := World.block_lt_of_cell? w _ cv
  have k1 : (c : Int) * 32 ≤ (V.size : Int) := by omega
  have k0 : (0 : Int) ≤ (c : Int) * 32 := by omega
  have hwr : IntKind.i64.wrap ((c : Int) * 32) = (c : Int) * 32 := wrap_small _ (by omega) (by omega)
  have htn : ((c : Int) * 32).toNat = 32 * c := by omega
  obtain ⟨wB, hwB⟩ : ∃ wB, wB = (w.alloc (.cells z32.toArray 90)).alloc (.cells z32.toArray 90) := ⟨_, rfl⟩
  have cB : wB.cell? ⟨bv, 0, none⟩ = some (.string V) := by rw [hwB, World.cell?_alloc_past _ _ _ (by simp; exact Nat.lt_succ_of_lt l1), World.cell?_alloc_past _ _ _ l1]; exact cv
  go_enter Tryz.func217, Tryz.ntmps217
  go_wp2_with (first | (refine wpList_alloc_of rfl 90 rfl z32.toArray alloc_32 ?_))
  rw [← hwB]
  have J0 : wB.drew.cell? ⟨bv, 0, none⟩ = some (.string V) := cB
  refine wp_region_noPanic ?_
  refine wp_region_held_drew (S := fun W => W.cell? ⟨bv, 0, none⟩ = some (.string V)) (by kernel_rfl) J0 (fun _ => ?_)
  refine wpAnyH_take (i := 0) (v := ?_) rfl (by kernel_rfl) (by kernel_rfl) (by kernel_rfl) (fun _ _ _ h => h) (Or.inl ⟨by rfl, ?_⟩) J0 ?_
  rotate_left 1
  · intro W hSW; go_simp; try with_reducible rfl
  simp only [List.getElem_toArray, List.getElem_cons_zero, List.getElem_cons_succ, Act.put, List.setIfInBounds_toArray, List.set_cons_zero, List.set_cons_succ]
  refine wpAnyH_take (i := 1) (v := ?_) rfl (by kernel_rfl) (by kernel_rfl) (by kernel_rfl) (fun _ _ _ h => h) (Or.inl ⟨by rfl, ?_⟩) J0 ?_
  rotate_left 1
  · intro W hSW; go_simp; try with_reducible rfl
  simp only [List.getElem_toArray, List.getElem_cons_zero, List.getElem_cons_succ, Act.put, List.setIfInBounds_toArray, List.set_cons_zero, List.set_cons_succ]
  refine wpAnyH_take (i := 2) (v := ?_) rfl (by kernel_rfl) (by kernel_rfl) (by kernel_rfl) (fun _ _ _ h => h) (Or.inl ⟨by rfl, ?_⟩) J0 ?_
  rotate_left 1
  · intro W hSW; go_simp; try with_reducible rfl
  simp only [List.getElem_toArray, List.getElem_cons_zero, List.getElem_cons_succ, Act.put, List.setIfInBounds_toArray, List.set_cons_zero, List.set_cons_succ]
  refine wpAnyH_take (i := 3) (v := ?_) rfl (by kernel_rfl) (by kernel_rfl) (by kernel_rfl) (fun _ _ _ h => h) (Or.inl ⟨by rfl, ?_⟩) J0 ?_
  rotate_left 1
  · intro W hSW; go_simp; try with_reducible rfl
  simp only [List.getElem_toArray, List.getElem_cons_zero, List.getElem_cons_succ, Act.put, List.setIfInBounds_toArray, List.set_cons_zero, List.set_cons_succ]
  refine wpAnyH_take (i := 4) (v := ?_) rfl (by kernel_rfl) (by kernel_rfl) (by kernel_rfl) (fun _ _ _ h => h) (Or.inl ⟨by rfl, ?_⟩) J0 ?_
  rotate_left 1
  · intro W hSW; go_simp; try with_reducible rfl
  simp only [List.getElem_toArray, List.getElem_cons_zero, List.getElem_cons_succ, Act.put, List.setIfInBounds_toArray, List.set_cons_zero, List.set_cons_succ]
  refine wpAnyH_ready (rs := [5]) (by kernel_rfl) (by simp) ?_
  refine AllReadyH.cons rfl (fun K hK => ?_) AllReadyH.nil
  rw [if_pos (by rfl)]
  have htA : wB.drew.there (w.heap.size + 1) 0 32 := by
    show wB.there (w.heap.size + 1) 0 32
    rw [hwB]; have := there_z32 (w.alloc (.cells z32.toArray 90)); simpa using this
  have htR : wB.there w.heap.size 0 32 := by
    rw [hwB]; exact there_below ((Below.refl _ _).alloc (by simp) _) (Nat.lt_succ_self _) (there_z32 w)
  have hbB : Below w.heap.size w wB := by rw [hwB]; exact ((Below.refl _ _).alloc (Nat.le_refl _) _).alloc (by simp) _
  have hrun := run_copy_cut wB.drew (w.heap.size + 1) 32 32 (V.extract (32 * c) V.size) (by rw [ByteArray.size_extract]; omega) htA
  have h32 := pieceF_size V c hc
  rw [piece_take V c hc] at hrun
  have ip := hV_info h32
  have op := hV_one (pieceF V c)
  have lp := hV_len h32
  obtain ⟨L, hL⟩ : ∃ L, L = hV (pieceF V c) := ⟨_, rfl⟩
  rw [← hL] at hrun ip op lp
  refine Lib.wp_copy_run _ (.tmp 5) (.tmp 9) 42 9 rfl _ _ rfl rfl hrun ?_
  have J1 : (wB.drew.setCells (w.heap.size + 1) 0 L).cell? ⟨bv, 0, none⟩ = some (.string V) := by
    rw [World.cell?_setCells_out _ _ _ _ ⟨bv, 0, none⟩ (fun e _ => by exfalso; simp at e; omega)]; exact J0
  have hrC : (wB.drew.setCells (w.heap.size + 1) 0 L).rangeAt (w.heap.size + 1) 0 L := World.rangeAt_setCells_same _ _ _ _ (by rw [lp]; exact htA)
  have htC : (wB.drew.setCells (w.heap.size + 1) 0 L).there w.heap.size 0 L.length := by rw [lp]; exact World.there_setCells (show wB.drew.there w.heap.size 0 32 from htR) _ _ _
  have hbC : Below w.heap.size w (wB.drew.setCells (w.heap.size + 1) 0 L) := below_setCells (by omega) _ _ _ hbB.drew
  clear hrun
  generalize wB.drew.setCells (w.heap.size + 1) 0 L = wC at *
  refine hK.out _ _ J1 (fun _ => ?_)
  clear hK K
  refine ⟨by kernel_rfl, ?_⟩
  refine NoPanic.normal ?_
  try simp only [List.getElem_toArray, List.getElem_cons_zero, List.getElem_cons_succ, Act.put, List.setIfInBounds_toArray, List.set_cons_zero, List.set_cons_succ]
  go_wp2_with (first | (refine wpList_load_mid rfl 90 _ rfl (w.heap.size + 1) 0 rfl L _ hrC Tryz.underlying90 rfl ip ?_) | (refine wpList_store_abs rfl 90 _ _ rfl w.heap.size 0 L rfl rfl htC ip op ?_; intro w2 _hw2 hr2 _ht2 hb2; clear _hw2 _ht2))
  exact ret_cell rfl w.heap.size 0 L _ rfl hr2 Tryz.underlying90 rfl ip rfl ⟨by rw [hL], hbC.trans (hb2 _ (Nat.le_refl _))⟩
/-- The hash of one text. -/
theorem of_msg (K : Nat → Int) (x : ByteArray) (W : World) (hx : x.size ≤ 140737488355000) (T : Tab K W) :
    Calls Tryz.prog 54 #[.slice (some ⟨W.heap.size, 0, none⟩) 1 1] (W.alloc (.cells #[.string x] 9)) fun e w' => e = .returned (.agg (hV (sumOf K x)).toArray) ∧ Below (W.heap.size + 1) (W.alloc (.cells #[.string x] 9)) w' := by
  have T0 := T.below ((Below.refl _ W).alloc (Nat.le_refl _) (.cells #[.string x] 9))
  have hof := of_any [x] W.heap.size 1 K (W.alloc (.cells #[.string x] 9)) (by simp) (by simp)
    (by simp [joinN, numsOf_length]; omega)
    (fun j hj => by
      rw [World.cell?_alloc_at _ _ _ _ (by simp)]
      have hj2 : j < 1 := hj
      obtain rfl : j = 0 := by omega
      rfl) T0.lt T0.cells
  rw [hV_sum K (joinN [x]) x (by simp [joinN])] at hof
  rw [show [x].length = 1 from rfl] at hof
  simpa using hof
def finB (V : ByteArray) (c : Nat) : ByteArray := if c < 67 then pieceF V c else zT0
/-- The leaf to which a signature's values lead. -/
def finT (H : ByteArray → ByteArray) (V msg : ByteArray) : ByteArray := chainsT H (finB V) (fun c => 15 - dig (H msg) c) 67

set_option maxRecDepth 10000 in
set_option maxHeartbeats 1000000 in
theorem finish_any (K : Nat → Int) (V msg : ByteArray) (w : World) (hV1 : V.size = 2144) (hm : msg.size ≤ 140737488355000) (T : Tab K w) :
    Calls Tryz.prog 178 #[.string V, .string msg] w (strPost1 (finT (sumOf K) V msg) w) := by
  have hmf : ∀ (fn : Fn) (first cap : Array Value) (w : World), (Instr.makeFunc fn first cap).run Tryz.prog w = .ok (.func fn first cap) w := fun _ _ _ _ => rfl
  have hb0 : Below w.heap.size w (w.alloc (.cells #[.string V] 9)) := (Below.refl _ _).alloc (Nat.le_refl _) _
  have cv : (w.alloc (.cells #[.string V] 9)).cell? ⟨w.heap.size, 0, none⟩ = some (.string V) := by rw [World.cell?_alloc_at _ _ _ _ rfl]; rfl
  have hof := of_msg K msg (w.alloc (.cells #[.string V] 9)) hm (T.below hb0)
  have hz0 : (w.alloc (.cells #[.string V] 9)).heap.size = w.heap.size + 1 := by simp
  rw [hz0] at hof
  have h32 := sumOf_size K msg
  have hdg := fun W => digits_any (sumOf K msg) h32 W
  have HAL : Hid (∀ W (bd : Nat), Below w.heap.size w W → W.cell? ⟨w.heap.size, 0, none⟩ = some (.string V) → W.rangeAt bd 0 (digV (sumOf K msg)) → bd < W.heap.size → w.heap.size < W.heap.size → Calls Tryz.prog 174 #[.func (.func 217) #[] #[.pointer (some ⟨w.heap.size, 0, none⟩)], .func (.func 218) #[] #[.pointer (some ⟨bd, 0, none⟩)]] W (strPost1 (finT (sumOf K) V msg) W)) := fun W bd hb hc hr hbd hzz =>
    along_fin K (finB V) (fun c => 15 - dig (sumOf K msg) c) w.heap.size bd W (T.below hb) (fun c => by unfold finB; split; exact pieceF_size V c (by omega); rfl) (fun c => by omega)
      (fun W' hb' c hc' => by
        have := finish1_any V c w.heap.size W' (by omega) (by omega) ((hb'.cell (p := ⟨w.heap.size, 0, none⟩) hzz).trans hc)
        rw [show finB V c = pieceF V c by unfold finB; rw [if_pos hc']]
        exact this)
      (fun W' hb' c hc' => finish2_any (sumOf K msg) c bd W' hc' (fun j u hu => (hb'.cell (p := ⟨bd, 0 + j, none⟩) hbd).trans (hr j u hu)))
  have HT : Hid (Tab K w) := T
  have idv := digV_info (sumOf K msg)
  have odv := digV_one (sumOf K msg)
  have ldv := digV_len (sumOf K msg)
  generalize finT (sumOf K) V msg = R at *
  generalize digV (sumOf K msg) = D at *
  generalize sumOf K msg = hm0 at *
  clear T
  go_enter Tryz.func178, Tryz.ntmps178
  go_wp2_with fail
  refine hof.mono ?_
  rintro e w1 ⟨rfl, hb1⟩
  clear hof
  have hb1' : Below (w.heap.size + 1) (w.alloc (.cells #[.string V] 9)) w1 := ((Below.refl _ _).alloc (by simp) _).trans (hb1.mono (by omega))
  have hB1 : Below w.heap.size w w1 := hb0.trans (hb1'.mono (by omega))
  have cv1 : w1.cell? ⟨w.heap.size, 0, none⟩ = some (.string V) := (hb1'.cell (p := ⟨w.heap.size, 0, none⟩) (by show w.heap.size < w.heap.size + 1; omega)).trans cv
  have hz1 : w.heap.size < w1.heap.size := by have := hb1'.size; simp at this; omega
  clear hb1 hb1' cv hb0
  go_wp2_with fail
  refine (hdg w1).mono ?_
  rintro e w2 ⟨rfl, hb2⟩
  clear hdg
  have hB2 : Below w.heap.size w w2 := hB1.trans (hb2.mono hB1.size)
  have cv2 : w2.cell? ⟨w.heap.size, 0, none⟩ = some (.string V) := (hb2.cell (p := ⟨w.heap.size, 0, none⟩) hz1).trans cv1
  have hz2 : w.heap.size < w2.heap.size := Nat.lt_of_lt_of_le hz1 hb2.size
  have ht2 : (w2.alloc (.cells z67.toArray 180)).there w2.heap.size 0 D.length := by rw [ldv]; exact there_z67 w2
  clear hb2 cv1
  go_wp2_with (first | (refine wpList_alloc_of rfl 180 rfl z67.toArray alloc_67 ?_) | (refine wpList_store_abs rfl 180 _ _ rfl w2.heap.size 0 D rfl rfl ht2 idv odv ?_; intro w3 _hw3 hr3 _ht3 hb3; clear _hw3 _ht3))
  have hb23 : Below w2.heap.size w2 w3 := ((Below.refl _ _).alloc (Nat.le_refl _) _).trans (hb3 _ (Nat.le_refl _))
  have hB3 : Below w.heap.size w w3 := hB2.trans (hb23.mono hB2.size)
  have cv3 : w3.cell? ⟨w.heap.size, 0, none⟩ = some (.string V) := (hb23.cell (p := ⟨w.heap.size, 0, none⟩) hz2).trans cv2
  have hq3 : w2.heap.size < w3.heap.size := by have := (hb3 _ (Nat.le_refl _)).size; simp at this; omega
  refine (HAL.out w3 w2.heap.size hB3 cv3 hr3 hq3 (by omega)).mono ?_
  rintro e w4 ⟨rfl, hb4⟩
  go_wp2_with fail
  go_ret
  exact ⟨rfl, hB3.trans (hb4.mono hB3.size)⟩
end Go.Proofs.YtijdnpoenpjnlaaGreatDoor
set_option linter.unusedVariables false
set_option linter.unusedSimpArgs false
namespace Go.Proofs.YtijdnpoenpjnlaaGreatDoor
open Go.RowKit

/-- The leaf of key k. -/
def leafF (H : ByteArray → ByteArray) (seed : ByteArray) (k : Nat) : ByteArray := chainsT H (beginF H seed k) (fun _ => 15) 67
/-- A row of texts in block B, of which q have been laid. -/
structure PartAt (B N q : Nat) (F : Nat → ByteArray) (w0 w : World) : Prop where
  cells : ∀ j, j < q → w.cell? ⟨B, j, none⟩ = some (.string (F j))
  room : w.there B 0 N
  lt : B < w.heap.size
  b : Below B w0 w
theorem PartAt.below {B N q : Nat} {F : Nat → ByteArray} {w0 w w' : World} (H : PartAt B N q F w0 w) (hb : Below w.heap.size w w') : PartAt B N q F w0 w' :=
  ⟨fun j hj => (hb.cell (p := ⟨B, j, none⟩) H.lt).trans (H.cells j hj), there_below hb H.lt H.room, Nat.lt_of_lt_of_le H.lt hb.size, H.b.trans (hb.mono (Nat.le_of_lt H.lt))⟩
theorem PartAt.at {B N q : Nat} {F : Nat → ByteArray} {w0 w : World} (H : PartAt B N q F w0 w) (hq : q < N) : (∃ x, w.cell? ⟨B, q, none⟩ = some x) ∧ w.frozen? ⟨B, q, none⟩ = false := by
  have := H.room q hq
  rw [Nat.zero_add] at this
  exact ⟨Option.isSome_iff_exists.1 this.1, this.2⟩
theorem PartAt.put {B N q : Nat} {F : Nat → ByteArray} {w0 w : World} (H : PartAt B N q F w0 w) (hq : q < N) : PartAt B N (q + 1) F w0 (w.setCell ⟨B, q, none⟩ (.string (F q))) := by
  obtain ⟨⟨x, hx⟩, _⟩ := H.at hq
  refine ⟨fun j hj => ?_, World.there_setCells H.room B q [_], by simpa using H.lt, H.b.setCell (p := ⟨B, q, none⟩) (Nat.le_refl _) _⟩
  rcases Nat.lt_or_ge j q with h | h
  · rw [World.cell?_setCell_other (w := w) (a := ⟨B, q, none⟩) (b := ⟨B, j, none⟩) _ (by intro e; have := congrArg Addr.off e; simp at this; omega)]
    exact H.cells j h
  · obtain rfl : j = q := by omega
    exact World.cell?_setCell_same _ _ _ hx
theorem PartAt.leaf {B N : Nat} {F : Nat → ByteArray} {w0 w : World} (H : PartAt B N N F w0 w) : LeafAt w (.slice (some ⟨B, 0, none⟩) N N) ((List.range N).map F) :=
  Or.inr ⟨B, 0, N, by simp, by simp, fun j hj => by rw [Nat.zero_add, H.cells j (by simpa using hj)]; simp⟩

set_option maxRecDepth 10000 in
set_option maxHeartbeats 1000000 in
theorem rowLeaves_any (K : Nat → Int) (seed : ByteArray) (h : Nat) (w : World) (hh : h ≤ 5) (hs : seed.size ≤ 100000) (T : Tab K w) :
    Calls Tryz.prog 172 #[.string seed, .int .i64 h] w fun e w' => e = .returned (.slice (some ⟨w.heap.size, 0, none⟩) (2 ^ h) (2 ^ h)) ∧ PartAt w.heap.size (2 ^ h) (2 ^ h) (leafF (sumOf K) seed) w w' := by
  have hkc := keyCount_any h w (by omega)
  have hN1 : 2 ^ h ≤ 32 := Nat.pow_le_pow_right (n := 2) (by omega) hh
  have HAL : Hid (∀ (q : Nat) W W1, Below w.heap.size w W → W1.cell? ⟨W.heap.size, 0, none⟩ = some (.string seed) → W1.cell? ⟨W.heap.size + 1, 0, none⟩ = some (.int .i64 q) → Below W.heap.size W W1 → Calls Tryz.prog 174 #[.func (.func 216) #[] #[.pointer (some ⟨W.heap.size, 0, none⟩), .pointer (some ⟨W.heap.size + 1, 0, none⟩)], .func (.func 215) #[] #[]] W1 (strPost1 (leafF (sumOf K) seed q) W1)) := fun q W W1 hb c1 c2 hb1 => by
    have T1 := T.below (hb.trans (hb1.mono hb.size))
    have l1 := World.block_lt_of_cell? W1 _ c1
    have l2 := World.block_lt_of_cell? W1 _ c2
    exact along_leaf K (beginF (sumOf K) seed q) (fun _ => 15) W.heap.size (W.heap.size + 1) W1 T1 (fun c => sumOf_size K _) (fun _ => Nat.le_refl _)
      (fun W' hb' c hc => begin1_any K seed q c W.heap.size (W.heap.size + 1) W' hs ((hb'.cell (p := ⟨W.heap.size, 0, none⟩) l1).trans c1) ((hb'.cell (p := ⟨W.heap.size + 1, 0, none⟩) l2).trans c2) (T1.below hb'))
      (fun W' hb' c hc => leaves1_any c W')
  clear T
  generalize leafF (sumOf K) seed = F at *
  generalize 2 ^ h = N at *
  obtain ⟨i0, hi, hz, hsz, hby⟩ := info_strT
  go_enter Tryz.func172, Tryz.ntmps172
  go_wp2_with fail
  refine hkc.mono ?_
  rintro e w' ⟨rfl, rfl⟩
  clear hkc
  go_wp2_with (at_make; refine wpList_make_full _ rfl _ _ 30 rfl w'.heap.size 9 i0 (.string ⟨#[]⟩) 1 Tryz.underlying30 hi hz hsz .i64 .i64 _ _ N rfl rfl ?L ?C ?b2 ?b3 (Nat.le_refl _) ?_)
  case L => go_num
  case C => go_num
  case b2 => rw [hby]; omega
  case b3 => unfold maxLen; omega
  intro w1 ho hg1
  have hB1 : Below w'.heap.size w' w1 := (Below.refl _ _).grown hg1 (Nat.le_refl _) (fun k hk => by cases hk)
  have hz1 := (ho.lt w'.heap.size rfl).2
  have ht1 : w1.there w'.heap.size 0 N := own_there ho
  have HP : Hid (PartAt w'.heap.size N 0 F w' w1) := ⟨fun j hj => by omega, ht1, hz1, hB1⟩
  clear ho hg1 hB1 hz1 ht1
  go_wp2_with fail
  go_loopw [12] (fun i wr => ∃ q : Nat, i = .int .i64 q ∧ q ≤ N ∧ Hid (PartAt w'.heap.size N q F w' wr)) (fun i _ => N - (intOf i).toNat)
  case atStart => exact ⟨0, rfl, Nat.zero_le _, HP⟩
  case round =>
    obtain ⟨q, rfl, hq, hI⟩ := hrel
    by_cases hlt : q < N
    · have q1 : (q : Int) < (N : Int) := by omega
      have q0 : (0 : Int) ≤ (q : Int) := by omega
      go_wp2_with fail
      refine (beginnings_any seed q wr).mono ?_
      rintro e w2 ⟨rfl, c1, c2, hb2⟩
      have hal := HAL.out q wr w2 hI.out.b c1 c2 hb2
      have HP2 := hI.out.below hb2
      obtain ⟨s, es⟩ : ∃ s, s = F q := ⟨_, rfl⟩
      rw [← es] at hal
      have HS : Hid (s = F q) := es
      clear es c1 c2 hb2
      go_wp2_with fail
      refine hal.mono ?_
      rintro e w3 ⟨rfl, hb3⟩
      clear hal
      have HP3 : Hid (PartAt w'.heap.size N q F w' w3) := HP2.below hb3
      clear hb3 HP2
      obtain ⟨⟨x3, cx3⟩, fx3⟩ := HP3.out.at hlt
      go_wp2_with fail
      refine ⟨⟨q + 1, by go_num, by omega, ?_⟩, ?_⟩
      · rw [HS.out]; exact HP3.out.put hlt
      · simp [intOf]; omega
    · have q1 : ¬ (q : Int) < (N : Int) := by omega
      obtain rfl : q = N := by omega
      go_wp2_with fail
      go_ret
      exact ⟨rfl, hI.out⟩

theorem run_cut_str (X : ByteArray) (a b : Nat) (w : World) (hab : a ≤ b) (hb : b ≤ X.size) :
    (Instr.slice 9 (.string X) (some (.int .i64 (a : Int))) (some (.int .i64 (b : Int))) none).run Tryz.prog w = .ok (.string (X.extract a b)) w := by
  have h1 : (a : Int) ≤ (b : Int) := by omega
  have h2 : (b : Int) ≤ (X.size : Int) := by omega
  have h3 : (0 : Int) ≤ (a : Int) := by omega
  have h4 : (0 : Int) ≤ (b : Int) := by omega
  go_simp
theorem run_cut_piece (X : ByteArray) (q : Nat) (w : World) (hb : 32 * q + 32 ≤ X.size) :
    (Instr.slice 9 (.string X) (some (.int .i64 ((q : Int) * 32))) (some (.int .i64 (((q : Int) + 1) * 32))) none).run Tryz.prog w = .ok (.string (pieceF X q)) w := by
  have := run_cut_str X (32 * q) (32 * q + 32) w (by omega) hb
  rw [show ((32 * q : Nat) : Int) = (q : Int) * 32 by omega, show ((32 * q + 32 : Nat) : Int) = ((q : Int) + 1) * 32 by omega] at this
  exact this

set_option maxRecDepth 10000 in
set_option maxHeartbeats 1000000 in
theorem cutS_any (X : ByteArray) (h : Nat) (w : World) (hh : h ≤ 8) (hx : X.size = 32 * h) :
    Calls Tryz.prog 180 #[.string X] w fun e w' => e = .returned (.slice (some ⟨w.heap.size, 0, none⟩) h h) ∧ PartAt w.heap.size h h (pieceF X) w w' := by
  obtain ⟨i0, hi, hz, hsz, hby⟩ := info_strT
  have hq : ((X.size : Nat) : Int).tdiv 32 = (h : Int) := by rw [hx, Int.tdiv_eq_ediv_of_nonneg (by omega)]; omega
  have hl : ((X.size : Nat) : Int) ≤ 256 := by omega
  have HX : Hid (X.size = 32 * h) := hx
  clear hx
  go_enter Tryz.func180, Tryz.ntmps180
  go_wp2_with (at_make; refine wpList_make_full _ rfl _ _ 30 rfl w.heap.size 9 i0 (.string ⟨#[]⟩) 1 Tryz.underlying30 hi hz hsz .i64 .i64 _ _ h rfl rfl ?L ?C ?b2 ?b3 (Nat.le_refl _) ?_)
  case L => go_num
  case C => go_num
  case b2 => rw [hby]; omega
  case b3 => unfold maxLen; omega
  intro w1 ho hg1
  have hB1 : Below w.heap.size w w1 := (Below.refl _ _).grown hg1 (Nat.le_refl _) (fun k hk => by cases hk)
  have hz1 := (ho.lt w.heap.size rfl).2
  have ht1 : w1.there w.heap.size 0 h := own_there ho
  have HP : Hid (PartAt w.heap.size h 0 (pieceF X) w w1) := ⟨fun j hj => by omega, ht1, hz1, hB1⟩
  clear ho hg1 hB1 hz1 ht1
  go_wp2_with fail
  go_loopw [11] (fun i wr => ∃ q : Nat, i = .int .i64 q ∧ q ≤ h ∧ Hid (PartAt w.heap.size h q (pieceF X) w wr)) (fun i _ => h - (intOf i).toNat)
  case atStart => exact ⟨0, rfl, Nat.zero_le _, HP⟩
  case round =>
    obtain ⟨q, rfl, hq, hI⟩ := hrel
    by_cases hlt : q < h
    · have q1 : (q : Int) < (h : Int) := by omega
      have q0 : (0 : Int) ≤ (q : Int) := by omega
      have hX := HX.out
      have hsl := fun W => run_cut_piece X q W (by omega)
      have hw1 : IntKind.i64.wrap ((q : Int) * 32) = (q : Int) * 32 := wrap_small _ (by omega) (by omega)
      have hw2 : IntKind.i64.wrap ((q : Int) + 1) = (q : Int) + 1 := wrap_small _ (by omega) (by omega)
      have hw3 : IntKind.i64.wrap (((q : Int) + 1) * 32) = ((q : Int) + 1) * 32 := wrap_small _ (by omega) (by omega)
      obtain ⟨⟨x3, cx3⟩, fx3⟩ := hI.out.at hlt
      clear hX
      go_wp2_with fail
      refine ⟨⟨q + 1, by go_num, by omega, ?_⟩, ?_⟩
      · exact hI.out.put hlt
      · simp [intOf]; omega
    · have q1 : ¬ (q : Int) < (h : Int) := by omega
      obtain rfl : q = h := by omega
      go_wp2_with fail
      go_ret
      exact ⟨rfl, hI.out⟩
set_option maxHeartbeats 400000 in
theorem fits_any (t : ByteArray) (h : Int) (w : World) (ht : t.size ≤ 140737488355000) : Calls Tryz.prog 171 #[.string t, .int .i64 h] w fun e w' => e = .returned (.bool (decide (t.size = 32 ∧ 0 ≤ h ∧ h ≤ 5))) ∧ Below w.heap.size w w' := by
  go_enter Tryz.func171, Tryz.ntmps171
  by_cases h1 : t.size = 32
  · have e1 : ((t.size : Nat) : Int) = 32 := by omega
    by_cases h2 : 0 ≤ h
    · by_cases h3 : h ≤ 5
      · go_wp2_with fail
        go_ret
        exact ⟨by simp [h1, h2, h3], Below.refl _ _⟩
      · go_wp2_with fail
        go_ret
        exact ⟨by simp [h1, h2, h3], Below.refl _ _⟩
    · go_wp2_with fail
      go_ret
      exact ⟨by simp [h1, h2]; omega, Below.refl _ _⟩
  · have e1 : ¬ ((t.size : Nat) : Int) = 32 := by omega
    go_wp2_with fail
    go_ret
    exact ⟨by simp [h1], Below.refl _ _⟩
end Go.Proofs.YtijdnpoenpjnlaaGreatDoor
