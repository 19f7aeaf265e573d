import Derived.Test.YteglimjonofdeaaGreatDoorNNode4M
import Derived.Test.YteglimjonofdeaaGreatDoorWTakeM
import Derived.Laws.BitsAllLaws
set_option linter.unusedVariables false
set_option linter.unusedSimpArgs false
namespace Go.Proofs.YteglimjonofdeaaGreatDoor
open Go.RowKit

set_option maxHeartbeats 400000 in
theorem fits_any (z : Nv) (w : World) (h0 : 0 ≤ z.r) (h1 : z.r ≤ z.last) (h2 : z.last < 3) : Calls Tryz.prog 133 #[.agg (plL z).toArray] w fun e w' => e = .returned (.bool true) ∧ Below w.heap.size w w' := by
  unfold plL
  go_enter Tryz.func133, Tryz.ntmps133
  go_wp2_with fail
  go_ret
  exact ⟨rfl, (Below.refl _ _).alloc (Nat.le_refl _) _⟩
set_option maxHeartbeats 400000 in
theorem sfits_any (s : ByteArray) (h : Int) (w : World) (hs : s.size = 32) (h0 : 0 ≤ h) (h8 : h ≤ 5) : Calls Tryz.prog 74 #[.string s, .int .i64 h] w fun e w' => e = .returned (.bool true) ∧ w' = w := by
  have hs' : (s.size : Int) = 32 := by omega
  go_enter Tryz.func74, Tryz.ntmps74
  go_wp2_with fail
  go_ret
  exact ⟨rfl, rfl⟩
theorem pl_built (z : Nv) : Tryz.prog.built 108 [(0, .int .i64 z.r), (1, .int .i64 z.last)] = some (plL z).toArray := by kernel_rfl
/-- A node that was opened just now. -/
def nv0 (r last : Int) (s : ByteArray) (h : Int) : Nv := ⟨r, last, s, h, 0, false, ⟨#[]⟩, 0⟩
theorem alloc_pl (w : World) : (Instr.alloc 108 true (.tuple #[])).run Tryz.prog w = .ok (.pointer (some ⟨w.heap.size, 0, none⟩)) (w.alloc (.cells (plL (nv0 0 0 ⟨#[]⟩ 0)).toArray 108)) := by kernel_rfl
theorem pl_one (z : Nv) : ∀ u ∈ plL z, u.oneCell' = true := by intro u hu; simp [plL] at hu; rcases hu with rfl | rfl <;> rfl
theorem nd_built (r last : Int) (s : ByteArray) (h : Int) (bk : Nat) : Tryz.prog.built 111 [(0, .agg (plL (nv0 r last s h)).toArray), (1, .pointer (some ⟨bk, 0, none⟩)), (2, .string s), (3, .int .i64 h)] = some (ndL (nv0 r last s h) bk).toArray := by kernel_rfl
theorem alloc_vl (w : World) : (Instr.alloc 222 true (.tuple #[])).run Tryz.prog w = .ok (.pointer (some ⟨w.heap.size, 0, none⟩)) (w.alloc (.cells #[.nilIface, .int .i64 0] 222)) := by kernel_rfl
/-- What Open of a fresh disk leaves: a node that is alone. -/
def nopPost (K : Nat → Int) (z : Nv) (q bb N : Nat) (C : Nat → List Int) (w : World) (e : Ending) (w' : World) : Prop :=
  ∃ nd bk j lm m l, e = .returned (.tuple #[.pointer (some ⟨nd, 0, none⟩), .nilIface]) ∧ Al K w' z nd q bb N j 1 C l bk lm m 0 0 (.slice none 0 0) [] (fun g => g = m) (fun _ => False) (.map []) ∧ (w.heap.size ≤ j ∧ w.heap.size ≤ bk ∧ w.heap.size ≤ lm ∧ w.heap.size ≤ m ∧ w.heap.size ≤ nd) ∧ Kept (fun g => g = q ∨ g = bb) w w'

set_option maxRecDepth 10000 in
set_option maxHeartbeats 4000000 in
theorem nopen_any (K : Nat → Int) (ro la h : Int) (q bb N : Nat) (C : Nat → List Int) (r s : ByteArray) (w : World) (hro : 0 ≤ ro) (hrl : ro ≤ la) (hla : la < 3) (hh0 : 0 ≤ h) (hh5 : h ≤ 5) (h4 : N ≤ 400) (hn8 : 8 ≤ N) (hr : r.size ≤ 18) (hs : s.size = 32) (hD : DiskAt w q bb N C (.slice none 0 0) []) (T : Tab K w) (hpT : ¬ 1 = q) (hbT : ¬ 1 = bb)
    (hC0 : C 0 = packN K (sumOf K origT) r) (hC1 : C 1 = z128) (hno : z128.take 32 ≠ (packN K (sumOf K (sumOf K origT ++ r)) ⟨#[]⟩).take 32) :
    Calls Tryz.prog 89 #[devV q, .int .i64 ro, .int .i64 la, .string s, .int .i64 h] w (nopPost K (nv0 ro la s h) q bb N C w) := by
  have hof := volOf_any q bb N C _ _ w hD hn8 h4
  have HD : Hid (DiskAt w q bb N C (.slice none 0 0) []) := hD
  have HT : Hid (Tab K w) := T
  have HNO : Hid (C 0 = packN K (sumOf K origT) r ∧ C 1 = z128 ∧ z128.take 32 ≠ (packN K (sumOf K (sumOf K origT ++ r)) ⟨#[]⟩).take 32) := ⟨hC0, hC1, hno⟩
  have HIV : Hid ((Tryz.prog.info? 222).map (·.size) = some (volL q N).length) := info_vol q N
  have HTL : Hid (1 < w.heap.size) := T.lt
  clear hD T hC0 hC1 hno
  go_enter Tryz.func89, Tryz.ntmps89
  unfold devV at hof ⊢
  go_wp2_with fail
  refine hof.mono ?_
  rintro e W1 ⟨rfl, hb1⟩
  have s1 := hb1.size
  obtain ⟨W2, h2⟩ : ∃ X, X = W1.alloc (.cells #[.nilIface, .int .i64 0] 222) := ⟨_, rfl⟩
  have hs2 : W2.heap.size = W1.heap.size + 1 := by rw [h2]; simp
  have b2 : Below W1.heap.size W1 W2 := by rw [h2]; exact (Below.refl _ _).alloc (Nat.le_refl _) _
  have t2 : W2.there W1.heap.size 0 (volL q N).length := by rw [h2]; exact there_new W1 #[.nilIface, .int .i64 0] _
  have HVI := info_vol q N
  have HVO := volL_one q N
  have HB2 : Hid (Below w.heap.size w W2) := hb1.trans (b2.mono s1)
  clear hof hb1 b2
  generalize hcs : (volL q N).toArray = cs at *
  go_wp2_with (first
    | (refine wpList_alloc_of rfl 222 rfl #[.nilIface, .int .i64 0] alloc_vl ?_; rw [← h2]; clear h2)
    | (refine wpList_store_abs rfl 222 _ _ rfl W1.heap.size 0 (volL q N) rfl (by rw [hcs]; rfl) t2 HVI HVO ?_
       intro W3 hw3 hr3 _ht3 hb3
       have s3 : W3.heap.size = W1.heap.size + 1 := (by rw [hw3, size_setCells]; exact hs2)
       have HB3 : Hid (Below w.heap.size w W3) := HB2.out.trans (hb3 w.heap.size s1)
       have HR3 : Hid (W3.rangeAt W1.heap.size 0 (volL q N)) := hr3
       obtain ⟨W4, h4'⟩ : ∃ X, X = W3.alloc (.cells (plL (nv0 0 0 ⟨#[]⟩ 0)).toArray 108) := ⟨_, rfl⟩
       have s4 : W4.heap.size = W1.heap.size + 2 := (by rw [h4']; simp; omega)
       have b4 : Below W3.heap.size W3 W4 := (by rw [h4']; exact (Below.refl _ _).alloc (Nat.le_refl _) _)
       have t4 : W4.there (W1.heap.size + 1) 0 (plL (nv0 ro la s h)).length := (by have := there_new W3 (plL (nv0 0 0 ⟨#[]⟩ 0)).toArray 108; rw [← h4', s3] at this; exact this)
       have HB4 : Hid (Below w.heap.size w W4) := HB3.out.trans (b4.mono (by omega))
       have HR4 : Hid (W4.rangeAt W1.heap.size 0 (volL q N)) := range_kept HR3.out (Kept.fresh (S := fun _ => False) b4) (by omega) id
       have hpb : Tryz.prog.built 108 [(0, .int .i64 ro), (1, .int .i64 la)] = some (plL (nv0 ro la s h)).toArray := pl_built (nv0 ro la s h)
       clear _ht3 hw3 hb3 hr3 t2 b4)
    | (refine wpList_build_tm rfl 108 _ rfl _ (Eq.trans (congrArg (Tryz.prog.built _) (by simp [Act.eval])) hpb) ?_)
    | (refine wpList_alloc_of rfl 108 rfl (plL (nv0 0 0 ⟨#[]⟩ 0)).toArray alloc_pl ?_; rw [← h4']; clear h4'; rw [s3])
    | (refine wpList_store_abs rfl 108 _ _ rfl (W1.heap.size + 1) 0 (plL (nv0 ro la s h)) rfl rfl t4 (info_pl _) (pl_one _) ?_
       intro W5 hw5 hr5 _ht5 hb5
       have s5 : W5.heap.size = W1.heap.size + 2 := (by rw [hw5, size_setCells]; exact s4)
       have HB5 : Hid (Below w.heap.size w W5) := HB4.out.trans (hb5 w.heap.size (by omega))
       have k5 : Kept (· = W1.heap.size + 1) W4 W5 := (by rw [hw5]; exact Kept.setCells _ _ _ _ (Or.inl rfl))
       have HR5 : Hid (W5.rangeAt W1.heap.size 0 (volL q N)) := range_kept HR4.out k5 (by omega) (by show ¬ W1.heap.size = W1.heap.size + 1; omega)
       clear _ht5 hw5 hb5 t4 k5)
    | (refine wpList_load_mid rfl 108 _ rfl (W1.heap.size + 1) 0 rfl (plL (nv0 ro la s h)) _ hr5 Tryz.underlying108 rfl (info_pl _) ?_))
  refine (fits_any (nv0 ro la s h) W5 hro hrl hla).mono ?_
  rintro e W6 ⟨rfl, hb6⟩
  have s6 := hb6.size
  have HB6 : Hid (Below w.heap.size w W6) := HB5.out.trans (hb6.mono (by omega))
  have r6 : W6.rangeAt W1.heap.size 0 (volL q N) := range_kept HR5.out (Kept.fresh (S := fun _ => False) hb6) (by omega) id
  have p6 : W6.rangeAt (W1.heap.size + 1) 0 (plL (nv0 ro la s h)) := range_kept hr5 (Kept.fresh (S := fun _ => False) hb6) (by omega) id
  clear hb6 hr5
  have hfit := sfits_any s h W6 hs hh0 hh5
  go_wp2_with fail
  refine hfit.mono ?_
  rintro e W7 ⟨rfl, hw7⟩
  obtain rfl : W6 = W7 := hw7.symm
  clear hw7 hfit
  have hbo := bopen_any K q bb N C r W6 (by omega) hn8 hr (HD.out.fresh HB6.out) (HT.out.below HB6.out) hpT HNO.out.1 HNO.out.2.1 HNO.out.2.2
  rw [hcs] at hbo
  go_wp2_with (first
    | (refine wpList_load_mid rfl 222 _ rfl W1.heap.size 0 rfl (volL q N) _ r6 Tryz.underlying222 rfl HIV.out ?_; rw [hcs]))
  refine hbo.mono ?_
  rintro e W8 ⟨bk, j, lm, m, l, rfl, j8, b8, ⟨g1, g2, g3, g4⟩, ⟨n1, n2, n3⟩, k8⟩
  have s8 := k8.size
  have hql := HD.out.lt
  have p8 : W8.rangeAt (W1.heap.size + 1) 0 (plL (nv0 ro la s h)) := range_kept p6 k8 (by omega) (by show ¬ (W1.heap.size + 1 = q ∨ W1.heap.size + 1 = bb); omega)
  have J8 : W8.drew.rangeAt (W1.heap.size + 1) 0 (plL (nv0 ro la s h)) := p8
  have hbl := b8.lt
  have hml := b8.recs.lts m rfl
  have hll := b8.lasts.lt
  have hjl := j8.lt
  have hTL := HTL.out
  have hB6 := HB6.out.size
  have HJ8 : Hid (JAt W8 q bb N j 1 C l) := j8
  have HB8 : Hid (BookAt W8 bk j lm m 0 0 (.slice none 0 0) [] (fun g => g = m) (fun _ => False) (.map [])) := b8
  have HK8 : Hid (Kept (fun g => g = q ∨ g = bb) W6 W8) := k8
  clear hbo j8 b8 k8 r6 p6 p8
  go_wp2_with fail
  refine wp_region_noPanic ?_
  refine wp_region_held_drew (S := fun W => W.rangeAt (W1.heap.size + 1) 0 (plL (nv0 ro la s h))) (by kernel_rfl) J8 (fun _ => ?_)
  refine wpAnyH_take (i := 0) (v := .agg ((plL (nv0 ro la s h))).toArray) rfl (by kernel_rfl) (by kernel_rfl) (by kernel_rfl) (fun _ _ _ h => h) (yieldsIf_load_mid (by rfl) 108 _ rfl (W1.heap.size + 1) 0 rfl ((plL (nv0 ro la s h))) _ (fun W hW => hW) Tryz.underlying108 rfl (info_pl _)) J8 ?_
  simp only [qA, qB, qC, Act.put, qD, qE, qF]
  refine tk 1 J8 ?_
  refine tk 2 J8 ?_
  refine tk 4 J8 ?_
  refine rk 3 (fun K' hK' => ?_)
  go_simp
  refine (sclone_any s W8.drew (by omega)).mono ?_
  rintro e Wc ⟨rfl, hbc⟩
  have bc : Below W8.heap.size W8 Wc := ((Below.refl W8.heap.size W8).drew).trans hbc
  have sc := bc.size
  have J9 : Wc.rangeAt (W1.heap.size + 1) 0 (plL (nv0 ro la s h)) := range_kept (W := W8) J8 (Kept.fresh (S := fun _ => False) bc) (by omega) id
  clear hbc
  refine hK'.out _ _ J9 (fun _ => ?_)
  clear hK' K'
  try simp only [qA, qB, qC, Act.put, qD, qE, qF]
  refine wpAnyH_take (i := 5) (v := .agg (ndL (nv0 ro la s h) bk).toArray) rfl (by kernel_rfl) (by kernel_rfl) (by kernel_rfl) (fun _ _ _ h => h) (yieldsIf_build (by rfl) 111 _ rfl (ndL (nv0 ro la s h) bk).toArray (Eq.trans (congrArg (Tryz.prog.built _) (by simp [Act.eval])) (nd_built ro la s h bk))) J9 ?_
  simp only [qA, qB, qC, Act.put, qD, qE, qF]
  refine rk 6 (fun K' hK' => ?_)
  obtain ⟨W9, h9⟩ : ∃ X, X = Wc.alloc (.cells (ndL (nv0 ro la s h) bk).toArray 111) := ⟨_, rfl⟩
  have b9 : Below Wc.heap.size Wc W9 := by rw [h9]; exact (Below.refl _ _).alloc (Nat.le_refl _) _
  have J10 : W9.rangeAt (W1.heap.size + 1) 0 (plL (nv0 ro la s h)) := range_kept J9 (Kept.fresh (S := fun _ => False) b9) (by omega) id
  go_simp
  rw [← h9]
  refine hK'.out _ _ J10 (fun _ => ?_)
  clear hK' K'
  try simp only [qA, qB, qC, Act.put, qD, qE, qF]
  refine tk 7 J10 ?_
  refine tk 8 J10 ?_
  refine ⟨by kernel_rfl, ?_⟩
  refine NoPanic.normal ?_
  try simp only [qA, qB, qC, Act.put, qD, qE, qF]
  have s9 : W9.heap.size = Wc.heap.size + 1 := by rw [h9]; simp
  have r9 : W9.rangeAt Wc.heap.size 0 (ndL (nv0 ro la s h) bk) := by rw [h9]; exact range_new _ _ _
  have t9 : W9.there Wc.heap.size 0 10 := by rw [h9]; exact there_new Wc (ndL (nv0 ro la s h) bk).toArray _
  have b89 : Below W8.heap.size W8 W9 := bc.trans (b9.mono sc)
  have T9 : Tab K W9 := ((HT.out.below HB6.out).kept HK8.out (by show ¬ (_ = q ∨ _ = bb); omega)).below b89
  have own9 : ∀ g, bkOwn bk lm (.slice none 0 0) (fun g => g = m) g → g = bk ∨ g = lm ∨ g = m := fun g hg => by
    rcases hg with h | h | h | h
    · exact Or.inl h
    · exact Or.inr (Or.inl h)
    · exact Or.inr (Or.inr h)
    · cases h
  have HA : Hid (Al K W9 (nv0 ro la s h) Wc.heap.size q bb N j 1 C l bk lm m 0 0 (.slice none 0 0) [] (fun g => g = m) (fun _ => False) (.map [])) := ⟨r9, t9, by omega, HJ8.out.kept (Kept.fresh (S := fun _ => False) b89) (fun _ _ => id), HB8.out.fresh b89,
    (fun g hg hj => by
      unfold jOwn at hj
      rcases own9 g hg with h | h | h <;> omega),
    ⟨(fun h => by rcases own9 _ h with h | h | h <;> omega), (fun h => by unfold jOwn at h; omega)⟩, T9,
    ⟨(fun h => by rcases own9 _ h with h | h | h <;> omega), (fun h => by unfold jOwn at h; omega)⟩⟩
  have HK : Hid (Kept (fun g => g = q ∨ g = bb) w W9) := ((Kept.fresh HB6.out).trans HK8.out (fun _ _ h => h)).trans (Kept.fresh (S := fun g => g = q ∨ g = bb) b89) (fun _ _ h => h)
  have HG : Hid (w.heap.size ≤ j ∧ w.heap.size ≤ bk ∧ w.heap.size ≤ lm ∧ w.heap.size ≤ m ∧ w.heap.size ≤ Wc.heap.size) := by refine ⟨?_, ?_, ?_, ?_, ?_⟩ <;> omega
  clear own9 T9 r9 t9 b89 b9 bc h9
  go_wp2_with fail
  go_ret2
  exact ⟨Wc.heap.size, bk, j, lm, m, l, rfl, HA.out, HG.out, HK.out⟩
/-- A turn to the left of a word, in Nat. -/
def rotN (x s : Nat) : Nat := ((x * 2 ^ s) % 4294967296) ||| (x / 2 ^ (32 - s))
def turnN (x i j k : Nat) : Nat := (rotN x i ^^^ rotN x j) ^^^ rotN x k
def firstN (e f g h W K : Nat) : Nat := (h + turnN e 26 21 7 + ((e &&& f) ^^^ ((4294967295 ^^^ e) &&& g)) + K + W) % 4294967296
def secondN (a b c : Nat) : Nat := (turnN a 30 19 10 + (((a &&& b) ^^^ (a &&& c)) ^^^ (b &&& c))) % 4294967296
/-- Rounds, in Nat; the state as eight arguments. -/
def reckR : List Nat → List Nat → Nat → Nat → Nat → Nat → Nat → Nat → Nat → Nat → List Nat
  | k :: ks, w :: ws, a, b, c, d, e, f, g, h => reckR ks ws ((firstN e f g h w k + secondN a b c) % 4294967296) a b c ((d + firstN e f g h w k) % 4294967296) e f g
  | _, _, a, b, c, d, e, f, g, h => [a, b, c, d, e, f, g, h]
def tabN : List Nat := [1116352408, 1899447441, 3049323471, 3921009573, 961987163, 1508970993, 2453635748, 2870763221, 3624381080, 310598401, 607225278, 1426881987, 1925078388, 2162078206, 2614888103, 3248222580, 3835390401, 4022224774, 264347078, 604807628, 770255983, 1249150122, 1555081692, 1996064986, 2554220882, 2821834349, 2952996808, 3210313671, 3336571891, 3584528711, 113926993, 338241895, 666307205, 773529912, 1294757372, 1396182291, 1695183700, 1986661051, 2177026350, 2456956037, 2730485921, 2820302411, 3259730800, 3345764771, 3516065817, 3600352804, 4094571909, 275423344, 430227734, 506948616, 659060556, 883997877, 958139571, 1322822218, 1537002063, 1747873779, 1955562222, 2024104815, 2227730452, 2361852424, 2428436474, 2756734187, 3204031479, 3329325298]
/-- A block of noughts. -/
def reckZ (l : List Nat) : List Nat :=
  match l with
  | [a, b, c, d, e, f, g, h] => List.zipWith (fun p q => (p + q) % 4294967296) l (reckR tabN (List.replicate 64 0) a b c d e f g h)
  | _ => []
def reckN : Nat → List Nat → List Nat
  | 0, l => l
  | n + 1, l => reckN n (reckZ l)
def startN : List Nat := [1779033703, 3144134277, 1013904242, 2773480762, 1359893119, 2600822924, 528734635, 1541459225]
theorem reck_50 : reckN 50 [1779033703, 3144134277, 1013904242, 2773480762, 1359893119, 2600822924, 528734635, 1541459225] = [1296872912, 2316371531, 2602330799, 758408238, 1122045947, 3469281136, 542659971, 916209708] := by decide +kernel
theorem reck_100 : reckN 50 [1296872912, 2316371531, 2602330799, 758408238, 1122045947, 3469281136, 542659971, 916209708] = [2728226835, 2396523851, 3523337812, 3201962209, 1180395022, 3818292790, 2240906497, 3344767915] := by decide +kernel
theorem reck_150 : reckN 50 [2728226835, 2396523851, 3523337812, 3201962209, 1180395022, 3818292790, 2240906497, 3344767915] = [1554911420, 356978351, 1232444356, 165481900, 3775137587, 1081898760, 152671204, 2652644209] := by decide +kernel
theorem reck_200 : reckN 50 [1554911420, 356978351, 1232444356, 165481900, 3775137587, 1081898760, 152671204, 2652644209] = [3363296285, 3073621773, 3560740474, 1976159893, 1717786373, 4264024547, 1555712863, 257686062] := by decide +kernel
theorem reck_250 : reckN 50 [3363296285, 3073621773, 3560740474, 1976159893, 1717786373, 4264024547, 1555712863, 257686062] = [3685767924, 870871661, 1274931728, 267299054, 437275380, 4146490831, 1068402406, 1898645337] := by decide +kernel
theorem reck_300 : reckN 50 [3685767924, 870871661, 1274931728, 267299054, 437275380, 4146490831, 1068402406, 1898645337] = [2933259032, 822762135, 3198299284, 4057031735, 2379688637, 2867181595, 747782712, 4151771497] := by decide +kernel
theorem reck_350 : reckN 50 [2933259032, 822762135, 3198299284, 4057031735, 2379688637, 2867181595, 747782712, 4151771497] = [3262494276, 1950143201, 3440810485, 638307866, 1088477394, 4147476811, 3500941694, 1204959705] := by decide +kernel
theorem reck_400 : reckN 50 [3262494276, 1950143201, 3440810485, 638307866, 1088477394, 4147476811, 3500941694, 1204959705] = [522656142, 2036106856, 2518191060, 3748315955, 4108306759, 837874961, 964021021, 2312256891] := by decide +kernel
theorem reck_add : ∀ (m n : Nat) (l : List Nat), reckN (m + n) l = reckN n (reckN m l)
  | 0, n, l => by rw [Nat.zero_add]; rfl
  | m + 1, n, l => by rw [show m + 1 + n = (m + n) + 1 by omega]; exact reck_add m n (reckZ l)
/-- 400 blocks of noughts. -/
theorem reck_all : reckN 400 startN = [522656142, 2036106856, 2518191060, 3748315955, 4108306759, 837874961, 964021021, 2312256891] := by
  rw [show (400 : Nat) = 50 + (50 + (50 + (50 + (50 + (50 + (50 + 50)))))) from rfl]
  simp only [reck_add]
  rw [show startN = [1779033703, 3144134277, 1013904242, 2773480762, 1359893119, 2600822924, 528734635, 1541459225] from rfl, reck_50, reck_100, reck_150, reck_200, reck_250, reck_300, reck_350, reck_400]
theorem rotN_lt (x s : Nat) (hx : x < 4294967296) : rotN x s < 4294967296 := by
  unfold rotN
  exact Nat.or_lt_two_pow (n := 32) (Nat.mod_lt _ (by decide)) (Nat.lt_of_le_of_lt (Nat.div_le_self _ _) hx)
theorem rot_nat (x s : Nat) (hx : x < 4294967296) (hs : s ≤ 32) : rotI (x : Int) (s : Int) = (rotN x s : Nat) := by
  unfold rotI rotN
  rw [show ((s : Int)).toNat = s from rfl, show (32 - (s : Int)).toNat = 32 - s by omega]
  rw [← u32_or_nat _ _ (Nat.mod_lt _ (by decide)) (Nat.lt_of_le_of_lt (Nat.div_le_self _ _) hx)]
  rw [Int.natCast_emod, Int.natCast_ediv, Int.natCast_mul, Int.natCast_pow, Int.natCast_pow]
  rfl
theorem turn_nat (x i j k : Nat) (hx : x < 4294967296) (hi : i ≤ 32) (hj : j ≤ 32) (hk : k ≤ 32) : turnI (x : Int) (i : Int) (j : Int) (k : Int) = (turnN x i j k : Nat) := by
  unfold turnI turnN
  rw [rot_nat x i hx hi, rot_nat x j hx hj, rot_nat x k hx hk, u32_xor_nat _ _ (rotN_lt x i hx) (rotN_lt x j hx), u32_xor_nat _ _ (Nat.xor_lt_two_pow (n := 32) (rotN_lt x i hx) (rotN_lt x j hx)) (rotN_lt x k hx)]
theorem and_lt32 {a b : Nat} (ha : a < 4294967296) : a &&& b < 4294967296 := Nat.lt_of_le_of_lt Nat.and_le_left ha
theorem xor_lt32 {a b : Nat} (ha : a < 4294967296) (hb : b < 4294967296) : a ^^^ b < 4294967296 := Nat.xor_lt_two_pow (n := 32) ha hb
theorem first_nat (e f g h W K : Nat) (he : e < 4294967296) (hf : f < 4294967296) (hg : g < 4294967296) : firstI (e : Int) f g h W K = (firstN e f g h W K : Nat) := by
  unfold firstI firstN
  rw [show (IntKind.u32.max : Int) = ((4294967295 : Nat) : Int) by decide, show (26 : Int) = ((26 : Nat) : Int) from rfl, show (21 : Int) = ((21 : Nat) : Int) from rfl, show (7 : Int) = ((7 : Nat) : Int) from rfl,
    turn_nat e 26 21 7 he (by omega) (by omega) (by omega), u32_and_nat e f he hf, u32_xor_nat 4294967295 e (by decide) he, u32_and_nat _ g (xor_lt32 (by decide) he) hg, u32_xor_nat _ _ (and_lt32 he) (and_lt32 (xor_lt32 (by decide) he))]
  omega
theorem second_nat (a b c : Nat) (ha : a < 4294967296) (hb : b < 4294967296) (hc : c < 4294967296) : secondI (a : Int) b c = (secondN a b c : Nat) := by
  unfold secondI secondN
  rw [show (30 : Int) = ((30 : Nat) : Int) from rfl, show (19 : Int) = ((19 : Nat) : Int) from rfl, show (10 : Int) = ((10 : Nat) : Int) from rfl,
    turn_nat a 30 19 10 ha (by omega) (by omega) (by omega), u32_and_nat a b ha hb, u32_and_nat a c ha hc, u32_and_nat b c hb hc, u32_xor_nat _ _ (and_lt32 ha) (and_lt32 ha), u32_xor_nat _ _ (xor_lt32 (and_lt32 ha) (and_lt32 ha)) (and_lt32 hb)]
  omega
theorem roundsL_shift (W K : Nat → Int) (l : List Int) : ∀ m, roundsL W K l (m + 1) = roundsL (fun j => W (j + 1)) (fun j => K (j + 1)) (roundL (W 0) (K 0) l) m
  | 0 => rfl
  | m + 1 => by
    rw [roundsL, roundsL_shift W K l m]; rfl
def castL (l : List Nat) : List Int := l.map fun x : Nat => (x : Int)
theorem reck_rounds : ∀ (m : Nat) (ks ws : List Nat) (W K : Nat → Int) (a b c d e f g h : Nat), ks.length = m → ws.length = m → (∀ j, j < m → W j = ((ws.getD j 0 : Nat) : Int)) → (∀ j, j < m → K j = ((ks.getD j 0 : Nat) : Int)) →
    a < 4294967296 → b < 4294967296 → c < 4294967296 → d < 4294967296 → e < 4294967296 → f < 4294967296 → g < 4294967296 → h < 4294967296 →
    roundsL W K (castL [a, b, c, d, e, f, g, h]) m = castL (reckR ks ws a b c d e f g h) ∧ ∀ x ∈ reckR ks ws a b c d e f g h, x < 4294967296
  | 0, [], [], W, K, a, b, c, d, e, f, g, h, _, _, _, _, ha, hb, hc, hd, he, hf, hg, hh => by
    refine ⟨rfl, fun x hx => ?_⟩
    simp only [reckR, List.mem_cons, List.not_mem_nil, or_false] at hx
    rcases hx with rfl | rfl | rfl | rfl | rfl | rfl | rfl | rfl <;> assumption
  | m + 1, k :: ks, w :: ws, W, K, a, b, c, d, e, f, g, h, hk, hw, hW, hK, ha, hb, hc, hd, he, hf, hg, hh => by
    rw [roundsL_shift, reckR]
    have e0 : W 0 = ((w : Nat) : Int) := hW 0 (by omega)
    have e1 : K 0 = ((k : Nat) : Int) := hK 0 (by omega)
    have er : roundL (W 0) (K 0) (castL [a, b, c, d, e, f, g, h]) = castL [(firstN e f g h w k + secondN a b c) % 4294967296, a, b, c, (d + firstN e f g h w k) % 4294967296, e, f, g] := by
      rw [e0, e1]
      simp only [castL, List.map_cons, List.map_nil, roundL]
      rw [first_nat e f g h w k he hf hg, second_nat a b c ha hb hc, ← Int.natCast_add, ← Int.natCast_add, Int.natCast_emod, Int.natCast_emod]
      rfl
    rw [er]
    exact reck_rounds m ks ws _ _ _ _ _ _ _ _ _ _ (by simpa using hk) (by simpa using hw) (fun j hj => by rw [hW (j + 1) (by omega)]; rfl) (fun j hj => by rw [hK (j + 1) (by omega)]; rfl)
      (Nat.mod_lt _ (by decide)) ha hb hc (Nat.mod_lt _ (by decide)) he hf hg
theorem words_zero (x : Nat → Int) (hx : ∀ j, j < 64 → x j = 0) : ∀ k, k ≤ 64 → wordsL x k = List.replicate k 0
  | 0, _ => rfl
  | k + 1, hk => by
    rw [wordsL, words_zero x hx k (by omega), List.replicate_succ']
    congr 2
    unfold nextW
    by_cases h : k < 16
    · rw [if_pos h]
      unfold wordI
      rw [hx _ (by omega), hx _ (by omega), hx _ (by omega), hx _ (by omega)]
      decide +kernel
    · rw [if_neg h]
      have hz : ∀ i, (List.replicate k (0 : Int)).getD i 0 = 0 := fun i => by
        rw [List.getD_eq_getElem?_getD, List.getElem?_replicate]; split <;> rfl
      rw [hz, hz, hz, hz]
      decide +kernel
theorem zip_cast : ∀ (l m : List Nat), List.zipWith (fun p q : Int => (p + q) % 4294967296) (castL l) (castL m) = castL (List.zipWith (fun p q => (p + q) % 4294967296) l m)
  | [], _ => rfl
  | _ :: _, [] => rfl
  | a :: l, b :: m => by
    simp only [castL, List.map_cons, List.zipWith_cons_cons]
    have := zip_cast l m
    simp only [castL] at this
    rw [this, Int.natCast_emod, Int.natCast_add]
    rfl
theorem zip_lt : ∀ (l m : List Nat), ∀ x ∈ List.zipWith (fun p q => (p + q) % 4294967296) l m, x < 4294967296
  | [], _, x, hx => by simp at hx
  | _ :: _, [], x, hx => by simp at hx
  | a :: l, b :: m, x, hx => by
    rw [List.zipWith_cons_cons, List.mem_cons] at hx
    rcases hx with rfl | hx
    · exact Nat.mod_lt _ (by decide)
    · exact zip_lt l m x hx
/-- A block of noughts. -/
theorem take_zero (x K : Nat → Int) (st : List Nat) (hx : ∀ j, j < 64 → x j = 0) (hK : ∀ j, j < 64 → K j = ((tabN.getD j 0 : Nat) : Int)) (hl : st.length = 8) (hs : ∀ y ∈ st, y < 4294967296) :
    takeL x K (castL st) = castL (reckZ st) ∧ (∀ y ∈ reckZ st, y < 4294967296) := by
  match st, hl with
  | [a, b, c, d, e, f, g, h], _ =>
    have hr := (reck_rounds 64 tabN (List.replicate 64 0) (fun j => (wordsL x 64).getD j 0) K a b c d e f g h rfl rfl (fun j hj => by
      rw [words_zero x hx 64 (Nat.le_refl _)]
      simp only [List.getD_eq_getElem?_getD, List.getElem?_replicate, hj, if_true]
      rfl) hK (hs _ (by simp)) (hs _ (by simp)) (hs _ (by simp)) (hs _ (by simp)) (hs _ (by simp)) (hs _ (by simp)) (hs _ (by simp)) (hs _ (by simp))).1
    refine ⟨?_, zip_lt _ _⟩
    unfold takeL
    rw [hr, zip_cast]
    rfl
theorem reckR_len : ∀ (ks ws : List Nat) (a b c d e f g h : Nat), (reckR ks ws a b c d e f g h).length = 8
  | [], [], _, _, _, _, _, _, _, _ => rfl
  | [], _ :: _, _, _, _, _, _, _, _, _ => rfl
  | _ :: _, [], _, _, _, _, _, _, _, _ => rfl
  | k :: ks, w :: ws, a, b, c, d, e, f, g, h => by rw [reckR]; exact reckR_len ks ws _ _ _ _ _ _ _ _
theorem reckZ_len (st : List Nat) (hl : st.length = 8) : (reckZ st).length = 8 := by
  match st, hl with
  | [a, b, c, d, e, f, g, h], _ =>
    unfold reckZ
    rw [List.length_zipWith, reckR_len]
    rfl
theorem reckN_succ (k : Nat) (l : List Nat) : reckN (k + 1) l = reckZ (reckN k l) := by rw [reck_add k 1 l]; rfl
/-- Blocks of noughts, one behind the other. -/
theorem blocks_zero (K : Nat → Int) (D : List Int) (hK : ∀ j, j < 64 → K j = ((tabN.getD j 0 : Nat) : Int)) : ∀ k, (∀ j, j < 64 * k → D.getD j 0 = 0) →
    blocksL K D k = castL (reckN k startN) ∧ (reckN k startN).length = 8 ∧ ∀ y ∈ reckN k startN, y < 4294967296
  | 0, _ => ⟨by rw [blocksL, reckN]; decide +kernel, rfl, by decide +kernel⟩
  | k + 1, hD => by
    obtain ⟨h1, h2, h3⟩ := blocks_zero K D hK k (fun j hj => hD j (by omega))
    have ht := take_zero (fun j => D.getD (64 * k + j) 0) K (reckN k startN) (fun j hj => hD _ (by omega)) hK h2 h3
    rw [reckN_succ]
    refine ⟨?_, reckZ_len _ h2, ht.2⟩
    rw [blocksL, h1]
    exact ht.1
end Go.Proofs.YteglimjonofdeaaGreatDoor
