import Derived.Test.YteglimjonofdeaaGreatDoorNEntM
import Derived.Shelf.Pu.Clone
import Derived.Test.YteglimjonofdeaaGreatDoorWTakeM
set_option linter.unusedVariables false
set_option linter.unusedSimpArgs false
namespace Go.Proofs.YteglimjonofdeaaGreatDoor
open Go.RowKit

set_option maxRecDepth 10000 in
set_option maxHeartbeats 1000000 in
theorem numbered_any (m n : Int) (w : World) (hm : 0 ≤ m ∧ m < 256) (hn : 0 ≤ n ∧ n ≤ 2147483647) :
    Calls Tryz.prog 230 #[.int .u8 m, .int .i64 n] w fun e w' => e = .returned (.string (strOfNums (m :: fourN n))) ∧ Below w.heap.size w w' := by
  obtain ⟨n1, n2⟩ := hn
  obtain ⟨m1, m2⟩ := hm
  have ho : (w.alloc (.cells #[.int .u8 m] 5)).ownsRow w.heap.size 5 1 (.slice (some ⟨w.heap.size, 0, none⟩) 1 1) 1 (bytesV [m]) :=
    ⟨rfl, .inr ⟨w.heap.size, 1, #[.int .u8 m], rfl, Nat.le_refl _, heap_alloc_new w _, by omega, by unfold maxLen; omega, rfl, rfl⟩⟩
  have hb : Below w.heap.size w (w.alloc (.cells #[.int .u8 m] 5)) := (Below.refl _ _).alloc (Nat.le_refl _) _
  go_enter Tryz.func230, Tryz.ntmps230
  go_wp2_with fail
  refine (append_any w.heap.size 1 (bytesV [m]) _ _ _ ho (by omega) (by simp)).mono ?_
  rintro e w1 ⟨u1, rfl, ho1, hb1⟩
  have HR : Hid (Below w.heap.size w w1) := hb.trans hb1
  have hcv := convert_own' (ns := m :: fourN n) (n := 5) (w := w1) (base := w.heap.size) (v := u1) (by
    have e : bytesV (m :: fourN n) = bytesV [m] ++ fourI n := by simp [fourI, bytesV]
    rw [e]; exact ho1)
  clear ho hb ho1 hb1
  go_wp2_with fail
  go_ret
  exact ⟨rfl, HR.out⟩

/-- An entry's cells. -/
def enCells (c n o p v : Int) (t : ByteArray) (k vv : Int) (tt : ByteArray) : List Value := rqCells c n o p v t ++ [.int .i64 k, .int .i64 vv, .string tt]
/-- The bytes of an answer. -/
def anBytes (n k vv : Int) (tt : ByteArray) : List Int := 65 :: fourN n ++ [k, vv, (tt.size : Nat)] ++ numsOf tt
/-- The cells of an answer packet. -/
def paCells (n k vv : Int) (tt : ByteArray) : List Value := [.int .i64 n, .int .i64 k, .int .i64 vv, .string tt]
theorem strN_app' (a b : List Int) : strOfNums (a ++ b) = strOfNums a ++ strOfNums b := by
  apply ByteArray.ext
  simp [strOfNums, ByteArray.data_append]
theorem anBytes_eq (n k vv : Int) (tt : ByteArray) : strOfNums (65 :: fourN n) ++ strOfNums [k, vv, (tt.size : Nat)] ++ tt = strOfNums (anBytes n k vv tt) := by
  unfold anBytes
  rw [strN_app', strN_app', str_nums]

set_option maxRecDepth 10000 in
set_option maxHeartbeats 2000000 in
theorem abytes_any (n k vv : Int) (tt : ByteArray) (w : World) (hn : 0 ≤ n ∧ n ≤ 2147483647) (hk : 0 ≤ k ∧ k < 256) (hv : 0 ≤ vv ∧ vv < 256) (ht : tt.size ≤ 8) :
    Calls Tryz.prog 233 #[.agg (paCells n k vv tt).toArray] w fun e w' => e = .returned (.string (strOfNums (anBytes n k vv tt))) ∧ Below w.heap.size w w' := by
  obtain ⟨k1, k2⟩ := hk
  obtain ⟨v1, v2⟩ := hv
  obtain ⟨V, hV⟩ : ∃ V, V = w.alloc (.cells (paCells n k vv tt).toArray 236) := ⟨_, rfl⟩
  have hVs : V.heap.size = w.heap.size + 1 := by rw [hV]; simp
  have bV : Below w.heap.size w V := by rw [hV]; exact (Below.refl _ _).alloc (Nat.le_refl _) _
  have rV : V.rangeAt w.heap.size 0 (paCells n k vv tt) := by rw [hV]; exact range_new _ _ _
  have c1 : V.cell? ⟨w.heap.size, 1, none⟩ = some (.int .i64 k) := rV 1 _ rfl
  have c2 : V.cell? ⟨w.heap.size, 2, none⟩ = some (.int .i64 vv) := rV 2 _ rfl
  have c3 : V.cell? ⟨w.heap.size, 3, none⟩ = some (.string tt) := rV 3 _ rfl
  obtain ⟨W2, hW⟩ : ∃ W, W = V.alloc (.cells #[.int .u8 k, .int .u8 vv, .int .u8 (tt.size : Nat)] 5) := ⟨_, rfl⟩
  have hWs : W2.heap.size = w.heap.size + 2 := by rw [hW]; simp; omega
  have bW : Below V.heap.size V W2 := by rw [hW]; exact (Below.refl _ _).alloc (Nat.le_refl _) _
  have qr : W2.rangeAt (w.heap.size + 1) 0 (bytesV [k, vv, (tt.size : Nat)]) := by
    have := range_new V (bytesV [k, vv, (tt.size : Nat)]) 5
    rw [hVs] at this
    rw [hW]; exact this
  have q0 : W2.cell? ⟨w.heap.size, 0, none⟩ = some (.int .i64 n) := (bW.cell (p := ⟨w.heap.size, 0, none⟩) (by show w.heap.size < _; omega)).trans (rV 0 _ rfl)
  have q3 : W2.cell? ⟨w.heap.size, 3, none⟩ = some (.string tt) := (bW.cell (p := ⟨w.heap.size, 3, none⟩) (by show w.heap.size < _; omega)).trans c3
  have HB0 : Hid (Below w.heap.size w W2) := bV.trans (bW.mono (by omega))
  have m1 : (tt.size : Int) ≤ 8 := by omega
  have m0 : (0 : Int) ≤ (tt.size : Int) := by omega
  have HQ0 : Hid (W2.cell? ⟨w.heap.size, 0, none⟩ = some (.int .i64 n)) := q0
  have HQ3 : Hid (W2.cell? ⟨w.heap.size, 3, none⟩ = some (.string tt)) := q3
  have z1 : ¬ (9223372036854775807 < (strOfNums (65 :: fourN n)).size + (strOfNums [k, vv, (tt.size : Nat)]).size) := by rw [strOfNums_size, strOfNums_size]; simp [fourN]
  have z2 : ¬ (9223372036854775807 < (strOfNums (65 :: fourN n)).size + (strOfNums [k, vv, (tt.size : Nat)]).size + tt.size) := by rw [strOfNums_size, strOfNums_size]; simp [fourN]; omega
  have HQ : Hid (W2.rangeAt (w.heap.size + 1) 0 (bytesV [k, vv, (tt.size : Nat)])) := qr
  have hsum := anBytes_eq n k vv tt
  have J0 : Below (w.heap.size + 2) W2 W2.drew := (Below.refl _ _).drew
  clear bV bW rV qr q0 q3
  go_enter Tryz.func233, Tryz.ntmps233
  unfold paCells at hV
  unfold paCells
  go_wp2_with (first | (rw [← hV]; clear hV) | (rw [← hW]; clear hW))
  refine wp_region_noPanic ?_
  refine wp_region_held_drew (S := Below (w.heap.size + 2) W2) (by kernel_rfl) J0 (fun _ => ?_)
  refine tk 0 J0 ?_
  refine tq (i := 1) (v := ?_) rfl J0 ?_ ?_
  rotate_left 1
  · intro W hSW; have qc : W.cell? ⟨w.heap.size, 0, none⟩ = some (.int .i64 n) := (Below.cell (p := ⟨w.heap.size, 0, none⟩) hSW (by show w.heap.size < _; omega)).trans HQ0.out; clear hSW; go_simp; try with_reducible rfl
  simp only [qA, qB, qC, Act.put, qD, qE, qF]
  refine tk 3 J0 ?_
  refine tq (i := 4) (v := ?_) rfl J0 ?_ ?_
  rotate_left 1
  · intro W hSW; have hcv : (convert 85 9 (.slice (some ⟨w.heap.size + 1, 0, none⟩) 3 3)).run Tryz.prog W = .ok (.string (strOfNums [k, vv, (tt.size : Nat)])) W := convert_range (cap := 3) 3 rfl (fun i x hx => (Below.cell (p := ⟨w.heap.size + 1, 0 + i, none⟩) hSW (by show w.heap.size + 1 < _; omega)).trans (HQ.out i x hx)); clear hSW; go_simp; try with_reducible rfl
  simp only [qA, qB, qC, Act.put, qD, qE, qF]
  refine tk 6 J0 ?_
  refine tk 7 J0 ?_
  refine tq (i := 8) (v := ?_) rfl J0 ?_ ?_
  rotate_left 1
  · intro W hSW; have qc : W.cell? ⟨w.heap.size, 3, none⟩ = some (.string tt) := (Below.cell (p := ⟨w.heap.size, 3, none⟩) hSW (by show w.heap.size < _; omega)).trans HQ3.out; clear hSW; go_simp; try with_reducible rfl
  simp only [qA, qB, qC, Act.put, qD, qE, qF]
  refine rk 2 (fun K' hK' => ?_)
  go_simp
  refine (numbered_any 65 n W2.drew (by omega) hn).mono ?_
  rintro e w3 ⟨rfl, hb3⟩
  have J3 : Below (w.heap.size + 2) W2 w3 := J0.trans (hb3.mono (by show _ ≤ W2.heap.size; omega))
  refine hK'.out _ _ J3 (fun _ => ?_)
  clear hK' K'
  try simp only [qA, qB, qC, Act.put, qD, qE, qF]
  clear hb3
  refine tk 5 J3 ?_
  refine tk 9 J3 ?_
  refine tk 10 J3 ?_
  refine ⟨by kernel_rfl, ?_⟩
  refine NoPanic.normal ?_
  try simp only [qA, qB, qC, Act.put, qD, qE, qF]
  go_wp2_with fail
  go_ret
  exact ⟨rfl, HB0.out.trans (J3.mono (by omega))⟩

theorem m_abytes (v : Value) (w : World) : (method 421 236 v "Bytes").run Tryz.prog w = .ok (233, v) w := by kernel_rfl
set_option maxRecDepth 10000 in
set_option maxHeartbeats 2000000 in
/-- An answer packet, ready for an address. -/
theorem pto_any (adr n k vv : Int) (tt : ByteArray) (w : World) (hn : 0 ≤ n ∧ n ≤ 2147483647) (hk : 0 ≤ k ∧ k < 256) (hv : 0 ≤ vv ∧ vv < 256) (ht : tt.size ≤ 8) :
    Calls Tryz.prog 105 #[.int .i64 adr, .iface 236 (.agg (paCells n k vv tt).toArray)] w fun e w' => e = .returned (.agg #[.int .i64 adr, .string (strOfNums (anBytes n k vv tt))]) ∧ Below w.heap.size w w' := by
  obtain ⟨W, hW⟩ : ∃ W, W = w.alloc (.cells #[.int .i64 0, .string ⟨#[]⟩] 44) := ⟨_, rfl⟩
  have hWs : W.heap.size = w.heap.size + 1 := by rw [hW]; simp
  have bW : Below w.heap.size w W := by rw [hW]; exact (Below.refl _ _).alloc (Nat.le_refl _) _
  have tW : W.there w.heap.size 0 2 := by rw [hW]; exact there_new w #[.int .i64 0, .string ⟨#[]⟩] _
  have hm := m_abytes (.agg (paCells n k vv tt).toArray)
  have hby := abytes_any n k vv tt W hn hk hv ht
  have HB : Hid (Below w.heap.size w W) := bW
  have HT : Hid (W.there w.heap.size 0 2) := tW
  clear bW tW
  generalize (paCells n k vv tt).toArray = cs at *
  go_enter Tryz.func105, Tryz.ntmps105
  go_wp2_with (rw [← hW]; clear hW)
  refine hby.mono ?_
  rintro e w1 ⟨rfl, hb1⟩
  have hs1 := hb1.size
  have t1 : w1.there w.heap.size 0 2 := there_below hb1 (by omega) HT.out
  have HB1 : Hid (Below w.heap.size w w1) := HB.out.trans (hb1.mono (by omega))
  clear hby hb1
  obtain ⟨L, hL⟩ : ∃ L : List Value, L = [.int .i64 adr, .string (strOfNums (anBytes n k vv tt))] := ⟨_, rfl⟩
  have HI : Hid ((Tryz.prog.info? 44).map (·.size) = some L.length) := by show _ = _; rw [hL]; show _ = some 2; kernel_rfl
  have HO : Hid (∀ u ∈ L, u.oneCell' = true) := by show ∀ _, _; rw [hL]; intro u hu; simp at hu; rcases hu with rfl | rfl <;> rfl
  have HT3 : Hid (w1.there w.heap.size 0 L.length) := by show World.there _ _ _ _; rw [hL]; exact t1
  have HL : Hid (L = [.int .i64 adr, .string (strOfNums (anBytes n k vv tt))]) := hL
  clear hL t1
  go_wp2_with (first
    | (refine wpList_store_abs rfl 44 _ _ rfl w.heap.size 0 L rfl (by rw [HL.out]; rfl) HT3.out HI.out HO.out ?_
       intro w5 _hw5 hr5 _ht5 hb5
       clear _hw5 _ht5))
  exact ret_cell rfl w.heap.size 0 L _ rfl hr5 Tryz.underlying44 rfl HI.out rfl ⟨by rw [HL.out], HB1.out.trans (hb5 w.heap.size (Nat.le_refl _))⟩

set_option maxHeartbeats 400000 in
theorem pclient_any (c : Int) (w : World) (hc : 0 ≤ c ∧ c ≤ 9) :
    Calls Tryz.prog 140 #[.int .i64 c] w fun e w' => e = .returned (.int .i64 (10 + c)) ∧ w' = w := by
  obtain ⟨c1, c2⟩ := hc
  go_enter Tryz.func140, Tryz.ntmps140
  go_wp2_with fail
  go_ret
  exact ⟨rfl, rfl⟩
end Go.Proofs.YteglimjonofdeaaGreatDoor
namespace Go.Proofs.YteglimjonofdeaaGreatDoor
open Go.RowKit Go.Shelf

/-- How the shelf's numbers are spelt here. -/
def cloneR : Ren := { f := fun _ => 118, t := fun k => if k = 0 then 0 else if k = 3 then 3 else if k = 4 then 4 else if k = 5 then 5 else if k = 9 then 9 else if k = 37 then 85 else if k = 47 then 243 else 0, g := fun x => x }
theorem clone_lays : LaysPu.n25 Tryz.prog cloneR := by
  constructor
  all_goals first | kernel_rfl | (intro w; kernel_rfl)

set_option maxHeartbeats 400000 in
theorem sclone_any (s : ByteArray) (w : World) (hs : s.size ≤ 100000) :
    Calls Tryz.prog 77 #[.string s] w fun e w' => e = .returned (.string s) ∧ Below w.heap.size w w' := by
  have hc : Calls Tryz.prog 118 #[.string s] w fun e w' => e = .returned (.string s) ∧ Below w.heap.size w w' := AnyPu.stringslite_Clone clone_lays s w (by omega)
  go_enter Tryz.func77, Tryz.ntmps77
  go_wp2_with fail
  refine hc.mono ?_
  rintro e w1 ⟨rfl, hb⟩
  clear hc
  go_wp2_with fail
  go_ret
  exact ⟨rfl, hb⟩
end Go.Proofs.YteglimjonofdeaaGreatDoor
namespace Go.Proofs.YteglimjonofdeaaGreatDoor
open Go.RowKit

/-- An answer's cells. -/
def anCells (k v : Int) (t : ByteArray) : List Value := [.int .i64 k, .int .i64 v, .string t]
theorem alloc_an (w : World) : (Instr.alloc 166 true (.tuple #[])).run Tryz.prog w = .ok (.pointer (some ⟨w.heap.size, 0, none⟩)) (w.alloc (.cells (anCells 0 0 ⟨#[]⟩).toArray 166)) := by kernel_rfl
theorem info_an (k v : Int) (t : ByteArray) : (Tryz.prog.info? 166).map (·.size) = some (anCells k v t).length := by show _ = some 3; kernel_rfl
theorem an_one (k v : Int) (t : ByteArray) : ∀ u ∈ anCells k v t, u.oneCell' = true := by
  intro u hu; simp [anCells] at hu; rcases hu with rfl | rfl | rfl <;> rfl

set_option maxRecDepth 10000 in
set_option maxHeartbeats 1000000 in
theorem rtold_any (r : Nat) (k v : Int) (w : World) (hr : r < w.heap.size) (hv : w.cell? ⟨r, 0, none⟩ = some (.int .i64 v)) :
    Calls Tryz.prog 189 #[.pointer (some ⟨r, 0, none⟩), .int .i64 k] w fun e w' => e = .returned (.agg (anCells k v ⟨#[]⟩).toArray) ∧ Below w.heap.size w w' := by
  obtain ⟨V, hV⟩ : ∃ V, V = w.alloc (.cells (anCells 0 0 ⟨#[]⟩).toArray 166) := ⟨_, rfl⟩
  have hVs : V.heap.size = w.heap.size + 1 := by rw [hV]; simp
  have bV : Below w.heap.size w V := by rw [hV]; exact (Below.refl _ _).alloc (Nat.le_refl _) _
  have tV : V.there w.heap.size 0 (anCells k v ⟨#[]⟩).length := by rw [hV]; exact there_new w (anCells 0 0 ⟨#[]⟩).toArray _
  have vV : V.cell? ⟨r, 0, none⟩ = some (.int .i64 v) := (bV.cell (p := ⟨r, 0, none⟩) hr).trans hv
  have HI := info_an k v ⟨#[]⟩
  have HO := an_one k v ⟨#[]⟩
  have HB : Hid (Below w.heap.size w V) := bV
  clear bV
  go_enter Tryz.func189, Tryz.ntmps189
  go_wp2_with (first
    | (refine wpList_alloc_of rfl 166 rfl (anCells 0 0 ⟨#[]⟩).toArray alloc_an ?_; rw [← hV]; clear hV)
    | (refine wpList_store_abs rfl 166 _ _ rfl w.heap.size 0 (anCells k v ⟨#[]⟩) rfl rfl tV HI HO ?_
       intro w5 _hw5 hr5 _ht5 hb5
       clear _hw5 _ht5))
  exact ret_cell rfl w.heap.size 0 (anCells k v ⟨#[]⟩) _ rfl hr5 Tryz.underlying166 rfl HI rfl ⟨rfl, HB.out.trans (hb5 w.heap.size (Nat.le_refl _))⟩
/-- The cells of n blocks. -/
def blkC (C : Nat → List Int) : Nat → List Value
  | 0 => []
  | n + 1 => blkC C n ++ bytesV (C n)
/-- The cells of writes that are not sure. -/
def cacheL (L : List (Nat × List Int)) : List Value := L.flatMap fun x => .int .i64 (x.1 : Nat) :: bytesV x.2
def diskH (bb n : Nat) (cv : Value) (c r : Int) : Array Value := #[.slice (some ⟨bb, 0, none⟩) n n, cv, .int .i64 c, .int .i64 r, .int .i64 0, .int .i64 (-1), .int .i64 0, .int .i64 0]
/-- A disk that tells no error. -/
structure DiskAt (w : World) (p bb n : Nat) (C : Nat → List Int) (cv : Value) (L : List (Nat × List Int)) : Prop where
  head : ∃ c r : Int, w.heap[p]? = some (.cells (diskH bb n cv c r) 151 (0, 0))
  blocks : w.heap[bb]? = some (.cells (blkC C n).toArray 254 (0, 0))
  cache : w.ownsRow 0 304 129 cv L.length (cacheL L)
  apart : p ≠ bb ∧ cv.ownBlock ≠ some p ∧ cv.ownBlock ≠ some bb
  len : ∀ i, i < n → (C i).length = 128
  lens : ∀ x ∈ L, x.1 < n ∧ x.2.length = 128

set_option maxRecDepth 10000 in
set_option maxHeartbeats 400000 in
theorem dfails_any (p bb n : Nat) (cv : Value) (c r : Int) (w : World) (h : w.heap[p]? = some (.cells (diskH bb n cv c r) 151 (0, 0))) :
    Calls Tryz.prog 212 #[.pointer (some ⟨p, 0, none⟩)] w fun e w' => e = .returned (.bool false) ∧ w' = w.setCell ⟨p, 2, none⟩ (.int .i64 (wrap64 (c + 1))) := by
  have c2 : w.cell? ⟨p, 2, none⟩ = some (.int .i64 c) := by rw [cell_of_row w p 2 _ _ _ h]; rfl
  have f2 : w.frozen? ⟨p, 2, none⟩ = false := frozen_of_row w p 2 _ _ h
  have h2 := heap_setCell_same w p 2 _ _ (.int .i64 (wrap64 (c + 1))) h
  have d5 : (w.setCell ⟨p, 2, none⟩ (.int .i64 (wrap64 (c + 1)))).cell? ⟨p, 5, none⟩ = some (.int .i64 (-1)) := by rw [cell_of_row _ p 5 _ _ _ h2]; rfl
  have d6 : (w.setCell ⟨p, 2, none⟩ (.int .i64 (wrap64 (c + 1)))).cell? ⟨p, 6, none⟩ = some (.int .i64 0) := by rw [cell_of_row _ p 6 _ _ _ h2]; rfl
  have d7 : (w.setCell ⟨p, 2, none⟩ (.int .i64 (wrap64 (c + 1)))).cell? ⟨p, 7, none⟩ = some (.int .i64 0) := by rw [cell_of_row _ p 7 _ _ _ h2]; rfl
  clear h h2
  by_cases hc : 0 ≤ c
  · have hc0 : ¬ c < 0 := by omega
    go_enter Tryz.func212, Tryz.ntmps212
    go_wp2_with fail
    go_ret
    exact ⟨rfl, rfl⟩
  · have hc0 : c < 0 := by omega
    go_enter Tryz.func212, Tryz.ntmps212
    go_wp2_with fail
    go_ret
    exact ⟨rfl, rfl⟩

theorem blkC_len (C : Nat → List Int) : ∀ n, (∀ i, i < n → (C i).length = 128) → (blkC C n).length = 128 * n
  | 0, _ => rfl
  | n + 1, h => by rw [blkC, List.length_append, blkC_len C n (fun i hi => h i (by omega)), bytesV_length, h n (by omega)]; omega
theorem blkC_get (C : Nat → List Int) : ∀ n i j, (∀ i, i < n → (C i).length = 128) → i < n → j < 128 → (blkC C n)[128 * i + j]? = (bytesV (C i))[j]?
  | n + 1, i, j, h, hi, hj => by
    have hl := blkC_len C n (fun i hi => h i (by omega))
    rw [blkC]
    by_cases e : i = n
    · subst e
      rw [List.getElem?_append_right (by omega), hl, show 128 * i + j - 128 * i = j by omega]
    · rw [List.getElem?_append_left (by omega)]
      exact blkC_get C n i j (fun i hi => h i (by omega)) (by omega) hj
theorem DiskAt.lt {w : World} {p bb n : Nat} {C : Nat → List Int} {cv : Value} {L : List (Nat × List Int)} (h : DiskAt w p bb n C cv L) : p < w.heap.size ∧ bb < w.heap.size := by
  obtain ⟨c, r, h1⟩ := h.head
  exact ⟨block_lt h1, block_lt h.blocks⟩
/-- The cells of block i. -/
theorem DiskAt.range {w : World} {p bb n : Nat} {C : Nat → List Int} {cv : Value} {L : List (Nat × List Int)} (h : DiskAt w p bb n C cv L) (i : Nat) (hi : i < n) : w.rangeAt bb (i * 128) (bytesV (C i)) := by
  intro j v hv
  have hj : j < 128 := by
    have := (List.getElem?_eq_some_iff.1 hv).1
    rw [bytesV_length, h.len i hi] at this
    exact this
  rw [Nat.mul_comm i 128, cell_of_row w bb (128 * i + j) _ _ _ h.blocks, List.getElem?_toArray, blkC_get C n i j h.len hi hj, hv]
theorem DiskAt.there {w : World} {p bb n : Nat} {C : Nat → List Int} {cv : Value} {L : List (Nat × List Int)} (h : DiskAt w p bb n C cv L) (i : Nat) (hi : i < n) : w.there bb (i * 128) 128 := by
  intro j hj
  rw [Nat.mul_comm i 128, cell_of_row w bb (128 * i + j) _ _ _ h.blocks, frozen_of_row w bb (128 * i + j) _ _ h.blocks, List.getElem?_toArray, List.getElem?_eq_getElem (by rw [blkC_len C n h.len]; omega)]
  exact ⟨rfl, rfl⟩
/-- None of the disk's blocks has turned. -/
theorem DiskAt.kept {w w' : World} {p bb n : Nat} {C : Nat → List Int} {cv : Value} {L : List (Nat × List Int)} {S : Nat → Prop} (h : DiskAt w p bb n C cv L) (hk : Kept S w w') (h1 : ¬ S p) (h2 : ¬ S bb) (h3 : ∀ g, cv.ownBlock = some g → ¬ S g) : DiskAt w' p bb n C cv L := by
  obtain ⟨c, r, hh⟩ := h.head
  exact ⟨⟨c, r, (hk.block p (block_lt hh) h1).trans hh⟩, (hk.block bb h.lt.2 h2).trans h.blocks, hk.own h.cache h3, h.apart, h.len, h.lens⟩
/-- Block p's numbers alone have turned. -/
theorem DiskAt.turn {w w' : World} {p bb n : Nat} {C : Nat → List Int} {cv : Value} {L : List (Nat × List Int)} (h : DiskAt w p bb n C cv L) (hk : Kept (· = p) w w') (hh : ∃ c r : Int, w'.heap[p]? = some (.cells (diskH bb n cv c r) 151 (0, 0))) : DiskAt w' p bb n C cv L :=
  ⟨hh, (hk.block bb h.lt.2 (fun e => h.apart.1 e.symm)).trans h.blocks, hk.own h.cache (fun g hg e => by subst e; exact h.apart.2.1 hg), h.apart, h.len, h.lens⟩

set_option maxRecDepth 10000 in
set_option maxHeartbeats 400000 in
theorem dblocks_any (p bb n : Nat) (cv : Value) (c r : Int) (w : World) (h : w.heap[p]? = some (.cells (diskH bb n cv c r) 151 (0, 0))) :
    Calls Tryz.prog 207 #[.pointer (some ⟨p, 0, none⟩)] w fun e w' => e = .returned (.int .i64 n) ∧ w' = w := by
  have c0 : w.cell? ⟨p, 0, none⟩ = some (.slice (some ⟨bb, 0, none⟩) n n) := by rw [cell_of_row w p 0 _ _ _ h]; rfl
  clear h
  go_enter Tryz.func207, Tryz.ntmps207
  go_wp2_with fail
  go_ret
  exact ⟨rfl, rfl⟩

set_option maxRecDepth 10000 in
set_option maxHeartbeats 400000 in
theorem dnone_any (p bb n i : Nat) (cv : Value) (c r : Int) (w : World) (hi : i < n) (h : w.heap[p]? = some (.cells (diskH bb n cv c r) 151 (0, 0))) :
    Calls Tryz.prog 213 #[.pointer (some ⟨p, 0, none⟩), .int .i64 i] w fun e w' => e = .returned (.bool false) ∧ w' = w := by
  have c0 : w.cell? ⟨p, 0, none⟩ = some (.slice (some ⟨bb, 0, none⟩) n n) := by rw [cell_of_row w p 0 _ _ _ h]; rfl
  have i0 : ¬ (i : Int) < 0 := by omega
  have i1 : decide (n ≤ i) = false := by simp; omega
  clear h
  go_enter Tryz.func213, Tryz.ntmps213
  go_wp2_with fail
  go_ret
  exact ⟨rfl, rfl⟩
def rdPost (w : World) (p bb n : Nat) (C : Nat → List Int) (i : Nat) (e : Ending) (w' : World) : Prop :=
  ∃ g, e = .returned (.tuple #[.slice (some ⟨g, 0, none⟩) 128 128, .nilIface]) ∧ w'.rangeAt g 0 (bytesV (C i)) ∧ w.heap.size ≤ g ∧ g < w'.heap.size ∧ DiskAt w' p bb n C (.slice none 0 0) [] ∧ Kept (· = p) w w'

set_option maxRecDepth 10000 in
set_option maxHeartbeats 1000000 in
theorem dread_any (p bb n i : Nat) (C : Nat → List Int) (w : World) (hi : i < n) (hn : n ≤ 1000) (h : DiskAt w p bb n C (.slice none 0 0) []) :
    Calls Tryz.prog 210 #[.pointer (some ⟨p, 0, none⟩), .int .i64 i] w (rdPost w p bb n C i) := by
  obtain ⟨c, r, hh⟩ := h.head
  have hf := dfails_any p bb n _ c r w hh
  obtain ⟨i0, hi8, hz8, hs8, hb8⟩ := info_u8
  go_enter Tryz.func210, Tryz.ntmps210
  go_wp2_with fail
  refine hf.mono ?_
  rintro e w1 ⟨rfl, hw1⟩
  have hh1 : w1.heap[p]? = some (.cells (diskH bb n (.slice none 0 0) (wrap64 (c + 1)) r) 151 (0, 0)) := by rw [hw1, heap_setCell_same w p 2 _ _ _ hh]; rfl
  have hk1 : Kept (· = p) w w1 := by rw [hw1]; exact Kept.setCell _ _ _ (Or.inl rfl)
  have HD1 : Hid (DiskAt w1 p bb n C (.slice none 0 0) []) := h.turn hk1 ⟨_, _, hh1⟩
  have hno := dnone_any p bb n i _ _ r w1 hi hh1
  have HH1 : Hid (w1.heap[p]? = some (.cells (diskH bb n (.slice none 0 0) (wrap64 (c + 1)) r) 151 (0, 0))) := hh1
  clear hf hw1 hh h hh1
  go_wp2_with fail
  refine hno.mono ?_
  rintro e w1' ⟨rfl, hw⟩
  obtain rfl : w1 = w1' := hw.symm
  clear hw hno
  go_wp2_with (at_make; refine wpList_make_full _ rfl _ _ 85 rfl w1.heap.size 5 i0 (.int .u8 0) 1 Tryz.underlying85 hi8 hz8 hs8 .i64 .i64 _ _ 128 rfl rfl ?L ?C ?b2 ?b3 (Nat.le_refl _) ?_)
  case L => rfl
  case C => rfl
  case b2 => rw [hb8]; omega
  case b3 => unfold maxLen; omega
  intro w2 ho2 hg2
  have hgt : w2.there w1.heap.size 0 128 := own_there ho2
  have hgl := (ho2.lt w1.heap.size rfl).2
  have hk2 : Kept (fun _ => False) w1 w2 := Kept.grown hg2 (fun k hk => by cases hk)
  have HD2 : Hid (DiskAt w2 p bb n C (.slice none 0 0) []) := HD1.out.turn (hk2.mono (fun _ _ h => h.elim)) ⟨_, _, (hk2.block p HD1.out.lt.1 id).trans HH1.out⟩
  have hh2 : w2.heap[p]? = some (.cells (diskH bb n (.slice none 0 0) (wrap64 (c + 1)) r) 151 (0, 0)) := (hk2.block p HD1.out.lt.1 id).trans HH1.out
  have c0 : w2.cell? ⟨p, 0, none⟩ = some (.slice (some ⟨bb, 0, none⟩) n n) := by rw [cell_of_row w2 p 0 _ _ _ hh2]; rfl
  have i1 : (i : Int) < (n : Int) := by omega
  have i2 : (0 : Int) ≤ (i : Int) := by omega
  have hrng := HD2.out.range i hi
  have hlen : (bytesV (C i)).length = 128 := by rw [bytesV_length, HD2.out.len i hi]
  have hrun := run_copy_cells (P := Tryz.prog) w2 85 85 3 5 w1.heap.size 0 128 128 ⟨bb, i * 128, none⟩ 128 128 (bytesV (C i)) Tryz.underlying85 (by kernel_rfl) (by rw [hlen]; rfl) (fun j v hv => by rw [addr_add]; exact hrng j v hv) (fun j hj => by rw [Nat.zero_add]; have := (hgt j (by omega)).1; rw [Nat.zero_add] at this; exact this) (fun j hj => by rw [Nat.zero_add]; have := (hgt j (by omega)).2; rw [Nat.zero_add] at this; exact this) (bytesV_one _)
  rw [hlen] at hrun
  have hk3 : Kept (fun _ => False) w1 (w2.setCells w1.heap.size 0 (bytesV (C i))) := hk2.trans (S' := (· = w1.heap.size)) (Kept.setCells _ _ _ _ (Or.inl rfl)) (fun g hg e => by omega)
  have hr3 : (w2.setCells w1.heap.size 0 (bytesV (C i))).rangeAt w1.heap.size 0 (bytesV (C i)) := World.rangeAt_setCells_same w2 _ _ _ (by rw [hlen]; exact hgt)
  generalize hw3 : w2.setCells w1.heap.size 0 (bytesV (C i)) = w3 at *
  have hz3 : w1.heap.size < w3.heap.size := by rw [← hw3, size_setCells]; exact hgl
  clear hh2 hrng hw3 hgt hgl
  have hh3 : w3.heap[p]? = some (.cells (diskH bb n (.slice none 0 0) (wrap64 (c + 1)) r) 151 (0, 0)) := (hk3.block p HD1.out.lt.1 id).trans HH1.out
  have HD3 : Hid (DiskAt w3 p bb n C (.slice none 0 0) []) := HD1.out.turn (hk3.mono (fun _ _ h => h.elim)) ⟨_, _, hh3⟩
  have c1 : w3.cell? ⟨p, 1, none⟩ = some (.slice none 0 0) := by rw [cell_of_row w3 p 1 _ _ _ hh3]; rfl
  clear hh3
  go_wp2_with (at_builtin; refine Lib.wpList_copy_run _ rfl _ _ 85 85 rfl _ _ rfl rfl hrun ?_)
  go_loopw [32] (fun i w4 => i = .int .i64 0 ∧ w4 = w3) (fun _ _ => 0)
  case atStart => exact ⟨rfl, rfl⟩
  case round =>
    obtain ⟨rfl, hw⟩ := hrel
    obtain rfl : w3 = wr := hw.symm
    clear hw
    go_wp2_with fail
    go_ret2
    exact ⟨w1.heap.size, rfl, hr3, hk1.size, hz3, HD3.out, hk1.trans hk3 (fun g _ h => h.elim)⟩
end Go.Proofs.YteglimjonofdeaaGreatDoor
