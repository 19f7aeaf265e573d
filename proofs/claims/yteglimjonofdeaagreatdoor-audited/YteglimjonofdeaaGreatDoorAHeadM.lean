import Derived.Test.YteglimjonofdeaaGreatDoorAEvM
import Derived.Test.YteglimjonofdeaaGreatDoorNPktM
import Derived.Test.YteglimjonofdeaaGreatDoorTPathM
import Derived.Test.YteglimjonofdeaaGreatDoorTClimb2M
import Derived.Lib.AppendStr
set_option linter.unusedVariables false
set_option linter.unusedSimpArgs false
namespace Go.Proofs.YteglimjonofdeaaGreatDoor
open Go.RowKit

/-- A head's cells. -/
def hdC (n : Int) (r : ByteArray) : List Value := .int .i64 n :: hV r
/-- A head's bytes. -/
def hdT (n : Int) (r : ByteArray) : ByteArray := strOfNums (72 :: fourN n) ++ r
theorem hd_root {W : World} {b : Nat} {n : Int} {r : ByteArray} (h : W.rangeAt b 0 (hdC n r)) : W.rangeAt b 1 (hV r) := fun i x hx => by
  have := h (i + 1) x hx
  rwa [show 0 + (i + 1) = 1 + i by omega] at this
theorem hdC_len {n : Int} {r : ByteArray} (h : r.size = 32) : (hdC n r).length = 33 := by simp [hdC, hV_len h]
theorem hdC_one (n : Int) (r : ByteArray) : ∀ u ∈ hdC n r, u.oneCell' = true := by
  intro u hu
  rcases List.mem_cons.1 hu with rfl | hu
  · rfl
  · exact hV_one r u hu
theorem info_hd33 : (Tryz.prog.info? 132).map (·.size) = some 33 := by kernel_rfl
theorem info_hd (n : Int) {r : ByteArray} (h : r.size = 32) : (Tryz.prog.info? 132).map (·.size) = some (hdC n r).length := by rw [hdC_len h]; exact info_hd33
theorem hd_built (n : Int) (l : ByteArray) (hl : l.size = 32) : Tryz.prog.built 132 [(0, .int .i64 n), (1, .agg (hV l).toArray)] = some (hdC n l).toArray := by
  obtain ⟨x0, x1, x2, x3, x4, x5, x6, x7, x8, x9, x10, x11, x12, x13, x14, x15, x16, x17, x18, x19, x20, x21, x22, x23, x24, x25, x26, x27, x28, x29, x30, x31, e⟩ := list32v (hV l) (hV_len hl)
  unfold hdC
  rw [e]
  kernel_rfl
theorem hd_built1 (l : ByteArray) (hl : l.size = 32) : Tryz.prog.built 132 [(1, .agg (hV l).toArray)] = some (hdC 0 l).toArray := by
  obtain ⟨x0, x1, x2, x3, x4, x5, x6, x7, x8, x9, x10, x11, x12, x13, x14, x15, x16, x17, x18, x19, x20, x21, x22, x23, x24, x25, x26, x27, x28, x29, x30, x31, e⟩ := list32v (hV l) (hV_len hl)
  unfold hdC
  rw [e]
  kernel_rfl
def hdZ : List Value := .int .i64 0 :: z32
theorem alloc_hd (w : World) : (Instr.alloc 132 true (.tuple #[])).run Tryz.prog w = .ok (.pointer (some ⟨w.heap.size, 0, none⟩)) (w.alloc (.cells hdZ.toArray 132)) := by kernel_rfl
theorem build_hd (w : World) : (Instr.build 132 #[]).run Tryz.prog w = .ok (.agg hdZ.toArray) w := by kernel_rfl
theorem hdZ_info : (Tryz.prog.info? 132).map (·.size) = some hdZ.length := info_hd33
theorem hdZ_one : ∀ u ∈ hdZ, u.oneCell' = true := by decide

theorem wrap_u32 (x : Int) (h0 : 0 ≤ x) (h1 : x ≤ 4294967295) : IntKind.u32.wrap x = x := by
  show x % 4294967296 = x
  omega
set_option maxRecDepth 10000 in
set_option maxHeartbeats 4000000 in
theorem hbytes_any (n : Int) (r : ByteArray) (w : World) (hn : 0 ≤ n ∧ n ≤ 2147483647) (hr : r.size = 32) :
    Calls Tryz.prog 121 #[.agg (hdC n r).toArray] w fun e w' => e = .returned (.string (hdT n r)) ∧ Below w.heap.size w w' := by
  obtain ⟨n1, n2⟩ := hn
  obtain ⟨V, hV1⟩ : ∃ V, V = w.alloc (.cells (hdC n r).toArray 132) := ⟨_, rfl⟩
  have hVs : V.heap.size = w.heap.size + 1 := by rw [hV1]; simp
  have RV : Hid (V.rangeAt w.heap.size 0 (hdC n r)) := by show World.rangeAt _ _ _ _; rw [hV1]; exact range_new _ _ _
  have HBV : Hid (Below w.heap.size w V) := by show Below _ _ _; rw [hV1]; exact (Below.refl _ _).alloc (Nat.le_refl _) _
  have HIR : Hid ((Tryz.prog.info? 104).map (·.size) = some (hV r).length) := hV_info hr
  have J0 : V.drew.rangeAt w.heap.size 0 (hdC n r) := RV.out
  have z1 : ¬ (9223372036854775807 < (strOfNums (72 :: fourN n)).size + 32) := by rw [strOfNums_size]; simp [fourN]
  have hw32 : IntKind.u32.wrap n = n := wrap_u32 n n1 (by omega)
  go_enter Tryz.func121, Tryz.ntmps121
  go_wp2_with (first | (rw [← hV1]; clear hV1))
  refine wp_region_noPanic ?_
  refine wp_region_held_drew (S := fun W => W.rangeAt w.heap.size 0 (hdC n r)) (by kernel_rfl) J0 (fun _ => ?_)
  refine tq (i := 1) (v := ?_) rfl J0 ?_ ?_
  rotate_left 1
  · intro W hSW; clear hSW; go_simp; try with_reducible rfl
  simp only [qA, qB, qC, Act.put, qD, qE, qF]
  refine tq (i := 2) (v := ?_) rfl J0 ?_ ?_
  rotate_left 1
  · intro W hSW; have q : W.cell? ⟨w.heap.size, 0, none⟩ = some (.int .i64 n) := hSW 0 _ rfl; clear hSW; go_simp; try with_reducible rfl
  simp only [qA, qB, qC, Act.put, qD, qE, qF]
  refine tq (i := 3) (v := ?_) rfl J0 ?_ ?_
  rotate_left 1
  · intro W hSW; clear hSW; go_simp; try with_reducible rfl
  simp only [qA, qB, qC, Act.put, qD, qE, qF]
  refine tq (i := 6) (v := ?_) rfl J0 ?_ ?_
  rotate_left 1
  · intro W hSW; clear hSW; go_simp; try with_reducible rfl
  simp only [qA, qB, qC, Act.put, qD, qE, qF]
  refine wpAnyH_take (i := 7) (v := .agg (hV r).toArray) rfl (by kernel_rfl) (by kernel_rfl) (by kernel_rfl) (fun _ _ _ h => h) (yieldsIf_load_mid (by rfl) 104 _ rfl w.heap.size 1 rfl (hV r) _ (fun W hW => hd_root hW) Tryz.underlying104 rfl HIR.out) J0 ?_
  simp only [qA, qB, qC, Act.put, qD, qE, qF]
  all_goals
    refine wpAnyH_ready (rs := [0]) (by kernel_rfl) (by simp) ?_
    refine AllReadyH.cons rfl (fun K' hK' => ?_) AllReadyH.nil
    rw [if_pos (by rfl)]
    go_simp
    obtain ⟨V1, hV1⟩ : ∃ X, X = (V.alloc (.cells #[.int .u8 72] 5)).drew := ⟨_, rfl⟩
    rw [← hV1]
    have s1 : V1.heap.size = w.heap.size + 2 := by rw [hV1]; show (V.alloc _).heap.size = _; simp; omega
    have b1 : Below V.heap.size V V1 := by rw [hV1]; exact ((Below.refl _ _).alloc (Nat.le_refl _) _).drew
    have o1 : V1.ownsRow (w.heap.size + 1) 5 1 (.slice (some ⟨w.heap.size + 1, 0, none⟩) 1 1) 1 (bytesV [72]) := by
      refine ⟨rfl, .inr ⟨w.heap.size + 1, 1, #[.int .u8 72], rfl, by omega, ?_, by omega, by unfold maxLen; omega, rfl, rfl⟩⟩
      rw [hV1]; have := heap_alloc_new V (.cells #[.int .u8 72] 5)
      rw [hVs] at this; exact this
    have J1 : V1.rangeAt w.heap.size 0 (hdC n r) := range_kept RV.out (Kept.fresh (S := fun _ => False) b1) (by omega) id
    have HB1 : Hid (Below w.heap.size w V1) := HBV.out.trans (b1.mono (by omega))
    clear b1 hV1
    refine hK'.out _ _ J1 (fun _ => ?_)
    clear hK' K'
    try simp only [qA, qB, qC, Act.put, qD, qE, qF]
  all_goals
    refine wpAnyH_ready (rs := [4]) (by kernel_rfl) (by simp) ?_
    refine AllReadyH.cons rfl (fun K' hK' => ?_) AllReadyH.nil
    rw [if_pos (by rfl)]
    go_simp
    refine (append_any (w.heap.size + 1) 1 (bytesV [72]) _ _ _ o1 (by omega) (by omega)).mono ?_
    rintro e V2 ⟨u2, rfl, o2, b2⟩
    have s2 := b2.size
    have J2 : V2.rangeAt w.heap.size 0 (hdC n r) := fun i x hx => (b2.cell (p := ⟨w.heap.size, 0 + i, none⟩) (by show w.heap.size < _; omega)).trans (J1 i x hx)
    have HB2 : Hid (Below w.heap.size w V2) := HB1.out.trans (b2.mono (by omega))
    have HO2 : Hid (V2.ownsRow (w.heap.size + 1) 5 1 u2 5 (bytesV (72 :: fourN n))) := by
      have e : bytesV (72 :: fourN n) = bytesV [72] ++ fourI n := by simp [fourI, bytesV]
      show World.ownsRow _ _ _ _ _ _ _
      rw [e]; exact o2
    clear o1 o2 b2
    refine hK'.out _ _ J2 (fun _ => ?_)
    clear hK' K'
    try simp only [qA, qB, qC, Act.put, qD, qE, qF]
  all_goals
    refine wpAnyH_ready (rs := [5, 8]) (by kernel_rfl) (by simp) ?_
    refine AllReadyH.cons rfl (fun K' hK' => ?_) (AllReadyH.cons rfl (fun K' hK' => ?_) AllReadyH.nil)
    rw [if_pos (by rfl)]
    have hcv := convert_own' (ns := 72 :: fourN n) (n := 5) (w := V2) (base := w.heap.size + 1) (v := u2) HO2.out
    go_simp
    clear hcv
    have J3 := J2
    refine hK'.out _ _ J3 (fun _ => ?_)
    clear hK' K'
    try simp only [qA, qB, qC, Act.put, qD, qE, qF]
    all_goals skip
    rotate_left 1
    rw [if_pos (by rfl)]
    go_simp
    refine (htx_any r hr V2).mono ?_
    rintro e V3 ⟨rfl, b3⟩
    have J3 : V3.rangeAt w.heap.size 0 (hdC n r) := fun i x hx => (b3.cell (p := ⟨w.heap.size, 0 + i, none⟩) (by show w.heap.size < _; omega)).trans (J2 i x hx)
    have HB3 : Hid (Below w.heap.size w V3 ∧ Below V2.heap.size V2 V3) := ⟨HB2.out.trans (b3.mono (by omega)), b3⟩
    clear b3
    refine hK'.out _ _ J3 (fun _ => ?_)
    clear hK' K'
    try simp only [qA, qB, qC, Act.put, qD, qE, qF]
    all_goals skip
    rotate_left 1
  all_goals first
    | (refine wpAnyH_ready (rs := [8]) (by kernel_rfl) (by simp) ?_
       refine AllReadyH.cons rfl (fun K' hK' => ?_) AllReadyH.nil
       rw [if_pos (by rfl)]
       go_simp
       refine (htx_any r hr V2).mono ?_
       rintro e V3 ⟨rfl, b3⟩
       have J4 : V3.rangeAt w.heap.size 0 (hdC n r) := fun i x hx => (b3.cell (p := ⟨w.heap.size, 0 + i, none⟩) (by show w.heap.size < _; omega)).trans (J3 i x hx)
       have HB3 : Hid (Below w.heap.size w V3 ∧ Below V2.heap.size V2 V3) := ⟨HB2.out.trans (b3.mono (by omega)), b3⟩
       clear b3
       refine hK'.out _ _ J4 (fun _ => ?_)
       clear hK' K'
       try simp only [qA, qB, qC, Act.put, qD, qE, qF]
       refine tq (i := 9) (v := ?_) rfl J4 ?_ ?_
       rotate_left 1
       · intro W hSW; clear hSW; go_simp; try with_reducible rfl
       simp only [qA, qB, qC, Act.put, qD, qE, qF]
       refine tq (i := 10) (v := ?_) rfl J4 ?_ ?_
       rotate_left 1
       · intro W hSW; clear hSW; go_simp; try with_reducible rfl
       simp only [qA, qB, qC, Act.put, qD, qE, qF])
    | (refine wpAnyH_ready (rs := [5]) (by kernel_rfl) (by simp) ?_
       refine AllReadyH.cons rfl (fun K' hK' => ?_) AllReadyH.nil
       rw [if_pos (by rfl)]
       have hcv := convert_own' (ns := 72 :: fourN n) (n := 5) (w := V3) (base := w.heap.size + 1) (v := u2) (own_below' HO2.out HB3.out.2)
       go_simp
       clear hcv
       have J4 := J3
       refine hK'.out _ _ J4 (fun _ => ?_)
       clear hK' K'
       try simp only [qA, qB, qC, Act.put, qD, qE, qF]
       refine tq (i := 9) (v := ?_) rfl J4 ?_ ?_
       rotate_left 1
       · intro W hSW; clear hSW; go_simp; try with_reducible rfl
       simp only [qA, qB, qC, Act.put, qD, qE, qF]
       refine tq (i := 10) (v := ?_) rfl J4 ?_ ?_
       rotate_left 1
       · intro W hSW; clear hSW; go_simp; try with_reducible rfl
       simp only [qA, qB, qC, Act.put, qD, qE, qF])
  all_goals
    refine ⟨by kernel_rfl, ?_⟩
    refine NoPanic.normal ?_
    try simp only [qA, qB, qC, Act.put, qD, qE, qF]
    go_wp2_with fail
    go_ret
    exact ⟨rfl, HB3.out.1⟩
theorem wpList_conv_abs {ops : Array Oper} {rest : List Oper} {op : Oper} {a : Act} {w : World} {Q : Exit → Act → World → Prop} (hgd : op.guard = none) (x : Operand) (ho : op.op = .convert 9 85 x) (t : ByteArray) (hx : a.eval x = .string t)
    (h : ∀ w' g cap, Below w.heap.size w w' → w.heap.size ≤ g → g < w'.heap.size → (∀ j, j < t.size → w'.cell? ⟨g, j, none⟩ = some (.int .u8 (bAt t j))) → wpList Tryz.prog ops Q rest (a.put op.dst (.slice (some ⟨g, 0, none⟩) t.size cap)) w') : wpList Tryz.prog ops Q (op :: rest) a w :=
  wpList_plain hgd fun _ hK => wp_conv_abs x ho t hx (fun w' g cap h1 h2 h3 h4 => hK _ _ (h w' g cap h1 h2 h3 h4))
/-- The number in a head's bytes. -/
def hdNo (b : ByteArray) : Int := readI (bAt b 1) (bAt b 2) (bAt b 3) (bAt b 4)
/-- Are these bytes a head's? -/
def hdOk (b : ByteArray) : Bool := decide (b.size = 37) && (decide (bAt b 0 = 72) && decide (hdNo b ≤ 2147483647))
def hdPost (b : ByteArray) (w : World) (e : Ending) (w' : World) : Prop :=
  ∃ cs : List Value, e = .returned (.tuple #[.agg cs.toArray, .bool (hdOk b)]) ∧ ((hdOk b = true ∧ cs = hdC (hdNo b) (b.extract 5 37)) ∨ (hdOk b = false ∧ cs = hdZ)) ∧ Below w.heap.size w w'
theorem there_hdz (w : World) : (w.alloc (.cells hdZ.toArray 132)).there w.heap.size 0 hdZ.length := by simpa using there_new w hdZ.toArray 132
theorem ext15 (s : ByteArray) (h : s.size = 37) : (s.extract 1 5).size = 4 ∧ ∀ j, j < 4 → bAt (s.extract 1 5) j = bAt s (1 + j) := by
  have h4 : (s.extract 1 5).size = 4 := by rw [ByteArray.size_extract]; omega
  refine ⟨h4, fun j hj => ?_⟩
  unfold bAt
  have e : (s.extract 1 5).data.toList = (s.data.toList.drop 1).take 4 := by
    rw [ByteArray.data_extract, Array.toList_extract]
  rw [e]
  simp [List.getD, List.getElem?_take, hj, Nat.add_comm]
theorem hdNo_nonneg (b : ByteArray) : 0 ≤ hdNo b := by
  have l1 := bAt_lo b 1; have l2 := bAt_lo b 2; have l3 := bAt_lo b 3; have l4 := bAt_lo b 4
  have u1 := bAt_hi b 1; have u2 := bAt_hi b 2; have u3 := bAt_hi b 3; have u4 := bAt_hi b 4
  unfold hdNo
  rw [readI_eq _ _ _ _ ⟨l1, by omega⟩ ⟨l2, by omega⟩ ⟨l3, by omega⟩ ⟨l4, by omega⟩]
  omega
theorem conv_u32 (N : Int) (N0 : 0 ≤ N) (n1 : N ≤ 2147483647) (W : World) : (convert 158 3 (.int .u32 N)).run Tryz.prog W = .ok (.int .i64 N) W := by
  have hwr : IntKind.i64.wrap N = N := wrap_small N N0 (by omega)
  go_simp
set_option maxHeartbeats 1000000 in
theorem hdec_no (b : ByteArray) (w : World) (h : b.size ≠ 37) : Calls Tryz.prog 82 #[.string b] w (hdPost b w) := by
  have hb : ((b.size : Int) != 37) = true := by rw [bne_iff_ne]; omega
  have ho : hdOk b = false := by unfold hdOk; simp [h]
  go_enter Tryz.func82, Tryz.ntmps82
  go_wp2_with (first | (refine wpList_alloc_of rfl 132 rfl hdZ.toArray alloc_hd ?_) | (refine wpList_build_of rfl 132 rfl hdZ.toArray build_hd ?_) | (refine wpList_store_abs rfl 132 _ _ rfl w.heap.size 0 hdZ rfl rfl (there_hdz w) hdZ_info hdZ_one ?_; intro w1 _hw1 hr1 ht1 hb1; clear _hw1))
  exact ret_cell_tmp rfl w.heap.size 0 hdZ _ (.bool false) rfl rfl hr1 Tryz.underlying132 rfl hdZ_info rfl ⟨hdZ, by rw [ho], Or.inr ⟨ho, rfl⟩, ((Below.refl _ _).alloc (Nat.le_refl _) _).trans (hb1 _ (Nat.le_refl _))⟩
set_option maxHeartbeats 1000000 in
theorem hdec_mark (b : ByteArray) (w : World) (h : b.size = 37) (h0 : bAt b 0 ≠ 72) : Calls Tryz.prog 82 #[.string b] w (hdPost b w) := by
  have hb : ((b.size : Int) != 37) = false := by rw [h]; rfl
  have hlt : 0 < b.size := by omega
  have hb2 : (((b[0]'hlt).toNat : Int) != 72) = true := by rw [bAt_eq, bne_iff_ne]; exact h0
  have ho : hdOk b = false := by unfold hdOk; simp [h0]
  have k0 : (0 : Int) < (b.size : Int) := by omega
  go_enter Tryz.func82, Tryz.ntmps82
  go_wp2_with (first | (refine wpList_alloc_of rfl 132 rfl hdZ.toArray alloc_hd ?_) | (refine wpList_build_of rfl 132 rfl hdZ.toArray build_hd ?_) | (refine wpList_store_abs rfl 132 _ _ rfl w.heap.size 0 hdZ rfl rfl (there_hdz w) hdZ_info hdZ_one ?_; intro w1 _hw1 hr1 ht1 hb1; clear _hw1))
  exact ret_cell_tmp rfl w.heap.size 0 hdZ _ (.bool false) rfl rfl hr1 Tryz.underlying132 rfl hdZ_info rfl ⟨hdZ, by rw [ho], Or.inr ⟨ho, rfl⟩, ((Below.refl _ _).alloc (Nat.le_refl _) _).trans (hb1 _ (Nat.le_refl _))⟩
set_option maxRecDepth 10000 in
set_option maxHeartbeats 2000000 in
theorem hdec_yes (b : ByteArray) (w : World) (h : b.size = 37) (h0 : bAt b 0 = 72) : Calls Tryz.prog 82 #[.string b] w (hdPost b w) := by
  have hb : ((b.size : Int) != 37) = false := by rw [h]; rfl
  have hlt : 0 < b.size := by omega
  have hb2 : (((b[0]'hlt).toNat : Int) != 72) = false := by rw [bAt_eq, h0]; rfl
  have k0 : (0 : Int) < (b.size : Int) := by omega
  have k5 : (5 : Int) ≤ (b.size : Int) := by omega
  have k1 : (1 : Int) ≤ (b.size : Int) := by omega
  obtain ⟨e4, eat⟩ := ext15 b h
  have hrd : (b.extract 5 37).size = 32 := by rw [ByteArray.size_extract]; omega
  have hrs := fun W => read_yes (b.extract 5 37) W hrd
  obtain ⟨r, hrr⟩ : ∃ r, r = b.extract 5 37 := ⟨_, rfl⟩
  have HRC : Hid (r = b.extract 5 37) := hrr
  clear hrr
  obtain ⟨V, hV⟩ : ∃ X, X = w.alloc (.cells hdZ.toArray 132) := ⟨_, rfl⟩
  have hVs : V.heap.size = w.heap.size + 1 := by rw [hV]; simp
  have HBV : Hid (Below w.heap.size w V) := by show Below _ _ _; rw [hV]; exact (Below.refl _ _).alloc (Nat.le_refl _) _
  have HTV : Hid (V.there w.heap.size 0 33) := by show World.there _ _ _ _; rw [hV]; exact there_hdz w
  have HE : Hid ((b.extract 1 5).size = 4 ∧ ∀ j, j < 4 → bAt (b.extract 1 5) j = bAt b (1 + j)) := ⟨e4, eat⟩
  clear e4 eat
  go_enter Tryz.func82, Tryz.ntmps82
  go_wp2_with (first
    | (refine wpList_alloc_of rfl 132 rfl hdZ.toArray alloc_hd ?_; rw [← hV]; clear hV)
    | (refine wpList_conv_abs rfl _ rfl (b.extract 1 5) rfl ?_
       intro R1 gc cap hb1 _hz4 hz5 hc5
       rw [HE.out.1]
       have B1 : Hid (Below (w.heap.size + 1) V R1) := (by show Below _ _ _; rw [← hVs]; exact hb1)
       have cv : ∀ x, x < 4 → R1.cell? ⟨gc, x, none⟩ = some (.int .u8 (bAt b (1 + x))) := (fun x hx => by rw [hc5 x (by rw [HE.out.1]; exact hx), HE.out.2 x hx])
       clear hc5 hb1))
  have cv0 : R1.cell? ⟨gc, 0, none⟩ = some (.int .u8 (bAt b 1)) := cv 0 (by omega)
  have cv1 : R1.cell? ⟨gc, 0 + 1, none⟩ = some (.int .u8 (bAt b 2)) := cv 1 (by omega)
  have cv2 : R1.cell? ⟨gc, 0 + 2, none⟩ = some (.int .u8 (bAt b 3)) := cv 2 (by omega)
  have cv3 : R1.cell? ⟨gc, 0 + 3, none⟩ = some (.int .u8 (bAt b 4)) := cv 3 (by omega)
  refine (read_any gc 0 4 cap _ _ _ _ R1 (by omega) (by omega) cv0 cv1 cv2 cv3).mono ?_
  rintro e R2 ⟨rfl, nq, hnq⟩
  have B2 : Below (w.heap.size + 1) V R2 := by rw [hnq]; exact below_draws B1.out nq
  have s2 := B2.size
  have hr2 := hrs R2
  have N0 : 0 ≤ hdNo b := hdNo_nonneg b
  unfold hdNo at N0
  have HN0 : Hid (readI (bAt b 1) (bAt b 2) (bAt b 3) (bAt b 4) = hdNo b) := by unfold hdNo; exact rfl
  generalize hN : readI (bAt b 1) (bAt b 2) (bAt b 3) (bAt b 4) = N at *
  have HN : Hid (N = hdNo b) := HN0.out
  have HB2 : Hid (Below (w.heap.size + 1) V R2) := B2
  have HRD : Hid ((b.extract 5 37).size = 32) := hrd
  clear hnq cv cv0 cv1 cv2 cv3 hrs hN B2 HN0 hrd
  go_wp2_with fail
  refine hr2.mono ?_
  rintro e R3 ⟨rfl, b3⟩
  have HO1 : Hid (2147483647 < N → hdOk b = false) := fun hbig => by
    unfold hdOk; rw [← HN.out]; simp; intro _ _; omega
  have HO2 : Hid (¬ 2147483647 < N → hdOk b = true) := fun hbig => by
    unfold hdOk; rw [← HN.out]; simp [h, h0]; omega
  have hrd := HRD.out
  clear h0 hb hb2 k0 k1 k5
  rw [← HRC.out] at hrd ⊢
  have s3 := b3.size
  have HB3 : Hid (Below (w.heap.size + 1) V R3) := HB2.out.trans (b3.mono (by omega))
  obtain ⟨R4, h4⟩ : ∃ X, X = R3.alloc (.cells z32.toArray 104) := ⟨_, rfl⟩
  have s4 : R4.heap.size = R3.heap.size + 1 := by rw [h4]; simp
  have b4 : Below R3.heap.size R3 R4 := by rw [h4]; exact (Below.refl _ _).alloc (Nat.le_refl _) _
  have t4 : R4.there R3.heap.size 0 (hV r).length := by rw [h4, hV_len hrd]; exact there_z32 R3
  have HB4 : Hid (Below (w.heap.size + 1) V R4) := HB3.out.trans (b4.mono (by omega))
  have hinf := hV_info hrd
  have hone := hV_one r
  clear hr2 b3 b4
  by_cases hbig : 2147483647 < N
  · have ho := HO1.out hbig
    generalize hvr : (hV r).toArray = hva at *
    go_wp2_with (first
      | (refine wpList_alloc_of rfl 104 rfl z32.toArray alloc_32 ?_; rw [← h4]; clear h4)
      | (refine wpList_store_abs rfl 104 _ _ rfl R3.heap.size 0 (hV r) rfl (by rw [hvr]; rfl) t4 hinf hone ?_
         intro R5 hw5 hr5 _ht5 hb5
         have HB5 : Hid (Below (w.heap.size + 1) V R5) := HB4.out.trans (hb5 (w.heap.size + 1) (by omega))
         have t5 : R5.there w.heap.size 0 hdZ.length := there_below HB5.out (by omega) HTV.out
         clear hw5 _ht5 hb5)
      | (refine wpList_build_of rfl 132 rfl hdZ.toArray build_hd ?_)
      | (refine wpList_store_abs rfl 132 _ _ rfl w.heap.size 0 hdZ rfl rfl t5 hdZ_info hdZ_one ?_; intro w6 _hw6 hr6 ht6 hb6; clear _hw6))
    exact ret_cell_tmp rfl w.heap.size 0 hdZ _ (.bool false) rfl rfl hr6 Tryz.underlying132 rfl hdZ_info rfl ⟨hdZ, by rw [ho], Or.inr ⟨ho, rfl⟩, (HBV.out.trans (HB5.out.mono (by omega))).trans (hb6 _ (Nat.le_refl _))⟩
  · have n1 : N ≤ 2147483647 := by omega
    have HO : Hid (hdOk b = true) := HO2.out hbig
    have hcv := conv_u32 N N0 n1
    have hdec : decide ((2147483647 : Int) < N) = false := decide_eq_false (by omega)
    have HBU : Hid (Tryz.prog.built 132 [(0, .int .i64 N), (1, .agg (hV r).toArray)] = some (hdC N r).toArray) := hd_built N r hrd
    have HHI : Hid ((Tryz.prog.info? 132).map (·.size) = some (hdC N r).length) := info_hd N hrd
    have HHO : Hid (∀ u ∈ hdC N r, u.oneCell' = true) := hdC_one N r
    generalize hvr : (hV r).toArray = hva at *
    generalize hhr : (hdC N r).toArray = hha at *
    go_wp2_with (first
      | (refine wpList_alloc_of rfl 104 rfl z32.toArray alloc_32 ?_; rw [← h4]; clear h4)
      | (refine wpList_store_abs rfl 104 _ _ rfl R3.heap.size 0 (hV r) rfl (by rw [hvr]; rfl) t4 hinf hone ?_
         intro R5 hw5 hr5 _ht5 hb5
         have HB5 : Hid (Below (w.heap.size + 1) V R5) := HB4.out.trans (hb5 (w.heap.size + 1) (by omega))
         have t5 : R5.there w.heap.size 0 (hdC N r).length := (by rw [hdC_len hrd]; exact there_below HB5.out (by omega) HTV.out)
         clear hw5 _ht5 hb5)
      | (refine wpList_load_mid rfl 104 _ rfl R3.heap.size 0 rfl (hV r) _ hr5 Tryz.underlying104 rfl hinf ?_; rw [hvr])
      | (refine wpList_build_tm rfl 132 _ rfl hha (Eq.trans (congrArg (Tryz.prog.built _) (by simp [Act.eval, Act.put])) HBU.out) ?_)
      | (refine wpList_store_abs rfl 132 _ _ rfl w.heap.size 0 (hdC N r) rfl (by rw [hhr]; rfl) t5 HHI.out HHO.out ?_; intro w6 _hw6 hr6 ht6 hb6; clear _hw6))
    exact ret_cell_tmp rfl w.heap.size 0 (hdC N r) _ (.bool true) rfl rfl hr6 Tryz.underlying132 rfl HHI.out rfl ⟨hdC N r, by rw [HO.out, hhr], Or.inl ⟨HO.out, by rw [HN.out, HRC.out]⟩, (HBV.out.trans (HB5.out.mono (by omega))).trans (hb6 _ (Nat.le_refl _))⟩
theorem hdec_any (b : ByteArray) (w : World) : Calls Tryz.prog 82 #[.string b] w (hdPost b w) := by
  by_cases h : b.size = 37
  · by_cases h0 : bAt b 0 = 72
    · exact hdec_yes b w h h0
    · exact hdec_mark b w h h0
  · exact hdec_no b w h
theorem strCells_nums (s : ByteArray) : Lib.strCells s = bytesV (numsOf s) := by
  unfold Lib.strCells bytesV numsOf; rw [List.map_map]; rfl
/-- A tree of 2^h leaves has h hashes in a proof. -/
theorem inclF_pow (H : ByteArray → ByteArray) : ∀ (h : Nat) (l : List ByteArray) (i : Nat), l.length = 2 ^ h → (inclF H l i).length = h
  | 0, l, i, hl => by rw [inclF_one H (by rw [hl]; decide)]; rfl
  | h + 1, l, i, hl => by
    have p := Nat.two_pow_pos h
    have e : 2 ^ h = halfN l.length := halfN_unique (j := h) (by rw [hl, Nat.pow_succ]; omega) (by rw [hl, Nat.pow_succ]; omega)
    have h2 : 2 ≤ l.length := by rw [hl, Nat.pow_succ]; omega
    by_cases hi : i < halfN l.length
    · rw [inclF_left H h2 hi, List.length_append, inclF_pow H h _ i (by rw [List.length_take, ← e, hl, Nat.pow_succ]; omega)]; rfl
    · rw [inclF_right H h2 hi, List.length_append, inclF_pow H h _ _ (by rw [List.length_drop, ← e, hl, Nat.pow_succ]; omega)]; rfl
theorem inclF_sizesP (H : ByteArray → ByteArray) (hH : ∀ s, (H s).size = 32) : ∀ (n : Nat) (l : List ByteArray) (i : Nat), l.length = n → ∀ b ∈ inclF H l i, b.size = 32 := by
  intro n
  induction n using Nat.strongRecOn with
  | _ n ih =>
  intro l i hl b hb
  by_cases h2 : 2 ≤ l.length
  · have hk0 := halfN_pos l.length
    have hk1 := halfN_lt h2
    by_cases hik : i < halfN l.length
    · rw [inclF_left H h2 hik] at hb
      rcases List.mem_append.1 hb with hb | hb
      · exact ih (halfN l.length) (by omega) (l.take (halfN l.length)) i (by simp; omega) b hb
      · simp at hb; rw [hb]; exact rootF_size H hH _
    · rw [inclF_right H h2 hik] at hb
      rcases List.mem_append.1 hb with hb | hb
      · exact ih (l.length - halfN l.length) (by omega) (l.drop (halfN l.length)) (i - halfN l.length) (by simp) b hb
      · simp at hb; rw [hb]; exact rootF_size H hH _
  · rw [inclF_one H (by omega)] at hb; cases hb
/-- The values that a signature shows. -/
def valuesF (H : ByteArray → ByteArray) (seed : ByteArray) (k : Nat) (msg : ByteArray) : ByteArray := chainsT H (beginF H seed k) (fun c => dig (H msg) c) 67
/-- The bytes of a signature. -/
def sigN (H : ByteArray → ByteArray) (seed : ByteArray) (h k : Nat) (msg : ByteArray) : List Int := ([(k : Int) % 256] ++ numsOf (valuesF H seed k msg)) ++ joinN (inclF H (leavesF H seed (2 ^ h)) k)
def sigF (H : ByteArray → ByteArray) (seed : ByteArray) (h k : Nat) (msg : ByteArray) : ByteArray := strOfNums (sigN H seed h k msg)
theorem join_all : ∀ (ls : List ByteArray), (∀ b ∈ ls, b.size = 32) → (joinN ls).length = 32 * ls.length
  | [], _ => rfl
  | s :: r, h => by
    have e : joinN (s :: r) = numsOf s ++ joinN r := by simp [joinN]
    rw [e, List.length_append, numsOf_length, h s (List.mem_cons_self ..), join_all r (fun b hb => h b (List.mem_cons_of_mem _ hb)), List.length_cons]; omega

set_option maxRecDepth 10000 in
set_option maxHeartbeats 2000000 in
theorem psign_any (K : Nat → Int) (seed : ByteArray) (h k : Nat) (msg : ByteArray) (w : World) (hs : seed.size = 32) (hh : h ≤ 5) (hk : k < 2 ^ h) (hm : msg.size ≤ 140737488355000) (T : Tab K w) :
    Calls Tryz.prog 122 #[.string seed, .int .i64 h, .int .i64 k, .string msg] w fun e w' => e = .returned (.tuple #[.string (sigF (sumOf K) seed h k msg), .nilIface]) ∧ Below w.heap.size w w' := by
  have hmf : ∀ (fn : Fn) (first cap : Array Value) (w : World), (Instr.makeFunc fn first cap).run Tryz.prog w = .ok (.func fn first cap) w := fun _ _ _ _ => rfl
  have hN32 : 2 ^ h ≤ 32 := Nat.pow_le_pow_right (n := 2) (by omega) hh
  have hf := pfits_any seed h w (by omega)
  rw [show decide (seed.size = 32 ∧ 0 ≤ (h : Int) ∧ (h : Int) ≤ 5) = true from decide_eq_true ⟨hs, by omega, by omega⟩] at hf
  have HL : Hid (∀ W, Below w.heap.size w W → Calls Tryz.prog 76 #[.string seed, .int .i64 h] W fun e w' => e = .returned (.slice (some ⟨W.heap.size, 0, none⟩) (2 ^ h) (2 ^ h)) ∧ PartAt W.heap.size (2 ^ h) (2 ^ h) (leafF (sumOf K) seed) W w') := fun W hb => rowLeaves_any K seed h W hh (by omega) (T.below hb)
  have HI : Hid (∀ (B : Nat) W0 W, Below w.heap.size w W → PartAt B (2 ^ h) (2 ^ h) (leafF (sumOf K) seed) W0 W → Calls Tryz.prog 85 #[.slice (some ⟨B, 0, none⟩) (2 ^ h) (2 ^ h), .int .i64 k] W fun e w' => ∃ ao cap, e = .returned (.tuple #[.slice ao (inclF (sumOf K) (leavesF (sumOf K) seed (2 ^ h)) k).length cap, .nilIface]) ∧ w'.ownsRow W.heap.size 9 1 (.slice ao (inclF (sumOf K) (leavesF (sumOf K) seed (2 ^ h)) k).length cap) (inclF (sumOf K) (leavesF (sumOf K) seed (2 ^ h)) k).length ((inclF (sumOf K) (leavesF (sumOf K) seed (2 ^ h)) k).map .string) ∧ Below W.heap.size W w') := fun B W0 W hb HP =>
    tincl_any K (leavesF (sumOf K) seed (2 ^ h)) _ k W (by rw [leavesF_len]; exact hk) (by rw [leavesF_len]; omega) HP.leaf (leavesF_small K seed _) (T.below hb)
  have HOF : Hid (∀ W, Below w.heap.size w W → Calls Tryz.prog 54 #[.slice (some ⟨W.heap.size, 0, none⟩) 1 1] (W.alloc (.cells #[.string msg] 9)) fun e w' => e = .returned (.agg (hV (sumOf K msg)).toArray) ∧ Below (W.heap.size + 1) (W.alloc (.cells #[.string msg] 9)) w') := fun W hb => of_msg K msg W hm (T.below hb)
  have HDG : Hid (∀ W, Calls Tryz.prog 151 #[.agg (hV (sumOf K msg)).toArray] W fun e w' => e = .returned (.agg (digV (sumOf K msg)).toArray) ∧ Below W.heap.size W w') := fun W => digits_any (sumOf K msg) (sumOf_size K msg) W
  have HAL : Hid (∀ W W1 (bd : Nat), Below w.heap.size w W → W1.cell? ⟨W.heap.size, 0, none⟩ = some (.string seed) → W1.cell? ⟨W.heap.size + 1, 0, none⟩ = some (.int .i64 k) → Below W.heap.size W W1 → W1.rangeAt bd 0 (digV (sumOf K msg)) → bd < W1.heap.size → Calls Tryz.prog 115 #[.func (.func 148) #[] #[.pointer (some ⟨W.heap.size, 0, none⟩), .pointer (some ⟨W.heap.size + 1, 0, none⟩)], .func (.func 152) #[] #[.pointer (some ⟨bd, 0, none⟩)]] W1 (strPost1 (valuesF (sumOf K) seed k msg) W1)) := fun W W1 bd hb c1 c2 hb1 hr hbd => by
    have T1 := T.below (hb.trans (hb1.mono hb.size))
    have l1 := World.block_lt_of_cell? W1 _ c1
    have l2 := World.block_lt_of_cell? W1 _ c2
    exact along_sign K (beginF (sumOf K) seed k) (fun c => dig (sumOf K msg) c) W.heap.size (W.heap.size + 1) bd W1 T1 (fun c => sumOf_size K _) (fun c => dig_le _ c)
      (fun W' hb' c hc => begin1_any K seed k c W.heap.size (W.heap.size + 1) W' (by omega) ((hb'.cell (p := ⟨W.heap.size, 0, none⟩) l1).trans c1) ((hb'.cell (p := ⟨W.heap.size + 1, 0, none⟩) l2).trans c2) (T1.below hb'))
      (fun W' hb' c hc => sign1_any (sumOf K msg) c bd W' hc (fun j u hu => (hb'.cell (p := ⟨bd, 0 + j, none⟩) hbd).trans (hr j u hu)))
  have HF32 : Hid (∀ b ∈ inclF (sumOf K) (leavesF (sumOf K) seed (2 ^ h)) k, b.size = 32) := inclF_sizesP _ (sumOf_size K) _ _ k rfl
  have HFL : (inclF (sumOf K) (leavesF (sumOf K) seed (2 ^ h)) k).length = h := inclF_pow _ h _ k (leavesF_len _ _ _)
  have HVS : (valuesF (sumOf K) seed k msg).size = 2144 := chainsT_size (sumOf K) (sumOf_size K) (beginF (sumOf K) seed k) (fun c => dig (sumOf K msg) c) (fun c => sumOf_size K _) 67
  have idv := digV_info (sumOf K msg)
  have odv := digV_one (sumOf K msg)
  have ldv := digV_len (sumOf K msg)
  unfold sigF sigN
  generalize valuesF (sumOf K) seed k msg = V at *
  generalize digV (sumOf K msg) = D at *
  generalize sumOf K msg = hm0 at *
  generalize inclF (sumOf K) (leavesF (sumOf K) seed (2 ^ h)) k = F at *
  generalize leafF (sumOf K) seed = LF at *
  clear T
  rw [HFL] at HI
  have HFL2 : Hid (F.length = h) := HFL
  clear HFL
  have hszz := fun W => size_any' h W (by omega)
  obtain ⟨M, hM⟩ : ∃ M : Nat, M = 2145 + 32 * h := ⟨_, rfl⟩
  rw [← hM] at hszz
  obtain ⟨R, hR⟩ : ∃ R, R = strOfNums ([(k : Int) % 256] ++ numsOf V ++ joinN F) := ⟨_, rfl⟩
  rw [← hR]
  have HR : Hid (R = strOfNums ([(k : Int) % 256] ++ numsOf V ++ joinN F)) := hR
  have HM : Hid (M = 2145 + 32 * h) := hM
  have hM2 : M ≤ 3000 := by omega
  clear hR hM hk hN32
  generalize 2 ^ h = N at *
  obtain ⟨i0, hi, hz, hsz, hby⟩ := info_u8
  go_enter Tryz.func122, Tryz.ntmps122
  go_wp2_with fail
  refine hf.mono ?_
  rintro e w1 ⟨rfl, hb1⟩
  clear hf
  go_wp2_with fail
  refine (HL.out w1 hb1).mono ?_
  rintro e w2 ⟨rfl, hp2⟩
  have hb2 : Below w.heap.size w w2 := hb1.trans (hp2.b.mono hb1.size)
  go_wp2_with fail
  refine (HI.out w1.heap.size w1 w2 hb2 hp2).mono ?_
  rintro e w3 ⟨ao, cp, rfl, ho3, hb3⟩
  have hb23 : Below w.heap.size w w3 := hb2.trans (hb3.mono hb2.size)
  have HO3 : Hid (LeafAt w3 (.slice ao h cp) F) := leaf_own (L := F) (by rw [HFL2.out]; exact ho3)
  clear hp2 ho3 hb3 hb2 hb1
  have hof := HOF.out w3 hb23
  go_wp2_with fail
  refine hof.mono ?_
  rintro e w4 ⟨rfl, hb4⟩
  clear hof
  have hb34 : Below w3.heap.size w3 w4 := ((Below.refl _ _).alloc (Nat.le_refl _) _).trans (hb4.mono (by omega))
  clear hb4
  go_wp2_with fail
  refine (HDG.out w4).mono ?_
  rintro e w5 ⟨rfl, hb5⟩
  have hb35 : Below w3.heap.size w3 w5 := hb34.trans (hb5.mono hb34.size)
  have ht5 : (w5.alloc (.cells z67.toArray 246)).there w5.heap.size 0 D.length := by rw [ldv]; exact there_z67 w5
  clear hb34 hb5
  go_wp2_with (first | (refine wpList_alloc_of rfl 246 rfl z67.toArray alloc_67 ?_) | (refine wpList_store_abs rfl 246 _ _ rfl w5.heap.size 0 D rfl rfl ht5 idv odv ?_; intro w6 _hw6 hr6 _ht6 hb6; clear _hw6 _ht6))
  have hb56 : Below w5.heap.size w5 w6 := ((Below.refl _ _).alloc (Nat.le_refl _) _).trans (hb6 _ (Nat.le_refl _))
  have hb36 : Below w3.heap.size w3 w6 := hb35.trans (hb56.mono hb35.size)
  have hq6 : w5.heap.size < w6.heap.size := by have := (hb6 _ (Nat.le_refl _)).size; simp at this; omega
  clear hb6 hb56 ht5 hb35
  refine (beginnings_any seed k w6).mono ?_
  rintro e w7 ⟨rfl, c1, c2, hb7⟩
  have hb06 : Below w.heap.size w w6 := hb23.trans (hb36.mono hb23.size)
  have hal := HAL.out w6 w7 w5.heap.size hb06 c1 c2 hb7 (fun j u hu => (hb7.cell (p := ⟨w5.heap.size, 0 + j, none⟩) hq6).trans (hr6 j u hu)) (Nat.lt_of_lt_of_le hq6 hb7.size)
  have hb37 : Below w3.heap.size w3 w7 := hb36.trans (hb7.mono hb36.size)
  clear c1 c2 hb7 hr6 hb36 hb06
  go_wp2_with fail
  refine hal.mono ?_
  rintro e w8 ⟨rfl, hb8⟩
  clear hal
  have hb38 : Below w3.heap.size w3 w8 := hb37.trans (hb8.mono hb37.size)
  have HO8 : Hid (LeafAt w8 (.slice ao h cp) F) := HO3.out.below hb38
  have hb08 : Below w.heap.size w w8 := hb23.trans (hb38.mono hb23.size)
  clear hb8 hb38 hb37 hb23
  go_wp2_with fail
  refine (hszz w8).mono ?_
  rintro e w8' ⟨rfl, rfl⟩
  clear hszz
  obtain ⟨wM, hmk0, hoM, hgM⟩ := run_make_own (P := Tryz.prog) w8' w8'.heap.size 85 5 i0 (.int .u8 0) 1 Tryz.underlying85 hi hz hsz .i64 .i64 M (by rw [hby]; omega) (by unfold maxLen; omega) (Nat.le_refl _)
  have hmk : (Instr.makeSlice 85 (.int .i64 0) (.int .i64 (M : Int))).run Tryz.prog w8' = .ok (.slice (some ⟨w8'.heap.size, 0, none⟩) 0 M) wM := hmk0
  have hbM : Below w8'.heap.size w8' wM := (Below.refl _ _).grown hgM (Nat.le_refl _) (fun g e => by cases e)
  have hzM : w8'.heap.size < wM.heap.size := (hoM.lt w8'.heap.size rfl).2
  clear hmk0 hgM
  have ho1 : (wM.alloc (.cells #[.int .u8 ((k : Int) % 256)] 5)).ownsRow w8'.heap.size 5 1 (.slice (some ⟨w8'.heap.size, 0, none⟩) 0 M) 0 [] := own_below' hoM ((Below.refl _ _).alloc (Nat.le_refl _) _)
  have hnews : ∀ j u, ([.int .u8 ((k : Int) % 256)] : List Value)[j]? = some u → (wM.alloc (.cells #[.int .u8 ((k : Int) % 256)] 5)).cell? ((⟨wM.heap.size, 0, none⟩ : Addr).add j) = some u := fun j u hu => by
    rw [Addr.add_mid, World.cell?_alloc_at _ _ _ _ rfl]
    simpa using hu
  have hbA : Below w8'.heap.size w8' (wM.alloc (.cells #[.int .u8 ((k : Int) % 256)] 5)) := hbM.alloc (Nat.le_of_lt hzM) _
  have HBA : Hid (Below w8'.heap.size w8' (wM.alloc (.cells #[.int .u8 ((k : Int) % 256)] 5))) := hbA
  have hsA : w8'.heap.size ≤ wM.heap.size + 1 := by omega
  have hsA' : w8'.heap.size ≤ (wM.alloc (.cells #[.int .u8 ((k : Int) % 256)] 5)).heap.size := hbA.size
  clear hbA hoM hbM
  go_wp2_with (first | (refine wpList_append_lies _ rfl _ _ 85 rfl w8'.heap.size 5 i0 _ 1 1 Tryz.underlying85 hi hz hsz hby rfl (by decide) (.slice (some ⟨w8'.heap.size, 0, none⟩) 0 M) 0 [] rfl ho1 ⟨wM.heap.size, 0, none⟩ 1 1 [.int .u8 ((k : Int) % 256)] rfl rfl hnews (by simp [Value.oneCell']) (by decide) (by unfold maxLen; omega) (by omega) hsA' _ rfl ?_; intro g9 cap9 w9 ho9 hgr9 _hat9 hlt9; have HB9 : Hid (Below w8'.heap.size w8' w9) := HBA.out.trans ((Below.refl _ _).grown hgr9 hsA' (fun g e => by simp [Value.ownBlock] at e; omega)); clear hgr9 _hat9 hnews ho1) | (refine Lib.wpList_append_own_string _ rfl _ _ 85 9 rfl w8'.heap.size 5 i0 Tryz.underlying85 Tryz.underlying9 hi hz hsz hby (.slice (some ⟨g9, 0, none⟩) 1 cap9) 1 _ rfl ho9 V rfl (by unfold maxLen; omega) (by omega) HB9.out.size ?_; intro v10 w10 ho10 hgr10 _; obtain ⟨g10, cap10, hv10, _⟩ := own_open ho10 (by omega)))
  have HB10 : Hid (Below w8'.heap.size w8' w10) := HB9.out.trans ((Below.refl _ _).grown hgr10 HB9.out.size (fun g e => (ho9.lt g e).1))
  have HO10 : Hid (w10.ownsRow w8'.heap.size 5 1 (.slice (some ⟨g10, 0, none⟩) 2145 cap10) 2145 (bytesV ([(k : Int) % 256] ++ numsOf V))) := by
    rw [hv10, HVS, strCells_nums] at ho10
    rw [bytesV_append]
    exact ho10
  rename_i hrt hxx
  clear hv10 ho10 hgr10 ho9 hlt9 HB9 HBA hsA hsA'
  go_loopw [14, 55] (fun v i wr => ∃ (q : Nat) (u : Value), u = v ∧ q ≤ h ∧ i = .int .i64 q ∧ Hid (wr.ownsRow w8'.heap.size 5 1 u (2145 + 32 * q) (bytesV ([(k : Int) % 256] ++ numsOf V ++ joinN (F.take q))) ∧ Below w8'.heap.size w8' wr)) (fun _ i _ => h - (intOf i).toNat)
  case atStart => exact ⟨0, _, rfl, Nat.zero_le _, rfl, by simpa [joinN] using HO10.out, HB10.out⟩
  case round =>
    obtain ⟨q, v, hvu, hq, rfl, hI⟩ := hrel
    subst hvu
    by_cases hlt : q < h
    · have q1 : (q : Int) < (h : Int) := by omega
      have q0 : (0 : Int) ≤ (q : Int) := by omega
      have hql : q < F.length := by have := HFL2.out; omega
      obtain ⟨s, es⟩ : ∃ s, s = F[q]'hql := ⟨_, rfl⟩
      have s32 : s.size = 32 := by rw [es]; exact HF32.out _ (List.getElem_mem hql)
      obtain ⟨gp, off, ea, ca⟩ : ∃ g off, ao = some ⟨g, off, none⟩ ∧ wr.cell? ⟨g, off + q, none⟩ = some (.string s) := by
        rcases HO8.out.below hI.out.2 with ⟨e, _⟩ | ⟨g, off, cap', e, _, hh'⟩
        · rw [e] at hql; simp at hql
        · injection e with e1 _ _
          exact ⟨g, off, e1, by rw [hh' q hql, es]⟩
      subst ea
      have HE : Hid (joinN (F.take (q + 1)) = joinN (F.take q) ++ numsOf s) := by
        show _ = _
        rw [join_snoc F q hql, es, List.getD, List.getElem?_eq_getElem hql]; rfl
      clear es
      have hoq := hI.out.1
      have hsq := hI.out.2.size
      go_wp2_with (first | (refine Lib.wpList_append_own_string _ rfl _ _ 85 9 rfl w8'.heap.size 5 i0 Tryz.underlying85 Tryz.underlying9 hi hz hsz hby v (2145 + 32 * q) _ rfl hoq s rfl (by unfold maxLen; omega) (by omega) hsq ?_; intro v11 w11 ho11 hgr11 _))
      refine ⟨⟨q + 1, _, rfl, by omega, by go_num, ?_, ?_⟩, ?_⟩
      · rw [s32, strCells_nums, ← bytesV_append] at ho11
        rw [HE.out, ← List.append_assoc]
        exact ho11
      · exact hI.out.2.trans ((Below.refl _ _).grown hgr11 hsq (fun g e => (hoq.lt g e).1))
      · simp [intOf]; omega
    · have q1 : ¬ (q : Int) < (h : Int) := by omega
      obtain rfl : q = h := by omega
      have hrow := hI.out.1
      rw [show F.take q = F from List.take_of_length_le (by rw [HFL2.out]; exact Nat.le_refl _)] at hrow
      obtain ⟨g, cap, hv, hg1, hg2, hr⟩ := own_open hrow (by omega)
      subst hv
      have hcv := convert_range (cap := cap) (ns := [(k : Int) % 256] ++ numsOf V ++ joinN F) (2145 + 32 * q) (by rw [List.length_append, List.length_append, numsOf_length, HVS, join_all F HF32.out, HFL2.out]; rfl) hr
      rw [← HR.out] at hcv
      have hbE : Below w.heap.size w wr := hb08.trans (hI.out.2.mono hb08.size)
      clear hrow hr
      go_wp2_with fail
      go_ret2
      exact ⟨rfl, hbE⟩
end Go.Proofs.YteglimjonofdeaaGreatDoor
