import Derived.Test.YtijdnpoenpjnlaaGreatDoorWSumAM
import Derived.Test.YtijdnpoenpjnlaaGreatDoorWDecode
set_option linter.unusedVariables false
set_option linter.unusedSimpArgs false
namespace Go.Proofs.YtijdnpoenpjnlaaGreatDoor
open Go.RowKit

set_option maxHeartbeats 400000 in
theorem aencode_no (c n o p v k : Int) (d : List Value) (w : World) (hd : d.length = 32) (hw : wholeB c n o p v k = false) :
    Calls Tryz.prog 58 #[.agg (evCells c n o p v k d).toArray] w fun e w' => e = .returned (.tuple #[.string ⟨#[]⟩, .iface 138 (.int .i64 9)]) ∧ Below w.heap.size w w' := by
  go_enter Tryz.func58, Tryz.ntmps58
  go_wp2_with (refine wpList_load_mid rfl 104 _ rfl w.heap.size 0 rfl (evCells c n o p v k d) _ (range_new _ _ _) Tryz.underlying104 rfl (ev_length _ _ _ _ _ _ _ hd) ?_)
  refine (encode_no _ _ _ _ _ _ _ _ hd hw).mono ?_
  rintro e w1 ⟨rfl, hb1⟩
  go_wp2
  go_ret2
  exact ⟨rfl, ((Below.refl _ _).alloc (Nat.le_refl _) _).trans (hb1.mono (by simp))⟩

set_option maxHeartbeats 400000 in
theorem aencode_yes (c n o p v k : Int) (dg : List Int) (w : World) (hd : dg.length = 32) (hw : wholeB c n o p v k = true) :
    Calls Tryz.prog 58 #[.agg (evCells c n o p v k (bytesV dg)).toArray] w fun e w' => e = .returned (.tuple #[.string (strOfNums (evBytes c n o p v k dg)), .nilIface]) ∧ Below w.heap.size w w' := by
  go_enter Tryz.func58, Tryz.ntmps58
  go_wp2_with (refine wpList_load_mid rfl 104 _ rfl w.heap.size 0 rfl (evCells c n o p v k (bytesV dg)) _ (range_new _ _ _) Tryz.underlying104 rfl (ev_length _ _ _ _ _ _ _ (by rw [bytesV_length]; exact hd)) ?_)
  refine (encode_yes _ _ _ _ _ _ _ _ hd hw).mono ?_
  rintro e w1 ⟨rfl, hb1⟩
  go_wp2
  go_ret2
  exact ⟨rfl, ((Below.refl _ _).alloc (Nat.le_refl _) _).trans (hb1.mono (by simp))⟩

/-- Which bytes are those of a whole event? -/
def goodB (s : ByteArray) : Bool := s.size == 42 && (bAt s 0 == 69 && wholeD s)

theorem ext_at (s : ByteArray) (h : s.size = 42) : ∀ j, j < 4 → bAt (s.extract 2 6) j = bAt s (2 + j) := by
  intro j hj
  have h' : s.data.toList.length = 42 := by rw [← Lib.size_eq]; exact h
  unfold bAt
  congr 2
  have e : (s.extract 2 6).data.toList = (s.data.toList.drop 2).take 4 := by
    rw [ByteArray.data_extract]; simp [Array.toList_extract, List.extract_eq_take_drop]
  rw [e, List.getD, List.getD, List.getElem?_take_of_lt hj, List.getElem?_drop]
/-- event.Decode, at whatever bytes. -/
theorem decode_any (s : ByteArray) (w : World) :
    Calls Tryz.prog 113 #[.string s] w fun e w' => Below w.heap.size w w' ∧ ∃ (cs : List Value) (v : Value), e = .returned (.tuple #[.agg cs.toArray, v]) ∧
      ((goodB s = true ∧ cs = fEv s ∧ v = .nilIface) ∨ (goodB s = false ∧ cs = zEvL ∧ v = .iface 138 (.int .i64 9))) := by
  by_cases h : s.size = 42
  · have hb : ((s.size : Int) != 42) = false := by simp [h]
    have hlt : 0 < s.size := by omega
    by_cases hm : bAt s 0 = 69
    · have hb2 : (((s[0]'hlt).toNat : Int) != 69) = false := by rw [bAt_eq, hm]; rfl
      refine (decode_on s w hb hlt hb2 (by omega) (by simp [h]) (ext_at s h) (by simp [h])).mono ?_
      rintro e w' ⟨hB, cs, v, rfl, hc⟩
      refine ⟨hB, cs, v, rfl, ?_⟩
      simpa [goodB, h, hm] using hc
    · have hb2 : (((s[0]'hlt).toNat : Int) != 69) = true := by rw [bAt_eq, bne_iff_ne]; exact hm
      refine (decode_mark s w hb hlt hb2).mono ?_
      rintro e w' ⟨rfl, hB⟩
      exact ⟨hB, zEvL, _, rfl, Or.inr ⟨by simp [goodB, hm], rfl, rfl⟩⟩
  · refine (decode_short s w h).mono ?_
    rintro e w' ⟨rfl, hB⟩
    exact ⟨hB, zEvL, _, rfl, Or.inr ⟨by simp [goodB, h], rfl, rfl⟩⟩

theorem good_len (s : ByteArray) (h : goodB s = true) : s.size = 42 := by
  simp [goodB] at h; exact h.1
theorem res_len (s : ByteArray) (cs : List Value) (v : Value) (h : (goodB s = true ∧ cs = fEv s ∧ v = .nilIface) ∨ (goodB s = false ∧ cs = zEvL ∧ v = .iface 138 (.int .i64 9))) : cs.length = zEvL.length ∧ ∀ u ∈ cs, u.oneCell' = true := by
  rcases h with ⟨h, rfl, _⟩ | ⟨_, rfl, _⟩
  · have := good_len s h
    exact ⟨by rw [fEv_len s (by simp [this]), zEv_len], fEv_one s⟩
  · exact ⟨rfl, zEv_one⟩

set_option maxHeartbeats 400000 in
theorem adecode_any (s : ByteArray) (w : World) :
    Calls Tryz.prog 63 #[.string s] w fun e w' => Below w.heap.size w w' ∧ ∃ (cs : List Value) (v : Value), e = .returned (.tuple #[.agg cs.toArray, v]) ∧
      ((goodB s = true ∧ cs = fEv s ∧ v = .nilIface) ∨ (goodB s = false ∧ cs = zEvL ∧ v = .iface 138 (.int .i64 9))) := by
  go_enter Tryz.func63, Tryz.ntmps63
  go_wp2_with (first | (refine wpList_alloc_of rfl 104 rfl zEvL.toArray alloc_ev ?_))
  refine (decode_any s _).mono ?_
  rintro e w1 ⟨hb1, cs, v, rfl, hc⟩
  obtain ⟨hl, hone⟩ := res_len s cs v hc
  have HC : Hid ((goodB s = true ∧ cs = fEv s ∧ v = .nilIface) ∨ (goodB s = false ∧ cs = zEvL ∧ v = .iface 138 (.int .i64 9))) := hc
  have hi : (Tryz.prog.info? 104).map (·.size) = some cs.length := by rw [hl]; exact info_zev
  have ht : w1.there w.heap.size 0 cs.length := by rw [hl]; exact there_below hb1 (by simp) (there_zev w)
  clear hc hl
  go_wp2_with (refine wpList_store_abs rfl 104 _ _ rfl w.heap.size 0 cs rfl rfl ht hi hone ?_; intro w2 _hw2 hr2 _ht2 hb2; clear _hw2 _ht2)
  exact ret_cell_tmp rfl w.heap.size 0 cs _ v rfl rfl hr2 Tryz.underlying104 rfl hi rfl ⟨((Below.refl _ _).alloc (Nat.le_refl _) _).trans ((hb1.mono (by simp)).trans (hb2 _ (Nat.le_refl _))), cs, v, rfl, HC.out⟩
end Go.Proofs.YtijdnpoenpjnlaaGreatDoor
