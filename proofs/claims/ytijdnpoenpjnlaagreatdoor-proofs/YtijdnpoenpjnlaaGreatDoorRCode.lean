import Derived.Test.YtijdnpoenpjnlaaGreatDoorRLaw
import Derived.Test.YtijdnpoenpjnlaaGreatDoorWCoded
set_option linter.unusedVariables false
set_option linter.unusedSimpArgs false
namespace Go.Proofs.YtijdnpoenpjnlaaGreatDoor
open Go.RowKit

theorem str_app (a b : List Int) : strOfNums (a ++ b) = strOfNums a ++ strOfNums b := by
  apply ByteArray.ext
  simp [strOfNums]
theorem want_eq (c n o p v k : Int) (s : ByteArray) (hw : wholeB c n o p v k = true) :
    ((strOfNums [69, c % 256] ++ strOfNums (fourN n)) ++ strOfNums [o % 256, p % 256, v % 256, k % 256]) ++ s = strOfNums (evBytes c n o p v k (numsOf s)) := by
  obtain ⟨hc, hn, ho, hp, hv, hk⟩ := whole_bounds hw
  rw [evBytes, str_app, str_app, str_app, str_nums]
  rw [show c % 256 = c by omega, show o % 256 = o by omega, show p % 256 = p by omega, show v % 256 = v by omega, show k % 256 = k by omega]

set_option maxRecDepth 10000 in
set_option maxHeartbeats 1000000 in
theorem encoded_no (c n o p v k : Int) (s : ByteArray) (w : World) (hs : s.size = 32) (hw : wholeB c n o p v k = false) (hg : w.cell? ⟨1, 0, none⟩ = some errTypeV) (hlt : 1 < w.heap.size) :
    Calls Tryz.prog 31 #[.agg (refEv c n o p v k s).toArray] w fun e w' => e = .returned (.tuple #[.string ⟨#[]⟩, .bool true]) ∧ Below w.heap.size w w' := by
  have HG : Hid (w.cell? ⟨1, 0, none⟩ = some errTypeV) := hg
  clear hg
  have hi : (Tryz.prog.info? 59).map (·.size) = some (refEv c n o p v k s).length := by kernel_rfl
  have hr0 := range_new w (refEv c n o p v k s) 59
  go_enter Tryz.func31, Tryz.ntmps31
  go_wp2_with (first | (refine wpList_load_mid rfl 59 _ rfl w.heap.size 0 rfl (refEv c n o p v k s) _ hr0 Tryz.underlying59 rfl hi ?_))
  refine (levent_any c n o p v k s _ hs).mono ?_
  rintro e w1 ⟨rfl, hb1⟩
  rw [show (w.alloc (.cells (refEv c n o p v k s).toArray 59)).heap.size = w.heap.size + 1 by simp] at hb1
  have hz1 := hb1.size
  simp at hz1
  go_wp2_with fail
  refine (aencode_no c n o p v k _ _ (by rw [bytesV_length, numsOf_length, hs]) hw).mono ?_
  rintro e w2 ⟨rfl, hb2⟩
  have hz2 := hb2.size
  have hB2 : Below (w.heap.size + 1) (w.alloc (.cells (refEv c n o p v k s).toArray 59)) w2 := hb1.trans (hb2.mono (by omega))
  have hr2 : w2.rangeAt w.heap.size 0 (refEv c n o p v k s) := fun j u hu => by
    rw [Nat.zero_add]; exact box_cell hB2 j u hu
  clear hb1 hb2
  go_wp2_with (first | (refine wpList_load_mid rfl 59 _ rfl w.heap.size 0 rfl (refEv c n o p v k s) _ hr2 Tryz.underlying59 rfl hi ?_))
  refine (rwhole_any c n o p v k s _).mono ?_
  rw [hw]
  rintro e w3 ⟨rfl, rfl⟩
  go_wp2_with fail
  refine (ltold_hit 9 9 _ ?_ (by simp; omega)).mono ?_
  · rw [World.cell?_alloc_past _ _ _ (by omega), hB2.cell (p := ⟨1, 0, none⟩) (by show 1 < _; omega), World.cell?_alloc_past _ _ _ hlt]
    exact HG.out
  rintro e w4 ⟨rfl, hb4⟩
  go_wp2_with fail
  go_ret2
  refine ⟨rfl, ?_⟩
  exact (((Below.refl _ _).alloc (Nat.le_refl _) _).trans (hB2.mono (by omega))).trans (((Below.refl _ _).alloc (by omega) _).trans (hb4.mono (by simp; omega)))

set_option maxRecDepth 10000 in
set_option maxHeartbeats 1000000 in
theorem encoded_yes (c n o p v k : Int) (s : ByteArray) (w : World) (hs : s.size = 32) (hw : wholeB c n o p v k = true) :
    Calls Tryz.prog 31 #[.agg (refEv c n o p v k s).toArray] w fun e w' => e = .returned (.tuple #[.string (strOfNums (evBytes c n o p v k (numsOf s))), .bool true]) ∧ Below w.heap.size w w' := by
  have hi : (Tryz.prog.info? 59).map (·.size) = some (refEv c n o p v k s).length := by kernel_rfl
  have hr0 := range_new w (refEv c n o p v k s) 59
  go_enter Tryz.func31, Tryz.ntmps31
  go_wp2_with (first | (refine wpList_load_mid rfl 59 _ rfl w.heap.size 0 rfl (refEv c n o p v k s) _ hr0 Tryz.underlying59 rfl hi ?_))
  refine (levent_any c n o p v k s _ hs).mono ?_
  rintro e w1 ⟨rfl, hb1⟩
  rw [show (w.alloc (.cells (refEv c n o p v k s).toArray 59)).heap.size = w.heap.size + 1 by simp] at hb1
  have hz1 := hb1.size
  simp at hz1
  go_wp2_with fail
  refine (aencode_yes c n o p v k (numsOf s) _ (by rw [numsOf_length, hs]) hw).mono ?_
  rintro e w2 ⟨rfl, hb2⟩
  have hz2 := hb2.size
  have hB2 : Below (w.heap.size + 1) (w.alloc (.cells (refEv c n o p v k s).toArray 59)) w2 := hb1.trans (hb2.mono (by omega))
  have hr2 : w2.rangeAt w.heap.size 0 (refEv c n o p v k s) := fun j u hu => by
    rw [Nat.zero_add]; exact box_cell hB2 j u hu
  have hr3 : (w2.alloc (.cells (refEv c n o p v k s).toArray 59)).rangeAt w.heap.size 0 (refEv c n o p v k s) := World.rangeAt_alloc hr2 _
  clear hb1 hb2
  go_wp2_with (first | (refine wpList_load_mid rfl 59 _ rfl w.heap.size 0 rfl (refEv c n o p v k s) _ hr2 Tryz.underlying59 rfl hi ?_))
  refine (rwhole_any c n o p v k s _).mono ?_
  have HE : Hid (((strOfNums [69, c % 256] ++ strOfNums (fourN n)) ++ strOfNums [o % 256, p % 256, v % 256, k % 256]) ++ s = strOfNums (evBytes c n o p v k (numsOf s))) := want_eq c n o p v k s hw
  rw [hw]
  rintro e w3 ⟨rfl, rfl⟩
  go_wp2_with (first | (refine wpList_load_mid rfl 59 _ rfl w.heap.size 0 rfl (refEv c n o p v k s) _ hr3 Tryz.underlying59 rfl hi ?_))
  refine (rbytes_any c n o p v k s _ (by omega)).mono ?_
  rw [HE.out]
  rintro e w4 ⟨rfl, hb4⟩
  go_wp2_with fail
  go_ret2
  refine ⟨rfl, ?_⟩
  exact (((Below.refl _ _).alloc (Nat.le_refl _) _).trans (hB2.mono (by omega))).trans (((Below.refl _ _).alloc (by omega) _).trans (hb4.mono (by simp; omega)))
end Go.Proofs.YtijdnpoenpjnlaaGreatDoor
