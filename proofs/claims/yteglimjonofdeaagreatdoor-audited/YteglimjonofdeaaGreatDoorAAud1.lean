import Derived.Test.YteglimjonofdeaaGreatDoorFClashM
import Derived.Test.YteglimjonofdeaaGreatDoorGRootM
import Derived.Test.YteglimjonofdeaaGreatDoorGCheck
import Derived.Test.YteglimjonofdeaaGreatDoorPCheckM
import Derived.Test.YteglimjonofdeaaGreatDoorAEvM
set_option linter.unusedVariables false
set_option linter.unusedSimpArgs false
namespace Go.Proofs.YteglimjonofdeaaGreatDoor
open Go.RowKit

/-- An auditor's cells. -/
def auC (key : ByteArray) (h : Nat) (n : Int) (r : ByteArray) : List Value := .string key :: .int .i64 (h : Nat) :: hdC n r
theorem auC_len {key : ByteArray} {h : Nat} {n : Int} {r : ByteArray} (hr : r.size = 32) : (auC key h n r).length = 35 := by simp [auC, hdC_len hr]
theorem au_built (key : ByteArray) (h : Nat) (n : Int) (l : ByteArray) (hl : l.size = 32) : Tryz.prog.built 134 [(0, .string key), (1, .int .i64 (h : Nat)), (2, .agg (hdC n l).toArray)] = some (auC key h n l).toArray := by
  obtain ⟨x0, x1, x2, x3, x4, x5, x6, x7, x8, x9, x10, x11, x12, x13, x14, x15, x16, x17, x18, x19, x20, x21, x22, x23, x24, x25, x26, x27, x28, x29, x30, x31, e⟩ := list32v (hV l) (hV_len hl)
  unfold auC hdC
  rw [e]
  kernel_rfl
theorem au_head {W : World} {b : Nat} {key : ByteArray} {h : Nat} {n : Int} {r : ByteArray} (hr : W.rangeAt b 0 (auC key h n r)) : W.rangeAt b 2 (hdC n r) := fun i x hx => by
  have := hr (i + 2) x hx
  rwa [show 0 + (i + 2) = 2 + i by omega] at this
theorem au_root {W : World} {b : Nat} {key : ByteArray} {h : Nat} {n : Int} {r : ByteArray} (hr : W.rangeAt b 0 (auC key h n r)) : W.rangeAt b 3 (hV r) := fun i x hx => by
  have := hr (i + 3) x hx
  rwa [show 0 + (i + 3) = 3 + i by omega] at this
/-- An auditor in block ab. -/
structure AuAt (w : World) (ab : Nat) (key : ByteArray) (h : Nat) (n : Int) (r : ByteArray) : Prop where
  cells : w.rangeAt ab 0 (auC key h n r)
  room : w.there ab 0 35
  lt : ab < w.heap.size
  r32 : r.size = 32
theorem AuAt.fresh {w w' : World} {ab : Nat} {key : ByteArray} {h : Nat} {n : Int} {r : ByteArray} (H : AuAt w ab key h n r) (hb : Below w.heap.size w w') : AuAt w' ab key h n r :=
  ⟨range_keep H.cells hb H.lt, there_below hb H.lt H.room, Nat.lt_of_lt_of_le H.lt hb.size, H.r32⟩
/-- The root of nothing. -/
def root0 (K : Nat → Int) : ByteArray := rootF (sumOf K) []
def newPost2 (K : Nat → Int) (key : ByteArray) (h : Nat) (w : World) (e : Ending) (w' : World) : Prop := ∃ ab, e = .returned (.tuple #[.pointer (some ⟨ab, 0, none⟩), .nilIface]) ∧ w.heap.size ≤ ab ∧ AuAt w' ab key h 0 (root0 K) ∧ Below w.heap.size w w'

set_option maxRecDepth 10000 in
set_option maxHeartbeats 4000000 in
theorem anew_any (K : Nat → Int) (key : ByteArray) (h : Nat) (w : World) (hk : key.size = 32) (hh : h ≤ 5) (T : Tab K w) :
    Calls Tryz.prog 39 #[.string key, .int .i64 (h : Nat)] w (newPost2 K key h w) := by
  have hf := pfits_any key (h : Nat) w (by omega)
  rw [decide_eq_true (show key.size = 32 ∧ (0 : Int) ≤ (h : Nat) ∧ ((h : Nat) : Int) ≤ 5 by exact ⟨hk, by omega, by omega⟩)] at hf
  have HT : Hid (Tab K w) := T
  obtain ⟨r, hr⟩ : ∃ r, r = root0 K := ⟨_, rfl⟩
  have HR : Hid (r = root0 K) := hr
  have hr32 : r.size = 32 := by rw [hr]; exact rootF_size _ (sumOf_size K) _
  have HK : Hid (key.size = 32) := hk
  clear T hr hk
  go_enter Tryz.func39, Tryz.ntmps39
  go_wp2_with fail
  refine hf.mono ?_
  rintro e w1 ⟨rfl, b1⟩
  have hrt : Calls Tryz.prog 75 #[.slice none 0 0] w1 fun e w' => e = .returned (.agg (hV r).toArray) ∧ Below w1.heap.size w1 w' := by
    rw [HR.out]; exact root_nil K none 0 w1 (HT.out.below b1)
  have HB1 : Hid (Below w.heap.size w w1) := b1
  clear hf b1
  go_wp2_with fail
  refine hrt.mono ?_
  rintro e w2 ⟨rfl, b2⟩
  have HB2 : Hid (Below w.heap.size w w2) := HB1.out.trans (b2.mono HB1.out.size)
  obtain ⟨w3, h3⟩ : ∃ X, X = w2.alloc (.cells hdZ.toArray 132) := ⟨_, rfl⟩
  have s3 : w3.heap.size = w2.heap.size + 1 := by rw [h3]; simp
  have t3 : w3.there w2.heap.size 0 (hdC 0 r).length := by rw [hdC_len hr32, h3]; exact there_hdz w2
  have HB3 : Hid (Below w.heap.size w w3) := HB2.out.trans (Below.mono (by rw [h3]; exact (Below.refl _ _).alloc (Nat.le_refl _) _) HB2.out.size)
  have HHI : Hid ((Tryz.prog.info? 132).map (·.size) = some (hdC 0 r).length) := info_hd 0 hr32
  have HHO : Hid (∀ u ∈ hdC 0 r, u.oneCell' = true) := hdC_one 0 r
  have HBU : Hid (Tryz.prog.built 132 [(1, .agg (hV r).toArray)] = some (hdC 0 r).toArray) := hd_built1 r hr32
  have HAU : Hid (Tryz.prog.built 134 [(0, .string key), (1, .int .i64 (h : Nat)), (2, .agg (hdC 0 r).toArray)] = some (auC key h 0 r).toArray) := au_built key h 0 r hr32
  have HCL : Hid (∀ W, Calls Tryz.prog 77 #[.string key] W fun e w' => e = .returned (.string key) ∧ Below W.heap.size W w') := fun W => sclone_any key W (by rw [HK.out]; omega)
  have sz2 := HB2.out.size
  clear hrt b2
  generalize hvr : (hV r).toArray = hva at *
  go_wp2_with (first
    | (refine wpList_build_tm rfl 132 _ rfl (hdC 0 r).toArray (Eq.trans (congrArg (Tryz.prog.built _) (by simp [Act.eval, Act.put])) HBU.out) ?_)
    | (refine wpList_alloc_of rfl 132 rfl hdZ.toArray alloc_hd ?_; rw [← h3]; clear h3)
    | (refine wpList_store_abs rfl 132 _ _ rfl w2.heap.size 0 (hdC 0 r) rfl rfl t3 HHI.out HHO.out ?_
       intro W4 hw4 hr4 _ht4 hb4
       have s4 : W4.heap.size = w2.heap.size + 1 := (by rw [hw4, size_setCells]; exact s3)
       have HB4 : Hid (Below w.heap.size w W4) := HB3.out.trans (hb4 w.heap.size (by omega))
       have J0w : Hid (W4.rangeAt w2.heap.size 0 (hdC 0 r)) := hr4
       have J0 : W4.drew.rangeAt w2.heap.size 0 (hdC 0 r) := hr4
       have hcl := HCL.out W4.drew
       clear hw4 _ht4 hb4 hr4))
  refine wp_region_noPanic ?_
  refine wp_region_held_drew (S := fun W => W.rangeAt w2.heap.size 0 (hdC 0 r)) (by kernel_rfl) J0 (fun _ => ?_)
  refine tk 0 J0 ?_
  refine tk 2 J0 ?_
  refine wpAnyH_take (i := 3) (v := .agg (hdC 0 r).toArray) rfl (by kernel_rfl) (by kernel_rfl) (by kernel_rfl) (fun _ _ _ h => h) (yieldsIf_load_mid (by rfl) 132 _ rfl w2.heap.size 0 rfl (hdC 0 r) _ (fun W hW => hW) Tryz.underlying132 rfl HHI.out) J0 ?_
  simp only [qA, qB, qC, Act.put, qD, qE, qF]
  refine rk 1 (fun K' hK' => ?_)
  go_simp
  refine hcl.mono ?_
  rintro e W5 ⟨rfl, b5⟩
  have b5' : Below W4.heap.size W4 W5 := ((Below.refl _ _).drew).trans b5
  have s5 := b5'.size
  have J5 : W5.rangeAt w2.heap.size 0 (hdC 0 r) := range_keep J0w.out b5' (by omega)
  have HB5 : Hid (Below w.heap.size w W5) := HB4.out.trans (b5'.mono (by omega))
  clear hcl b5 b5'
  refine hK'.out _ _ J5 (fun _ => ?_)
  clear hK' K'
  try simp only [qA, qB, qC, Act.put, qD, qE, qF]
  refine wpAnyH_take (i := 4) (v := .agg (auC key h 0 r).toArray) rfl (by kernel_rfl) (by kernel_rfl) (by kernel_rfl) (fun _ _ _ h => h) (yieldsIf_build (by rfl) 134 _ rfl (auC key h 0 r).toArray (Eq.trans (congrArg (Tryz.prog.built _) (by simp [Act.eval, Act.put])) HAU.out)) J5 ?_
  simp only [qA, qB, qC, Act.put, qD, qE, qF]
  refine rk 5 (fun K' hK' => ?_)
  obtain ⟨W6, h6⟩ : ∃ X, X = W5.alloc (.cells (auC key h 0 r).toArray 134) := ⟨_, rfl⟩
  have s6 : W6.heap.size = W5.heap.size + 1 := by rw [h6]; simp
  have b6 : Below W5.heap.size W5 W6 := by rw [h6]; exact (Below.refl _ _).alloc (Nat.le_refl _) _
  have J6 : W6.rangeAt w2.heap.size 0 (hdC 0 r) := range_keep J5 b6 (by omega)
  have HR6 : Hid (W6.rangeAt W5.heap.size 0 (auC key h 0 r) ∧ W6.there W5.heap.size 0 35) := ⟨by rw [h6]; exact range_new _ _ _, by have := there_new W5 (auC key h 0 r).toArray 134; rw [show (auC key h 0 r).toArray.size = 35 by rw [List.size_toArray]; exact auC_len hr32] at this; rw [h6]; exact this⟩
  have HB6 : Hid (Below w.heap.size w W6) := HB5.out.trans (b6.mono (by omega))
  generalize hau : (auC key h 0 r).toArray = aua at *
  go_simp
  rw [← h6]
  clear h6 b6
  refine hK'.out _ _ J6 (fun _ => ?_)
  clear hK' K'
  try simp only [qA, qB, qC, Act.put, qD, qE, qF]
  refine tk 6 J6 ?_
  refine tk 7 J6 ?_
  refine ⟨by kernel_rfl, ?_⟩
  refine NoPanic.normal ?_
  try simp only [qA, qB, qC, Act.put, qD, qE, qF]
  go_wp2_with fail
  go_ret2
  exact ⟨W5.heap.size, rfl, HB5.out.size, ⟨by rw [← HR.out]; exact HR6.out.1, HR6.out.2, by omega, by rw [← HR.out]; exact hr32⟩, HB6.out⟩

set_option maxRecDepth 10000 in
set_option maxHeartbeats 4000000 in
theorem atrust_any (ab : Nat) (key : ByteArray) (h : Nat) (n : Int) (r : ByteArray) (w : World) (H : AuAt w ab key h n r) :
    Calls Tryz.prog 43 #[.pointer (some ⟨ab, 0, none⟩)] w fun e w' => e = .returned (.tuple #[.int .i64 n, .string r]) ∧ Below w.heap.size w w' := by
  have hr32 := H.r32
  have HIR : Hid ((Tryz.prog.info? 104).map (·.size) = some (hV r).length) := hV_info hr32
  have J0w : Hid (w.rangeAt ab 0 (auC key h n r)) := H.cells
  have HLT : Hid (ab < w.heap.size) := H.lt
  have J0 : w.drew.rangeAt ab 0 (auC key h n r) := H.cells
  clear H
  go_enter Tryz.func43, Tryz.ntmps43
  go_wp2_with fail
  refine wp_region_noPanic ?_
  refine wp_region_held_drew (S := fun W => W.rangeAt ab 0 (auC key h n r)) (by kernel_rfl) J0 (fun _ => ?_)
  refine tk 0 J0 ?_
  refine tk 1 J0 ?_
  refine tk 2 J0 ?_
  refine tk 3 J0 ?_
  refine tq (i := 4) (v := ?_) rfl J0 ?_ ?_
  rotate_left 1
  · intro W hSW; have q2 : W.cell? ⟨ab, 2, none⟩ = some (.int .i64 n) := hSW 2 _ rfl; clear hSW; go_simp; try with_reducible rfl
  simp only [qA, qB, qC, Act.put, qD, qE, qF]
  refine tk 5 J0 ?_
  refine tk 6 J0 ?_
  refine tk 7 J0 ?_
  refine tk 8 J0 ?_
  refine wpAnyH_take (i := 9) (v := .agg (hV r).toArray) rfl (by kernel_rfl) (by kernel_rfl) (by kernel_rfl) (fun _ _ _ h => h) (yieldsIf_load_mid (by rfl) 104 _ rfl ab 3 rfl (hV r) _ (fun W hW => au_root hW) Tryz.underlying104 rfl HIR.out) J0 ?_
  simp only [qA, qB, qC, Act.put, qD, qE, qF]
  refine rk 10 (fun K' hK' => ?_)
  go_simp
  refine (htx_any r hr32 w.drew).mono ?_
  rintro e W3 ⟨rfl, b3⟩
  have b3' : Below w.heap.size w W3 := ((Below.refl _ _).drew).trans b3
  have J3 : W3.rangeAt ab 0 (auC key h n r) := range_keep J0w.out b3' HLT.out
  have HB3 : Hid (Below w.heap.size w W3) := b3'
  clear b3 b3'
  refine hK'.out _ _ J3 (fun _ => ?_)
  clear hK' K'
  try simp only [qA, qB, qC, Act.put, qD, qE, qF]
  refine tk 11 J3 ?_
  refine tk 12 J3 ?_
  refine ⟨by kernel_rfl, ?_⟩
  refine NoPanic.normal ?_
  try simp only [qA, qB, qC, Act.put, qD, qE, qF]
  go_wp2_with fail
  go_ret2
  exact ⟨rfl, HB3.out⟩
end Go.Proofs.YteglimjonofdeaaGreatDoor
