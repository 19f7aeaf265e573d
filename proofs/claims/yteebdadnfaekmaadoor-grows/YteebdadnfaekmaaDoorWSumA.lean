import Derived.Test.YteebdadnfaekmaaDoorWOf
set_option linter.unusedVariables false
set_option linter.unusedSimpArgs false
namespace Go.Proofs.YteebdadnfaekmaaDoor
open Go.RowKit

theorem convert_range {w : World} {b cap : Nat} {ns : List Int} (n : Nat) (hn : ns.length = n) (hr : w.rangeAt b 0 (bytesV ns)) : (convert 27 9 (.slice (some ⟨b, 0, none⟩) n cap)).run Tryd.prog w = .ok (.string (strOfNums ns)) w := by
  refine run_convert_bytes_arg w 27 5 Tryd.underlying27 Tryd.underlying5 b 0 n cap ns hn ?_ 9 Tryd.underlying9
  intro i hi
  rw [Nat.zero_add]; exact range_nums hr i (by omega)

theorem join_one (s : ByteArray) : joinN [s] = numsOf s := by simp [joinN]
/-- The hash of a text, as a text. -/
def sumOf (K : Nat → Int) (s : ByteArray) : ByteArray := strOfNums (hashN K (numsOf s))
theorem sumOf_size (K : Nat → Int) (s : ByteArray) : (sumOf K s).size = 32 := by unfold sumOf; rw [strOfNums_size, hashN_length]

set_option maxRecDepth 10000 in
set_option maxHeartbeats 1000000 in
theorem htext_any (ns : List Int) (w : World) (hn : ns.length = 32) :
    Calls Tryd.prog 27 #[.agg (bytesV ns).toArray] w fun e w' => e = .returned (.string (strOfNums ns)) ∧ Below w.heap.size w w' := by
  have hr0 := range_new w (bytesV ns) 54
  have hcv := convert_range (cap := 32) 32 hn hr0
  clear hr0
  go_enter Tryd.func27, Tryd.ntmps27
  go_wp2_with fail
  go_ret
  exact ⟨rfl, (Below.refl _ _).alloc (Nat.le_refl _) _⟩

set_option maxRecDepth 10000 in
set_option maxHeartbeats 1000000 in
theorem sum_any (s : ByteArray) (K : Nat → Int) (w : World) (hs : s.size ≤ 140737488355328) (hg : 1 < w.heap.size) (hK : ∀ j, j < 64 → w.cell? ⟨1, j, none⟩ = some (.int .u32 (K j))) :
    Calls Tryd.prog 8 #[.string s] w fun e w' => e = .returned (.string (sumOf K s)) ∧ Below w.heap.size w w' := by
  have HK : Hid (∀ j, j < 64 → w.cell? ⟨1, j, none⟩ = some (.int .u32 (K j))) := hK
  clear hK
  go_enter Tryd.func8, Tryd.ntmps8
  go_wp2_with fail
  refine (of_any [s] w.heap.size 1 K _ (by simp) (by simp) (by rw [join_one, numsOf_length]; exact hs)
    (fun j hj => by
      obtain rfl : j = 0 := by simpa using hj
      rw [World.cell?_alloc_at _ _ _ _ rfl]; rfl) (by simp <;> omega) (fun j hj => by rw [World.cell?_alloc_past _ _ _ hg]; exact HK.out j hj)).mono ?_
  rw [join_one]
  rintro e w1 ⟨rfl, hb1⟩
  go_wp2_with fail
  refine (htext_any (hashN K (numsOf s)) w1 (hashN_length K (numsOf s))).mono ?_
  rintro e w2 ⟨rfl, hb2⟩
  go_wp2_with fail
  go_ret
  refine ⟨rfl, ?_⟩
  have hs1 := hb1.size
  simp at hs1
  exact ((Below.refl _ _).alloc (Nat.le_refl _) _).trans ((hb1.mono (by simp)).trans (hb2.mono (by omega)))
end Go.Proofs.YteebdadnfaekmaaDoor
