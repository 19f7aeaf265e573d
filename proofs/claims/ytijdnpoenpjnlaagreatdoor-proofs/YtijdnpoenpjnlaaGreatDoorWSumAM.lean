import Derived.Test.YtijdnpoenpjnlaaGreatDoorWOf
import Derived.Stop.BytesEq
import Derived.Deep.AppendLies
set_option linter.unusedVariables false
set_option linter.unusedSimpArgs false
namespace Go.Proofs.YtijdnpoenpjnlaaGreatDoor
open Go.RowKit

theorem convert_range {w : World} {b cap : Nat} {ns : List Int} (n : Nat) (hn : ns.length = n) (hr : w.rangeAt b 0 (bytesV ns)) : (convert 42 9 (.slice (some ⟨b, 0, none⟩) n cap)).run Tryz.prog w = .ok (.string (strOfNums ns)) w := by
  refine run_convert_bytes_arg w 42 5 Tryz.underlying42 Tryz.underlying5 b 0 n cap ns hn ?_ 9 Tryz.underlying9
  intro i hi
  rw [Nat.zero_add]; exact range_nums hr i (by omega)

theorem join_one (s : ByteArray) : joinN [s] = numsOf s := by simp [joinN]
/-- The hash of a text, as a text. -/
def sumOf (K : Nat → Int) (s : ByteArray) : ByteArray := strOfNums (hashN K (numsOf s))
theorem sumOf_size (K : Nat → Int) (s : ByteArray) : (sumOf K s).size = 32 := by unfold sumOf; rw [strOfNums_size, hashN_length]

set_option maxRecDepth 10000 in
set_option maxHeartbeats 1000000 in
theorem htext_any (ns : List Int) (w : World) (hn : ns.length = 32) :
    Calls Tryz.prog 55 #[.agg (bytesV ns).toArray] w fun e w' => e = .returned (.string (strOfNums ns)) ∧ Below w.heap.size w w' := by
  have hr0 := range_new w (bytesV ns) 90
  have hcv := convert_range (cap := 32) 32 hn hr0
  clear hr0
  go_enter Tryz.func55, Tryz.ntmps55
  go_wp2_with fail
  go_ret
  exact ⟨rfl, (Below.refl _ _).alloc (Nat.le_refl _) _⟩

set_option maxRecDepth 10000 in
set_option maxHeartbeats 1000000 in
theorem sum_any (s : ByteArray) (K : Nat → Int) (w : World) (hs : s.size ≤ 140737488355328) (hg : 0 < w.heap.size) (hK : ∀ j, j < 64 → w.cell? ⟨0, j, none⟩ = some (.int .u32 (K j))) :
    Calls Tryz.prog 29 #[.string s] w fun e w' => e = .returned (.string (sumOf K s)) ∧ Below w.heap.size w w' := by
  have HK : Hid (∀ j, j < 64 → w.cell? ⟨0, j, none⟩ = some (.int .u32 (K j))) := hK
  clear hK
  go_enter Tryz.func29, Tryz.ntmps29
  go_wp2_with fail
  refine (of_any [s] w.heap.size 1 K _ (by simp) (by simp) (by rw [join_one, numsOf_length]; exact hs)
    (fun j hj => by
      obtain rfl : j = 0 := by simpa using hj
      rw [World.cell?_alloc_at _ _ _ _ rfl]; rfl) (by simp <;> omega) (fun j hj => by rw [World.cell?_alloc_past _ _ _ hg]; exact HK.out j hj)).mono ?_
  rw [join_one]
  rintro e w1 ⟨rfl, hb1⟩
  go_wp2_with fail
  refine (htext_any (hashN K (numsOf s)) w1 (hashN_length K (numsOf s))).mono ?_
  rintro e w2 ⟨rfl, hb2⟩
  go_wp2_with fail
  go_ret
  refine ⟨rfl, ?_⟩
  have hs1 := hb1.size
  simp at hs1
  exact ((Below.refl _ _).alloc (Nat.le_refl _) _).trans ((hb1.mono (by simp)).trans (hb2.mono (by omega)))
end Go.Proofs.YtijdnpoenpjnlaaGreatDoor
set_option linter.unusedVariables false
set_option linter.unusedSimpArgs false
namespace Go.Proofs.YtijdnpoenpjnlaaGreatDoor
open Go.RowKit

theorem bAt_nums (s : ByteArray) (i : Nat) : bAt s i = (numsOf s).getD i 0 := by
  unfold bAt numsOf
  rw [List.getD, List.getD, List.getElem?_map]
  cases s.data.toList[i]? <;> rfl
theorem nums_str (l : List Int) (h : ∀ x ∈ l, 0 ≤ x ∧ x < 256) : numsOf (strOfNums l) = l := by
  unfold numsOf
  rw [strOfNums_data, List.map_map]
  have : ∀ x ∈ l, ((fun b : UInt8 => (b.toNat : Int)) ∘ fun n : Int => UInt8.ofNat n.toNat) x = id x := fun x hx => by
    have hx' := h x hx
    have e : (UInt8.ofNat x.toNat).toNat = x.toNat % 256 := UInt8.toNat_ofNat'
    simp only [Function.comp_apply, e, id]
    omega
  rw [List.map_congr_left this, List.map_id]
theorem str_nums (s : ByteArray) : strOfNums (numsOf s) = s := by
  have : (numsOf s).map (fun n => UInt8.ofNat n.toNat) = s.data.toList := by
    unfold numsOf
    rw [List.map_map]
    have : ∀ x ∈ s.data.toList, ((fun n : Int => UInt8.ofNat n.toNat) ∘ fun b : UInt8 => (b.toNat : Int)) x = id x := fun x _ => by simp
    rw [List.map_congr_left this, List.map_id]
  unfold strOfNums
  rw [this]
theorem nums_range (s : ByteArray) : ∀ x ∈ numsOf s, 0 ≤ x ∧ x < 256 := by
  intro x hx
  simp only [numsOf, List.mem_map] at hx
  obtain ⟨b, _, rfl⟩ := hx
  have := b.toNat_lt
  omega
theorem fourN_range (n : Int) : ∀ x ∈ fourN n, 0 ≤ x ∧ x < 256 := by
  intro x hx
  simp only [fourN, List.mem_cons, List.not_mem_nil, or_false] at hx
  rcases hx with rfl | rfl | rfl | rfl <;> exact ⟨Int.emod_nonneg _ (by omega), Int.emod_lt_of_pos _ (by omega)⟩
theorem hashN_range (K : Nat → Int) (D : List Int) : ∀ x ∈ hashN K D, 0 ≤ x ∧ x < 256 := by
  intro x hx
  unfold hashN spreadN at hx
  obtain ⟨n, _, h⟩ := List.mem_flatMap.1 hx
  exact fourN_range n x h
theorem nums_app (a b : ByteArray) : numsOf (a ++ b) = numsOf a ++ numsOf b := by
  unfold numsOf; simp [ByteArray.data_append]
/-- A hash as the program holds it: the bytes of its text. -/
def hV (h : ByteArray) : List Value := bytesV (numsOf h)
theorem hV_sum (K : Nat → Int) (D : List Int) (s : ByteArray) (h : D = numsOf s) : bytesV (hashN K D) = hV (sumOf K s) := by
  subst h
  unfold hV sumOf
  rw [nums_str _ (hashN_range _ _)]
theorem hV_len {h : ByteArray} (e : h.size = 32) : (hV h).length = 32 := by unfold hV; rw [bytesV_length, numsOf_length, e]
theorem hV_info {h : ByteArray} (e : h.size = 32) : (Tryz.prog.info? 90).map (·.size) = some (hV h).length := by rw [hV_len e]; exact info_hash
theorem hV_one (h : ByteArray) : ∀ u ∈ hV h, u.oneCell' = true := bytesV_one _
/-- The table of rounds, below block B. -/
structure Tab (K : Nat → Int) (w : World) : Prop where
  lt : 0 < w.heap.size
  cells : ∀ j, j < 64 → w.cell? ⟨0, j, none⟩ = some (.int .u32 (K j))
theorem Tab.below {K : Nat → Int} {w w' : World} (h : Tab K w) (hb : Below w.heap.size w w') : Tab K w' :=
  ⟨Nat.lt_of_lt_of_le h.lt hb.size, fun j hj => (hb.cell (p := ⟨0, j, none⟩) h.lt).trans (h.cells j hj)⟩
theorem own_below' {B : Nat} {e : TypeId} {k : Nat} {v : Value} {n : Nat} {xs : List Value} {w w' : World} (h : w.ownsRow B e k v n xs) (hb : Below w.heap.size w w') : w'.ownsRow B e k v n xs :=
  h.kept (row := none) ⟨hb.os, hb.tape, hb.output, hb.size, fun j hj _ => hb.block j hj⟩ (by cases hv : v.ownBlock <;> simp)
theorem info_strT : ∃ i, Tryz.prog.info? 9 = some i ∧ i.zero = some (.string ⟨#[]⟩) ∧ i.size = 1 ∧ i.bytes = 16 := by
  obtain ⟨i, hi⟩ : ∃ i, Tryz.prog.info? 9 = some i := Option.isSome_iff_exists.1 (by kernel_rfl)
  refine ⟨i, hi, ?_, ?_, ?_⟩
  · have : (Tryz.prog.info? 9).bind (·.zero) = some (.string ⟨#[]⟩) := by kernel_rfl
    rw [hi] at this; exact this
  · have : (Tryz.prog.info? 9).map (·.size) = some 1 := by kernel_rfl
    rw [hi] at this; exact Option.some.inj this
  · have : (Tryz.prog.info? 9).map (·.bytes) = some 16 := by kernel_rfl
    rw [hi] at this; exact Option.some.inj this
theorem htx_any (s : ByteArray) (e : s.size = 32) (w1 : World) : Calls Tryz.prog 55 #[.agg (hV s).toArray] w1 fun e w' => e = .returned (.string s) ∧ Below w1.heap.size w1 w' := by
  have := htext_any (numsOf s) w1 (by rw [numsOf_length, e])
  rw [str_nums] at this
  exact this
theorem info_u8 : ∃ i, Tryz.prog.info? 5 = some i ∧ i.zero = some (.int .u8 0) ∧ i.size = 1 ∧ i.bytes = 1 := by
  obtain ⟨i, hi⟩ : ∃ i, Tryz.prog.info? 5 = some i := Option.isSome_iff_exists.1 (by kernel_rfl)
  refine ⟨i, hi, ?_, ?_, ?_⟩
  · have : (Tryz.prog.info? 5).bind (·.zero) = some (.int .u8 0) := by kernel_rfl
    rw [hi] at this; exact this
  · have : (Tryz.prog.info? 5).map (·.size) = some 1 := by kernel_rfl
    rw [hi] at this; exact Option.some.inj this
  · have : (Tryz.prog.info? 5).map (·.bytes) = some 1 := by kernel_rfl
    rw [hi] at this; exact Option.some.inj this
theorem hV_app (a b : ByteArray) : hV (a ++ b) = hV a ++ hV b := by unfold hV; rw [nums_app, bytesV_append]
theorem own_sameX {w w' : World} {B : Nat} {e : TypeId} {k : Nat} {v : Value} {n : Nat} {xs : List Value} (h : w.ownsRow B e k v n xs) (hb : ∀ g, v.ownBlock = some g → w'.heap[g]? = w.heap[g]?) : w'.ownsRow B e k v n xs := by
  refine ⟨h.1, ?_⟩
  rcases h.2 with hn | ⟨g, cap, cur, rfl, h1, h2, rest⟩
  · exact Or.inl hn
  · exact Or.inr ⟨g, cap, cur, rfl, h1, (hb g rfl).trans h2, rest⟩
theorem heap_setCells_other' (cs : List Value) : ∀ (w : World) (b o g : Nat), g ≠ b → (w.setCells b o cs).heap[g]? = w.heap[g]? := by
  induction cs with
  | nil => intro w b o g h; rfl
  | cons c cs ih => intro w b o g h; rw [World.setCells, ih _ b (o + 1) g h]; exact heap_setCell_other w ⟨b, o, none⟩ g c h
theorem cell_sameB {w w' : World} {g o : Nat} (h : w'.heap[g]? = w.heap[g]?) : w'.cell? ⟨g, o, none⟩ = w.cell? ⟨g, o, none⟩ := by
  unfold World.cell?; simp only [h]
end Go.Proofs.YtijdnpoenpjnlaaGreatDoor
