import Derived.Test.YteglimjonofdeaaGreatDoorWOf
import Derived.Stop.BytesEq
import Derived.Deep.AppendLies
import Derived.ArgAppend
import Derived.BigQuiet
import Derived.OwnWalk
set_option linter.unusedVariables false
set_option linter.unusedSimpArgs false
namespace Go.Proofs.YteglimjonofdeaaGreatDoor
open Go.RowKit

theorem convert_range {w : World} {b cap : Nat} {ns : List Int} (n : Nat) (hn : ns.length = n) (hr : w.rangeAt b 0 (bytesV ns)) : (convert 85 9 (.slice (some ⟨b, 0, none⟩) n cap)).run Tryz.prog w = .ok (.string (strOfNums ns)) w := by
  refine run_convert_bytes_arg w 85 5 Tryz.underlying85 Tryz.underlying5 b 0 n cap ns hn ?_ 9 Tryz.underlying9
  intro i hi
  rw [Nat.zero_add]; exact range_nums hr i (by omega)

theorem join_one (s : ByteArray) : joinN [s] = numsOf s := by simp [joinN]
/-- The hash of a text, as a text. -/
def sumOf (K : Nat → Int) (s : ByteArray) : ByteArray := strOfNums (hashN K (numsOf s))
theorem sumOf_size (K : Nat → Int) (s : ByteArray) : (sumOf K s).size = 32 := by unfold sumOf; rw [strOfNums_size, hashN_length]

set_option maxRecDepth 10000 in
set_option maxHeartbeats 1000000 in
theorem htext_any (ns : List Int) (w : World) (hn : ns.length = 32) :
    Calls Tryz.prog 55 #[.agg (bytesV ns).toArray] w fun e w' => e = .returned (.string (strOfNums ns)) ∧ Below w.heap.size w w' := by
  have hr0 := range_new w (bytesV ns) 104
  have hcv := convert_range (cap := 32) 32 hn hr0
  clear hr0
  go_enter Tryz.func55, Tryz.ntmps55
  go_wp2_with fail
  go_ret
  exact ⟨rfl, (Below.refl _ _).alloc (Nat.le_refl _) _⟩

set_option maxRecDepth 10000 in
set_option maxHeartbeats 1000000 in
theorem sum_any (s : ByteArray) (K : Nat → Int) (w : World) (hs : s.size ≤ 140737488355328) (hg : 1 < w.heap.size) (hK : ∀ j, j < 64 → w.cell? ⟨1, j, none⟩ = some (.int .u32 (K j))) :
    Calls Tryz.prog 32 #[.string s] w fun e w' => e = .returned (.string (sumOf K s)) ∧ Below w.heap.size w w' := by
  have HK : Hid (∀ j, j < 64 → w.cell? ⟨1, j, none⟩ = some (.int .u32 (K j))) := hK
  clear hK
  go_enter Tryz.func32, Tryz.ntmps32
  go_wp2_with fail
  refine (of_any [s] w.heap.size 1 K _ (by simp) (by simp) (by rw [join_one, numsOf_length]; exact hs)
    (fun j hj => by
      obtain rfl : j = 0 := by simpa using hj
      rw [World.cell?_alloc_at _ _ _ _ rfl]; rfl) (by simp <;> omega) (fun j hj => by rw [World.cell?_alloc_past _ _ _ hg]; exact HK.out j hj)).mono ?_
  rw [join_one]
  rintro e w1 ⟨rfl, hb1⟩
  go_wp2_with fail
  refine (htext_any (hashN K (numsOf s)) w1 (hashN_length K (numsOf s))).mono ?_
  rintro e w2 ⟨rfl, hb2⟩
  go_wp2_with fail
  go_ret
  refine ⟨rfl, ?_⟩
  have hs1 := hb1.size
  simp at hs1
  exact ((Below.refl _ _).alloc (Nat.le_refl _) _).trans ((hb1.mono (by simp)).trans (hb2.mono (by omega)))
end Go.Proofs.YteglimjonofdeaaGreatDoor
set_option linter.unusedVariables false
set_option linter.unusedSimpArgs false
namespace Go.Proofs.YteglimjonofdeaaGreatDoor
open Go.RowKit

theorem bAt_nums (s : ByteArray) (i : Nat) : bAt s i = (numsOf s).getD i 0 := by
  unfold bAt numsOf
  rw [List.getD, List.getD, List.getElem?_map]
  cases s.data.toList[i]? <;> rfl
theorem nums_str (l : List Int) (h : ∀ x ∈ l, 0 ≤ x ∧ x < 256) : numsOf (strOfNums l) = l := by
  unfold numsOf
  rw [strOfNums_data, List.map_map]
  have : ∀ x ∈ l, ((fun b : UInt8 => (b.toNat : Int)) ∘ fun n : Int => UInt8.ofNat n.toNat) x = id x := fun x hx => by
    have hx' := h x hx
    have e : (UInt8.ofNat x.toNat).toNat = x.toNat % 256 := UInt8.toNat_ofNat'
    simp only [Function.comp_apply, e, id]
    omega
  rw [List.map_congr_left this, List.map_id]
theorem str_nums (s : ByteArray) : strOfNums (numsOf s) = s := by
  have : (numsOf s).map (fun n => UInt8.ofNat n.toNat) = s.data.toList := by
    unfold numsOf
    rw [List.map_map]
    have : ∀ x ∈ s.data.toList, ((fun n : Int => UInt8.ofNat n.toNat) ∘ fun b : UInt8 => (b.toNat : Int)) x = id x := fun x _ => by simp
    rw [List.map_congr_left this, List.map_id]
  unfold strOfNums
  rw [this]
theorem nums_range (s : ByteArray) : ∀ x ∈ numsOf s, 0 ≤ x ∧ x < 256 := by
  intro x hx
  simp only [numsOf, List.mem_map] at hx
  obtain ⟨b, _, rfl⟩ := hx
  have := b.toNat_lt
  omega
theorem fourN_range (n : Int) : ∀ x ∈ fourN n, 0 ≤ x ∧ x < 256 := by
  intro x hx
  simp only [fourN, List.mem_cons, List.not_mem_nil, or_false] at hx
  rcases hx with rfl | rfl | rfl | rfl <;> exact ⟨Int.emod_nonneg _ (by omega), Int.emod_lt_of_pos _ (by omega)⟩
theorem hashN_range (K : Nat → Int) (D : List Int) : ∀ x ∈ hashN K D, 0 ≤ x ∧ x < 256 := by
  intro x hx
  unfold hashN spreadN at hx
  obtain ⟨n, _, h⟩ := List.mem_flatMap.1 hx
  exact fourN_range n x h
theorem nums_app (a b : ByteArray) : numsOf (a ++ b) = numsOf a ++ numsOf b := by
  unfold numsOf; simp [ByteArray.data_append]
/-- A hash as the program holds it: the bytes of its text. -/
def hV (h : ByteArray) : List Value := bytesV (numsOf h)
theorem hV_sum (K : Nat → Int) (D : List Int) (s : ByteArray) (h : D = numsOf s) : bytesV (hashN K D) = hV (sumOf K s) := by
  subst h
  unfold hV sumOf
  rw [nums_str _ (hashN_range _ _)]
theorem hV_len {h : ByteArray} (e : h.size = 32) : (hV h).length = 32 := by unfold hV; rw [bytesV_length, numsOf_length, e]
theorem hV_info {h : ByteArray} (e : h.size = 32) : (Tryz.prog.info? 104).map (·.size) = some (hV h).length := by rw [hV_len e]; exact info_hash
theorem hV_one (h : ByteArray) : ∀ u ∈ hV h, u.oneCell' = true := bytesV_one _
/-- The table of rounds, below block B. -/
structure Tab (K : Nat → Int) (w : World) : Prop where
  lt : 1 < w.heap.size
  cells : ∀ j, j < 64 → w.cell? ⟨1, j, none⟩ = some (.int .u32 (K j))
theorem Tab.below {K : Nat → Int} {w w' : World} (h : Tab K w) (hb : Below w.heap.size w w') : Tab K w' :=
  ⟨Nat.lt_of_lt_of_le h.lt hb.size, fun j hj => (hb.cell (p := ⟨1, j, none⟩) h.lt).trans (h.cells j hj)⟩
theorem own_below' {B : Nat} {e : TypeId} {k : Nat} {v : Value} {n : Nat} {xs : List Value} {w w' : World} (h : w.ownsRow B e k v n xs) (hb : Below w.heap.size w w') : w'.ownsRow B e k v n xs :=
  h.kept (row := none) ⟨hb.os, hb.tape, hb.output, hb.size, fun j hj _ => hb.block j hj⟩ (by cases hv : v.ownBlock <;> simp)
theorem info_strT : ∃ i, Tryz.prog.info? 9 = some i ∧ i.zero = some (.string ⟨#[]⟩) ∧ i.size = 1 ∧ i.bytes = 16 := by
  obtain ⟨i, hi⟩ : ∃ i, Tryz.prog.info? 9 = some i := Option.isSome_iff_exists.1 (by kernel_rfl)
  refine ⟨i, hi, ?_, ?_, ?_⟩
  · have : (Tryz.prog.info? 9).bind (·.zero) = some (.string ⟨#[]⟩) := by kernel_rfl
    rw [hi] at this; exact this
  · have : (Tryz.prog.info? 9).map (·.size) = some 1 := by kernel_rfl
    rw [hi] at this; exact Option.some.inj this
  · have : (Tryz.prog.info? 9).map (·.bytes) = some 16 := by kernel_rfl
    rw [hi] at this; exact Option.some.inj this
theorem htx_any (s : ByteArray) (e : s.size = 32) (w1 : World) : Calls Tryz.prog 55 #[.agg (hV s).toArray] w1 fun e w' => e = .returned (.string s) ∧ Below w1.heap.size w1 w' := by
  have := htext_any (numsOf s) w1 (by rw [numsOf_length, e])
  rw [str_nums] at this
  exact this
theorem info_u8 : ∃ i, Tryz.prog.info? 5 = some i ∧ i.zero = some (.int .u8 0) ∧ i.size = 1 ∧ i.bytes = 1 := by
  obtain ⟨i, hi⟩ : ∃ i, Tryz.prog.info? 5 = some i := Option.isSome_iff_exists.1 (by kernel_rfl)
  refine ⟨i, hi, ?_, ?_, ?_⟩
  · have : (Tryz.prog.info? 5).bind (·.zero) = some (.int .u8 0) := by kernel_rfl
    rw [hi] at this; exact this
  · have : (Tryz.prog.info? 5).map (·.size) = some 1 := by kernel_rfl
    rw [hi] at this; exact Option.some.inj this
  · have : (Tryz.prog.info? 5).map (·.bytes) = some 1 := by kernel_rfl
    rw [hi] at this; exact Option.some.inj this
theorem hV_app (a b : ByteArray) : hV (a ++ b) = hV a ++ hV b := by unfold hV; rw [nums_app, bytesV_append]
theorem own_sameX {w w' : World} {B : Nat} {e : TypeId} {k : Nat} {v : Value} {n : Nat} {xs : List Value} (h : w.ownsRow B e k v n xs) (hb : ∀ g, v.ownBlock = some g → w'.heap[g]? = w.heap[g]?) : w'.ownsRow B e k v n xs := by
  refine ⟨h.1, ?_⟩
  rcases h.2 with hn | ⟨g, cap, cur, rfl, h1, h2, rest⟩
  · exact Or.inl hn
  · exact Or.inr ⟨g, cap, cur, rfl, h1, (hb g rfl).trans h2, rest⟩
theorem heap_setCells_other' (cs : List Value) : ∀ (w : World) (b o g : Nat), g ≠ b → (w.setCells b o cs).heap[g]? = w.heap[g]? := by
  induction cs with
  | nil => intro w b o g h; rfl
  | cons c cs ih => intro w b o g h; rw [World.setCells, ih _ b (o + 1) g h]; exact heap_setCell_other w ⟨b, o, none⟩ g c h
theorem cell_sameB {w w' : World} {g o : Nat} (h : w'.heap[g]? = w.heap[g]?) : w'.cell? ⟨g, o, none⟩ = w.cell? ⟨g, o, none⟩ := by
  unfold World.cell?; simp only [h]
end Go.Proofs.YteglimjonofdeaaGreatDoor
set_option linter.unusedVariables false
set_option linter.unusedSimpArgs false
namespace Go.Proofs.YteglimjonofdeaaGreatDoor
open Go.RowKit

/-- Bytes that the call has made: n of them lie at the head of block g, which has room for cap, and may be written. -/
structure BufAt (B : Nat) (w : World) (g n cap : Nat) (xs : List Int) : Prop where
  len : xs.length = n
  cells : w.rangeAt g 0 (bytesV xs)
  room : w.there g 0 cap
  le : n ≤ cap
  lo : B ≤ g
  hi : g < w.heap.size
theorem BufAt.below {B : Nat} {w w' : World} {g n cap : Nat} {xs : List Int} (h : BufAt B w g n cap xs) {C : Nat} (hb : Below C w w') (hg : g < C) : BufAt B w' g n cap xs :=
  ⟨h.len, fun j v hv => (hb.cell (p := ⟨g, 0 + j, none⟩) hg).trans (h.cells j v hv), there_below hb hg h.room, h.le, h.lo, Nat.lt_of_lt_of_le h.hi hb.size⟩
theorem BufAt.alloc {B : Nat} {w : World} {g n cap : Nat} {xs : List Int} (h : BufAt B w g n cap xs) (o : Obj) : BufAt B (w.alloc o) g n cap xs :=
  h.below ((Below.refl _ _).alloc (Nat.le_refl _) _) h.hi
theorem buf_of_own {B : Nat} {w : World} {v : Value} {n : Nat} {xs : List Int} (h : w.ownsRow B 5 1 v n (bytesV xs)) (hn : 0 < n) : ∃ g cap, v = .slice (some ⟨g, 0, none⟩) n cap ∧ BufAt B w g n cap xs := by
  rcases h.2 with ⟨_, h0⟩ | ⟨g, cap, cur, rfl, hb, hg, hnc, hm, hc, _⟩
  · omega
  · have hl := h.1
    refine ⟨g, cap, rfl, by simpa [bytesV] using hl, fun j u hu => ?_, fun j hj => ?_, hnc, hb, (h.lt g rfl).2⟩
    · have := h.cells (g := g) rfl j u hu
      rwa [Addr.add_mid] at this
    · rw [cell_of_row w g (0 + j) cur _ _ hg, frozen_of_row w g (0 + j) cur _ hg]
      have hj' : j < cur.size := by omega
      simp [hj']

/-- 'b = append(b, x ..)': in place, or into a new row; the world behind it a letter. -/
theorem wpList_append_buf {ops : Array Oper} {rest : List Oper} {o : Oper} {a : Act} {w : World} {Q : Exit → Act → World → Prop} (hg : o.guard = none) (s x : Operand)
    (hop : o.op = Op.call { callee := Callee.builtin Builtin.append, args := #[s, x], argTypes := #[85, 85] })
    (B g n cap : Nat) (xs : List Int) (hs : a.eval s = .slice (some ⟨g, 0, none⟩) n cap) (hb : BufAt B w g n cap xs)
    (ad : Addr) (c : Nat) (news : List Int) (hx : a.eval x = .slice (some ad) news.length c) (hc : ∀ j u, (bytesV news)[j]? = some u → w.cell? (ad.add j) = some u)
    (hB : B ≤ w.heap.size) (hbd : n + news.length ≤ 140737488355328) (hpos : 0 < n + news.length)
    (hK : ∀ w' g' cap', BufAt B w' g' (n + news.length) cap' (xs ++ news) → Below B w w' → wpList Tryz.prog ops Q rest (a.put o.dst (.slice (some ⟨g', 0, none⟩) (n + news.length) cap')) w') :
    wpList Tryz.prog ops Q (o :: rest) a w := by
  obtain ⟨i0, hi, hz0, hz1, hz2⟩ := info_parts info5
  refine wpList_append_arg w hg s x 85 hop 5 i0 (.int .u8 0) 1 1 Tryz.underlying85 hi hz0 hz1 hz2 rfl (by decide) g 0 n cap (bytesV xs) hs (by rw [bytesV_length, hb.len, Nat.mul_one]) hb.cells ad news.length c (bytesV news) hx (by rw [bytesV_length, Nat.mul_one]) hc (bytesV_one _)
    (fun hr j hj => ?_) (by unfold maxLen; omega) (by omega) (fun hr => ?_) (fun hr v' w' ho hgr => ?_)
  · rw [bytesV_length] at hj
    have := hb.room (n + j) (by omega)
    simpa using this
  · have hr0 : w.there g 0 (bytesV xs ++ bytesV (List.replicate news.length 0)).length := fun j hj => hb.room j (by simp [bytesV_length, hb.len] at hj; omega)
    refine hK (w.setCells g (0 + n * 1) (bytesV news)) g cap ⟨by simp [hb.len], ?_, World.there_setCells hb.room _ _ _, hr, hb.lo, by rw [size_setCells]; exact hb.hi⟩ (below_setCells hb.lo _ _ _ (Below.refl _ _))
    intro j v hv
    rw [bytesV_append] at hv
    rw [show 0 + n * 1 = n by omega]
    rcases Nat.lt_or_ge j n with h | h
    · have e : (w.setCells g n (bytesV news)).cell? ⟨g, 0 + j, none⟩ = w.cell? ⟨g, 0 + j, none⟩ := World.cell?_setCells_out g _ n w ⟨g, 0 + j, none⟩ (fun _ _ => Or.inl (by simp; omega))
      rw [e]
      rw [List.getElem?_append_left (by rw [bytesV_length, hb.len]; exact h)] at hv
      exact hb.cells j v hv
    · rw [List.getElem?_append_right (by rw [bytesV_length, hb.len]; exact h), bytesV_length, hb.len] at hv
      have h2 := World.rangeAt_setCells_same w g n (bytesV news) (fun q hq => by rw [bytesV_length] at hq; have := hb.room (n + q) (by omega); simpa using this)
      have := h2 (j - n) v hv
      rwa [show n + (j - n) = 0 + j by omega] at this
  · rw [← bytesV_append] at ho
    obtain ⟨g', cap', rfl, hb'⟩ := buf_of_own ho hpos
    exact hK w' g' cap' ⟨hb'.len, hb'.cells, hb'.room, hb'.le, Nat.le_trans hB hb'.lo, hb'.hi⟩ (((Below.refl _ _).grown hgr (Nat.le_refl _) (fun k hk => by cases hk)).mono hB)

/-- '[]byte(s)', at the list of operations. -/
theorem wpList_conv_buf {ops : Array Oper} {rest : List Oper} {o : Oper} {a : Act} {w : World} {Q : Exit → Act → World → Prop} (hg : o.guard = none) (x : Operand) (ho : o.op = .convert 9 85 x) (t : ByteArray) (hx : a.eval x = .string t)
    (hK : ∀ w' g cap, BufAt w.heap.size w' g t.size cap (numsOf t) → Below w.heap.size w w' → wpList Tryz.prog ops Q rest (a.put o.dst (.slice (some ⟨g, 0, none⟩) t.size cap)) w') : wpList Tryz.prog ops Q (o :: rest) a w := by
  refine wpList_plain hg fun K hK' => ?_
  unfold Oper.wp
  have hr := run_bytes_of_string (P := Tryz.prog) w 9 85 5 t Tryz.underlying9 Tryz.underlying85 Tryz.underlying5
  simp only [execOp, ho, hx, Sem.run_bind, hr, Result.andThen_ok, Sem.run_pure]
  have hcap : t.size ≤ grownCap w t.size 0 5 := grownCap_ge w t.size 0 5
  obtain ⟨cap, hc⟩ : ∃ cap, cap = grownCap w t.size 0 5 := ⟨_, rfl⟩
  rw [← hc] at hcap ⊢
  have hsz : (bytesRow t cap).size = cap := by
    have : t.data.size = t.size := rfl
    simp [bytesRow, this]; omega
  have hh : (w.drew.alloc (.cells (bytesRow t cap) 5 ((bytesRow t cap).size, (bytesRow t cap).size + 1))).heap[w.heap.size]? = some (.cells (bytesRow t cap) 5 ((bytesRow t cap).size, (bytesRow t cap).size + 1)) := heap_alloc_new w.drew _
  refine hK' _ _ (hK _ w.heap.size cap ⟨numsOf_length t, fun j v hv => ?_, fun j hj => ?_, hcap, Nat.le_refl _, by simp⟩ ((Below.refl _ _).drew.alloc (Nat.le_refl _) _))
  · have hj : j < t.data.size := by
      have := (List.getElem?_eq_some_iff.1 hv).1
      rw [bytesV_length, numsOf_length] at this; exact this
    rw [cell_of_row _ _ _ _ _ _ hh, Nat.zero_add, bytesRow_at t cap j hj]
    rw [← hv]
    have hj2 : j < t.data.toList.length := by simpa using hj
    simp [bytesV, numsOf, List.getElem?_eq_getElem hj2, hj]
  · rw [cell_of_row _ _ _ _ _ _ hh]
    refine ⟨by rw [Nat.zero_add]; simp [hsz, hj], ?_⟩
    have hn : ¬ cap ≤ 0 + j := by omega
    rw [hsz] at hh ⊢
    simp only [World.frozen?]
    rw [hh]
    simp only [hn, decide_false, Bool.false_and]
end Go.Proofs.YteglimjonofdeaaGreatDoor
set_option linter.unusedVariables false
set_option linter.unusedSimpArgs false
namespace Go.Proofs.YteglimjonofdeaaGreatDoor
open Go.RowKit

/-- All blocks but those of S are as they were; there may be new ones. -/
structure Kept (S : Nat → Prop) (w w' : World) : Prop where
  os : w'.os = w.os
  tape : w'.tape = w.tape
  output : w'.output = w.output
  size : w.heap.size ≤ w'.heap.size
  block : ∀ g, g < w.heap.size → ¬ S g → w'.heap[g]? = w.heap[g]?
theorem Kept.refl (S : Nat → Prop) (w : World) : Kept S w w := ⟨rfl, rfl, rfl, Nat.le_refl _, fun _ _ _ => rfl⟩
theorem Kept.mono {S S' : Nat → Prop} {w w' : World} (h : Kept S w w') (hs : ∀ g, g < w.heap.size → S g → S' g) : Kept S' w w' :=
  ⟨h.os, h.tape, h.output, h.size, fun g hg hn => h.block g hg (fun e => hn (hs g hg e))⟩
theorem Kept.trans {S S' : Nat → Prop} {w w1 w2 : World} (h : Kept S w w1) (h' : Kept S' w1 w2) (hs : ∀ g, g < w.heap.size → S' g → S g) : Kept S w w2 :=
  ⟨h'.os.trans h.os, h'.tape.trans h.tape, h'.output.trans h.output, Nat.le_trans h.size h'.size, fun g hg hn => (h'.block g (Nat.lt_of_lt_of_le hg h.size) (fun e => hn (hs g hg e))).trans (h.block g hg hn)⟩
theorem Kept.below {S : Nat → Prop} {B : Nat} {w w' : World} (h : Below B w w') (hB : ∀ g, B ≤ g → g < w.heap.size → S g) : Kept S w w' :=
  ⟨h.os, h.tape, h.output, h.size, fun g hg hn => h.block g (by rcases Nat.lt_or_ge g B with h1 | h1; exact h1; exact absurd (hB g h1 hg) hn)⟩
theorem Kept.fresh {S : Nat → Prop} {w w' : World} (h : Below w.heap.size w w') : Kept S w w' := Kept.below h (fun g h1 h2 => by omega)
theorem Kept.alloc (S : Nat → Prop) (w : World) (o : Obj) : Kept S w (w.alloc o) := Kept.fresh ((Below.refl _ _).alloc (Nat.le_refl _) _)
theorem Kept.drew (S : Nat → Prop) (w : World) : Kept S w w.drew := Kept.fresh (Below.refl _ _).drew
theorem Kept.setCell {S : Nat → Prop} (w : World) (p : Addr) (v : Value) (h : S p.block ∨ w.heap.size ≤ p.block) : Kept S w (w.setCell p v) :=
  have hb := (Below.refl 0 w).setCell (p := p) (Nat.zero_le _) v
  ⟨hb.os, hb.tape, hb.output, hb.size, fun g hg hn => heap_setCell_other w p g v (by rintro rfl; rcases h with h | h; exact hn h; omega)⟩
theorem Kept.setCells {S : Nat → Prop} (b o : Nat) (cs : List Value) (w : World) (h : S b ∨ w.heap.size ≤ b) : Kept S w (w.setCells b o cs) := by
  induction cs generalizing w o with
  | nil => exact Kept.refl _ _
  | cons c cs ih =>
    rw [World.setCells]
    exact (Kept.setCell w ⟨b, o, none⟩ c h).trans (ih (o + 1) _ (h.imp id (fun h => by simpa using h))) (fun g _ h => h)
theorem Kept.grown {S : Nat → Prop} {w w' : World} {row : Option Nat} (h : w.grownBy w' row) (hr : ∀ k, row = some k → S k ∨ w.heap.size ≤ k) : Kept S w w' :=
  ⟨h.os, h.tape, h.output, h.size, fun g hg hn => h.block g hg (fun e => by rcases hr g e.symm with h1 | h1; exact hn h1; omega)⟩
/-- What is kept, below a bound that all of S lies above. -/
theorem Kept.toBelow {S : Nat → Prop} {w w' : World} {B : Nat} (h : Kept S w w') (hB : B ≤ w.heap.size) (hS : ∀ g, S g → B ≤ g) : Below B w w' :=
  ⟨h.os, h.tape, h.output, h.size, fun g hg => h.block g (by omega) (fun e => by have := hS g e; omega)⟩
theorem Kept.cell {S : Nat → Prop} {w w' : World} (h : Kept S w w') {a : Addr} (ha : a.block < w.heap.size) (hn : ¬ S a.block) : w'.cell? a = w.cell? a := World.cell?_of_block (h.block a.block ha hn)
theorem Kept.frozen {S : Nat → Prop} {w w' : World} (h : Kept S w w') {a : Addr} (ha : a.block < w.heap.size) (hn : ¬ S a.block) : w'.frozen? a = w.frozen? a := World.frozen?_of_block (h.block a.block ha hn)
theorem Kept.own {S : Nat → Prop} {w w' : World} (h : Kept S w w') {B : Nat} {e : TypeId} {k : Nat} {v : Value} {n : Nat} {xs : List Value} (ho : w.ownsRow B e k v n xs) (hn : ∀ g, v.ownBlock = some g → ¬ S g) : w'.ownsRow B e k v n xs :=
  own_sameX ho (fun g hg => h.block g (ho.lt g hg).2 (hn g hg))
theorem Tab.kept {K : Nat → Int} {w w' : World} {S : Nat → Prop} (h : Tab K w) (hk : Kept S w w') (hn : ¬ S 1) : Tab K w' :=
  ⟨Nat.lt_of_lt_of_le h.lt hk.size, fun j hj => (hk.cell (a := ⟨1, j, none⟩) h.lt hn).trans (h.cells j hj)⟩
theorem addr_add (b o j : Nat) : (⟨b, o, none⟩ : Addr).add j = ⟨b, o + j, none⟩ := by
  unfold Addr.add
  by_cases h : j = 0
  · subst h; simp
  · simp [h]
theorem block_lt {w : World} {g : Nat} {o : Obj} (h : w.heap[g]? = some o) : g < w.heap.size := (Array.getElem?_eq_some_iff.1 h).1
end Go.Proofs.YteglimjonofdeaaGreatDoor
set_option linter.unusedVariables false
set_option linter.unusedSimpArgs false
namespace Go.Proofs.YteglimjonofdeaaGreatDoor
open Go.RowKit

theorem range_kept {S : Nat → Prop} {W W' : World} {j o : Nat} {xs : List Value} (h : W.rangeAt j o xs) (hk : Kept S W W') (hj : j < W.heap.size) (hn : ¬ S j) : W'.rangeAt j o xs :=
  fun i v hv => (hk.cell (a := ⟨j, o + i, none⟩) hj hn).trans (h i v hv)
theorem there_kept {S : Nat → Prop} {W W' : World} {j o m : Nat} (h : W.there j o m) (hk : Kept S W W') (hj : j < W.heap.size) (hn : ¬ S j) : W'.there j o m :=
  fun i hi => by rw [hk.cell (a := ⟨j, o + i, none⟩) hj hn, hk.frozen (a := ⟨j, o + i, none⟩) hj hn]; exact h i hi
theorem wp_build_to {op : Oper} {a : Act} {w : World} {K : Act → World → Prop} {Q : Exit → Act → World → Prop} (t : TypeId) (parts : Array (Nat × Operand)) (ho : op.op = .build t parts) (cells : Array Value)
    (hf : Tryz.prog.built t (parts.map fun (i, x) => (i, a.eval x)).toList = some cells) (h : K (a.put op.dst (.agg cells)) w) : op.wp Tryz.prog a w K Q := by
  unfold Oper.wp execOp
  simp only [ho, Sem.run_bind, run_build w t _ cells hf, Result.andThen_ok]
  exact h
end Go.Proofs.YteglimjonofdeaaGreatDoor
