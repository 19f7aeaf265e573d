import Derived.WalkKit
import Derived.Test.YteglimjonofdeaaGreatDoorOOpenM
import Derived.Test.YteglimjonofdeaaGreatDoorCards
import Derived.Test.YteglimjonofdeaaGreatDoorTie
import Derived.Test.YteglimjonofdeaaGreatDoorCPrefix
import Derived.ProofKit
import Derived.OpenShut
import Derived.Deep.DeepHandedRow
import Derived.Lib.LaidTab
import Derived.SizedLaws
import Derived.LaidHandle
import Derived.Carry
import Derived.Deep.DeepWitnessRowRef
set_option linter.unusedVariables false
namespace Go.Proofs.YteglimjonofdeaaGreatDoor
open Go.RowKit
/-- The numbers of SHA-256's rounds. -/
def roundsK : List Int := [1116352408, 1899447441, 3049323471, 3921009573, 961987163, 1508970993, 2453635748, 2870763221, 3624381080, 310598401, 607225278, 1426881987, 1925078388, 2162078206, 2614888103, 3248222580, 3835390401, 4022224774, 264347078, 604807628, 770255983, 1249150122, 1555081692, 1996064986, 2554220882, 2821834349, 2952996808, 3210313671, 3336571891, 3584528711, 113926993, 338241895, 666307205, 773529912, 1294757372, 1396182291, 1695183700, 1986661051, 2177026350, 2456956037, 2730485921, 2820302411, 3259730800, 3345764771, 3516065817, 3600352804, 4094571909, 275423344, 430227734, 506948616, 659060556, 883997877, 958139571, 1322822218, 1537002063, 1747873779, 1955562222, 2024104815, 2227730452, 2361852424, 2428436474, 2756734187, 3204031479, 3329325298]
theorem or_comm32 (a b : Int) : bits .or .u32 a b = bits .or .u32 b a := by
  show IntKind.u32.wrap ((BitVec.ofInt 32 a ||| BitVec.ofInt 32 b).toNat : Int) = IntKind.u32.wrap ((BitVec.ofInt 32 b ||| BitVec.ofInt 32 a).toNat : Int)
  rw [BitVec.or_comm]
end Go.Proofs.YteglimjonofdeaaGreatDoor
set_option linter.unusedVariables false
set_option linter.unusedSimpArgs false
namespace Go.Proofs.YteglimjonofdeaaGreatDoor
open Go.ChangeShapes Go.WideShapes Go.ChangeAt Go.RowKit

theorem bytesIntA : Tryz.prog.bytesOf 3 = 8 := by kernel_rfl
/-- A list of numbers as it lies. -/
theorem open_ints {H : Type} {enc : TypeId × Value → H} {W : World} {v : Value} {d : DataW H} {ps : List MemPlace} (hv : ∃ a len cap, v = .slice a len cap) (h : DataW.Trod enc Tryz.prog W 0 (fun _ => true) true 46 v d ps)
    (hw : ∀ n ∈ d.weights Tryz.prog 46, n ≤ reachBytes) :
    ∃ (a : Option Addr) (len cap : Nat) (l : List Int), v = .slice a len cap ∧ len = l.length ∧ (((∃ a cap, v = .slice a 0 cap) ∧ l = []) ∨ ∃ g off cap, v = .slice (some ⟨g, off, none⟩) l.length cap ∧ g < W.heap.size ∧ ∀ i x, l[i]? = some x → W.cell? ⟨g, off + i, none⟩ = some (.int .i64 x)) ∧ len ≤ 140737488355328 ∧ ∀ x ∈ l, -9223372036854775808 ≤ x ∧ x ≤ 9223372036854775807 := by
  obtain ⟨fuel, hf⟩ := h
  obtain ⟨ao, vlen, vcap, rfl⟩ := hv
  have hrb : reachBytes ≤ 140737488355328 := by decide
  rcases Deep.open_slice Tryz.underlying46 hf with ⟨hc, _⟩ | ⟨a, len, cap, m, n, D, Pl, hc, _, hl, hm, hmm, hx, hall⟩
  · simp [Value.cells] at hc
    obtain ⟨rfl, rfl, rfl⟩ := hc
    exact ⟨none, 0, 0, [], rfl, rfl, Or.inl ⟨⟨none, 0, rfl⟩, rfl⟩, by omega, fun o ho => by cases ho⟩
  · simp [Value.cells] at hc
    obtain ⟨rfl, rfl, rfl⟩ := hc
    simp only [Prod.mk.injEq] at hx
    obtain ⟨rfl, _⟩ := hx
    have hlm : vlen ≤ m := by rw [hmm]; simp; exact hl
    have each : ∀ i, i < vlen → ∃ k : Int, W.cell? (a.add i) = some (.int .i64 k) ∧ (-9223372036854775808 ≤ k ∧ k ≤ 9223372036854775807) := by
      intro i hi
      obtain ⟨cs', h1, h2⟩ := hall i (by omega)
      obtain ⟨k, rfl, _, hwf⟩ := DataW.trod_int Tryz.underlying3 h2
      rw [cellsIntA] at h1
      obtain ⟨_, hlen, hcell⟩ := World.cells?_some h1
      have hb := bounds_i64 hwf
      have h0 := hcell 0 (by omega)
      refine ⟨k, ?_, by omega⟩
      rw [Nat.mul_one] at h0
      have h9 : (a.add i).add 0 = a.add i := by simp [Addr.add]
      rw [h9] at h0
      rw [h0]; rfl
    obtain ⟨O, hO⟩ := Deep.choose_lt each
    have hlen : vlen * 8 ≤ reachBytes := by
      have := hw ((vlen + (m - vlen)) * 8) (by
        unfold DataW.weights
        rw [Tryz.underlying46]
        simp only [List.mem_cons, List.length_map, List.length_range, bytesIntA, true_or])
      have h1 : vlen * 8 ≤ (vlen + (m - vlen)) * 8 := Nat.mul_le_mul_right _ (by omega)
      omega
    refine ⟨_, vlen, vcap, (List.range vlen).map O, rfl, by simp, ?_, by omega, ?_⟩
    · by_cases h0 : vlen = 0
      · subst h0
        exact Or.inl ⟨⟨_, _, rfl⟩, rfl⟩
      · have hsp : a.spot = none := by
          have := (hO 0 (by omega)).1
          simp [Addr.add] at this
          exact World.cell?_spot this
        obtain ⟨g, off, sp⟩ := a
        simp only at hsp
        subst hsp
        refine Or.inr ⟨g, off, vcap, by simp, ?_, fun i x hx => ?_⟩
        · have := (hO 0 (by omega)).1
          rw [Addr.add_lit] at this
          exact World.block_lt_of_cell? W _ this
        · have hi : i < vlen := by have := (List.getElem?_eq_some_iff.1 hx).1; simpa using this
          rw [List.getElem?_map, List.getElem?_range hi] at hx
          simp at hx
          subst hx
          have := (hO i hi).1
          rw [Addr.add_lit] at this
          exact this
    · intro o ho
      obtain ⟨i, hi, rfl⟩ := List.mem_map.1 ho
      exact (hO i (List.mem_range.1 hi)).2
end Go.Proofs.YteglimjonofdeaaGreatDoor
set_option linter.unusedVariables false
set_option linter.unusedSimpArgs false
namespace Go.Proofs.YteglimjonofdeaaGreatDoor
open Go.ChangeShapes Go.WideShapes Go.ChangeAt Go.RowKit

theorem own : ownKnob Tryz.prog.godebug = none := by kernel_rfl
theorem laidOut : laidOutB Tryz.prog = true := by kernel_rfl
theorem gRounds : Tryz.prog.globalNamed "auditbook/hash.rounds" = some 1 := by kernel_rfl
theorem gRoundsType : (Tryz.prog.globals[1]?).map (·.type) = some 230 := by kernel_rfl
theorem cells64 : Tryz.prog.cellsOf 230 = 64 := by kernel_rfl
theorem cells32 : Tryz.prog.cellsOf 158 = 1 := by kernel_rfl

/-- What the row's list gives: the table's cells. -/
theorem laid_parts {W : World} (h : laidMetH Tryz.prog Rows.prefixRow.laid W) : ∀ j, j < 64 → W.cell? ⟨1, j, none⟩ = some (.int .u32 (roundsK.getD j 0)) := by
  have h' : laidMet Tryz.prog [("auditbook/hash.rounds", Rows.laid_auditbook_hash_rounds)] W := h
  intro j hj
  have ht : Lib.TabIs Tryz.prog W "auditbook/hash.rounds" .u32 roundsK := Lib.tabIs_of_head (rest := []) gRounds gRoundsType Tryz.underlying230 Tryz.underlying158 cells32 cells64 h'
  exact ht.cell gRounds j (by show j < 64; exact hj)

theorem heap_of_cell {W : World} {b o : Nat} {v : Value} (h : W.cell? ⟨b, o, none⟩ = some v) : b < W.heap.size := by
  rcases Nat.lt_or_ge b W.heap.size with h1 | h1
  · exact h1
  · simp [World.cell?, Array.getElem?_eq_none h1] at h

theorem rounds_tab : roundsK = castL tabN := by decide +kernel
set_option maxRecDepth 100000 in
/-- The law, for every argument and every world that holds the table. -/
theorem contract (H : Type) (enc : TypeId × Value → H) (W : World) (base : Nat) (args : Array Value) (ds gs : List (DataW H)) (before : List MemPlace)
    (hval : ∀ (j : Nat) t v, Tryz.f4.params[j]? = some t → args[j]? = some v → Value.okWide Tryz.prog W .any base t v)
    (hW : DataW.Whole enc Tryz.prog Tryz.f4.params.toList Rows.prefixSpec.vars false W args.toList ds gs before) (hsz0 : (DataW.weightsEach Tryz.prog (Tryz.f4.params.toList ++ (OpenSpec.ofChange Rows.prefixSpec).bare.plain.varTypes Tryz.prog) (ds ++ gs)).all (· ≤ reachBytes) = true) (hL : laidMetH Tryz.prog Rows.prefixRow.laid W) :
    Calls Tryz.prog 4 args W fun e W' => ∃ v, e = .returned v ∧ Rows.prefixSpec.post enc Tryz.prog Tryz.f4 false true false false W args v W' := by
  have hW' := hW
  obtain ⟨p, q, hA0, hV, rfl, hfz, hnd⟩ := hW
  have hA : DataW.TrodAll enc Tryz.prog W 0 (fun _ => true) true Tryz.f4.params.toList args.toList ds p := hA0
  rw [Tryz.params4] at hA hval
  obtain ⟨v0, v1, d0, d1, p0, p1, rfl, rfl, rfl, h0, h1⟩ := trodAll_two hA
  obtain ⟨rfl, rfl⟩ := trodVars_none hV
  clear hA0
  have hval0 : Value.okWide Tryz.prog W .any base 22 v0 := hval 0 _ _ (by rfl) (by rfl)
  have hval1 : Value.okWide Tryz.prog W .any base 46 v1 := hval 1 _ _ (by rfl) (by rfl)
  have hv0 := okWide_slice Tryz.underlying22 hval0
  have hv1 := okWide_slice Tryz.underlying46 hval1
  have hwt : ∀ n ∈ d0.weights Tryz.prog 22, n ≤ reachBytes := fun n hn => by
    have := List.all_eq_true.1 hsz0 _ (DataW.weights_mem_each (j := 0) (t := 22) (d := d0) (by rw [Tryz.params4]; rfl) rfl n hn)
    simpa using this
  have hwt1 : ∀ n ∈ d1.weights Tryz.prog 46, n ≤ reachBytes := fun n hn => by
    have := List.all_eq_true.1 hsz0 _ (DataW.weights_mem_each (j := 1) (t := 46) (d := d1) (by rw [Tryz.params4]; rfl) rfl n hn)
    simpa using this
  obtain ⟨l, hO, hn, hok⟩ := open_asks hv0 h0 hwt
  obtain ⟨ha, hn1, hcap, ns, rfl, hlen, hHow, hnl, hns⟩ := open_ints hv1 h1 hwt1
  have hK := laid_parts hL
  have hgK := heap_of_cell (hK 0 (by omega))
  have hlt : ∀ x ∈ p0 ++ p1, x.block < W.heap.size := fun x hx => by simpa using hW'.lt x (by simpa using hx)
  refine (prefix_any (fun j => roundsK.getD j 0) v0 l ha hn1 hcap ns W hO hn hok hHow hlen hns hnl ⟨by omega, hK⟩ (fun j _ => by rw [rounds_tab]; exact castL_get tabN j)).mono fun e W' ⟨he, hB⟩ => ?_
  subst he
  simp only [List.append_nil] at hW'
  have e1 : Rows.prefixSpec.fn H ([d0, d1] ++ []) = { results := [.lit (.bool true)], args := [d0, d1] } := by simp [Rows.prefixSpec]
  refine ⟨_, rfl, _, _, _, [], p0 ++ p1, [], hW', ?_, ?_, ?_, hB.frame _, fun h => by cases h⟩
  · rw [e1]; exact trodAll_mk1 (shut_bool Tryz.underlying4 true)
  · rw [e1]; exact trodAll_mk2 (Below.trod laidOut (by kernel_rfl) (of_decide_eq_true (by kernel_rfl)) h0 hB (fun x hx => hlt x (List.mem_append.2 (Or.inl hx)))) (Below.trod laidOut (by kernel_rfl) (of_decide_eq_true (by kernel_rfl)) h1 hB (fun x hx => hlt x (List.mem_append.2 (Or.inr hx))))
  · rw [e1]; rfl
end Go.Proofs.YteglimjonofdeaaGreatDoor
set_option linter.unusedVariables false
set_option linter.unusedSimpArgs false
namespace Go.Proofs.YteglimjonofdeaaGreatDoor
open Go.ChangeShapes Go.WideShapes Go.ChangeAt Go.RowKit

def layRounds : Obj → Obj
  | .cells _ t frozen => .cells (roundsK.map (Value.int .u32)).toArray t frozen
  | o => o
set_option maxRecDepth 100000 in
theorem laid_met (os : Os) : laidMetH Tryz.prog Rows.prefixRow.laid (({ World.holding Tryz.prog os ⟨#[], #[], []⟩ with heap := (World.holding Tryz.prog os ⟨#[], #[], []⟩).heap.modify 1 layRounds } : World).forCall (fun _ _ => 0) ⟨#[], #[.slice none 0 0, .slice none 0 0], []⟩).memory :=
  (laidMet_of_run' 8 (by kernel_rfl) (by kernel_rfl) : laidMet Tryz.prog [("auditbook/hash.rounds", Rows.laid_auditbook_hash_rounds)] _)
theorem reads (os : Os) {H : Type} (enc : TypeId × Value → H) : ∃ places, DataW.whole enc Tryz.prog (({ World.holding Tryz.prog os ⟨#[], #[], []⟩ with heap := (World.holding Tryz.prog os ⟨#[], #[], []⟩).heap.modify 1 layRounds } : World).forCall (fun _ _ => 0) ⟨#[], #[.slice none 0 0, .slice none 0 0], []⟩).memory Tryz.f4.params.toList Rows.prefixSpec.vars false #[Value.slice none 0 0, .slice none 0 0].toList 8 = some ([.nil, .nil], [], places) :=
  ⟨[], by kernel_rfl⟩

set_option maxRecDepth 100000 in
theorem lifted (os : Os) (started : os.Started) (H : Type) (enc : TypeId × Value → H) (F : Stop.Interp) :
    ReturnsInHanded {} Tryz.checked os 4 .any ((OpenSpec.ofChange Rows.prefixSpec).preRow enc Tryz.prog Tryz.f4 Rows.prefixRow.domain false Rows.prefixRow.laid) (((OpenSpec.ofChange Rows.prefixSpec).at F).post enc Tryz.prog Tryz.f4 false true false false) := by
  obtain ⟨places, hx⟩ := reads os enc
  refine returnsInHanded_of_row (C := Tryz.checked) (s := OpenSpec.ofChange Rows.prefixSpec) own started (by kernel_rfl) Tryz.func4
    (witness_row_at (enc := enc) (C := Tryz.checked) false ({ World.holding Tryz.prog os ⟨#[], #[], []⟩ with heap := (World.holding Tryz.prog os ⟨#[], #[], []⟩).heap.modify 1 layRounds } : World) #[.slice none 0 0, .slice none 0 0] rfl (by kernel_rfl) (by kernel_rfl) (by kernel_rfl)
      (OpenSpec.preRow_of_cond 8 hx (by kernel_rfl) (fun k hk => by cases hk) (by kernel_rfl) (laid_met os))) ?_
  intro W base args ds gs before hval hW _ _ hsz hL _ _
  exact contract H enc W base args ds gs before hval hW hsz hL

theorem andB {a b : Bool} (h1 : a = true) (h2 : b = true) : (a && b) = true := by rw [h1, h2]; rfl
set_option maxRecDepth 100000 in
set_option maxHeartbeats 8000000 in
theorem closedF : joinedFacts Tryz.pinned.checked.prog 4 Tryz.f4 (OpenSpec.ofChange Rows.prefixSpec).bare Rows.prefixRow = true := by
  unfold joinedFacts
  repeat (refine andB ?_ ?_)
  all_goals (as_aux_lemma => kernel_rfl)
theorem said : Rows.PrefixSaid :=
  OpenClaim.holds_of_cond 4 Tryz.f4 rfl rfl rfl rfl rfl rfl rfl ⟨rfl, rfl, rfl, rfl, rfl⟩ rfl rfl rfl rfl rfl (by kernel_rfl) Tryz.func4 closedF
    (of_decide_eq_true (by as_aux_lemma => kernel_rfl)) (by unfold Func.isWrapper; first | (rw [if_pos (by decide +kernel)]; kernel_rfl) | (rw [if_neg (by decide +kernel)]; exact ⟨rfl, rfl⟩))
    (fun os started H enc _ F => by rw [OpenClaim.pre_eq_preRow]; exact lifted os started H enc F)

/-- No parameter wants a stand-in. -/
theorem plain (f : FuncId) (fn : Func) (hf : Tryz.pinned.checked.prog.funcNamed "auditbook/auditbookkeep.Prefix" = some f) (hfn : Tryz.pinned.checked.prog.funcs[f]? = some fn) :
    true = Tryz.pinned.checked.prog.looks [] ∧ ∀ (j : Nat) t, fn.params[j]? = some t → Tryz.pinned.checked.prog.wantsStandIn t = false := by
  obtain rfl : f = 4 := Option.some.inj ((show Tryz.prog.funcNamed "auditbook/auditbookkeep.Prefix" = some 4 by kernel_rfl).symm.trans hf) |>.symm
  obtain rfl : fn = Tryz.f4 := (Option.some.inj (Tryz.func4.symm.trans hfn)).symm
  refine ⟨by kernel_rfl, fun j t ht => ?_⟩
  rw [Tryz.params4] at ht
  have hm : t = 22 ∨ t = 46 := by have := Array.mem_of_getElem? ht; simpa using this
  rcases hm with rfl | rfl
  · exact (show Tryz.prog.wantsStandIn 22 = false by kernel_rfl)
  · exact (show Tryz.prog.wantsStandIn 46 = false by kernel_rfl)

theorem prefix_card : Rows.PrefixCardSaid :=
  Claim7.holds_tied_plain_at .later [] _ _ _ _ said (fun _ h => by cases h) (by kernel_rfl) (fun _ h => by cases h) prefix_row_tie rfl ⟨rfl, rfl⟩ (by kernel_rfl) rfl plain (by kernel_rfl)
end Go.Proofs.YteglimjonofdeaaGreatDoor
