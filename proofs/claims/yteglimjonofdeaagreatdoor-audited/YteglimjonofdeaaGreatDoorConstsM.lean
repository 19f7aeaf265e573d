import Derived.WalkKit
import Derived.Test.YteglimjonofdeaaGreatDoorProg
import Derived.Deep.QuietTactic
import Derived.BigQuiet
import Derived.Deep.MidRow
import Derived.Deep.RegionHeld
import Derived.Laws.ResultCell
import Derived.Lib.BufferWrite
import Derived.Lib.SlBuf
import Derived.Deep.RegionHeld3
import Derived.Deep.DeepCutAuto
set_option linter.unusedVariables false
set_option linter.unusedSimpArgs false
namespace Go.Proofs.YteglimjonofdeaaGreatDoor
open Go.RowKit
/-- The numbers of SHA-256's rounds. -/
def roundsK : List Int := [1116352408, 1899447441, 3049323471, 3921009573, 961987163, 1508970993, 2453635748, 2870763221, 3624381080, 310598401, 607225278, 1426881987, 1925078388, 2162078206, 2614888103, 3248222580, 3835390401, 4022224774, 264347078, 604807628, 770255983, 1249150122, 1555081692, 1996064986, 2554220882, 2821834349, 2952996808, 3210313671, 3336571891, 3584528711, 113926993, 338241895, 666307205, 773529912, 1294757372, 1396182291, 1695183700, 1986661051, 2177026350, 2456956037, 2730485921, 2820302411, 3259730800, 3345764771, 3516065817, 3600352804, 4094571909, 275423344, 430227734, 506948616, 659060556, 883997877, 958139571, 1322822218, 1537002063, 1747873779, 1955562222, 2024104815, 2227730452, 2361852424, 2428436474, 2756734187, 3204031479, 3329325298]
theorem or_comm32 (a b : Int) : bits .or .u32 a b = bits .or .u32 b a := by
  show IntKind.u32.wrap ((BitVec.ofInt 32 a ||| BitVec.ofInt 32 b).toNat : Int) = IntKind.u32.wrap ((BitVec.ofInt 32 b ||| BitVec.ofInt 32 a).toNat : Int)
  rw [BitVec.or_comm]
theorem qA {α : Type _} {l : List α} {i : Nat} (h : i < l.toArray.size) : l.toArray[i]'h = l[i]'(by simpa using h) := rfl
theorem qB {α : Type _} {a : α} {l : List α} {h : 0 < (a :: l).length} : (a :: l)[0]'h = a := rfl
theorem qC {α : Type _} {a : α} {l : List α} {i : Nat} {h : i + 1 < (a :: l).length} : (a :: l)[i + 1]'h = l[i]'(Nat.lt_of_succ_lt_succ h) := rfl
theorem qD {α : Type _} {l : List α} {i : Nat} {a : α} : l.toArray.setIfInBounds i a = (l.set i a).toArray := by simp
theorem qE {α : Type _} {l : List α} {x a : α} : (x :: l).set 0 a = a :: l := rfl
theorem qF {α : Type _} {l : List α} {x a : α} {n : Nat} : (x :: l).set (n + 1) a = x :: l.set n a := rfl
/-- Turned to the left by s bits, as the program reckons it. -/
def rotI (x s : Int) : Int := bits .or .u32 (x * 2 ^ s.toNat % 4294967296) (x / 2 ^ (32 - s).toNat)
/-- Four bytes as a number. -/
def readI (x0 x1 x2 x3 : Int) : Int :=
  bits .or .u32 (bits .or .u32 (bits .or .u32 (x0 % 4294967296 * 16777216 % 4294967296) (x1 % 4294967296 * 65536 % 4294967296)) (x2 % 4294967296 * 256 % 4294967296)) (x3 % 4294967296)
/-- Three turns to the left, laid over one another. -/
def turnI (x i j k : Int) : Int := bits .xor .u32 (bits .xor .u32 (rotI x i) (rotI x j)) (rotI x k)
/-- A number's four bytes. -/
def fourN (n : Int) : List Int := [n / 16777216 % 256, n / 65536 % 256, n / 256 % 256, n % 256]
def bytesV (l : List Int) : List Value := l.map (Value.int .u8)
def fourI (n : Int) : List Value := bytesV (fourN n)
theorem fourI_one (n : Int) : ∀ u ∈ fourI n, u.oneCell' = true := by
  intro u hu; simp [fourI, bytesV, fourN] at hu; rcases hu with rfl | rfl | rfl | rfl <;> rfl
theorem bytesV_append (a b : List Int) : bytesV (a ++ b) = bytesV a ++ bytesV b := List.map_append
theorem bytesV_length (a : List Int) : (bytesV a).length = a.length := List.length_map _
theorem bytesV_one (a : List Int) : ∀ u ∈ bytesV a, u.oneCell' = true := by
  intro u hu; simp [bytesV] at hu; obtain ⟨x, _, rfl⟩ := hu; rfl
theorem ret_int {k : IntKind} {a b : Int} (h : a = b) : Ending.returned (.int k a) = .returned (.int k b) := by rw [h]
theorem ret_bool {a b : Bool} (h : a = b) : Ending.returned (.bool a) = .returned (.bool b) := by rw [h]
theorem s6 : bits .and .u64 (IntKind.u64.wrap (-6)) 31 = 26 := by decide +kernel
theorem s11 : bits .and .u64 (IntKind.u64.wrap (-11)) 31 = 21 := by decide +kernel
theorem s25 : bits .and .u64 (IntKind.u64.wrap (-25)) 31 = 7 := by decide +kernel
theorem s2 : bits .and .u64 (IntKind.u64.wrap (-2)) 31 = 30 := by decide +kernel
theorem s13 : bits .and .u64 (IntKind.u64.wrap (-13)) 31 = 19 := by decide +kernel
theorem s22 : bits .and .u64 (IntKind.u64.wrap (-22)) 31 = 10 := by decide +kernel
theorem s7 : bits .and .u64 (IntKind.u64.wrap (-7)) 31 = 25 := by decide +kernel
theorem s18 : bits .and .u64 (IntKind.u64.wrap (-18)) 31 = 14 := by decide +kernel
theorem s17 : bits .and .u64 (IntKind.u64.wrap (-17)) 31 = 15 := by decide +kernel
theorem s19 : bits .and .u64 (IntKind.u64.wrap (-19)) 31 = 13 := by decide +kernel
set_option maxHeartbeats 400000 in
theorem rot_any (x k s : Int) (w : World) (hs : bits .and .u64 (IntKind.u64.wrap k) 31 = s) (h0 : 0 ≤ s) (h1 : s ≤ 31) :
    Calls Tryz.prog 168 #[.int .u32 x, .int .i64 k] w fun e w' => e = .returned (.int .u32 (rotI x s)) ∧ w' = w := by
  go_enter Tryz.func168, Tryz.ntmps168
  go_wp2
  go_ret
  exact ⟨rfl, rfl⟩

set_option maxHeartbeats 400000 in
theorem within_any (n lo hi : Int) (w : World) :
    Calls Tryz.prog 139 #[.int .i64 n, .int .i64 lo, .int .i64 hi] w fun e w' => e = .returned (.bool (decide (lo ≤ n) && decide (n ≤ hi))) ∧ w' = w := by
  go_enter Tryz.func139, Tryz.ntmps139
  go_wp2
  all_goals go_ret
  all_goals exact ⟨by first | (simp [*]; done) | (simp; omega), rfl⟩

set_option maxHeartbeats 400000 in
theorem read_any (b o n cap : Nat) (x0 x1 x2 x3 : Int) (w : World) (_hn : 4 ≤ n) (hb : (4:Int) ≤ n) (h1 : w.cell? ⟨b, o, none⟩ = some (.int .u8 x0)) (h2 : w.cell? ⟨b, o + 1, none⟩ = some (.int .u8 x1)) (h3 : w.cell? ⟨b, o + 2, none⟩ = some (.int .u8 x2)) (h4 : w.cell? ⟨b, o + 3, none⟩ = some (.int .u8 x3)) :
    Calls Tryz.prog 124 #[.slice (some ⟨b, o, none⟩) n cap] w fun e w' => e = .returned (.int .u32 (readI x0 x1 x2 x3)) ∧ ∃ m, w' = w.drewN m := by
  go_enter Tryz.func124, Tryz.ntmps124
  go_wp2
  go_quiet (fail)
  go_wp2
  go_ret
  exact ⟨rfl, _, rfl⟩

set_option maxHeartbeats 400000 in
theorem turns_a (x : Int) (w : World) :
    Calls Tryz.prog 137 #[.int .u32 x, .int .i64 6, .int .i64 11, .int .i64 25] w fun e w' => e = .returned (.int .u32 (turnI x 26 21 7)) ∧ w' = w := by
  go_enter Tryz.func137, Tryz.ntmps137
  go_wp2_with fail
  refine (rot_any _ _ _ _ s6 (by omega) (by omega)).mono ?_
  rintro e w' ⟨rfl, rfl⟩
  go_wp2_with fail
  refine (rot_any _ _ _ _ s11 (by omega) (by omega)).mono ?_
  rintro e w' ⟨rfl, rfl⟩
  go_wp2_with fail
  refine (rot_any _ _ _ _ s25 (by omega) (by omega)).mono ?_
  rintro e w' ⟨rfl, rfl⟩
  go_wp2
  go_ret
  exact ⟨rfl, rfl⟩

set_option maxHeartbeats 400000 in
theorem turns_b (x : Int) (w : World) :
    Calls Tryz.prog 137 #[.int .u32 x, .int .i64 2, .int .i64 13, .int .i64 22] w fun e w' => e = .returned (.int .u32 (turnI x 30 19 10)) ∧ w' = w := by
  go_enter Tryz.func137, Tryz.ntmps137
  go_wp2_with fail
  refine (rot_any _ _ _ _ s2 (by omega) (by omega)).mono ?_
  rintro e w' ⟨rfl, rfl⟩
  go_wp2_with fail
  refine (rot_any _ _ _ _ s13 (by omega) (by omega)).mono ?_
  rintro e w' ⟨rfl, rfl⟩
  go_wp2_with fail
  refine (rot_any _ _ _ _ s22 (by omega) (by omega)).mono ?_
  rintro e w' ⟨rfl, rfl⟩
  go_wp2
  go_ret
  exact ⟨rfl, rfl⟩

theorem new_cells (w : World) (l : List Value) (t : TypeId) : ∀ j u, l[j]? = some u → (w.alloc (.cells l.toArray t)).cell? ((⟨w.heap.size, 0, none⟩ : Addr).add j) = some u := by
  intro j u hj
  rw [Addr.add_mid, World.cell?_alloc_at _ _ _ _ rfl]
  simpa using hj
theorem info5 : (Tryz.prog.info? 5).map (fun i => (i.zero, i.size, i.bytes)) = some (some (.int .u8 0), 1, 1) := by kernel_rfl

set_option maxHeartbeats 400000 in
theorem append_any (base n : Nat) (xs : List Value) (v : Value) (x : Int) (w : World) (hown : w.ownsRow base 5 1 v n xs) (hn : n ≤ 1000) (hb : base ≤ w.heap.size) :
    Calls Tryz.prog 138 #[v, .int .u32 x] w fun e w' => ∃ v', e = .returned v' ∧ w'.ownsRow base 5 1 v' (n + 4) (xs ++ fourI x) ∧ Below base w w' := by
  obtain ⟨i0, hi, hz0, hz1, hz2⟩ := info_parts info5
  go_enter Tryz.func138, Tryz.ntmps138
  go_wp2_with (at_builtin; refine wpList_append_own _ rfl _ _ 85 rfl base 5 i0 (.int .u8 0) 1 1 Tryz.underlying85 hi hz0 hz1 hz2 rfl (by decide) _ _ _ rfl (hown.alloc _) ⟨w.heap.size, 0, none⟩ 4 4 (fourI x) rfl rfl ?c1 (fourI_one x) ?c3 ?c4 ?c5 ?_)
  case c1 =>
    intro j u hj
    exact new_cells w (fourI x) _ j u hj
  case c3 => unfold maxLen; omega
  case c4 => omega
  case c5 => simp; omega
  intro v' w1 hown' hgrow _
  go_wp2
  go_ret
  exact ⟨v', rfl, hown', ((Below.refl _ _).alloc hb _).grown hgrow (by simp; omega) (fun k hk => (hown.lt k hk).1)⟩
/-- An event's cells: six numbers, and the digest. -/
def evCells (c n o p v k : Int) (d : List Value) : List Value := .int .i64 c :: .int .i64 n :: .int .i64 o :: .int .i64 p :: .int .i64 v :: .int .i64 k :: d
def inB (n lo hi : Int) : Bool := decide (lo ≤ n) && decide (n ≤ hi)
def wholeB (c n o p v k : Int) : Bool := inB c 1 9 && (inB n 1 2147483647 && (inB o 1 5 && (inB p 1 99 && (inB v 0 8 && inB k 0 5))))


section
variable (c n o p v k : Int) (d : List Value)
theorem ev0 : (evCells c n o p v k d)[0]? = some (.int .i64 c) := rfl
theorem ev1 : (evCells c n o p v k d)[1]? = some (.int .i64 n) := rfl
theorem ev2 : (evCells c n o p v k d)[2]? = some (.int .i64 o) := rfl
theorem ev3 : (evCells c n o p v k d)[3]? = some (.int .i64 p) := rfl
theorem ev4 : (evCells c n o p v k d)[4]? = some (.int .i64 v) := rfl
theorem ev5 : (evCells c n o p v k d)[5]? = some (.int .i64 k) := rfl
end

set_option maxHeartbeats 1000000 in
theorem whole_any (c n o p v k : Int) (d : List Value) (w : World) :
    Calls Tryz.prog 94 #[.agg (evCells c n o p v k d).toArray] w fun e w' => e = .returned (.bool (wholeB c n o p v k)) ∧ w' = w.alloc (.cells (evCells c n o p v k d).toArray 144) := by
  have h0 := ev0 c n o p v k d
  have h1 := ev1 c n o p v k d
  have h2 := ev2 c n o p v k d
  have h3 := ev3 c n o p v k d
  have h4 := ev4 c n o p v k d
  have h5 := ev5 c n o p v k d
  go_enter Tryz.func94, Tryz.ntmps94
  go_wp2_with (go_at_call 139; refine (within_any _ _ _ _).mono ?_; rintro e w' ⟨rfl, rfl⟩)
  all_goals go_ret
  all_goals exact ⟨ret_bool (by rw [Bool.eq_iff_iff]; simp [wholeB, inB]; omega), rfl⟩

theorem make8 (w : World) : (Instr.makeSlice 85 (.int .i64 0) (.int .i64 8)).run Tryz.prog w = .ok (.slice (some ⟨w.heap.size, 0, none⟩) 0 8) (w.alloc (.cells (Array.replicate 8 (.int .u8 0)) 5)) := by kernel_rfl

set_option maxRecDepth 10000 in
set_option maxHeartbeats 400000 in
theorem bitCount_any (x : Int) (w : World) (h0 : 0 ≤ x) (h1 : x ≤ 281474976710656) :
    Calls Tryz.prog 135 #[.int .u64 x] w fun e w' => ∃ v', e = .returned v' ∧ w'.ownsRow w.heap.size 5 1 v' 8 (fourI (x * 8 / 4294967296) ++ fourI (x * 8 % 4294967296)) ∧ Below w.heap.size w w' := by
  have hmk := make8
  go_enter Tryz.func135, Tryz.ntmps135
  go_wp2_with fail
  refine (append_any w.heap.size 0 [] _ _ _ (World.ownsRow_made w (Array.replicate 8 (.int .u8 0)) 8 (Nat.le_refl _) (by unfold maxLen; omega) (by simp)) (by omega) (by simp)).mono ?_
  rintro e w1 ⟨v1, rfl, ho1, hb1⟩
  have hz1 := hb1.size
  simp at hz1
  go_wp2_with fail
  refine (append_any w.heap.size 4 _ v1 _ _ ho1 (by omega) (by omega)).mono ?_
  rintro e w2 ⟨v2, rfl, ho2, hb2⟩
  go_wp2
  go_ret
  exact ⟨v2, rfl, ho2, ((Below.refl _ _).alloc (Nat.le_refl _) _).trans (hb1.trans hb2)⟩
theorem tq {P : Program} {md : Region.Mode} {ops : Array Oper} {Q : Exit → Act → World → Prop} {S : World → Prop} {i : Nat} {oi : Oper} {v : Value} {fuel : Nat} {listed : Array Bool} {a : Act} {w : World} (hi : ops[i]? = some oi) (hS : S w) (hy : ∀ W, S W → (execOp a.eval oi).run P W = .ok (.value v) W) (h : wpAnyH P md ops Q S fuel (listed.setIfInBounds i true) (a.put oi.dst v) w)
    (hs : Region.noSelect ops = true := by kernel_rfl) (hf : Region.free md ops listed i = true := by kernel_rfl) (hr : (Region.ready md ops listed).contains i = true := by kernel_rfl)
    (hQ : ∀ c a w, Q (.panic c) (a.put oi.dst v) w → Q (.panic c) a w := by exact fun _ _ _ h => h) (hw : Region.wanted oi (yielded ops a.tmps) = true := by rfl) : wpAnyH P md ops Q S (fuel + 1) listed a w :=
  wpAnyH_take hi hs hf hr hQ (Or.inl ⟨hw, hy⟩) hS h
theorem tk {P : Program} {md : Region.Mode} {ops : Array Oper} {Q : Exit → Act → World → Prop} {S : World → Prop} {oi : Oper} {v : Value} {fuel : Nat} {listed listed' : Array Bool} {a a' : Act} {w : World} (i : Nat) (hS : S w) (h : wpAnyH P md ops Q S fuel listed' a' w)
    (hi : ops[i]? = some oi := by exact rfl) (hy : ∀ W, S W → (execOp a.eval oi).run P W = .ok (.value v) W := by intro W hSW; clear hSW; go_simp; try with_reducible rfl)
    (ha : a.put oi.dst v = a' := by (try simp only [qA, qB, qC, Act.put, qD, qE, qF]); exact rfl) (hl : listed.setIfInBounds i true = listed' := by (try simp only [qD, qE, qF]); exact rfl)
    (hs : Region.noSelect ops = true := by kernel_rfl) (hf : Region.free md ops listed i = true := by kernel_rfl) (hr : (Region.ready md ops listed).contains i = true := by kernel_rfl)
    (hQ : ∀ c a w, Q (.panic c) (a.put oi.dst v) w → Q (.panic c) a w := by exact fun _ _ _ h => h) (hw : Region.wanted oi (yielded ops a.tmps) = true := by rfl) : wpAnyH P md ops Q S (fuel + 1) listed a w :=
  wpAnyH_take hi hs hf hr hQ (Or.inl ⟨hw, hy⟩) hS (by rw [ha, hl]; exact h)
theorem rk {P : Program} {md : Region.Mode} {ops : Array Oper} {Q : Exit → Act → World → Prop} {S : World → Prop} {o : Oper} {fuel : Nat} {listed : Array Bool} {a : Act} {w : World} (i : Nat)
    (h : ∀ K' : Act → World → Prop, Shut (∀ a w, S w → (S w → wpAnyH P md ops Q S fuel (listed.setIfInBounds i true) a w) → K' a w) → Oper.wp P o a w K' Q)
    (ho : ops[i]? = some o := by exact rfl) (hr : Region.ready md ops listed = [i] := by kernel_rfl) (hw : Region.wanted o (yielded ops a.tmps) = true := by rfl) : wpAnyH P md ops Q S (fuel + 1) listed a w :=
  wpAnyH_ready hr (by simp) (AllReadyH.cons ho (fun K' hK' => by rw [if_pos hw]; exact h K' hK') AllReadyH.nil)
theorem wpList_alloc_of {P : Program} {ops : Array Oper} {rest : List Oper} {op : Oper} {a : Act} {w : World} {Q : Exit → Act → World → Prop} (hgd : op.guard = none) (ty : TypeId) (ho : op.op = .alloc ty) (Z : Array Value)
    (hz : ∀ w, (Instr.alloc ty true (.tuple #[])).run P w = .ok (.pointer (some ⟨w.heap.size, 0, none⟩)) (w.alloc (.cells Z ty)))
    (h : wpList P ops Q rest (a.put op.dst (.pointer (some ⟨w.heap.size, 0, none⟩))) (w.alloc (.cells Z ty))) : wpList P ops Q (op :: rest) a w :=
  wpList_plain hgd fun _ hK => by
    unfold Oper.wp
    simp only [execOp, ho, Sem.run_bind, hz, Result.andThen_ok, Sem.run_pure]
    exact hK _ _ h

theorem wpList_build_of {P : Program} {ops : Array Oper} {rest : List Oper} {op : Oper} {a : Act} {w : World} {Q : Exit → Act → World → Prop} (hgd : op.guard = none) (ty : TypeId) (ho : op.op = .build ty #[]) (Z : Array Value)
    (hz : ∀ w, (Instr.build ty #[]).run P w = .ok (.agg Z) w)
    (h : wpList P ops Q rest (a.put op.dst (.agg Z)) w) : wpList P ops Q (op :: rest) a w :=
  wpList_plain hgd fun _ hK => by
    unfold Oper.wp
    simp only [execOp, ho, Sem.run_bind, List.map_toArray, List.map_nil, hz, Result.andThen_ok, Sem.run_pure]
    exact hK _ _ h

theorem there_new (w : World) (Z : Array Value) (t : TypeId) : (w.alloc (.cells Z t)).there w.heap.size 0 Z.size := by
  intro j hj
  rw [World.cell?_alloc_at _ _ _ _ rfl, World.frozen?_alloc_at _ _ _ _ rfl]
  simp [hj]

theorem range_new (w : World) (cs : List Value) (t : TypeId) : (w.alloc (.cells cs.toArray t)).rangeAt w.heap.size 0 cs := by
  intro j v hv
  rw [World.cell?_alloc_at _ _ _ _ rfl]
  simpa using hv

theorem below_setCells {B b : Nat} {a : World} (hb : B ≤ b) : ∀ (vs : List Value) (o : Nat) (w : World), Below B a w → Below B a (w.setCells b o vs)
  | [], _, _, h => h
  | v :: r, o, w, h => below_setCells hb r (o + 1) _ (h.setCell (by exact hb) v)

theorem below_draws {B : Nat} {a w : World} (h : Below B a w) (n : Nat) : Below B a (w.drewN n) := h.trans ⟨rfl, rfl, rfl, Nat.le_refl _, fun _ _ => rfl⟩

/-- A store of a whole row, the world behind it a letter: what was stored lies there, may be written again; all other blocks are as they were. -/
theorem wpList_store_abs {P : Program} {ops : Array Oper} {rest : List Oper} {op : Oper} {a : Act} {w : World} {Q : Exit → Act → World → Prop} (hgd : op.guard = none) (ty : TypeId) (x y : Operand) (ho : op.op = .store ty x y)
    (b o : Nat) (cells : List Value) (hx : a.eval x = .pointer (some ⟨b, o, none⟩)) (hy : a.eval y = .agg cells.toArray)
    (ht : w.there b o cells.length) (hi : (P.info? ty).map (·.size) = some cells.length) (h1 : ∀ u ∈ cells, u.oneCell' = true)
    (h : ∀ w', w' = w.setCells b o cells → w'.rangeAt b o cells → w'.there b o cells.length → (∀ B, B ≤ b → Below B w w') → wpList P ops Q rest (a.put op.dst undef) w') : wpList P ops Q (op :: rest) a w :=
  wpList_store_mid hgd ty x y ho b o cells.toArray hx hy (by simpa using ht) (by simpa using hi) (all_oneCell_toArray h1)
    (h _ rfl (World.rangeAt_setCells_same w b o cells ht) (World.there_setCells ht _ _ _) (fun _ hB => below_setCells hB _ _ _ (Below.refl _ _)))

/-- Two results, the first a row in memory. -/
theorem ret_cell_tmp {P : Program} {fn : Func} {R : Ending → World → Prop} {a : Act} {w : World} {p u : Tmp} {ty : TypeId} (h : fn.results = #[.cell p ty, .tmp u]) (b o : Nat) (cs : List Value) (d : TypeDesc) (v : Value)
    (hp : a.tmps.getD p undef = .pointer (some ⟨b, o, none⟩)) (hu' : a.tmps.getD u undef = v) (hc : w.rangeAt b o cs) (hu : P.underlying ty = some d) (hd : d.isRow = true) (hi : (P.info? ty).map (·.size) = some cs.length)
    (hdf : a.defers = []) (hR : R (.returned (.tuple #[.agg cs.toArray, v])) w) : bodyPost P fn R .ret a w := by
  refine bodyPost_ret (v := .tuple #[.agg cs.toArray, v]) ?_ hdf hR
  rw [results_cell_tmp h, hp, hu']
  simp [asAddr, run_loadVar_mid w b o ty cs d hc hu hd hi]
/-- One result, a row in memory. -/
theorem ret_cell {P : Program} {fn : Func} {R : Ending → World → Prop} {a : Act} {w : World} {p : Tmp} {ty : TypeId} (h : fn.results = #[.cell p ty]) (b o : Nat) (cs : List Value) (d : TypeDesc)
    (hp : a.tmps.getD p undef = .pointer (some ⟨b, o, none⟩)) (hc : w.rangeAt b o cs) (hu : P.underlying ty = some d) (hd : d.isRow = true) (hi : (P.info? ty).map (·.size) = some cs.length)
    (hdf : a.defers = []) (hR : R (.returned (.agg cs.toArray)) w) : bodyPost P fn R .ret a w := by
  refine bodyPost_ret (v := .agg cs.toArray) ?_ hdf hR
  have hp' : a.tmps[p]?.getD undef = .pointer (some ⟨b, o, none⟩) := by simpa using hp
  simp only [results, h]
  simp [Sem.run_bind, hp', asAddr, run_loadVar_mid w b o ty cs d hc hu hd hi]
theorem size_byte (w : World) : (sizeOf 5).run Tryz.prog w = .ok 1 w := by kernel_rfl
theorem there_below {B b n : Nat} {w w' : World} (h : Below B w w') (hb : b < B) (ht : w.there b 0 n) : w'.there b 0 n := fun j hj => by
  rw [h.cell (p := ⟨b, 0 + j, none⟩) hb, h.frozen (p := ⟨b, 0 + j, none⟩) hb]; exact ht j hj
def bAt (s : ByteArray) (i : Nat) : Int := ((s.data.toList.getD i 0).toNat : Int)
theorem bAt_eq (s : ByteArray) (i : Nat) (h : i < s.size) : ((s[i]'h).toNat : Int) = bAt s i := by
  have h' : i < s.data.toList.length := by rw [← Lib.size_eq]; exact h
  unfold bAt
  rw [List.getD, List.getElem?_eq_getElem h']
  rfl
theorem bAt_lo (s : ByteArray) (i : Nat) : 0 ≤ bAt s i := by unfold bAt; omega
theorem bAt_hi (s : ByteArray) (i : Nat) : bAt s i ≤ 255 := by
  unfold bAt; have := (s.data.toList.getD i 0).toNat_lt; omega

/-- '[]byte(t)', the world behind it a letter. -/
theorem wp_conv_abs {op : Oper} {a : Act} {w : World} {K : Act → World → Prop} {Q : Exit → Act → World → Prop} (x : Operand) (ho : op.op = .convert 9 85 x) (t : ByteArray) (hx : a.eval x = .string t)
    (h : ∀ w' g cap, Below w.heap.size w w' → w.heap.size ≤ g → g < w'.heap.size → (∀ j, j < t.size → w'.cell? ⟨g, j, none⟩ = some (.int .u8 (bAt t j))) → K (a.put op.dst (.slice (some ⟨g, 0, none⟩) t.size cap)) w') : op.wp Tryz.prog a w K Q := by
  unfold Oper.wp
  have hr := run_bytes_of_string (P := Tryz.prog) w 9 85 5 t Tryz.underlying9 Tryz.underlying85 Tryz.underlying5
  simp only [execOp, ho, hx, Sem.run_bind, hr, Result.andThen_ok, Sem.run_pure]
  refine h _ w.heap.size _ ((Below.refl _ _).drew.alloc (Nat.le_refl _) _) (Nat.le_refl _) (by simp) ?_
  intro j hj
  have hj' : j < t.data.size := hj
  have := bytesRow_at t (grownCap w t.size 0 5) j hj'
  have e : ((t.data[j]).toNat : Int) = bAt t j := bAt_eq t j hj
  rw [e] at this
  rw [← this]
  have hh : (w.drew.alloc (.cells (bytesRow t (grownCap w t.size 0 5)) 5 ((bytesRow t (grownCap w t.size 0 5)).size, (bytesRow t (grownCap w t.size 0 5)).size + 1))).heap[w.heap.size]? = some (.cells (bytesRow t (grownCap w t.size 0 5)) 5 ((bytesRow t (grownCap w t.size 0 5)).size, (bytesRow t (grownCap w t.size 0 5)).size + 1)) := heap_alloc_new w.drew _
  exact cell_of_row _ _ _ _ _ _ hh

/-- A new variable, the world behind it a letter. -/
theorem wp_alloc_abs {op : Oper} {a : Act} {w : World} {K : Act → World → Prop} {Q : Exit → Act → World → Prop} (ty : TypeId) (ho : op.op = .alloc ty) (Z : List Value)
    (hz : ∀ w, (Instr.alloc ty true (.tuple #[])).run Tryz.prog w = .ok (.pointer (some ⟨w.heap.size, 0, none⟩)) (w.alloc (.cells Z.toArray ty)))
    (h : ∀ w' g, Below w.heap.size w w' → w.heap.size ≤ g → g < w'.heap.size → w'.there g 0 Z.length → K (a.put op.dst (.pointer (some ⟨g, 0, none⟩))) w') : op.wp Tryz.prog a w K Q := by
  unfold Oper.wp
  simp only [execOp, ho, Sem.run_bind, hz, Result.andThen_ok, Sem.run_pure]
  exact h _ w.heap.size ((Below.refl _ _).alloc (Nat.le_refl _) _) (Nat.le_refl _) (by simp) (by simpa using there_new w Z.toArray ty)


theorem wpList_wanted {P : Program} {ops : Array Oper} {Q : Exit → Act → World → Prop} {a : Act} {w : World} {rest : List Oper} {o : Oper} (hw : Region.wanted o (yielded ops a.tmps) = true)
    (h : ∀ K : Act → World → Prop, (∀ a w, wpList P ops Q rest a w → K a w) → o.wp P a w K Q) : wpList P ops Q (o :: rest) a w :=
  wpList_step fun K hK => by rw [if_pos hw]; exact h K hK
/-- A guarded load of a whole row, where the guard says yes. -/
theorem wpList_load_wanted {P : Program} {ops : Array Oper} {rest : List Oper} {op : Oper} {a : Act} {w : World} {Q : Exit → Act → World → Prop} (hw : Region.wanted op (yielded ops a.tmps) = true) (ty : TypeId) (x : Operand) (ho : op.op = .load ty x)
    (b o : Nat) (hx : a.eval x = .pointer (some ⟨b, o, none⟩)) (cs : List Value) (d : TypeDesc) (hc : w.rangeAt b o cs)
    (hu : P.underlying ty = some d) (hd : d.isRow = true) (hi : (P.info? ty).map (·.size) = some cs.length)
    (h : wpList P ops Q rest (a.put op.dst (.agg cs.toArray)) w) : wpList P ops Q (op :: rest) a w :=
  wpList_wanted hw fun _ hK => wp_load_mid ty x ho b o hx cs d hc hu hd hi (hK _ _ h)
/-- A state's eight numbers. -/
def stV (l : List Int) : List Value := l.map (Value.int .u32)
def spreadN (l : List Int) : List Int := l.flatMap fourN
theorem spreadN_length (l : List Int) : (spreadN l).length = 4 * l.length := by
  induction l with
  | nil => rfl
  | cons a l ih => simp only [spreadN, List.flatMap_cons, List.length_append, List.length_cons] at *; rw [ih]; simp [fourN]; omega
theorem index8 (a b c d e f g h : Int) (k : Nat) (hk : k < 8) (w : World) : (Instr.index 160 (.agg (stV [a, b, c, d, e, f, g, h]).toArray) (.int .i64 (k : Int))).run Tryz.prog w = .ok (.int .u32 ([a, b, c, d, e, f, g, h].getD k 0)) w := by
  obtain rfl | rfl | rfl | rfl | rfl | rfl | rfl | rfl : k = 0 ∨ k = 1 ∨ k = 2 ∨ k = 3 ∨ k = 4 ∨ k = 5 ∨ k = 6 ∨ k = 7 := by omega
  · kernel_rfl
  · kernel_rfl
  · kernel_rfl
  · kernel_rfl
  · kernel_rfl
  · kernel_rfl
  · kernel_rfl
  · kernel_rfl
theorem index_st (l : List Int) (hl : l.length = 8) (k : Nat) (hk : k < 8) (w : World) : (Instr.index 160 (.agg (stV l).toArray) (.int .i64 (k : Int))).run Tryz.prog w = .ok (.int .u32 (l.getD k 0)) w := by
  match l, hl with
  | [a, b, c, d, e, f, g, h], _ => exact index8 a b c d e f g h k hk w
theorem spread_snoc (l : List Int) (hl : l.length = 8) (k : Nat) (hk : k < 8) : spreadN (l.take (k + 1)) = spreadN (l.take k) ++ fourN (l.getD k 0) := by
  have hk' : k < l.length := by omega
  unfold spreadN
  rw [List.take_succ_eq_append_getElem hk', List.flatMap_append, List.getD, List.getElem?_eq_getElem hk']
  simp
theorem info_state : (Tryz.prog.info? 160).map (·.size) = some 8 := by kernel_rfl

theorem make32 (w : World) : (Instr.makeSlice 85 (.int .i64 0) (.int .i64 32)).run Tryz.prog w = .ok (.slice (some ⟨w.heap.size, 0, none⟩) 0 32) (w.alloc (.cells (Array.replicate 32 (.int .u8 0)) 5)) := by kernel_rfl
def z32 : List Value := bytesV (List.replicate 32 0)
theorem alloc_32 (w : World) : (Instr.alloc 104 true (.tuple #[])).run Tryz.prog w = .ok (.pointer (some ⟨w.heap.size, 0, none⟩)) (w.alloc (.cells z32.toArray 104)) := by kernel_rfl
theorem info_hash : (Tryz.prog.info? 104).map (·.size) = some 32 := by kernel_rfl

/-- An owned row that holds something, laid open. -/
theorem own_open {w : World} {base e n : Nat} {v : Value} {xs : List Value} (h : w.ownsRow base e 1 v n xs) (hn : 0 < n) : ∃ g cap, v = .slice (some ⟨g, 0, none⟩) n cap ∧ base ≤ g ∧ g < w.heap.size ∧ w.rangeAt g 0 xs := by
  rcases h.2 with ⟨_, h0⟩ | ⟨g, cap, cur, rfl, hb, hg, _⟩
  · omega
  · refine ⟨g, cap, rfl, hb, (h.lt g rfl).2, fun j u hu => ?_⟩
    have := h.cells (g := g) rfl j u hu
    rwa [Addr.add_mid] at this
theorem there_z32 (w : World) : (w.alloc (.cells z32.toArray 104)).there w.heap.size 0 32 := by
  have h := there_new w z32.toArray 104
  rwa [show z32.toArray.size = 32 by decide +kernel] at h

set_option maxRecDepth 10000 in
set_option maxHeartbeats 1000000 in
theorem spread_any (l : List Int) (hl : l.length = 8) (w : World) :
    Calls Tryz.prog 93 #[.agg (stV l).toArray] w fun en w' => en = .returned (.agg (bytesV (spreadN l)).toArray) ∧ Below w.heap.size w w' := by
  have hmk := make32
  have hi : (Tryz.prog.info? 160).map (·.size) = some (stV l).length := by rw [info_state, stV, List.length_map, hl]
  have HL : Hid (l.length = 8) := hl
  clear hl
  go_enter Tryz.func93, Tryz.ntmps93
  go_wp2_with (first | (refine wpList_alloc_of rfl 104 rfl z32.toArray alloc_32 ?_) | (refine wpList_load_mid rfl 160 _ rfl w.heap.size 0 rfl (stV l) _ (World.rangeAt_alloc (World.rangeAt_alloc (range_new _ _ _) _) _) Tryz.underlying160 rfl hi ?_))
  go_loopw [3, 9] (fun v i wr => ∃ k : Nat, k ≤ 8 ∧ i = .int .i64 k ∧ wr.ownsRow (w.heap.size + 2) 5 1 v (4 * k) (bytesV (spreadN (l.take k))) ∧ Below (w.heap.size + 2) ((w.alloc (.cells (stV l).toArray 160)).alloc (.cells z32.toArray 104)) wr) (fun _ i _ => 8 - (intOf i).toNat)
  case atStart =>
    refine ⟨0, by omega, rfl, ?_, (Below.refl _ _).alloc (by simp) _⟩
    have h := World.ownsRow_made (base := w.heap.size + 2) (e := 5) (size := 1) ((w.alloc (.cells (stV l).toArray 160)).alloc (.cells z32.toArray 104)) (Array.replicate 32 (.int .u8 0)) 32 (by simp) (by unfold maxLen; omega) (by simp)
    simpa [spreadN, bytesV] using h
  case round =>
    obtain ⟨k, hk, rfl, hown, hB⟩ := hrel
    have hz := hB.size
    simp at hz
    by_cases hlt : k < 8
    · have hix := index_st l HL.out k hlt
      go_wp2_with fail
      refine (append_any (w.heap.size + 2) (4 * k) _ _ _ _ hown (by omega) (by omega)).mono ?_
      rintro e w1 ⟨v1, rfl, ho1, hb1⟩
      clear hix
      go_wp2
      go_roundw
      case rel =>
        refine ⟨k + 1, by omega, by go_num, ?_, hB.trans hb1⟩
        rw [spread_snoc l HL.out k hlt, bytesV_append]
        rw [show 4 * (k + 1) = 4 * k + 4 by omega]
        exact ho1
      case measure => simp [intOf]; omega
    · have : k = 8 := by omega
      subst this
      have h8 : l.take 8 = l := List.take_of_length_le (by rw [HL.out]; exact Nat.le_refl _)
      rw [h8] at hown
      obtain ⟨g2, cap, rfl, hg2, hg3, hr2⟩ := own_open hown (by omega)
      have hlen : (bytesV (spreadN l)).length = 32 := by rw [bytesV_length, spreadN_length, HL.out]
      obtain ⟨wC, hwC⟩ : ∃ wC, wC = (wr.alloc (.cells z32.toArray 104)).setCells wr.heap.size 0 (bytesV (spreadN l)) := ⟨_, rfl⟩
      have htA := there_z32 wr
      have hrun : (Builtin.copy_ #[85, 85] 3 #[.slice (some ⟨wr.heap.size, 0, none⟩) 32 32, .slice (some ⟨g2, 0, none⟩) 32 cap]).run Tryz.prog (wr.alloc (.cells z32.toArray 104)) = .ok (goInt 32) wC := by
        have h := run_copy_cells (P := Tryz.prog) (wr.alloc (.cells z32.toArray 104)) 85 85 3 5 wr.heap.size 0 32 32 ⟨g2, 0, none⟩ 32 cap (bytesV (spreadN l)) Tryz.underlying85 (by kernel_rfl) (by rw [hlen]; rfl)
          (fun j v hv => by rw [Addr.add_mid]; exact World.rangeAt_alloc hr2 _ j v hv) (fun j hj => (htA j (by omega)).1) (fun j hj => (htA j (by omega)).2) (bytesV_one _)
        rw [hlen] at h
        rw [hwC]; exact h
      have hrC : wC.rangeAt wr.heap.size 0 (bytesV (spreadN l)) := by rw [hwC]; exact World.rangeAt_setCells_same _ _ _ _ (by rw [hlen]; exact htA)
      have hBC : Below (w.heap.size + 2) ((w.alloc (.cells (stV l).toArray 160)).alloc (.cells z32.toArray 104)) wC := by
        rw [hwC]; exact below_setCells (by omega) _ _ _ (hB.alloc (by omega) _)
      have hiH : (Tryz.prog.info? 104).map (·.size) = some (bytesV (spreadN l)).length := by rw [info_hash, hlen]
      have htC : wC.there (w.heap.size + 1) 0 (bytesV (spreadN l)).length := by
        rw [hlen]
        have h := there_z32 (w.alloc (.cells (stV l).toArray 160))
        rw [show (w.alloc (.cells (stV l).toArray 160)).heap.size = w.heap.size + 1 by simp] at h
        intro j hj
        rw [hBC.cell (p := ⟨w.heap.size + 1, 0 + j, none⟩) (by show w.heap.size + 1 < w.heap.size + 2; omega), hBC.frozen (p := ⟨w.heap.size + 1, 0 + j, none⟩) (by show w.heap.size + 1 < w.heap.size + 2; omega)]
        exact h j hj
      have hone := bytesV_one (spreadN l)
      clear hwC htA hr2 hown hB
      obtain ⟨L, hL⟩ : ∃ L, L = bytesV (spreadN l) := ⟨_, rfl⟩
      rw [← hL] at hrC hiH htC hone
      have HB : Hid (L = bytesV (spreadN l)) := hL
      clear hL hlen h8
      go_wp2_with (first | (refine wpList_alloc_of rfl 104 rfl z32.toArray alloc_32 ?_) | (at_builtin; refine Lib.wpList_copy_run _ rfl (.tmp 16) (.tmp 17) 85 85 rfl _ _ rfl rfl hrun ?_) | (refine wpList_load_mid rfl 104 _ rfl wr.heap.size 0 rfl L _ hrC Tryz.underlying104 rfl hiH ?_) | (refine wpList_store_abs rfl 104 _ _ rfl (w.heap.size + 1) 0 L rfl rfl htC hiH hone ?_; intro w4 _hw4 hr4 ht4 hb4; clear _hw4))
      exact ret_cell rfl (w.heap.size + 1) 0 L _ rfl hr4 Tryz.underlying104 rfl hiH rfl ⟨by rw [HB.out], (((Below.refl _ _).alloc (Nat.le_refl _) _).alloc (by simp) _).trans ((hBC.mono (by omega)).trans (hb4 _ (by omega)))⟩
end Go.Proofs.YteglimjonofdeaaGreatDoor
