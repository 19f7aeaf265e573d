import Derived.Test.YteglimjonofdeaaGreatDoorConstsM
set_option linter.unusedVariables false
set_option linter.unusedSimpArgs false
namespace Go.Proofs.YteglimjonofdeaaGreatDoor
open Go.RowKit

/-- Number i of a block: four bytes. -/
def wordI (x : Nat → Int) (i : Nat) : Int := readI (x (i * 4)) (x (i * 4 + 1)) (x (i * 4 + 2)) (x (i * 4 + 3))
/-- A later number, out of four that are there. -/
def mixI (a b far near : Int) : Int :=
  IntKind.u32.wrap (IntKind.u32.wrap (IntKind.u32.wrap (a + b) + bits .xor .u32 (bits .xor .u32 (rotI far 25) (rotI far 14)) (far / 8)) + bits .xor .u32 (bits .xor .u32 (rotI near 15) (rotI near 13)) (near / 1024))
def nextW (x : Nat → Int) (l : List Int) (k : Nat) : Int := if k < 16 then wordI x k else mixI (l.getD (k - 16) 0) (l.getD (k - 7) 0) (l.getD (k - 15) 0) (l.getD (k - 2) 0)
/-- The numbers of all rounds, the first k. -/
def wordsL (x : Nat → Int) : Nat → List Int
  | 0 => []
  | k + 1 => wordsL x k ++ [nextW x (wordsL x k) k]
theorem wordsL_length (x : Nat → Int) : ∀ k, (wordsL x k).length = k
  | 0 => rfl
  | k + 1 => by simp [wordsL, wordsL_length x k]

def z64 : List Value := (List.replicate 64 (0 : Int)).map (Value.int .u32)
theorem alloc_64 (w : World) : (Instr.alloc 230 true (.tuple #[])).run Tryz.prog w = .ok (.pointer (some ⟨w.heap.size, 0, none⟩)) (w.alloc (.cells z64.toArray 230)) := by kernel_rfl

/-- A row of numbers: block g holds f 0, .., f (n - 1), and may be written. -/
def RowU (w : World) (g n : Nat) (f : Nat → Int) : Prop := ∀ j, j < n → w.cell? ⟨g, j, none⟩ = some (.int .u32 (f j)) ∧ w.frozen? ⟨g, j, none⟩ = false
theorem RowU.set {w : World} {g n : Nat} {f f' : Nat → Int} {k : Nat} {v : Int} (h : RowU w g n f) (hk : k < n) (hv : f' k = v) (ho : ∀ j, j < n → j ≠ k → f' j = f j) : RowU (w.setCell ⟨g, k, none⟩ (.int .u32 v)) g n f' := by
  intro j hj
  rw [World.frozen?_setCell]
  refine ⟨?_, (h j hj).2⟩
  by_cases e : j = k
  · subst e
    rw [World.cell?_setCell_same _ _ _ (h j hj).1, hv]
  · rw [World.cell?_setCell_other (w := w) (a := ⟨g, k, none⟩) (b := ⟨g, j, none⟩) _ (by intro q; exact e (by simpa using (congrArg Addr.off q).symm)), ho j hj e]
    exact (h j hj).1
theorem RowU.of_new (w : World) (t : TypeId) (n : Nat) : RowU (w.alloc (.cells ((List.replicate n (0 : Int)).map (Value.int .u32)).toArray t)) w.heap.size n (fun _ => 0) := by
  intro j hj
  rw [World.cell?_alloc_at _ _ _ _ rfl, World.frozen?_alloc_at _ _ _ _ rfl]
  simp [hj]
theorem RowU.draws {w : World} {g n : Nat} {f : Nat → Int} (h : RowU w g n f) (m : Nat) : RowU (w.drewN m) g n f := h
theorem RowU.range {w : World} {g n : Nat} {f : Nat → Int} (h : RowU w g n f) (l : List Int) (hl : l.length = n) (hf : ∀ j, j < n → f j = l.getD j 0) : w.rangeAt g 0 (l.map (Value.int .u32)) := by
  intro j v hv
  have hj : j < l.length := by
    have := (List.getElem?_eq_some_iff.1 hv).1
    simpa using this
  have e : v = .int .u32 (l.getD j 0) := by
    simp [List.getElem?_eq_getElem hj] at hv
    rw [← hv]; simp [List.getD, List.getElem?_eq_getElem hj]
  rw [e, ← hf j (by omega), Nat.zero_add]
  exact (h j (by omega)).1
theorem RowU.below {w w' : World} {g n B : Nat} {f : Nat → Int} (h : RowU w g n f) (hb : Below B w w') (hg : g < B) : RowU w' g n f := fun j hj => by
  rw [hb.cell (p := ⟨g, j, none⟩) hg, hb.frozen (p := ⟨g, j, none⟩) hg]; exact h j hj

theorem below_setCells_one {B b : Nat} {a w : World} (h : Below B a w) (hb : B ≤ b) (i : Nat) (v : Value) : Below B a (w.setCell ⟨b, i, none⟩ v) := h.setCell hb v
theorem wrap_i64_small (x : Int) (h0 : 0 ≤ x) (h1 : x ≤ 4294967295) : IntKind.i64.wrap x = x := by
  simp [IntKind.wrap, IntKind.bits, IntKind.signed]; omega
theorem info_64 : (Tryz.prog.info? 230).map (·.size) = some 64 := by kernel_rfl
theorem z64_size : z64.toArray.size = 64 := by decide +kernel
theorem there_z64 (w : World) : (w.alloc (.cells z64.toArray 230)).there w.heap.size 0 64 := by
  have h := there_new w z64.toArray 230
  rwa [z64_size] at h
theorem there_old {B n : Nat} {w w' : World} (h : Below (B + 1) w w') (ht : w.there B 0 n) : w'.there B 0 n := fun j hj => by
  rw [h.cell (p := ⟨B, 0 + j, none⟩) (Nat.lt_succ_self _), h.frozen (p := ⟨B, 0 + j, none⟩) (Nat.lt_succ_self _)]; exact ht j hj
theorem row_start (w : World) (x : Nat → Int) : RowU ((w.alloc (.cells z64.toArray 230)).alloc (.cells z64.toArray 230)) (w.heap.size + 1) 64 (fun j => (wordsL x 0).getD j 0) := by
  have h := RowU.of_new (w.alloc (.cells z64.toArray 230)) 230 64
  have e : (w.alloc (.cells z64.toArray 230)).heap.size = w.heap.size + 1 := by simp
  rw [e] at h
  exact h
theorem wordsL_old (x : Nat → Int) (k j : Nat) (h : j ≠ k) : (wordsL x (k + 1)).getD j 0 = (wordsL x k).getD j 0 := by
  have hl := wordsL_length x k
  rcases Nat.lt_or_ge j k with h1 | h1
  · simp [wordsL, List.getD, List.getElem?_append, hl, h1]
  · have h2 : k + 1 ≤ j := by omega
    rw [List.getD, List.getD, List.getElem?_eq_none (by rw [wordsL_length]; exact h2), List.getElem?_eq_none (by rw [hl]; exact h1)]
theorem wordsL_new (x : Nat → Int) (k : Nat) : (wordsL x (k + 1)).getD k 0 = nextW x (wordsL x k) k := by
  simp [wordsL, List.getD, List.getElem?_append, wordsL_length]

set_option maxRecDepth 10000 in
set_option maxHeartbeats 1000000 in
theorem sched_any (b o cap : Nat) (x : Nat → Int) (w : World) (hcap : 64 ≤ cap) (hcap2 : cap ≤ 281474976710656) (hb : b < w.heap.size) (hx : ∀ j, j < 64 → w.cell? ⟨b, o + j, none⟩ = some (.int .u8 (x j))) :
    Calls Tryz.prog 136 #[.slice (some ⟨b, o, none⟩) 64 cap] w fun e w' => e = .returned (.agg ((wordsL x 64).map (Value.int .u32)).toArray) ∧ Below w.heap.size w w' := by
  have HX : Hid (∀ j, j < 64 → w.cell? ⟨b, o + j, none⟩ = some (.int .u8 (x j))) := hx
  clear hx
  go_enter Tryz.func136, Tryz.ntmps136
  go_wp2_with (first | (refine wpList_alloc_of rfl 230 rfl z64.toArray alloc_64 ?_))
  go_loopw [10] (fun i wr => ∃ k : Nat, k ≤ 16 ∧ i = .int .i64 k ∧ RowU wr (w.heap.size + 1) 64 (fun j => (wordsL x k).getD j 0) ∧ Below (w.heap.size + 1) (w.alloc (.cells z64.toArray 230)) wr) (fun i _ => 16 - (intOf i).toNat)
  case atStart => exact ⟨0, by omega, rfl, row_start w x, (Below.refl _ _).alloc (by simp) _⟩
  case round =>
    obtain ⟨k, hk, rfl, hrow, hB⟩ := hrel
    by_cases hlt : k < 16
    · have hck := (hrow k (by omega)).1
      have hfk := (hrow k (by omega)).2
      have hcl : ∀ j, j < 64 → wr.cell? ⟨b, o + j, none⟩ = some (.int .u8 (x j)) := fun j hj => by
        rw [hB.cell (p := ⟨b, o + j, none⟩) (by show b < w.heap.size + 1; omega), World.cell?_alloc_past _ _ _ hb]; exact HX.out j hj
      have hc0 := hcl (k * 4) (by omega)
      have hc1 : wr.cell? ⟨b, o + k * 4 + 1, none⟩ = some (.int .u8 (x (k * 4 + 1))) := by rw [Nat.add_assoc]; exact hcl (k * 4 + 1) (by omega)
      have hc2 : wr.cell? ⟨b, o + k * 4 + 2, none⟩ = some (.int .u8 (x (k * 4 + 2))) := by rw [Nat.add_assoc]; exact hcl (k * 4 + 2) (by omega)
      have hc3 : wr.cell? ⟨b, o + k * 4 + 3, none⟩ = some (.int .u8 (x (k * 4 + 3))) := by rw [Nat.add_assoc]; exact hcl (k * 4 + 3) (by omega)
      clear hcl
      go_wp2_with fail
      refine (read_any b (o + k * 4) (64 - k * 4) (cap - k * 4) _ _ _ _ wr (by omega) (by omega) hc0 hc1 hc2 hc3).mono ?_
      rintro e w1 ⟨rfl, m, rfl⟩
      clear hc0 hc1 hc2 hc3
      go_wp2
      go_roundw
      case rel =>
        refine ⟨k + 1, by omega, by go_num, RowU.set (hrow.draws m) (by omega) ?_ ?_, below_setCells_one (below_draws hB m) (Nat.le_refl _) _ _⟩
        · show (wordsL x (k + 1)).getD k 0 = _
          rw [wordsL_new, nextW, if_pos hlt]; rfl
        · intro j _ hj; exact wordsL_old x k j hj
      case measure => simp [intOf]; omega
    · have : k = 16 := by omega
      subst this
      go_wp2
      go_loopw [6] (fun i wr => ∃ q : Nat, q ≤ 48 ∧ i = .int .i64 ((q : Int) + 16) ∧ RowU wr (w.heap.size + 1) 64 (fun j => (wordsL x (q + 16)).getD j 0) ∧ Below (w.heap.size + 1) (w.alloc (.cells z64.toArray 230)) wr) (fun i _ => 64 - (intOf i).toNat)
      case atStart => exact ⟨0, by omega, rfl, hrow, hB⟩
      case round =>
        clear hrow hB
        obtain ⟨q, hq, rfl, hrow, hB⟩ := hrel
        by_cases hlt2 : q < 48
        · have hc2 := (hrow (q + 14) (by omega)).1
          have hc15 := (hrow (q + 1) (by omega)).1
          go_wp2_with fail
          go_quiet (fail)
          clear hc2 hc15
          go_wp2_with fail
          have hc16 := (hrow q (by omega)).1
          have hc7 := (hrow (q + 9) (by omega)).1
          refine wp_region_noPanic ?_
          refine wp_region_held_drew (S := fun w' => w'.cell? ⟨w.heap.size + 1, q, none⟩ = some (.int .u32 ((wordsL x (q + 16)).getD q 0)) ∧ w'.cell? ⟨w.heap.size + 1, q + 9, none⟩ = some (.int .u32 ((wordsL x (q + 16)).getD (q + 9) 0))) (by kernel_rfl) ⟨by simpa using hc16, by simpa using hc7⟩ (fun hS => ?_)
          clear hc16 hc7
          have ew : IntKind.i64.wrap (q : Int) = (q : Int) := wrap_i64_small _ (by omega) (by omega)
          have e7a : IntKind.i64.wrap ((q : Int) + 16 - 7) = (q : Int) + 9 := by rw [wrap_i64_small _ (by omega) (by omega)]; omega
          have e7b : IntKind.i64.wrap ((q : Int) + 9) = (q : Int) + 9 := wrap_i64_small _ (by omega) (by omega)
          have q0 : (0 : Int) ≤ (q : Int) := by omega
          have q9 : (0 : Int) ≤ (q : Int) + 9 := by omega
          have q48 : (q : Int) < 64 := by omega
          have q57 : (q : Int) + 9 < 64 := by omega
          have t9 : ((q : Int) + 9).toNat = q + 9 := by omega
          refine tq (i := 0) (v := ?_) rfl hS ?_ ?_
          rotate_left 1
          · intro w hSw; go_simp; try with_reducible rfl
          simp only [qA, qB, qC, Act.put, qD, qE, qF]
          refine tq (i := 1) (v := ?_) rfl hS ?_ ?_
          rotate_left 1
          · intro w hSw; go_simp; try with_reducible rfl
          simp only [qA, qB, qC, Act.put, qD, qE, qF]
          refine tq (i := 2) (v := ?_) rfl hS ?_ ?_
          rotate_left 1
          · intro w hSw; go_simp; try with_reducible rfl
          simp only [qA, qB, qC, Act.put, qD, qE, qF]
          refine tq (i := 3) (v := ?_) rfl hS ?_ ?_
          rotate_left 1
          · intro w hSw; go_simp; try with_reducible rfl
          simp only [qA, qB, qC, Act.put, qD, qE, qF]
          refine tq (i := 4) (v := ?_) rfl hS ?_ ?_
          rotate_left 1
          · intro w hSw; go_simp; try with_reducible rfl
          simp only [qA, qB, qC, Act.put, qD, qE, qF]
          refine tq (i := 5) (v := ?_) rfl hS ?_ ?_
          rotate_left 1
          · intro w hSw; go_simp; try with_reducible rfl
          simp only [qA, qB, qC, Act.put, qD, qE, qF]
          refine tq (i := 6) (v := ?_) rfl hS ?_ ?_
          rotate_left 1
          · intro w hSw; go_simp; try with_reducible rfl
          simp only [qA, qB, qC, Act.put, qD, qE, qF]
          refine tq (i := 7) (v := ?_) rfl hS ?_ ?_
          rotate_left 1
          · intro w hSw; go_simp; try with_reducible rfl
          simp only [qA, qB, qC, Act.put, qD, qE, qF]
          refine tq (i := 8) (v := ?_) rfl hS ?_ ?_
          rotate_left 1
          · intro w hSw; go_simp; try with_reducible rfl
          simp only [qA, qB, qC, Act.put, qD, qE, qF]
          refine tq (i := 9) (v := ?_) rfl hS ?_ ?_
          rotate_left 1
          · intro w hSw; go_simp; try with_reducible rfl
          simp only [qA, qB, qC, Act.put, qD, qE, qF]
          refine tq (i := 10) (v := ?_) rfl hS ?_ ?_
          rotate_left 1
          · intro w hSw; go_simp; try with_reducible rfl
          simp only [qA, qB, qC, Act.put, qD, qE, qF]
          refine tq (i := 12) (v := ?_) rfl hS ?_ ?_
          rotate_left 1
          · intro w hSw; go_simp; try with_reducible rfl
          simp only [qA, qB, qC, Act.put, qD, qE, qF]
          refine tq (i := 15) (v := ?_) rfl hS ?_ ?_
          rotate_left 1
          · intro w hSw; go_simp; try with_reducible rfl
          simp only [qA, qB, qC, Act.put, qD, qE, qF]
          refine tq (i := 16) (v := ?_) rfl hS ?_ ?_
          rotate_left 1
          · intro w hSw; go_simp; try with_reducible rfl
          simp only [qA, qB, qC, Act.put, qD, qE, qF]
          refine tq (i := 19) (v := ?_) rfl hS ?_ ?_
          rotate_left 1
          · intro w hSw; go_simp; try with_reducible rfl
          simp only [qA, qB, qC, Act.put, qD, qE, qF]
          refine tq (i := 21) (v := ?_) rfl hS ?_ ?_
          rotate_left 1
          · intro w hSw; go_simp; try with_reducible rfl
          simp only [qA, qB, qC, Act.put, qD, qE, qF]
          refine tq (i := 24) (v := ?_) rfl hS ?_ ?_
          rotate_left 1
          · intro w hSw; go_simp; try with_reducible rfl
          simp only [qA, qB, qC, Act.put, qD, qE, qF]
          refine tq (i := 25) (v := ?_) rfl hS ?_ ?_
          rotate_left 1
          · intro w hSw; go_simp; try with_reducible rfl
          simp only [qA, qB, qC, Act.put, qD, qE, qF]
          refine rk 11 (fun K hK => ?_)
          go_simp
          refine (rot_any _ _ _ _ s7 (by omega) (by omega)).mono ?_
          rintro e w9 ⟨rfl, rfl⟩
          refine hK.out _ _ hS (fun _ => ?_)
          clear hK K
          try simp only [qA, qB, qC, Act.put, qD, qE, qF]
          refine rk 13 (fun K hK => ?_)
          go_simp
          refine (rot_any _ _ _ _ s18 (by omega) (by omega)).mono ?_
          rintro e w9 ⟨rfl, rfl⟩
          refine hK.out _ _ hS (fun _ => ?_)
          clear hK K
          try simp only [qA, qB, qC, Act.put, qD, qE, qF]
          refine tq (i := 14) (v := ?_) rfl hS ?_ ?_
          rotate_left 1
          · intro w hSw; go_simp; try with_reducible rfl
          simp only [qA, qB, qC, Act.put, qD, qE, qF]
          refine tq (i := 17) (v := ?_) rfl hS ?_ ?_
          rotate_left 1
          · intro w hSw; go_simp; try with_reducible rfl
          simp only [qA, qB, qC, Act.put, qD, qE, qF]
          refine tq (i := 18) (v := ?_) rfl hS ?_ ?_
          rotate_left 1
          · intro w hSw; go_simp; try with_reducible rfl
          simp only [qA, qB, qC, Act.put, qD, qE, qF]
          refine rk 20 (fun K hK => ?_)
          go_simp
          refine (rot_any _ _ _ _ s17 (by omega) (by omega)).mono ?_
          rintro e w9 ⟨rfl, rfl⟩
          refine hK.out _ _ hS (fun _ => ?_)
          clear hK K
          try simp only [qA, qB, qC, Act.put, qD, qE, qF]
          refine rk 22 (fun K hK => ?_)
          go_simp
          refine (rot_any _ _ _ _ s19 (by omega) (by omega)).mono ?_
          rintro e w9 ⟨rfl, rfl⟩
          refine hK.out _ _ hS (fun _ => ?_)
          clear hK K
          try simp only [qA, qB, qC, Act.put, qD, qE, qF]
          refine tq (i := 23) (v := ?_) rfl hS ?_ ?_
          rotate_left 1
          · intro w hSw; go_simp; try with_reducible rfl
          simp only [qA, qB, qC, Act.put, qD, qE, qF]
          refine tq (i := 26) (v := ?_) rfl hS ?_ ?_
          rotate_left 1
          · intro w hSw; go_simp; try with_reducible rfl
          simp only [qA, qB, qC, Act.put, qD, qE, qF]
          refine tq (i := 27) (v := ?_) rfl hS ?_ ?_
          rotate_left 1
          · intro w hSw; go_simp; try with_reducible rfl
          simp only [qA, qB, qC, Act.put, qD, qE, qF]
          have q16 : (0 : Int) ≤ (q : Int) + 16 := by omega
          have q64 : (q : Int) + 16 < 64 := by omega
          have t16 : ((q : Int) + 16).toNat = q + 16 := by omega
          refine tq (i := 28) (v := ?_) rfl hS ?_ ?_
          rotate_left 1
          · intro w hSw; go_simp; try with_reducible rfl
          simp only [qA, qB, qC, Act.put, qD, qE, qF]
          have hcs : (wr.drewN (nq + 1)).cell? ⟨w.heap.size + 1, q + 16, none⟩ = some (.int .u32 ((wordsL x (q + 16)).getD (q + 16) 0)) := (hrow (q + 16) (by omega)).1
          have hfs : (wr.drewN (nq + 1)).frozen? ⟨w.heap.size + 1, q + 16, none⟩ = false := (hrow (q + 16) (by omega)).2
          refine rk 29 (fun K hK => ?_)
          go_simp
          have hrow' : RowU ((wr.drewN (nq + 1)).setCell ⟨w.heap.size + 1, q + 16, none⟩ (.int .u32 (mixI ((wordsL x (q + 16)).getD q 0) ((wordsL x (q + 16)).getD (q + 9) 0) ((wordsL x (q + 16)).getD (q + 1) 0) ((wordsL x (q + 16)).getD (q + 14) 0)))) (w.heap.size + 1) 64 (fun j => (wordsL x (q + 1 + 16)).getD j 0) := by
            refine RowU.set (hrow.draws (nq + 1)) (by omega) ?_ ?_
            · show (wordsL x (q + 1 + 16)).getD (q + 16) 0 = _
              rw [show q + 1 + 16 = q + 16 + 1 by omega, wordsL_new, nextW, if_neg (by omega)]
              rw [show q + 16 - 16 = q by omega, show q + 16 - 7 = q + 9 by omega, show q + 16 - 15 = q + 1 by omega, show q + 16 - 2 = q + 14 by omega]
            · intro j _ hj
              rw [show q + 1 + 16 = q + 16 + 1 by omega]
              exact wordsL_old x (q + 16) j hj
          have hB' : Below (w.heap.size + 1) (w.alloc (.cells z64.toArray 230)) ((wr.drewN (nq + 1)).setCell ⟨w.heap.size + 1, q + 16, none⟩ (.int .u32 (mixI ((wordsL x (q + 16)).getD q 0) ((wordsL x (q + 16)).getD (q + 9) 0) ((wordsL x (q + 16)).getD (q + 1) 0) ((wordsL x (q + 16)).getD (q + 14) 0)))) := below_setCells_one (below_draws hB (nq + 1)) (Nat.le_refl _) _ _
          refine hK.out _ _ ?_ (fun _ => ?_)
          · have h1 := (hrow' q (by omega)).1
            have h2 := (hrow' (q + 9) (by omega)).1
            simp only [show q + 1 + 16 = q + 16 + 1 by omega] at h1 h2
            rw [wordsL_old x (q + 16) q (by omega)] at h1
            rw [wordsL_old x (q + 16) (q + 9) (by omega)] at h2
            exact ⟨h1, h2⟩
          clear hK K hcs hfs hS hrow hB
          refine ⟨by kernel_rfl, ?_⟩
          refine NoPanic.normal ?_
          try simp only [qA, qB, qC, Act.put, qD, qE, qF]
          clear ew e7a e7b q0 q9 q48 q57 t9 q16 q64 t16
          go_wp2_with fail
          go_roundw
          case rel => (repeat apply Exists.intro); exact ⟨⟨q + 1, by omega, by go_num, hrow', hB'⟩, rfl⟩
          case measure => simp [intOf]; omega
        · have hq48 : q = 48 := by omega
          subst hq48
          have hr := hrow.range (wordsL x 64) (wordsL_length x 64) (fun j _ => rfl)
          have hi : (Tryz.prog.info? 230).map (·.size) = some ((wordsL x 64).map (Value.int .u32)).length := by rw [List.length_map, wordsL_length]; exact info_64
          have ht : wr.there w.heap.size 0 ((wordsL x 64).map (Value.int .u32)).length := by
            rw [List.length_map, wordsL_length]; exact there_old hB (there_z64 w)
          have hone : ∀ u ∈ (wordsL x 64).map (Value.int .u32), u.oneCell' = true := ints_oneCell _ _
          obtain ⟨L, hL⟩ : ∃ L, L = (wordsL x 64).map (Value.int .u32) := ⟨_, rfl⟩
          rw [← hL] at hr hi ht hone
          have HL : Hid (L = (wordsL x 64).map (Value.int .u32)) := hL
          clear hL
          go_wp2_with (first | (refine wpList_load_mid rfl 230 _ rfl (w.heap.size + 1) 0 rfl L _ hr Tryz.underlying230 rfl hi ?_) | (refine wpList_store_abs rfl 230 _ _ rfl w.heap.size 0 L rfl rfl ht hi hone ?_; intro w4 _hw4 hr4 ht4 hb4; clear _hw4))
          exact ret_cell rfl w.heap.size 0 L _ rfl hr4 Tryz.underlying230 rfl hi rfl ⟨by rw [HL.out], ((Below.refl _ _).alloc (Nat.le_refl _) _).trans ((hB.mono (Nat.le_succ _)).trans (hb4 _ (Nat.le_refl _)))⟩
end Go.Proofs.YteglimjonofdeaaGreatDoor
