import Derived.Test.YteebdadnfaekmaaDoorPFin
set_option linter.unusedVariables false
set_option linter.unusedSimpArgs false
namespace Go.Proofs.YteebdadnfaekmaaDoor
open Go.RowKit

/-- The leaf of key k. -/
def leafF (H : ByteArray → ByteArray) (seed : ByteArray) (k : Nat) : ByteArray := chainsT H (beginF H seed k) (fun _ => 15) 67
/-- A row of texts in block B, of which q have been laid. -/
structure PartAt (B N q : Nat) (F : Nat → ByteArray) (w0 w : World) : Prop where
  cells : ∀ j, j < q → w.cell? ⟨B, j, none⟩ = some (.string (F j))
  room : w.there B 0 N
  lt : B < w.heap.size
  b : Below B w0 w
theorem PartAt.below {B N q : Nat} {F : Nat → ByteArray} {w0 w w' : World} (H : PartAt B N q F w0 w) (hb : Below w.heap.size w w') : PartAt B N q F w0 w' :=
  ⟨fun j hj => (hb.cell (p := ⟨B, j, none⟩) H.lt).trans (H.cells j hj), there_below hb H.lt H.room, Nat.lt_of_lt_of_le H.lt hb.size, H.b.trans (hb.mono (Nat.le_of_lt H.lt))⟩
theorem PartAt.at {B N q : Nat} {F : Nat → ByteArray} {w0 w : World} (H : PartAt B N q F w0 w) (hq : q < N) : (∃ x, w.cell? ⟨B, q, none⟩ = some x) ∧ w.frozen? ⟨B, q, none⟩ = false := by
  have := H.room q hq
  rw [Nat.zero_add] at this
  exact ⟨Option.isSome_iff_exists.1 this.1, this.2⟩
theorem PartAt.put {B N q : Nat} {F : Nat → ByteArray} {w0 w : World} (H : PartAt B N q F w0 w) (hq : q < N) : PartAt B N (q + 1) F w0 (w.setCell ⟨B, q, none⟩ (.string (F q))) := by
  obtain ⟨⟨x, hx⟩, _⟩ := H.at hq
  refine ⟨fun j hj => ?_, World.there_setCells H.room B q [_], by simpa using H.lt, H.b.setCell (p := ⟨B, q, none⟩) (Nat.le_refl _) _⟩
  rcases Nat.lt_or_ge j q with h | h
  · rw [World.cell?_setCell_other (w := w) (a := ⟨B, q, none⟩) (b := ⟨B, j, none⟩) _ (by intro e; have := congrArg Addr.off e; simp at this; omega)]
    exact H.cells j h
  · obtain rfl : j = q := by omega
    exact World.cell?_setCell_same _ _ _ hx
theorem PartAt.leaf {B N : Nat} {F : Nat → ByteArray} {w0 w : World} (H : PartAt B N N F w0 w) : LeafAt w (.slice (some ⟨B, 0, none⟩) N N) ((List.range N).map F) :=
  Or.inr ⟨B, 0, N, by simp, by simp, fun j hj => by rw [Nat.zero_add, H.cells j (by simpa using hj)]; simp⟩

set_option maxRecDepth 10000 in
set_option maxHeartbeats 1000000 in
theorem rowLeaves_any (K : Nat → Int) (seed : ByteArray) (h : Nat) (w : World) (hh : h ≤ 5) (hs : seed.size ≤ 100000) (T : Tab K w) :
    Calls Tryd.prog 68 #[.string seed, .int .i64 h] w fun e w' => e = .returned (.slice (some ⟨w.heap.size, 0, none⟩) (2 ^ h) (2 ^ h)) ∧ PartAt w.heap.size (2 ^ h) (2 ^ h) (leafF (sumOf K) seed) w w' := by
  have hkc := keyCount_any h w (by omega)
  have hN1 : 2 ^ h ≤ 32 := Nat.pow_le_pow_right (n := 2) (by omega) hh
  have HAL : Hid (∀ (q : Nat) W W1, Below w.heap.size w W → W1.cell? ⟨W.heap.size, 0, none⟩ = some (.string seed) → W1.cell? ⟨W.heap.size + 1, 0, none⟩ = some (.int .i64 q) → Below W.heap.size W W1 → Calls Tryd.prog 70 #[.func (.func 87) #[] #[.pointer (some ⟨W.heap.size, 0, none⟩), .pointer (some ⟨W.heap.size + 1, 0, none⟩)], .func (.func 86) #[] #[]] W1 (strPost1 (leafF (sumOf K) seed q) W1)) := fun q W W1 hb c1 c2 hb1 => by
    have T1 := T.below (hb.trans (hb1.mono hb.size))
    have l1 := World.block_lt_of_cell? W1 _ c1
    have l2 := World.block_lt_of_cell? W1 _ c2
    exact along_leaf K (beginF (sumOf K) seed q) (fun _ => 15) W.heap.size (W.heap.size + 1) W1 T1 (fun c => sumOf_size K _) (fun _ => Nat.le_refl _)
      (fun W' hb' c hc => begin1_any K seed q c W.heap.size (W.heap.size + 1) W' hs ((hb'.cell (p := ⟨W.heap.size, 0, none⟩) l1).trans c1) ((hb'.cell (p := ⟨W.heap.size + 1, 0, none⟩) l2).trans c2) (T1.below hb'))
      (fun W' hb' c hc => leaves1_any c W')
  clear T
  generalize leafF (sumOf K) seed = F at *
  generalize 2 ^ h = N at *
  obtain ⟨i0, hi, hz, hsz, hby⟩ := info_strT
  go_enter Tryd.func68, Tryd.ntmps68
  go_wp2_with fail
  refine hkc.mono ?_
  rintro e w' ⟨rfl, rfl⟩
  clear hkc
  go_wp2_with (at_make; refine wpList_make_full _ rfl _ _ 37 rfl w'.heap.size 9 i0 (.string ⟨#[]⟩) 1 Tryd.underlying37 hi hz hsz .i64 .i64 _ _ N rfl rfl ?L ?C ?b2 ?b3 (Nat.le_refl _) ?_)
  case L => go_num
  case C => go_num
  case b2 => rw [hby]; omega
  case b3 => unfold maxLen; omega
  intro w1 ho hg1
  have hB1 : Below w'.heap.size w' w1 := (Below.refl _ _).grown hg1 (Nat.le_refl _) (fun k hk => by cases hk)
  have hz1 := (ho.lt w'.heap.size rfl).2
  have ht1 : w1.there w'.heap.size 0 N := own_there ho
  have HP : Hid (PartAt w'.heap.size N 0 F w' w1) := ⟨fun j hj => by omega, ht1, hz1, hB1⟩
  clear ho hg1 hB1 hz1 ht1
  go_wp2_with fail
  go_loopw [12] (fun i wr => ∃ q : Nat, i = .int .i64 q ∧ q ≤ N ∧ Hid (PartAt w'.heap.size N q F w' wr)) (fun i _ => N - (intOf i).toNat)
  case atStart => exact ⟨0, rfl, Nat.zero_le _, HP⟩
  case round =>
    obtain ⟨q, rfl, hq, hI⟩ := hrel
    by_cases hlt : q < N
    · have q1 : (q : Int) < (N : Int) := by omega
      have q0 : (0 : Int) ≤ (q : Int) := by omega
      go_wp2_with fail
      refine (beginnings_any seed q wr).mono ?_
      rintro e w2 ⟨rfl, c1, c2, hb2⟩
      have hal := HAL.out q wr w2 hI.out.b c1 c2 hb2
      have HP2 := hI.out.below hb2
      obtain ⟨s, es⟩ : ∃ s, s = F q := ⟨_, rfl⟩
      rw [← es] at hal
      have HS : Hid (s = F q) := es
      clear es c1 c2 hb2
      go_wp2_with fail
      refine hal.mono ?_
      rintro e w3 ⟨rfl, hb3⟩
      clear hal
      have HP3 : Hid (PartAt w'.heap.size N q F w' w3) := HP2.below hb3
      clear hb3 HP2
      obtain ⟨⟨x3, cx3⟩, fx3⟩ := HP3.out.at hlt
      go_wp2_with fail
      refine ⟨⟨q + 1, by go_num, by omega, ?_⟩, ?_⟩
      · rw [HS.out]; exact HP3.out.put hlt
      · simp [intOf]; omega
    · have q1 : ¬ (q : Int) < (N : Int) := by omega
      obtain rfl : q = N := by omega
      go_wp2_with fail
      go_ret
      exact ⟨rfl, hI.out⟩

theorem run_cut_str (X : ByteArray) (a b : Nat) (w : World) (hab : a ≤ b) (hb : b ≤ X.size) :
    (Instr.slice 9 (.string X) (some (.int .i64 (a : Int))) (some (.int .i64 (b : Int))) none).run Tryd.prog w = .ok (.string (X.extract a b)) w := by
  have h1 : (a : Int) ≤ (b : Int) := by omega
  have h2 : (b : Int) ≤ (X.size : Int) := by omega
  have h3 : (0 : Int) ≤ (a : Int) := by omega
  have h4 : (0 : Int) ≤ (b : Int) := by omega
  go_simp
theorem run_cut_piece (X : ByteArray) (q : Nat) (w : World) (hb : 32 * q + 32 ≤ X.size) :
    (Instr.slice 9 (.string X) (some (.int .i64 ((q : Int) * 32))) (some (.int .i64 (((q : Int) + 1) * 32))) none).run Tryd.prog w = .ok (.string (pieceF X q)) w := by
  have := run_cut_str X (32 * q) (32 * q + 32) w (by omega) hb
  rw [show ((32 * q : Nat) : Int) = (q : Int) * 32 by omega, show ((32 * q + 32 : Nat) : Int) = ((q : Int) + 1) * 32 by omega] at this
  exact this

set_option maxRecDepth 10000 in
set_option maxHeartbeats 1000000 in
theorem cutS_any (X : ByteArray) (h : Nat) (w : World) (hh : h ≤ 8) (hx : X.size = 32 * h) :
    Calls Tryd.prog 76 #[.string X] w fun e w' => e = .returned (.slice (some ⟨w.heap.size, 0, none⟩) h h) ∧ PartAt w.heap.size h h (pieceF X) w w' := by
  obtain ⟨i0, hi, hz, hsz, hby⟩ := info_strT
  have hq : ((X.size : Nat) : Int).tdiv 32 = (h : Int) := by rw [hx, Int.tdiv_eq_ediv_of_nonneg (by omega)]; omega
  have hl : ((X.size : Nat) : Int) ≤ 256 := by omega
  have HX : Hid (X.size = 32 * h) := hx
  clear hx
  go_enter Tryd.func76, Tryd.ntmps76
  go_wp2_with (at_make; refine wpList_make_full _ rfl _ _ 37 rfl w.heap.size 9 i0 (.string ⟨#[]⟩) 1 Tryd.underlying37 hi hz hsz .i64 .i64 _ _ h rfl rfl ?L ?C ?b2 ?b3 (Nat.le_refl _) ?_)
  case L => go_num
  case C => go_num
  case b2 => rw [hby]; omega
  case b3 => unfold maxLen; omega
  intro w1 ho hg1
  have hB1 : Below w.heap.size w w1 := (Below.refl _ _).grown hg1 (Nat.le_refl _) (fun k hk => by cases hk)
  have hz1 := (ho.lt w.heap.size rfl).2
  have ht1 : w1.there w.heap.size 0 h := own_there ho
  have HP : Hid (PartAt w.heap.size h 0 (pieceF X) w w1) := ⟨fun j hj => by omega, ht1, hz1, hB1⟩
  clear ho hg1 hB1 hz1 ht1
  go_wp2_with fail
  go_loopw [11] (fun i wr => ∃ q : Nat, i = .int .i64 q ∧ q ≤ h ∧ Hid (PartAt w.heap.size h q (pieceF X) w wr)) (fun i _ => h - (intOf i).toNat)
  case atStart => exact ⟨0, rfl, Nat.zero_le _, HP⟩
  case round =>
    obtain ⟨q, rfl, hq, hI⟩ := hrel
    by_cases hlt : q < h
    · have q1 : (q : Int) < (h : Int) := by omega
      have q0 : (0 : Int) ≤ (q : Int) := by omega
      have hX := HX.out
      have hsl := fun W => run_cut_piece X q W (by omega)
      have hw1 : IntKind.i64.wrap ((q : Int) * 32) = (q : Int) * 32 := wrap_small _ (by omega) (by omega)
      have hw2 : IntKind.i64.wrap ((q : Int) + 1) = (q : Int) + 1 := wrap_small _ (by omega) (by omega)
      have hw3 : IntKind.i64.wrap (((q : Int) + 1) * 32) = ((q : Int) + 1) * 32 := wrap_small _ (by omega) (by omega)
      obtain ⟨⟨x3, cx3⟩, fx3⟩ := hI.out.at hlt
      clear hX
      go_wp2_with fail
      refine ⟨⟨q + 1, by go_num, by omega, ?_⟩, ?_⟩
      · exact hI.out.put hlt
      · simp [intOf]; omega
    · have q1 : ¬ (q : Int) < (h : Int) := by omega
      obtain rfl : q = h := by omega
      go_wp2_with fail
      go_ret
      exact ⟨rfl, hI.out⟩
set_option maxHeartbeats 400000 in
theorem fits_any (t : ByteArray) (h : Int) (w : World) (ht : t.size ≤ 140737488355000) : Calls Tryd.prog 67 #[.string t, .int .i64 h] w fun e w' => e = .returned (.bool (decide (t.size = 32 ∧ 0 ≤ h ∧ h ≤ 5))) ∧ Below w.heap.size w w' := by
  go_enter Tryd.func67, Tryd.ntmps67
  by_cases h1 : t.size = 32
  · have e1 : ((t.size : Nat) : Int) = 32 := by omega
    by_cases h2 : 0 ≤ h
    · by_cases h3 : h ≤ 5
      · go_wp2_with fail
        go_ret
        exact ⟨by simp [h1, h2, h3], Below.refl _ _⟩
      · go_wp2_with fail
        go_ret
        exact ⟨by simp [h1, h2, h3], Below.refl _ _⟩
    · go_wp2_with fail
      go_ret
      exact ⟨by simp [h1, h2]; omega, Below.refl _ _⟩
  · have e1 : ¬ ((t.size : Nat) : Int) = 32 := by omega
    go_wp2_with fail
    go_ret
    exact ⟨by simp [h1], Below.refl _ _⟩
end Go.Proofs.YteebdadnfaekmaaDoor
