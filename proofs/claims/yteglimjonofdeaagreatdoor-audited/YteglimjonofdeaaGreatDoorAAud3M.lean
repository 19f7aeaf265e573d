import Derived.Test.YteglimjonofdeaaGreatDoorAAud2
set_option linter.unusedVariables false
set_option linter.unusedSimpArgs false
namespace Go.Proofs.YteglimjonofdeaaGreatDoor
open Go.RowKit

theorem AuAt.put {w : World} {ab : Nat} {key : ByteArray} {h : Nat} {n n' : Int} {r r' : ByteArray} (H : AuAt w ab key h n r) (hr : r'.size = 32) : AuAt (w.setCells ab 2 (hdC n' r')) ab key h n' r' := by
  have t2 : w.there ab 2 (hdC n' r').length := fun j hj => by
    rw [hdC_len hr] at hj
    have := H.room (2 + j) (by omega)
    rwa [Nat.zero_add] at this
  have ra : w.rangeAt ab 0 [.string key, .int .i64 (h : Nat)] := fun i x hx => by
    match i, hx with
    | 0, hx => exact H.cells 0 _ hx
    | 1, hx => exact H.cells 1 _ hx
    | n + 2, hx => cases hx
  have rb : (w.setCells ab 2 (hdC n' r')).rangeAt ab 2 (hdC n' r') := World.rangeAt_setCells_same _ _ _ _ t2
  have rc : (w.setCells ab 2 (hdC n' r')).rangeAt ab 0 [.string key, .int .i64 (h : Nat)] := World.rangeAt_setCells_apart ra _ _ _ (Or.inr (Or.inl (by simp)))
  refine ⟨fun i x hx => ?_, World.there_setCells H.room _ _ _, by rw [size_setCells]; exact H.lt, hr⟩
  match i, hx with
  | 0, hx => exact rc 0 _ hx
  | 1, hx => exact rc 1 _ hx
  | i + 2, hx => have := rb i x hx; rwa [show 2 + i = 0 + (i + 2) by omega] at this
def E9 : Value := .iface 41 (.int .i64 9)
/-- What Advance answers. -/
def advE (K : Nat → Int) (key : ByteArray) (h n0 : Nat) (r0 s : ByteArray) (pf : List ByteArray) : Value :=
  if ¬ s.size = 2182 + 32 * h then E9 else if hdOk (s.extract 0 37) = false then E9 else if sigOk K key h (s.extract 0 37) (s.extract 37 s.size) = false then errSg
  else growV K n0 (hdNo (s.extract 0 37)).toNat r0 ((s.extract 0 37).extract 5 37) pf
def advPost (K : Nat → Int) (ab : Nat) (key : ByteArray) (h n0 : Nat) (r0 s : ByteArray) (pf : List ByteArray) (w : World) (e : Ending) (w' : World) : Prop :=
  e = .returned (advE K key h n0 r0 s pf) ∧ Kept (· = ab) w w' ∧ ((advE K key h n0 r0 s pf = .nilIface ∧ AuAt w' ab key h ((hdNo (s.extract 0 37)).toNat : Nat) ((s.extract 0 37).extract 5 37)) ∨ (advE K key h n0 r0 s pf ≠ .nilIface ∧ AuAt w' ab key h (n0 : Nat) r0))
theorem growV_form (K : Nat → Int) (n0 n1 : Nat) (r0 r1 : ByteArray) (pf : List ByteArray) : growV K n0 n1 r0 r1 pf = .nilIface ∨ ∃ k : Int, growV K n0 n1 r0 r1 pf = .iface 41 (.int .i64 k) := by
  unfold growV
  split
  · exact Or.inr ⟨_, rfl⟩
  · split
    · exact Or.inr ⟨_, rfl⟩
    · unfold chkV; split
      · exact Or.inl rfl
      · exact Or.inr ⟨_, rfl⟩

set_option maxRecDepth 10000 in
set_option maxHeartbeats 8000000 in
theorem aadv_any (K : Nat → Int) (ab : Nat) (key : ByteArray) (h n0 : Nat) (r0 s : ByteArray) (pf : List ByteArray) (v : Value) (w : World) (H : AuAt w ab key h (n0 : Nat) r0) (hk : key.size = 32) (hh : h ≤ 5) (hn0 : n0 ≤ 2147483647) (hl : LeafAt w v pf) (hpf : pf.length ≤ 1000000000) (T : Tab K w) :
    Calls Tryz.prog 42 #[.pointer (some ⟨ab, 0, none⟩), .string s, v] w (advPost K ab key h n0 r0 s pf w) := by
  have hsz := size_any' h w (by omega)
  have c1 : w.cell? ⟨ab, 1, none⟩ = some (.int .i64 (h : Nat)) := H.cells 1 _ rfl
  have HH : Hid (AuAt w ab key h (n0 : Nat) r0) := H
  have HT : Hid (Tab K w) := T
  have HLF : Hid (LeafAt w v pf) := hl
  have hh0 : (0 : Int) ≤ (h : Int) := by omega
  have hh1 : (h : Int) ≤ 5 := by omega
  have HK : Hid (key.size = 32 ∧ h ≤ 5) := ⟨hk, hh⟩
  obtain ⟨SZ, hSZ⟩ : ∃ n : Nat, n = 2145 + 32 * h := ⟨_, rfl⟩
  have HSZ : Hid (SZ = 2145 + 32 * h) := hSZ
  rw [← hSZ] at hsz
  have hSZ5 : (SZ : Int) ≤ 2305 := by omega
  have hSZ0 : (0 : Int) ≤ (SZ : Int) := by omega
  clear H T hl hk hh
  by_cases hs : s.size = 2182 + 32 * h
  · have x1 : ((s.size : Int) != 37 + (SZ : Int)) = false := by rw [bne_eq_false_iff_eq]; omega
    have x2 : ((s.size : Int) == 37 + (SZ : Int)) = true := by rw [beq_iff_eq]; omega
    have k37 : (37 : Int) ≤ (s.size : Int) := by omega
    have HS : Hid (s.size = 2182 + 32 * h) := hs
    clear hSZ hs
    go_enter Tryz.func42, Tryz.ntmps42
    go_wp2_with fail
    refine hsz.mono ?_
    rintro e w1 ⟨rfl, hww⟩
    obtain rfl : w = w1 := hww.symm
    clear hww hsz
    go_wp2_with fail
    refine wp_region_noPanic ?_
    refine wp_region_held_drew (S := fun _ => True) (by kernel_rfl) trivial (fun _ => ?_)
    refine tk 0 trivial ?_
    refine tk 1 trivial ?_
    refine tk 2 trivial ?_
    refine tk 3 trivial ?_
    refine tk 4 trivial ?_
    refine tk 5 trivial ?_
    refine ⟨by kernel_rfl, ?_⟩
    refine NoPanic.normal ?_
    try simp only [qA, qB, qC, Act.put, qD, qE, qF]
    have hdc := hdec_any (s.extract 0 37) w.drew
    have hm37 : (s.extract 0 37).size = 37 := by have := HS.out; rw [ByteArray.size_extract]; omega
    obtain ⟨msg, hmsg⟩ : ∃ m, m = s.extract 0 37 := ⟨_, rfl⟩
    obtain ⟨sig, hsig⟩ : ∃ m, m = s.extract 37 s.size := ⟨_, rfl⟩
    rw [← hmsg] at hdc hm37
    have HM : Hid (s.extract 0 37 = msg ∧ s.extract 37 s.size = sig) := ⟨hmsg.symm, hsig.symm⟩
    clear hmsg hsig x1 x2 k37
    go_wp2_with (first | (rw [HM.out.1]) | (rw [HM.out.2]))
    try rw [HM.out.2]
    refine hdc.mono ?_
    rintro e W3 ⟨cs, rfl, hcs, b3⟩
    have HB3 : Hid (Below w.heap.size w W3) := ((Below.refl _ _).drew).trans b3
    have s3 := HB3.out.size
    obtain ⟨W4, h4⟩ : ∃ X, X = W3.alloc (.cells hdZ.toArray 132) := ⟨_, rfl⟩
    have s4 : W4.heap.size = W3.heap.size + 1 := by rw [h4]; simp
    have b4 : Below W3.heap.size W3 W4 := by rw [h4]; exact (Below.refl _ _).alloc (Nat.le_refl _) _
    have HB4 : Hid (Below w.heap.size w W4) := HB3.out.trans (b4.mono s3)
    have t4 : W4.there W3.heap.size 0 33 := by rw [h4]; exact there_hdz W3
    clear hdc b3 b4
    rcases hcs with ⟨ho, hcs⟩ | ⟨ho, hcs⟩
    · obtain ⟨n1, hn1⟩ : ∃ n1 : Nat, hdNo msg = (n1 : Nat) := ⟨(hdNo msg).toNat, by have := hdNo_nonneg msg; omega⟩
      have hnb : n1 ≤ 2147483647 := by
        have h9 := ho
        unfold hdOk at h9
        simp at h9
        omega
      obtain ⟨r1, hr1⟩ : ∃ r, r = msg.extract 5 37 := ⟨_, rfl⟩
      have hr132 : r1.size = 32 := by rw [hr1, ByteArray.size_extract]; omega
      rw [hn1, ← hr1] at hcs
      subst hcs
      rw [ho]
      have HADV : Hid (advE K key h n0 r0 s pf = if sigOk K key h msg sig = false then errSg else growV K n0 n1 r0 r1 pf) := by
        show _ = _; unfold advE
        rw [if_neg (by have := HS.out; omega), HM.out.1, HM.out.2, if_neg (by rw [ho]; simp), hn1, ← hr1]; rfl
      have HNR : Hid ((hdNo (s.extract 0 37)).toNat = n1 ∧ (s.extract 0 37).extract 5 37 = r1) := ⟨by rw [HM.out.1, hn1]; rfl, by rw [HM.out.1]; exact hr1.symm⟩
      have HI0 : Hid ((Tryz.prog.info? 132).map (·.size) = some (hdC (n0 : Nat) r0).length) := info_hd _ HH.out.r32
      have HI1 : Hid ((Tryz.prog.info? 132).map (·.size) = some (hdC (n1 : Nat) r1).length) := info_hd _ hr132
      have HO1 : Hid (∀ u ∈ hdC (n1 : Nat) r1, u.oneCell' = true) := hdC_one _ _
      have t4' : W4.there W3.heap.size 0 (hdC (n1 : Nat) r1).length := by rw [hdC_len hr132]; exact t4
      obtain ⟨kn, ev, hcv, hevc⟩ : ∃ (kn : Int) (ev : Value), checkV K key (h : Nat) msg sig = .tuple #[.int .i64 kn, ev] ∧ ((sigOk K key h msg sig = true ∧ ev = .nilIface) ∨ (sigOk K key h msg sig = false ∧ ev = errSg)) := by
        unfold checkV
        rw [if_pos ⟨HK.out.1, by omega, by omega⟩]
        have e : ((h : Nat) : Int).toNat = h := rfl
        rw [e]
        cases hb : sigOk K key h msg sig
        · exact ⟨0, errSg, by simp, Or.inr ⟨rfl, rfl⟩⟩
        · exact ⟨_, .nilIface, by simp; rfl, Or.inl ⟨rfl, rfl⟩⟩
      have HCK : Hid (∀ W, Below w.heap.size w W → Calls Tryz.prog 83 #[.string key, .int .i64 (h : Nat), .string msg, .string sig] W fun e w' => e = .returned (.tuple #[.int .i64 kn, ev]) ∧ Below W.heap.size W w') := fun W hb => by
        have := pcheck_any K key (h : Nat) msg sig W (by rw [HK.out.1]; omega) (by omega) (HT.out.below hb)
        rw [hcv] at this; exact this
      have HEV : Hid ((sigOk K key h msg sig = true ∧ ev = .nilIface) ∨ (sigOk K key h msg sig = false ∧ ev = errSg)) := hevc
      have HLT : Hid (ab < w.heap.size) := HH.out.lt
      clear hcv hevc ho hm37 hr1 hn1 t4
      go_wp2_with (first
        | (refine wpList_alloc_of rfl 132 rfl hdZ.toArray alloc_hd ?_; rw [← h4]; clear h4)
        | (refine wpList_store_abs rfl 132 _ _ rfl W3.heap.size 0 (hdC (n1 : Nat) r1) rfl rfl t4' HI1.out HO1.out ?_
           intro W5 hw5 hr5 _ht5 hb5
           have HB5 : Hid (Below w.heap.size w W5) := HB4.out.trans (hb5 w.heap.size (by omega))
           have s5 : W5.heap.size = W3.heap.size + 1 := (by rw [hw5, size_setCells]; exact s4)
           have HR5 : Hid (W5.rangeAt W3.heap.size 0 (hdC (n1 : Nat) r1)) := hr5
           have HL5 : Hid (ab < W5.heap.size) := Nat.lt_of_lt_of_le HLT.out HB5.out.size
           have J7 : W5.drew.cell? ⟨ab, 0, none⟩ = some (.string key) ∧ W5.drew.cell? ⟨ab, 1, none⟩ = some (.int .i64 (h : Nat)) := ⟨(HH.out.fresh HB5.out).cells 0 _ rfl, (HH.out.fresh HB5.out).cells 1 _ rfl⟩
           have hck := HCK.out W5.drew HB5.out.drew
           clear hw5 _ht5 hb5 hr5))
      refine wp_region_noPanic ?_
      refine wp_region_held_drew (S := fun W => W.cell? ⟨ab, 0, none⟩ = some (.string key) ∧ W.cell? ⟨ab, 1, none⟩ = some (.int .i64 (h : Nat))) (by kernel_rfl) J7 (fun _ => ?_)
      refine tk 0 J7 ?_
      refine tk 1 J7 ?_
      refine tk 2 J7 ?_
      refine tq (i := 3) (v := ?_) rfl J7 ?_ ?_
      rotate_left 1
      · intro W hSW; have q0 := hSW.1; clear hSW; go_simp; try with_reducible rfl
      simp only [qA, qB, qC, Act.put, qD, qE, qF]
      refine tk 4 J7 ?_
      refine tk 5 J7 ?_
      refine tk 6 J7 ?_
      refine tq (i := 7) (v := ?_) rfl J7 ?_ ?_
      rotate_left 1
      · intro W hSW; have q1 := hSW.2; clear hSW; go_simp; try with_reducible rfl
      simp only [qA, qB, qC, Act.put, qD, qE, qF]
      refine tk 8 J7 ?_
      refine tk 9 J7 ?_
      refine rk 10 (fun K' hK' => ?_)
      go_simp
      refine hck.mono ?_
      rintro e W6 ⟨rfl, b6⟩
      have b6' : Below W5.heap.size W5 W6 := ((Below.refl _ _).drew).trans b6
      have s6 : W5.heap.size ≤ W6.heap.size := b6'.size
      have J6 : W6.cell? ⟨ab, 0, none⟩ = some (.string key) ∧ W6.cell? ⟨ab, 1, none⟩ = some (.int .i64 (h : Nat)) := ⟨(b6'.cell (p := ⟨ab, 0, none⟩) HL5.out).trans J7.1, (b6'.cell (p := ⟨ab, 1, none⟩) HL5.out).trans J7.2⟩
      have HB6 : Hid (Below W5.heap.size W5 W6) := b6'
      clear hck b6 b6'
      refine hK'.out _ _ J6 (fun _ => ?_)
      clear hK' K'
      try simp only [qA, qB, qC, Act.put, qD, qE, qF]
      refine tk 11 J6 ?_
      refine tk 12 J6 ?_
      refine tk 13 J6 ?_
      refine tk 14 J6 ?_
      refine tk 15 J6 ?_
      refine ⟨by kernel_rfl, ?_⟩
      refine NoPanic.normal ?_
      try simp only [qA, qB, qC, Act.put, qD, qE, qF]
      have HB6w : Hid (Below w.heap.size w W6) := HB5.out.trans (HB6.out.mono HB5.out.size)
      clear J7 J6
      rcases HEV.out with ⟨hok, rfl⟩ | ⟨hok, rfl⟩
      · have A6 := HH.out.fresh HB6w.out
        have HJ : Hid (W6.rangeAt ab 2 (hdC (n0 : Nat) r0) ∧ W6.rangeAt W3.heap.size 0 (hdC (n1 : Nat) r1)) := ⟨au_head A6.cells, range_keep HR5.out HB6.out (by omega)⟩
        have HLL : Hid (ab < W6.heap.size ∧ W3.heap.size < W6.heap.size) := ⟨A6.lt, by omega⟩
        have J10 : W6.drew.rangeAt ab 2 (hdC (n0 : Nat) r0) ∧ W6.drew.rangeAt W3.heap.size 0 (hdC (n1 : Nat) r1) := HJ.out
        have hcg := acg_any K n0 n1 r0 r1 pf v W6.drew HH.out.r32 hr132 hn0 hnb (HLF.out.below HB6w.out.drew) hpf (HT.out.below HB6w.out.drew)
        have HE : Hid (advE K key h n0 r0 s pf = growV K n0 n1 r0 r1 pf) := by show _ = _; rw [HADV.out, if_neg (by rw [hok]; simp)]
        have hgf := growV_form K n0 n1 r0 r1 pf
        generalize growV K n0 n1 r0 r1 pf = gv at *
        clear hok A6 HADV
        go_wp2_with fail
        refine wp_region_noPanic ?_
        refine wp_region_held_drew (S := fun W => W.rangeAt ab 2 (hdC (n0 : Nat) r0) ∧ W.rangeAt W3.heap.size 0 (hdC (n1 : Nat) r1)) (by kernel_rfl) J10 (fun _ => ?_)
        refine tk 0 J10 ?_
        refine tk 1 J10 ?_
        refine tk 2 J10 ?_
        refine wpAnyH_take (i := 3) (v := .agg (hdC (n0 : Nat) r0).toArray) rfl (by kernel_rfl) (by kernel_rfl) (by kernel_rfl) (fun _ _ _ h => h) (yieldsIf_load_mid (by rfl) 132 _ rfl ab 2 rfl (hdC (n0 : Nat) r0) _ (fun W hW => hW.1) Tryz.underlying132 rfl HI0.out) J10 ?_
        simp only [qA, qB, qC, Act.put, qD, qE, qF]
        refine wpAnyH_take (i := 4) (v := .agg (hdC (n1 : Nat) r1).toArray) rfl (by kernel_rfl) (by kernel_rfl) (by kernel_rfl) (fun _ _ _ h => h) (yieldsIf_load_mid (by rfl) 132 _ rfl W3.heap.size 0 rfl (hdC (n1 : Nat) r1) _ (fun W hW => hW.2) Tryz.underlying132 rfl HI1.out) J10 ?_
        simp only [qA, qB, qC, Act.put, qD, qE, qF]
        refine tk 5 J10 ?_
        refine rk 6 (fun K' hK' => ?_)
        go_simp
        refine hcg.mono ?_
        rintro e W8 ⟨rfl, b8⟩
        have b8' : Below W6.heap.size W6 W8 := ((Below.refl _ _).drew).trans b8
        have J8 : W8.rangeAt ab 2 (hdC (n0 : Nat) r0) ∧ W8.rangeAt W3.heap.size 0 (hdC (n1 : Nat) r1) := ⟨range_keep HJ.out.1 b8' HLL.out.1, range_keep HJ.out.2 b8' HLL.out.2⟩
        have HB8 : Hid (Below W6.heap.size W6 W8) := b8'
        clear hcg b8 b8'
        refine hK'.out _ _ J8 (fun _ => ?_)
        clear hK' K'
        try simp only [qA, qB, qC, Act.put, qD, qE, qF]
        refine tk 7 J8 ?_
        refine ⟨by kernel_rfl, ?_⟩
        refine NoPanic.normal ?_
        try simp only [qA, qB, qC, Act.put, qD, qE, qF]
        have HB8w : Hid (Below w.heap.size w W8) := HB6w.out.trans (HB8.out.mono HB6w.out.size)
        rcases hgf with rfl | ⟨k, rfl⟩
        · have A8 := HH.out.fresh HB8w.out
          have J82 := J8.2
          have t8 : W8.there ab 2 (hdC (n1 : Nat) r1).length := fun j hj => by
            rw [hdC_len hr132] at hj
            have := A8.room (2 + j) (by omega)
            rwa [Nat.zero_add] at this
          have HA8 : Hid (AuAt W8 ab key h (n0 : Nat) r0) := A8
          clear A8 J8 J10
          generalize hhr : (hdC (n1 : Nat) r1).toArray = hha at *
          go_wp2_with (first
            | (refine wpList_load_mid rfl 132 _ rfl W3.heap.size 0 rfl (hdC (n1 : Nat) r1) _ J82 Tryz.underlying132 rfl HI1.out ?_; rw [hhr])
            | (refine wpList_store_abs rfl 132 _ _ rfl ab 2 (hdC (n1 : Nat) r1) rfl (by rw [hhr]; rfl) t8 HI1.out HO1.out ?_
               intro W9 hw9 hr9 _ht9 hb9
               have HW9 : Hid (W9 = W8.setCells ab 2 (hdC (n1 : Nat) r1)) := hw9
               clear hw9 _ht9 hb9 hr9))
          go_ret
          refine ⟨by rw [HE.out]; rfl, ?_, Or.inl ⟨HE.out, ?_⟩⟩
          · rw [HW9.out]; exact (Kept.fresh (S := (· = ab)) HB8w.out).trans (Kept.setCells (S := (· = ab)) _ _ _ _ (Or.inl rfl)) (fun _ _ h => h)
          · rw [HNR.out.1, HNR.out.2, HW9.out]; exact HA8.out.put hr132
        · clear J8 J10
          go_wp2_with fail
          go_ret
          exact ⟨by rw [HE.out]; rfl, Kept.fresh HB8w.out, Or.inr ⟨by rw [HE.out]; exact (fun e => by cases e), HH.out.fresh HB8w.out⟩⟩
      · have HE : Hid (advE K key h n0 r0 s pf = errSg) := by show _ = _; rw [HADV.out, if_pos hok]
        clear hok HADV HEV HCK
        unfold errSg at *
        go_wp2_with fail
        go_ret
        exact ⟨by rw [HE.out]; rfl, Kept.fresh HB6w.out, Or.inr ⟨by rw [HE.out]; exact (fun e => by cases e), HH.out.fresh HB6w.out⟩⟩
    · subst hcs
      rw [ho]
      have HE : Hid (advE K key h n0 r0 s pf = E9) := by
        show _ = _; unfold advE; rw [if_neg (by have := HS.out; omega), HM.out.1, if_pos ho]
      clear ho hm37
      go_wp2_with (first
        | (refine wpList_alloc_of rfl 132 rfl hdZ.toArray alloc_hd ?_; rw [← h4]; clear h4)
        | (refine wpList_store_abs rfl 132 _ _ rfl W3.heap.size 0 hdZ rfl rfl t4 hdZ_info hdZ_one ?_
           intro W5 hw5 hr5 _ht5 hb5
           have HB5 : Hid (Below w.heap.size w W5) := HB4.out.trans (hb5 w.heap.size (by omega))
           clear hw5 _ht5 hb5 hr5))
      go_ret
      exact ⟨by rw [HE.out]; rfl, Kept.fresh HB5.out, Or.inr ⟨by rw [HE.out]; unfold E9; exact (fun e => by cases e), HH.out.fresh HB5.out⟩⟩
  · have x1 : ((s.size : Int) != 37 + (SZ : Int)) = true := by rw [bne_iff_ne]; omega
    have x2 : ((s.size : Int) == 37 + (SZ : Int)) = false := by rw [beq_eq_false_iff_ne]; omega
    have HE : Hid (advE K key h n0 r0 s pf = E9) := by show _ = _; unfold advE; rw [if_pos hs]
    clear hs hSZ
    go_enter Tryz.func42, Tryz.ntmps42
    go_wp2_with fail
    refine hsz.mono ?_
    rintro e w1 ⟨rfl, hww⟩
    obtain rfl : w = w1 := hww.symm
    clear hww hsz
    go_wp2_with fail
    go_ret
    exact ⟨by rw [HE.out]; rfl, Kept.fresh (Below.refl _ _), Or.inr ⟨by rw [HE.out]; unfold E9; exact (fun e => by cases e), HH.out⟩⟩
set_option maxRecDepth 10000 in
set_option maxHeartbeats 4000000 in
/-- Confirm, of an event's bytes, at a place of the book. -/
theorem aconf_any (K : Nat → Int) (ab : Nat) (key : ByteArray) (h n0 i : Nat) (r0 b : ByteArray) (pf : List ByteArray) (v : Value) (w : World) (H : AuAt w ab key h (n0 : Nat) r0) (hi : i < n0) (hn0 : n0 ≤ 2147483647) (hg : goodB b = true) (hl : LeafAt w v pf) (hpf : pf.length ≤ 1000000000) (T : Tab K w) :
    Calls Tryz.prog 49 #[.pointer (some ⟨ab, 0, none⟩), .string b, .int .i64 (i : Nat), v] w fun e w' => e = .returned (chkV (inclOk K b i n0 r0 pf)) ∧ Below w.heap.size w w' := by
  have hb42 := good_len b hg
  have h32 : (b.extract 10 b.size).size = 32 := by rw [ByteArray.size_extract]; omega
  have hd := decode_any b w
  have HH : Hid (AuAt w ab key h (n0 : Nat) r0) := H
  have HG : Hid (goodB b = true) := hg
  have HIR : Hid ((Tryz.prog.info? 104).map (·.size) = some (hV r0).length) := hV_info H.r32
  have HFI : Hid ((Tryz.prog.info? 144).map (·.size) = some (fEv b).length) := by show _ = _; rw [info25, fEv_len b h32]
  have HFO : Hid (∀ u ∈ fEv b, u.oneCell' = true) := fEv_one b
  have HTC : Hid (∀ W, Below w.heap.size w W → Calls Tryz.prog 87 #[.string b, .int .i64 (i : Nat), .int .i64 (n0 : Nat), .string r0, v] W fun e w' => e = .returned (chkV (inclOk K b i n0 r0 pf)) ∧ Below W.heap.size W w') := fun W hb => tchk_any K b r0 i n0 pf v W (by omega) hi hn0 (hl.below hb) hpf (T.below hb)
  have HL38 : Hid ((fEv b).length = 38) := fEv_len b h32
  clear H hg hl T h32 hb42
  generalize chkV (inclOk K b i n0 r0 pf) = cv at *
  go_enter Tryz.func49, Tryz.ntmps49
  go_wp2_with fail
  refine hd.mono ?_
  rintro e W3 ⟨b3, cs, vv, rfl, hcs⟩
  obtain ⟨rfl, rfl⟩ : cs = fEv b ∧ vv = .nilIface := by
    rcases hcs with ⟨_, h1, h2⟩ | ⟨h0, _, _⟩
    · exact ⟨h1, h2⟩
    · rw [HG.out] at h0; cases h0
  have s3 := b3.size
  obtain ⟨W4, h4⟩ : ∃ X, X = W3.alloc (.cells zEvL.toArray 144) := ⟨_, rfl⟩
  have s4 : W4.heap.size = W3.heap.size + 1 := by rw [h4]; simp
  have t4 : W4.there W3.heap.size 0 (fEv b).length := by
    have := there_zev W3
    rw [zEv_len] at this
    rw [HL38.out, h4]; exact this
  have HB4 : Hid (Below w.heap.size w W4) := b3.trans (Below.mono (by rw [h4]; exact (Below.refl _ _).alloc (Nat.le_refl _) _) s3)
  clear hd hcs b3
  generalize hfe : (fEv b).toArray = fea at *
  go_wp2_with (first
    | (refine wpList_alloc_of rfl 144 rfl zEvL.toArray alloc_evZ ?_; rw [← h4]; clear h4)
    | (refine wpList_store_abs rfl 144 _ _ rfl W3.heap.size 0 (fEv b) rfl (by rw [hfe]; rfl) t4 HFI.out HFO.out ?_
       intro W5 hw5 hr5 _ht5 hb5
       have HB5 : Hid (Below w.heap.size w W5) := HB4.out.trans (hb5 w.heap.size (by omega))
       have J0 : W5.drew.rangeAt ab 0 (auC key h (n0 : Nat) r0) := (HH.out.fresh HB5.out).cells
       clear hw5 _ht5 hb5 hr5))
  refine wp_region_noPanic ?_
  refine wp_region_held_drew (S := fun W => W.rangeAt ab 0 (auC key h (n0 : Nat) r0)) (by kernel_rfl) J0 (fun _ => ?_)
  refine tk 0 J0 ?_
  refine tk 1 J0 ?_
  refine tk 2 J0 ?_
  refine tk 3 J0 ?_
  refine tk 4 J0 ?_
  refine tk 5 J0 ?_
  refine tq (i := 6) (v := ?_) rfl J0 ?_ ?_
  rotate_left 1
  · intro W hSW; have q2 : W.cell? ⟨ab, 2, none⟩ = some (.int .i64 (n0 : Nat)) := hSW 2 _ rfl; clear hSW; go_simp; try with_reducible rfl
  simp only [qA, qB, qC, Act.put, qD, qE, qF]
  refine tk 7 J0 ?_
  refine tk 8 J0 ?_
  refine tk 9 J0 ?_
  refine tk 10 J0 ?_
  refine wpAnyH_take (i := 11) (v := .agg (hV r0).toArray) rfl (by kernel_rfl) (by kernel_rfl) (by kernel_rfl) (fun _ _ _ h => h) (yieldsIf_load_mid (by rfl) 104 _ rfl ab 3 rfl (hV r0) _ (fun W hW => au_root hW) Tryz.underlying104 rfl HIR.out) J0 ?_
  simp only [qA, qB, qC, Act.put, qD, qE, qF]
  refine tk 13 J0 ?_
  refine rk 12 (fun K' hK' => ?_)
  go_simp
  refine (htx_any r0 HH.out.r32 W5.drew).mono ?_
  rintro e W6 ⟨rfl, b6⟩
  have b6' : Below W5.heap.size W5 W6 := ((Below.refl _ _).drew).trans b6
  have HB6 : Hid (Below w.heap.size w W6) := HB5.out.trans (b6'.mono HB5.out.size)
  have J6 : W6.rangeAt ab 0 (auC key h (n0 : Nat) r0) := (HH.out.fresh HB6.out).cells
  have htc := HTC.out W6 HB6.out
  clear b6 b6'
  refine hK'.out _ _ J6 (fun _ => ?_)
  clear hK' K'
  try simp only [qA, qB, qC, Act.put, qD, qE, qF]
  refine rk 14 (fun K' hK' => ?_)
  go_simp
  refine htc.mono ?_
  rintro e W7 ⟨rfl, b7⟩
  have HB7 : Hid (Below w.heap.size w W7) := HB6.out.trans (b7.mono HB6.out.size)
  have J7 : W7.rangeAt ab 0 (auC key h (n0 : Nat) r0) := (HH.out.fresh HB7.out).cells
  clear htc b7
  refine hK'.out _ _ J7 (fun _ => ?_)
  clear hK' K'
  try simp only [qA, qB, qC, Act.put, qD, qE, qF]
  refine tk 15 J7 ?_
  refine ⟨by kernel_rfl, ?_⟩
  refine NoPanic.normal ?_
  try simp only [qA, qB, qC, Act.put, qD, qE, qF]
  go_wp2_with fail
  go_ret
  exact ⟨rfl, HB7.out⟩

set_option maxHeartbeats 1000000 in
/-- The door's auditor. -/
theorem danew_any (K : Nat → Int) (key : ByteArray) (h : Nat) (w : World) (hk : key.size = 32) (hh : h ≤ 5) (T : Tab K w) :
    Calls Tryz.prog 16 #[.string key, .int .i64 (h : Nat)] w fun e w' => ∃ da ab, e = .returned (.tuple #[.pointer (some ⟨da, 0, none⟩), .nilIface]) ∧ w.heap.size ≤ ab ∧ w.heap.size ≤ da ∧ da ≠ ab ∧ da < w'.heap.size ∧ w'.cell? ⟨da, 0, none⟩ = some (.pointer (some ⟨ab, 0, none⟩)) ∧ AuAt w' ab key h 0 (root0 K) ∧ Below w.heap.size w w' := by
  have hn := anew_any K key h w hk hh T
  clear hk T
  go_enter Tryz.func16, Tryz.ntmps16
  go_wp2_with fail
  refine hn.mono ?_
  rintro e w1 ⟨ab, rfl, hlo, A1, b1⟩
  have s1 := b1.size
  have l1 := A1.lt
  obtain ⟨w2, h2⟩ : ∃ X, X = w1.alloc (.cells #[.pointer (some ⟨ab, 0, none⟩)] 97) := ⟨_, rfl⟩
  have b2 : Below w1.heap.size w1 w2 := by rw [h2]; exact (Below.refl _ _).alloc (Nat.le_refl _) _
  have HR : Hid (w2.cell? ⟨w1.heap.size, 0, none⟩ = some (.pointer (some ⟨ab, 0, none⟩)) ∧ w1.heap.size < w2.heap.size) := ⟨by rw [h2, World.cell?_alloc_at _ _ _ _ rfl]; rfl, by rw [h2]; simp⟩
  have HA2 : Hid (AuAt w2 ab key h 0 (root0 K)) := A1.fresh b2
  have HB2 : Hid (Below w.heap.size w w2) := b1.trans (b2.mono s1)
  clear hn A1 b1 b2
  go_wp2_with (first | (rw [← h2]; clear h2))
  go_ret2
  exact ⟨w1.heap.size, ab, rfl, hlo, s1, by omega, HR.out.2, HR.out.1, HA2.out, HB2.out⟩
set_option maxHeartbeats 1000000 in
theorem dhead_any (xn nd : Nat) (Q : Ending → World → Prop) (w : World) (hx : w.cell? ⟨xn, 0, none⟩ = some (.pointer (some ⟨nd, 0, none⟩))) (h : Calls Tryz.prog 40 #[.pointer (some ⟨nd, 0, none⟩)] w (fun e w' => (∃ (a : Value) (b : Value), e = .returned (.tuple #[a, b])) ∧ Q e w')) :
    Calls Tryz.prog 17 #[.pointer (some ⟨xn, 0, none⟩)] w Q := by
  go_enter Tryz.func17, Tryz.ntmps17
  go_wp2_with fail
  refine h.mono ?_
  rintro e w1 ⟨⟨a, b, rfl⟩, hQ⟩
  clear h
  go_wp2_with fail
  first
    | exact hQ
    | (go_ret2; exact hQ)
set_option maxHeartbeats 1000000 in
theorem dgrown_any (xn nd : Nat) (i n : Int) (Q : Ending → World → Prop) (w : World) (hx : w.cell? ⟨xn, 0, none⟩ = some (.pointer (some ⟨nd, 0, none⟩))) (h : Calls Tryz.prog 41 #[.pointer (some ⟨nd, 0, none⟩), .int .i64 i, .int .i64 n] w (fun e w' => (∃ (a : Value) (b : Value), e = .returned (.tuple #[a, b])) ∧ Q e w')) :
    Calls Tryz.prog 18 #[.pointer (some ⟨xn, 0, none⟩), .int .i64 i, .int .i64 n] w Q := by
  go_enter Tryz.func18, Tryz.ntmps18
  go_wp2_with fail
  refine h.mono ?_
  rintro e w1 ⟨⟨a, b, rfl⟩, hQ⟩
  clear h
  go_wp2_with fail
  first
    | exact hQ
    | (go_ret2; exact hQ)
set_option maxHeartbeats 1000000 in
theorem devent_any (xn nd : Nat) (i n : Int) (Q : Ending → World → Prop) (w : World) (hx : w.cell? ⟨xn, 0, none⟩ = some (.pointer (some ⟨nd, 0, none⟩))) (h : Calls Tryz.prog 48 #[.pointer (some ⟨nd, 0, none⟩), .int .i64 i, .int .i64 n] w (fun e w' => (∃ (a : Value) (b : Value) (c : Value), e = .returned (.tuple #[a, b, c])) ∧ Q e w')) :
    Calls Tryz.prog 24 #[.pointer (some ⟨xn, 0, none⟩), .int .i64 i, .int .i64 n] w Q := by
  go_enter Tryz.func24, Tryz.ntmps24
  go_wp2_with fail
  refine h.mono ?_
  rintro e w1 ⟨⟨a, b, c, rfl⟩, hQ⟩
  clear h
  go_wp2_with fail
  first
    | exact hQ
    | (go_ret3; exact hQ)
set_option maxHeartbeats 1000000 in
theorem datrust_any (xn nd : Nat) (Q : Ending → World → Prop) (w : World) (hx : w.cell? ⟨xn, 0, none⟩ = some (.pointer (some ⟨nd, 0, none⟩))) (h : Calls Tryz.prog 43 #[.pointer (some ⟨nd, 0, none⟩)] w (fun e w' => (∃ (a : Value) (b : Value), e = .returned (.tuple #[a, b])) ∧ Q e w')) :
    Calls Tryz.prog 21 #[.pointer (some ⟨xn, 0, none⟩)] w Q := by
  go_enter Tryz.func21, Tryz.ntmps21
  go_wp2_with fail
  refine h.mono ?_
  rintro e w1 ⟨⟨a, b, rfl⟩, hQ⟩
  clear h
  go_wp2_with fail
  first
    | exact hQ
    | (go_ret2; exact hQ)
set_option maxHeartbeats 1000000 in
theorem daadv_any (xn nd : Nat) (s : ByteArray) (v : Value) (Q : Ending → World → Prop) (w : World) (hx : w.cell? ⟨xn, 0, none⟩ = some (.pointer (some ⟨nd, 0, none⟩))) (h : Calls Tryz.prog 42 #[.pointer (some ⟨nd, 0, none⟩), .string s, v] w (fun e w' => (∃ (a : Value), e = .returned a) ∧ Q e w')) :
    Calls Tryz.prog 19 #[.pointer (some ⟨xn, 0, none⟩), .string s, v] w Q := by
  go_enter Tryz.func19, Tryz.ntmps19
  go_wp2_with fail
  refine h.mono ?_
  rintro e w1 ⟨⟨a, rfl⟩, hQ⟩
  clear h
  go_wp2_with fail
  first
    | exact hQ
    | (go_ret; exact hQ)
set_option maxHeartbeats 1000000 in
theorem daconf_any (xn nd : Nat) (s : ByteArray) (i : Int) (v : Value) (Q : Ending → World → Prop) (w : World) (hx : w.cell? ⟨xn, 0, none⟩ = some (.pointer (some ⟨nd, 0, none⟩))) (h : Calls Tryz.prog 49 #[.pointer (some ⟨nd, 0, none⟩), .string s, .int .i64 i, v] w (fun e w' => (∃ (a : Value), e = .returned a) ∧ Q e w')) :
    Calls Tryz.prog 25 #[.pointer (some ⟨xn, 0, none⟩), .string s, .int .i64 i, v] w Q := by
  go_enter Tryz.func25, Tryz.ntmps25
  go_wp2_with fail
  refine h.mono ?_
  rintro e w1 ⟨⟨a, rfl⟩, hQ⟩
  clear h
  go_wp2_with fail
  first
    | exact hQ
    | (go_ret; exact hQ)
end Go.Proofs.YteglimjonofdeaaGreatDoor
