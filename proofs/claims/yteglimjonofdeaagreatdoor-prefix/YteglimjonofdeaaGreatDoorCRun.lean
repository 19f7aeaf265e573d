import Derived.Test.YteglimjonofdeaaGreatDoorCRunM
set_option linter.unusedVariables false
set_option linter.unusedSimpArgs false
namespace Go.Proofs.YteglimjonofdeaaGreatDoor
open Go.RowKit

/-- What run's outer loop keeps: the packets so far came so often. -/
def RO (K : Nat → Int) (rs : List Rq) (dr : Nat → Nat) (s : PS) (tb : Nat) (O : Nat → Prop) (w : World) (J : List Pk) (ns : List Int) (ts : List Nat) (ao : Option Addr) (n cap : Nat) (wr : World) : Prop :=
  (∀ t ∈ ts, t ≤ 2) ∧ (ns = [] → ∀ t ∈ ts, t = 1) ∧ (∀ (k n : Nat), J[k]? = some (Pk.A n) → k < ts.length → ts[k]? = some 1) ∧ ∃ Lo O', Rn K rs dr s tb O w (sched (J.take ts.length) ts) ao n cap Lo O' wr
theorem RO.snoc {K : Nat → Int} {rs : List Rq} {dr : Nat → Nat} {s : PS} {tb : Nat} {O : Nat → Prop} {w : World} {J : List Pk} {ns : List Int} {ts : List Nat} {ao : Option Addr} {n cap t : Nat} {wr : World} {p : Pk} {Lo : List (Int × ByteArray)} {O' : Nat → Prop} (h1 : ∀ t ∈ ts, t ≤ 2) (h2 : ns = [] → ∀ t ∈ ts, t = 1) (h3 : ∀ (k n : Nat), J[k]? = some (Pk.A n) → k < ts.length → ts[k]? = some 1) (hp : J[ts.length]? = some p) (ht : t ≤ 2) (ht1 : ns = [] → t = 1) (htA : isA p = true → t = 1) (h : Rn K rs dr s tb O w (sched (J.take ts.length) ts ++ List.replicate t p) ao n cap Lo O' wr) : RO K rs dr s tb O w J ns (ts ++ [t]) ao n cap wr := by
  refine ⟨fun x hx => ?_, fun e x hx => ?_, fun k n hk hlt => ?_, Lo, O', by rw [List.length_append, List.length_singleton, sched_snoc J ts p t hp]; exact h⟩
  · rcases List.mem_append.1 hx with hx | hx
    · exact h1 x hx
    · rw [List.mem_singleton.1 hx]; exact ht
  · rcases List.mem_append.1 hx with hx | hx
    · exact h2 e x hx
    · rw [List.mem_singleton.1 hx]; exact ht1 e
  · rw [List.length_append, List.length_singleton] at hlt
    by_cases e : k < ts.length
    · rw [List.getElem?_append_left e]; exact h3 k n hk e
    · obtain rfl : k = ts.length := by omega
      rw [hp] at hk
      obtain rfl : p = Pk.A n := by simpa using hk
      rw [List.getElem?_append_right (Nat.le_refl _), Nat.sub_self]
      rw [htA rfl]; rfl
theorem tab5 (w : World) : (Instr.buildSlice 46 5 #[(0, .int .i64 1), (1, .int .i64 1), (2, .int .i64 1), (3, .int .i64 0), (4, .int .i64 2)]).run Tryz.prog w = .ok (.slice (some ⟨w.heap.size, 0, none⟩) 5 5) (w.alloc (.cells #[.int .i64 1, .int .i64 1, .int .i64 1, .int .i64 0, .int .i64 2] 3)) := by kernel_rfl
def tv (r : Nat) : Nat := [1, 1, 1, 0, 2].getD r 0
theorem act_eq {P : Program} {c : Code} {Q : Exit → Act → World → Prop} {a a' : Act} {w : World} (h : a = a') (g : Code.wp P c Q a' w) : Code.wp P c Q a w := h ▸ g
theorem tv_le (r : Nat) : tv r ≤ 2 := by
  unfold tv
  match r with
  | 0 | 1 | 2 | 3 | 4 => decide
  | r + 5 => simp

set_option maxRecDepth 10000 in
set_option maxHeartbeats 16000000 in
/-- run: each packet comes as often as the numbers say. -/
theorem run_any (K : Nat → Int) (rs : List Rq) (dr : Nat → Nat) (s : PS) (O : Nat → Prop) (i : Nat) (J : List Pk) (L : List (Int × ByteArray)) (lb lcap : Nat) (wa : Option Addr) (wn wcap : Nat) (ha : Option Addr) (hn hcap : Nat) (ns : List Int) (at_ : Nat) (tb tcap : Nat) (w : World)
    (hr : RsOk rs) (hi : i ≤ 12) (hPI : PInv i s) (hok : ∀ p ∈ J, okP s p) (hM : Match rs J L) (hC : Cst K rs dr s O w) (hlr : w.rangeAt lb 0 [.pointer (some ⟨dr 0, 0, none⟩), .pointer (some ⟨dr 1, 0, none⟩), .pointer (some ⟨dr 2, 0, none⟩)]) (hlb : lb < w.heap.size) (hlO : ¬ O lb) (hlt : lb ≠ tb)
    (hway : OutAt w (.slice wa wn wcap) L) (hwn : wn = L.length) (hwO : ∀ g, wa = some ⟨g, 0, none⟩ → ¬ O g ∧ g ≠ tb) (hhow : HowAt w (.slice ha hn hcap) ns) (hhn : hn = ns.length) (hhO : 0 < hn → ∀ g off, ha = some ⟨g, off, none⟩ → ¬ O g ∧ g ≠ tb) (hnsb : ∀ x ∈ ns, -9223372036854775808 ≤ x ∧ x ≤ 9223372036854775807) (hnl : hn ≤ 140737488355328)
    (hat : at_ ≤ 100000) (hT : ToldAt w tb s) (htO : ¬ O tb) (hTl : 1 < w.heap.size) (htT : tb ≠ 1) (hdd : ∀ j, j < 3 → dr j ≠ tb ∧ dr j < w.heap.size) (hL : L.length ≤ 100000)
    (hA : ∀ (k n : Nat), J[k]? = some (Pk.A n) → n < 60 ∧ n ∉ s.told ∧ ∀ k', k' < k → J[k']? ≠ some (Pk.A n)) :
    Calls Tryz.prog 14 #[.slice (some ⟨lb, 0, none⟩) 3 lcap, .slice wa wn wcap, .slice ha hn hcap, .int .i64 (at_ : Nat), .slice (some ⟨tb, 0, none⟩) 60 tcap] w fun e w' => ∃ ts ao n cap, e = .returned (.tuple #[.slice ao n cap, .bool true]) ∧ ts.length = min 30 J.length ∧ RO K rs dr s tb O w J ns ts ao n cap w' := by
  have HLB : Hid (lb < w.heap.size ∧ ¬ O lb ∧ lb ≠ tb) := ⟨hlb, hlO, hlt⟩
  have HLRa : Hid (∀ kk, kk < 3 → w.cell? ⟨lb, kk, none⟩ = some (.pointer (some ⟨dr kk, 0, none⟩))) := fun kk hk => by
    obtain rfl | rfl | rfl : kk = 0 ∨ kk = 1 ∨ kk = 2 := by omega
    · exact hlr 0 _ rfl
    · exact hlr 1 _ rfl
    · exact hlr 2 _ rfl
  have HTB : Hid (¬ O tb ∧ tb < w.heap.size ∧ 1 < w.heap.size ∧ ∀ j, j < 3 → dr j < w.heap.size) := ⟨htO, hT.1, hTl, fun j hj => (hdd j hj).2⟩
  have HTT : Hid (tb ≠ 1 ∧ ∀ j, j < 3 → dr j ≠ tb) := ⟨htT, fun j hj => (hdd j hj).1⟩
  have HM : Hid (Match rs J L) := hM
  have HMP : Hid (RsOk rs ∧ PInv i s ∧ ∀ p ∈ J, okP s p) := ⟨hr, hPI, hok⟩
  have HWAY : Hid (OutAt w (.slice wa wn wcap) L) := hway
  have HWO : Hid (∀ g, wa = some ⟨g, 0, none⟩ → ¬ O g ∧ g ≠ tb) := hwO
  have HHOW : Hid (HowAt w (.slice ha hn hcap) ns) := hhow
  have HHO : Hid (0 < hn → ∀ g off, ha = some ⟨g, off, none⟩ → ¬ O g ∧ g ≠ tb) := hhO
  have HNS : Hid (∀ x ∈ ns, -9223372036854775808 ≤ x ∧ x ≤ 9223372036854775807) := hnsb
  have HHN : Hid (hn = ns.length) := hhn
  have HWN : Hid (wn = L.length) := hwn
  have HA : Hid (∀ (k n : Nat), J[k]? = some (Pk.A n) → n < 60 ∧ n ∉ s.told ∧ ∀ k', k' < k → J[k']? ≠ some (Pk.A n)) := hA
  have HJL : Hid (J.length = L.length) := hM.1
  have HS0 : Hid (RO K rs dr s tb O w J ns [] none 0 0 w) := ⟨fun t ht => (by cases ht), fun _ t ht => (by cases ht), fun k n _ hk => (by simp at hk), [], O, ⟨hC, Match.nil rs, rfl, ⟨rfl, Or.inl ⟨rfl, rfl⟩⟩, hT, Kept.refl _ _, fun g hg => Or.inl hg, fun g hg => by cases hg⟩⟩
  have hwn2 : wn ≤ 100000 := by omega
  have hpkb := pk_info
  clear hM hr hPI hok hway hwO hhow hhO hnsb hhn hA hT htO htT hdd hC hlr hlO hlt
  go_enter Tryz.func14, Tryz.ntmps14
  go_wp2_with fail
  go_loopw [12, 13] (fun v iv wr => ∃ (ts : List Nat) (ao : Option Addr) (n cap : Nat), v = .slice ao n cap ∧ iv = .int .i64 (ts.length : Nat) ∧ Hid (RO K rs dr s tb O w J ns ts ao n cap wr) ∧ ts.length ≤ 30 ∧ ts.length ≤ J.length) (fun _ iv _ => 31 - (intOf iv).toNat)
  case atStart => exact ⟨[], none, 0, 0, rfl, rfl, HS0, by simp, by simp⟩
  case round =>
    obtain ⟨ts, ao, n, cap, rfl, rfl, hRO, h30, hJle⟩ := hrel
    obtain ⟨k, hk⟩ : ∃ k, k = ts.length := ⟨_, rfl⟩
    rw [← hk] at h30 hJle ⊢
    by_cases hlt : k < J.length ∧ k < 30
    · obtain ⟨hk1, hk2⟩ := hlt
      have t1 : (k : Int) < (wn : Int) := by have := HWN.out; have := HJL.out; omega
      have t2 : (k : Int) < 30 := by omega
      have t0 : (0 : Int) ≤ (k : Int) := by omega
      have t9 : (k : Int) < 1000 := by omega
      obtain ⟨p, hp⟩ : ∃ p, J[k]? = some p := ⟨_, List.getElem?_eq_getElem hk1⟩
      obtain ⟨⟨ad, b⟩, hx⟩ : ∃ x, L[k]? = some x := ⟨_, List.getElem?_eq_getElem (by have := HJL.out; omega)⟩
      have hpk := HM.out.2 k p (ad, b) hp hx
      simp only at hpk
      obtain ⟨g, cp, hgw, hgl, hgr⟩ : ∃ g cp, Value.slice wa wn wcap = .slice (some ⟨g, 0, none⟩) L.length cp ∧ g < w.heap.size ∧ w.rangeAt g 0 (wayC L) := by
        rcases HWAY.out with ⟨e, e2⟩ | ⟨g, cp, h1, h2, h3⟩
        · rw [e2] at hx; simp at hx
        · exact ⟨g, cp, h1, h2, h3⟩
      have hwa : wa = some ⟨g, 0, none⟩ := by injection hgw
      obtain ⟨hts1, hts2, hts3, Lo, O', hR⟩ := hRO.out
      have hgo := HWO.out g hwa
      obtain ⟨c1, c2⟩ := wayC_get L k (ad, b) hx
      have rg : wr.rangeAt g (k * 2) (pkC ad b) := fun y u hu => by
        refine (hR.kept.cell (a := ⟨g, k * 2 + y, none⟩) hgl (fun e => by rcases e with e | e; exact hgo.1 e; exact hgo.2 e)).trans ?_
        have : (wayC L)[k * 2 + y]? = some u := by
          have hy : y < 2 := (List.getElem?_eq_some_iff.1 hu).1
          obtain rfl | rfl : y = 0 ∨ y = 1 := by omega
          · rw [Nat.add_zero, c1]; exact hu
          · rw [c2]; exact hu
        have h2 := hgr (k * 2 + y) u this
        rw [Nat.zero_add] at h2
        exact h2
      have HTS : Hid ((∀ t ∈ ts, t ≤ 2) ∧ (ns = [] → ∀ t ∈ ts, t = 1) ∧ (∀ (k n : Nat), J[k]? = some (Pk.A n) → k < ts.length → ts[k]? = some 1)) := ⟨hts1, hts2, hts3⟩
      have HPK : Hid (J[ts.length]? = some p) := by rw [← hk]; exact hp
      obtain ⟨ps, hps⟩ : ∃ ps, ps = sched (J.take ts.length) ts := ⟨_, rfl⟩
      have HPSE : Hid (ps = sched (J.take ts.length) ts) := hps
      rw [← hps] at hR
      have HPS : Hid (ps.length ≤ 60) := by have := sched_len (J.take ts.length) ts hts1; rw [← hps] at this; show _ ≤ _; omega
      have HR : Hid (Rn K rs dr s tb O w ps ao n cap Lo O' wr) := hR
      obtain ⟨W1, h1⟩ : ∃ X, X = wr.alloc (.cells #[.int .i64 0, .string ⟨#[]⟩] 44) := ⟨_, rfl⟩
      have s1 : W1.heap.size = wr.heap.size + 1 := by rw [h1]; simp
      have b1 : Below wr.heap.size wr W1 := by rw [h1]; exact (Below.refl _ _).alloc (Nat.le_refl _) _
      have tt1 : W1.there wr.heap.size 0 (pkC ad b).length := by rw [h1]; exact there_new wr #[.int .i64 0, .string ⟨#[]⟩] _
      have HKN : Hid (k = ts.length) := hk
      have HPAT : Hid (PkAt rs p ad b) := hpk
      subst hwa
      clear hgr c1 c2 hgo hR hRO hts1 hts2 hts3 hpk hps hp hx hk hgw hwn
      generalize hcs : (pkC ad b).toArray = cs at *
      cases eA : isA p with
      | true =>
        obtain ⟨m, rfl⟩ : ∃ m, p = Pk.A m := by cases p <;> first | exact ⟨_, rfl⟩ | (simp [isA] at eA)
        obtain ⟨rfl, hb5, hb6, hdig⟩ := HPAT.out
        obtain ⟨hm60, hmt, hfst⟩ := HA.out ts.length m HPK.out
        have hnt : m ∉ (deliver s ps).1.told := fun e => by
          rcases deliver_only ps s m e with e | e
          · exact hmt e
          · rw [HPSE.out] at e
            obtain ⟨k', hk'⟩ := List.getElem?_of_mem (sched_mem _ _ _ e)
            have hlt : k' < (J.take ts.length).length := (List.getElem?_eq_some_iff.1 hk').1
            rw [List.length_take] at hlt
            rw [List.getElem?_take_of_lt (by omega)] at hk'
            exact hfst k' (by omega) hk'
        obtain ⟨bt, ht1, ht2⟩ := HR.out.told.2.2 m hm60
        have hbt : bt = ⟨#[]⟩ := by
          have := ht2.2 hnt
          obtain ⟨⟨l⟩⟩ := bt
          have : l = [] := List.eq_nil_of_length_eq_zero this
          rw [this]
        subst hbt
        have hsz : (5 : Int) ≤ (b.size : Int) := by omega
        have hsz2 : (b.size : Int) ≤ 1000 := by omega
        have u3 : ¬ (60 : Int) ≤ (m : Int) := by omega
        have u4 : (0 : Int) ≤ (m : Int) := by omega
        have u5 : (m : Int) < 60 := by omega
        have hbyte : ∀ (c : Nat) (q : c + 1 < b.size), c < 4 → ((b[c + 1]'q).toNat : Int) = if c = 3 then (m : Int) else 0 := fun c q hc => by
          rw [bAt_eq b (c + 1) q, Nat.add_comm c 1, hdig c hc]
          obtain rfl | rfl | rfl | rfl : c = 0 ∨ c = 1 ∨ c = 2 ∨ c = 3 := by omega
          all_goals (simp [fourN]; omega)
        have HBY : Hid (∀ (c : Nat) (q : c + 1 < b.size), c < 4 → ((b[c + 1]'q).toNat : Int) = if c = 3 then (m : Int) else 0) := hbyte
        have HB0 : Hid (b.size ≠ 0) := by show _ ≠ _; omega
        have HHT : Hid (wr.cell? ⟨tb, m, none⟩ = some (.string ⟨#[]⟩) ∧ tb < wr.heap.size) := ⟨ht1, HR.out.told.1⟩
        clear hdig hb5 hb6 hbyte ht1 ht2 hnt hmt hfst eA
        go_wp2_with (first
          | (refine wpList_load_mid rfl 44 _ rfl g (k * 2) rfl (pkC 11 b) _ rg Tryz.underlying44 rfl (hpkb 11 b) ?_; rw [hcs])
          | (rw [← h1]; clear h1)
          | (refine wpList_store_abs rfl 44 _ _ rfl wr.heap.size 0 (pkC 11 b) rfl (by rw [hcs]; rfl) tt1 (pkC_info 11 b) (pkC_one 11 b) ?_
             intro W2 hw2 hr2 _ht2 hb2
             have B2 : Hid (Below wr.heap.size wr W2) := b1.trans (hb2 wr.heap.size (Nat.le_refl _))
             have s2 : W2.heap.size = wr.heap.size + 1 := (by rw [hw2, size_setCells]; exact s1)
             have p0 : W2.cell? ⟨wr.heap.size, 0, none⟩ = some (.int .i64 11) := hr2 0 _ rfl
             have p1 : W2.cell? ⟨wr.heap.size, 1, none⟩ = some (.string b) := hr2 1 _ rfl
             clear _ht2 hw2 hb2 hr2 rg tt1 b1))
        have HP1 : Hid (W2.cell? ⟨wr.heap.size, 1, none⟩ = some (.string b)) := p1
        go_loopw [15, 16] (fun nv kv w2 => ∃ c : Nat, c ≤ 4 ∧ kv = .int .i64 ((c + 1 : Nat) : Int) ∧ nv = .int .i64 (if c = 4 then (m : Int) else 0) ∧ W2 = w2) (fun _ kv _ => 6 - (intOf kv).toNat)
        case atStart => exact ⟨0, by omega, rfl, rfl, rfl⟩
        case round =>
          obtain ⟨c, hc, rfl, rfl, rfl⟩ := hrel
          by_cases hc4 : c < 4
          · have v1 : ((c + 1 : Nat) : Int) < 5 := by omega
            have v2 : ((c + 1 : Nat) : Int) < (b.size : Int) := by omega
            have v3 : (0 : Int) ≤ ((c + 1 : Nat) : Int) := by omega
            have hlt : c + 1 < b.size := by omega
            have hby := HBY.out c hlt hc4
            have hne : ¬ c = 4 := by omega
            rw [if_neg hne]
            go_wp2_with fail
            refine ⟨⟨c + 1, by omega, by first | rfl | (congr 1), ?_, by first | rfl | trivial⟩, ?_⟩
            · obtain rfl | hc3 : c = 3 ∨ c < 3 := by omega
              · simp at hby ⊢; first | done | omega
              · rw [if_neg (by omega)]
                rw [if_neg (by omega)] at hby
                simp; first | done | omega
            · simp [intOf]; first | done | omega
          · obtain rfl : c = 4 := by omega
            rw [if_pos rfl]
            have J0 : W2.drew.cell? ⟨wr.heap.size, 0, none⟩ = some (.int .i64 11) ∧ W2.drew.cell? ⟨tb, m, none⟩ = some (.string ⟨#[]⟩) := ⟨p0, (B2.out.cell (p := ⟨tb, m, none⟩) HHT.out.2).trans HHT.out.1⟩
            go_wp2_with fail
            refine wp_region_noPanic ?_
            refine wp_region_held_drew (S := fun W => W.cell? ⟨wr.heap.size, 0, none⟩ = some (.int .i64 11) ∧ W.cell? ⟨tb, m, none⟩ = some (.string ⟨#[]⟩)) (by kernel_rfl) J0 (fun _ => ?_)
            refine wpAnyH_take (i := 0) (v := ?_) rfl (by kernel_rfl) (by kernel_rfl) (by kernel_rfl) (fun _ _ _ h => h) (Or.inl ⟨by rfl, ?_⟩) J0 ?_
            rotate_left 1
            · intro W hSW; clear hSW; go_simp; try with_reducible rfl
            simp only [qA, qB, qC, Act.put, qD, qE, qF]
            refine wpAnyH_take (i := 1) (v := ?_) rfl (by kernel_rfl) (by kernel_rfl) (by kernel_rfl) (fun _ _ _ h => h) (Or.inl ⟨by rfl, ?_⟩) J0 ?_
            rotate_left 1
            · intro W hSW; have q0 := hSW.1; clear hSW; go_simp; try with_reducible rfl
            simp only [qA, qB, qC, Act.put, qD, qE, qF]
            refine wpAnyH_take (i := 2) (v := .bool false) rfl (by kernel_rfl) (by kernel_rfl) (by kernel_rfl) (fun _ _ _ h => h) (Or.inl ⟨by rfl, ?_⟩) J0 ?_
            · intro W hSW; clear hSW; go_simp; try simp []
            simp only [qA, qB, qC, Act.put, qD, qE, qF]
            refine wpAnyH_take (i := 3) (v := .bool false) rfl (by kernel_rfl) (by kernel_rfl) (by kernel_rfl) (fun _ _ _ h => h) (Or.inl ⟨by rfl, ?_⟩) J0 ?_
            · intro W hSW; clear hSW; go_simp; try simp []
            simp only [qA, qB, qC, Act.put, qD, qE, qF]
            refine wpAnyH_take (i := 4) (v := ?_) rfl (by kernel_rfl) (by kernel_rfl) (by kernel_rfl) (fun _ _ _ h => h) (Or.inl ⟨by rfl, ?_⟩) J0 ?_
            rotate_left 1
            · intro W hSW; clear hSW; go_simp; try with_reducible rfl
            simp only [qA, qB, qC, Act.put, qD, qE, qF]
            refine wpAnyH_take (i := 5) (v := ?_) rfl (by kernel_rfl) (by kernel_rfl) (by kernel_rfl) (fun _ _ _ h => h) (Or.inl ⟨by rfl, ?_⟩) J0 ?_
            rotate_left 1
            · intro W hSW; clear hSW; go_simp; try with_reducible rfl
            simp only [qA, qB, qC, Act.put, qD, qE, qF]
            refine wpAnyH_take (i := 6) (v := .int .i64 60) rfl (by kernel_rfl) (by kernel_rfl) (by kernel_rfl) (fun _ _ _ h => h) (Or.inl ⟨by rfl, ?_⟩) J0 ?_
            · intro W hSW; clear hSW; go_simp; try simp []
            simp only [qA, qB, qC, Act.put, qD, qE, qF]
            refine wpAnyH_take (i := 7) (v := .bool false) rfl (by kernel_rfl) (by kernel_rfl) (by kernel_rfl) (fun _ _ _ h => h) (Or.inl ⟨by rfl, ?_⟩) J0 ?_
            · intro W hSW; clear hSW; go_simp; try simp [u3]
            simp only [qA, qB, qC, Act.put, qD, qE, qF]
            refine wpAnyH_take (i := 8) (v := .bool false) rfl (by kernel_rfl) (by kernel_rfl) (by kernel_rfl) (fun _ _ _ h => h) (Or.inl ⟨by rfl, ?_⟩) J0 ?_
            · intro W hSW; clear hSW; go_simp; try simp []
            simp only [qA, qB, qC, Act.put, qD, qE, qF]
            refine wpAnyH_take (i := 9) (v := .bool false) rfl (by kernel_rfl) (by kernel_rfl) (by kernel_rfl) (fun _ _ _ h => h) (Or.inl ⟨by rfl, ?_⟩) J0 ?_
            · intro W hSW; clear hSW; go_simp; try simp []
            simp only [qA, qB, qC, Act.put, qD, qE, qF]
            refine wpAnyH_take (i := 10) (v := ?_) rfl (by kernel_rfl) (by kernel_rfl) (by kernel_rfl) (fun _ _ _ h => h) (Or.inl ⟨by rfl, ?_⟩) J0 ?_
            rotate_left 1
            · intro W hSW; clear hSW; go_simp; try with_reducible rfl
            simp only [qA, qB, qC, Act.put, qD, qE, qF]
            refine wpAnyH_take (i := 11) (v := ?_) rfl (by kernel_rfl) (by kernel_rfl) (by kernel_rfl) (fun _ _ _ h => h) (Or.inl ⟨by rfl, ?_⟩) J0 ?_
            rotate_left 1
            · intro W hSW; clear hSW; go_simp; try with_reducible rfl
            simp only [qA, qB, qC, Act.put, qD, qE, qF]
            refine wpAnyH_take (i := 12) (v := ?_) rfl (by kernel_rfl) (by kernel_rfl) (by kernel_rfl) (fun _ _ _ h => h) (Or.inl ⟨by rfl, ?_⟩) J0 ?_
            rotate_left 1
            · intro W hSW; clear hSW; go_simp; try with_reducible rfl
            simp only [qA, qB, qC, Act.put, qD, qE, qF]
            refine wpAnyH_take (i := 13) (v := .string ⟨#[]⟩) rfl (by kernel_rfl) (by kernel_rfl) (by kernel_rfl) (fun _ _ _ h => h) (Or.inl ⟨by rfl, ?_⟩) J0 ?_
            · intro W hSW; have q0 := hSW.2; clear hSW; go_simp; try simp []
            simp only [qA, qB, qC, Act.put, qD, qE, qF]
            refine wpAnyH_take (i := 14) (v := .bool false) rfl (by kernel_rfl) (by kernel_rfl) (by kernel_rfl) (fun _ _ _ h => h) (Or.inl ⟨by rfl, ?_⟩) J0 ?_
            · intro W hSW; clear hSW; go_simp; try simp []
            simp only [qA, qB, qC, Act.put, qD, qE, qF]
            refine wpAnyH_take (i := 15) (v := .bool false) rfl (by kernel_rfl) (by kernel_rfl) (by kernel_rfl) (fun _ _ _ h => h) (Or.inl ⟨by rfl, ?_⟩) J0 ?_
            · intro W hSW; clear hSW; go_simp; try simp []
            simp only [qA, qB, qC, Act.put, qD, qE, qF]
            refine wpAnyH_take (i := 16) (v := undef) rfl (by kernel_rfl) (by kernel_rfl) (by kernel_rfl) (fun _ _ _ h => h) (Or.inr ⟨by rfl, rfl⟩) J0 ?_
            simp only [qA, qB, qC, Act.put, qD, qE, qF]
            refine wpAnyH_take (i := 17) (v := undef) rfl (by kernel_rfl) (by kernel_rfl) (by kernel_rfl) (fun _ _ _ h => h) (Or.inr ⟨by rfl, rfl⟩) J0 ?_
            simp only [qA, qB, qC, Act.put, qD, qE, qF]
            refine wpAnyH_take (i := 18) (v := undef) rfl (by kernel_rfl) (by kernel_rfl) (by kernel_rfl) (fun _ _ _ h => h) (Or.inr ⟨by rfl, rfl⟩) J0 ?_
            simp only [qA, qB, qC, Act.put, qD, qE, qF]
            refine wpAnyH_take (i := 19) (v := undef) rfl (by kernel_rfl) (by kernel_rfl) (by kernel_rfl) (fun _ _ _ h => h) (Or.inr ⟨by rfl, rfl⟩) J0 ?_
            simp only [qA, qB, qC, Act.put, qD, qE, qF]
            refine wpAnyH_take (i := 20) (v := undef) rfl (by kernel_rfl) (by kernel_rfl) (by kernel_rfl) (fun _ _ _ h => h) (Or.inr ⟨by rfl, rfl⟩) J0 ?_
            simp only [qA, qB, qC, Act.put, qD, qE, qF]
            refine wpAnyH_take (i := 21) (v := undef) rfl (by kernel_rfl) (by kernel_rfl) (by kernel_rfl) (fun _ _ _ h => h) (Or.inr ⟨by rfl, rfl⟩) J0 ?_
            simp only [qA, qB, qC, Act.put, qD, qE, qF]
            refine wpAnyH_take (i := 22) (v := undef) rfl (by kernel_rfl) (by kernel_rfl) (by kernel_rfl) (fun _ _ _ h => h) (Or.inr ⟨by rfl, rfl⟩) J0 ?_
            simp only [qA, qB, qC, Act.put, qD, qE, qF]
            refine wpAnyH_take (i := 23) (v := .bool false) rfl (by kernel_rfl) (by kernel_rfl) (by kernel_rfl) (fun _ _ _ h => h) (Or.inl ⟨by rfl, ?_⟩) J0 ?_
            · intro W hSW; clear hSW; go_simp; try simp []
            simp only [qA, qB, qC, Act.put, qD, qE, qF]
            refine wpAnyH_take (i := 24) (v := .bool false) rfl (by kernel_rfl) (by kernel_rfl) (by kernel_rfl) (fun _ _ _ h => h) (Or.inl ⟨by rfl, ?_⟩) J0 ?_
            · intro W hSW; clear hSW; go_simp; try simp []
            simp only [qA, qB, qC, Act.put, qD, qE, qF]
            refine ⟨by kernel_rfl, ?_⟩
            refine NoPanic.normal ?_
            try simp only [qA, qB, qC, Act.put, qD, qE, qF]
            have hRf := HR.out.fresh (B2.out.drew)
            have cT : W2.drew.cell? ⟨tb, m, none⟩ = some (.string ⟨#[]⟩) := J0.2
            have fT : W2.drew.frozen? ⟨tb, m, none⟩ = false := by have := (hRf.told.2.1 m (by omega)).2; rwa [Nat.zero_add] at this
            have p1d : W2.drew.cell? ⟨wr.heap.size, 1, none⟩ = some (.string b) := HP1.out
            have HRT : Hid (Rn K rs dr s tb O w (ps ++ [.A m]) ao n cap Lo O' (W2.drew.setCell ⟨tb, m, none⟩ (.string b))) := hRf.tell HB0.out hm60 HTB.out.1 HTB.out.2.1 HTT.out.1 HTT.out.2
            clear hRf J0 HHT
            generalize W2.drew = Wd at *
            go_wp2_with fail
            have hlen := HKN.out
            have hRn := HRT.out
            rw [HPSE.out] at hRn
            refine ⟨⟨ts ++ [1], ao, n, cap, rfl, by congr 1; rw [List.length_append, List.length_singleton]; omega, RO.snoc HTS.out.1 HTS.out.2.1 HTS.out.2.2 HPK.out (by omega) (fun _ => rfl) (fun _ => rfl) hRn, by rw [List.length_append, List.length_singleton]; omega, by rw [List.length_append, List.length_singleton]; omega⟩, ?_⟩
            simp [intOf]; omega
      | false =>
        obtain ⟨kk, hkk3, hkad⟩ : ∃ kk : Nat, kk < 3 ∧ ad = (kk : Int) := by
          have h := HPAT.out
          cases p with
          | F1 n => exact ⟨1, by omega, h.1⟩
          | F2 n => exact ⟨2, by omega, h.1⟩
          | K0 n => exact ⟨0, by omega, h.1⟩
          | K1 n => exact ⟨1, by omega, h.1⟩
          | Q0 n => exact ⟨0, by omega, h.1⟩
          | Q1 n => exact ⟨1, by omega, h.1⟩
          | A n => simp [isA] at eA
        have HISA : Hid (isA p = false) := eA
        have HLR : Hid (w.cell? ⟨lb, kk, none⟩ = some (.pointer (some ⟨dr kk, 0, none⟩))) := HLRa.out kk hkk3
        obtain ⟨hr, hPI, hok⟩ := HMP.out
        have hpJ : p ∈ J := List.mem_of_getElem? HPK.out
        have hpsJ : ∀ q ∈ ps, q ∈ J := fun q hq => by rw [HPSE.out] at hq; exact List.mem_of_mem_take (sched_mem _ _ _ hq)
        have HCALL : Hid (∀ (j : Nat) (Oj : Nat → Prop) (W : World), Cst K rs dr (deliver s (ps ++ List.replicate j p)).1 Oj W → Calls Tryz.prog 37 #[.pointer (some ⟨dr kk, 0, none⟩), .string b] W fun e w' => ∃ v r, e = .returned (.tuple #[v, r]) ∧ COut K rs dr (recv (deliver s (ps ++ List.replicate j p)).1 p).1 (recv (deliver s (ps ++ List.replicate j p)).1 p).2 Oj W v r w') := fun j Oj W hW => by
          have hall : ∀ q ∈ ps ++ List.replicate j p, okP s q := fun q hq => by
            rcases List.mem_append.1 hq with hq | hq
            · exact hok q (hpsJ q hq)
            · rw [List.eq_of_mem_replicate hq]; exact hok p hpJ
          obtain ⟨d1, _, d3, _⟩ := deliver_ok (ps ++ List.replicate j p) hPI hall
          obtain ⟨k2, hk2, hk3, hcall⟩ := recv_chain K rs dr _ Oj i p ad b W hr hi d1 (d3 p (hok p hpJ)) HPAT.out (by omega) hW
          obtain rfl : k2 = kk := by omega
          exact hcall
        have had10 : ¬ (10 : Int) ≤ (kk : Int) := by omega
        have hadlt : (kk : Int) < 10 := by omega
        have k0 : (0 : Int) ≤ (kk : Int) := by omega
        have k3' : (kk : Int) < 3 := by omega
        obtain ⟨pb, hpb⟩ : ∃ pb, pb = wr.heap.size := ⟨_, rfl⟩
        have HPBO : Hid (¬ O' pb) := fun e => by have := HR.out.st.lt pb e; omega
        subst hkad
        clear hr hPI hok hpJ hpsJ eA
        by_cases hns : hn = 0
        · have hns0 : ¬ (0 : Int) < (hn : Int) := by omega
          clear hns
          go_wp2_with (first
            | (refine wpList_load_mid rfl 44 _ rfl g (k * 2) rfl (pkC (kk : Nat) b) _ rg Tryz.underlying44 rfl (hpkb (kk : Nat) b) ?_; rw [hcs])
            | (rw [← h1]; clear h1)
            | (refine wpList_store_abs rfl 44 _ _ rfl wr.heap.size 0 (pkC (kk : Nat) b) rfl (by rw [hcs]; rfl) tt1 (pkC_info (kk : Nat) b) (pkC_one (kk : Nat) b) ?_
               intro W2 hw2 hr2 _ht2 hb2
               have B2 : Hid (Below wr.heap.size wr W2) := b1.trans (hb2 wr.heap.size (Nat.le_refl _))
               have s2 : W2.heap.size = wr.heap.size + 1 := (by rw [hw2, size_setCells]; exact s1)
               have p0 : W2.cell? ⟨wr.heap.size, 0, none⟩ = some (.int .i64 (kk : Nat)) := hr2 0 _ rfl
               have p1 : W2.cell? ⟨wr.heap.size, 1, none⟩ = some (.string b) := hr2 1 _ rfl
               clear _ht2 hw2 hb2 hr2 rg tt1 b1))
          rw [← hpb] at p0 p1
          have HST : Hid ((∃ Lj Oj, Rn K rs dr s tb O w (ps ++ List.replicate 0 p) ao n cap Lj Oj W2 ∧ ¬ Oj pb) ∧ W2.cell? ⟨pb, 0, none⟩ = some (.int .i64 (kk : Nat)) ∧ W2.cell? ⟨pb, 1, none⟩ = some (.string b) ∧ pb < W2.heap.size ∧ (Value.slice ao n cap).ownBlock ≠ some pb) := ⟨⟨Lo, O', by rw [List.replicate_zero, List.append_nil]; exact HR.out.fresh B2.out, HPBO.out⟩, p0, p1, by omega, fun e => by have := (HR.out.row.lt pb e).2; omega⟩
          obtain ⟨t, ht⟩ : ∃ t : Nat, t = 1 := ⟨_, rfl⟩
          have HT2 : Hid (t ≤ 2 ∧ (ns = [] → t = 1)) := ⟨by omega, fun _ => ht⟩
          have HTV : Hid (Value.int .i64 1 = Value.int .i64 (t : Nat)) := by rw [ht]; rfl
          have ht2 : (t : Int) ≤ 2 := by omega
          simp only [← hpb]
          clear ht hpb
          apply act_eq
          case h => rw [HTV.out]
          go_loopw [12, 18] (fun v jv w3 => ∃ (j : Nat) (aj : Option Addr) (nj cj : Nat), j ≤ t ∧ v = .slice aj nj cj ∧ jv = .int .i64 (j : Nat) ∧ Hid ((∃ Lj Oj, Rn K rs dr s tb O w (ps ++ List.replicate j p) aj nj cj Lj Oj w3 ∧ ¬ Oj pb) ∧ w3.cell? ⟨pb, 0, none⟩ = some (.int .i64 (kk : Nat)) ∧ w3.cell? ⟨pb, 1, none⟩ = some (.string b) ∧ pb < w3.heap.size ∧ (Value.slice aj nj cj).ownBlock ≠ some pb)) (fun _ jv _ => t - (intOf jv).toNat)
          case atStart => exact ⟨0, ao, n, cap, by omega, rfl, rfl, HST⟩
          case round =>
            obtain ⟨j, aj, nj, cj, hj, rfl, rfl, hI⟩ := hrel
            by_cases hlt3 : j < t
            · have HLT3 : Hid (j < t) := hlt3
              have t3 : (j : Int) < ((t : Nat) : Int) := by omega
              have t4 : (j : Int) < 1000 := by omega
              have t5 : (0 : Int) ≤ (j : Int) := by omega
              obtain ⟨Lj, Oj, hRj, hOpb⟩ := hI.out.1
              obtain ⟨hI2, hI3, hI4, hI5⟩ := hI.out.2
              have HI5 : Hid ((Value.slice aj nj cj).ownBlock ≠ some pb) := hI5
              have HRj : Hid (Rn K rs dr s tb O w (ps ++ List.replicate j p) aj nj cj Lj Oj wr) := hRj
              have hpb3 : Hid (pb < wr.heap.size ∧ ¬ Oj pb) := ⟨hI4, hOpb⟩
              have hlb3 : Hid (lb < wr.heap.size ∧ ¬ Oj lb) := ⟨Nat.lt_of_lt_of_le HLB.out.1 hRj.kept.size, fun e => by rcases hRj.own lb e with e | e; exact HLB.out.2.1 e; have := HLB.out.1; omega⟩
              have J0 : wr.drew.cell? ⟨pb, 0, none⟩ = some (.int .i64 (kk : Nat)) ∧ wr.drew.cell? ⟨pb, 1, none⟩ = some (.string b) ∧ wr.drew.cell? ⟨lb, kk, none⟩ = some (.pointer (some ⟨dr kk, 0, none⟩)) := ⟨hI2, hI3, (hRj.kept.cell (a := ⟨lb, kk, none⟩) HLB.out.1 (fun e => by rcases e with e | e; exact HLB.out.2.1 e; exact HLB.out.2.2 e)).trans HLR.out⟩
              have hst := hRj.st
              have HD3 : Hid (Cst K rs dr (deliver s (ps ++ List.replicate j p)).1 Oj wr.drew) := hst.fresh (Below.refl _ _).drew
              have hcall : Hid (∀ W, Cst K rs dr (deliver s (ps ++ List.replicate j p)).1 Oj W → Calls Tryz.prog 37 #[.pointer (some ⟨dr kk, 0, none⟩), .string b] W fun e w' => ∃ v r, e = .returned (.tuple #[v, r]) ∧ COut K rs dr (recv (deliver s (ps ++ List.replicate j p)).1 p).1 (recv (deliver s (ps ++ List.replicate j p)).1 p).2 Oj W v r w') := fun W hW => HCALL.out j Oj W hW
              have hlb : Lj.length ≤ 10000 := by
                have h1 := hRj.out.1
                have h2 := deliver_len (ps ++ List.replicate j p) s
                have h3 := HPS.out
                rw [List.length_append, List.length_replicate] at h2
                omega
              clear hI hI2 hI3 hI4 hI5 hRj hst hOpb
              go_wp2_with fail
              refine wp_region_noPanic ?_
              refine wp_region_held_drew (S := fun W => W.cell? ⟨pb, 0, none⟩ = some (.int .i64 (kk : Nat)) ∧ W.cell? ⟨pb, 1, none⟩ = some (.string b) ∧ W.cell? ⟨lb, kk, none⟩ = some (.pointer (some ⟨dr kk, 0, none⟩))) (by kernel_rfl) J0 (fun _ => ?_)
              refine wpAnyH_take (i := 0) (v := ?_) rfl (by kernel_rfl) (by kernel_rfl) (by kernel_rfl) (fun _ _ _ h => h) (Or.inl ⟨by rfl, ?_⟩) J0 ?_
              rotate_left 1
              · intro W hSW; clear hSW; go_simp; try with_reducible rfl
              simp only [qA, qB, qC, Act.put, qD, qE, qF]
              refine wpAnyH_take (i := 1) (v := ?_) rfl (by kernel_rfl) (by kernel_rfl) (by kernel_rfl) (fun _ _ _ h => h) (Or.inl ⟨by rfl, ?_⟩) J0 ?_
              rotate_left 1
              · intro W hSW; clear hSW; go_simp; try with_reducible rfl
              simp only [qA, qB, qC, Act.put, qD, qE, qF]
              refine wpAnyH_take (i := 2) (v := ?_) rfl (by kernel_rfl) (by kernel_rfl) (by kernel_rfl) (fun _ _ _ h => h) (Or.inl ⟨by rfl, ?_⟩) J0 ?_
              rotate_left 1
              · intro W hSW; have q0 := hSW.1; clear hSW; go_simp; try with_reducible rfl
              simp only [qA, qB, qC, Act.put, qD, qE, qF]
              refine wpAnyH_take (i := 3) (v := ?_) rfl (by kernel_rfl) (by kernel_rfl) (by kernel_rfl) (fun _ _ _ h => h) (Or.inl ⟨by rfl, ?_⟩) J0 ?_
              rotate_left 1
              · intro W hSW; clear hSW; go_simp; try with_reducible rfl
              simp only [qA, qB, qC, Act.put, qD, qE, qF]
              refine wpAnyH_take (i := 4) (v := ?_) rfl (by kernel_rfl) (by kernel_rfl) (by kernel_rfl) (fun _ _ _ h => h) (Or.inl ⟨by rfl, ?_⟩) J0 ?_
              rotate_left 1
              · intro W hSW; have q0 := hSW.2.2; clear hSW; go_simp; try with_reducible rfl
              simp only [qA, qB, qC, Act.put, qD, qE, qF]
              refine wpAnyH_take (i := 5) (v := ?_) rfl (by kernel_rfl) (by kernel_rfl) (by kernel_rfl) (fun _ _ _ h => h) (Or.inl ⟨by rfl, ?_⟩) J0 ?_
              rotate_left 1
              · intro W hSW; clear hSW; go_simp; try with_reducible rfl
              simp only [qA, qB, qC, Act.put, qD, qE, qF]
              refine wpAnyH_take (i := 6) (v := ?_) rfl (by kernel_rfl) (by kernel_rfl) (by kernel_rfl) (fun _ _ _ h => h) (Or.inl ⟨by rfl, ?_⟩) J0 ?_
              rotate_left 1
              · intro W hSW; have q0 := hSW.2.1; clear hSW; go_simp; try with_reducible rfl
              simp only [qA, qB, qC, Act.put, qD, qE, qF]
              refine wpAnyH_ready (rs := [7]) (by kernel_rfl) (by simp) ?_
              refine AllReadyH.cons rfl (fun K' hK' => ?_) AllReadyH.nil
              rw [if_pos (by rfl)]
              go_simp
              refine (hcall.out wr.drew (HD3.out)).mono ?_
              rintro e W4 ⟨v4, r4, rfl, Lo1, O1, rfl, hout4, hm4, hc4, k4, o4⟩
              have k4' : Kept Oj wr W4 := (Kept.drew _ wr).trans k4 (fun _ _ h => h)
              have s4 := k4'.size
              have J4 : W4.cell? ⟨pb, 0, none⟩ = some (.int .i64 (kk : Nat)) ∧ W4.cell? ⟨pb, 1, none⟩ = some (.string b) ∧ W4.cell? ⟨lb, kk, none⟩ = some (.pointer (some ⟨dr kk, 0, none⟩)) := ⟨(k4'.cell (a := ⟨pb, 0, none⟩) hpb3.out.1 hpb3.out.2).trans J0.1, (k4'.cell (a := ⟨pb, 1, none⟩) hpb3.out.1 hpb3.out.2).trans J0.2.1, (k4'.cell (a := ⟨lb, kk, none⟩) hlb3.out.1 hlb3.out.2).trans J0.2.2⟩
              obtain ⟨ao4, cp4, rfl⟩ := hout4.form
              have HOUT4 : Hid (OutAt W4 (.slice ao4 Lo1.length cp4) Lo1) := hout4
              have HM4 : Hid (Match rs (recv (deliver s (ps ++ List.replicate j p)).1 p).2 Lo1 ∧ Cst K rs dr (recv (deliver s (ps ++ List.replicate j p)).1 p).1 O1 W4 ∧ Kept Oj wr W4 ∧ ∀ g, O1 g → Oj g ∨ wr.heap.size ≤ g) := ⟨hm4, hc4, k4', o4⟩
              clear hout4 hm4 hc4 k4 k4' o4
              refine hK'.out _ _ J4 (fun _ => ?_)
              clear hK' K'
              try simp only [qA, qB, qC, Act.put, qD, qE, qF]
              refine wpAnyH_take (i := 8) (v := ?_) rfl (by kernel_rfl) (by kernel_rfl) (by kernel_rfl) (fun _ _ _ h => h) (Or.inl ⟨by rfl, ?_⟩) J4 ?_
              rotate_left 1
              · intro W hSW; clear hSW; go_simp; try with_reducible rfl
              simp only [qA, qB, qC, Act.put, qD, qE, qF]
              refine wpAnyH_take (i := 9) (v := ?_) rfl (by kernel_rfl) (by kernel_rfl) (by kernel_rfl) (fun _ _ _ h => h) (Or.inl ⟨by rfl, ?_⟩) J4 ?_
              rotate_left 1
              · intro W hSW; clear hSW; go_simp; try with_reducible rfl
              simp only [qA, qB, qC, Act.put, qD, qE, qF]
              refine wpAnyH_take (i := 10) (v := ?_) rfl (by kernel_rfl) (by kernel_rfl) (by kernel_rfl) (fun _ _ _ h => h) (Or.inl ⟨by rfl, ?_⟩) J4 ?_
              rotate_left 1
              · intro W hSW; clear hSW; go_simp; try with_reducible rfl
              simp only [qA, qB, qC, Act.put, qD, qE, qF]
              refine wpAnyH_take (i := 11) (v := ?_) rfl (by kernel_rfl) (by kernel_rfl) (by kernel_rfl) (fun _ _ _ h => h) (Or.inl ⟨by rfl, ?_⟩) J4 ?_
              rotate_left 1
              · intro W hSW; clear hSW; go_simp; try with_reducible rfl
              simp only [qA, qB, qC, Act.put, qD, qE, qF]
              refine wpAnyH_take (i := 12) (v := ?_) rfl (by kernel_rfl) (by kernel_rfl) (by kernel_rfl) (fun _ _ _ h => h) (Or.inl ⟨by rfl, ?_⟩) J4 ?_
              rotate_left 1
              · intro W hSW; clear hSW; go_simp; try with_reducible rfl
              simp only [qA, qB, qC, Act.put, qD, qE, qF]
              refine ⟨by kernel_rfl, ?_⟩
              refine NoPanic.normal ?_
              try simp only [qA, qB, qC, Act.put, qD, qE, qF]
              have o4 := own_below' (HRj.out.row) (Below.refl _ _)
              have sz := HRj.out.kept.size
              have row4 : W4.ownsRow w.heap.size 44 2 (.slice aj nj cj) Lj.length (wayC Lj) := HM4.out.2.2.1.own HRj.out.row (fun g hg => HRj.out.nown g hg)
              have hl1 : Lo1.length ≤ 4 := by have := HM4.out.1.1; have := recv_len (deliver s (ps ++ List.replicate j p)).1 p; omega
              have y4 := HOUT4.out
              have sz4 : w.heap.size ≤ W4.heap.size := Nat.le_trans sz s4

              go_wp2_with (first
                | (refine wpList_append_at rfl _ _ rfl w.heap.size _ Lj rfl row4 _ Lo1 rfl y4 (by omega) sz4 ?_
                   intro ao5 m5 cap5 W5 hm5 row5 g5 at5
                   have HR5 : Hid (Rn K rs dr s tb O w (ps ++ List.replicate (j + 1) p) ao5 m5 cap5 (Lj ++ Lo1) O1 W5) := (by
                     have := HRj.out.recv HISA.out HTB.out.1 HTB.out.2.1 HTB.out.2.2.1 HTB.out.2.2.2 HM4.out.1 HM4.out.2.1 HM4.out.2.2.1 HM4.out.2.2.2 row5 (by rw [List.length_append]; exact hm5) g5 at5
                     rw [List.append_assoc, ← List.replicate_succ'] at this
                     exact this)
                   have k5 : Kept (fun g => (Value.slice aj nj cj).ownBlock = some g) W4 W5 := Kept.grown g5 (fun k e => Or.inl e)
                   have npb : ¬ (Value.slice aj nj cj).ownBlock = some pb := HI5.out
                   have HP5 : Hid (W5.cell? ⟨pb, 0, none⟩ = some (.int .i64 (kk : Nat)) ∧ W5.cell? ⟨pb, 1, none⟩ = some (.string b) ∧ pb < W5.heap.size ∧ ¬ O1 pb ∧ (Value.slice ao5 m5 cap5).ownBlock ≠ some pb) := ⟨(k5.cell (a := ⟨pb, 0, none⟩) (by show pb < _; have := hpb3.out.1; omega) npb).trans J4.1, (k5.cell (a := ⟨pb, 1, none⟩) (by show pb < _; have := hpb3.out.1; omega) npb).trans J4.2.1, by have := hpb3.out.1; have := k5.size; omega, fun e => by rcases HM4.out.2.2.2 pb e with e | e; exact hpb3.out.2 e; have := hpb3.out.1; omega, fun e => by rcases at5 pb e with e | e; exact npb e; have := hpb3.out.1; omega⟩
                   clear row5 g5 at5 k5 npb hm5))
              refine ⟨⟨j + 1, ao5, m5, cap5, by omega, rfl, by first | rfl | (congr 1), ⟨⟨_, _, HR5.out, HP5.out.2.2.2.1⟩, HP5.out.1, HP5.out.2.1, HP5.out.2.2.1, HP5.out.2.2.2.2⟩⟩, ?_⟩
              simp [intOf]; omega
            · obtain rfl : t = j := by omega
              obtain ⟨Lj, Oj, hRj, hOpb⟩ := hI.out.1
              rw [HPSE.out] at hRj
              have HEND : Hid (RO K rs dr s tb O w J ns (ts ++ [t]) aj nj cj wr) := RO.snoc HTS.out.1 HTS.out.2.1 HTS.out.2.2 HPK.out HT2.out.1 HT2.out.2 (fun e => absurd e (by rw [HISA.out]; decide)) hRj
              clear hI hRj hOpb
              go_wp2_with fail
              have hlen := HKN.out
              refine ⟨⟨ts ++ [t], aj, nj, cj, rfl, by congr 1; rw [List.length_append, List.length_singleton]; omega, HEND, by rw [List.length_append, List.length_singleton]; omega, by rw [List.length_append, List.length_singleton]; omega⟩, ?_⟩
              simp [intOf]; omega
        · have hns0 : (0 : Int) < (hn : Int) := by omega
          obtain ⟨gh, off, cph, heq, hgh, hhc⟩ : ∃ g off cap, Value.slice ha hn hcap = .slice (some ⟨g, off, none⟩) ns.length cap ∧ g < w.heap.size ∧ ∀ i x, ns[i]? = some x → w.cell? ⟨g, off + i, none⟩ = some (.int .i64 x) := by
            rcases HHOW.out with ⟨e, e2⟩ | h
            · exfalso; have := HHN.out; rw [e2] at this; simp at this; omega
            · exact h
          have hha : ha = some ⟨gh, off, none⟩ := by injection heq
          obtain ⟨hgO, hgt⟩ := HHO.out (by omega) gh off hha
          obtain ⟨q, hq⟩ : ∃ q, q = (at_ + k) % hn := ⟨_, rfl⟩
          have hqn : q < hn := by rw [hq]; exact Nat.mod_lt _ (by omega)
          have hmod : ((at_ : Int) + (k : Int)).tmod (hn : Int) = (q : Int) := by
            rw [hq, Int.tmod_eq_emod_of_nonneg (by omega)]; simp
          have hq0 : (0 : Int) ≤ (q : Int) := by omega
          have hq1 : (q : Int) < (hn : Int) := by omega
          obtain ⟨xq, hxq⟩ : ∃ x, ns[q]? = some x := ⟨_, List.getElem?_eq_getElem (by have := HHN.out; omega)⟩
          obtain ⟨hb1, hb2⟩ := HNS.out xq (List.mem_of_getElem? hxq)
          obtain ⟨r, hr5, hpick⟩ := opick_fix xq 5 hb1 hb2 (by omega) (by omega)
          have HCH : Hid (wr.cell? ⟨gh, off + q, none⟩ = some (.int .i64 xq) ∧ gh < wr.heap.size) := ⟨(HR.out.kept.cell (a := ⟨gh, off + q, none⟩) hgh (fun e => by rcases e with e | e; exact hgO e; exact hgt e)).trans (hhc q xq hxq), Nat.lt_of_lt_of_le hgh HR.out.kept.size⟩
          obtain ⟨t, ht⟩ : ∃ t : Nat, t = tv r := ⟨_, rfl⟩
          have HT2 : Hid (t ≤ 2 ∧ (ns = [] → t = 1)) := ⟨by rw [ht]; exact tv_le r, fun e => by exfalso; have := HHN.out; rw [e] at this; simp at this; omega⟩
          have ht2 : (t : Int) ≤ 2 := by have := HT2.out.1; omega
          have HT5 : Hid (∀ (W : World), (W.alloc (.cells #[.int .i64 1, .int .i64 1, .int .i64 1, .int .i64 0, .int .i64 2] 3)).cell? ⟨W.heap.size, r, none⟩ = some (.int .i64 (t : Nat))) := fun W => by
            rw [World.cell?_alloc_at _ _ _ _ rfl, ht]
            obtain rfl | rfl | rfl | rfl | rfl : r = 0 ∨ r = 1 ∨ r = 2 ∨ r = 3 ∨ r = 4 := by omega
            all_goals rfl
          have hr0 : (0 : Int) ≤ (r : Int) := by omega
          have htab := tab5
          subst hha
          clear hns hq ht hxq hhc heq hgO hgt hb1 hb2
          go_wp2_with (first
            | (refine wpList_load_mid rfl 44 _ rfl g (k * 2) rfl (pkC (kk : Nat) b) _ rg Tryz.underlying44 rfl (hpkb (kk : Nat) b) ?_; rw [hcs])
            | (rw [← h1]; clear h1)
            | (refine wpList_store_abs rfl 44 _ _ rfl wr.heap.size 0 (pkC (kk : Nat) b) rfl (by rw [hcs]; rfl) tt1 (pkC_info (kk : Nat) b) (pkC_one (kk : Nat) b) ?_
               intro W2 hw2 hr2 _ht2 hb2
               have B2 : Hid (Below wr.heap.size wr W2) := b1.trans (hb2 wr.heap.size (Nat.le_refl _))
               have s2 : W2.heap.size = wr.heap.size + 1 := (by rw [hw2, size_setCells]; exact s1)
               have p0 : W2.cell? ⟨wr.heap.size, 0, none⟩ = some (.int .i64 (kk : Nat)) := hr2 0 _ rfl
               have p1 : W2.cell? ⟨wr.heap.size, 1, none⟩ = some (.string b) := hr2 1 _ rfl
               obtain ⟨W3, h3⟩ : ∃ X, X = W2.alloc (.cells #[.int .i64 1, .int .i64 1, .int .i64 1, .int .i64 0, .int .i64 2] 3) := ⟨_, rfl⟩
               have b3 : Below W2.heap.size W2 W3 := (by rw [h3]; exact (Below.refl _ _).alloc (Nat.le_refl _) _)
               have s3 : W3.heap.size = W2.heap.size + 1 := (by rw [h3]; simp)
               have HB23 : Hid (Below W2.heap.size W2 W3) := b3
               have B3 : Hid (Below wr.heap.size wr W3) := B2.out.trans (b3.mono (by omega))
               have cT5 : W3.cell? ⟨wr.heap.size + 1, r, none⟩ = some (.int .i64 (t : Nat)) := (by rw [← s2, h3]; exact HT5.out W2)
               have cH : W3.cell? ⟨gh, off + q, none⟩ = some (.int .i64 xq) := (B3.out.cell (p := ⟨gh, off + q, none⟩) HCH.out.2).trans HCH.out.1
               clear _ht2 hw2 hb2 hr2 rg tt1 b1 b3)
            | (rw [← h3]; clear h3))
          refine (hpick W3).mono ?_
          rintro e W4 ⟨rfl, hw4⟩
          obtain rfl : W3 = W4 := hw4.symm
          clear hw4 hpick
          go_wp2_with fail
          rw [← hpb] at p0 p1
          have HST : Hid ((∃ Lj Oj, Rn K rs dr s tb O w (ps ++ List.replicate 0 p) ao n cap Lj Oj W3 ∧ ¬ Oj pb) ∧ W3.cell? ⟨pb, 0, none⟩ = some (.int .i64 (kk : Nat)) ∧ W3.cell? ⟨pb, 1, none⟩ = some (.string b) ∧ pb < W3.heap.size ∧ (Value.slice ao n cap).ownBlock ≠ some pb) := ⟨⟨Lo, O', by rw [List.replicate_zero, List.append_nil]; exact HR.out.fresh B3.out, HPBO.out⟩, (HB23.out.cell (p := ⟨pb, 0, none⟩) (by show pb < _; omega)).trans p0, (HB23.out.cell (p := ⟨pb, 1, none⟩) (by show pb < _; omega)).trans p1, by have := HB23.out.size; omega, fun e => by have := (HR.out.row.lt pb e).2; omega⟩
          simp only [← hpb]
          clear hpb cH cT5 hmod hq0 hq1 p0 p1 htab
          go_loopw [12, 18] (fun v jv w3 => ∃ (j : Nat) (aj : Option Addr) (nj cj : Nat), j ≤ t ∧ v = .slice aj nj cj ∧ jv = .int .i64 (j : Nat) ∧ Hid ((∃ Lj Oj, Rn K rs dr s tb O w (ps ++ List.replicate j p) aj nj cj Lj Oj w3 ∧ ¬ Oj pb) ∧ w3.cell? ⟨pb, 0, none⟩ = some (.int .i64 (kk : Nat)) ∧ w3.cell? ⟨pb, 1, none⟩ = some (.string b) ∧ pb < w3.heap.size ∧ (Value.slice aj nj cj).ownBlock ≠ some pb)) (fun _ jv _ => t - (intOf jv).toNat)
          case atStart => exact ⟨0, ao, n, cap, by omega, rfl, rfl, HST⟩
          case round =>
            obtain ⟨j, aj, nj, cj, hj, rfl, rfl, hI⟩ := hrel
            by_cases hlt3 : j < t
            · have HLT3 : Hid (j < t) := hlt3
              have t3 : (j : Int) < ((t : Nat) : Int) := by omega
              have t4 : (j : Int) < 1000 := by omega
              have t5 : (0 : Int) ≤ (j : Int) := by omega
              obtain ⟨Lj, Oj, hRj, hOpb⟩ := hI.out.1
              obtain ⟨hI2, hI3, hI4, hI5⟩ := hI.out.2
              have HI5 : Hid ((Value.slice aj nj cj).ownBlock ≠ some pb) := hI5
              have HRj : Hid (Rn K rs dr s tb O w (ps ++ List.replicate j p) aj nj cj Lj Oj wr) := hRj
              have hpb3 : Hid (pb < wr.heap.size ∧ ¬ Oj pb) := ⟨hI4, hOpb⟩
              have hlb3 : Hid (lb < wr.heap.size ∧ ¬ Oj lb) := ⟨Nat.lt_of_lt_of_le HLB.out.1 hRj.kept.size, fun e => by rcases hRj.own lb e with e | e; exact HLB.out.2.1 e; have := HLB.out.1; omega⟩
              have J0 : wr.drew.cell? ⟨pb, 0, none⟩ = some (.int .i64 (kk : Nat)) ∧ wr.drew.cell? ⟨pb, 1, none⟩ = some (.string b) ∧ wr.drew.cell? ⟨lb, kk, none⟩ = some (.pointer (some ⟨dr kk, 0, none⟩)) := ⟨hI2, hI3, (hRj.kept.cell (a := ⟨lb, kk, none⟩) HLB.out.1 (fun e => by rcases e with e | e; exact HLB.out.2.1 e; exact HLB.out.2.2 e)).trans HLR.out⟩
              have hst := hRj.st
              have HD3 : Hid (Cst K rs dr (deliver s (ps ++ List.replicate j p)).1 Oj wr.drew) := hst.fresh (Below.refl _ _).drew
              have hcall : Hid (∀ W, Cst K rs dr (deliver s (ps ++ List.replicate j p)).1 Oj W → Calls Tryz.prog 37 #[.pointer (some ⟨dr kk, 0, none⟩), .string b] W fun e w' => ∃ v r, e = .returned (.tuple #[v, r]) ∧ COut K rs dr (recv (deliver s (ps ++ List.replicate j p)).1 p).1 (recv (deliver s (ps ++ List.replicate j p)).1 p).2 Oj W v r w') := fun W hW => HCALL.out j Oj W hW
              have hlb : Lj.length ≤ 10000 := by
                have h1 := hRj.out.1
                have h2 := deliver_len (ps ++ List.replicate j p) s
                have h3 := HPS.out
                rw [List.length_append, List.length_replicate] at h2
                omega
              clear hI hI2 hI3 hI4 hI5 hRj hst hOpb
              go_wp2_with fail
              refine wp_region_noPanic ?_
              refine wp_region_held_drew (S := fun W => W.cell? ⟨pb, 0, none⟩ = some (.int .i64 (kk : Nat)) ∧ W.cell? ⟨pb, 1, none⟩ = some (.string b) ∧ W.cell? ⟨lb, kk, none⟩ = some (.pointer (some ⟨dr kk, 0, none⟩))) (by kernel_rfl) J0 (fun _ => ?_)
              refine wpAnyH_take (i := 0) (v := ?_) rfl (by kernel_rfl) (by kernel_rfl) (by kernel_rfl) (fun _ _ _ h => h) (Or.inl ⟨by rfl, ?_⟩) J0 ?_
              rotate_left 1
              · intro W hSW; clear hSW; go_simp; try with_reducible rfl
              simp only [qA, qB, qC, Act.put, qD, qE, qF]
              refine wpAnyH_take (i := 1) (v := ?_) rfl (by kernel_rfl) (by kernel_rfl) (by kernel_rfl) (fun _ _ _ h => h) (Or.inl ⟨by rfl, ?_⟩) J0 ?_
              rotate_left 1
              · intro W hSW; clear hSW; go_simp; try with_reducible rfl
              simp only [qA, qB, qC, Act.put, qD, qE, qF]
              refine wpAnyH_take (i := 2) (v := ?_) rfl (by kernel_rfl) (by kernel_rfl) (by kernel_rfl) (fun _ _ _ h => h) (Or.inl ⟨by rfl, ?_⟩) J0 ?_
              rotate_left 1
              · intro W hSW; have q0 := hSW.1; clear hSW; go_simp; try with_reducible rfl
              simp only [qA, qB, qC, Act.put, qD, qE, qF]
              refine wpAnyH_take (i := 3) (v := ?_) rfl (by kernel_rfl) (by kernel_rfl) (by kernel_rfl) (fun _ _ _ h => h) (Or.inl ⟨by rfl, ?_⟩) J0 ?_
              rotate_left 1
              · intro W hSW; clear hSW; go_simp; try with_reducible rfl
              simp only [qA, qB, qC, Act.put, qD, qE, qF]
              refine wpAnyH_take (i := 4) (v := ?_) rfl (by kernel_rfl) (by kernel_rfl) (by kernel_rfl) (fun _ _ _ h => h) (Or.inl ⟨by rfl, ?_⟩) J0 ?_
              rotate_left 1
              · intro W hSW; have q0 := hSW.2.2; clear hSW; go_simp; try with_reducible rfl
              simp only [qA, qB, qC, Act.put, qD, qE, qF]
              refine wpAnyH_take (i := 5) (v := ?_) rfl (by kernel_rfl) (by kernel_rfl) (by kernel_rfl) (fun _ _ _ h => h) (Or.inl ⟨by rfl, ?_⟩) J0 ?_
              rotate_left 1
              · intro W hSW; clear hSW; go_simp; try with_reducible rfl
              simp only [qA, qB, qC, Act.put, qD, qE, qF]
              refine wpAnyH_take (i := 6) (v := ?_) rfl (by kernel_rfl) (by kernel_rfl) (by kernel_rfl) (fun _ _ _ h => h) (Or.inl ⟨by rfl, ?_⟩) J0 ?_
              rotate_left 1
              · intro W hSW; have q0 := hSW.2.1; clear hSW; go_simp; try with_reducible rfl
              simp only [qA, qB, qC, Act.put, qD, qE, qF]
              refine wpAnyH_ready (rs := [7]) (by kernel_rfl) (by simp) ?_
              refine AllReadyH.cons rfl (fun K' hK' => ?_) AllReadyH.nil
              rw [if_pos (by rfl)]
              go_simp
              refine (hcall.out wr.drew (HD3.out)).mono ?_
              rintro e W4 ⟨v4, r4, rfl, Lo1, O1, rfl, hout4, hm4, hc4, k4, o4⟩
              have k4' : Kept Oj wr W4 := (Kept.drew _ wr).trans k4 (fun _ _ h => h)
              have s4 := k4'.size
              have J4 : W4.cell? ⟨pb, 0, none⟩ = some (.int .i64 (kk : Nat)) ∧ W4.cell? ⟨pb, 1, none⟩ = some (.string b) ∧ W4.cell? ⟨lb, kk, none⟩ = some (.pointer (some ⟨dr kk, 0, none⟩)) := ⟨(k4'.cell (a := ⟨pb, 0, none⟩) hpb3.out.1 hpb3.out.2).trans J0.1, (k4'.cell (a := ⟨pb, 1, none⟩) hpb3.out.1 hpb3.out.2).trans J0.2.1, (k4'.cell (a := ⟨lb, kk, none⟩) hlb3.out.1 hlb3.out.2).trans J0.2.2⟩
              obtain ⟨ao4, cp4, rfl⟩ := hout4.form
              have HOUT4 : Hid (OutAt W4 (.slice ao4 Lo1.length cp4) Lo1) := hout4
              have HM4 : Hid (Match rs (recv (deliver s (ps ++ List.replicate j p)).1 p).2 Lo1 ∧ Cst K rs dr (recv (deliver s (ps ++ List.replicate j p)).1 p).1 O1 W4 ∧ Kept Oj wr W4 ∧ ∀ g, O1 g → Oj g ∨ wr.heap.size ≤ g) := ⟨hm4, hc4, k4', o4⟩
              clear hout4 hm4 hc4 k4 k4' o4
              refine hK'.out _ _ J4 (fun _ => ?_)
              clear hK' K'
              try simp only [qA, qB, qC, Act.put, qD, qE, qF]
              refine wpAnyH_take (i := 8) (v := ?_) rfl (by kernel_rfl) (by kernel_rfl) (by kernel_rfl) (fun _ _ _ h => h) (Or.inl ⟨by rfl, ?_⟩) J4 ?_
              rotate_left 1
              · intro W hSW; clear hSW; go_simp; try with_reducible rfl
              simp only [qA, qB, qC, Act.put, qD, qE, qF]
              refine wpAnyH_take (i := 9) (v := ?_) rfl (by kernel_rfl) (by kernel_rfl) (by kernel_rfl) (fun _ _ _ h => h) (Or.inl ⟨by rfl, ?_⟩) J4 ?_
              rotate_left 1
              · intro W hSW; clear hSW; go_simp; try with_reducible rfl
              simp only [qA, qB, qC, Act.put, qD, qE, qF]
              refine wpAnyH_take (i := 10) (v := ?_) rfl (by kernel_rfl) (by kernel_rfl) (by kernel_rfl) (fun _ _ _ h => h) (Or.inl ⟨by rfl, ?_⟩) J4 ?_
              rotate_left 1
              · intro W hSW; clear hSW; go_simp; try with_reducible rfl
              simp only [qA, qB, qC, Act.put, qD, qE, qF]
              refine wpAnyH_take (i := 11) (v := ?_) rfl (by kernel_rfl) (by kernel_rfl) (by kernel_rfl) (fun _ _ _ h => h) (Or.inl ⟨by rfl, ?_⟩) J4 ?_
              rotate_left 1
              · intro W hSW; clear hSW; go_simp; try with_reducible rfl
              simp only [qA, qB, qC, Act.put, qD, qE, qF]
              refine wpAnyH_take (i := 12) (v := ?_) rfl (by kernel_rfl) (by kernel_rfl) (by kernel_rfl) (fun _ _ _ h => h) (Or.inl ⟨by rfl, ?_⟩) J4 ?_
              rotate_left 1
              · intro W hSW; clear hSW; go_simp; try with_reducible rfl
              simp only [qA, qB, qC, Act.put, qD, qE, qF]
              refine ⟨by kernel_rfl, ?_⟩
              refine NoPanic.normal ?_
              try simp only [qA, qB, qC, Act.put, qD, qE, qF]
              have o4 := own_below' (HRj.out.row) (Below.refl _ _)
              have sz := HRj.out.kept.size
              have row4 : W4.ownsRow w.heap.size 44 2 (.slice aj nj cj) Lj.length (wayC Lj) := HM4.out.2.2.1.own HRj.out.row (fun g hg => HRj.out.nown g hg)
              have hl1 : Lo1.length ≤ 4 := by have := HM4.out.1.1; have := recv_len (deliver s (ps ++ List.replicate j p)).1 p; omega
              have y4 := HOUT4.out
              have sz4 : w.heap.size ≤ W4.heap.size := Nat.le_trans sz s4

              go_wp2_with (first
                | (refine wpList_append_at rfl _ _ rfl w.heap.size _ Lj rfl row4 _ Lo1 rfl y4 (by omega) sz4 ?_
                   intro ao5 m5 cap5 W5 hm5 row5 g5 at5
                   have HR5 : Hid (Rn K rs dr s tb O w (ps ++ List.replicate (j + 1) p) ao5 m5 cap5 (Lj ++ Lo1) O1 W5) := (by
                     have := HRj.out.recv HISA.out HTB.out.1 HTB.out.2.1 HTB.out.2.2.1 HTB.out.2.2.2 HM4.out.1 HM4.out.2.1 HM4.out.2.2.1 HM4.out.2.2.2 row5 (by rw [List.length_append]; exact hm5) g5 at5
                     rw [List.append_assoc, ← List.replicate_succ'] at this
                     exact this)
                   have k5 : Kept (fun g => (Value.slice aj nj cj).ownBlock = some g) W4 W5 := Kept.grown g5 (fun k e => Or.inl e)
                   have npb : ¬ (Value.slice aj nj cj).ownBlock = some pb := HI5.out
                   have HP5 : Hid (W5.cell? ⟨pb, 0, none⟩ = some (.int .i64 (kk : Nat)) ∧ W5.cell? ⟨pb, 1, none⟩ = some (.string b) ∧ pb < W5.heap.size ∧ ¬ O1 pb ∧ (Value.slice ao5 m5 cap5).ownBlock ≠ some pb) := ⟨(k5.cell (a := ⟨pb, 0, none⟩) (by show pb < _; have := hpb3.out.1; omega) npb).trans J4.1, (k5.cell (a := ⟨pb, 1, none⟩) (by show pb < _; have := hpb3.out.1; omega) npb).trans J4.2.1, by have := hpb3.out.1; have := k5.size; omega, fun e => by rcases HM4.out.2.2.2 pb e with e | e; exact hpb3.out.2 e; have := hpb3.out.1; omega, fun e => by rcases at5 pb e with e | e; exact npb e; have := hpb3.out.1; omega⟩
                   clear row5 g5 at5 k5 npb hm5))
              refine ⟨⟨j + 1, ao5, m5, cap5, by omega, rfl, by first | rfl | (congr 1), ⟨⟨_, _, HR5.out, HP5.out.2.2.2.1⟩, HP5.out.1, HP5.out.2.1, HP5.out.2.2.1, HP5.out.2.2.2.2⟩⟩, ?_⟩
              simp [intOf]; omega
            · obtain rfl : t = j := by omega
              obtain ⟨Lj, Oj, hRj, hOpb⟩ := hI.out.1
              rw [HPSE.out] at hRj
              have HEND : Hid (RO K rs dr s tb O w J ns (ts ++ [t]) aj nj cj wr) := RO.snoc HTS.out.1 HTS.out.2.1 HTS.out.2.2 HPK.out HT2.out.1 HT2.out.2 (fun e => absurd e (by rw [HISA.out]; decide)) hRj
              clear hI hRj hOpb
              go_wp2_with fail
              have hlen := HKN.out
              refine ⟨⟨ts ++ [t], aj, nj, cj, rfl, by congr 1; rw [List.length_append, List.length_singleton]; omega, HEND, by rw [List.length_append, List.length_singleton]; omega, by rw [List.length_append, List.length_singleton]; omega⟩, ?_⟩
              simp [intOf]; omega
    · obtain ⟨Lo, O', hR⟩ := hRO.out.2.2.2
      have HE : Hid (RO K rs dr s tb O w J ns ts ao n cap wr) := hRO.out
      have hfin : ts.length = min 30 J.length := by omega
      clear hR
      by_cases hk1 : k < J.length
      · have t1 : (k : Int) < (wn : Int) := by have := HWN.out; have := HJL.out; omega
        have t2 : ¬ (k : Int) < 30 := by omega
        have HFIN : Hid (ts.length = min 30 J.length) := hfin
        clear hRO hlt hfin hwn hk
        go_wp2_with fail
        go_ret2
        exact ⟨ts, ao, n, cap, rfl, HFIN.out, HE.out⟩
      · have t1 : ¬ (k : Int) < (wn : Int) := by have := HWN.out; have := HJL.out; omega
        have HFIN : Hid (ts.length = min 30 J.length) := hfin
        clear hRO hlt hfin hwn hk
        go_wp2_with fail
        go_ret2
        exact ⟨ts, ao, n, cap, rfl, HFIN.out, HE.out⟩
end Go.Proofs.YteglimjonofdeaaGreatDoor
