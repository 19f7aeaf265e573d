import Derived.Test.YteglimjonofdeaaGreatDoorCPrefix0
set_option linter.unusedVariables false
set_option linter.unusedSimpArgs false
namespace Go.Proofs.YteglimjonofdeaaGreatDoor
open Go.RowKit

set_option maxRecDepth 10000 in
set_option maxHeartbeats 16000000 in
/-- The law Prefix. -/
theorem prefix_any (K : Nat → Int) (v : Value) (l : List Ask5) (ha : Option Addr) (hn hcap : Nat) (ns : List Int) (w : World) (h : AsksAt w v l) (hl9 : l.length ≤ 140737488355328) (hok : ∀ o ∈ l, o.ok) (hH : HowAt w (.slice ha hn hcap) ns) (hhn : hn = ns.length) (hnsb : ∀ x ∈ ns, -9223372036854775808 ≤ x ∧ x ≤ 9223372036854775807) (hnl : hn ≤ 140737488355328) (T : Tab K w) (hK : ∀ j, j < 64 → K j = ((tabN.getD j 0 : Nat) : Int)) :
    Calls Tryz.prog 4 #[v, .slice ha hn hcap] w fun e w' => e = .returned (.bool true) ∧ Below w.heap.size w w' := by
  have HOK : Hid (∀ o ∈ l, o.ok) := hok
  have HL : Hid (AsksAt w v l) := h
  have HT : Hid (Tab K w) := T
  have HH : Hid (HowAt w (.slice ha hn hcap) ns ∧ hn = ns.length ∧ (∀ x ∈ ns, -9223372036854775808 ≤ x ∧ x ≤ 9223372036854775807) ∧ hn ≤ 140737488355328) := ⟨hH, hhn, hnsb, hnl⟩
  have HNO := hno_250 K hK
  have HTL : Hid (1 < w.heap.size) := T.lt
  obtain ⟨ao, cap, rfl⟩ := h.slice
  obtain ⟨len, hlen⟩ : ∃ len, len = l.length := ⟨_, rfl⟩
  have HLEN : Hid (len = l.length) := hlen
  rw [← hlen] at hl9 ⊢
  have hseed := oseed_any 3 K w (by omega) (by omega) T
  clear hok h T hlen hH hhn hnsb
  go_enter Tryz.func4, Tryz.ntmps4
  go_wp2_with fail
  refine hseed.mono ?_
  rintro e W1 ⟨sd, rfl, hs, b1⟩
  have hnod := nodes_any K sd W1 hs (HT.out.below b1) HNO
  have HB1 : Hid (Below w.heap.size w W1) := b1
  clear hseed b1 HNO
  go_wp2_with fail
  refine hnod.mono ?_
  rintro e W2 ⟨dv, lb, lcap, dr, O, rfl, cst, lr, ll, lO, lw, own, dl, b2⟩
  obtain ⟨W3, h3⟩ : ∃ X, X = W2.alloc (.cells (Array.replicate 60 (.string ⟨#[]⟩)) 9) := ⟨_, rfl⟩
  have hS0 := LSt.begin HB1.out b2 cst lr ll lO lw own dl h3
  obtain ⟨tb, htb⟩ : ∃ tb, tb = W2.heap.size := ⟨_, rfl⟩
  rw [← htb] at hS0
  have HS0 : Hid (LSt K [] dr ps0 [] O tb lb w none 0 0 [] W3) := hS0
  have hmk := make60
  have hnil := node_nil lb lcap
  clear hnod cst lr ll lO lw own dl b2 hS0
  by_cases hbig : 12 < len
  case' pos =>
    have qb0 : (12 : Int) < (len : Int) := by omega
    go_wp2_with (first | (rw [← h3]; clear h3))
    simp only [← htb]
    obtain ⟨nn, hnn⟩ : ∃ nn : Nat, nn = 12 := ⟨_, rfl⟩
    have HNN : Hid (nn ≤ len ∧ nn ≤ 12) := ⟨by omega, by omega⟩
    have HN12 : Hid (Value.int .i64 12 = Value.int .i64 (nn : Nat)) := by rw [hnn]; rfl
    clear hnn htb hbig qb0
    apply act_eq
    case h => rw [HN12.out]
  case' neg =>
    have qb0 : ¬ (12 : Int) < (len : Int) := by omega
    go_wp2_with (first | (rw [← h3]; clear h3))
    simp only [← htb]
    obtain ⟨nn, hnn⟩ : ∃ nn : Nat, nn = len := ⟨_, rfl⟩
    have HNN : Hid (nn ≤ len ∧ nn ≤ 12) := ⟨by omega, by omega⟩
    have HN12 : Hid (Value.int .i64 (len : Nat) = Value.int .i64 (nn : Nat)) := by rw [hnn]; rfl
    clear hnn htb hbig qb0
    apply act_eq
    case h => rw [HN12.out]
  all_goals
    go_loopw [8, 11] (fun wv iv wr => ∃ (i : Nat) (wa : Option Addr) (wn wc : Nat), wv = .slice wa wn wc ∧ iv = .int .i64 (i : Nat) ∧ i ≤ nn ∧ Hid (PI K dr tb lb w i wa wn wc wr)) (fun _ iv _ => nn - (intOf iv).toNat)
    case atStart => exact ⟨0, none, 0, 0, rfl, rfl, by omega, [], ps0, [], O, [], HS0.out, ph1_0, rsok_0, by simp, fun _ => ⟨rfl, rfl⟩⟩
    case round =>
      obtain ⟨i, wa, wn, wc, rfl, rfl, hi, hP⟩ := hrel
      by_cases hlt : i < nn
      · as_aux_lemma =>
          obtain ⟨rs, s, J, O1, L, hS, hPh, hrs, hL, _⟩ := hP.out
          have HNNo := HNN.out
          have hi12 : i < 12 := by omega
          have hkl : i < l.length := by have := HLEN.out; omega
          have q1 : (i : Int) < (nn : Int) := by omega
          have q0 : (0 : Int) ≤ (i : Int) := by omega
          have q3 : (i : Int) < (len : Int) := by omega
          have q9 : (i : Int) < 12 := by omega
          have HS : Hid (LSt K rs dr s J O1 tb lb w wa wn wc L wr) := hS
          have HPH : Hid (Ph1 i s J ∧ RsOk rs ∧ L.length ≤ 240 ∧ rs.length = i) := ⟨hPh, hrs, hL, hS.cst.1.trans hPh.ai⟩
          obtain ⟨g, off, hao, hc⟩ : ∃ g off, ao = some ⟨g, off, none⟩ ∧ ∀ i o, l[i]? = some o → w.rangeAt g (off + i * 5) o.cells := by
            rcases HL.out.at_ with ⟨e, rfl⟩ | ⟨g, off, cap', e, h⟩
            · simp at hkl
            · exact ⟨g, off, by injection e, h⟩
          subst hao
          obtain ⟨a, ha'⟩ : ∃ a, a = l[i] := ⟨_, rfl⟩
          have hgl : g < w.heap.size := World.block_lt_of_cell? w _ (hc i a (by rw [List.getElem?_eq_getElem hkl, ha']) 0 _ rfl)
          have ra : wr.rangeAt g (off + i * 5) a.cells := fun x u hu => (hS.bl.cell (p := ⟨g, off + i * 5 + x, none⟩) hgl).trans (hc i a (by rw [List.getElem?_eq_getElem hkl, ha']) x u hu)
          have hoka : a.ok := HOK.out a (by rw [ha']; exact List.getElem_mem hkl)
          obtain ⟨a0, ha0⟩ : ∃ a0 : Ask5, a0 = ⟨0, a.o, a.p, a.v, a.t⟩ := ⟨_, rfl⟩
          have hok0 : a0.ok := by rw [ha0]; exact ⟨⟨by show (-9223372036854775808 : Int) ≤ 0; omega, by show (0 : Int) ≤ 9223372036854775807; omega⟩, hoka.2⟩
          have hia := info_ask a
          have hia0 := info_ask a0
          obtain ⟨R1, h1⟩ : ∃ X, X = wr.alloc (.cells askZ.toArray 32) := ⟨_, rfl⟩
          have s1 : R1.heap.size = wr.heap.size + 1 := by rw [h1]; simp
          have b1' : Below wr.heap.size wr R1 := by rw [h1]; exact (Below.refl _ _).alloc (Nat.le_refl _) _
          have t1 : R1.there wr.heap.size 0 a.cells.length := by rw [h1]; exact there_new wr askZ.toArray _
          have hreq := fun R3 => request0_any a0 ((i : Int) + 1) R3 hok0 (by rw [ha0]) ⟨by omega, by omega⟩
          have HA0 : Hid (a0 = ⟨0, a.o, a.p, a.v, a.t⟩) := ha0
          have hone := ask_one a
          clear hS hPh hrs hL hP hlt hc ha' ha0 hoka hok0
          generalize hac : a.cells.toArray = acs at *
          generalize hac0 : a0.cells.toArray = acs0 at *
          go_wp2_with (first
            | (refine wpList_load_mid rfl 32 _ rfl g (off + i * 5) rfl a.cells _ ra Tryz.underlying32 rfl hia ?_; rw [hac])
            | (refine wpList_alloc_of rfl 32 rfl askZ.toArray alloc_ask ?_; rw [← h1]; clear h1)
            | (refine wpList_store_abs rfl 32 _ _ rfl wr.heap.size 0 a.cells rfl (by rw [hac]; rfl) t1 hia hone ?_
               intro R2 hw2 hr2 ht2 hb2
               have B2 : Below wr.heap.size wr R2 := b1'.trans (hb2 wr.heap.size (Nat.le_refl _))
               have s2 : R2.heap.size = wr.heap.size + 1 := (by rw [hw2, size_setCells]; exact s1)
               have c0 : R2.cell? ⟨wr.heap.size, 0, none⟩ = some (.int .i64 a.c) := hr2 0 _ rfl
               have f0 : R2.frozen? ⟨wr.heap.size, 0, none⟩ = false := (ht2 0 (by show 0 < 5; omega)).2
               obtain ⟨R3, h3⟩ : ∃ X, X = R2.setCell ⟨wr.heap.size, 0, none⟩ (.int .i64 0) := ⟨_, rfl⟩
               have k3 : Kept (· = wr.heap.size) R2 R3 := (by rw [h3]; exact Kept.setCell _ _ _ (Or.inl rfl))
               have s3 : R3.heap.size = wr.heap.size + 1 := (by rw [h3]; simpa using s2)
               have r3 : R3.rangeAt wr.heap.size 0 a0.cells := (by
                 rw [HA0.out, h3]
                 intro x u hu
                 match x, hu with
                 | 0, hu => exact (World.cell?_setCell_same _ ⟨wr.heap.size, 0, none⟩ _ c0).trans hu
                 | 1, hu => rw [World.cell?_setCell_other _ _ _ _ (by intro e; have := congrArg Addr.off e; simp at this)]; exact hr2 1 _ hu
                 | 2, hu => rw [World.cell?_setCell_other _ _ _ _ (by intro e; have := congrArg Addr.off e; simp at this)]; exact hr2 2 _ hu
                 | 3, hu => rw [World.cell?_setCell_other _ _ _ _ (by intro e; have := congrArg Addr.off e; simp at this)]; exact hr2 3 _ hu
                 | 4, hu => rw [World.cell?_setCell_other _ _ _ _ (by intro e; have := congrArg Addr.off e; simp at this)]; exact hr2 4 _ hu
                 | x + 5, hu => cases hu)
               have HB3 : Hid (Below wr.heap.size wr R3) := B2.trans (k3.toBelow (by omega) (fun g hg => by omega))
               clear hw2 hr2 ht2 hb2 B2 k3 b1' t1 ra)
            | (rw [← h3]; clear h3)
            | (refine wpList_load_mid rfl 32 _ rfl wr.heap.size 0 rfl a0.cells _ r3 Tryz.underlying32 rfl hia0 ?_; rw [hac0]))
          refine (hreq R3).mono ?_
          rintro e R4 ⟨o, p, vr, tx, rfl, hw, b4⟩
          have s4 := b4.size
          obtain ⟨R5, h5⟩ : ∃ X, X = R4.alloc (.cells (rqCells 0 0 0 0 0 ⟨#[]⟩).toArray 29) := ⟨_, rfl⟩
          have b5 : Below R4.heap.size R4 R5 := by rw [h5]; exact (Below.refl _ _).alloc (Nat.le_refl _) _
          have t5 : R5.there R4.heap.size 0 (rqCells 1 ((i : Int) + 1) o p vr tx).length := by rw [h5]; exact there_new R4 (rqCells 0 0 0 0 0 ⟨#[]⟩).toArray _
          have s5 : R5.heap.size = R4.heap.size + 1 := by rw [h5]; simp
          have HQI : (Tryz.prog.info? 29).map (·.size) = some (rqCells 1 ((i : Int) + 1) o p vr tx).length := info_rq 1 ((i : Int) + 1) o p vr tx
          have HQO := rq_one 1 ((i : Int) + 1) o p vr tx
          have B5 : Hid (Below wr.heap.size wr R5) := (HB3.out.trans (b4.mono (by omega))).trans (b5.mono (by omega))
          clear hreq r3 c0 f0 b4 b5
          generalize hrq : (rqCells 1 ((i : Int) + 1) o p vr tx).toArray = rqc at *
          go_wp2_with (first
            | (refine wpList_alloc_of rfl 29 rfl (rqCells 0 0 0 0 0 ⟨#[]⟩).toArray alloc_rq ?_; rw [← h5]; clear h5)
            | (refine wpList_store_abs rfl 29 _ _ rfl R4.heap.size 0 (rqCells 1 ((i : Int) + 1) o p vr tx) rfl (by rw [hrq]; rfl) t5 HQI HQO ?_
               intro R6 hw6 hr6 _ht6 hb6
               have B6 : Hid (Below wr.heap.size wr R6) := B5.out.trans (hb6 wr.heap.size (by omega))
               have s6 : R6.heap.size = R4.heap.size + 1 := (by rw [hw6, size_setCells]; exact s5)
               have HR6 : Hid (R6.rangeAt R4.heap.size 0 (rqCells 1 ((i : Int) + 1) o p vr tx)) := hr6
               clear _ht6 hw6 hb6 hr6 t5))
          obtain ⟨q, hq0⟩ : ∃ q : Rq, q = ⟨1, (i : Int) + 1, o, p, vr, tx⟩ := ⟨_, rfl⟩
          obtain ⟨qb, hqb⟩ : ∃ qb, qb = R4.heap.size := ⟨_, rfl⟩
          have hrl := HPH.out.2.2.2
          have HRS1 : Hid (RsOk (rs ++ [q])) := RsOk.snoc HPH.out.2.1 (by omega) (by rw [hq0]; exact hw) (by rw [hq0]) (by rw [hq0]; show (i : Int) + 1 = _; omega)
          have HPT0 : Hid (PT K dr tb lb qb w i rs q 0 wa wn wc R6) := ⟨rs, s, J, O1, L, HS.out.fresh B6.out, Or.inl ⟨rfl, HPH.out.1⟩, Or.inl ⟨rfl, rfl⟩, HPH.out.2.2.1, by rw [hq0, hqb]; exact HR6.out, by omega, fun e => by have := HS.out.cst.lt qb e; omega, fun e => by have := (HS.out.row.lt qb e).2; omega⟩
          have HQT : Hid (tb < qb) := by have := HS.out.told.1; show _ < _; omega
          simp only [← hqb]
          have HRL : Hid (rs.length = i) := hrl
          clear hqb hq0 hrl HS HPH hw
          go_loopw [8, 14] (fun wv tv w2 => ∃ (t : Nat) (wa : Option Addr) (wn wc : Nat), wv = .slice wa wn wc ∧ tv = .int .i64 (t : Nat) ∧ t ≤ 200 ∧ Hid (PT K dr tb lb qb w i rs q t wa wn wc w2)) (fun _ tv _ => 200 - (intOf tv).toNat)
          case atStart => exact ⟨0, wa, wn, wc, rfl, rfl, by omega, HPT0⟩
          case round =>
            obtain ⟨t, wa, wn, wc, rfl, rfl, ht, hPT⟩ := hrel
            obtain ⟨rs1, s, J, O1, L, hS, hTS, hcase, hL, hq, hql, hqO, hqr⟩ := hPT.out
            obtain ⟨bt, ht1, ht2⟩ := hS.told.2.2 (i + 1) (by omega)
            by_cases hnt : i + 1 ∈ s.told
            · have hno0 : t ≠ 0 := fun e => by
                rcases hTS with ⟨_, hp⟩ | ⟨_, e2, _⟩ | ⟨h1, _, _⟩
                · have h1 := hp.inv.tc _ hnt; have h2 := hp.inv.cb; have h3 := hp.inv.ba; have h4 := hp.ai; omega
                · exact e2 hnt
                · omega
              have hPh : Ph1 (i + 1) s J := by
                rcases hTS with ⟨e, _⟩ | ⟨_, e, _⟩ | ⟨_, _, hp⟩
                · exact absurd e hno0
                · exact absurd hnt e
                · exact hp
              have hrs1 : rs1 = rs ++ [q] := by
                rcases hcase with ⟨e, _⟩ | ⟨_, e⟩
                · exact absurd e hno0
                · exact e
              have hbs : bt.size ≠ 0 := fun e => (ht2.1 e) hnt
              have hbe : ¬ bt = ⟨#[]⟩ := fun e => hbs (by rw [e]; rfl)
              have hbq : (bt == (⟨#[]⟩ : ByteArray)) = false := by
                cases hx : (bt == (⟨#[]⟩ : ByteArray)) with
                | false => rfl
                | true =>
                  have hd : (bt.data == #[]) = true := hx
                  have he : bt.data = #[] := by simpa using hd
                  exact absurd (by cases bt; simp only at he; rw [he]) hbe
              have hbl : (bt.toList == (⟨#[]⟩ : ByteArray).toList) = false := by rw [← beq_toListBytes]; exact hbq
              have hbl2 : ¬ bt.toList = (⟨#[]⟩ : ByteArray).toList := fun e => by rw [e] at hbl; simp at hbl
              have hemp : bt.toList.isEmpty = false := by
                cases hx : bt.toList.isEmpty with
                | false => rfl
                | true => exact absurd (show bt.toList = (⟨#[]⟩ : ByteArray).toList from (List.isEmpty_iff.1 hx).trans (by first | rfl | simp | decide)) hbl2
              clear hbl hbl2 hbq hbe
              have HPI : Hid (PI K dr tb lb w (i + 1) wa wn wc wr) := ⟨rs1, s, J, O1, L, hS, hPh, by rw [hrs1]; exact HRS1.out, hL, fun e => by omega⟩
              have ct : wr.cell? ⟨tb, i + 1, none⟩ = some (.string bt) := ht1
              clear hS hTS hcase hL hq hql hqO hqr ht1 ht2 hPT hnt hPh hrs1 hno0
              by_cases e200 : t < 200
              · have u1 : (t : Int) < 200 := by omega
                clear e200
                go_wp2_with fail
                refine ⟨⟨i + 1, wa, wn, wc, rfl, by first | rfl | (congr 1), by omega, HPI⟩, ?_⟩
                simp [intOf]; omega
              · have u1 : ¬ (t : Int) < 200 := by omega
                clear e200
                go_wp2_with fail
                refine ⟨⟨i + 1, wa, wn, wc, rfl, by first | rfl | (congr 1), by omega, HPI⟩, ?_⟩
                simp [intOf]; omega
            · have hbt : bt = ⟨#[]⟩ := by
                have := ht2.2 hnt
                obtain ⟨⟨l⟩⟩ := bt
                have : l = [] := List.eq_nil_of_length_eq_zero this
                rw [this]
              subst hbt
              have ht200 : t < 200 := by
                by_cases e : t = 200
                · subst e; exact absurd (hTS.told hi12).2 hnt
                · omega
              obtain ⟨s1, Jo, hst, hmt, hMid, hJo, hcall⟩ := req_round hS hTS hcase hi12 HRL.out HRS1.out hnt
              have u1 : (t : Int) < 200 := by omega
              have u0 : (0 : Int) ≤ (t : Int) := by omega
              have HS : Hid (LSt K rs1 dr s J O1 tb lb w wa wn wc L wr) := hS
              have HCALL : Hid (∀ W, Cst K rs1 dr s O1 W → Calls Tryz.prog 9 #[.pointer (some ⟨dr 0, 0, none⟩), .agg (rqCells q.c q.n q.o q.p q.v q.t).toArray] W fun e w' => ∃ v r, e = .returned (.tuple #[v, r]) ∧ COut K (rs ++ [q]) dr s1 Jo O1 W v r w') := hcall
              have HMID : Hid (s1.told = s.told ∧ Match (rs ++ [q]) J L ∧ Mid i t s1 (J ++ Jo) ∧ Jo.length ≤ 4 ∧ L.length ≤ 240) := ⟨hst, hmt, hMid, hJo, hL⟩
              have HQB : Hid (qb < wr.heap.size ∧ ¬ O1 qb ∧ (Value.slice wa wn wc).ownBlock ≠ some qb) := ⟨hql, hqO, hqr⟩
              have J0 : wr.drew.cell? ⟨lb, 0, none⟩ = some (.pointer (some ⟨dr 0, 0, none⟩)) ∧ wr.drew.rangeAt qb 0 (rqCells q.c q.n q.o q.p q.v q.t) := ⟨hS.lr 0 _ rfl, hq⟩
              have ct : wr.cell? ⟨tb, i + 1, none⟩ = some (.string ⟨#[]⟩) := ht1
              clear hS hTS hcase hL hq hql hqO hqr ht1 ht2 hst hmt hMid hJo hcall hPT hnt
              by_cases h41 : 41 ≤ t
              case' pos =>
                have u41 : (40 : Int) < (t : Int) := by omega
                have RUN : Hid (RunAll K (rs ++ [q]) dr tb lb lcap w i t (.slice none 0 0)) := RunAll.of (ns := []) HTL.out HRS1.out (by omega) (Or.inl ⟨⟨_, _, rfl⟩, rfl⟩) rfl (fun x hx => by cases hx) (by omega) (fun _ => rfl)
                clear h41
                go_wp2_with fail
              case' neg =>
                have u41 : ¬ (40 : Int) < (t : Int) := by omega
                have RUN : Hid (RunAll K (rs ++ [q]) dr tb lb lcap w i t (.slice ha hn hcap)) := RunAll.of HTL.out HRS1.out (by omega) HH.out.1 HH.out.2.1 HH.out.2.2.1 HH.out.2.2.2 (fun e => absurd e h41)
                clear h41
                go_wp2_with fail
              all_goals
                as_aux_lemma =>
                  refine wp_region_noPanic ?_
                  refine wp_region_held_drew (S := fun W => W.cell? ⟨lb, 0, none⟩ = some (.pointer (some ⟨dr 0, 0, none⟩)) ∧ W.rangeAt qb 0 (rqCells q.c q.n q.o q.p q.v q.t)) (by kernel_rfl) J0 (fun _ => ?_)
                  refine wpAnyH_take (i := 0) (v := ?_) rfl (by kernel_rfl) (by kernel_rfl) (by kernel_rfl) (fun _ _ _ h => h) (Or.inl ⟨by rfl, ?_⟩) J0 ?_
                  rotate_left 1
                  · intro W hSW; clear hSW; go_simp; try with_reducible rfl
                  simp only [qA, qB, qC, Act.put, qD, qE, qF]
                  refine wpAnyH_take (i := 1) (v := ?_) rfl (by kernel_rfl) (by kernel_rfl) (by kernel_rfl) (fun _ _ _ h => h) (Or.inl ⟨by rfl, ?_⟩) J0 ?_
                  rotate_left 1
                  · intro W hSW; clear hSW; go_simp; try with_reducible rfl
                  simp only [qA, qB, qC, Act.put, qD, qE, qF]
                  refine wpAnyH_take (i := 2) (v := ?_) rfl (by kernel_rfl) (by kernel_rfl) (by kernel_rfl) (fun _ _ _ h => h) (Or.inl ⟨by rfl, ?_⟩) J0 ?_
                  rotate_left 1
                  · intro W hSW; have q0 := hSW.1; clear hSW; go_simp; try with_reducible rfl
                  simp only [qA, qB, qC, Act.put, qD, qE, qF]
                  refine wpAnyH_take (i := 3) (v := .agg ((rqCells q.c q.n q.o q.p q.v q.t)).toArray) rfl (by kernel_rfl) (by kernel_rfl) (by kernel_rfl) (fun _ _ _ h => h) (yieldsIf_load_mid (by rfl) 29 _ rfl qb 0 rfl ((rqCells q.c q.n q.o q.p q.v q.t)) _ (fun W hW => hW.2) Tryz.underlying29 rfl (info_rq _ _ _ _ _ _)) J0 ?_
                  simp only [qA, qB, qC, Act.put, qD, qE, qF]
                  refine wpAnyH_ready (rs := [4]) (by kernel_rfl) (by simp) ?_
                  refine AllReadyH.cons rfl (fun K' hK' => ?_) AllReadyH.nil
                  rw [if_pos (by rfl)]
                  go_simp
                  refine (HCALL.out wr.drew (HS.out.cst.fresh (Below.refl _ _).drew)).mono ?_
                  rintro e W4 ⟨v4, r4, rfl, Lo1, O2, rfl, hout4, hm4, hc4, k4, o4⟩
                  have k4' : Kept O1 wr W4 := (Kept.drew _ wr).trans k4 (fun _ _ h => h)
                  have s4 := k4'.size
                  have J4 : W4.cell? ⟨lb, 0, none⟩ = some (.pointer (some ⟨dr 0, 0, none⟩)) ∧ W4.rangeAt qb 0 (rqCells q.c q.n q.o q.p q.v q.t) := ⟨(k4'.cell (a := ⟨lb, 0, none⟩) HS.out.ll HS.out.nO.1).trans J0.1, range_kept (W := wr) J0.2 k4' HQB.out.1 HQB.out.2.1⟩
                  obtain ⟨ao4, cp4, rfl⟩ := hout4.form
                  have HOUT4 : Hid (OutAt W4 (.slice ao4 Lo1.length cp4) Lo1) := hout4
                  have HM4 : Hid (Match (rs ++ [q]) Jo Lo1 ∧ Cst K (rs ++ [q]) dr s1 O2 W4 ∧ Kept O1 wr W4 ∧ ∀ g, O2 g → O1 g ∨ wr.heap.size ≤ g) := ⟨hm4, hc4, k4', o4⟩
                  clear hout4 hm4 hc4 k4 k4' o4
                  refine hK'.out _ _ J4 (fun _ => ?_)
                  clear hK' K'
                  try simp only [qA, qB, qC, Act.put, qD, qE, qF]
                  refine wpAnyH_take (i := 5) (v := ?_) rfl (by kernel_rfl) (by kernel_rfl) (by kernel_rfl) (fun _ _ _ h => h) (Or.inl ⟨by rfl, ?_⟩) J4 ?_
                  rotate_left 1
                  · intro W hSW; clear hSW; go_simp; try with_reducible rfl
                  simp only [qA, qB, qC, Act.put, qD, qE, qF]
                  refine wpAnyH_take (i := 6) (v := ?_) rfl (by kernel_rfl) (by kernel_rfl) (by kernel_rfl) (fun _ _ _ h => h) (Or.inl ⟨by rfl, ?_⟩) J4 ?_
                  rotate_left 1
                  · intro W hSW; clear hSW; go_simp; try with_reducible rfl
                  simp only [qA, qB, qC, Act.put, qD, qE, qF]
                  refine wpAnyH_take (i := 7) (v := ?_) rfl (by kernel_rfl) (by kernel_rfl) (by kernel_rfl) (fun _ _ _ h => h) (Or.inl ⟨by rfl, ?_⟩) J4 ?_
                  rotate_left 1
                  · intro W hSW; clear hSW; go_simp; try with_reducible rfl
                  simp only [qA, qB, qC, Act.put, qD, qE, qF]
                  refine wpAnyH_take (i := 8) (v := ?_) rfl (by kernel_rfl) (by kernel_rfl) (by kernel_rfl) (fun _ _ _ h => h) (Or.inl ⟨by rfl, ?_⟩) J4 ?_
                  rotate_left 1
                  · intro W hSW; clear hSW; go_simp; try with_reducible rfl
                  simp only [qA, qB, qC, Act.put, qD, qE, qF]
                  refine wpAnyH_take (i := 9) (v := ?_) rfl (by kernel_rfl) (by kernel_rfl) (by kernel_rfl) (fun _ _ _ h => h) (Or.inl ⟨by rfl, ?_⟩) J4 ?_
                  rotate_left 1
                  · intro W hSW; clear hSW; go_simp; try with_reducible rfl
                  simp only [qA, qB, qC, Act.put, qD, qE, qF]
                  refine ⟨by kernel_rfl, ?_⟩
                  refine NoPanic.normal ?_
                  try simp only [qA, qB, qC, Act.put, qD, qE, qF]
                  have row4 : W4.ownsRow w.heap.size 44 2 (.slice wa wn wc) L.length (wayC L) := HM4.out.2.2.1.own HS.out.row (fun g hg => (HS.out.nrow g hg).1)
                  have sz4 : w.heap.size ≤ W4.heap.size := Nat.le_trans HS.out.bl.size s4
                  have y4 := HOUT4.out
                  have hLb : L.length ≤ 240 := HMID.out.2.2.2.2
                  have hL1 : Lo1.length ≤ 4 := by have := HM4.out.1.1; have := HMID.out.2.2.2.1; omega
                  have HQ0 : Hid (wr.rangeAt qb 0 (rqCells q.c q.n q.o q.p q.v q.t)) := J0.2
                  have HQI := info_rq q.c q.n q.o q.p q.v q.t
                  clear J0 J4 ct
                  go_wp2_with (first
                    | (refine wpList_append_at rfl _ _ rfl w.heap.size _ L rfl row4 _ Lo1 rfl y4 (by omega) sz4 ?_
                       intro wa5 m5 wc5 W5 hm5 row5 g5 at5
                       have hS5 : LSt K (rs ++ [q]) dr s1 (J ++ Jo) O2 tb lb w wa5 m5 wc5 (L ++ Lo1) W5 := HS.out.app HTL.out HMID.out.2.1 HMID.out.1 HM4.out.1 HM4.out.2.1 HM4.out.2.2.1 HM4.out.2.2.2 row5 (by rw [List.length_append]; exact hm5) g5 at5
                       have hl5 := HS.out.app_left HM4.out.2.2.1 HM4.out.2.2.2 g5 at5 qb HQB.out.1 HQB.out.2.1 HQB.out.2.2
                       have HTK0 : Hid (TK K dr tb lb qb w (rs ++ [q]) q s1 (J ++ Jo) 0 wa5 m5 wc5 W5) := ⟨O2, L ++ Lo1, (by rw [show J ++ Jo ++ tkN (tickN s1) 0 = J ++ Jo from List.append_nil _]; exact hS5), (by rw [List.length_append]; omega), range_block hl5.1 HQ0.out, (by have h9 := block_lt (show W5.heap[qb]? = _ from hl5.1.trans (Array.getElem?_eq_getElem HQB.out.1)); exact h9), hl5.2.1, hl5.2.2⟩
                       clear row5 g5 at5 hm5 hS5 hl5 row4 y4))
                  go_loopw [8, 18] (fun wv kv w3 => ∃ (k : Nat) (wa : Option Addr) (wn wc : Nat), wv = .slice wa wn wc ∧ kv = .int .i64 (k : Nat) ∧ k ≤ 3 ∧ Hid (TK K dr tb lb qb w (rs ++ [q]) q s1 (J ++ Jo) k wa wn wc w3)) (fun _ kv _ => 3 - (intOf kv).toNat)
                  case atStart => exact ⟨0, wa5, m5, wc5, rfl, rfl, by omega, HTK0⟩
                  case round =>
                    obtain ⟨k, wa, wn, wc, rfl, rfl, hk3, hTK⟩ := hrel
                    obtain ⟨O3, L3, hS3, hL3, hq3, hql3, hqO3, hqr3⟩ := hTK.out
                    by_cases hkl3 : k < 3
                    · have x1 : (k : Int) < 3 := by omega
                      have x0 : (0 : Int) ≤ (k : Int) := by omega
                      have htk := tick_chain K (rs ++ [q]) dr s1 O3 i k wr HRS1.out (by omega) HMID.out.2.2.1.inv hkl3 hS3.cst
                      have cl : wr.cell? ⟨lb, k, none⟩ = some (.pointer (some ⟨dr k, 0, none⟩)) := by
                        obtain rfl | rfl | rfl : k = 0 ∨ k = 1 ∨ k = 2 := by omega
                        · exact hS3.lr 0 _ rfl
                        · exact hS3.lr 1 _ rfl
                        · exact hS3.lr 2 _ rfl
                      have HS3 : Hid (LSt K (rs ++ [q]) dr s1 (J ++ Jo ++ tkN (tickN s1) k) O3 tb lb w wa wn wc L3 wr) := hS3
                      have HQ3 : Hid (wr.rangeAt qb 0 (rqCells q.c q.n q.o q.p q.v q.t) ∧ qb < wr.heap.size ∧ ¬ O3 qb ∧ (Value.slice wa wn wc).ownBlock ≠ some qb) := ⟨hq3, hql3, hqO3, hqr3⟩
                      have HK3 : Hid (k < 3) := hkl3
                      clear hS3 hq3 hql3 hqO3 hqr3 hTK hkl3
                      go_wp2_with fail
                      refine htk.mono ?_
                      rintro e W7 ⟨v7, r7, rfl, Lo7, O7, rfl, hout7, hm7, hc7, k7, o7⟩
                      have s7 := k7.size
                      have row7 : W7.ownsRow w.heap.size 44 2 (.slice wa wn wc) L3.length (wayC L3) := k7.own HS3.out.row (fun g hg => (HS3.out.nrow g hg).1)
                      have sz7 : w.heap.size ≤ W7.heap.size := Nat.le_trans HS3.out.bl.size s7
                      obtain ⟨ao7, cp7, rfl⟩ := hout7.form
                      have hL7 : Lo7.length ≤ 5 := by have := hm7.1; have := tickN_len s1 k; omega
                      have HM7 : Hid (Match (rs ++ [q]) (tickN s1 k) Lo7 ∧ Cst K (rs ++ [q]) dr s1 O7 W7 ∧ Kept O3 wr W7 ∧ ∀ g, O7 g → O3 g ∨ wr.heap.size ≤ g) := ⟨hm7, hc7, k7, o7⟩
                      clear htk hm7 hc7 k7 o7 cl
                      go_wp2_with (first
                        | (refine wpList_append_at rfl _ _ rfl w.heap.size _ L3 rfl row7 _ Lo7 rfl hout7 (by omega) sz7 ?_
                           intro wa8 m8 wc8 W8 hm8 row8 g8 at8
                           have hS8 : LSt K (rs ++ [q]) dr s1 (J ++ Jo ++ tkN (tickN s1) k ++ tickN s1 k) O7 tb lb w wa8 m8 wc8 (L3 ++ Lo7) W8 := HS3.out.app HTL.out HS3.out.mt rfl HM7.out.1 HM7.out.2.1 HM7.out.2.2.1 HM7.out.2.2.2 row8 (by rw [List.length_append]; exact hm8) g8 at8
                           have hl8 := HS3.out.app_left HM7.out.2.2.1 HM7.out.2.2.2 g8 at8 qb HQ3.out.2.1 HQ3.out.2.2.1 HQ3.out.2.2.2
                           have HTK8 : Hid (TK K dr tb lb qb w (rs ++ [q]) q s1 (J ++ Jo) (k + 1) wa8 m8 wc8 W8) := ⟨O7, L3 ++ Lo7, (by rw [show J ++ Jo ++ tkN (tickN s1) (k + 1) = J ++ Jo ++ tkN (tickN s1) k ++ tickN s1 k from (List.append_assoc _ _ _).symm]; exact hS8), (by rw [List.length_append]; omega), range_block hl8.1 HQ3.out.1, (by have h9 := block_lt (show W8.heap[qb]? = _ from hl8.1.trans (Array.getElem?_eq_getElem HQ3.out.2.1)); exact h9), hl8.2.1, hl8.2.2⟩
                           clear row8 g8 at8 hm8 hS8 hl8 row7 hout7))
                      have hk9 := HK3.out
                      refine ⟨⟨k + 1, wa8, m8, wc8, rfl, by first | rfl | (congr 1), by omega, HTK8⟩, ?_⟩
                      simp [intOf]; omega
                    · skip
                      obtain rfl : k = 3 := by omega
                      rw [tk3] at hS3
                      have hMid := HMID.out.2.2.1
                      have hrun := RUN.out s1 (J ++ Jo ++ tickL s1) O3 wa wn wc L3 wr (7 * t + i) hS3 hMid.inv hMid.ok hMid.one (fun n hn => ⟨by have := (hMid.at_ n hn).1; omega, by rw [(hMid.at_ n hn).1]; exact hMid.nt⟩) (by omega) (by omega)
                      rw [show ((7 * t + i : Nat) : Int) = 7 * (t : Int) + (i : Int) by omega] at hrun
                      have HQ3 : Hid (wr.rangeAt qb 0 (rqCells q.c q.n q.o q.p q.v q.t) ∧ qb < wr.heap.size ∧ ¬ O3 qb) := ⟨hq3, hql3, hqO3⟩
                      clear hS3 hMid hq3 hql3 hqO3 hqr3 hTK
                      go_wp2_with fail
                      refine hrun.mono ?_
                      rintro e W9 ⟨ts, wa9, n9, wc9, Lo9, O9, rfl, hl9', h1s, hS9, hL9, hleft⟩
                      have hTS9 := HMID.out.2.2.1.next ts hl9' h1s
                      have hlq := hleft qb HQ3.out.2.1 HQ3.out.2.2 (by have := HQT.out; omega)
                      obtain ⟨x9, hx9⟩ : ∃ x9, x9 = deliver s1 (sched ((J ++ Jo ++ tickL s1).take ts.length) ts) := ⟨_, rfl⟩
                      rw [← hx9] at hS9 hTS9
                      have htst := hTS9.tests
                      have HS9_0 : Hid (LSt K (rs ++ [q]) dr x9.1 x9.2 O9 tb lb w wa9 n9 wc9 Lo9 W9) := hS9
                      have HTS9 : Hid (TSt i (t + 1) x9.1 x9.2 ∧ Lo9.length ≤ 240) := ⟨hTS9, hL9⟩
                      have HQ9 : Hid (W9.rangeAt qb 0 (rqCells q.c q.n q.o q.p q.v q.t) ∧ qb < W9.heap.size ∧ ¬ O9 qb ∧ (Value.slice wa9 n9 wc9).ownBlock ≠ some qb) := ⟨range_block hlq.1 HQ3.out.1, block_lt (show W9.heap[qb]? = _ from hlq.1.trans (Array.getElem?_eq_getElem HQ3.out.2.1)), hlq.2.1, hlq.2.2⟩
                      clear hrun hl9' h1s hS9 hTS9 hlq hleft hx9 hL9
                      have y1 : ¬ ((logN x9.1 0 : Nat) : Int) < ((logN x9.1 1 : Nat) : Int) := by show ¬ ((x9.1.a : Nat) : Int) < ((x9.1.b : Nat) : Int); omega
                      have y2 : ¬ ((logN x9.1 1 : Nat) : Int) < ((logN x9.1 2 : Nat) : Int) := by show ¬ ((x9.1.b : Nat) : Int) < ((x9.1.c : Nat) : Int); omega
                      have y3 : ¬ ((logN x9.1 2 : Nat) : Int) < ((ackN x9.1 1 : Nat) : Int) := by show ¬ ((x9.1.c : Nat) : Int) < ((x9.1.k1 : Nat) : Int); omega
                      have y4 : ¬ ((ackN x9.1 1 : Nat) : Int) < ((ackN x9.1 0 : Nat) : Int) := by show ¬ ((x9.1.k1 : Nat) : Int) < ((x9.1.k0 : Nat) : Int); omega
                      have y5 : ¬ (i : Int) + 1 < ((logN x9.1 0 : Nat) : Int) := by show ¬ (i : Int) + 1 < ((x9.1.a : Nat) : Int); omega
                      clear htst
                      have hse0 := see_chain K (rs ++ [q]) dr x9.1 O9 0 W9 HRS1.out (by omega) HS9_0.out.cst
                      have cl0 : W9.cell? ⟨lb, 0, none⟩ = some (.pointer (some ⟨dr 0, 0, none⟩)) := HS9_0.out.lr 0 _ rfl
                      go_wp2_with fail
                      refine hse0.mono ?_
                      rintro e Wa0 ⟨sr0, rfl, ba0⟩
                      have sa0 := ba0.size
                      obtain ⟨Wb0, hb0⟩ : ∃ X, X = Wa0.alloc (.cells (stG 0 0 0 0).toArray 39) := ⟨_, rfl⟩
                      have bb0 : Below Wa0.heap.size Wa0 Wb0 := by rw [hb0]; exact (Below.refl _ _).alloc (Nat.le_refl _) _
                      have sb0 : Wb0.heap.size = Wa0.heap.size + 1 := by rw [hb0]; simp
                      have tb0 : Wb0.there Wa0.heap.size 0 (stG ((logN x9.1 0 : Nat) : Int) ((ackN x9.1 0 : Nat) : Int) sr0 ((0 : Nat) : Int)).length := by rw [hb0]; exact there_new Wa0 (stG 0 0 0 0).toArray _
                      have HI0 := st_info ((logN x9.1 0 : Nat) : Int) ((ackN x9.1 0 : Nat) : Int) sr0 ((0 : Nat) : Int)
                      have HO0 := st_one ((logN x9.1 0 : Nat) : Int) ((ackN x9.1 0 : Nat) : Int) sr0 ((0 : Nat) : Int)
                      clear hse0 cl0
                      generalize hst0 : (stG ((logN x9.1 0 : Nat) : Int) ((ackN x9.1 0 : Nat) : Int) sr0 ((0 : Nat) : Int)).toArray = cst0 at *
                      go_wp2_with (first
                        | (refine wpList_alloc_of rfl 39 rfl (stG 0 0 0 0).toArray alloc_st ?_; rw [← hb0]; clear hb0)
                        | (refine wpList_store_abs rfl 39 _ _ rfl Wa0.heap.size 0 (stG ((logN x9.1 0 : Nat) : Int) ((ackN x9.1 0 : Nat) : Int) sr0 ((0 : Nat) : Int)) rfl (by rw [hst0]; rfl) tb0 HI0 HO0 ?_
                           intro Wc0 hwc0 hrc0 _htc0 hbc0
                           have sc0 : Wc0.heap.size = Wa0.heap.size + 1 := (by rw [hwc0, size_setCells]; exact sb0)
                           have bc0 : Below W9.heap.size W9 Wc0 := (ba0.trans (bb0.mono sa0)).trans (hbc0 W9.heap.size sa0)
                           have HS9_1 : Hid (LSt K (rs ++ [q]) dr x9.1 x9.2 O9 tb lb w wa9 n9 wc9 Lo9 Wc0) := HS9_0.out.fresh bc0
                           have z000 : Wc0.cell? ⟨Wa0.heap.size, 0, none⟩ = some (.int .i64 ((logN x9.1 0 : Nat) : Int)) := hrc0 0 _ rfl
                           have z001 : Wc0.cell? ⟨Wa0.heap.size, 1, none⟩ = some (.int .i64 ((ackN x9.1 0 : Nat) : Int)) := hrc0 1 _ rfl
                           have cl1 : Wc0.cell? ⟨lb, 1, none⟩ = some (.pointer (some ⟨dr 1, 0, none⟩)) := HS9_1.out.lr 1 _ rfl
                           have HBW0 : Hid (Below W9.heap.size W9 Wc0) := bc0
                           clear hwc0 hrc0 _htc0 hbc0 bc0 ba0 bb0 tb0 ))
                      have hse1 := see_chain K (rs ++ [q]) dr x9.1 O9 1 Wc0 HRS1.out (by omega) HS9_1.out.cst
                      refine hse1.mono ?_
                      rintro e Wa1 ⟨sr1, rfl, ba1⟩
                      have sa1 := ba1.size
                      obtain ⟨Wb1, hb1⟩ : ∃ X, X = Wa1.alloc (.cells (stG 0 0 0 0).toArray 39) := ⟨_, rfl⟩
                      have bb1 : Below Wa1.heap.size Wa1 Wb1 := by rw [hb1]; exact (Below.refl _ _).alloc (Nat.le_refl _) _
                      have sb1 : Wb1.heap.size = Wa1.heap.size + 1 := by rw [hb1]; simp
                      have tb1 : Wb1.there Wa1.heap.size 0 (stG ((logN x9.1 1 : Nat) : Int) ((ackN x9.1 1 : Nat) : Int) sr1 ((0 : Nat) : Int)).length := by rw [hb1]; exact there_new Wa1 (stG 0 0 0 0).toArray _
                      have HI1 := st_info ((logN x9.1 1 : Nat) : Int) ((ackN x9.1 1 : Nat) : Int) sr1 ((0 : Nat) : Int)
                      have HO1 := st_one ((logN x9.1 1 : Nat) : Int) ((ackN x9.1 1 : Nat) : Int) sr1 ((0 : Nat) : Int)
                      clear hse1 cl1
                      generalize hst1 : (stG ((logN x9.1 1 : Nat) : Int) ((ackN x9.1 1 : Nat) : Int) sr1 ((0 : Nat) : Int)).toArray = cst1 at *
                      go_wp2_with (first
                        | (refine wpList_alloc_of rfl 39 rfl (stG 0 0 0 0).toArray alloc_st ?_; rw [← hb1]; clear hb1)
                        | (refine wpList_store_abs rfl 39 _ _ rfl Wa1.heap.size 0 (stG ((logN x9.1 1 : Nat) : Int) ((ackN x9.1 1 : Nat) : Int) sr1 ((0 : Nat) : Int)) rfl (by rw [hst1]; rfl) tb1 HI1 HO1 ?_
                           intro Wc1 hwc1 hrc1 _htc1 hbc1
                           have sc1 : Wc1.heap.size = Wa1.heap.size + 1 := (by rw [hwc1, size_setCells]; exact sb1)
                           have bc1 : Below Wc0.heap.size Wc0 Wc1 := (ba1.trans (bb1.mono sa1)).trans (hbc1 Wc0.heap.size sa1)
                           have HS9_2 : Hid (LSt K (rs ++ [q]) dr x9.1 x9.2 O9 tb lb w wa9 n9 wc9 Lo9 Wc1) := HS9_1.out.fresh bc1
                           have z110 : Wc1.cell? ⟨Wa1.heap.size, 0, none⟩ = some (.int .i64 ((logN x9.1 1 : Nat) : Int)) := hrc1 0 _ rfl
                           have z111 : Wc1.cell? ⟨Wa1.heap.size, 1, none⟩ = some (.int .i64 ((ackN x9.1 1 : Nat) : Int)) := hrc1 1 _ rfl
                           have z010 : Wc1.cell? ⟨Wa0.heap.size, 0, none⟩ = some (.int .i64 ((logN x9.1 0 : Nat) : Int)) := (bc1.cell (p := ⟨Wa0.heap.size, 0, none⟩) (by show Wa0.heap.size < _; omega)).trans z000
                           have z011 : Wc1.cell? ⟨Wa0.heap.size, 1, none⟩ = some (.int .i64 ((ackN x9.1 0 : Nat) : Int)) := (bc1.cell (p := ⟨Wa0.heap.size, 1, none⟩) (by show Wa0.heap.size < _; omega)).trans z001
                           have cl2 : Wc1.cell? ⟨lb, 2, none⟩ = some (.pointer (some ⟨dr 2, 0, none⟩)) := HS9_2.out.lr 2 _ rfl
                           have HBW1 : Hid (Below Wc0.heap.size Wc0 Wc1) := bc1
                           clear hwc1 hrc1 _htc1 hbc1 bc1 ba1 bb1 tb1 z000 z001))
                      have hse2 := see_chain K (rs ++ [q]) dr x9.1 O9 2 Wc1 HRS1.out (by omega) HS9_2.out.cst
                      refine hse2.mono ?_
                      rintro e Wa2 ⟨sr2, rfl, ba2⟩
                      have sa2 := ba2.size
                      obtain ⟨Wb2, hb2⟩ : ∃ X, X = Wa2.alloc (.cells (stG 0 0 0 0).toArray 39) := ⟨_, rfl⟩
                      have bb2 : Below Wa2.heap.size Wa2 Wb2 := by rw [hb2]; exact (Below.refl _ _).alloc (Nat.le_refl _) _
                      have sb2 : Wb2.heap.size = Wa2.heap.size + 1 := by rw [hb2]; simp
                      have tb2 : Wb2.there Wa2.heap.size 0 (stG ((logN x9.1 2 : Nat) : Int) ((ackN x9.1 2 : Nat) : Int) sr2 ((0 : Nat) : Int)).length := by rw [hb2]; exact there_new Wa2 (stG 0 0 0 0).toArray _
                      have HI2 := st_info ((logN x9.1 2 : Nat) : Int) ((ackN x9.1 2 : Nat) : Int) sr2 ((0 : Nat) : Int)
                      have HO2 := st_one ((logN x9.1 2 : Nat) : Int) ((ackN x9.1 2 : Nat) : Int) sr2 ((0 : Nat) : Int)
                      clear hse2 cl2
                      generalize hst2 : (stG ((logN x9.1 2 : Nat) : Int) ((ackN x9.1 2 : Nat) : Int) sr2 ((0 : Nat) : Int)).toArray = cst2 at *
                      go_wp2_with (first
                        | (refine wpList_alloc_of rfl 39 rfl (stG 0 0 0 0).toArray alloc_st ?_; rw [← hb2]; clear hb2)
                        | (refine wpList_store_abs rfl 39 _ _ rfl Wa2.heap.size 0 (stG ((logN x9.1 2 : Nat) : Int) ((ackN x9.1 2 : Nat) : Int) sr2 ((0 : Nat) : Int)) rfl (by rw [hst2]; rfl) tb2 HI2 HO2 ?_
                           intro Wc2 hwc2 hrc2 _htc2 hbc2
                           have sc2 : Wc2.heap.size = Wa2.heap.size + 1 := (by rw [hwc2, size_setCells]; exact sb2)
                           have bc2 : Below Wc1.heap.size Wc1 Wc2 := (ba2.trans (bb2.mono sa2)).trans (hbc2 Wc1.heap.size sa2)
                           have HS9_E : Hid (LSt K (rs ++ [q]) dr x9.1 x9.2 O9 tb lb w wa9 n9 wc9 Lo9 Wc2) := HS9_2.out.fresh bc2
                           have z220 : Wc2.cell? ⟨Wa2.heap.size, 0, none⟩ = some (.int .i64 ((logN x9.1 2 : Nat) : Int)) := hrc2 0 _ rfl
                           have z221 : Wc2.cell? ⟨Wa2.heap.size, 1, none⟩ = some (.int .i64 ((ackN x9.1 2 : Nat) : Int)) := hrc2 1 _ rfl
                           have z020 : Wc2.cell? ⟨Wa0.heap.size, 0, none⟩ = some (.int .i64 ((logN x9.1 0 : Nat) : Int)) := (bc2.cell (p := ⟨Wa0.heap.size, 0, none⟩) (by show Wa0.heap.size < _; omega)).trans z010
                           have z021 : Wc2.cell? ⟨Wa0.heap.size, 1, none⟩ = some (.int .i64 ((ackN x9.1 0 : Nat) : Int)) := (bc2.cell (p := ⟨Wa0.heap.size, 1, none⟩) (by show Wa0.heap.size < _; omega)).trans z011
                           have z120 : Wc2.cell? ⟨Wa1.heap.size, 0, none⟩ = some (.int .i64 ((logN x9.1 1 : Nat) : Int)) := (bc2.cell (p := ⟨Wa1.heap.size, 0, none⟩) (by show Wa1.heap.size < _; omega)).trans z110
                           have z121 : Wc2.cell? ⟨Wa1.heap.size, 1, none⟩ = some (.int .i64 ((ackN x9.1 1 : Nat) : Int)) := (bc2.cell (p := ⟨Wa1.heap.size, 1, none⟩) (by show Wa1.heap.size < _; omega)).trans z111
                           have HBW2 : Hid (Below Wc1.heap.size Wc1 Wc2) := bc2
                           clear hwc2 hrc2 _htc2 hbc2 bc2 ba2 bb2 tb2 z010 z011 z110 z111))
                      have hb02 : Below W9.heap.size W9 Wc2 := (HBW0.out.trans (HBW1.out.mono HBW0.out.size)).trans (HBW2.out.mono (Nat.le_trans HBW0.out.size HBW1.out.size))
                      have hq9 := HQ9.out
                      refine ⟨⟨t + 1, wa9, n9, wc9, rfl, by first | rfl | (congr 1), by omega, ⟨rs ++ [q], x9.1, x9.2, O9, Lo9, HS9_E.out, HTS9.out.1, Or.inr ⟨by omega, rfl⟩, HTS9.out.2, range_kept hq9.1 (Kept.fresh (S := fun _ => False) hb02) hq9.2.1 id, Nat.lt_of_lt_of_le hq9.2.1 hb02.size, hq9.2.2.1, hq9.2.2.2⟩⟩, ?_⟩
                      simp [intOf]; omega
      · as_aux_lemma =>
          obtain ⟨rs, s, J, O1, L, hS, hPh, hrs, hL, h00⟩ := hP.out
          have HNNo := HNN.out
          have hF : Fin nn s J := by
            obtain rfl : i = nn := by omega
            by_cases e : i = 0
            · obtain ⟨e1, e2⟩ := h00 e; exact Or.inl ⟨e, e1, e2⟩
            · exact Fin.of hPh (by omega)
          have q1 : ¬ (i : Int) < (nn : Int) := by omega
          have HF : Hid (Fin nn s J) := hF
          have HRS : Hid (RsOk rs) := hrs
          have HPE0 : Hid (PE K dr tb lb w rs s J 0 wa wn wc wr) := ⟨O1, L, hS, hL⟩
          clear hS hPh hrs hL h00 hP hF
          go_wp2_with fail
          go_loopw [8, 24] (fun wv tv w2 => ∃ (t : Nat) (wa : Option Addr) (wn wc : Nat), wv = .slice wa wn wc ∧ tv = .int .i64 (t : Nat) ∧ t ≤ 30 ∧ Hid (PE K dr tb lb w rs s J t wa wn wc w2)) (fun _ tv _ => 30 - (intOf tv).toNat)
          case atStart => exact ⟨0, wa, wn, wc, rfl, rfl, by omega, HPE0⟩
          case round =>
            obtain ⟨t, wa, wn, wc, rfl, rfl, ht, hPE⟩ := hrel
            obtain ⟨O2, L2, hS2, hL2⟩ := hPE.out
            obtain ⟨s1, J1, hx⟩ : ∃ s1 J1, (s1, J1) = rndsT t (s, J) := ⟨_, _, rfl⟩
            have hF1 : Fin nn s1 J1 := by have := HF.out.rnds t; rw [← hx] at this; exact this
            rw [← hx] at hS2
            by_cases h30 : t < 30
            · have u1 : (t : Int) < 30 := by omega
              have u0 : (0 : Int) ≤ (t : Int) := by omega
              have HTE0 : Hid (TE K dr tb lb w rs s1 J1 0 wa wn wc wr) := ⟨O2, L2, by rw [show J1 ++ tkN (tickN s1) 0 = J1 from List.append_nil _]; exact hS2, by omega⟩
              have HX : Hid ((s1, J1) = rndsT t (s, J)) := hx
              have HF1 : Hid (Fin nn s1 J1) := hF1
              have H30 : Hid (t < 30) := h30
              clear hS2 hL2 hPE hx hF1 h30
              go_wp2_with fail
              go_loopw [8, 25] (fun wv kv w3 => ∃ (k : Nat) (wa : Option Addr) (wn wc : Nat), wv = .slice wa wn wc ∧ kv = .int .i64 (k : Nat) ∧ k ≤ 3 ∧ Hid (TE K dr tb lb w rs s1 J1 k wa wn wc w3)) (fun _ kv _ => 3 - (intOf kv).toNat)
              case atStart => exact ⟨0, wa, wn, wc, rfl, rfl, by omega, HTE0⟩
              case round =>
                obtain ⟨k, wa, wn, wc, rfl, rfl, hk3, hTK⟩ := hrel
                obtain ⟨O3, L3, hS3, hL3⟩ := hTK.out
                by_cases hkl3 : k < 3
                · have x1 : (k : Int) < 3 := by omega
                  have x0 : (0 : Int) ≤ (k : Int) := by omega
                  have htk := tick_chain K rs dr s1 O3 nn k wr HRS.out (by omega) HF1.out.all.1 hkl3 hS3.cst
                  have cl : wr.cell? ⟨lb, k, none⟩ = some (.pointer (some ⟨dr k, 0, none⟩)) := by
                    obtain rfl | rfl | rfl : k = 0 ∨ k = 1 ∨ k = 2 := by omega
                    · exact hS3.lr 0 _ rfl
                    · exact hS3.lr 1 _ rfl
                    · exact hS3.lr 2 _ rfl
                  have HS3 : Hid (LSt K rs dr s1 (J1 ++ tkN (tickN s1) k) O3 tb lb w wa wn wc L3 wr) := hS3
                  have HK3 : Hid (k < 3) := hkl3
                  clear hS3 hTK hkl3
                  go_wp2_with fail
                  refine htk.mono ?_
                  rintro e W7 ⟨v7, r7, rfl, Lo7, O7, rfl, hout7, hm7, hc7, k7, o7⟩
                  have s7 := k7.size
                  have row7 : W7.ownsRow w.heap.size 44 2 (.slice wa wn wc) L3.length (wayC L3) := k7.own HS3.out.row (fun g hg => (HS3.out.nrow g hg).1)
                  have sz7 : w.heap.size ≤ W7.heap.size := Nat.le_trans HS3.out.bl.size s7
                  obtain ⟨ao7, cp7, rfl⟩ := hout7.form
                  have hL7 : Lo7.length ≤ 5 := by have := hm7.1; have := tickN_len s1 k; omega
                  have HM7 : Hid (Match rs (tickN s1 k) Lo7 ∧ Cst K rs dr s1 O7 W7 ∧ Kept O3 wr W7 ∧ ∀ g, O7 g → O3 g ∨ wr.heap.size ≤ g) := ⟨hm7, hc7, k7, o7⟩
                  clear htk hm7 hc7 k7 o7 cl
                  go_wp2_with (first
                    | (refine wpList_append_at rfl _ _ rfl w.heap.size _ L3 rfl row7 _ Lo7 rfl hout7 (by omega) sz7 ?_
                       intro wa8 m8 wc8 W8 hm8 row8 g8 at8
                       have hS8 : LSt K rs dr s1 (J1 ++ tkN (tickN s1) k ++ tickN s1 k) O7 tb lb w wa8 m8 wc8 (L3 ++ Lo7) W8 := HS3.out.app HTL.out HS3.out.mt rfl HM7.out.1 HM7.out.2.1 HM7.out.2.2.1 HM7.out.2.2.2 row8 (by rw [List.length_append]; exact hm8) g8 at8
                       have HTE8 : Hid (TE K dr tb lb w rs s1 J1 (k + 1) wa8 m8 wc8 W8) := ⟨O7, L3 ++ Lo7, (by rw [show J1 ++ tkN (tickN s1) (k + 1) = J1 ++ tkN (tickN s1) k ++ tickN s1 k from (List.append_assoc _ _ _).symm]; exact hS8), (by rw [List.length_append]; omega)⟩
                       clear row8 g8 at8 hm8 hS8 row7 hout7))
                  have hk9 := HK3.out
                  refine ⟨⟨k + 1, wa8, m8, wc8, rfl, by first | rfl | (congr 1), by omega, HTE8⟩, ?_⟩
                  simp [intOf]; omega
                · obtain rfl : k = 3 := by omega
                  rw [tk3] at hS3
                  have hA := HF1.out.all
                  have hrun := LSt.runs K rs dr s1 (J1 ++ tickL s1) O3 tb 60 lb lcap w wa wn wc L3 wr nn none 0 0 [] t hS3 HTL.out HRS.out (by omega) hA.1 hA.2.1 (by omega) (fun n hn => (countA_mem hA.2.2 hn).elim) (Or.inl ⟨⟨_, _, rfl⟩, rfl⟩) rfl (fun x hx => by cases hx) (by omega) (by omega) (by omega)
                  clear hS3 hA hTK hkl3
                  go_wp2_with fail
                  refine hrun.mono ?_
                  rintro e W9 ⟨ts, wa9, n9, wc9, Lo9, O9, rfl, hl9', h2s, h1s, hS9, hL9, hleft⟩
                  have HPE9 : Hid (PE K dr tb lb w rs s J (t + 1) wa9 n9 wc9 W9) := by
                    rw [rndT_eq s1 J1 ts hl9' (h1s (by first | rfl | trivial)), HX.out] at hS9
                    exact ⟨O9, Lo9, by rw [rndsT_add t 1]; exact hS9, hL9⟩
                  have ht9 := H30.out
                  clear hrun hl9' h2s h1s hS9 hL9 hleft
                  go_wp2_with fail
                  refine ⟨⟨t + 1, wa9, n9, wc9, rfl, by first | rfl | (congr 1), by omega, HPE9⟩, ?_⟩
                  simp [intOf]; omega
            · obtain rfl : t = 30 := by omega
              have u1 : ¬ ((30 : Nat) : Int) < 30 := by omega
              have hend := HF.out.end_ HNNo.2
              rw [← hx] at hend
              have HEND : Hid (s1.k0 = nn ∧ s1.a = nn ∧ s1.c = nn) := hend
              have hlg2 : logN s1 2 = nn := HEND.out.2.2
              have hlg0 : logN s1 0 = nn := HEND.out.2.1
              have hak0 : ackN s1 0 = nn := HEND.out.1
              have HS9_2 : Hid (LSt K rs dr s1 J1 O2 tb lb w wa wn wc L2 wr) := hS2
              clear hS2 hL2 hPE hx hF1 h30 hend u1
              have hse2 := see_chain K rs dr s1 O2 2 wr HRS.out (by omega) HS9_2.out.cst
              rw [hlg2] at hse2
              have cl2 : wr.cell? ⟨lb, 2, none⟩ = some (.pointer (some ⟨dr 2, 0, none⟩)) := HS9_2.out.lr 2 _ rfl
              go_wp2_with fail
              refine hse2.mono ?_
              rintro e Wa2 ⟨sr2, rfl, ba2⟩
              have sa2 := ba2.size
              obtain ⟨Wb2, hb2⟩ : ∃ X, X = Wa2.alloc (.cells (stG 0 0 0 0).toArray 39) := ⟨_, rfl⟩
              have bb2 : Below Wa2.heap.size Wa2 Wb2 := by rw [hb2]; exact (Below.refl _ _).alloc (Nat.le_refl _) _
              have sb2 : Wb2.heap.size = Wa2.heap.size + 1 := by rw [hb2]; simp
              have tb2 : Wb2.there Wa2.heap.size 0 (stG ((nn : Nat) : Int) ((ackN s1 2 : Nat) : Int) sr2 ((0 : Nat) : Int)).length := by rw [hb2]; exact there_new Wa2 (stG 0 0 0 0).toArray _
              have HI2 := st_info ((nn : Nat) : Int) ((ackN s1 2 : Nat) : Int) sr2 ((0 : Nat) : Int)
              have HO2 := st_one ((nn : Nat) : Int) ((ackN s1 2 : Nat) : Int) sr2 ((0 : Nat) : Int)
              clear hse2 cl2
              generalize hst2 : (stG ((nn : Nat) : Int) ((ackN s1 2 : Nat) : Int) sr2 ((0 : Nat) : Int)).toArray = cst2 at *
              go_wp2_with (first
                | (refine wpList_alloc_of rfl 39 rfl (stG 0 0 0 0).toArray alloc_st ?_; rw [← hb2]; clear hb2)
                | (refine wpList_store_abs rfl 39 _ _ rfl Wa2.heap.size 0 (stG ((nn : Nat) : Int) ((ackN s1 2 : Nat) : Int) sr2 ((0 : Nat) : Int)) rfl (by rw [hst2]; rfl) tb2 HI2 HO2 ?_
                   intro Wc2 hwc2 hrc2 _htc2 hbc2
                   have sc2 : Wc2.heap.size = Wa2.heap.size + 1 := (by rw [hwc2, size_setCells]; exact sb2)
                   have bc2 : Below wr.heap.size wr Wc2 := (ba2.trans (bb2.mono sa2)).trans (hbc2 wr.heap.size sa2)
                   have HS9_0 : Hid (LSt K rs dr s1 J1 O2 tb lb w wa wn wc L2 Wc2) := HS9_2.out.fresh bc2
                   have z220 : Wc2.cell? ⟨Wa2.heap.size, 0, none⟩ = some (.int .i64 ((nn : Nat) : Int)) := hrc2 0 _ rfl
                   have z221 : Wc2.cell? ⟨Wa2.heap.size, 1, none⟩ = some (.int .i64 ((ackN s1 2 : Nat) : Int)) := hrc2 1 _ rfl
                   have cl0 : Wc2.cell? ⟨lb, 0, none⟩ = some (.pointer (some ⟨dr 0, 0, none⟩)) := HS9_0.out.lr 0 _ rfl
                   have HBW2 : Hid (Below wr.heap.size wr Wc2) := bc2
                   clear hwc2 hrc2 _htc2 hbc2 bc2 ba2 bb2 tb2 ))
              have hse0 := see_chain K rs dr s1 O2 0 Wc2 HRS.out (by omega) HS9_0.out.cst
              rw [hlg0] at hse0
              rw [hak0] at hse0
              refine hse0.mono ?_
              rintro e Wa0 ⟨sr0, rfl, ba0⟩
              have sa0 := ba0.size
              obtain ⟨Wb0, hb0⟩ : ∃ X, X = Wa0.alloc (.cells (stG 0 0 0 0).toArray 39) := ⟨_, rfl⟩
              have bb0 : Below Wa0.heap.size Wa0 Wb0 := by rw [hb0]; exact (Below.refl _ _).alloc (Nat.le_refl _) _
              have sb0 : Wb0.heap.size = Wa0.heap.size + 1 := by rw [hb0]; simp
              have tb0 : Wb0.there Wa0.heap.size 0 (stG ((nn : Nat) : Int) ((nn : Nat) : Int) sr0 ((0 : Nat) : Int)).length := by rw [hb0]; exact there_new Wa0 (stG 0 0 0 0).toArray _
              have HI0 := st_info ((nn : Nat) : Int) ((nn : Nat) : Int) sr0 ((0 : Nat) : Int)
              have HO0 := st_one ((nn : Nat) : Int) ((nn : Nat) : Int) sr0 ((0 : Nat) : Int)
              clear hse0 cl0
              generalize hst0 : (stG ((nn : Nat) : Int) ((nn : Nat) : Int) sr0 ((0 : Nat) : Int)).toArray = cst0 at *
              go_wp2_with (first
                | (refine wpList_alloc_of rfl 39 rfl (stG 0 0 0 0).toArray alloc_st ?_; rw [← hb0]; clear hb0)
                | (refine wpList_store_abs rfl 39 _ _ rfl Wa0.heap.size 0 (stG ((nn : Nat) : Int) ((nn : Nat) : Int) sr0 ((0 : Nat) : Int)) rfl (by rw [hst0]; rfl) tb0 HI0 HO0 ?_
                   intro Wc0 hwc0 hrc0 _htc0 hbc0
                   have sc0 : Wc0.heap.size = Wa0.heap.size + 1 := (by rw [hwc0, size_setCells]; exact sb0)
                   have bc0 : Below Wc2.heap.size Wc2 Wc0 := (ba0.trans (bb0.mono sa0)).trans (hbc0 Wc2.heap.size sa0)
                   have HS9_E : Hid (LSt K rs dr s1 J1 O2 tb lb w wa wn wc L2 Wc0) := HS9_0.out.fresh bc0
                   have z000 : Wc0.cell? ⟨Wa0.heap.size, 0, none⟩ = some (.int .i64 ((nn : Nat) : Int)) := hrc0 0 _ rfl
                   have z001 : Wc0.cell? ⟨Wa0.heap.size, 1, none⟩ = some (.int .i64 ((nn : Nat) : Int)) := hrc0 1 _ rfl
                   have z200 : Wc0.cell? ⟨Wa2.heap.size, 0, none⟩ = some (.int .i64 ((nn : Nat) : Int)) := (bc0.cell (p := ⟨Wa2.heap.size, 0, none⟩) (by show Wa2.heap.size < _; omega)).trans z220
                   have z201 : Wc0.cell? ⟨Wa2.heap.size, 1, none⟩ = some (.int .i64 ((ackN s1 2 : Nat) : Int)) := (bc0.cell (p := ⟨Wa2.heap.size, 1, none⟩) (by show Wa2.heap.size < _; omega)).trans z221
                   have HBW0 : Hid (Below Wc2.heap.size Wc2 Wc0) := bc0
                   clear hwc0 hrc0 _htc0 hbc0 bc0 ba0 bb0 tb0 z220 z221))
              go_ret
              exact ⟨rfl, HS9_E.out.bl⟩
end Go.Proofs.YteglimjonofdeaaGreatDoor
