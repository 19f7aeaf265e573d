import Derived.Test.YteglimjonofdeaaGreatDoorFForgedM
import Derived.Test.YteglimjonofdeaaGreatDoorFForgedM
import Derived.Test.YteglimjonofdeaaGreatDoorOTold2M
import Derived.Test.YteglimjonofdeaaGreatDoorIClashM
import Derived.Test.YteglimjonofdeaaGreatDoorOTold2M
import Derived.Test.YteglimjonofdeaaGreatDoorHReck4M
set_option linter.unusedVariables false
set_option linter.unusedSimpArgs false
namespace Go.Proofs.YteglimjonofdeaaGreatDoor
open Go.RowKit

/-- A list of numbers as it lies (what open_ints tells). -/
def StepsAt (W : World) (v : Value) (l : List Int) : Prop := ((∃ a cap, v = .slice a 0 cap) ∧ l = []) ∨ ∃ g off cap, v = .slice (some ⟨g, off, none⟩) l.length cap ∧ g < W.heap.size ∧ ∀ i x, l[i]? = some x → W.cell? ⟨g, off + i, none⟩ = some (.int .i64 x)
/-- What the law's loop keeps. -/
def AI (K : Nat → Int) (s : ByteArray) (w : World) (xn da ab i was : Nat) (wr : World) : Prop := ∃ z ky nd q bb j C l bk lm m lv L G F D, AudI K s w xn da ab i was was z ky nd q bb j C l bk lm m lv L G F D wr
/-- The law begins. -/
theorem AudI.begin {K : Nat → Int} {s : ByteArray} {w W1 W2 W3 W4 : World} {xn nd q bb j : Nat} {C : Nat → List Int} {l : ByteArray} {bk lm m : Nat} {lv : Value} {L : List En} {G F : Nat → Prop} {D : DataW Unit} {da ab : Nat} (b1 : Below w.heap.size w W1) (h : Onc K (nv0 0 0 s ((3 : Nat) : Int)) 0 200 W1.heap.size xn 1 nd q bb j C l bk lm m lv L G F D W2) (b2 : Below W1.heap.size W1 W2) (b3 : Below W2.heap.size W2 W3) (b4 : Below W3.heap.size W3 W4) (hab : W3.heap.size ≤ ab) (hda : W3.heap.size ≤ da) (hne : da ≠ ab) (hdl : da < W4.heap.size) (hdc : W4.cell? ⟨da, 0, none⟩ = some (.pointer (some ⟨ab, 0, none⟩))) (A : AuAt W4 ab (pubF (sumOf K) s 3) 3 0 (root0 K)) : AI K s w xn da ab 0 0 W4 := by
  have s1 := b1.size; have s2 := b2.size; have s3 := b3.size; have s4 := b4.size
  have b24 : Below W2.heap.size W2 W4 := b3.trans (b4.mono s3)
  have O := h.ond
  have lts : ∀ g, alOwn q bb j bk lm lv G g → g < W2.heap.size := fun g hg => by rcases hg with hg | hg; exact h.al.jat.ownLt g hg; exact h.al.book.ownLt g hg
  have O4 := O.fresh b24
  refine ⟨_, 0, nd, q, bb, j, C, l, bk, lm, m, lv, L, G, F, D, ⟨⟨O4.al, O4.r0, O4.l0, O4.x, O4.xl, O4.xo, O4.len, fun g hg => Nat.le_trans s1 (O4.base g hg), by omega, Nat.le_trans s1 O4.nb⟩, ⟨h.last, fun e he => h.nos e he⟩, fun k e he => ?_, rfl, rfl, by omega, Or.inl ⟨rfl, rfl⟩, by omega, A, hdc, hdl, ⟨fun e => by have := lts ab e; omega, by have := h.al.nlt; omega, by have := h.xl; omega, fun e => hne e.symm, by omega⟩, ⟨fun e => by have := lts da e; omega, by have := h.al.nlt; omega, by have := h.xl; omega⟩, (b1.trans (b2.mono s1)).trans (b24.mono (by omega))⟩⟩
  have hlt : k < L.length := (List.getElem?_eq_some_iff.1 he).1
  have hlen := h.len
  obtain rfl : k = 0 := by omega
  have hn := h.nos e (List.mem_of_getElem? he)
  have hok := h.al.book.ens e (List.mem_of_getElem? he)
  have hw := hok.wholes.1
  obtain ⟨_, ⟨n1, _⟩, _⟩ := whole_bounds hw
  show e.n = 1
  omega
set_option maxRecDepth 10000 in
set_option maxHeartbeats 16000000 in
/-- The law Audited. -/
theorem audited_any (K : Nat → Int) (v : Value) (l : List Ask5) (ha : Option Addr) (hn hcap : Nat) (ns : List Int) (at' : Int) (w : World) (h : AsksAt w v l) (hl9 : l.length ≤ 140737488355328) (hok : ∀ o ∈ l, o.ok) (hH : StepsAt w (.slice ha hn hcap) ns) (hhn : hn = ns.length) (hnsb : ∀ x ∈ ns, -9223372036854775808 ≤ x ∧ x ≤ 9223372036854775807) (hnl : hn ≤ 140737488355328) (a0 : -9223372036854775808 ≤ at') (a1 : at' ≤ 9223372036854775807) (T : Tab K w) (hK : ∀ j, j < 64 → K j = ((tabN.getD j 0 : Nat) : Int)) (hE : w.cell? ⟨0, 0, none⟩ = some errTypeV) (hEl : 0 < w.heap.size) :
    Calls Tryz.prog 5 #[v, .slice ha hn hcap, .int .i64 at'] w fun e w' => e = .returned (.bool true) ∧ Below w.heap.size w w' := by
  have HOK : Hid (∀ o ∈ l, o.ok) := hok
  have HL : Hid (AsksAt w v l) := h
  have HT : Hid (Tab K w) := T
  have HE : Hid (w.cell? ⟨0, 0, none⟩ = some errTypeV ∧ 0 < w.heap.size) := ⟨hE, hEl⟩
  have HH : Hid (StepsAt w (.slice ha hn hcap) ns ∧ hn = ns.length ∧ (∀ x ∈ ns, -9223372036854775808 ≤ x ∧ x ≤ 9223372036854775807) ∧ hn ≤ 140737488355328) := ⟨hH, hhn, hnsb, hnl⟩
  have HAT : Hid (-9223372036854775808 ≤ at' ∧ at' ≤ 9223372036854775807) := ⟨a0, a1⟩
  have HNO := hno_200 K hK
  obtain ⟨ao, cap, rfl⟩ := h.slice
  obtain ⟨len, hlen⟩ : ∃ len, len = l.length := ⟨_, rfl⟩
  have HLEN : Hid (len = l.length) := hlen
  rw [← hlen] at hl9 ⊢
  have hseed := oseed_any 5 K w (by omega) (by omega) T
  clear hok h T hlen hH hhn hnsb hE hEl a0 a1
  go_enter Tryz.func5, Tryz.ntmps5
  go_wp2_with fail
  refine hseed.mono ?_
  rintro e W1 ⟨sd, rfl, hs, b1⟩
  have HB1 : Hid (Below w.heap.size w W1) := b1
  have hal := alone_any K ((3 : Nat) : Int) 200 sd W1 (by omega) (by omega) (by omega) (by omega) hs (HT.out.below b1) HNO
  have HAL : Hid (∀ W, Below w.heap.size w W → Calls Tryz.prog 6 #[.int .i64 ((200 : Nat) : Int), .string sd, .int .i64 ((3 : Nat) : Int)] W fun e w' => ∃ p xn nd q bb j C l bk lm m lv L G F D, e = .returned (.tuple #[.pointer (some ⟨p, 0, none⟩), .pointer (some ⟨xn, 0, none⟩)]) ∧ Onc K (nv0 0 0 sd ((3 : Nat) : Int)) 0 200 W.heap.size xn 1 nd q bb j C l bk lm m lv L G F D w' ∧ Below W.heap.size W w') := fun W hb => alone_any K ((3 : Nat) : Int) 200 sd W (by omega) (by omega) (by omega) (by omega) hs (HT.out.below hb) HNO
  clear hseed b1 HNO
  go_wp2_with fail
  refine hal.mono ?_
  rintro e W2 ⟨p, xn, nd, q, bb, j, C, l', bk, lm, m, lv, L, G, F, D, rfl, hO, b2⟩
  have HB2 : Hid (Below W1.heap.size W1 W2) := b2
  have HO : Hid (Onc K (nv0 0 0 sd ((3 : Nat) : Int)) 0 200 W1.heap.size xn 1 nd q bb j C l' bk lm m lv L G F D W2) := hO
  have hpub := apub_any K sd ((3 : Nat) : Int) W2 (by omega) hO.al.tab
  have hpv : pubV K sd ((3 : Nat) : Int) = .tuple #[.string (pubF (sumOf K) sd 3), .nilIface] := by unfold pubV; rw [if_pos ⟨hs, by omega, by omega⟩]; rfl
  rw [hpv] at hpub
  have hp32 : (pubF (sumOf K) sd 3).size = 32 := rootF_size _ (sumOf_size K) _
  clear hal hO b2 hpv
  generalize hpk : pubF (sumOf K) sd 3 = pk at hpub hp32
  have HPK : Hid (pubF (sumOf K) sd 3 = pk) := hpk
  clear hpk
  go_wp2_with fail
  refine hpub.mono ?_
  rintro e W3 ⟨rfl, b3⟩
  have HB3 : Hid (Below W2.heap.size W2 W3) := b3
  have hnw := danew_any K pk 3 W3 hp32 (by omega) (HO.out.al.tab.below b3)
  clear hpub b3
  go_wp2_with fail
  refine hnw.mono ?_
  rintro e W4 ⟨da, ab, rfl, hab, hda, hne, hdl, hdc, hA, b4⟩
  have HAI0 : Hid (AI K sd w xn da ab 0 0 W4) := AudI.begin HB1.out HO.out HB2.out HB3.out b4 hab hda hne hdl hdc (by rw [HPK.out]; exact hA)
  have HS : Hid (sd.size = 32) := hs
  clear hnw hab hda hne hdl hdc hA b4 HO HB2 HB3 hp32 HPK hs
  go_wp2_with fail
  go_loopw [14, 15, 16] (fun nv wv iv wr => ∃ i was : Nat, nv = .int .i64 ((i + 1 : Nat) : Int) ∧ wv = .int .i64 (was : Nat) ∧ iv = .int .i64 (i : Nat) ∧ i ≤ 30 ∧ i ≤ len ∧ Hid (AI K sd w xn da ab i was wr)) (fun _ _ iv _ => 30 - (intOf iv).toNat)
  case atStart => exact ⟨0, 0, rfl, rfl, rfl, by omega, by omega, HAI0⟩
  case round =>
    obtain ⟨i, was, rfl, rfl, rfl, hi30, hil, hAI⟩ := hrel
    by_cases hlt : i < len ∧ i < 30
    · obtain ⟨hk1, hk2⟩ := hlt
      have q1 : (i : Int) < (len : Int) := by omega
      have q2 : (i : Int) < 30 := by omega
      have q0 : (0 : Int) ≤ (i : Int) := by omega
      have hkl : i < l.length := by have := HLEN.out; omega
      obtain ⟨z, ky, nd, q, bb, j, C, lk, bk, lm, m, lv, L, G, F, D, A0⟩ := hAI.out
      obtain ⟨g, off, hao, hc⟩ : ∃ g off, ao = some ⟨g, off, none⟩ ∧ ∀ i o, l[i]? = some o → w.rangeAt g (off + i * 5) o.cells := by
        rcases HL.out.at_ with ⟨e, rfl⟩ | ⟨g, off, cap', e, h⟩
        · simp at hkl
        · exact ⟨g, off, by injection e, h⟩
      subst hao
      obtain ⟨a, ha'⟩ : ∃ a, a = l[i] := ⟨_, rfl⟩
      have hgl : g < w.heap.size := World.block_lt_of_cell? w _ (hc i a (by rw [List.getElem?_eq_getElem hkl, ha']) 0 _ rfl)
      have ra : wr.rangeAt g (off + i * 5) a.cells := fun x u hu => (A0.bl.cell (p := ⟨g, off + i * 5 + x, none⟩) hgl).trans (hc i a (by rw [List.getElem?_eq_getElem hkl, ha']) x u hu)
      have hia := info_ask a
      have hreq := request_any a ((i : Int) + 2) wr (HOK.out a (by rw [ha']; exact List.getElem_mem hkl)) ⟨by omega, by omega⟩
      have HA0 : Hid (AudI K sd w xn da ab i was was z ky nd q bb j C lk bk lm m lv L G F D wr) := A0
      have hwi := A0.wi
      clear hc ha' A0 hAI
      generalize hac : a.cells.toArray = acs at hreq
      go_wp2_with (first | (refine wpList_load_mid rfl 32 _ rfl g (off + i * 5) rfl a.cells _ ra Tryz.underlying32 rfl hia ?_; rw [hac]))
      refine hreq.mono ?_
      rintro e R1 ⟨c, o, p, vr, t, rfl, hw, b01⟩
      have hrq := (HA0.out.fresh b01).req c o p vr t (by rw [show ((i + 2 : Nat) : Int) = (i : Int) + 2 by omega]; exact hw) (by omega)
      rw [show ((i + 2 : Nat) : Int) = (i : Int) + 2 by omega] at hrq
      clear hreq b01 ra hac hw
      generalize (rqCells c ((i : Int) + 2) o p vr t).toArray = rqa at hrq ⊢
      go_wp2_with fail
      refine hrq.mono ?_
      rintro e R2 ⟨b, C2, l2, lv2, L2, G2, F2, D2, rfl, A2⟩
      have HA2 : Hid (AudI K sd w xn da ab (i + 1) was was z ky nd q bb j C2 l2 bk lm m lv2 L2 G2 F2 D2 R2) := A2
      clear hrq A2 HA0
      by_cases hsk : hn ≤ i
      · have y1 : (hn : Int) ≤ (i : Int) := by omega
        clear hsk
        go_wp2_with fail
        refine ⟨⟨i + 1, was, by first | rfl | (congr 1), rfl, by first | rfl | (congr 1), by omega, by omega, ⟨z, ky, nd, q, bb, j, C2, l2, bk, lm, m, lv2, L2, G2, F2, D2, HA2.out⟩⟩, ?_⟩
        simp [intOf]; omega
      · have y1 : ¬ (hn : Int) ≤ (i : Int) := by omega
        have hin : i < ns.length := by have := HH.out.2.1; omega
        obtain ⟨gs, os, hhs, hcs⟩ : ∃ gs os, ha = some ⟨gs, os, none⟩ ∧ R2.cell? ⟨gs, os + i, none⟩ = some (.int .i64 (ns[i]'hin)) := by
          rcases HH.out.1 with ⟨_, e⟩ | ⟨gs, os, cap', e, hlt', hc⟩
          · rw [e] at hin; simp at hin
          · injection e with e1 e2 e3
            exact ⟨gs, os, e1, (HA2.out.bl.cell (p := ⟨gs, os + i, none⟩) hlt').trans (hc i _ (List.getElem?_eq_getElem hin))⟩
        subst hhs
        have y2 : (i : Int) < (hn : Int) := by omega
        generalize ns[i]'hin = x at hcs
        clear hin hsk
        by_cases hx : 0 < x.tmod 4
        · go_wp2_with fail
          refine ⟨⟨i + 1, was, by first | rfl | (congr 1), rfl, by first | rfl | (congr 1), by omega, by omega, ⟨z, ky, nd, q, bb, j, C2, l2, bk, lm, m, lv2, L2, G2, F2, D2, HA2.out⟩⟩, ?_⟩
          simp [intOf]; omega
        · go_wp2_with fail
          by_cases hk8 : ky < 8
          · have hhd := HA2.out.head2 (by omega) (by omega) hk8 HS.out
            have hszH := headF_size K sd 3 ky L2
            have hrtH := head_root K sd ky L2 (i + 1 + 1) HA2.out.ond.len (by omega)
            have hfg : ∀ (t : ByteArray) (q : Nat) (y : Int), numsOf t = (numsOf (headF K sd 3 ky L2)).set q y → t ≠ headF K sd 3 ky L2 → sigOk K (pubF (sumOf K) sd 3) 3 (t.extract 0 37) (t.extract 37 t.size) = true → ∀ W, Below w.heap.size w W → Calls Tryz.prog 22 #[.string sd, .int .i64 3, .string ((headF K sd 3 ky L2).extract 0 37), .string (t.extract 0 37), .string (t.extract 37 t.size)] W fun e w' => e = .returned (.bool true) ∧ Below W.heap.size W w' := fun t q y h1 h2 h3 W hb => forge_any K sd ky L2 t q y hk8 HS.out h1 h2 h3 W (HT.out.below hb)
            have hgd0 := fun (W : World) (C3 : Nat → List Int) (l3 : ByteArray) (z3 : Nv) (h : AudI K sd w xn da ab (i + 1) was (i + 1 + 1) z3 (ky + 1) nd q bb j C3 l3 bk lm m lv2 L2 G2 F2 D2 W) (v : Value) (hl : LeafAt W v (consF (sumOf K) (evs K L2) was)) => h.good ky hk8 (by omega) v (by omega) hl (h.consLen (by omega))
            generalize headF K sd 3 ky L2 = hd at hhd hszH hrtH hfg hgd0
            have HFG0 : Hid _ := hfg
            have HGD0 : Hid _ := hgd0
            have HSZ : Hid (hd.size = 2278) := hszH
            have HRT : Hid (hd.extract 5 37 = rootF (sumOf K) ((evs K L2).take (i + 1 + 1))) := hrtH
            clear hfg hgd0 hrtH
            refine hhd.mono ?_
            rintro e R3 ⟨z3, C3, l3, rfl, hA3, hz3⟩
            have HA3 : Hid (AudI K sd w xn da ab (i + 1) was (i + 1 + 1) z3 (ky + 1) nd q bb j C3 l3 bk lm m lv2 L2 G2 F2 D2 R3) := hA3
            have hsm := hA3.same
            rw [hz3] at hsm
            clear hhd hA3 hz3 HA2
            go_wp2_with fail
            refine (ktold_nil R3).mono ?_
            rintro e R3' ⟨rfl, hR⟩
            obtain rfl : R3 = R3' := hR.symm
            clear hR
            go_wp2_with fail
            refine hsm.mono ?_
            rintro e R4 ⟨rfl, b4⟩
            have HA4 : Hid _ := HA3.out.fresh b4
            have hgr := HA4.out.grown (by omega)
            have HPL : Hid ((consF (sumOf K) (evs K L2) was).length ≤ 1000000000) := HA4.out.consLen (by omega)
            obtain ⟨pf, hpf⟩ : ∃ pf, pf = consF (sumOf K) (evs K L2) was := ⟨_, rfl⟩
            rw [← hpf] at hgr HPL HGD0
            rw [show ((i + 1 + 1 : Nat) : Int) = ((i : Int) + 1 + 1) by omega] at hgr
            have HAB : Hid (ab < R4.heap.size) := HA4.out.au.lt
            clear hsm b4 HA3 hpf
            go_wp2_with fail
            refine hgr.mono ?_
            rintro e R5 ⟨ap, cp, rfl, op, b5⟩
            have HA5 : Hid _ := HA4.out.fresh b5
            have HOP : Hid (R5.ownsRow R4.heap.size 9 1 (.slice ap pf.length cp) pf.length (pf.map .string)) := op
            have t1 : (hd == hd) = true := ba_self hd
            have t2 : ((hd.size : Int) == 2278) = true := by rw [beq_iff_eq]; omega
            have t3 : ((hd.size : Int) != 2278) = false := by rw [bne_eq_false_iff_eq]; omega
            obtain ⟨tq', ty, hTN, htn⟩ := turned_one hd at' (by omega) (by omega) HAT.out.1 HAT.out.2
            generalize strOfNums ((numsOf hd).set tq' ty) = tn at hTN htn
            have HTZ : Hid (tn.size = 2278) := (turned_size hTN.out.1).trans HSZ.out
            have HTN : Hid _ := htn
            have htr := htn R5
            clear hgr op b5 HA4 hszH htn
            go_wp2_with fail
            refine htr.mono ?_
            rintro e R6 ⟨rfl, b6⟩
            have HA6 : Hid _ := HA5.out.fresh b6
            have hsp := HA6.out.spoil tn pf (.slice ap pf.length cp) (by omega) (own_below' HOP.out b6) HAB.out HPL.out HTZ.out
            clear htr b6 HA5 HOP
            generalize pf.length = pl at hsp ⊢
            go_wp2_with fail
            refine hsp.mono ?_
            rintro e R7 ⟨av, rfl, hcs⟩
            rcases hcs with ⟨k, hk913, rfl, hB7, hlf7, hA7⟩ | ⟨hsg, hB7, hav, htru⟩
            rotate_left 1
            · as_aux_lemma =>
                have hB7' : Below w.heap.size w R7 := HA6.out.bl.trans hB7
                obtain ⟨f, hf13, hf9, htd⟩ : ∃ f : Int, f ≠ 13 ∧ f ≠ 9 ∧ Calls Tryz.prog 11 #[av] R7 fun e w' => e = .returned (.int .i64 f) ∧ Below R7.heap.size R7 w' := by
                  rcases hav with rfl | ⟨k, hk, rfl⟩
                  · exact ⟨0, by omega, by omega, (ktold_nil R7).mono fun e w' ⟨h1, h2⟩ => ⟨h1, by rw [h2]; exact Below.refl _ _⟩⟩
                  · exact ⟨k, by omega, by omega, told_hit k R7 ((hB7'.cell (p := ⟨0, 0, none⟩) HE.out.2).trans HE.out.1) (Nat.lt_of_lt_of_le HE.out.2 hB7'.size)⟩
                have f1 : (f != 13) = true := by rw [bne_iff_ne]; exact hf13
                have f2 : (f != 9) = true := by rw [bne_iff_ne]; exact hf9
                have HFG : Hid (∀ W, Below w.heap.size w W → Calls Tryz.prog 22 #[.string sd, .int .i64 3, .string (hd.extract 0 37), .string (tn.extract 0 37), .string (tn.extract 37 tn.size)] W fun e w' => e = .returned (.bool true) ∧ Below W.heap.size W w') := HFG0.out tn tq' ty hTN.out.1 hTN.out.2 hsg
                have HB7 : Hid (Below w.heap.size w R7) := hB7'
                have HTRU : Hid (∀ W, Below R7.heap.size R7 W → Trusts da W) := htru
                have k37 : (37 : Int) ≤ (hd.size : Int) := by have := HSZ.out; omega
                have k38 : (37 : Int) ≤ (tn.size : Int) := by have := HTZ.out; omega
                clear hsp hav hf13 hf9 hB7 hB7' htru hsg HFG0 HGD0 HA6 t2 t3
                go_wp2_with fail
                refine htd.mono ?_
                rintro e R8 ⟨rfl, b8⟩
                obtain ⟨tz, trr, htt⟩ := HTRU.out R8 b8
                have HB8 : Hid (Below w.heap.size w R8) := HB7.out.trans (b8.mono HB7.out.size)
                clear htd b8 HTRU HB7
                go_wp2_with fail
                refine htt.mono ?_
                rintro e R9 ⟨rfl, b9⟩
                have HB9 : Hid (Below w.heap.size w R9) := HB8.out.trans (b9.mono HB8.out.size)
                clear htt b9 HB8
                go_wp2_with fail
                refine (HTN.out R9).mono ?_
                rintro e R10 ⟨rfl, b10⟩
                have J0 : Below w.heap.size w R10.drew := (HB9.out.trans (b10.mono HB9.out.size)).drew
                clear b10 HB9
                go_wp2_with fail
                refine wp_region_noPanic ?_
                refine wp_region_held_drew (S := fun W => Below w.heap.size w W) (by kernel_rfl) J0 (fun _ => ?_)
                refine tk 0 J0 ?_
                refine tk 1 J0 ?_
                refine tk 2 J0 ?_
                refine tk 3 J0 ?_
                refine tk 4 J0 ?_
                refine tk 5 J0 ?_
                refine tk 6 J0 ?_
                refine rk 7 (fun K' hK' => ?_)
                go_simp
                refine (HFG.out _ J0).mono ?_
                rintro e R11 ⟨rfl, b11⟩
                have J1 : Below w.heap.size w R11 := J0.trans (b11.mono J0.size)
                clear b11
                refine hK'.out _ _ J1 (fun _ => ?_)
                clear hK' K'
                try simp only [qA, qB, qC, Act.put, qD, qE, qF]
                refine tk 8 J1 ?_
                refine ⟨by kernel_rfl, ?_⟩
                refine NoPanic.normal ?_
                try simp only [qA, qB, qC, Act.put, qD, qE, qF]
                go_wp2_with fail
                go_ret
                exact ⟨rfl, J1⟩
            · have hB7' := hA7.bl
              have htd := told_hit k R7 ((hB7'.cell (p := ⟨0, 0, none⟩) HE.out.2).trans HE.out.1) (Nat.lt_of_lt_of_le HE.out.2 hB7'.size)
              have HA7 : Hid (AudI K sd w xn da ab (i + 1) was (i + 1 + 1) z3 (ky + 1) nd q bb j C3 l3 bk lm m lv2 L2 G2 F2 D2 R7) := hA7
              have HLF : Hid (LeafAt R7 (.slice ap pl cp) pf) := hlf7
              clear hsp hB7 hB7' hA7 hlf7 HA6 HFG0 HTN hTN HTZ
              have HRD : Hid (∀ R8, Below R7.heap.size R7 R8 → Calls Tryz.prog 21 #[.pointer (some ⟨da, 0, none⟩)] R8 fun e w' => e = .returned (.tuple #[.int .i64 (was : Nat), .string (rootF (sumOf K) ((evs K L2).take was))]) ∧ Below R8.heap.size R8 w') := fun R8 b => (HA7.out.fresh b).trusted
              generalize rootF (sumOf K) ((evs K L2).take was) = rw0 at HRD
              go_wp2_with fail
              refine htd.mono ?_
              rintro e R8 ⟨rfl, b8⟩
              have HB8 : Hid (Below R7.heap.size R7 R8) := b8
              clear htd b8
              go_wp2_with fail
              refine (HRD.out R8 HB8.out).mono ?_
              rintro e R9 ⟨rfl, b9⟩
              have HB9 : Hid (Below R7.heap.size R7 R9) := HB8.out.trans (b9.mono HB8.out.size)
              clear HRD b9 HB8
              rcases hk913 with rfl | rfl
              all_goals (
                as_aux_lemma =>
                  have HA9 : Hid _ := HA7.out.fresh HB9.out
                  have hgd := HGD0.out R9 C3 l3 z3 HA9.out (.slice ap pl cp) (HLF.out.below HB9.out)
                  clear HGD0 HLF HA7 HB9
                  have k37 : (37 : Int) ≤ (hd.size : Int) := by have := HSZ.out; omega
                  go_wp2_with fail
                  refine hgd.mono ?_
                  rintro e R10 ⟨rfl, _, hA10⟩
                  have HA10 : Hid (AudI K sd w xn da ab (i + 1) (i + 1 + 1) (i + 1 + 1) z3 (ky + 1) nd q bb j C3 l3 bk lm m lv2 L2 G2 F2 D2 R10) := hA10
                  have htr := hA10.trusted
                  rw [show ((i + 1 + 1 : Nat) : Int) = ((i : Int) + 1 + 1) by omega] at htr
                  have hrt := HRT.out
                  generalize rootF (sumOf K) ((evs K L2).take (i + 1 + 1)) = rt at htr hrt
                  have r5 : (rt.toList == (hd.extract 5 37).toList) = true := by rw [hrt]; exact beq_self_eq_true _
                  have r6 : (!rt.toList == (hd.extract 5 37).toList) = false := by rw [r5]; rfl
                  clear hgd hA10 HA9 hrt HRT
                  go_wp2_with fail
                  refine htr.mono ?_
                  rintro e R11 ⟨rfl, b11⟩
                  have HA11 : Hid _ := HA10.out.fresh b11
                  have hpk := pick_ex at' ((i : Int) + 1 + 1) HAT.out.1 HAT.out.2 (by omega) (by omega) R11
                  clear htr b11 HA10
                  go_wp2_with fail
                  refine hpk.mono ?_
                  rintro e R12 ⟨kx, rfl, hkx, hw12⟩
                  obtain rfl : R11 = R12 := hw12.symm
                  have hkl : kx ≤ i + 1 := by omega
                  have hev := HA11.out.event kx hkl (by omega)
                  have hyes := HA11.out.yes kx hkl
                  have hle := inclF_le K (evs K L2) kx
                  rw [HA11.out.len] at hle
                  have hmt0 := fun (kq : Nat) (h1 : kq ≤ i + 1) (h2 : kx ≠ kq) => HA11.out.meets kx kq hkl h1 h2 (by omega)
                  obtain ⟨qf, hqf⟩ : ∃ qf, qf = inclF (sumOf K) (evs K L2) kx := ⟨_, rfl⟩
                  obtain ⟨ev, hve⟩ : ∃ ev, ev = evF K L2 kx := ⟨_, rfl⟩
                  rw [← hqf] at hle
                  rw [← hqf, ← hve] at hev hyes hmt0
                  rw [show ((i + 1 + 1 : Nat) : Int) = ((i : Int) + 1 + 1) by omega] at hev
                  have HMT0 : Hid _ := hmt0
                  clear hpk hw12 hqf hve hmt0 k37 r5 r6 t1 t2 t3
                  go_wp2_with fail
                  refine hev.mono ?_
                  rintro e R13 ⟨aq, cq, rfl, oq, b13⟩
                  have HA13 : Hid _ := HA11.out.fresh b13
                  have HLQ : Hid (LeafAt R13 (.slice aq qf.length cq) qf) := leaf_own oq
                  have hcf := HA13.out.confirm ev kx hkl (by omega) hyes.1 qf (.slice aq qf.length cq) HLQ.out (by omega)
                  rw [hyes.2, show chkV true = .nilIface from rfl] at hcf
                  obtain ⟨kq, hkq1, hkq2, hkq⟩ := next_place i kx hkl
                  have nz : ¬ (i : Int) + 1 + 1 = 0 := by omega
                  have n1 : (1 : Int) < (i : Int) + 1 + 1 := by omega
                  have hco := fun W (hb : Below R13.heap.size R13 W) => (HA13.out.fresh hb).confirm ev kq hkq1 (by omega) hyes.1 qf (.slice aq qf.length cq) (HLQ.out.below hb) (by omega)
                  generalize qf.length = ql at hcf hco HLQ ⊢
                  have HCO : Hid _ := hco
                  clear hev oq b13 HA11 hyes hco
                  go_wp2_with fail
                  refine hcf.mono ?_
                  rintro e R14 ⟨rfl, b14⟩
                  have HB14 : Hid (Below R13.heap.size R13 R14) := b14
                  have hco := HCO.out R14 b14
                  clear hcf b14 HCO
                  cases hok : inclOk K ev kq (i + 1 + 1) (rootF (sumOf K) (evs K L2)) qf
                  · rw [hok, show chkV false = .iface 41 (.int .i64 14) from rfl] at hco
                    clear hok HMT0
                    go_wp2_with fail
                    refine hco.mono ?_
                    rintro e R15 ⟨rfl, b15⟩
                    have hA15 := (HA13.out.fresh HB14.out).fresh b15
                    have hB15 := hA15.bl
                    have htd := told_hit 14 R15 ((hB15.cell (p := ⟨0, 0, none⟩) HE.out.2).trans HE.out.1) (Nat.lt_of_lt_of_le HE.out.2 hB15.size)
                    have HA15 : Hid (AudI K sd w xn da ab (i + 1) (i + 1 + 1) (i + 1 + 1) z3 (ky + 1) nd q bb j C3 l3 bk lm m lv2 L2 G2 F2 D2 R15) := hA15
                    clear hco b15 hA15 hB15 HB14 HA13 HLQ
                    go_wp2_with fail
                    refine htd.mono ?_
                    rintro e R16 ⟨rfl, b16⟩
                    clear htd
                    go_wp2_with fail
                    refine ⟨⟨i + 1, i + 1 + 1, by first | rfl | (congr 1), by first | rfl | (congr 1), by first | rfl | (congr 1), by omega, by omega, ⟨z3, ky + 1, nd, q, bb, j, C3, l3, bk, lm, m, lv2, L2, G2, F2, D2, HA15.out.fresh b16⟩⟩, ?_⟩
                    simp [intOf]; omega
                  · rw [hok, show chkV true = .nilIface from rfl] at hco
                    have hmt1 := HMT0.out kq hkq1 hkq2 hok
                    clear HMT0 hok
                    go_wp2_with fail
                    refine hco.mono ?_
                    rintro e R15 ⟨rfl, b15⟩
                    have HA15 : Hid _ := (HA13.out.fresh HB14.out).fresh b15
                    have HLQ15 : Hid (LeafAt R15 (.slice aq ql cq) qf) := (HLQ.out.below HB14.out).below b15
                    have hevs := (HA15.out.fresh (Below.refl _ _).drew).events (i + 1 + 1) (Nat.le_refl _) (by omega)
                    rw [show ((i + 1 + 1 : Nat) : Int) = ((i : Int) + 1 + 1) by omega, List.take_of_length_le (by rw [HA15.out.len]; exact Nat.le_refl _)] at hevs
                    have HMT : Hid (∀ (v : Value) (W : World), Below R15.drew.heap.size R15.drew W → LeafAt W v (evs K L2) → Calls Tryz.prog 26 #[v, .int .i64 kq, .string ev, .slice aq ql cq] W fun e w' => e = .returned (.bool true) ∧ Below W.heap.size W w') := fun v W hb hl => hmt1 v _ W hl ((HLQ15.out.below (Below.refl _ _).drew).below hb) (((HA15.out.fresh (Below.refl _ _).drew).fresh hb).ond.al.tab)
                    have HEL : Hid ((evs K L2).length = i + 1 + 1) := HA15.out.len
                    have J0 : Below w.heap.size w R15.drew := HA15.out.bl.drew
                    clear hco b15 HB14 HA13 HLQ HLQ15 HA15 hmt1
                    go_wp2_with fail
                    refine (ktold_nil R15).mono ?_
                    rintro e R16 ⟨rfl, hR⟩
                    obtain rfl : R15 = R16 := hR.symm
                    clear hR
                    go_wp2_with fail
                    refine wp_region_noPanic ?_
                    refine wp_region_held_drew (S := fun W => Below w.heap.size w W) (by kernel_rfl) J0 (fun _ => ?_)
                    refine tk 0 J0 ?_
                    refine tk 1 J0 ?_
                    refine tk 3 J0 ?_
                    refine tk 4 J0 ?_
                    refine tk 5 J0 ?_
                    refine tk 6 J0 ?_
                    refine tk 7 J0 ?_
                    refine tk 8 J0 ?_
                    refine rk 2 (fun K' hK' => ?_)
                    go_simp
                    refine hevs.mono ?_
                    rintro e R17 ⟨ae, ce, rfl, oe, b17⟩
                    have J1 : Below w.heap.size w R17 := J0.trans (b17.mono J0.size)
                    have hmt := HMT.out (.slice ae (i + 1 + 1) ce) R17 b17 (leaf_own (by rw [HEL.out]; exact oe))
                    clear hevs oe
                    refine hK'.out _ _ J1 (fun _ => ?_)
                    clear hK' K'
                    try simp only [qA, qB, qC, Act.put, qD, qE, qF]
                    refine rk 9 (fun K' hK' => ?_)
                    go_simp
                    rw [owrap ((kx : Int) + 1) (by omega) (by omega), hkq]
                    refine hmt.mono ?_
                    rintro e R18 ⟨rfl, b18⟩
                    have J2 : Below w.heap.size w R18 := J1.trans (b18.mono J1.size)
                    clear hmt b18
                    refine hK'.out _ _ J2 (fun _ => ?_)
                    clear hK' K'
                    try simp only [qA, qB, qC, Act.put, qD, qE, qF]
                    refine tk 10 J2 ?_
                    refine ⟨by kernel_rfl, ?_⟩
                    refine NoPanic.normal ?_
                    try simp only [qA, qB, qC, Act.put, qD, qE, qF]
                    go_wp2_with fail
                    go_ret
                    exact ⟨rfl, J2⟩)
          · have hnk := HA2.out.nokey (by omega) (by have := HA2.out.keys; omega)
            refine hnk.mono ?_
            rintro e R3 ⟨rfl, b3⟩
            have hA3 := HA2.out.fresh b3
            have hB3 := hA3.bl
            have htd := told_hit 12 R3 ((hB3.cell (p := ⟨0, 0, none⟩) HE.out.2).trans HE.out.1) (Nat.lt_of_lt_of_le HE.out.2 hB3.size)
            have HA3 : Hid (AudI K sd w xn da ab (i + 1) was was z ky nd q bb j C2 l2 bk lm m lv2 L2 G2 F2 D2 R3) := hA3
            clear hnk b3 hA3 hB3 HA2
            go_wp2_with fail
            refine htd.mono ?_
            rintro e R ⟨rfl, b4⟩
            have HTL : Hid (∃ i0, i0 ≤ 31 ∧ AI K sd w xn da ab i0 was R) := ⟨i + 1, by omega, _, _, _, _, _, _, _, _, _, _, _, _, _, _, _, _, HA3.out.fresh b4⟩
            clear htd b4 HA3 hk8
            go_wp2_with fail
            as_aux_lemma =>
              obtain ⟨i0, hi0, z, ky, nd, q, bb, j, C, lk, bk, lm, m, lv, L, G, F, D, AT⟩ := HTL.out
              have HX : Hid (AudI K sd w xn da ab i0 was was z ky nd q bb j C lk bk lm m lv L G F D R) := AT
              have hwasi := AT.wi
              have hal := HAL.out R AT.bl
              clear HTL AT
              refine hal.mono ?_
              rintro e Y1 ⟨py, yn, nd', q', bb', j', C', lk', bk', lm', m', lv', L', G', F', D', rfl, hO, c1⟩
              have HC1 : Hid (Below R.heap.size R Y1) := c1
              have hrf := fork_req hO
              have hbu := rq_fork
              clear hal hO c1 HAL
              generalize (rqCells 8 7 5 98 0 ⟨#[]⟩).toArray = rqf at hrf hbu
              go_wp2_with (first
                | (refine wpList_build_tm rfl 29 _ rfl _ (Eq.trans (congrArg (Tryz.prog.built _) (by simp [Act.eval])) hbu) ?_))
              refine hrf.mono ?_
              rintro e Y2 ⟨b, LY, rfl, hF, hFL, c2⟩
              have HC2 : Hid (Below R.heap.size R Y2) := HC1.out.trans c2
              have HFL : Hid (ForkL LY ∧ (∀ e ∈ LY, e.whole)) := ⟨hFL, hF.wholes⟩
              have hfh := fork_head hF HS.out
              have hfa := fun r0 => fork_adv K sd r0 was LY (by obtain ⟨a, e, h, _⟩ := hFL; rw [h]; rfl)
              generalize headF K sd 3 0 LY = fk at hfh hfa
              have HFA : Hid _ := hfa
              clear hrf hF hFL c2 HC1 hfa hbu
              go_wp2_with fail
              refine hfh.mono ?_
              rintro e Y3 ⟨rfl, hF3, c3⟩
              have HF3 : Hid (Frk K sd R.heap.size yn LY False Y3) := hF3
              have c4 : Below R.heap.size R Y3 := HC2.out.trans c3
              have HX3 : Hid _ := HX.out.fresh c4
              have HRS : Hid (ab < R.heap.size) := HX.out.au.lt
              clear hfh hF3 c3 c4 HC2 HX
              have hadv := HX3.out.advance fk [] (.slice none 0 0) (by omega) (Or.inl ⟨rfl, _, _, rfl⟩) (by simp)
              have hcase := HFA.out (rootF (sumOf K) ((evs K L).take was))
              generalize advE K (pubF (sumOf K) sd 3) 3 was (rootF (sumOf K) ((evs K L).take was)) fk [] = av at hadv hcase
              have HCS : Hid _ := hcase
              clear hcase HFA
              by_cases hw2 : was = 2
              · have y1 : (((was : Nat) : Int) == 2) = true := by rw [hw2]; rfl
                go_wp2_with fail
                refine hadv.mono ?_
                rintro e Y4 ⟨rfl, kk4, _⟩
                have b4 : Below w.heap.size w Y4 := HX3.out.bl.trans (kk4.toBelow HX3.out.bl.size (fun g hg => by rw [hg]; exact HX3.out.apA.2.2.2.2))
                have HO4 : Hid (Ond K z ky 200 w.heap.size xn (i0 + 1) nd q bb j C lk bk lm m lv L G F D Y4) := HX3.out.ond.wrote kk4 HX3.out.apA.1 HX3.out.apA.2.1 HX3.out.key
                have HF4 : Hid (Frk K sd R.heap.size yn LY False Y4) := HF3.out.wrote kk4 HRS.out HX3.out.key
                have HB4 : Hid (Below w.heap.size w Y4) := b4
                clear hadv kk4
                by_cases hf15 : av = .iface 41 (.int .i64 15)
                · have htd := told_hit 15 Y4 ((b4.cell (p := ⟨0, 0, none⟩) HE.out.2).trans HE.out.1) (Nat.lt_of_lt_of_le HE.out.2 b4.size)
                  subst hf15
                  clear b4
                  go_wp2_with fail
                  refine htd.mono ?_
                  rintro e Y5 ⟨rfl, b5⟩
                  clear htd
                  go_wp2_with fail
                  go_ret
                  exact ⟨rfl, HB4.out.trans (b5.mono HB4.out.size)⟩
                · have hr : rootF (sumOf K) ((evs K L).take was) = rootF (sumOf K) (evs K LY) := by
                    rcases HCS.out.2 hw2 with h | ⟨h, _⟩
                    · exact absurd h hf15
                    · exact h
                  obtain ⟨f, hf, htd⟩ : ∃ f : Int, f ≠ 15 ∧ Calls Tryz.prog 11 #[av] Y4 fun e w' => e = .returned (.int .i64 f) ∧ Below Y4.heap.size Y4 w' := by
                    rcases HCS.out.2 hw2 with h | ⟨_, rfl | rfl⟩
                    · exact absurd h hf15
                    · exact ⟨0, by omega, (ktold_nil Y4).mono fun e w' ⟨h1, h2⟩ => ⟨h1, by rw [h2]; exact Below.refl _ _⟩⟩
                    · exact ⟨14, by omega, told_hit 14 Y4 ((b4.cell (p := ⟨0, 0, none⟩) HE.out.2).trans HE.out.1) (Nat.lt_of_lt_of_le HE.out.2 b4.size)⟩
                  have f1 : (f != 15) = true := by rw [bne_iff_ne]; exact hf
                  rw [hw2] at hr
                  have HCL : Hid (∃ a b, b < a ∧ clashAt (sumOf K) ([] ++ rootT (sumOf K) ((evs K L).take 2) ++ rootT (sumOf K) (evs K LY)) a b) := fork_found HX3.out (by omega) HFL.out.1 HFL.out.2 hr
                  have HR : Hid (rootF (sumOf K) ((evs K L).take 2) = rootF (sumOf K) (evs K LY)) := hr
                  clear hr hf hf15 b4
                  go_wp2_with fail
                  refine htd.mono ?_
                  rintro e Y5 ⟨rfl, b5⟩
                  have HB5 : Hid (Below w.heap.size w Y5) := HB4.out.trans (b5.mono HB4.out.size)
                  have HO5 : Hid (Ond K z ky 200 w.heap.size xn (i0 + 1) nd q bb j C lk bk lm m lv L G F D Y5) := HO4.out.fresh b5
                  have HF5 : Hid (Frk K sd R.heap.size yn LY False Y5) := HF4.out.fresh b5
                  have HK5 : Hid (kSt K Y5.heap.size (fun g => (Value.slice none 0 0).ownBlock = some g) (Y5.alloc (.cells #[.slice none 0 0, .slice none 0 0] 77)) []) := kSt_new K Y5
                  have ba : Below Y5.heap.size Y5 (Y5.alloc (.cells #[.slice none 0 0, .slice none 0 0] 77)) := (Below.refl _ _).alloc (Nat.le_refl _) _
                  have hev := kevents_any K z ky 200 w.heap.size xn (i0 + 1) nd q bb j C lk bk lm m lv L G F D 2 _ (HO5.out.fresh ba) (by omega) (by omega)
                  have HBA : Hid (Below Y5.heap.size Y5 (Y5.alloc (.cells #[.slice none 0 0, .slice none 0 0] 77))) := ba
                  have HTP : Hid (1 < Y5.heap.size) := HO5.out.al.tab.lt
                  clear htd b5 HB4 HO4 HF4 ba HX3
                  go_wp2_with fail
                  refine hev.mono ?_
                  rintro e Y6 ⟨ax, cx, rfl, ox, b6⟩
                  have HB6 : Hid (Below Y5.heap.size Y5 Y6) := HBA.out.trans (b6.mono HBA.out.size)
                  have hrx := fork_root HK5.out HTP.out (by simp) (by rw [List.length_take, evs_len, HO5.out.len]; omega) (fun s hs => evs_small' K L s (List.mem_of_mem_take hs)) ox b6 (HO5.out.al.tab.below HB6.out)
                  clear hev ox b6 HK5 HBA
                  go_wp2_with fail
                  refine hrx.mono ?_
                  rintro e Y7 ⟨rfl, ⟨G7, hk7⟩, b7⟩
                  have HB7 : Hid (Below Y5.heap.size Y5 Y7) := HB6.out.trans b7
                  have HK7 : Hid (kSt K Y5.heap.size G7 Y7 ([] ++ rootT (sumOf K) ((evs K L).take 2))) := hk7
                  have hey := fork_events (HF5.out.fresh HB7.out)
                  clear hrx hk7 b7 HB6
                  go_wp2_with fail
                  refine hey.mono ?_
                  rintro e Y8 ⟨ay, cy, rfl, oy, b8⟩
                  have HB8 : Hid (Below Y5.heap.size Y5 Y8) := HB7.out.trans (b8.mono HB7.out.size)
                  have hry := fork_root HK7.out HTP.out (by have := rootT_len (sumOf K) _ ((evs K L).take 2) rfl (by rw [List.length_take, evs_len, HO5.out.len]; omega); rw [List.length_take, evs_len, HO5.out.len] at this; simp; omega) (by obtain ⟨a, e, h, _⟩ := HFL.out.1; rw [h]; rfl) (evs_small' K LY) oy b8 (HO5.out.al.tab.below HB8.out)
                  rw [← HR.out] at hry
                  have r1 := ba_self (rootF (sumOf K) ((evs K L).take 2))
                  clear hey oy b8 HK7 HB7
                  go_wp2_with fail
                  refine hry.mono ?_
                  rintro e Y9 ⟨rfl, ⟨G9, tv, hv, hk9, _⟩, b9⟩
                  have HB9 : Hid (Below Y5.heap.size Y5 Y9) := HB8.out.trans b9
                  have hcl := clash_any (sumOf K) Y5.heap.size Y9 tv hv _ hk9 (by have := HCL.out; obtain ⟨a, e, h, _⟩ := HFL.out.1; rw [h]; have h2 := rootT_len (sumOf K) _ ((evs K L).take 2) rfl (by rw [List.length_take, evs_len, HO5.out.len]; omega); have h3 : evs K [a, e] = [evT K a, evT K e] := rfl; rw [List.length_take, evs_len, HO5.out.len] at h2; rw [h3, rootT_two]; simp; omega)
                  clear hry hk9 b9 HB8
                  go_wp2_with fail
                  refine hcl.mono ?_
                  rintro e Y10 ⟨rb, rfl, hrb, b10⟩
                  have hrt := hrb HCL.out
                  subst hrt
                  clear hcl hrb
                  go_wp2_with fail
                  go_ret
                  exact ⟨rfl, (HB5.out.trans (HB9.out.mono HB5.out.size)).trans (b10.mono (HB5.out.trans (HB9.out.mono HB5.out.size)).size)⟩
              · have y1 : (((was : Nat) : Int) == 2) = false := by rw [beq_eq_false_iff_ne]; omega
                by_cases hw3 : 2 < was
                · have y2 : (2 : Int) < ((was : Nat) : Int) := by omega
                  obtain rfl := HCS.out.1 hw3
                  go_wp2_with fail
                  refine hadv.mono ?_
                  rintro e Y4 ⟨rfl, kk4, _⟩
                  have b4 : Below w.heap.size w Y4 := HX3.out.bl.trans (kk4.toBelow HX3.out.bl.size (fun g hg => by rw [hg]; exact HX3.out.apA.2.2.2.2))
                  have htd := told_hit 10 Y4 ((b4.cell (p := ⟨0, 0, none⟩) HE.out.2).trans HE.out.1) (Nat.lt_of_lt_of_le HE.out.2 b4.size)
                  have HB4 : Hid (Below w.heap.size w Y4) := b4
                  clear hadv kk4 b4
                  go_wp2_with fail
                  refine htd.mono ?_
                  rintro e Y5 ⟨rfl, b5⟩
                  clear htd
                  go_wp2_with fail
                  go_ret
                  exact ⟨rfl, HB4.out.trans (b5.mono HB4.out.size)⟩
                · have y2 : ¬ (2 : Int) < ((was : Nat) : Int) := by omega
                  clear hadv
                  go_wp2_with fail
                  go_ret
                  exact ⟨rfl, HX3.out.bl⟩
    · have HTL : Hid (∃ i0, i0 ≤ 31 ∧ AI K sd w xn da ab i0 was wr) := ⟨i, by omega, hAI.out⟩
      clear hAI
      rcases Classical.em ((i : Int) < (len : Int)) with q1 | q1
      all_goals (
        try have q2 : ¬ (i : Int) < 30 := by omega
        go_wp2_with fail
        as_aux_lemma =>
          obtain ⟨i0, hi0, z, ky, nd, q, bb, j, C, lk, bk, lm, m, lv, L, G, F, D, AT⟩ := HTL.out
          have HX : Hid (AudI K sd w xn da ab i0 was was z ky nd q bb j C lk bk lm m lv L G F D wr) := AT
          have hwasi := AT.wi
          have hal := HAL.out wr AT.bl
          clear HTL AT
          refine hal.mono ?_
          rintro e Y1 ⟨py, yn, nd', q', bb', j', C', lk', bk', lm', m', lv', L', G', F', D', rfl, hO, c1⟩
          have HC1 : Hid (Below wr.heap.size wr Y1) := c1
          have hrf := fork_req hO
          have hbu := rq_fork
          clear hal hO c1 HAL
          generalize (rqCells 8 7 5 98 0 ⟨#[]⟩).toArray = rqf at hrf hbu
          go_wp2_with (first
            | (refine wpList_build_tm rfl 29 _ rfl _ (Eq.trans (congrArg (Tryz.prog.built _) (by simp [Act.eval])) hbu) ?_))
          refine hrf.mono ?_
          rintro e Y2 ⟨b, LY, rfl, hF, hFL, c2⟩
          have HC2 : Hid (Below wr.heap.size wr Y2) := HC1.out.trans c2
          have HFL : Hid (ForkL LY ∧ (∀ e ∈ LY, e.whole)) := ⟨hFL, hF.wholes⟩
          have hfh := fork_head hF HS.out
          have hfa := fun r0 => fork_adv K sd r0 was LY (by obtain ⟨a, e, h, _⟩ := hFL; rw [h]; rfl)
          generalize headF K sd 3 0 LY = fk at hfh hfa
          have HFA : Hid _ := hfa
          clear hrf hF hFL c2 HC1 hfa hbu
          go_wp2_with fail
          refine hfh.mono ?_
          rintro e Y3 ⟨rfl, hF3, c3⟩
          have HF3 : Hid (Frk K sd wr.heap.size yn LY False Y3) := hF3
          have c4 : Below wr.heap.size wr Y3 := HC2.out.trans c3
          have HX3 : Hid _ := HX.out.fresh c4
          have HRS : Hid (ab < wr.heap.size) := HX.out.au.lt
          clear hfh hF3 c3 c4 HC2 HX
          have hadv := HX3.out.advance fk [] (.slice none 0 0) (by omega) (Or.inl ⟨rfl, _, _, rfl⟩) (by simp)
          have hcase := HFA.out (rootF (sumOf K) ((evs K L).take was))
          generalize advE K (pubF (sumOf K) sd 3) 3 was (rootF (sumOf K) ((evs K L).take was)) fk [] = av at hadv hcase
          have HCS : Hid _ := hcase
          clear hcase HFA
          by_cases hw2 : was = 2
          · have y1 : (((was : Nat) : Int) == 2) = true := by rw [hw2]; rfl
            go_wp2_with fail
            refine hadv.mono ?_
            rintro e Y4 ⟨rfl, kk4, _⟩
            have b4 : Below w.heap.size w Y4 := HX3.out.bl.trans (kk4.toBelow HX3.out.bl.size (fun g hg => by rw [hg]; exact HX3.out.apA.2.2.2.2))
            have HO4 : Hid (Ond K z ky 200 w.heap.size xn (i0 + 1) nd q bb j C lk bk lm m lv L G F D Y4) := HX3.out.ond.wrote kk4 HX3.out.apA.1 HX3.out.apA.2.1 HX3.out.key
            have HF4 : Hid (Frk K sd wr.heap.size yn LY False Y4) := HF3.out.wrote kk4 HRS.out HX3.out.key
            have HB4 : Hid (Below w.heap.size w Y4) := b4
            clear hadv kk4
            by_cases hf15 : av = .iface 41 (.int .i64 15)
            · have htd := told_hit 15 Y4 ((b4.cell (p := ⟨0, 0, none⟩) HE.out.2).trans HE.out.1) (Nat.lt_of_lt_of_le HE.out.2 b4.size)
              subst hf15
              clear b4
              go_wp2_with fail
              refine htd.mono ?_
              rintro e Y5 ⟨rfl, b5⟩
              clear htd
              go_wp2_with fail
              go_ret
              exact ⟨rfl, HB4.out.trans (b5.mono HB4.out.size)⟩
            · have hr : rootF (sumOf K) ((evs K L).take was) = rootF (sumOf K) (evs K LY) := by
                rcases HCS.out.2 hw2 with h | ⟨h, _⟩
                · exact absurd h hf15
                · exact h
              obtain ⟨f, hf, htd⟩ : ∃ f : Int, f ≠ 15 ∧ Calls Tryz.prog 11 #[av] Y4 fun e w' => e = .returned (.int .i64 f) ∧ Below Y4.heap.size Y4 w' := by
                rcases HCS.out.2 hw2 with h | ⟨_, rfl | rfl⟩
                · exact absurd h hf15
                · exact ⟨0, by omega, (ktold_nil Y4).mono fun e w' ⟨h1, h2⟩ => ⟨h1, by rw [h2]; exact Below.refl _ _⟩⟩
                · exact ⟨14, by omega, told_hit 14 Y4 ((b4.cell (p := ⟨0, 0, none⟩) HE.out.2).trans HE.out.1) (Nat.lt_of_lt_of_le HE.out.2 b4.size)⟩
              have f1 : (f != 15) = true := by rw [bne_iff_ne]; exact hf
              rw [hw2] at hr
              have HCL : Hid (∃ a b, b < a ∧ clashAt (sumOf K) ([] ++ rootT (sumOf K) ((evs K L).take 2) ++ rootT (sumOf K) (evs K LY)) a b) := fork_found HX3.out (by omega) HFL.out.1 HFL.out.2 hr
              have HR : Hid (rootF (sumOf K) ((evs K L).take 2) = rootF (sumOf K) (evs K LY)) := hr
              clear hr hf hf15 b4
              go_wp2_with fail
              refine htd.mono ?_
              rintro e Y5 ⟨rfl, b5⟩
              have HB5 : Hid (Below w.heap.size w Y5) := HB4.out.trans (b5.mono HB4.out.size)
              have HO5 : Hid (Ond K z ky 200 w.heap.size xn (i0 + 1) nd q bb j C lk bk lm m lv L G F D Y5) := HO4.out.fresh b5
              have HF5 : Hid (Frk K sd wr.heap.size yn LY False Y5) := HF4.out.fresh b5
              have HK5 : Hid (kSt K Y5.heap.size (fun g => (Value.slice none 0 0).ownBlock = some g) (Y5.alloc (.cells #[.slice none 0 0, .slice none 0 0] 77)) []) := kSt_new K Y5
              have ba : Below Y5.heap.size Y5 (Y5.alloc (.cells #[.slice none 0 0, .slice none 0 0] 77)) := (Below.refl _ _).alloc (Nat.le_refl _) _
              have hev := kevents_any K z ky 200 w.heap.size xn (i0 + 1) nd q bb j C lk bk lm m lv L G F D 2 _ (HO5.out.fresh ba) (by omega) (by omega)
              have HBA : Hid (Below Y5.heap.size Y5 (Y5.alloc (.cells #[.slice none 0 0, .slice none 0 0] 77))) := ba
              have HTP : Hid (1 < Y5.heap.size) := HO5.out.al.tab.lt
              clear htd b5 HB4 HO4 HF4 ba HX3
              go_wp2_with fail
              refine hev.mono ?_
              rintro e Y6 ⟨ax, cx, rfl, ox, b6⟩
              have HB6 : Hid (Below Y5.heap.size Y5 Y6) := HBA.out.trans (b6.mono HBA.out.size)
              have hrx := fork_root HK5.out HTP.out (by simp) (by rw [List.length_take, evs_len, HO5.out.len]; omega) (fun s hs => evs_small' K L s (List.mem_of_mem_take hs)) ox b6 (HO5.out.al.tab.below HB6.out)
              clear hev ox b6 HK5 HBA
              go_wp2_with fail
              refine hrx.mono ?_
              rintro e Y7 ⟨rfl, ⟨G7, hk7⟩, b7⟩
              have HB7 : Hid (Below Y5.heap.size Y5 Y7) := HB6.out.trans b7
              have HK7 : Hid (kSt K Y5.heap.size G7 Y7 ([] ++ rootT (sumOf K) ((evs K L).take 2))) := hk7
              have hey := fork_events (HF5.out.fresh HB7.out)
              clear hrx hk7 b7 HB6
              go_wp2_with fail
              refine hey.mono ?_
              rintro e Y8 ⟨ay, cy, rfl, oy, b8⟩
              have HB8 : Hid (Below Y5.heap.size Y5 Y8) := HB7.out.trans (b8.mono HB7.out.size)
              have hry := fork_root HK7.out HTP.out (by have := rootT_len (sumOf K) _ ((evs K L).take 2) rfl (by rw [List.length_take, evs_len, HO5.out.len]; omega); rw [List.length_take, evs_len, HO5.out.len] at this; simp; omega) (by obtain ⟨a, e, h, _⟩ := HFL.out.1; rw [h]; rfl) (evs_small' K LY) oy b8 (HO5.out.al.tab.below HB8.out)
              rw [← HR.out] at hry
              have r1 := ba_self (rootF (sumOf K) ((evs K L).take 2))
              clear hey oy b8 HK7 HB7
              go_wp2_with fail
              refine hry.mono ?_
              rintro e Y9 ⟨rfl, ⟨G9, tv, hv, hk9, _⟩, b9⟩
              have HB9 : Hid (Below Y5.heap.size Y5 Y9) := HB8.out.trans b9
              have hcl := clash_any (sumOf K) Y5.heap.size Y9 tv hv _ hk9 (by have := HCL.out; obtain ⟨a, e, h, _⟩ := HFL.out.1; rw [h]; have h2 := rootT_len (sumOf K) _ ((evs K L).take 2) rfl (by rw [List.length_take, evs_len, HO5.out.len]; omega); have h3 : evs K [a, e] = [evT K a, evT K e] := rfl; rw [List.length_take, evs_len, HO5.out.len] at h2; rw [h3, rootT_two]; simp; omega)
              clear hry hk9 b9 HB8
              go_wp2_with fail
              refine hcl.mono ?_
              rintro e Y10 ⟨rb, rfl, hrb, b10⟩
              have hrt := hrb HCL.out
              subst hrt
              clear hcl hrb
              go_wp2_with fail
              go_ret
              exact ⟨rfl, (HB5.out.trans (HB9.out.mono HB5.out.size)).trans (b10.mono (HB5.out.trans (HB9.out.mono HB5.out.size)).size)⟩
          · have y1 : (((was : Nat) : Int) == 2) = false := by rw [beq_eq_false_iff_ne]; omega
            by_cases hw3 : 2 < was
            · have y2 : (2 : Int) < ((was : Nat) : Int) := by omega
              obtain rfl := HCS.out.1 hw3
              go_wp2_with fail
              refine hadv.mono ?_
              rintro e Y4 ⟨rfl, kk4, _⟩
              have b4 : Below w.heap.size w Y4 := HX3.out.bl.trans (kk4.toBelow HX3.out.bl.size (fun g hg => by rw [hg]; exact HX3.out.apA.2.2.2.2))
              have htd := told_hit 10 Y4 ((b4.cell (p := ⟨0, 0, none⟩) HE.out.2).trans HE.out.1) (Nat.lt_of_lt_of_le HE.out.2 b4.size)
              have HB4 : Hid (Below w.heap.size w Y4) := b4
              clear hadv kk4 b4
              go_wp2_with fail
              refine htd.mono ?_
              rintro e Y5 ⟨rfl, b5⟩
              clear htd
              go_wp2_with fail
              go_ret
              exact ⟨rfl, HB4.out.trans (b5.mono HB4.out.size)⟩
            · have y2 : ¬ (2 : Int) < ((was : Nat) : Int) := by omega
              clear hadv
              go_wp2_with fail
              go_ret
              exact ⟨rfl, HX3.out.bl⟩)
end Go.Proofs.YteglimjonofdeaaGreatDoor
