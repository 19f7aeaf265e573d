import Derived.Test.YtijdnpoenpjnlaaGreatDoorRPlays
set_option linter.unusedVariables false
set_option linter.unusedSimpArgs false
namespace Go.Proofs.YtijdnpoenpjnlaaGreatDoor
open Go.RowKit

def inRel (k : Int) (Ks : List Int) (kn : Nat) (wr : World) (inn j : Value) (wx : World) : Prop := ∃ (m : Nat) (r : Bool), m ≤ kn ∧ j = .int .i64 m ∧ inn = .bool r ∧ (r = true → k < 11 ∨ k = 14 ∨ k ∈ Ks) ∧ wx = wr
set_option maxRecDepth 10000 in
set_option maxHeartbeats 2000000 in
theorem plays_any (v : Value) (l : List Op8) (w : World) (Ks : List Int) (gk kc : Nat) (PK : Int → Prop) (h : OpsAt w v l) (hn : l.length ≤ 140737488355328) (hs : ∀ o ∈ l, o.s.size ≤ 140737488355328)
    (hok : ∀ o ∈ l, OpOk o.x o.y o.z o.a o.b o.c ∧ -9223372036854775808 ≤ o.k ∧ o.k ≤ 9223372036854775807) (hkl : Ks.length ≤ 100)
    (hks : ∀ j (hj : j < Ks.length), w.cell? ⟨gk, j, none⟩ = some (.int .i64 (Ks[j]'hj))) (hPK : ∀ kd, (kd < 11 ∨ kd = 14 ∨ kd ∈ Ks) → PK kd)
    (hup : ∀ v' L w', OpsAt w' v' L → L.length ≤ 16384 → (∀ o ∈ L, o.Ok ∧ PK o.k) → Below w.heap.size w w' → Calls Tryz.prog 15 #[v'] w' fun e w'' => e = .returned (.int .i64 (-1)) ∧ Below w'.heap.size w' w'') :
    Calls Tryz.prog 13 #[v, .bool false, .slice (some ⟨gk, 0, none⟩) Ks.length kc] w fun e w' => e = .returned (.bool true) ∧ Below w.heap.size w w' := by
  obtain ⟨ao, n, cap, rfl, hnl, hr⟩ := ops_form h
  have hsm := small_any _ l w h hn hs
  have HR : Hid (∀ q (hq : q < l.length), ∃ g off, ao = some ⟨g, off, none⟩ ∧ w.rangeAt g (off + q * 8) (l[q]'hq).cells) := hr
  have HN : Hid (n = l.length) := hnl
  have HO : Hid (∀ o ∈ l, OpOk o.x o.y o.z o.a o.b o.c ∧ -9223372036854775808 ≤ o.k ∧ o.k ≤ 9223372036854775807) := hok
  have HKS : Hid (∀ j (hj : j < Ks.length), w.cell? ⟨gk, j, none⟩ = some (.int .i64 (Ks[j]'hj))) := hks
  have HPK : Hid (∀ kd, (kd < 11 ∨ kd = 14 ∨ kd ∈ Ks) → PK kd) := hPK
  have HUP : Hid (∀ v' L w', OpsAt w' v' L → L.length ≤ 16384 → (∀ o ∈ L, o.Ok ∧ PK o.k) → Below w.heap.size w w' → Calls Tryz.prog 15 #[v'] w' fun e w'' => e = .returned (.int .i64 (-1)) ∧ Below w'.heap.size w' w'') := hup
  obtain ⟨kn, hkn⟩ : ∃ kn, kn = Ks.length := ⟨_, rfl⟩
  rw [← hkn] at hkl ⊢
  have HKN : Hid (kn = Ks.length) := hkn
  clear h hnl hr hs hok hks hPK hup hn hkn
  obtain ⟨i, z, hi, hz, hsz, hby, hz8⟩ := info_op8
  go_enter Tryz.func13, Tryz.ntmps13
  go_wp2_with fail
  refine hsm.mono ?_
  rintro e w1 ⟨r, rfl, hw1, hsm2⟩
  obtain rfl : w = w1 := hw1.symm
  clear hw1 hsm
  cases r
  · go_wp2_with fail
    go_ret
    exact ⟨rfl, Below.refl _ _⟩
  obtain ⟨hn16, hs16⟩ := hsm2 rfl
  have HS16 : Hid (∀ o ∈ l, o.s.size ≤ 16384) := hs16
  have hn' : n ≤ 16384 := by have := HN.out; omega
  clear hsm2 hs16 hn16
  go_wp2_with fail
  go_loopw [8, 9] (fun lv i wr => ∃ (q : Nat) (L : List Op8), q ≤ n ∧ i = .int .i64 q ∧ wr.ownsRow w.heap.size 28 8 lv L.length (flatC L) ∧ L.length ≤ q ∧ Below w.heap.size w wr ∧ ∀ o ∈ L, o.Ok ∧ PK o.k) (fun _ i _ => n - (intOf i).toNat)
  case atStart => exact ⟨0, [], by omega, rfl, World.ownsRow_nil _ _ _ _, Nat.le_refl _, Below.refl _ _, fun o ho => by cases ho⟩
  case round =>
    obtain ⟨q, L, hq, rfl, hown, hLq, hB, hL⟩ := hrel
    have HL : Hid (∀ o ∈ L, o.Ok ∧ PK o.k) := hL
    clear hL
    by_cases hlt : q < n
    · have q1 : (q : Int) < (n : Int) := by omega
      have q0 : (0 : Int) ≤ (q : Int) := by omega
      have hql : q < l.length := by have := HN.out; omega
      obtain ⟨g, off, hao, hrg⟩ := HR.out q hql
      subst hao
      obtain ⟨o, ho⟩ : ∃ o, o = l[q]'hql := ⟨_, rfl⟩
      rw [← ho] at hrg
      have hmem : o ∈ l := by rw [ho]; exact List.getElem_mem hql
      have hrr : wr.rangeAt g (off + q * 8) (opCells o.k o.x o.y o.z o.a o.b o.c o.s) := fun j u hu => by
        have := hrg j u hu
        rw [hB.cell (World.block_lt_of_cell? w _ this)]; exact this
      have hc0 : wr.cell? ⟨g, off + q * 8, none⟩ = some (.int .i64 o.k) := hrr 0 _ rfl
      have hc5 : wr.cell? ⟨g, off + q * 8 + 5, none⟩ = some (.int .i64 o.b) := hrr 5 _ rfl
      have HOK : Hid (o.Ok) := ⟨(HO.out o hmem).1, (HO.out o hmem).2.1, (HO.out o hmem).2.2, HS16.out o hmem⟩
      have hksr : ∀ j (hj : j < Ks.length), wr.cell? ⟨gk, j, none⟩ = some (.int .i64 (Ks[j]'hj)) := fun j hj => by
        have := HKS.out j hj
        rw [hB.cell (World.block_lt_of_cell? w _ this)]; exact this
      have HKR : Hid (∀ j (hj : j < Ks.length), wr.cell? ⟨gk, j, none⟩ = some (.int .i64 (Ks[j]'hj))) := hksr
      clear hksr ho hrg hmem
      obtain ⟨ao', cap', hlv⟩ := own_form hown
      subst hlv
      have hown2 : ∀ ob, (wr.alloc ob).ownsRow w.heap.size 28 8 (.slice ao' L.length cap') L.length (flatC L) := fun ob => hown.alloc ob
      have hnews : ∀ j u, (opCells o.k o.x o.y o.z o.a o.b o.c o.s)[j]? = some u → (wr.alloc (.cells (opCells o.k o.x o.y o.z o.a o.b o.c o.s).toArray 28)).cell? ((⟨wr.heap.size, 0, none⟩ : Addr).add j) = some u := fun j u hu => by
        have := range_new wr (opCells o.k o.x o.y o.z o.a o.b o.c o.s) 28 j u hu
        rw [Addr.add_lit]; exact this
      have hone : ∀ u ∈ opCells o.k o.x o.y o.z o.a o.b o.c o.s, u.oneCell' = true := by
        intro u hu
        simp only [opCells, List.mem_cons, List.not_mem_nil, or_false] at hu
        rcases hu with rfl | rfl | rfl | rfl | rfl | rfl | rfl | rfl <;> rfl
      have hvl := hown.lt
      have hBs := hB.size
      have hrr' : wr.rangeAt g (off + q * 8) [.int .i64 o.k, .int .i64 o.x, .int .i64 o.y, .int .i64 o.z, .int .i64 o.a, .int .i64 o.b, .int .i64 o.c, .string o.s] := hrr
      have hnews' : ∀ j u, ([.int .i64 o.k, .int .i64 o.x, .int .i64 o.y, .int .i64 o.z, .int .i64 o.a, .int .i64 o.b, .int .i64 o.c, .string o.s] : List Value)[j]? = some u → (wr.alloc (.cells #[.int .i64 o.k, .int .i64 o.x, .int .i64 o.y, .int .i64 o.z, .int .i64 o.a, .int .i64 o.b, .int .i64 o.c, .string o.s] 28)).cell? ((⟨wr.heap.size, 0, none⟩ : Addr).add j) = some u := hnews
      have hone' : ∀ u ∈ ([.int .i64 o.k, .int .i64 o.x, .int .i64 o.y, .int .i64 o.z, .int .i64 o.a, .int .i64 o.b, .int .i64 o.c, .string o.s] : List Value), u.oneCell' = true := hone
      have hinf : (Tryz.prog.info? 28).map (·.size) = some ([.int .i64 o.k, .int .i64 o.x, .int .i64 o.y, .int .i64 o.z, .int .i64 o.a, .int .i64 o.b, .int .i64 o.c, .string o.s] : List Value).length := info_op o.k o.x o.y o.z o.a o.b o.c o.s
      clear hrr hnews hone
      have h3 : (o.k < 11 ∧ (o.k == 41) = false) ∨ (¬ o.k < 11 ∧ (o.k == 41) = true) ∨ (¬ o.k < 11 ∧ (o.k == 41) = false) := by
        by_cases h1 : o.k < 11
        · exact Or.inl ⟨h1, by rw [beq_eq_false_iff_ne]; omega⟩
        · cases h2 : (o.k == 41)
          · exact Or.inr (Or.inr ⟨h1, rfl⟩)
          · exact Or.inr (Or.inl ⟨h1, rfl⟩)
      rcases h3 with ⟨h11, h41⟩ | ⟨h11, h41⟩ | ⟨h11, h41⟩
      all_goals
        go_wp2_with fail
        go_loopw [11, 12] (inRel o.k Ks kn wr) (fun _ j _ => kn - (intOf j).toNat)
        case atStart =>
          refine ⟨0, _, Nat.zero_le _, rfl, rfl, fun h => ?_, rfl⟩
          have h2 : o.k < 11 ∨ o.k = 14 := by first | (simp at h; omega) | (simp at h; done) | omega
          rcases h2 with h2 | h2
          · exact Or.inl h2
          · exact Or.inr (Or.inl h2)
        case round =>
          obtain ⟨m, r, hm, rfl, rfl, hin, hwx⟩ := hrel
          subst hwx
          have HIN : Hid (r = true → o.k < 11 ∨ o.k = 14 ∨ o.k ∈ Ks) := hin
          clear hin
          by_cases hmk : m < kn
          · have m1 : (m : Int) < (kn : Int) := by omega
            have m0 : (0 : Int) ≤ (m : Int) := by omega
            have hmK : m < Ks.length := by have := HKN.out; omega
            have hcm := HKR.out m hmK
            obtain ⟨km, hkm⟩ : ∃ km, km = Ks[m]'hmK := ⟨_, rfl⟩
            have hkin : Hid (km ∈ Ks) := by show km ∈ Ks; rw [hkm]; exact List.getElem_mem hmK
            rw [← hkm] at hcm
            clear hkm
            cases r
            · cases hb : (o.k == km)
              · go_wp2_with fail
                refine ⟨⟨m + 1, false, by omega, by go_num, rfl, (fun h => by cases h), rfl⟩, ?_⟩
                simp [intOf]; omega
              · have hek0 : o.k = km := by simpa using hb
                have hek : Hid (o.k = km) := hek0
                clear hek0
                go_wp2_with fail
                refine ⟨⟨m + 1, true, by omega, by go_num, rfl, fun _ => Or.inr (Or.inr (by rw [hek.out]; exact hkin.out)), rfl⟩, ?_⟩
                simp [intOf]; omega
            · go_wp2_with fail
              refine ⟨⟨m + 1, true, by omega, by go_num, by first | rfl | simp, HIN.out, rfl⟩, ?_⟩
              simp [intOf]; omega
          · have m1 : ¬ (m : Int) < (kn : Int) := by omega
            cases r
            · go_wp2_with fail
              refine ⟨⟨q + 1, L, by omega, by go_num, hown, by omega, hB, HL.out⟩, ?_⟩
              simp [intOf]; omega
            · go_wp2_with (first | (refine wpList_load_mid rfl 28 (.tmp 66) rfl g (off + q * 8) rfl [.int .i64 o.k, .int .i64 o.x, .int .i64 o.y, .int .i64 o.z, .int .i64 o.a, .int .i64 o.b, .int .i64 o.c, .string o.s] _ hrr' Tryz.underlying28 rfl hinf ?_) | (refine wpList_append_lies _ rfl _ _ 22 rfl w.heap.size 28 i _ 8 72 Tryz.underlying22 hi hz hsz hby hz8 (by decide) (.slice ao' L.length cap') L.length _ rfl (hown2 _) ⟨wr.heap.size, 0, none⟩ 1 1 [.int .i64 o.k, .int .i64 o.x, .int .i64 o.y, .int .i64 o.z, .int .i64 o.a, .int .i64 o.b, .int .i64 o.c, .string o.s] rfl rfl hnews' hone' (by decide) (by unfold maxLen; omega) (by omega) (by simp; omega) _ rfl ?_; intro g2 cap2 w2 ho2 hgr2 hat2 hlt2))
              have hb2 : Below w.heap.size w w2 := hB.trans (((Below.refl _ _).alloc hBs _).trans (below_grown hgr2 (by simp; omega) (fun k hk => (hvl k hk).1)))
              refine ⟨⟨q + 1, L ++ [o], by omega, by go_num, ?_, by simp; omega, hb2, fun o' ho' => ?_⟩, ?_⟩
              · refine own_len ho2 (by simp) ?_
                simp only [flatC, List.flatMap_append, List.flatMap_cons, List.flatMap_nil, List.append_nil]; rfl
              · rcases List.mem_append.1 ho' with h | h
                · exact HL.out o' h
                · simp at h; subst h; exact ⟨HOK.out, HPK.out _ (HIN.out rfl)⟩
              · simp [intOf]; omega
    · have q1 : ¬ (q : Int) < (n : Int) := by omega
      go_wp2_with fail
      refine (HUP.out _ L wr (ops_own hown) (by omega) HL.out hB).mono ?_
      rintro e w2 ⟨rfl, hb2⟩
      go_wp2_with fail
      go_ret
      exact ⟨rfl, hB.trans (hb2.mono hB.size)⟩
end Go.Proofs.YtijdnpoenpjnlaaGreatDoor
