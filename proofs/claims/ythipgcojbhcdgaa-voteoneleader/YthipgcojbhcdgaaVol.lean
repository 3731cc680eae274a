/- VoteOneLeader's walk. -/
import Derived.Test.YthipgcojbhcdgaaVr1
import Derived.Test.YthipgcojbhcdgaaVr2
import Derived.Test.YthipgcojbhcdgaaVr3
import Derived.Deep.LoopGhost
import Derived.Deep.DeepCutAuto
import Derived.Deep.CutBlock
namespace Go.Proofs.Ythipgcojbhcdgaa
open Go.RowKit Go.Maps Go.Sort
/-- A step that is handed in. -/
structure Act4 where
  op : Int
  a : Int
  n : Int
  keep : Bool
def RowA (W : World) (g off : Nat) (S : List Act4) : Prop := ∀ j (h : j < S.length), W.cell? ⟨g, off + j * 4, none⟩ = some (.int .i64 S[j].op) ∧ W.cell? ⟨g, off + j * 4 + 1, none⟩ = some (.int .i64 S[j].a) ∧ W.cell? ⟨g, off + j * 4 + 2, none⟩ = some (.int .i64 S[j].n) ∧ W.cell? ⟨g, off + j * 4 + 3, none⟩ = some (.bool S[j].keep)
theorem i64_mask (z : Int) (m : Nat) (hm : m < 9223372036854775808) : ∃ k : Nat, k ≤ m ∧ bits .and .i64 z (m : Int) = (k : Int) := by
  refine ⟨(BitVec.ofInt 64 z &&& BitVec.ofInt 64 (m : Int)).toNat, ?_, ?_⟩
  · rw [BitVec.toNat_and, ofInt_u64 m (by omega)]; exact Nat.and_le_right
  · show IntKind.i64.wrap ((BitVec.ofInt 64 z &&& BitVec.ofInt 64 (m : Int)).toNat : Int) = _
    have h : (BitVec.ofInt 64 z &&& BitVec.ofInt 64 (m : Int)).toNat ≤ m := by
      rw [BitVec.toNat_and, ofInt_u64 m (by omega)]; exact Nat.and_le_right
    exact wrapI (by omega) (by omega)
theorem mem_take (n i : Nat) (hi : i < n) : (mem n).take (i + 1) = (mem n).take i ++ [(i : Int) + 1] := by
  have hl : i < (mem n).length := by rw [mem_len]; exact hi
  rw [List.take_add_one, List.getElem?_eq_getElem hl]
  simp [mem]
/-- The members at the beginning. -/
def news (i : Nat) : List PP := (List.range i).map fun (j : Nat) => pnew ((j : Int) + 1) ((j : Int) + 1)
theorem inv0 {n : Nat} (h1 : 1 ≤ n) (h5 : n ≤ 5) : Inv n 0 0 (news n) [] (fun _ => 0) (fun _ _ => 0) := by
  have hl : (news n).length = n := by simp [news]
  have hg : ∀ i (h : i < (news n).length), (news n)[i] = pnew ((i : Int) + 1) ((i : Int) + 1) := fun i h => by simp [news]
  refine ⟨hl, fun i h => ?_, fun m hm => (by cases hm), fun i h => ?_, fun i h t ht => rfl, fun m hm => (by cases hm), fun i h hr => ?_, fun i h hr => ?_, fun t ht => absurd rfl ht⟩
  · rw [hg]; exact ⟨pnew_ok (by omega) (by omega), rfl⟩
  · simp only [hg]; rfl
  · simp only [hg] at hr; cases hr
  · simp only [hg] at hr; cases hr
theorem news_succ (i : Nat) : news (i + 1) = news i ++ [pnew ((i : Int) + 1) ((i : Int) + 1)] := by simp [news, List.range_succ]
set_option maxRecDepth 100000 in
set_option maxHeartbeats 80000000 in
theorem vol_law {W : World} {size : Int} {S : List Act4} {a1 : Option Addr} {c1 g1 o1 : Nat} (ha : S.length ≠ 0 → a1 = some ⟨g1, o1, none⟩) (hS : RowA W g1 o1 S) : Calls Try.prog 3 #[.int .i64 size, .slice a1 S.length c1] W fun e w' => e = .returned (.bool true) ∧ Bel W w' := by
  have HA := hide ha
  have HS := hide hS
  obtain ⟨z, hz, hzb⟩ := i64_mask size 65535 (by decide)
  have hzb' : bits .and .i64 size 65535 = (z : Int) := hzb
  clear ha hS hz hzb
  have hmm := @run_makeMap Try.prog
  go_enter Try.func3, Try.ntmps3
  go_wp2_with (first
    | (go_at_call 5; refine alive_any.mono ?_; rintro e w1 ⟨rfl, hb1⟩; have HB1 := hide hb1; clear hb1))
  obtain ⟨n, hn1, hn5, hnz⟩ : ∃ n : Nat, 1 ≤ n ∧ n ≤ 5 ∧ 1 + (z : Int) % 5 = (n : Int) := ⟨1 + z % 5, by omega, by omega, by omega⟩
  rw [hnz]
  clear hnz hzb'
  generalize (z : Int) % 5 = z5
  go_loopg [5, 6] n (fun gk v5 v6 wr => ∃ i : Nat, i ≤ n ∧ gk = n - i ∧ v6 = .int .i64 ((i : Int) + 1) ∧ Hid (E3.O W.heap.size wr v5 ((mem n).take i) ∧ Bel W wr))
  case atStart => exact ⟨0, Nat.zero_le _, rfl, rfl, hide ⟨by rw [List.take_zero]; exact El.O.nil _ _, unhide HB1⟩⟩
  case round =>
    obtain ⟨i, hi, hgk, rfl, HI⟩ := hrel
    by_cases hlt : i < n
    · as_aux_lemma =>
      have hle : ((i : Int) + 1) ≤ n := by omega
      obtain ⟨M', hM'⟩ : ∃ M', M' = (mem n).take (i + 1) := ⟨_, rfl⟩
      have HM := hide (hM'.trans (mem_take n i hlt))
      have HM' := hide hM'
      clear hM'
      go_wp2_with (first
        | (at_builtin; refine app1_el (E := E3) ((i : Int) + 1) M' (unhide HM) ((unhide HI).1.bel ((Bel.refl _).alloc _)) (Nat.le_trans (unhide HI).2.size ((Bel.refl _).alloc _).size) _ _ (at_new _ _) (by simp; omega) rfl _ _ 24 rfl rfl rfl rfl ?_; intro g cap w4 ho4 hg4 hat4; have HJ := hide (And.intro ho4 (((Ch.refl (fun i => W.heap.size ≤ i) _).grown hg4 (fun j hj => Or.inl ((unhide HI).1.lt hj).1)).below' ((unhide HI).2.alloc _))); clear ho4 hg4 hat4))
      go_roundg (gk - 1)
      case measure => omega
      case rel => exact ⟨i + 1, by omega, by omega, congrArg (Value.int .i64) (by omega), hide (by rw [← unhide HM']; exact unhide HJ)⟩
    · have hle : ¬ ((i : Int) + 1) ≤ n := by omega
      obtain rfl : i = n := by omega
      have hI := unhide HI
      rw [List.take_of_length_le (by rw [mem_len]; omega)] at hI
      obtain ⟨⟨a5, c5, g5, e5, h5, R5, hc5⟩, hB5⟩ := And.intro hI.1.shape hI.2
      rw [mem_len] at e5 h5 hc5
      obtain rfl := h5 (by omega)
      have HI5 : Hid (E3.O W.heap.size wr (.slice (some ⟨g5, 0, none⟩) i c5) (mem i) ∧ Bel W wr) := hide ⟨by rw [← e5]; exact hI.1, hB5⟩
      subst e5
      clear hI h5 R5 hc5 hB5 HI hle hi hgk hlt
      go_wp2_with fail
      go_loopg [7, 8] i (fun gk v7 v8 wr => ∃ (j : Nat) (L : List (PP × Px)), j ≤ i ∧ gk = i - j ∧ v8 = .int .i64 (j : Int) ∧ Hid (L.map (·.1) = news j ∧ (E32 i).O W.heap.size wr v7 L ∧ (∀ q ∈ L, Pf 0 wr i q.1 q.2) ∧ E3.O W.heap.size wr (.slice (some ⟨g5, 0, none⟩) i c5) (mem i) ∧ Bel W wr))
      case atStart => exact ⟨0, [], Nat.zero_le _, rfl, rfl, hide ⟨rfl, El.O.nil _ _, (fun q hq => (by cases hq)), (unhide HI5).1, (unhide HI5).2⟩⟩
      case round =>
        obtain ⟨j, L, hj, hgk2, rfl, HJ⟩ := hrel
        by_cases hlt : j < i
        · as_aux_lemma =>
          have hle : (j : Int) < i := by omega
          have r0 : wr.cell? ⟨g5, j, none⟩ = some (.int .i64 ((j : Int) + 1)) := by
            have hjm : j < (mem i).length := by rw [mem_len]; exact hlt
            have := (unhide HJ).2.2.2.1.range j hjm 0 _ rfl
            simpa [E3, mem] using this
          have HN : Hid (Calls Try.prog 6 #[.int .i64 ((j : Int) + 1), .int .i64 (1 + (j : Int)), .slice (some ⟨g5, 0, none⟩) i c5] wr fun e w' => ∃ x', e = .returned (.tuple #[.agg (pc i (pnew ((j : Int) + 1) ((j : Int) + 1)) x'), .int .i64 0]) ∧ Pf wr.heap.size w' i (pnew ((j : Int) + 1) ((j : Int) + 1)) x' ∧ Bel wr w') := hide (by rw [Int.add_comm 1 (j : Int)]; exact new_any (Sl.of (unhide HJ).2.2.2.1).1 (by omega) (by omega) (by omega))
          have HW := hide (unhide HJ).2.2.2.2.size
          have HLL : Hid (L.length + 1 ≤ 100000000000) := hide (by have := congrArg List.length (unhide HJ).1; simp [news] at this; omega)
          obtain ⟨s0, hs0⟩ : ∃ s0, s0 = pnew ((j : Int) + 1) ((j : Int) + 1) := ⟨_, rfl⟩
          rw [← hs0] at HN
          have HS0 := hide hs0
          clear hs0
          go_wp2_with (first
            | (go_at_call 6; refine (unhide HN).mono ?_; rintro e w2 ⟨x2, rfl, hp2, hb2⟩; have HP := hide (And.intro hp2 hb2); clear hp2 hb2)
            | (with_reducible refine bxp_new ?_ ?_ ?_; exact rfl; exact rfl; intro b w3 hr3 hs3 hb3; have HR3 := hide (And.intro hr3 (And.intro hs3 hb3)); clear hr3 hs3 hb3)
            | (with_reducible refine bxp_st (.tmp 9) (.tmp 51) b i s0 x2 (unhide HR3).1 ?_ ?_ ?_ ?_ ?_; exact rfl; exact rfl; (first | exact rfl | simp [Act.put, Act.eval]); (first | exact rfl | simp [Act.put, Act.eval]); intro w4 hr4 hc4; have HQ4 := bel_off (unhide HR3).2.2 hc4 (Nat.le_of_eq (unhide HR3).2.1); have HR4 := hide (And.intro hr4 ((unhide HP).2.trans HQ4)); have HP4 := hide ((unhide HP).1.bel HQ4); clear hr4 hc4 HQ4)
            | (with_reducible refine bxp_ld (.tmp 9) b i s0 x2 (unhide HR4).1 ?_ ?_ ?_ ?_; exact rfl; exact rfl; simp [Act.eval])
            | (with_reducible refine elp_one i s0 x2 (.tmp 56) ?_ ?_ ?_ ?_; exact rfl; exact rfl; (first | exact rfl | simp [Act.put, Act.eval]); intro B w5 hr5 hb5; have HR5 := hide (And.intro hr5 ((unhide HR4).2.trans hb5)); have HPF := hide ((unhide HP4).bel hb5); clear hr5 hb5)
            | (at_builtin; with_reducible refine elp_app s0 x2 ((unhide HJ).2.1.bel (unhide HR5).2) (Nat.le_trans (unhide HW) (unhide HR5).2.sz) B (unhide HR5).1 (unhide HLL) (.tmp 55) (.tmp 57) ?_ ?_ ?_ ?_ ?_; exact rfl; exact rfl; (first | exact rfl | simp [Act.put, Act.eval]); (first | exact rfl | simp [Act.put, Act.eval]); intro g cap w6 ho6 hg6; have HK := hide (And.intro ho6 hg6); clear ho6 hg6))
          go_roundg (gk - 1)
          case measure => omega
          case rel =>
            have q := unhide HJ
            have o7 := q.2.1.bel (unhide HR5).2
            refine ⟨j + 1, L ++ [(s0, x2)], by omega, by omega, congrArg (Value.int .i64) (by omega), hide ⟨?_, ?_, ?_, ?_, ?_⟩⟩
            · rw [List.map_append, q.1, news_succ, unhide HS0]; rfl
            · have := (unhide HK).1
              rwa [show (L ++ [(s0, x2)]).length = L.length + 1 by simp] at this
            · intro p hp
              rcases List.mem_append.1 hp with hp | hp
              · exact ((q.2.2.1 p hp).bel (unhide HR5).2).grown32 o7 (unhide HK).2
              · rw [List.mem_singleton.1 hp]
                exact ((unhide HPF).base (Nat.zero_le _)).grown32 o7 (unhide HK).2
            · exact (q.2.2.2.1.bel (unhide HR5).2).grown o7 (unhide HK).2 (show (3 : Nat) ≠ 32 by decide)
            · exact ((Ch.refl (fun i => W.heap.size ≤ i) _).grown (unhide HK).2 (fun j hj => Or.inl (o7.lt hj).1)).below' (q.2.2.2.2.trans (unhide HR5).2)
        · have hle : ¬ (j : Int) < i := by omega
          obtain rfl : j = i := by omega
          have hJ := unhide HJ
          have hlen : L.length = j := by have := congrArg List.length hJ.1; simpa [news] using this
          obtain ⟨a7, c7, g7, e7, h7, _, _⟩ := hJ.2.1.shape
          rw [hlen] at e7 h7
          obtain rfl := h7 (by omega)
          subst e7
          have HV0 : Hid (∀ o, o = Obj.map #[] 0 → Vs W j 0 g7 c7 wr.heap.size (.slice none 0 0) L [] (fun _ => 0) (fun _ _ => 0) (wr.alloc o)) := hide (fun o ho => by
            subst ho
            have hb : Bel wr (wr.alloc (.map #[] 0)) := (Bel.refl wr).alloc _
            refine ⟨?_, hJ.2.1.bel hb, fun q hq => (hJ.2.2.1 q hq).bel hb, El.O.nil _ _, Nat.zero_le _, Mg.new _ _ _, hJ.2.2.2.2.trans hb, hJ.2.2.2.2.sz⟩
            rw [hJ.1]
            exact inv0 hn1 (by omega))
          clear hJ hlen h7 HJ hle hj hgk2 hlt
          go_wp2_with fail
          generalize wr.heap.size = bM at *
          go_loopg [12, 13] 201 (fun gk v12 v13 wr => ∃ (k : Nat) (L : List (PP × Px)) (way : List PM) (ld : Int → Int) (V : Int → Int → Int), k ≤ 200 ∧ gk = 201 - k ∧ v13 = .int .i64 (k : Int) ∧ Hid (Vs W j k g7 c7 bM v12 L way ld V wr))
          case atStart => exact ⟨0, L, [], _, _, Nat.zero_le _, rfl, rfl, hide ((unhide HV0) _ rfl)⟩
          case round =>
            obtain ⟨k, L, way, ld, V, hk, hgk3, rfl, HJ⟩ := hrel
            by_cases hkS : k < S.length ∧ k < 200
            · obtain ⟨hkS1, hkS2⟩ := hkS
              have hi1 : (k : Int) < S.length := by omega
              have hi2 : (k : Int) < 200 := by omega
              obtain rfl := (unhide HA) (by omega)
              obtain ⟨r0, r1, r2, r3⟩ := (unhide HS) k hkS1
              replace r0 := (unhide HJ).bel.cell r0
              replace r1 := (unhide HJ).bel.cell r1
              replace r2 := (unhide HJ).bel.cell r2
              replace r3 := (unhide HJ).bel.cell r3
              generalize S[k].op = op at *
              generalize S[k].a = za at *
              generalize S[k].n = zn at *
              generalize S[k].keep = kp at *
              obtain ⟨ma, hma, hmab⟩ := i64_mask za 65535 (by decide)
              obtain ⟨mn, hmn, hmnb⟩ := i64_mask zn 65535 (by decide)
              have hma' : bits .and .i64 za 65535 = (ma : Int) := hmab
              have hmn' : bits .and .i64 zn 65535 = (mn : Int) := hmnb
              obtain ⟨q, hq, hqe⟩ : ∃ q : Nat, q < j ∧ (ma : Int).tmod (j : Int) = (q : Int) := ⟨ma % j, Nat.mod_lt _ (by omega), by rw [Int.tmod_eq_emod_of_nonneg (by omega)]; omega⟩
              have hqe' : (ma : Int) % (j : Int) = (q : Int) := by rw [← Int.tmod_eq_emod_of_nonneg (by omega)]; exact hqe
              have hj0 : ((j : Int) == 0) = false := beq_eq_false_iff_ne.2 (by omega)
              have hqj : (q : Int) < j := by omega
              have HQL : Hid (q < L.length) := hide (by rw [(unhide HJ).len]; exact hq)
              clear hmab hmnb
              obtain ⟨s0, z0, hsz⟩ : ∃ s0 z0, L[q]'(unhide HQL) = (s0, z0) := ⟨_, _, rfl⟩
              have HSZ := hide hsz
              clear hsz
              go_upto_block 6 with (first
                | (with_reducible refine elp_ld (.tmp 84) g7 q ((unhide HJ).row.bel ((Bel.refl wr).alloc _)) (unhide HQL) ?_ ?_ ?_ ?_; exact rfl; exact rfl; simp [Act.eval]; rw [unhide HSZ])
                | (with_reducible refine bxp_new ?_ ?_ ?_; exact rfl; exact rfl; intro b w3 hr3 hs3 hb3; have HR3 := hide (And.intro hr3 (And.intro hs3 hb3)); clear hr3 hs3 hb3)
                | (with_reducible refine bxp_st (.tmp 19) (.tmp 85) b j s0 z0 (unhide HR3).1 ?_ ?_ ?_ ?_ ?_; exact rfl; exact rfl; (first | exact rfl | simp [Act.put, Act.eval]); (first | exact rfl | simp [Act.put, Act.eval]); intro w4 hr4 hc4; have hb4 := bel_off (unhide HR3).2.2 hc4 (Nat.le_of_eq (unhide HR3).2.1); have c0 : w4.cell? ⟨wr.heap.size, 0, none⟩ = some (.int .i64 op) := cell_of (hb4.row (at_new wr _)); have c3 : w4.cell? ⟨wr.heap.size, 3, none⟩ = some (.bool kp) := cell_of (hb4.row (at_new wr _)); have HV := hide ((unhide HJ).next (((Bel.refl wr).alloc _).trans hb4)); have HGE : Hid (wr.heap.size ≤ b) := hide (Nat.le_trans ((Bel.refl wr).alloc _).sz (Nat.le_of_eq (unhide HR3).2.1)); have HR4 := hide (And.intro hr4 (show b ≠ g7 from fun e => by have h1 := ((unhide HJ).row.lt (k := g7) rfl).2; have h2 := (unhide HR3).2.1; have h3 := ((Bel.refl wr).alloc (.cells #[.int .i64 op, .int .i64 za, .int .i64 zn, .bool kp] 39)).sz; omega)); clear hr4 hc4 hb4 HR3))
              go_cut [12, 15, 16, 17, 18, 20] (fun v12 v15 v16 v17 v18 v20 wx => ∃ (q : Nat) (L : List (PP × Px)) (way : List PM) (ld : Int → Int) (V : Int → Int → Int) (aO : Option Addr) (mO cO : Nat) (out : List PM) (s0 : PP) (z0 : Px), v15 = .int .i64 (q : Int) ∧ v17 = .slice aO mO cO ∧ v18 = .int .i64 0 ∧ Hid (Vx W j k g7 c7 bM b q v12 L way ld V (.slice aO mO cO) out s0 z0 wx))
              case first =>
                by_cases h0 : op = 0
                · as_aux_lemma =>
                  subst h0
                  have HT := hide (tick_st (unhide HV) (by omega) hk (unhide HQL) (unhide HSZ) (mn : Int) (by omega))
                  go_wp2_with (first
                    | (with_reducible refine elp_ld (.tmp 115) g7 q (unhide HV).row (unhide HQL) ?_ ?_ ?_ ?_; exact rfl; exact rfl; simp [Act.eval]; rw [unhide HSZ])
                    | (go_at_call 7; refine (unhide HT).mono ?_; rintro e w5 ⟨s1, x1, aO, mO, cO, out, rfl, hst⟩; have HST := hide hst; clear hst)
                    | (with_reducible refine elp_st (.tmp 122) (.tmp 119) g7 q s1 x1 ((unhide HV).row.bel (unhide HST).bel) (unhide HQL) ?_ ?_ ?_ ?_ ?_; exact rfl; exact rfl; simp [Act.eval]; (first | exact rfl | simp [Act.eval]); intro w6 ho6 hc6; have HX := hide (Vx.mk0 (unhide HV) (unhide HQL) (unhide HSZ) (unhide HST) ho6 hc6 (unhide HR4).1 (unhide HR4).2); clear ho6 hc6))
                  go_meet
                  case rel =>
                    obtain ⟨V', hx⟩ := unhide HX
                    exact ⟨q, _, way, ld, V', aO, mO, cO, out, s0, z0, rfl, rfl, rfl, hide hx⟩
                · by_cases h12 : op = 1 ∨ op = 2
                  · obtain ⟨aW, cW, gW, e12, hW12, _, hcW⟩ := (unhide HV).wo.shape
                    subst e12
                    have HBB : Hid (W.heap.size ≤ b) := hide (by have h1 := (unhide HJ).bel.sz; have h2 := unhide HGE; omega)
                    by_cases hl0 : way.length = 0
                    · as_aux_lemma =>
                      have hz : ((way.length : Int) == 0) = true := by simp [hl0]
                      clear hl0 hW12 hcW
                      rcases h12 with rfl | rfl
                      all_goals
                        go_wp2_with fail
                        go_roundg (gk - 1)
                        case measure => omega
                        case rel => exact ⟨k + 1, L, way, ld, V, by omega, by omega, congrArg (Value.int .i64) (by omega), hide (unhide HV).idle⟩
                    · obtain rfl := hW12 hl0
                      obtain ⟨r, hr, hre⟩ : ∃ r : Nat, r < way.length ∧ (mn : Int).tmod (way.length : Int) = (r : Int) := ⟨mn % way.length, Nat.mod_lt _ (by omega), by rw [Int.tmod_eq_emod_of_nonneg (by omega)]; omega⟩
                      have hre' : (mn : Int) % (way.length : Int) = (r : Int) := by rw [← Int.tmod_eq_emod_of_nonneg (by omega)]; exact hre
                      have hz : ((way.length : Int) == 0) = false := beq_eq_false_iff_ne.2 (by omega)
                      have hrl : (r : Int) < way.length := by omega
                      have HRL := hide hr
                      obtain ⟨m, hm⟩ : ∃ m, way[r]'(unhide HRL) = m := ⟨_, rfl⟩
                      have HMW := hide (And.intro hm (show m ∈ way by rw [← hm]; exact List.getElem_mem _))
                      have hmt := ((unhide HV).inv.msg m (unhide HMW).2).t
                      obtain ⟨q2, hq2, htq⟩ : ∃ q2 : Nat, q2 < j ∧ m.to = (q2 : Int) + 1 := ⟨(m.to - 1).toNat, by omega, by omega⟩
                      have HTQ := hide htq
                      have HQ2 : Hid (q2 < L.length) := hide (by rw [(unhide HV).len]; exact hq2)
                      obtain ⟨s2, z2, hs2⟩ : ∃ s2 z2, L[q2]'(unhide HQ2) = (s2, z2) := ⟨_, _, rfl⟩
                      have HS2 := hide hs2
                      have HTO : Hid (m.to = s2.id) := hide (by have := ((unhide HV).ok q2 (unhide HQ2)).2; rw [hs2] at this; rw [htq, this])
                      have hq2j : (q2 : Int) < j := by omega
                      clear hm hmt htq hs2 hr hl0 hW12 hcW
                      rcases h12 with rfl | rfl
                      · cases kp
                        · skip
                          go_upto_region 38 with (first
                            | (with_reducible refine elm_ldM (.tmp 135) gW r m (unhide HV).wo (unhide HRL) (unhide HMW).1 ?_ ?_ ?_ ?_; exact rfl; exact rfl; simp [Act.eval])
                            | (with_reducible refine bxm_new ?_ ?_ ?_; exact rfl; exact rfl; intro b3 w5 hr5 hs5 hb5; have HM5 := hide (And.intro hr5 (And.intro hs5 hb5)); clear hr5 hs5 hb5)
                            | (with_reducible refine bxm_st (.tmp 20) (.tmp 136) b3 m (unhide HM5).1 ?_ ?_ ?_ ?_ ?_; exact rfl; exact rfl; (first | exact rfl | simp [Act.put, Act.eval]); (first | exact rfl | simp [Act.put, Act.eval]); intro w6 hr6 hc6; have hb6 := bel_off (unhide HM5).2.2 hc6 (Nat.le_of_eq (unhide HM5).2.1); replace c0 := hb6.cell c0; replace c3 := hb6.cell c3; have mc2 : w6.cell? ⟨b3, 2, none⟩ = some (.int .i64 ((q2 : Int) + 1)) := (by rw [← unhide HTQ]; exact (Bm.of hr6).c2); have HV6 := hide ((unhide HV).next hb6); have HB6 := hide hr6; have HR6 := hide (And.intro (hb6.row (unhide HR4).1) (And.intro (unhide HR4).2 (unhide HBB))); have HNB : Hid (b3 ≠ b) := hide (fun e => by have h1 := lt_of_some (unhide HR4).1; have h2 := (unhide HM5).2.1; omega); clear hr6 hc6 hb6 HM5))
                          try go_frame
                          refine rg38 (gW := gW) (cW := cW) (r := r) (fun _ _ x _ _ h => by cases x <;> exact h) rfl (by simp [Act.eval]) (by simp [Act.eval]) (unhide HRL) (unhide HV6) ?_
                          intro adz v1 v2 w7 hb7 hv7
                          replace c0 := hb7.cell c0
                          replace mc2 := hb7.cell mc2
                          have HV7 := hide hv7
                          have HB7 := hide (hb7.row (unhide HB6))
                          have HR7 := hide (And.intro (hb7.row (unhide HR6).1) (unhide HR6).2)
                          clear hb7 hv7
                          try simp only [puts]
                          go_upto_region 42 with (first
                            | (with_reducible refine elp_ld (.tmp 162) g7 q2 (unhide HV7).row (unhide HQ2) ?_ ?_ ?_ ?_; exact rfl; exact rfl; simp [Act.eval]; rw [unhide HS2])
                            | (with_reducible refine bxp_st (.tmp 19) (.tmp 163) b j s2 z2 (unhide HR7).1 ?_ ?_ ?_ ?_ ?_; exact rfl; exact rfl; (first | exact rfl | simp [Act.put, Act.eval]); (first | exact rfl | simp [Act.put, Act.eval]); intro w8 hr8 hc8; have HV8 := hide ((unhide HV7).boxed (unhide HR7).1 (unhide HR7).2.1 (unhide HR7).2.2 hc8); have HB8 := hide (hc8.row (unhide HB7) (unhide HNB)); have HR8 := hide hr8; clear hr8 hc8))
                          try go_frame
                          refine rg42 (b3 := b3) (m := m) (q := q2) (s0 := s2) (z0 := z2) (fun _ _ x _ _ h => by cases x <;> exact h) rfl (by simp [Act.eval]) (by simp [Act.eval]) (by simp [Act.eval]) hq2 (unhide HB8) (unhide HV8) (unhide HQ2) (unhide HS2) (by omega) hk (unhide HTO) (unhide HV) (unhide HMW).2 ?_ ?_
                          all_goals
                            intro s1 x1 aO mO cO out w5 w6 hst ho6 hc6
                            have HX := hide (Vx.mk0 ((unhide HV8).next (Bel.refl w8).drew) (unhide HQ2) (unhide HS2) hst ho6 hc6 ((Bel.refl w8).drew.row (unhide HR8)) (unhide HR7).2.1)
                            clear hst ho6 hc6
                            try simp only [puts]
                            go_wp2_with fail
                            go_meet
                            obtain ⟨V', hx⟩ := unhide HX
                            exact ⟨q2, _, _, ld, V', aO, mO, cO, out, s2, z2, rfl, rfl, rfl, hide hx⟩
                        · as_aux_lemma =>
                          go_upto_region 42 with (first
                            | (with_reducible refine elm_ldM (.tmp 135) gW r m (unhide HV).wo (unhide HRL) (unhide HMW).1 ?_ ?_ ?_ ?_; exact rfl; exact rfl; simp [Act.eval])
                            | (with_reducible refine bxm_new ?_ ?_ ?_; exact rfl; exact rfl; intro b3 w5 hr5 hs5 hb5; have HM5 := hide (And.intro hr5 (And.intro hs5 hb5)); clear hr5 hs5 hb5)
                            | (with_reducible refine bxm_st (.tmp 20) (.tmp 136) b3 m (unhide HM5).1 ?_ ?_ ?_ ?_ ?_; exact rfl; exact rfl; (first | exact rfl | simp [Act.put, Act.eval]); (first | exact rfl | simp [Act.put, Act.eval]); intro w6 hr6 hc6; have hb6 := bel_off (unhide HM5).2.2 hc6 (Nat.le_of_eq (unhide HM5).2.1); replace c0 := hb6.cell c0; replace c3 := hb6.cell c3; have mc2 : w6.cell? ⟨b3, 2, none⟩ = some (.int .i64 ((q2 : Int) + 1)) := (by rw [← unhide HTQ]; exact (Bm.of hr6).c2); have HV6 := hide ((unhide HV).next hb6); have HB6 := hide hr6; have HR6 := hide (And.intro (hb6.row (unhide HR4).1) (And.intro (unhide HR4).2 (unhide HBB))); have HNB : Hid (b3 ≠ b) := hide (fun e => by have h1 := lt_of_some (unhide HR4).1; have h2 := (unhide HM5).2.1; omega); clear hr6 hc6 hb6 HM5)
                            | (with_reducible refine elp_ld (.tmp 162) g7 q2 (unhide HV6).row (unhide HQ2) ?_ ?_ ?_ ?_; exact rfl; exact rfl; simp [Act.eval]; rw [unhide HS2])
                            | (with_reducible refine bxp_st (.tmp 19) (.tmp 163) b j s2 z2 (unhide HR6).1 ?_ ?_ ?_ ?_ ?_; exact rfl; exact rfl; (first | exact rfl | simp [Act.put, Act.eval]); (first | exact rfl | simp [Act.put, Act.eval]); intro w8 hr8 hc8; have HV8 := hide ((unhide HV6).boxed (unhide HR6).1 (unhide HR6).2.1 (unhide HR6).2.2 hc8); have HB8 := hide (hc8.row (unhide HB6) (unhide HNB)); have HR8 := hide hr8; clear hr8 hc8))
                          try go_frame
                          refine rg42 (b3 := b3) (m := m) (q := q2) (s0 := s2) (z0 := z2) (fun _ _ x _ _ h => by cases x <;> exact h) rfl (by simp [Act.eval]) (by simp [Act.eval]) (by simp [Act.eval]) hq2 (unhide HB8) (unhide HV8) (unhide HQ2) (unhide HS2) (by omega) hk (unhide HTO) (unhide HV) (unhide HMW).2 ?_ ?_
                          all_goals
                            intro s1 x1 aO mO cO out w5 w6 hst ho6 hc6
                            have HX := hide (Vx.mk0 ((unhide HV8).next (Bel.refl w8).drew) (unhide HQ2) (unhide HS2) hst ho6 hc6 ((Bel.refl w8).drew.row (unhide HR8)) (unhide HR6).2.1)
                            clear hst ho6 hc6
                            try simp only [puts]
                            go_wp2_with fail
                            go_meet
                            obtain ⟨V', hx⟩ := unhide HX
                            exact ⟨q2, _, _, ld, V', aO, mO, cO, out, s2, z2, rfl, rfl, rfl, hide hx⟩
                      · skip
                        go_upto_region 38 with (first
                          | (with_reducible refine elm_ldM (.tmp 135) gW r m (unhide HV).wo (unhide HRL) (unhide HMW).1 ?_ ?_ ?_ ?_; exact rfl; exact rfl; simp [Act.eval])
                          | (with_reducible refine bxm_new ?_ ?_ ?_; exact rfl; exact rfl; intro b3 w5 hr5 hs5 hb5; have HM5 := hide (And.intro hr5 (And.intro hs5 hb5)); clear hr5 hs5 hb5)
                          | (with_reducible refine bxm_st (.tmp 20) (.tmp 136) b3 m (unhide HM5).1 ?_ ?_ ?_ ?_ ?_; exact rfl; exact rfl; (first | exact rfl | simp [Act.put, Act.eval]); (first | exact rfl | simp [Act.put, Act.eval]); intro w6 hr6 hc6; have hb6 := bel_off (unhide HM5).2.2 hc6 (Nat.le_of_eq (unhide HM5).2.1); replace c0 := hb6.cell c0; replace c3 := hb6.cell c3; have mc2 : w6.cell? ⟨b3, 2, none⟩ = some (.int .i64 ((q2 : Int) + 1)) := (by rw [← unhide HTQ]; exact (Bm.of hr6).c2); have HV6 := hide ((unhide HV).next hb6); have HB6 := hide hr6; have HR6 := hide (And.intro (hb6.row (unhide HR4).1) (And.intro (unhide HR4).2 (unhide HBB))); have HNB : Hid (b3 ≠ b) := hide (fun e => by have h1 := lt_of_some (unhide HR4).1; have h2 := (unhide HM5).2.1; omega); clear hr6 hc6 hb6 HM5))
                        try go_frame
                        refine rg38 (gW := gW) (cW := cW) (r := r) (fun _ _ x _ _ h => by cases x <;> exact h) rfl (by simp [Act.eval]) (by simp [Act.eval]) (unhide HRL) (unhide HV6) ?_
                        intro adz v1 v2 w7 hb7 hv7
                        replace c0 := hb7.cell c0
                        have HV7 := hide hv7
                        clear hb7 hv7
                        try simp only [puts]
                        go_wp2_with fail
                        go_roundg (gk - 1)
                        case measure => omega
                        case rel => exact ⟨k + 1, L, _, ld, V, by omega, by omega, congrArg (Value.int .i64) (by omega), hide (unhide HV7).idle⟩
                  · as_aux_lemma =>
                    have n0 : (op == 0) = false := by simp [h0]
                    have n1 : (op == 1) = false := by simp; omega
                    have n2 : (op == 2) = false := by simp; omega
                    clear h0 h12
                    obtain ⟨e1, he1, hb1⟩ := i64_mask (mn : Int) 1 (by decide)
                    have hb1' : bits .and .i64 (mn : Int) 1 = (e1 : Int) := hb1
                    clear hb1
                    go_upto_region 29 with fail
                    try go_frame
                    refine rg29 (q := q) (s0 := s0) (z0 := z0) (fun _ _ x _ _ h => by cases x <;> exact h) rfl (by simp [Act.eval]) (by simp [Act.eval]) (by simp [Act.eval]) hq hb1' he1 (unhide HV) (unhide HQL) (unhide HSZ) (by omega) hk ?_ ?_
                    all_goals
                      intro s1 x1 w5 w6 hst ho6 hc6
                      have HX := hide (Vx.mk0 ((unhide HV).next (Bel.refl w4).drew) (unhide HQL) (unhide HSZ) hst ho6 hc6 ((Bel.refl w4).drew.row (unhide HR4).1) (unhide HR4).2)
                      clear hst ho6 hc6
                      try simp only [puts]
                      go_wp2_with fail
                      go_meet
                      obtain ⟨V', hx⟩ := unhide HX
                      exact ⟨q, _, way, ld, V', none, 0, 0, [], s0, z0, rfl, rfl, rfl, hide hx⟩
              case rest =>
                obtain ⟨q, L, way, ld, V, aO, mO, cO, out, s0, z0, rfl, rfl, rfl, HX⟩ := hcut
                have hqj : (q : Int) < j := by have := (unhide HX).hq; rw [(unhide HX).vm.len] at this; omega
                have HQL := hide (unhide HX).hq
                obtain ⟨s1, x1, hsz⟩ : ∃ s1 x1, L[q]'(unhide HQL) = (s1, x1) := ⟨_, _, rfl⟩
                have HSZ := hide hsz
                clear hsz
                go_upto_region 44 with (first
                  | (with_reducible refine elp_ld (.tmp 179) g7 q (unhide HX).vm.row (unhide HQL) ?_ ?_ ?_ ?_; exact rfl; exact rfl; simp [Act.eval]; rw [unhide HSZ])
                  | (with_reducible refine bxp_new ?_ ?_ ?_; exact rfl; exact rfl; intro b2 w3 hr3 hs3 hb3; have HR3 := hide (And.intro hr3 (And.intro hs3 hb3)); clear hr3 hs3 hb3)
                  | (with_reducible refine bxp_st (.tmp 21) (.tmp 180) b2 j s1 x1 (unhide HR3).1 ?_ ?_ ?_ ?_ ?_; exact rfl; exact rfl; (first | exact rfl | simp [Act.put, Act.eval]); (first | exact rfl | simp [Act.put, Act.eval]); intro w5 hr5 hc5; have HX5 := hide (And.intro ((unhide HX).next (bel_off (unhide HR3).2.2 hc5 (Nat.le_of_eq (unhide HR3).2.1))) hr5); clear hr5 hc5 HR3))
                go_frame
                go_cut [213] (fun v213 wx => v213 = .bool false ∧ Hid (Vx W j k g7 c7 bM b q u12 L way ld V (.slice aO mO cO) out s0 z0 wx ∧ wx.heap[b2]? = some (.cells (pc j s1 x1) 32)))
                case first =>
                  have HM := hide ((unhide HX5).1.may (by omega) hk (unhide HSZ))
                  have hup : ¬ (s1.term < s0.term) := by have := (unhide HX5).1.up; rw [unhide HSZ] at this; exact Int.not_lt.2 this
                  have hup' : decide (s1.term < s0.term) = false := decide_eq_false hup
                  clear hup
                  have hkp : s1.term = s0.term → s0.vote ≠ 0 → s1.vote = s0.vote := by have := (unhide HX5).1.keep; rw [unhide HSZ] at this; exact this
                  have hcs : ((s1.term == s0.term) = false) ∨ ((s1.term == s0.term) = true ∧ (s0.vote != 0) = false) ∨ ((s1.term == s0.term) = true ∧ (s0.vote != 0) = true ∧ (s1.vote != s0.vote) = false) := by
                    by_cases e1 : s1.term = s0.term
                    · by_cases e2 : s0.vote = 0
                      · exact Or.inr (Or.inl ⟨by simp [e1], by simp [e2]⟩)
                      · exact Or.inr (Or.inr ⟨by simp [e1], by simp [e2], by simp [hkp e1 e2]⟩)
                    · exact Or.inl (by simp [e1])
                  clear hkp
                  rcases hcs with e1 | ⟨e1, e2⟩ | ⟨e1, e2, e3⟩
                  all_goals as_aux_lemma =>
                    go_wp2_with (first
                      | (with_reducible refine bxp_ldW (.tmp 21) b2 j s1 x1 (unhide HX5).2 ?_ ?_ ?_ ?_; exact rfl; kernel_rfl; simp [Act.eval])
                      | go_skip
                      | go_guarded
                      | (go_at_call 10; refine (unhide HM).mono ?_; rintro e w6 ⟨rfl, hb6⟩; have HX6 := hide (And.intro ((unhide HX5).1.next hb6) (hb6.row (unhide HX5).2)); have y2 := (Bx.of (unhide HX6).2).c2; have y3 := (Bx.of (unhide HX6).2).c3; have z2 := (Bx.of (unhide HX6).1.row).c2; have z3 := (Bx.of (unhide HX6).1.row).c3; clear hb6))
                    go_meet
                    exact ⟨rfl, HX6⟩
                case rest =>
                  obtain ⟨rfl, HX7⟩ := hcut
                  clear HX HX5
                  obtain ⟨aW, cW, gW, e12, hW12, _, _⟩ := (unhide HX7).1.vm.wo.shape
                  subst e12
                  have y0 := (Bx.of (unhide HX7).2).c0
                  have y2 := (Bx.of (unhide HX7).2).c2
                  have y4 := (Bx.of (unhide HX7).2).c4
                  have hok : Ok j (k + 1) (k + 1) s1 := by have := ((unhide HX7).1.vm.ok q (unhide HQL)).1; rw [unhide HSZ] at this; exact this
                  have hlk := (unhide HX7).1.vm.look hok.t0 (by have := hok.tT; omega)
                  have hid0 := hok.id1
                  by_cases hr : s1.role = 2
                  · obtain ⟨hnt, w8, ld8, hmu, hve⟩ := (unhide HX7).1.vm.noted (by omega) (unhide HQL) (by rw [unhide HSZ]; exact hr)
                    rw [unhide HSZ] at hnt hmu
                    have hmu' : (Instr.mapUpdate 36 (.map (some bM)) (.int .u64 s1.term) (.int .i64 s1.id)).run Try.prog wc = .ok () w8 := hmu
                    have HVE := hide hve
                    have hrr : (s1.role == 2) = true := by simp [hr]
                    clear hmu hve hok hr
                    have hcl : ((ld s1.term != 0) = false) ∨ ((ld s1.term != 0) = true ∧ (ld s1.term != s1.id) = false) := by
                      rcases hnt with e | e
                      · exact Or.inl (by simp [e])
                      · exact Or.inr ⟨by rw [e]; simp; omega, by simp [e]⟩
                    clear hnt hid0
                    rcases hcl with e1 | ⟨e1, e2⟩
                    all_goals
                      by_cases hw : way.length < 200
                      · as_aux_lemma =>
                        have hw' : (way.length : Int) < 200 := by omega
                        go_wp2_with (first
                          | go_skip
                          | go_guarded
                          | (at_builtin; with_reducible refine elm_app (unhide HVE).wo (unhide HVE).bel.sz (unhide HVE).oo (unhide HVE).ol (unhide HVE).wl (.tmp 239) (.tmp 240) ?_ ?_ ?_ ?_ ?_; exact rfl; exact rfl; simp [Act.eval]; simp [Act.eval]; intro v9 w9 ho9 hg9; have HVN := hide ((unhide HVE).join (Nat.le_of_lt hw) ho9 hg9); clear ho9 hg9))
                        go_roundg (gk - 1)
                        case measure => omega
                        case rel => exact ⟨k + 1, L, _, ld8, V, by omega, by omega, congrArg (Value.int .i64) (by omega), HVN⟩
                      · as_aux_lemma =>
                        have hw' : ¬ (way.length : Int) < 200 := by omega
                        go_wp2_with (first | go_skip | go_guarded)
                        go_roundg (gk - 1)
                        case measure => omega
                        case rel => exact ⟨k + 1, L, way, ld8, V, by omega, by omega, congrArg (Value.int .i64) (by omega), hide (unhide HVE).skip⟩
                  · have hrr : (s1.role == 2) = false := by simp [hr]
                    have HVE := hide (unhide HX7).1.vm.ve
                    clear hok hr hid0 hlk
                    by_cases hw : way.length < 200
                    · as_aux_lemma =>
                      have hw' : (way.length : Int) < 200 := by omega
                      go_wp2_with (first
                        | (at_builtin; with_reducible refine elm_app (unhide HVE).wo (unhide HVE).bel.sz (unhide HVE).oo (unhide HVE).ol (unhide HVE).wl (.tmp 239) (.tmp 240) ?_ ?_ ?_ ?_ ?_; exact rfl; exact rfl; simp [Act.eval]; simp [Act.eval]; intro v9 w9 ho9 hg9; have HVN := hide ((unhide HVE).join (Nat.le_of_lt hw) ho9 hg9); clear ho9 hg9))
                      go_roundg (gk - 1)
                      case measure => omega
                      case rel => exact ⟨k + 1, L, _, ld, V, by omega, by omega, congrArg (Value.int .i64) (by omega), HVN⟩
                    · as_aux_lemma =>
                      have hw' : ¬ (way.length : Int) < 200 := by omega
                      go_wp2_with fail
                      go_roundg (gk - 1)
                      case measure => omega
                      case rel => exact ⟨k + 1, L, way, ld, V, by omega, by omega, congrArg (Value.int .i64) (by omega), hide (unhide HVE).skip⟩
            · as_aux_lemma =>
              have hX : (¬ (k : Int) < S.length) ∨ ((k : Int) < S.length ∧ ¬ (k : Int) < 200) := by omega
              rcases hX with e1 | ⟨e1, e2⟩
              · go_wp2_with (first | go_skip | go_guarded)
                go_ret
                exact ⟨rfl, (unhide HJ).bel⟩
              · go_wp2_with (first | go_skip | go_guarded)
                go_ret
                exact ⟨rfl, (unhide HJ).bel⟩
end Go.Proofs.Ythipgcojbhcdgaa
