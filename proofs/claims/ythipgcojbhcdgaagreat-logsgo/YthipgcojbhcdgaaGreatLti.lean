/- Tick of a member with a log. -/
import Derived.Test.YthipgcojbhcdgaaGreatLbe
import Derived.Test.YthipgcojbhcdgaaGreatLtk
namespace Go.Proofs.YthipgcojbhcdgaaGreat
open Go.RowKit Go.Maps Go.Sort
/-- Messages of votes, as any. -/
theorem Mo.of_pm {base : Nat} {w : World} {v : Value} {L : List PM} (h : E44.O base w v L) (hi : ∀ m ∈ L, 0 ≤ m.index) : Mo base w v (L.map PM.q) := by
  refine ⟨L.map fun m => (m.q, none, 0), by rw [List.map_map]; rfl, ?_, fun q hq => ?_⟩
  · have e : E27q.fl (L.map fun m => (m.q, none, 0)) = E44.fl L := by
      clear h
      induction L with
      | nil => rfl
      | cons m L ih =>
        unfold El.fl at *
        rw [List.map_cons, List.flatMap_cons, List.flatMap_cons, ih (fun x hx => hi x (List.mem_cons_of_mem _ hx))]
        congr 1
        have := mc_q m (hi m (by simp))
        show (qc m.q none 0).toList = encM m
        rw [← this]; rfl
    unfold El.O
    rw [e, List.length_map]
    exact h
  · obtain ⟨m, hm, rfl⟩ := List.mem_map.1 hq
    exact ⟨El.O.nil _ _, fun _ => rfl⟩
theorem Mo.box {base : Nat} {w w' : World} {v : Value} {ms : List QM} {b : Nat} {c : Array Value} (h : Mo base w v ms) (hr : w.heap[b]? = some (.cells c 56)) (hc : Ch (fun k => k = b) w w') : Mo base w' v ms := by
  obtain ⟨qs, h1, h2, h3⟩ := h
  exact ⟨qs, h1, h2.box hr (by decide) hc, fun q hq => ⟨(h3 q hq).1.box hr (by decide) hc, (h3 q hq).2⟩⟩
theorem Mo.low {base base' : Nat} {w : World} {v : Value} {ms : List QM} (h : Mo base w v ms) (hb : base' ≤ base) : Mo base' w v ms := by
  obtain ⟨qs, h1, h2, h3⟩ := h
  exact ⟨qs, h1, h2.mono hb, fun q hq => ⟨(h3 q hq).1.mono hb, (h3 q hq).2⟩⟩
theorem Pf.same {base : Nat} {W : World} {n : Nat} {s s' : PP} {x : Px} (h : Pf base W n s x) (h1 : s'.log = s.log) (h2 : s'.votes = s.votes) (h3 : s'.fol = s.fol) : Pf base W n s' x := ⟨h.m, h.b, by rw [h1]; exact h.l, by rw [h2]; exact h.v, by rw [h3]; exact h.f, by rw [h2]; exact h.dv⟩
theorem beat_lists (s : PP) : s.beat.1.log = s.log ∧ s.beat.1.votes = s.votes ∧ s.beat.1.fol = s.fol := by
  unfold PP.beat
  split <;> exact ⟨rfl, rfl, rfl⟩
theorem adv_ok {n T G : Nat} {s : PP} (h : Ok n T G s) : Ok n T G s.adv := by
  have hmo := most_ok h
  have hcm := h.com
  have hc : s.adv.commit ≤ s.log.length := by
    show (if tAt s.log (most s.have).toNat = s.term then max s.commit (most s.have).toNat else s.commit) ≤ s.log.length
    split <;> omega
  exact { h with com := hc }
section
variable {W : World} {n T G T1 G1 : Nat} {s : PP} {x : Px}
set_option maxRecDepth 100000 in
set_option maxHeartbeats 4000000 in
theorem ltick_any (h : Pq W n s x) (hok : Ok n T G s) (hn : n ≤ 64) (hT : T ≤ 1000000) (hG : G ≤ 999999) (draw : Int) (hd : 0 ≤ draw) (hok1 : Ok n T1 G1 (s.tick n draw).1) (hG1 : G1 ≤ 999999) (hix : ∀ m ∈ (s.tick n draw).2, 0 ≤ m.index) : Calls Tryz.prog 42 #[.agg (pc n s x), .int .i64 draw] W fun e w' => ∃ x' aA cA, e = .returned (.tuple #[.agg (pc n (s.ltick n draw).1 x'), .slice aA (s.ltick n draw).2.length cA, .int .i64 0]) ∧ Pf W.heap.size w' n (s.ltick n draw).1 x' ∧ Mo W.heap.size w' (.slice aA (s.ltick n draw).2.length cA) (s.ltick n draw).2 ∧ Bel W w' := by
  obtain ⟨s1, hs1⟩ : ∃ s1, s1 = (s.tick n draw).1 := ⟨_, rfl⟩
  obtain ⟨l1, hl1⟩ : ∃ l1, l1 = (s.tick n draw).2 := ⟨_, rfl⟩
  have HT : Hid (∀ W', Bel W W' → Calls Tryz.prog 18 #[.agg (pc n s x), .int .i64 draw] W' fun e w' => ∃ x' aA cA, e = .returned (.tuple #[.agg (pc n s1 x'), .slice aA l1.length cA, .int .i64 0]) ∧ Pf W.heap.size w' n s1 x' ∧ Mo W.heap.size w' (.slice aA l1.length cA) (l1.map PM.q) ∧ Bel W' w') := hide (fun W' hb => by
    have := tick_any (h.bel hb) hok hn hT hG draw hd
    rw [← hs1, ← hl1] at this
    exact this.mono (fun _ _ ⟨x', aA, cA, he, hf, hm, hb'⟩ => ⟨x', aA, cA, he, ⟨hf.m.mono hb.size, hf.b.mono hb.size, hf.l.mono hb.size, hf.v.mono hb.size, hf.f.mono hb.size, hf.dv⟩, (Mo.of_pm hm (by rw [hl1]; exact hix)).low hb.size, hb'⟩))
  have hid : s1.id ∈ mem n := by rw [hs1]; exact mem_iff.2 ⟨hok1.id1, hok1.idn⟩
  rw [← hs1] at hok1
  have H4 : Hid (∀ W' x', Pw W' n s1 x' → Calls Tryz.prog 49 #[.agg (pc n s1 x')] W' fun e w' => e = .returned (.agg (pc n s1.adv x')) ∧ Bel W' w') := hide (fun W' x' hp => adv_any hp hn hid (by have := hok1.glen; omega) (fol_len hok1 hn) (most_ok hok1))
  by_cases hr1 : s1.role = 2
  · have e2 : (s1.role != 2) = false := by simp [hr1]
    have e3 : (s1.role == 2) = true := by simp [hr1]
    by_cases hr : s.role = 2
    · have HE : Hid (s.ltick n draw = s1.adv.beat) := hide (by unfold PP.ltick; rw [← hs1, if_pos hr1, if_pos hr])
      have e1 : (s.role == 2) = true := by simp [hr]
      have hokA : Ok n T1 G1 s1.adv := adv_ok hok1
      have HBT : Hid (∀ W' x', Bel W W' → Pf W.heap.size W' n s1.adv x' → Calls Tryz.prog 71 #[.agg (pc n s1.adv x')] W' fun e w' => ∃ aA cA, e = .returned (.tuple #[.agg (pc n s1.adv.beat.1 x'), .slice aA s1.adv.beat.2.length cA]) ∧ Mo W'.heap.size w' (.slice aA s1.adv.beat.2.length cA) s1.adv.beat.2 ∧ Bel W' w') := hide (fun W' x' _ hp => beat_any hp.pq hokA hn hG1 hr1)
      have HBL := hide (beat_lists s1.adv)
      clear h hok hn hT hG hd hr hok1 hG1 hr1 hid hs1 hl1 hokA hix
      generalize l1.length = nA at *
      obtain ⟨nB, hnB⟩ : ∃ nB, nB = s1.adv.beat.2.length := ⟨_, rfl⟩
      rw [← hnB] at HBT
      have HNB := hide hnB
      clear hnB
      go_enter Tryz.func42, Tryz.ntmps42
      go_wp2_with (first
        | go_skip
        | go_guarded
        | (refine bx_box rfl 56 _ rfl (pc n s x) rfl ?_; intro b w0 hr0 hs0 hb0; have HR0 := hide hr0; have HB0 := hide (And.intro hb0 hs0); clear hr0 hs0 hb0)
        | (refine bx_new rfl 56 rfl _ Tryz.zero32 ?_; intro b2 w1 hr1 hs1 hb1; have HY : Hid (Ty W w1 b b2 n s x) := hide ⟨hb1.row (unhide HR0), (unhide HB0).1.trans hb1, ⟨_, _, _, hr1⟩, by have := (unhide HB0).2; omega, by have := (unhide HB0).1.size; omega, fun e => by have := lt_of_some (unhide HR0); omega⟩; have y4 := (Bx.of (unhide HY).row).c4; clear hr1 hs1 hb1 HR0 HB0)
        | (refine bx_ldG rfl 56 _ rfl b rfl _ _ (unhide HY).row Tryz.underlying56 (Tryz.size32 _ _ _) ?_)
        | (go_at_call 18; refine ((unhide HT) _ (unhide HY).bel).mono ?_; rintro e w3 ⟨x1, aA, cA, rfl, hf3, hm3, hb3⟩; have HF3 := hide hf3; replace HY := hide ((unhide HY).next hb3); clear hb3 hf3 hm3)
        | (refine bx_st rfl 56 (.tmp 2) _ rfl b (pc n s1 x1) _ rfl rfl (unhide HY).row (Tryz.size32 _ _ _) rfl (pc_one _ _ _) ?_; intro w4 hr4 hc4; have y4 := (Bx.of hr4).c4; have HZ : Hid (Tz W w4 b b2 n s1 x1) := hide ⟨hr4, (unhide HF3).box (unhide HY).row hc4, bel_off (unhide HY).bel hc4 (unhide HY).ge, ((unhide HY).set hr4 hc4).row2, (unhide HY).ge, (unhide HY).ge2, (unhide HY).ne⟩; clear hr4 hc4 HY HF3)
        | (go_at_call 49; refine ((unhide H4) _ _ (unhide HZ).pf.pw).mono ?_; rintro e w8 ⟨rfl, hb8⟩; replace HZ := hide ((unhide HZ).next hb8); clear hb8)
        | (refine bx_ldG rfl 56 _ rfl b rfl _ _ (unhide HZ).row Tryz.underlying56 (Tryz.size32 _ _ _) ?_)
        | (refine bx_st rfl 56 (.tmp 2) _ rfl b (pc n s1.adv x1) _ rfl rfl (unhide HZ).row (Tryz.size32 _ _ _) rfl (pc_one _ _ _) ?_; intro w5 hr5 hc5; have HA := hide ((unhide HZ).set (s' := s1.adv) (x' := x1) hr5 hc5 (by have p := (unhide HZ).pf.box (unhide HZ).row hc5; exact ⟨p.m, p.b, p.l, p.v, p.f, p.dv⟩)); clear hr5 hc5 HZ)
        | (refine bx_ldG rfl 56 _ rfl b rfl _ _ (unhide HA).row Tryz.underlying56 (Tryz.size32 _ _ _) ?_)
        | (go_at_call 71; refine ((unhide HBT) _ _ (unhide HA).bel (unhide HA).pf).mono ?_; rintro e wb ⟨aB, cB, rfl, hmb, hbb⟩; have HMB := hide (hmb.low (unhide HA).bel.size); replace HA := hide ((unhide HA).next hbb); clear hmb hbb)
        | (refine bx_st rfl 56 (.tmp 2) _ rfl b (pc n s1.adv.beat.1 x1) _ rfl rfl (unhide HA).row (Tryz.size32 _ _ _) rfl (pc_one _ _ _) ?_; intro wc hrc hcc; have HMB := hide ((unhide HMB).box (unhide HA).row hcc); have HD := hide ((unhide HA).set (s' := s1.adv.beat.1) (x' := x1) hrc hcc (((unhide HA).pf.box (unhide HA).row hcc).same (unhide HBL).1 (unhide HBL).2.1 (unhide HBL).2.2)); clear hrc hcc HA)
        | (refine bx_ldG rfl 56 _ rfl b rfl _ _ (unhide HD).row Tryz.underlying56 (Tryz.size32 _ _ _) ?_)
        | (obtain ⟨s2, x2, n2, h2⟩ := (unhide HD).row2; refine bx_st rfl 56 (.tmp 4) _ rfl b2 (pc n s1.adv.beat.1 x1) _ rfl rfl h2 (Tryz.size32 _ _ _) rfl (pc_one _ _ _) ?_; intro w9 hr9 hc9; have HR9 := hide (And.intro hr9 (And.intro ((unhide HD).pf.box h2 hc9) (And.intro (bel_off (unhide HD).bel hc9 (unhide HD).ge2) ((unhide HMB).box h2 hc9)))); clear hr9 hc9 h2))
      rw [unhide HE, ← unhide HNB]
      exact bodyPost_ret (res3 (p := 4) (q := 5) (r := 6) rfl Tryz.underlying56 (Tryz.size32 _ _ _) (unhide HR9).1 _ _ _ rfl rfl rfl) rfl ⟨_, _, _, rfl, (unhide HR9).2.1, (unhide HR9).2.2.2, (unhide HR9).2.2.1⟩
    · have HE : Hid (s.ltick n draw = (s1.adv, l1.map PM.q)) := hide (by unfold PP.ltick; rw [← hs1, ← hl1, if_pos hr1, if_neg hr])
      have e1 : (s.role == 2) = false := by simp [hr]
      clear h hok hn hT hG hd hr hok1 hG1 hr1 hid hs1 hl1 hix
      obtain ⟨nA, hnA⟩ : ∃ nA, nA = l1.length := ⟨_, rfl⟩
      rw [← hnA] at HT
      have HNA : Hid (nA = (l1.map PM.q).length) := hide (by rw [List.length_map]; exact hnA)
      clear hnA
      go_enter Tryz.func42, Tryz.ntmps42
      go_wp2_with (first
        | go_skip
        | go_guarded
        | (refine bx_box rfl 56 _ rfl (pc n s x) rfl ?_; intro b w0 hr0 hs0 hb0; have HR0 := hide hr0; have HB0 := hide (And.intro hb0 hs0); clear hr0 hs0 hb0)
        | (refine bx_new rfl 56 rfl _ Tryz.zero32 ?_; intro b2 w1 hr1 hs1 hb1; have HY : Hid (Ty W w1 b b2 n s x) := hide ⟨hb1.row (unhide HR0), (unhide HB0).1.trans hb1, ⟨_, _, _, hr1⟩, by have := (unhide HB0).2; omega, by have := (unhide HB0).1.size; omega, fun e => by have := lt_of_some (unhide HR0); omega⟩; have y4 := (Bx.of (unhide HY).row).c4; clear hr1 hs1 hb1 HR0 HB0)
        | (refine bx_ldG rfl 56 _ rfl b rfl _ _ (unhide HY).row Tryz.underlying56 (Tryz.size32 _ _ _) ?_)
        | (go_at_call 18; refine ((unhide HT) _ (unhide HY).bel).mono ?_; rintro e w3 ⟨x1, aA, cA, rfl, hf3, hm3, hb3⟩; have HF3 := hide hf3; have HMB := hide hm3; replace HY := hide ((unhide HY).next hb3); clear hb3 hf3 hm3)
        | (refine bx_st rfl 56 (.tmp 2) _ rfl b (pc n s1 x1) _ rfl rfl (unhide HY).row (Tryz.size32 _ _ _) rfl (pc_one _ _ _) ?_; intro w4 hr4 hc4; have y4 := (Bx.of hr4).c4; have HMB := hide ((unhide HMB).box (unhide HY).row hc4); have HZ : Hid (Tz W w4 b b2 n s1 x1) := hide ⟨hr4, (unhide HF3).box (unhide HY).row hc4, bel_off (unhide HY).bel hc4 (unhide HY).ge, ((unhide HY).set hr4 hc4).row2, (unhide HY).ge, (unhide HY).ge2, (unhide HY).ne⟩; clear hr4 hc4 HY HF3)
        | (go_at_call 49; refine ((unhide H4) _ _ (unhide HZ).pf.pw).mono ?_; rintro e w8 ⟨rfl, hb8⟩; have HMB := hide ((unhide HMB).bel hb8); replace HZ := hide ((unhide HZ).next hb8); clear hb8)
        | (refine bx_ldG rfl 56 _ rfl b rfl _ _ (unhide HZ).row Tryz.underlying56 (Tryz.size32 _ _ _) ?_)
        | (refine bx_st rfl 56 (.tmp 2) _ rfl b (pc n s1.adv x1) _ rfl rfl (unhide HZ).row (Tryz.size32 _ _ _) rfl (pc_one _ _ _) ?_; intro w5 hr5 hc5; have HMB := hide ((unhide HMB).box (unhide HZ).row hc5); have HD := hide ((unhide HZ).set (s' := s1.adv) (x' := x1) hr5 hc5 (by have p := (unhide HZ).pf.box (unhide HZ).row hc5; exact ⟨p.m, p.b, p.l, p.v, p.f, p.dv⟩)); clear hr5 hc5 HZ)
        | (refine bx_ldG rfl 56 _ rfl b rfl _ _ (unhide HD).row Tryz.underlying56 (Tryz.size32 _ _ _) ?_)
        | (obtain ⟨s2, x2, n2, h2⟩ := (unhide HD).row2; refine bx_st rfl 56 (.tmp 4) _ rfl b2 (pc n s1.adv x1) _ rfl rfl h2 (Tryz.size32 _ _ _) rfl (pc_one _ _ _) ?_; intro w9 hr9 hc9; have HR9 := hide (And.intro hr9 (And.intro ((unhide HD).pf.box h2 hc9) (And.intro (bel_off (unhide HD).bel hc9 (unhide HD).ge2) ((unhide HMB).box h2 hc9)))); clear hr9 hc9 h2))
      rw [unhide HE, ← unhide HNA]
      exact bodyPost_ret (res3 (p := 4) (q := 5) (r := 6) rfl Tryz.underlying56 (Tryz.size32 _ _ _) (unhide HR9).1 _ _ _ rfl rfl rfl) rfl ⟨_, _, _, rfl, (unhide HR9).2.1, (unhide HR9).2.2.2, (unhide HR9).2.2.1⟩
  · have HE : Hid (s.ltick n draw = (s1, l1.map PM.q)) := hide (by unfold PP.ltick; rw [← hs1, ← hl1, if_neg hr1])
    have e2 : (s1.role != 2) = true := by simp [hr1]
    have e3 : (s1.role == 2) = false := by simp [hr1]
    clear h hok hn hT hG hd hok1 hG1 hr1 hid hs1 hl1 hix H4
    obtain ⟨nA, hnA⟩ : ∃ nA, nA = l1.length := ⟨_, rfl⟩
    rw [← hnA] at HT
    have HNA : Hid (nA = (l1.map PM.q).length) := hide (by rw [List.length_map]; exact hnA)
    clear hnA
    generalize hld : (s.role == 2) = ld
    go_enter Tryz.func42, Tryz.ntmps42
    go_wp2_with (first
      | go_skip
      | go_guarded
      | (refine bx_box rfl 56 _ rfl (pc n s x) rfl ?_; intro b w0 hr0 hs0 hb0; have HR0 := hide hr0; have HB0 := hide (And.intro hb0 hs0); clear hr0 hs0 hb0)
      | (refine bx_new rfl 56 rfl _ Tryz.zero32 ?_; intro b2 w1 hr1 hs1 hb1; have HY : Hid (Ty W w1 b b2 n s x) := hide ⟨hb1.row (unhide HR0), (unhide HB0).1.trans hb1, ⟨_, _, _, hr1⟩, by have := (unhide HB0).2; omega, by have := (unhide HB0).1.size; omega, fun e => by have := lt_of_some (unhide HR0); omega⟩; have y4 := (Bx.of (unhide HY).row).c4; clear hr1 hs1 hb1 HR0 HB0)
      | (refine bx_ldG rfl 56 _ rfl b rfl _ _ (unhide HY).row Tryz.underlying56 (Tryz.size32 _ _ _) ?_)
      | (go_at_call 18; refine ((unhide HT) _ (unhide HY).bel).mono ?_; rintro e w3 ⟨x1, aA, cA, rfl, hf3, hm3, hb3⟩; have HF3 := hide hf3; have HMB := hide hm3; replace HY := hide ((unhide HY).next hb3); clear hb3 hf3 hm3)
      | (refine bx_st rfl 56 (.tmp 2) _ rfl b (pc n s1 x1) _ rfl rfl (unhide HY).row (Tryz.size32 _ _ _) rfl (pc_one _ _ _) ?_; intro w4 hr4 hc4; have y4 := (Bx.of hr4).c4; have HMB := hide ((unhide HMB).box (unhide HY).row hc4); have HD : Hid (Tz W w4 b b2 n s1 x1) := hide ⟨hr4, (unhide HF3).box (unhide HY).row hc4, bel_off (unhide HY).bel hc4 (unhide HY).ge, ((unhide HY).set hr4 hc4).row2, (unhide HY).ge, (unhide HY).ge2, (unhide HY).ne⟩; clear hr4 hc4 HY HF3)
      | (refine bx_ldG rfl 56 _ rfl b rfl _ _ (unhide HD).row Tryz.underlying56 (Tryz.size32 _ _ _) ?_)
      | (obtain ⟨s2, x2, n2, h2⟩ := (unhide HD).row2; refine bx_st rfl 56 (.tmp 4) _ rfl b2 (pc n s1 x1) _ rfl rfl h2 (Tryz.size32 _ _ _) rfl (pc_one _ _ _) ?_; intro w9 hr9 hc9; have HR9 := hide (And.intro hr9 (And.intro ((unhide HD).pf.box h2 hc9) (And.intro (bel_off (unhide HD).bel hc9 (unhide HD).ge2) ((unhide HMB).box h2 hc9)))); clear hr9 hc9 h2))
    rw [unhide HE, ← unhide HNA]
    exact bodyPost_ret (res3 (p := 4) (q := 5) (r := 6) rfl Tryz.underlying56 (Tryz.size32 _ _ _) (unhide HR9).1 _ _ _ rfl rfl rfl) rfl ⟨_, _, _, rfl, (unhide HR9).2.1, (unhide HR9).2.2.2, (unhide HR9).2.2.1⟩
end
end Go.Proofs.YthipgcojbhcdgaaGreat
