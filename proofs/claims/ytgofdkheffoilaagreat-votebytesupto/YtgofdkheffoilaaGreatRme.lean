/- Read of the program; Bytes of what may not be. -/
import Derived.Test.YtgofdkheffoilaaGreatRmg
namespace Go.Proofs.YtgofdkheffoilaaGreat
open Go.RowKit Go.Maps
theorem Gr.mono {base base' : Nat} {w : World} {m : GM} {x : GX} (h : Gr base w m x) (hb : base' ≤ base) : Gr base' w m x := ⟨h.e, h.l.mono hb, h.g.mono hb, h.m.mono hb⟩
theorem Gr.none (base : Nat) (w : World) : Gr base w gz gzx := ⟨rfl, El.O.nil _ _, (fun x hx => by simp [gzx] at hx), El.O.nil _ _⟩
theorem pmsg_facts (s : ByteArray) (f : Bool) : (pmsg s f).1.ents.length ≤ 16 ∧ (pmsg s f).1.mem.length ≤ 64 ∧ (pmsg s f).1.snap.size ≤ s.size ∧ ∀ e ∈ (pmsg s f).1.ents, e.m.length ≤ 64 ∧ e.d.size ≤ s.size := by
  unfold pmsg
  have f0 := (pbyte_facts 5 s f).2
  generalize pbyte 5 s f = q0 at *
  obtain ⟨v0, s0, g0⟩ := q0
  simp only at f0 ⊢
  have f1 := (pupto_facts 64 s0 g0).2
  generalize pupto 64 s0 g0 = q1 at *
  obtain ⟨v1, s1, g1⟩ := q1
  simp only at f1 ⊢
  have f2 := (pupto_facts 64 s1 g1).2
  generalize pupto 64 s1 g1 = q2 at *
  obtain ⟨v2, s2, g2⟩ := q2
  simp only at f2 ⊢
  have f3 := (pnum_facts s2 g2).2
  generalize pnum s2 g2 = q3 at *
  obtain ⟨v3, s3, g3⟩ := q3
  simp only at f3 ⊢
  have f4 := (pnum_facts s3 g3).2
  generalize pnum s3 g3 = q4 at *
  obtain ⟨v4, s4, g4⟩ := q4
  simp only at f4 ⊢
  have f5 := (pnum_facts s4 g4).2
  generalize pnum s4 g4 = q5 at *
  obtain ⟨v5, s5, g5⟩ := q5
  simp only at f5 ⊢
  have f6 := (pnum_facts s5 g5).2
  generalize pnum s5 g5 = q6 at *
  obtain ⟨v6, s6, g6⟩ := q6
  simp only at f6 ⊢
  have f7 := (pnum_facts s6 g6).2
  generalize pnum s6 g6 = q7 at *
  obtain ⟨v7, s7, g7⟩ := q7
  simp only at f7 ⊢
  have f8 := (pbyte_facts 1 s7 g7).2
  generalize pbyte 1 s7 g7 = q8 at *
  obtain ⟨v8, s8, g8⟩ := q8
  simp only at f8 ⊢
  have f9 := pents_facts 16 s8 g8
  generalize pents 16 s8 g8 = q9 at *
  obtain ⟨v9, s9, g9⟩ := q9
  simp only at f9 ⊢
  have f10 := pids_facts s9 g9
  generalize pids s9 g9 = q10 at *
  obtain ⟨v10, s10, g10⟩ := q10
  simp only at f10 ⊢
  have f11 := (ptext_facts s10 g10).1
  generalize ptext s10 g10 = q11 at *
  obtain ⟨v11, s11, g11⟩ := q11
  simp only at f11 ⊢
  refine ⟨f9.2.1, f10.1, by omega, fun e he => ⟨(f9.2.2 e he).1, ?_⟩⟩
  have := (f9.2.2 e he).2
  omega
/-- The program reads a message in these bytes. -/
def okP (s : ByteArray) : Bool := (!(pmsg s false).2.2 && decide ((pmsg s false).2.1.size = 0)) && mayMB (pmsg s false).1
def rdP (s : ByteArray) : GM := if okP s then (pmsg s false).1 else gz
/-- The answer's box, the message's box and the reader. -/
structure Rd (W w : World) (b0 b5 br : Nat) (s : ByteArray) (f : Bool) (m : GM) (x : GX) : Prop where
  row0 : w.heap[b0]? = some (.cells (mg gz gzx) 27)
  row : w.heap[b5]? = some (.cells (mg m x) 27)
  r : Rst w br s f
  gr : Gr W.heap.size w m x
  bel : Bel W w
  ge0 : W.heap.size ≤ b0
  ge5 : W.heap.size ≤ b5
  ne : b0 ≠ b5
theorem Rd.next {W w w' : World} {b0 b5 br : Nat} {s : ByteArray} {f : Bool} {m : GM} {x : GX} (h : Rd W w b0 b5 br s f m x) (hb : Bel w w') : Rd W w' b0 b5 br s f m x := ⟨hb.row h.row0, hb.row h.row, h.r.bel hb, h.gr.bel hb, h.bel.trans hb, h.ge0, h.ge5, h.ne⟩
set_option maxRecDepth 100000 in
set_option maxHeartbeats 4000000 in
theorem read_any (s : ByteArray) (hs : s.size ≤ 1000000000) (W : World) : Calls Tryz.prog 7 #[.string s] W fun e w' => ∃ x, e = .returned (.tuple #[.agg (mg (rdP s) x), .int .i64 (if okP s then 0 else 2)]) ∧ Gr W.heap.size w' (rdP s) x ∧ Bel W w' := by
  have HN : Hid (∀ W', Calls Tryz.prog 27 #[.string s] W' fun e w' => ∃ b, e = .returned (.pointer (some ⟨b, 0, none⟩)) ∧ W'.heap.size = b ∧ Rst w' b s false ∧ Bel W' w') := hide (fun W' => newReader_any s W')
  have HM : Hid (∀ W' b, Rst W' b s false → Calls Tryz.prog 28 #[.pointer (some ⟨b, 0, none⟩)] W' fun e w' => ∃ x, e = .returned (.agg (mg (pmsg s false).1 x)) ∧ Gr W'.heap.size w' (pmsg s false).1 x ∧ Rst w' b (pmsg s false).2.1 (pmsg s false).2.2 ∧ Ch (fun i => i = b) W' w') := hide (fun W' b hr => readMsg_any hr (by omega))
  have hf := pmsg_facts s false
  have HY : Hid (∀ W' x base, Gr base W' (pmsg s false).1 x → Calls Tryz.prog 19 #[.agg (mg (pmsg s false).1 x)] W' fun e w' => e = .returned (.int .i64 (if mayMB (pmsg s false).1 then 0 else 2)) ∧ Bel W' w') := hide (fun W' x base h => maymsg_any h.gw (by omega) (by omega) (fun y hy => by
    have := (hf.2.2.2 y.1 (by rw [← h.e]; exact List.mem_map.2 ⟨y, hy, rfl⟩)).1
    omega))
  unfold rdP okP
  clear hf hs
  generalize pmsg s false = r at *
  obtain ⟨m, s1, g1⟩ := r
  simp only at HM HY ⊢
  have HE : Hid (∀ W' b, Rst W' b s1 g1 → Calls Tryz.prog 29 #[.pointer (some ⟨b, 0, none⟩)] W' fun e w' => e = .returned (.bool (!g1 && decide (s1.size = 0))) ∧ Bel W' w') := hide (fun W' b h => ended_any h)
  generalize (!g1 && decide (s1.size = 0)) = eb at *
  generalize mayMB m = mb at *
  cases eb
  · go_enter Tryz.func7, Tryz.ntmps7
    go_wp2_with (first
      | go_skip
      | (refine bx_new rfl 27 rfl _ zeroM ?_; intro b5 w3 hr3 hs3 hb3; have HB := hide (And.intro hr3 (And.intro (show W.heap.size ≤ b5 by have := (unhide HG).2.2.2.1.size; omega) (And.intro (show b0 ≠ b5 from fun e => by have := lt_of_some (unhide HG).1; omega) (And.intro (hb3.row (unhide HG).1) (And.intro ((unhide HG).2.1.bel hb3) (And.intro ((unhide HG).2.2.1.bel hb3) (And.intro ((unhide HG).2.2.2.1.trans hb3) (And.intro (unhide HG).2.2.2.2 (show br ≠ b5 from fun e => by have := lt_of_some (unhide HG).2.1; omega))))))))); clear hr3 hs3 hb3 HG)
      | (refine bx_st rfl 27 (.tmp 5) (.tmp 9) rfl b5 _ _ rfl rfl (unhide HB).1 (szM _ _) rfl (mg_one _ _) ?_; intro w4 hr4 hc4; have HD : Hid (Rd W w4 b0 b5 br s1 g1 m x) := hide ⟨hc4.row (unhide HB).2.2.2.1 (unhide HB).2.2.1, hr4, hc4.row (unhide HB).2.2.2.2.1 (unhide HB).2.2.2.2.2.2.2.2, (unhide HB).2.2.2.2.2.1.bx ⟨_, (unhide HB).1⟩ hc4, bel_off (unhide HB).2.2.2.2.2.2.1 hc4 (unhide HB).2.1, (unhide HB).2.2.2.2.2.2.2.1, (unhide HB).2.1, (unhide HB).2.2.1⟩; clear hr4 hc4 HB)
      | (refine bx_new rfl 27 rfl _ zeroM ?_; intro b0 w0 hr0 hs0 hb0; have HA := hide (And.intro hr0 (And.intro hb0 (Nat.le_of_eq hs0))); clear hr0 hs0 hb0)
      | (go_at_call 27; refine ((unhide HN) _).mono ?_; rintro e w1 ⟨br, rfl, hbr, hr1, hb1⟩; replace HA := hide (And.intro (hb1.row (unhide HA).1) (And.intro ((unhide HA).2.1.trans hb1) (And.intro (unhide HA).2.2 (And.intro hr1 (And.intro (show W.heap.size ≤ br by have := (unhide HA).2.1.size; omega) (show b0 ≠ br from fun e => by have := lt_of_some (unhide HA).1; omega)))))); clear hr1 hb1 hbr)
      | (go_at_call 28; refine ((unhide HM) _ _ (unhide HA).2.2.2.1).mono ?_; rintro e w2 ⟨x, rfl, hg2, hr2, hc2⟩; have HG := hide (And.intro (hc2.row (unhide HA).1 (unhide HA).2.2.2.2.2) (And.intro hr2 (And.intro (hg2.mono (unhide HA).2.1.size) (And.intro (bel_off (unhide HA).2.1 hc2 (unhide HA).2.2.2.2.1) (unhide HA).2.2.1)))); clear hg2 hr2 hc2 HA)
      | (go_at_call 29; refine ((unhide HE) _ _ (unhide HD).r).mono ?_; rintro e w5 ⟨rfl, hb5⟩; replace HD := hide ((unhide HD).next hb5); clear hb5)
      | (refine ld_w 27 (.tmp 5) (by exact rfl) b5 (by exact rfl) (by exact rfl) _ _ (unhide HD).row Tryz.underlying27 (szM _ _) ?_)
      | (go_at_call 19; refine ((unhide HY) _ _ _ (unhide HD).gr).mono ?_; rintro e w6 ⟨rfl, hb6⟩; replace HD := hide ((unhide HD).next hb6); clear hb6)
      | (refine bx_st rfl 27 (.tmp 2) (.tmp 18) rfl b0 (mg gz gzx) _ rfl rfl (unhide HD).row0 (szM _ _) rfl (mg_one _ _) ?_; intro w7 hr7 hc7; have HZ := hide (And.intro hr7 (bel_off (unhide HD).bel hc7 (unhide HD).ge0)); clear hr7 hc7)
      | go_guarded)
    exact bodyPost_ret (res2 (p := 2) (q := 3) rfl Tryz.underlying27 (szM _ _) (unhide HZ).1 _ _ rfl rfl) rfl ⟨gzx, rfl, Gr.none _ _, (unhide HZ).2⟩
  · cases mb
    · go_enter Tryz.func7, Tryz.ntmps7
      go_wp2_with (first
        | go_skip
        | (refine bx_new rfl 27 rfl _ zeroM ?_; intro b5 w3 hr3 hs3 hb3; have HB := hide (And.intro hr3 (And.intro (show W.heap.size ≤ b5 by have := (unhide HG).2.2.2.1.size; omega) (And.intro (show b0 ≠ b5 from fun e => by have := lt_of_some (unhide HG).1; omega) (And.intro (hb3.row (unhide HG).1) (And.intro ((unhide HG).2.1.bel hb3) (And.intro ((unhide HG).2.2.1.bel hb3) (And.intro ((unhide HG).2.2.2.1.trans hb3) (And.intro (unhide HG).2.2.2.2 (show br ≠ b5 from fun e => by have := lt_of_some (unhide HG).2.1; omega))))))))); clear hr3 hs3 hb3 HG)
        | (refine bx_st rfl 27 (.tmp 5) (.tmp 9) rfl b5 _ _ rfl rfl (unhide HB).1 (szM _ _) rfl (mg_one _ _) ?_; intro w4 hr4 hc4; have HD : Hid (Rd W w4 b0 b5 br s1 g1 m x) := hide ⟨hc4.row (unhide HB).2.2.2.1 (unhide HB).2.2.1, hr4, hc4.row (unhide HB).2.2.2.2.1 (unhide HB).2.2.2.2.2.2.2.2, (unhide HB).2.2.2.2.2.1.bx ⟨_, (unhide HB).1⟩ hc4, bel_off (unhide HB).2.2.2.2.2.2.1 hc4 (unhide HB).2.1, (unhide HB).2.2.2.2.2.2.2.1, (unhide HB).2.1, (unhide HB).2.2.1⟩; clear hr4 hc4 HB)
        | (refine bx_new rfl 27 rfl _ zeroM ?_; intro b0 w0 hr0 hs0 hb0; have HA := hide (And.intro hr0 (And.intro hb0 (Nat.le_of_eq hs0))); clear hr0 hs0 hb0)
        | (go_at_call 27; refine ((unhide HN) _).mono ?_; rintro e w1 ⟨br, rfl, hbr, hr1, hb1⟩; replace HA := hide (And.intro (hb1.row (unhide HA).1) (And.intro ((unhide HA).2.1.trans hb1) (And.intro (unhide HA).2.2 (And.intro hr1 (And.intro (show W.heap.size ≤ br by have := (unhide HA).2.1.size; omega) (show b0 ≠ br from fun e => by have := lt_of_some (unhide HA).1; omega)))))); clear hr1 hb1 hbr)
        | (go_at_call 28; refine ((unhide HM) _ _ (unhide HA).2.2.2.1).mono ?_; rintro e w2 ⟨x, rfl, hg2, hr2, hc2⟩; have HG := hide (And.intro (hc2.row (unhide HA).1 (unhide HA).2.2.2.2.2) (And.intro hr2 (And.intro (hg2.mono (unhide HA).2.1.size) (And.intro (bel_off (unhide HA).2.1 hc2 (unhide HA).2.2.2.2.1) (unhide HA).2.2.1)))); clear hg2 hr2 hc2 HA)
        | (go_at_call 29; refine ((unhide HE) _ _ (unhide HD).r).mono ?_; rintro e w5 ⟨rfl, hb5⟩; replace HD := hide ((unhide HD).next hb5); clear hb5)
        | (refine ld_w 27 (.tmp 5) (by exact rfl) b5 (by exact rfl) (by exact rfl) _ _ (unhide HD).row Tryz.underlying27 (szM _ _) ?_)
        | (go_at_call 19; refine ((unhide HY) _ _ _ (unhide HD).gr).mono ?_; rintro e w6 ⟨rfl, hb6⟩; replace HD := hide ((unhide HD).next hb6); clear hb6)
        | (refine bx_st rfl 27 (.tmp 2) (.tmp 18) rfl b0 (mg gz gzx) _ rfl rfl (unhide HD).row0 (szM _ _) rfl (mg_one _ _) ?_; intro w7 hr7 hc7; have HZ := hide (And.intro hr7 (bel_off (unhide HD).bel hc7 (unhide HD).ge0)); clear hr7 hc7)
        | go_guarded)
      exact bodyPost_ret (res2 (p := 2) (q := 3) rfl Tryz.underlying27 (szM _ _) (unhide HZ).1 _ _ rfl rfl) rfl ⟨gzx, rfl, Gr.none _ _, (unhide HZ).2⟩
    · go_enter Tryz.func7, Tryz.ntmps7
      go_wp2_with (first
        | go_skip
        | (refine bx_new rfl 27 rfl _ zeroM ?_; intro b5 w3 hr3 hs3 hb3; have HB := hide (And.intro hr3 (And.intro (show W.heap.size ≤ b5 by have := (unhide HG).2.2.2.1.size; omega) (And.intro (show b0 ≠ b5 from fun e => by have := lt_of_some (unhide HG).1; omega) (And.intro (hb3.row (unhide HG).1) (And.intro ((unhide HG).2.1.bel hb3) (And.intro ((unhide HG).2.2.1.bel hb3) (And.intro ((unhide HG).2.2.2.1.trans hb3) (And.intro (unhide HG).2.2.2.2 (show br ≠ b5 from fun e => by have := lt_of_some (unhide HG).2.1; omega))))))))); clear hr3 hs3 hb3 HG)
        | (refine bx_st rfl 27 (.tmp 5) (.tmp 9) rfl b5 _ _ rfl rfl (unhide HB).1 (szM _ _) rfl (mg_one _ _) ?_; intro w4 hr4 hc4; have HD : Hid (Rd W w4 b0 b5 br s1 g1 m x) := hide ⟨hc4.row (unhide HB).2.2.2.1 (unhide HB).2.2.1, hr4, hc4.row (unhide HB).2.2.2.2.1 (unhide HB).2.2.2.2.2.2.2.2, (unhide HB).2.2.2.2.2.1.bx ⟨_, (unhide HB).1⟩ hc4, bel_off (unhide HB).2.2.2.2.2.2.1 hc4 (unhide HB).2.1, (unhide HB).2.2.2.2.2.2.2.1, (unhide HB).2.1, (unhide HB).2.2.1⟩; clear hr4 hc4 HB)
        | (refine bx_new rfl 27 rfl _ zeroM ?_; intro b0 w0 hr0 hs0 hb0; have HA := hide (And.intro hr0 (And.intro hb0 (Nat.le_of_eq hs0))); clear hr0 hs0 hb0)
        | (go_at_call 27; refine ((unhide HN) _).mono ?_; rintro e w1 ⟨br, rfl, hbr, hr1, hb1⟩; replace HA := hide (And.intro (hb1.row (unhide HA).1) (And.intro ((unhide HA).2.1.trans hb1) (And.intro (unhide HA).2.2 (And.intro hr1 (And.intro (show W.heap.size ≤ br by have := (unhide HA).2.1.size; omega) (show b0 ≠ br from fun e => by have := lt_of_some (unhide HA).1; omega)))))); clear hr1 hb1 hbr)
        | (go_at_call 28; refine ((unhide HM) _ _ (unhide HA).2.2.2.1).mono ?_; rintro e w2 ⟨x, rfl, hg2, hr2, hc2⟩; have HG := hide (And.intro (hc2.row (unhide HA).1 (unhide HA).2.2.2.2.2) (And.intro hr2 (And.intro (hg2.mono (unhide HA).2.1.size) (And.intro (bel_off (unhide HA).2.1 hc2 (unhide HA).2.2.2.2.1) (unhide HA).2.2.1)))); clear hg2 hr2 hc2 HA)
        | (go_at_call 29; refine ((unhide HE) _ _ (unhide HD).r).mono ?_; rintro e w5 ⟨rfl, hb5⟩; replace HD := hide ((unhide HD).next hb5); clear hb5)
        | (refine ld_w 27 (.tmp 5) (by exact rfl) b5 (by exact rfl) (by exact rfl) _ _ (unhide HD).row Tryz.underlying27 (szM _ _) ?_)
        | (go_at_call 19; refine ((unhide HY) _ _ _ (unhide HD).gr).mono ?_; rintro e w6 ⟨rfl, hb6⟩; replace HD := hide ((unhide HD).next hb6); clear hb6)
        | (refine bx_st rfl 27 (.tmp 2) (.tmp 19) rfl b0 _ _ rfl rfl (unhide HD).row0 (szM _ _) rfl (mg_one _ _) ?_; intro w7 hr7 hc7; have HZ := hide (And.intro hr7 (And.intro (bel_off (unhide HD).bel hc7 (unhide HD).ge0) ((unhide HD).gr.bx ⟨_, (unhide HD).row0⟩ hc7))); clear hr7 hc7)
        | go_guarded)
      exact bodyPost_ret (res2 (p := 2) (q := 3) rfl Tryz.underlying27 (szM _ _) (unhide HZ).1 _ _ rfl rfl) rfl ⟨_, rfl, (unhide HZ).2.2, (unhide HZ).2.1⟩
set_option maxRecDepth 100000 in
theorem bytes_no {W : World} {m : GM} {x : GX} (hmay : ∀ W', Bel W W' → Calls Tryz.prog 19 #[.agg (mg m x)] W' fun e w' => e = .returned (.int .i64 2) ∧ Bel W' w') :
    Calls Tryz.prog 6 #[.agg (mg m x)] W fun e w' => e = .returned (.tuple #[.string ⟨#[]⟩, .int .i64 2]) ∧ Bel W w' := by
  have HM := hide hmay
  clear hmay
  go_enter Tryz.func6, Tryz.ntmps6
  go_wp2_with (first
    | go_skip
    | (refine bx_box rfl 27 _ rfl (mg m x) rfl ?_; intro b w0 hr0 hs0 hb0; have HZ := hide (And.intro hr0 hb0); clear hr0 hs0 hb0)
    | (refine bx_ld rfl 27 (.tmp 1) rfl b rfl _ _ (unhide HZ).1 Tryz.underlying27 (szM _ _) ?_)
    | (go_at_call 19; refine ((unhide HM) _ (unhide HZ).2).mono ?_; rintro e w1' ⟨rfl, hb1⟩; replace HZ := hide (And.intro (hb1.row (unhide HZ).1) ((unhide HZ).2.trans hb1)); clear hb1))
  go_ret2
  exact ⟨rfl, (unhide HZ).2⟩
end Go.Proofs.YtgofdkheffoilaaGreat
