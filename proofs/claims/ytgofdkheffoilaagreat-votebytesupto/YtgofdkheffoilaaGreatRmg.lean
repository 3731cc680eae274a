/- readMsg and Read of the program. -/
import Derived.Test.YtgofdkheffoilaaGreatWrm
import Derived.Test.YtgofdkheffoilaaGreatRdy
namespace Go.Proofs.YtgofdkheffoilaaGreat
open Go.RowKit Go.Maps
/-- A message behind the front of the bytes. -/
def pmsg (s : ByteArray) (f : Bool) : GM × ByteArray × Bool :=
  let r0 := pbyte 5 s f
  let r1 := pupto 64 r0.2.1 r0.2.2
  let r2 := pupto 64 r1.2.1 r1.2.2
  let r3 := pnum r2.2.1 r2.2.2
  let r4 := pnum r3.2.1 r3.2.2
  let r5 := pnum r4.2.1 r4.2.2
  let r6 := pnum r5.2.1 r5.2.2
  let r7 := pnum r6.2.1 r6.2.2
  let r8 := pbyte 1 r7.2.1 r7.2.2
  let r9 := pents 16 r8.2.1 r8.2.2
  let r10 := pids r9.2.1 r9.2.2
  let r11 := ptext r10.2.1 r10.2.2
  (⟨(r0.1 : Int), (r1.1 : Int), (r2.1 : Int), (r3.1 : Int), (r4.1 : Int), (r5.1 : Int), (r6.1 : Int), (r7.1 : Int), decide ((r8.1 : Int) = 1), r9.1, r10.1, r11.1⟩, r11.2)
theorem pentsN_facts : ∀ (n : Nat) (s : ByteArray) (f : Bool), (pentsN n s f).1.length ≤ n ∧ (pentsN n s f).2.1.size ≤ s.size ∧ ∀ e ∈ (pentsN n s f).1, e.m.length ≤ 64 ∧ e.d.size ≤ s.size
  | 0, s, f => ⟨Nat.le_refl _, Nat.le_refl _, fun e he => by simp [pentsN] at he⟩
  | n + 1, s, f => by
    have h1 := pent_facts s f
    have h2 := pentsN_facts n (pent s f).2.1 (pent s f).2.2
    unfold pentsN
    split
    · exact ⟨Nat.zero_le _, Nat.le_refl _, fun e he => by simp at he⟩
    · refine ⟨Nat.succ_le_succ h2.1, Nat.le_trans h2.2.1 h1.2.2, fun e he => ?_⟩
      rcases List.mem_cons.1 he with rfl | he
      · exact ⟨h1.1, h1.2.1⟩
      · exact ⟨(h2.2.2 e he).1, Nat.le_trans (h2.2.2 e he).2 h1.2.2⟩
theorem pents_facts (m : Nat) (s : ByteArray) (f : Bool) : (pents m s f).2.1.size ≤ s.size ∧ (pents m s f).1.length ≤ m ∧ ∀ e ∈ (pents m s f).1, e.m.length ≤ 64 ∧ e.d.size ≤ s.size := by
  have h1 := pupto_facts m s f
  have h2 := pentsN_facts (pupto m s f).1 (pupto m s f).2.1 (pupto m s f).2.2
  unfold pents
  exact ⟨Nat.le_trans h2.2.1 h1.2, Nat.le_trans h2.1 h1.1, fun e he => ⟨(h2.2.2 e he).1, Nat.le_trans (h2.2.2 e he).2 h1.2⟩⟩
/-- A message in its box, beside a reader. -/
structure Mr (W w : World) (b b2 : Nat) (s : ByteArray) (f : Bool) (m : GM) (x : GX) : Prop where
  r : Rst w b s f
  row : w.heap[b2]? = some (.cells (mg m x) 27)
  ch : Ch (fun i => i = b) W w
  lt : b < W.heap.size
  ge : W.heap.size ≤ b2
section
variable {W w w' : World} {b b2 : Nat} {s s' : ByteArray} {f f' : Bool} {m m' : GM} {x x' : GX}
theorem Mr.read (h : Mr W w b b2 s f m x) (hr : Rst w' b s' f') (hc : Ch (fun i => i = b) w w') : Mr W w' b b2 s' f' m x := ⟨hr, hc.row h.row (by have := h.lt; have := h.ge; omega), Ch.one h.ch hc, h.lt, h.ge⟩
theorem Mr.set (h : Mr W w b b2 s f m x) (hr : w'.heap[b2]? = some (.cells (mg m' x') 27)) (hc : Ch (fun i => i = b2) w w') : Mr W w' b b2 s f m' x' := ⟨hc.row h.r (by have := h.lt; have := h.ge; omega), hr, h.ch.trans hc (fun i hi => Or.inr (by rw [hi]; exact h.ge)), h.lt, h.ge⟩
end
/-- A message that was read: its lists are rows of their own. -/
structure Gr (base : Nat) (w : World) (m : GM) (x : GX) : Prop where
  e : x.ls.map (·.1) = m.ents
  l : EG.O base w (.slice x.ea m.ents.length x.ec) x.ls
  g : Gn base w x.ls
  m : E3.O base w (.slice x.ma m.mem.length x.mc) m.mem
theorem Gr.bel {base : Nat} {w w' : World} {m : GM} {x : GX} (h : Gr base w m x) (hb : Bel w w') : Gr base w' m x := ⟨h.e, h.l.bel hb, h.g.bel hb, h.m.bel hb⟩
theorem Gr.bx {base b : Nat} {w w' : World} {m : GM} {x : GX} (h : Gr base w m x) (hr : ∃ c, w.heap[b]? = some (.cells c 27)) (hc : Ch (fun k => k = b) w w') : Gr base w' m x := by
  obtain ⟨c, hr⟩ := hr
  exact ⟨h.e, h.l.bx hr (by decide) hc, h.g.bx hr (by decide) hc, h.m.bx hr (by decide) hc⟩
theorem Gr.gw {base : Nat} {w : World} {m : GM} {x : GX} (h : Gr base w m x) : Gw w m x := ⟨h.e, (Sl.of h.l).1, h.g.gm, (Sl.of h.m).1⟩
set_option maxRecDepth 100000 in
set_option maxHeartbeats 4000000 in
theorem readMsg_any {W : World} {b : Nat} {s : ByteArray} {f : Bool} (h : Rst W b s f) (hs : s.size ≤ 150000000000000) : Calls Tryz.prog 28 #[.pointer (some ⟨b, 0, none⟩)] W fun e w' => ∃ x, e = .returned (.agg (mg (pmsg s f).1 x)) ∧ Gr W.heap.size w' (pmsg s f).1 x ∧ Rst w' b (pmsg s f).2.1 (pmsg s f).2.2 ∧ Ch (fun i => i = b) W w' := by
  unfold pmsg
  have HR := hide h
  have H0 : Hid (∀ W', Rst W' b s f → Calls Tryz.prog 64 #[.pointer (some ⟨b, 0, none⟩), .int .u8 5] W' fun e w' => e = .returned (.int .u8 ((pbyte 5 s f).1 : Int)) ∧ Rst w' b (pbyte 5 s f).2.1 (pbyte 5 s f).2.2 ∧ Ch (fun i => i = b) W' w') := hide (fun W' hr => rbyte_any hr (by omega) 5)
  have f0 := (pbyte_facts 5 s f).2
  generalize pbyte 5 s f = q0 at *
  obtain ⟨v0, s0, g0⟩ := q0
  simp only at H0 f0 ⊢
  have H1 : Hid (∀ W', Rst W' b s0 g0 → Calls Tryz.prog 65 #[.pointer (some ⟨b, 0, none⟩)] W' fun e w' => e = .returned (.int .i64 ((pupto 64 s0 g0).1 : Int)) ∧ Rst w' b (pupto 64 s0 g0).2.1 (pupto 64 s0 g0).2.2 ∧ Ch (fun i => i = b) W' w') := hide (fun W' hr => id_any hr (by omega))
  have f1 := (pupto_facts 64 s0 g0).2
  generalize pupto 64 s0 g0 = q1 at *
  obtain ⟨v1, s1, g1⟩ := q1
  simp only at H1 f1 ⊢
  have H2 : Hid (∀ W', Rst W' b s1 g1 → Calls Tryz.prog 65 #[.pointer (some ⟨b, 0, none⟩)] W' fun e w' => e = .returned (.int .i64 ((pupto 64 s1 g1).1 : Int)) ∧ Rst w' b (pupto 64 s1 g1).2.1 (pupto 64 s1 g1).2.2 ∧ Ch (fun i => i = b) W' w') := hide (fun W' hr => id_any hr (by omega))
  have f2 := (pupto_facts 64 s1 g1).2
  generalize pupto 64 s1 g1 = q2 at *
  obtain ⟨v2, s2, g2⟩ := q2
  simp only at H2 f2 ⊢
  have H3 : Hid (∀ W', Rst W' b s2 g2 → Calls Tryz.prog 66 #[.pointer (some ⟨b, 0, none⟩)] W' fun e w' => e = .returned (.int .u64 ((pnum s2 g2).1 : Int)) ∧ Rst w' b (pnum s2 g2).2.1 (pnum s2 g2).2.2 ∧ Ch (fun i => i = b) W' w') := hide (fun W' hr => rnum_any hr (by omega))
  have f3 := (pnum_facts s2 g2).2
  generalize pnum s2 g2 = q3 at *
  obtain ⟨v3, s3, g3⟩ := q3
  simp only at H3 f3 ⊢
  have H4 : Hid (∀ W', Rst W' b s3 g3 → Calls Tryz.prog 66 #[.pointer (some ⟨b, 0, none⟩)] W' fun e w' => e = .returned (.int .u64 ((pnum s3 g3).1 : Int)) ∧ Rst w' b (pnum s3 g3).2.1 (pnum s3 g3).2.2 ∧ Ch (fun i => i = b) W' w') := hide (fun W' hr => rnum_any hr (by omega))
  have f4 := (pnum_facts s3 g3).2
  generalize pnum s3 g3 = q4 at *
  obtain ⟨v4, s4, g4⟩ := q4
  simp only at H4 f4 ⊢
  have H5 : Hid (∀ W', Rst W' b s4 g4 → Calls Tryz.prog 66 #[.pointer (some ⟨b, 0, none⟩)] W' fun e w' => e = .returned (.int .u64 ((pnum s4 g4).1 : Int)) ∧ Rst w' b (pnum s4 g4).2.1 (pnum s4 g4).2.2 ∧ Ch (fun i => i = b) W' w') := hide (fun W' hr => rnum_any hr (by omega))
  have f5 := (pnum_facts s4 g4).2
  generalize pnum s4 g4 = q5 at *
  obtain ⟨v5, s5, g5⟩ := q5
  simp only at H5 f5 ⊢
  have H6 : Hid (∀ W', Rst W' b s5 g5 → Calls Tryz.prog 66 #[.pointer (some ⟨b, 0, none⟩)] W' fun e w' => e = .returned (.int .u64 ((pnum s5 g5).1 : Int)) ∧ Rst w' b (pnum s5 g5).2.1 (pnum s5 g5).2.2 ∧ Ch (fun i => i = b) W' w') := hide (fun W' hr => rnum_any hr (by omega))
  have f6 := (pnum_facts s5 g5).2
  generalize pnum s5 g5 = q6 at *
  obtain ⟨v6, s6, g6⟩ := q6
  simp only at H6 f6 ⊢
  have H7 : Hid (∀ W', Rst W' b s6 g6 → Calls Tryz.prog 66 #[.pointer (some ⟨b, 0, none⟩)] W' fun e w' => e = .returned (.int .u64 ((pnum s6 g6).1 : Int)) ∧ Rst w' b (pnum s6 g6).2.1 (pnum s6 g6).2.2 ∧ Ch (fun i => i = b) W' w') := hide (fun W' hr => rnum_any hr (by omega))
  have f7 := (pnum_facts s6 g6).2
  generalize pnum s6 g6 = q7 at *
  obtain ⟨v7, s7, g7⟩ := q7
  simp only at H7 f7 ⊢
  have H8 : Hid (∀ W', Rst W' b s7 g7 → Calls Tryz.prog 64 #[.pointer (some ⟨b, 0, none⟩), .int .u8 1] W' fun e w' => e = .returned (.int .u8 ((pbyte 1 s7 g7).1 : Int)) ∧ Rst w' b (pbyte 1 s7 g7).2.1 (pbyte 1 s7 g7).2.2 ∧ Ch (fun i => i = b) W' w') := hide (fun W' hr => rbyte_any hr (by omega) 1)
  have f8 := (pbyte_facts 1 s7 g7).2
  generalize pbyte 1 s7 g7 = q8 at *
  obtain ⟨v8, s8, g8⟩ := q8
  simp only at H8 f8 ⊢
  have H9 : Hid (∀ W', Rst W' b s8 g8 → Calls Tryz.prog 67 #[.pointer (some ⟨b, 0, none⟩), .int .i64 16] W' fun e w' => ∃ a c l, e = .returned (.slice a (pents 16 s8 g8).1.length c) ∧ l.map (·.1) = (pents 16 s8 g8).1 ∧ Rq EG W' w' b (pents 16 s8 g8).2.1 (pents 16 s8 g8).2.2 (.slice a (pents 16 s8 g8).1.length c) l ∧ Gn W'.heap.size w' l) := hide (fun W' hr => rents_any hr (by omega) 16 (by omega))
  have f9 := (pents_facts 16 s8 g8).1
  generalize pents 16 s8 g8 = q9 at *
  obtain ⟨v9, s9, g9⟩ := q9
  simp only at H9 f9 ⊢
  have H10 : Hid (∀ W', Rst W' b s9 g9 → Calls Tryz.prog 68 #[.pointer (some ⟨b, 0, none⟩)] W' fun e w' => ∃ a c, e = .returned (.slice a (pids s9 g9).1.length c) ∧ Rq E3 W' w' b (pids s9 g9).2.1 (pids s9 g9).2.2 (.slice a (pids s9 g9).1.length c) (pids s9 g9).1) := hide (fun W' hr => rids_any hr (by omega))
  have f10 := (pids_facts s9 g9).2
  generalize pids s9 g9 = q10 at *
  obtain ⟨v10, s10, g10⟩ := q10
  simp only at H10 f10 ⊢
  have H11 : Hid (∀ W', Rst W' b s10 g10 → Calls Tryz.prog 69 #[.pointer (some ⟨b, 0, none⟩)] W' fun e w' => e = .returned (.string (ptext s10 g10).1) ∧ Rst w' b (ptext s10 g10).2.1 (ptext s10 g10).2.2 ∧ Ch (fun i => i = b) W' w') := hide (fun W' hr => rtext_any hr (by omega))
  generalize ptext s10 g10 = q11 at *
  obtain ⟨v11, s11, g11⟩ := q11
  simp only at H11 ⊢
  clear h hs f0 f1 f2 f3 f4 f5 f6 f7 f8 f9 f10
  go_enter Tryz.func28, Tryz.ntmps28
  go_wp2_with (first
    | go_skip
    | (refine bx_new rfl 27 rfl _ zeroM ?_; intro b2 w1 hr1 hs1 hb1; have HB : Hid (Mr W w1 b b2 s f gz gzx) := hide ⟨(unhide HR).bel hb1, hr1, hb1.ch _, lt_of_some (unhide HR), Nat.le_of_eq hs1⟩; clear hr1 hs1 hb1 HR)
    | (go_at_call 64; refine ((unhide H0) _ (unhide HB).r).mono ?_; rintro e w2 ⟨rfl, hr2, hc2⟩; replace HB := hide ((unhide HB).read hr2 hc2); clear hr2 hc2 H0)
    | (go_at_call 65; refine ((unhide H1) _ (unhide HB).r).mono ?_; rintro e w2 ⟨rfl, hr2, hc2⟩; replace HB := hide ((unhide HB).read hr2 hc2); clear hr2 hc2 H1)
    | (go_at_call 65; refine ((unhide H2) _ (unhide HB).r).mono ?_; rintro e w2 ⟨rfl, hr2, hc2⟩; replace HB := hide ((unhide HB).read hr2 hc2); clear hr2 hc2 H2)
    | (go_at_call 66; refine ((unhide H3) _ (unhide HB).r).mono ?_; rintro e w2 ⟨rfl, hr2, hc2⟩; replace HB := hide ((unhide HB).read hr2 hc2); clear hr2 hc2 H3)
    | (go_at_call 66; refine ((unhide H4) _ (unhide HB).r).mono ?_; rintro e w2 ⟨rfl, hr2, hc2⟩; replace HB := hide ((unhide HB).read hr2 hc2); clear hr2 hc2 H4)
    | (go_at_call 66; refine ((unhide H5) _ (unhide HB).r).mono ?_; rintro e w2 ⟨rfl, hr2, hc2⟩; replace HB := hide ((unhide HB).read hr2 hc2); clear hr2 hc2 H5)
    | (go_at_call 66; refine ((unhide H6) _ (unhide HB).r).mono ?_; rintro e w2 ⟨rfl, hr2, hc2⟩; replace HB := hide ((unhide HB).read hr2 hc2); clear hr2 hc2 H6)
    | (go_at_call 66; refine ((unhide H7) _ (unhide HB).r).mono ?_; rintro e w2 ⟨rfl, hr2, hc2⟩; replace HB := hide ((unhide HB).read hr2 hc2); clear hr2 hc2 H7)
    | (go_at_call 64; refine ((unhide H8) _ (unhide HB).r).mono ?_; rintro e w2 ⟨rfl, hr2, hc2⟩; replace HB := hide ((unhide HB).read hr2 hc2); clear hr2 hc2 H8)
    | (go_at_call 67; refine ((unhide H9) _ (unhide HB).r).mono ?_; rintro e w2 ⟨a9, c9, l9, rfl, hl9, hq9, hg9⟩; have HL := hide (And.intro hl9 (And.intro (hq9.o.mono (unhide HB).ch.size) (hg9.mono (unhide HB).ch.size))); replace HB := hide ((unhide HB).read hq9.r hq9.ch); clear hl9 hq9 hg9 H9)
    | (go_at_call 68; refine ((unhide H10) _ (unhide HB).r).mono ?_; rintro e w2 ⟨a10, c10, rfl, hq10⟩; replace HL := hide (And.intro (unhide HL).1 (And.intro ((unhide HL).2.1.off hq10.ch (unhide HB).lt) ((unhide HL).2.2.off hq10.ch (unhide HB).lt))); have HM := hide (hq10.o.mono (unhide HB).ch.size); replace HB := hide ((unhide HB).read hq10.r hq10.ch); clear hq10 H10)
    | (go_at_call 69; refine ((unhide H11) _ (unhide HB).r).mono ?_; rintro e w2 ⟨rfl, hr2, hc2⟩; replace HL := hide (And.intro (unhide HL).1 (And.intro ((unhide HL).2.1.off hc2 (unhide HB).lt) ((unhide HL).2.2.off hc2 (unhide HB).lt))); replace HM := hide ((unhide HM).off hc2 (unhide HB).lt); replace HB := hide ((unhide HB).read hr2 hc2); clear hr2 hc2 H11)
    | (refine bx_set rfl 22 (.tmp 5) (.tmp 4) rfl b2 0 _ rfl rfl rfl rfl _ 27 (unhide HB).row sz22 (show 0 < 12 by decide) ?_; intro w3 hr3 hc3; replace HB : Hid (Mr W w3 b b2 s0 g0 ⟨(v0 : Int), 0, 0, 0, 0, 0, 0, 0, false, [], [], ⟨#[]⟩⟩ gzx) := hide ((unhide HB).set hr3 hc3); clear hr3 hc3)
    | (refine bx_set rfl 3 (.tmp 10) (.tmp 7) rfl b2 1 _ rfl rfl rfl rfl _ 27 (unhide HB).row sz3 (show 1 < 12 by decide) ?_; intro w3 hr3 hc3; replace HB : Hid (Mr W w3 b b2 s2 g2 ⟨(v0 : Int), (v1 : Int), 0, 0, 0, 0, 0, 0, false, [], [], ⟨#[]⟩⟩ gzx) := hide ((unhide HB).set hr3 hc3); clear hr3 hc3)
    | (refine bx_set rfl 3 (.tmp 11) (.tmp 9) rfl b2 2 _ rfl rfl rfl rfl _ 27 (unhide HB).row sz3 (show 2 < 12 by decide) ?_; intro w3 hr3 hc3; replace HB : Hid (Mr W w3 b b2 s2 g2 ⟨(v0 : Int), (v1 : Int), (v2 : Int), 0, 0, 0, 0, 0, false, [], [], ⟨#[]⟩⟩ gzx) := hide ((unhide HB).set hr3 hc3); clear hr3 hc3)
    | (refine bx_set rfl 23 (.tmp 18) (.tmp 13) rfl b2 3 _ rfl rfl rfl rfl _ 27 (unhide HB).row sz23 (show 3 < 12 by decide) ?_; intro w3 hr3 hc3; replace HB : Hid (Mr W w3 b b2 s5 g5 ⟨(v0 : Int), (v1 : Int), (v2 : Int), (v3 : Int), 0, 0, 0, 0, false, [], [], ⟨#[]⟩⟩ gzx) := hide ((unhide HB).set hr3 hc3); clear hr3 hc3)
    | (refine bx_set rfl 23 (.tmp 19) (.tmp 15) rfl b2 4 _ rfl rfl rfl rfl _ 27 (unhide HB).row sz23 (show 4 < 12 by decide) ?_; intro w3 hr3 hc3; replace HB : Hid (Mr W w3 b b2 s5 g5 ⟨(v0 : Int), (v1 : Int), (v2 : Int), (v3 : Int), (v4 : Int), 0, 0, 0, false, [], [], ⟨#[]⟩⟩ gzx) := hide ((unhide HB).set hr3 hc3); clear hr3 hc3)
    | (refine bx_set rfl 23 (.tmp 20) (.tmp 17) rfl b2 5 _ rfl rfl rfl rfl _ 27 (unhide HB).row sz23 (show 5 < 12 by decide) ?_; intro w3 hr3 hc3; replace HB : Hid (Mr W w3 b b2 s5 g5 ⟨(v0 : Int), (v1 : Int), (v2 : Int), (v3 : Int), (v4 : Int), (v5 : Int), 0, 0, false, [], [], ⟨#[]⟩⟩ gzx) := hide ((unhide HB).set hr3 hc3); clear hr3 hc3)
    | (refine bx_set rfl 23 (.tmp 25) (.tmp 22) rfl b2 6 _ rfl rfl rfl rfl _ 27 (unhide HB).row sz23 (show 6 < 12 by decide) ?_; intro w3 hr3 hc3; replace HB : Hid (Mr W w3 b b2 s7 g7 ⟨(v0 : Int), (v1 : Int), (v2 : Int), (v3 : Int), (v4 : Int), (v5 : Int), (v6 : Int), 0, false, [], [], ⟨#[]⟩⟩ gzx) := hide ((unhide HB).set hr3 hc3); clear hr3 hc3)
    | (refine bx_set rfl 23 (.tmp 26) (.tmp 24) rfl b2 7 _ rfl rfl rfl rfl _ 27 (unhide HB).row sz23 (show 7 < 12 by decide) ?_; intro w3 hr3 hc3; replace HB : Hid (Mr W w3 b b2 s7 g7 ⟨(v0 : Int), (v1 : Int), (v2 : Int), (v3 : Int), (v4 : Int), (v5 : Int), (v6 : Int), (v7 : Int), false, [], [], ⟨#[]⟩⟩ gzx) := hide ((unhide HB).set hr3 hc3); clear hr3 hc3)
    | (refine bx_set rfl 4 (.tmp 30) (.tmp 29) rfl b2 8 _ rfl rfl rfl rfl _ 27 (unhide HB).row sz4 (show 8 < 12 by decide) ?_; intro w3 hr3 hc3; replace HB : Hid (Mr W w3 b b2 s8 g8 ⟨(v0 : Int), (v1 : Int), (v2 : Int), (v3 : Int), (v4 : Int), (v5 : Int), (v6 : Int), (v7 : Int), (decide ((v8 : Int) = 1)), [], [], ⟨#[]⟩⟩ gzx) := hide ((unhide HB).set hr3 hc3); clear hr3 hc3)
    | (refine bx_set rfl 24 (.tmp 33) (.tmp 32) rfl b2 9 _ rfl rfl rfl rfl _ 27 (unhide HB).row sz24 (show 9 < 12 by decide) ?_; intro w3 hr3 hc3; replace HL := hide (And.intro (unhide HL).1 (And.intro ((unhide HL).2.1.bx (unhide HB).row (by decide) hc3) ((unhide HL).2.2.bx (unhide HB).row (by decide) hc3))); replace HB : Hid (Mr W w3 b b2 s9 g9 ⟨(v0 : Int), (v1 : Int), (v2 : Int), (v3 : Int), (v4 : Int), (v5 : Int), (v6 : Int), (v7 : Int), (decide ((v8 : Int) = 1)), v9, [], ⟨#[]⟩⟩ ⟨a9, c9, l9, none, 0⟩) := hide ((unhide HB).set hr3 hc3); clear hr3 hc3)
    | (refine bx_set rfl 25 (.tmp 36) (.tmp 35) rfl b2 10 _ rfl rfl rfl rfl _ 27 (unhide HB).row sz25 (show 10 < 12 by decide) ?_; intro w3 hr3 hc3; replace HL := hide (And.intro (unhide HL).1 (And.intro ((unhide HL).2.1.bx (unhide HB).row (by decide) hc3) ((unhide HL).2.2.bx (unhide HB).row (by decide) hc3))); replace HM := hide ((unhide HM).bx (unhide HB).row (by decide) hc3); replace HB : Hid (Mr W w3 b b2 s10 g10 ⟨(v0 : Int), (v1 : Int), (v2 : Int), (v3 : Int), (v4 : Int), (v5 : Int), (v6 : Int), (v7 : Int), (decide ((v8 : Int) = 1)), v9, v10, ⟨#[]⟩⟩ ⟨a9, c9, l9, a10, c10⟩) := hide ((unhide HB).set hr3 hc3); clear hr3 hc3)
    | (refine bx_set rfl 9 (.tmp 39) (.tmp 38) rfl b2 11 _ rfl rfl rfl rfl _ 27 (unhide HB).row sz9 (show 11 < 12 by decide) ?_; intro w3 hr3 hc3; replace HL := hide (And.intro (unhide HL).1 (And.intro ((unhide HL).2.1.bx (unhide HB).row (by decide) hc3) ((unhide HL).2.2.bx (unhide HB).row (by decide) hc3))); replace HM := hide ((unhide HM).bx (unhide HB).row (by decide) hc3); replace HB : Hid (Mr W w3 b b2 s11 g11 ⟨(v0 : Int), (v1 : Int), (v2 : Int), (v3 : Int), (v4 : Int), (v5 : Int), (v6 : Int), (v7 : Int), (decide ((v8 : Int) = 1)), v9, v10, v11⟩ ⟨a9, c9, l9, a10, c10⟩) := hide ((unhide HB).set hr3 hc3); clear hr3 hc3)
    | (refine bx_ld rfl 27 (.tmp 2) rfl b2 rfl _ _ (unhide HB).row Tryz.underlying27 (szM _ _) ?_)
    | (refine bx_st rfl 27 (.tmp 2) (.tmp 40) rfl b2 _ _ rfl rfl (unhide HB).row (szM _ _) rfl (mg_one _ _) ?_; intro w10 hr10 hc10; have HZ : Hid (Gr W.heap.size w10 ⟨(v0 : Int), (v1 : Int), (v2 : Int), (v3 : Int), (v4 : Int), (v5 : Int), (v6 : Int), (v7 : Int), (decide ((v8 : Int) = 1)), v9, v10, v11⟩ ⟨a9, c9, l9, a10, c10⟩) := hide ⟨(unhide HL).1, (unhide HL).2.1.bx (unhide HB).row (by decide) hc10, (unhide HL).2.2.bx (unhide HB).row (by decide) hc10, (unhide HM).bx (unhide HB).row (by decide) hc10⟩; replace HB := hide ((unhide HB).set hr10 hc10); clear hr10 hc10))
  exact bodyPost_ret (res1 (p := 2) rfl Tryz.underlying27 (szM _ _) (unhide HB).row _ rfl) rfl ⟨_, rfl, unhide HZ, (unhide HB).r, (unhide HB).ch⟩
end Go.Proofs.YtgofdkheffoilaaGreat
