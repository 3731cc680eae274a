/- Propose. -/
import Derived.Test.YthekbhliokcpcaaGreatLad
import Derived.Test.YthekbhliokcpcaaGreatNew
namespace Go.Proofs.YthekbhliokcpcaaGreat
open Go.RowKit Go.Maps Go.Sort
/-- Nobody. -/
def p0 : PP := ⟨0, 0, 0, 0, 0, 0, 0, [], [], [], 0⟩
def x0 : Px := ⟨none, 0, none, 0, none, 0, none, 0, none, 0, none, 0⟩
/-- A member in its box whose log was appended to and not yet written down. -/
structure Ta (W w : World) (b b2 n : Nat) (s : PP) (x : Px) (L' : List PE) (g cap : Nat) : Prop where
  row : w.heap[b]? = some (.cells (pc n s x) 31)
  m : E3.O W.heap.size w (.slice x.aM n x.cM) (mem n)
  mb : E3.O W.heap.size w (.slice x.aB n x.cB) (mem n)
  l : E69.O W.heap.size w (.slice (some ⟨g, 0, none⟩) L'.length cap) L'
  v : E3.O W.heap.size w (.slice x.aV s.votes.length x.cV) s.votes
  f : E65.O W.heap.size w (.slice x.aF s.fol.length x.cF) s.fol
  dv : ∀ k j, (Value.slice x.aV s.votes.length x.cV).ownBlock = some k → (Value.slice x.aM n x.cM).ownBlock = some j ∨ (Value.slice x.aB n x.cB).ownBlock = some j → j < k
  bel : Bel W w
  row2 : ∃ s2 x2 n2, w.heap[b2]? = some (.cells (pc n2 s2 x2) 31)
  ge : W.heap.size ≤ b
  ge2 : W.heap.size ≤ b2
  ne : b2 ≠ b
section
variable {W w w' : World} {b b2 n : Nat} {s : PP} {x : Px} {L' : List PE} {g cap : Nat}
theorem Tz.app (h : Tz W w b b2 n s x) (ho : E69.O W.heap.size w' (.slice (some ⟨g, 0, none⟩) L'.length cap) L') (hg : w.grownBy w' (Value.slice x.aL s.log.length x.cL).ownBlock) : Ta W w' b b2 n s x L' g cap := by
  obtain ⟨s2, x2, n2, h2⟩ := h.row2
  exact ⟨row_grown h.row h.pf.l hg (by decide), h.pf.m.grown h.pf.l hg (by decide), h.pf.b.grown h.pf.l hg (by decide), ho, h.pf.v.grown h.pf.l hg (by decide), h.pf.f.grown h.pf.l hg (by decide), h.pf.dv, (((h.bel.ch (fun i => W.heap.size ≤ i)).grown hg (fun k hk => Or.inl (h.pf.l.lt hk).1)).below (Nat.le_refl _) (fun _ hi => hi)), ⟨s2, x2, n2, row_grown h2 h.pf.l hg (by decide)⟩, h.ge, h.ge2, h.ne⟩
theorem Ta.set (h : Ta W w b b2 n s x L' g cap) (h1 : w'.heap[b]? = some (.cells (pc n { s with log := L' } { x with aL := some ⟨g, 0, none⟩, cL := cap }) 31)) (hc : Ch (fun i => i = b) w w') : Tz W w' b b2 n { s with log := L' } { x with aL := some ⟨g, 0, none⟩, cL := cap } := by
  obtain ⟨s2, x2, n2, h2⟩ := h.row2
  exact ⟨h1, ⟨h.m.box h.row (by decide) hc, h.mb.box h.row (by decide) hc, h.l.box h.row (by decide) hc, h.v.box h.row (by decide) hc, h.f.box h.row (by decide) hc, h.dv⟩, bel_off h.bel hc h.ge, ⟨s2, x2, n2, hc.row h2 h.ne⟩, h.ge, h.ge2, h.ne⟩
end
set_option maxRecDepth 100000 in
set_option maxHeartbeats 2000000 in
/-- One that does not lead. -/
theorem prop_lead {W : World} {n T G : Nat} {s : PP} {x : Px} (h : Pq W n s x) (hok : Ok n T G s) (hn : n ≤ 64) (hT : T ≤ 1000000) (hG : G ≤ 999999) (d : ByteArray) (hr : s.role ≠ 2) : Calls Tryz.prog 32 #[.agg (pc n s x), .string d] W fun e w' => e = .returned (.tuple #[.agg (pc 0 p0 x0), .int .u64 0, .int .i64 140]) ∧ Bel W w' := by
  have H1 : Hid (∀ W', Bel W W' → Calls Tryz.prog 42 #[.agg (pc n s x)] W' fun e w' => e = .returned (.int .i64 0) ∧ Bel W' w') := hide (fun W' hb => may_ok (h.pw.bel hb) hok hn hT hG h.cap)
  have e1 : (s.role != 2) = true := by simp [hr]
  have e2 : (s.role == 2) = false := by simp [hr]
  clear h hok hn hT hG hr
  go_enter Tryz.func32, Tryz.ntmps32
  go_wp2_with (first
    | go_skip
    | go_guarded
    | (refine bx_box rfl 31 _ rfl (pc n s x) rfl ?_; intro b w0 hr0 hs0 hb0; have HR0 := hide hr0; have HB0 := hide (And.intro hb0 hs0); clear hr0 hs0 hb0)
    | (refine bx_new rfl 31 rfl _ Tryz.zero32 ?_; intro b2 w1 hr1 hs1 hb1; have HZ : Hid (Ty W w1 b b2 n s x) := hide ⟨hb1.row (unhide HR0), (unhide HB0).1.trans hb1, ⟨_, _, _, hr1⟩, by have := (unhide HB0).2; omega, by have := (unhide HB0).1.size; omega, fun e => by have := lt_of_some (unhide HR0); omega⟩; clear hr1 hs1 hb1 HR0 HB0)
    | (refine bx_ldG rfl 31 _ rfl b rfl _ _ (unhide HZ).row Tryz.underlying31 (Tryz.size32 _ _ _) ?_)
    | (go_at_call 42; refine ((unhide H1) _ (unhide HZ).bel).mono ?_; rintro e w2 ⟨rfl, hb2⟩; replace HZ := hide ((unhide HZ).next hb2); have y4 := (Bx.of (unhide HZ).row).c4; clear hb2)
    | (obtain ⟨s2, x2, n2, h2⟩ := (unhide HZ).row2; refine bx_st rfl 31 (.tmp 4) _ rfl b2 (pc 0 p0 x0) _ rfl rfl h2 (Tryz.size32 _ _ _) rfl (pc_one _ _ _) ?_; intro w9 hr9 hc9; have HR9 := hide (And.intro hr9 ((unhide HZ).out hc9)); clear hr9 hc9 h2))
  exact bodyPost_ret (res3 (p := 4) (q := 5) (r := 6) rfl Tryz.underlying31 (Tryz.size32 _ _ _) (unhide HR9).1 _ _ _ rfl rfl rfl) rfl ⟨rfl, (unhide HR9).2⟩
set_option maxRecDepth 100000 in
set_option maxHeartbeats 2000000 in
/-- Data that are too long. -/
theorem prop_long {W : World} {n T G : Nat} {s : PP} {x : Px} (h : Pq W n s x) (hok : Ok n T G s) (hn : n ≤ 64) (hT : T ≤ 1000000) (hG : G ≤ 999999) (d : ByteArray) (hr : s.role = 2) (hd : 1048576 < d.size) : Calls Tryz.prog 32 #[.agg (pc n s x), .string d] W fun e w' => e = .returned (.tuple #[.agg (pc 0 p0 x0), .int .u64 0, .int .i64 4]) ∧ Bel W w' := by
  have H1 : Hid (∀ W', Bel W W' → Calls Tryz.prog 42 #[.agg (pc n s x)] W' fun e w' => e = .returned (.int .i64 0) ∧ Bel W' w') := hide (fun W' hb => may_ok (h.pw.bel hb) hok hn hT hG h.cap)
  have e1 : (s.role != 2) = false := by simp [hr]
  have e2 : (s.role == 2) = true := by simp [hr]
  have hd' : (1048576 : Int) < (d.size : Int) := by omega
  clear h hok hn hT hG hr hd
  go_enter Tryz.func32, Tryz.ntmps32
  go_wp2_with (first
    | go_skip
    | go_guarded
    | (refine bx_box rfl 31 _ rfl (pc n s x) rfl ?_; intro b w0 hr0 hs0 hb0; have HR0 := hide hr0; have HB0 := hide (And.intro hb0 hs0); clear hr0 hs0 hb0)
    | (refine bx_new rfl 31 rfl _ Tryz.zero32 ?_; intro b2 w1 hr1 hs1 hb1; have HZ : Hid (Ty W w1 b b2 n s x) := hide ⟨hb1.row (unhide HR0), (unhide HB0).1.trans hb1, ⟨_, _, _, hr1⟩, by have := (unhide HB0).2; omega, by have := (unhide HB0).1.size; omega, fun e => by have := lt_of_some (unhide HR0); omega⟩; clear hr1 hs1 hb1 HR0 HB0)
    | (refine bx_ldG rfl 31 _ rfl b rfl _ _ (unhide HZ).row Tryz.underlying31 (Tryz.size32 _ _ _) ?_)
    | (go_at_call 42; refine ((unhide H1) _ (unhide HZ).bel).mono ?_; rintro e w2 ⟨rfl, hb2⟩; replace HZ := hide ((unhide HZ).next hb2); have y4 := (Bx.of (unhide HZ).row).c4; clear hb2)
    | (obtain ⟨s2, x2, n2, h2⟩ := (unhide HZ).row2; refine bx_st rfl 31 (.tmp 4) _ rfl b2 (pc 0 p0 x0) _ rfl rfl h2 (Tryz.size32 _ _ _) rfl (pc_one _ _ _) ?_; intro w9 hr9 hc9; have HR9 := hide (And.intro hr9 ((unhide HZ).out hc9)); clear hr9 hc9 h2))
  exact bodyPost_ret (res3 (p := 4) (q := 5) (r := 6) rfl Tryz.underlying31 (Tryz.size32 _ _ _) (unhide HR9).1 _ _ _ rfl rfl rfl) rfl ⟨rfl, (unhide HR9).2⟩
/-- A leader with one entry more. -/
theorem more_ok {n T G : Nat} {s : PP} (h : Ok n T G s) (hr : s.role = 2) (d : ByteArray) : Ok n T (G + 1) (s.more d) := by
  rcases h.role with h' | h' | h'
  · omega
  · omega
  · refine ⟨h.id1, h.idn, h.t0, h.tT, h.vote, h.lead, h.wait, h.idle, ?_, ?_, ?_, h.vr, h.vm, Or.inr (Or.inr ⟨hr, h'.2.1, h'.2.2.1, h'.2.2.2.1, h'.2.2.2.2.1, h'.2.2.2.2.2.1, fun f hf => ?_⟩)⟩
    · exact h.log.snoc rfl (Or.inl rfl) h'.2.2.1
    · have := h.glen; simp [PP.more]; omega
    · have := h.com; simp [PP.more]; omega
    · have := h'.2.2.2.2.2.2 f hf; simp [PP.more]; omega
set_option maxRecDepth 100000 in
set_option maxHeartbeats 4000000 in
theorem prop_any {W : World} {n T G : Nat} {s : PP} {x : Px} (h : Pq W n s x) (hok : Ok n T G s) (hn : n ≤ 64) (hT : T ≤ 1000000) (hG : G ≤ 999998) (d : ByteArray) (hr : s.role = 2) (hd : d.size ≤ 1048576) : Calls Tryz.prog 32 #[.agg (pc n s x), .string d] W fun e w' => ∃ x', e = .returned (.tuple #[.agg (pc n (s.prop d) x'), .int .u64 ((s.log.length + 1 : Nat) : Int), .int .i64 0]) ∧ Pf W.heap.size w' n (s.prop d) x' ∧ Bel W w' := by
  have hln := hok.lens hn
  have hgl := hok.glen
  have hok2 := more_ok hok hr d
  have hid : (s.more d).id ∈ mem n := mem_iff.2 ⟨hok.id1, hok.idn⟩
  have H1 : Hid (∀ W', Bel W W' → Calls Tryz.prog 42 #[.agg (pc n s x)] W' fun e w' => e = .returned (.int .i64 0) ∧ Bel W' w') := hide (fun W' hb => may_ok (h.pw.bel hb) hok hn hT (by omega) h.cap)
  have H2 : Hid (∀ W', Bel W W' → Calls Tryz.prog 41 #[.agg (pc n s x)] W' fun e w' => ∃ x', e = .returned (.agg (pc n s x')) ∧ Pf W.heap.size w' n s x' ∧ Bel W' w') := hide (fun W' hb => (clone_any (h.pw.bel hb) hn (by omega) hln.1 hln.2).mono (fun _ _ ⟨x', he, hf, hb'⟩ => ⟨x', he, ⟨hf.m.mono hb.size, hf.b.mono hb.size, hf.l.mono hb.size, hf.v.mono hb.size, hf.f.mono hb.size, hf.dv⟩, hb'⟩))
  have H3 : Hid (∀ W' x', Pw W' n (s.more d) x' → Calls Tryz.prog 79 #[.agg (pc n (s.more d) x')] W' fun e w' => ∃ t, e = .returned (.tuple #[.int .u64 ((s.log.length + 1 : Nat) : Int), .int .u64 t]) ∧ Bel W' w') := hide (fun W' x' hp => (last_any hp.l (by have := hok2.glen; omega)).mono (fun _ _ ⟨he, hb'⟩ => ⟨(s.more d).lastT, he.trans (congrArg (fun v => Ending.returned (.tuple #[.int .u64 v, .int .u64 (s.more d).lastT])) (by simp [PP.lastI, PP.more])), hb'⟩))
  have H4 : Hid (∀ W' x', Pw W' n (s.more d) x' → Calls Tryz.prog 72 #[.agg (pc n (s.more d) x')] W' fun e w' => e = .returned (.agg (pc n (s.prop d) x')) ∧ Bel W' w') := hide (fun W' x' hp => adv_any hp hn hid (by have := hok2.glen; omega) (fol_len hok2 hn) (most_ok hok2))
  have e1 : (s.role != 2) = false := by simp [hr]
  have e2 : (s.role == 2) = true := by simp [hr]
  have hd' : ¬ ((1048576 : Int) < (d.size : Int)) := by omega
  have HG : Hid (s.log.length ≤ 999998) := hide (by omega)
  obtain ⟨L', hL'⟩ : ∃ L', L' = s.log ++ [⟨s.term, 0, d⟩] := ⟨_, rfl⟩
  have HL' := hide hL'
  have HMO : Hid ({ s with log := L' } = s.more d) := hide (by rw [hL']; rfl)
  clear h hok hn hT hG hr hd hln hgl hok2 hid hL'
  go_enter Tryz.func32, Tryz.ntmps32
  go_wp2_with (first
    | go_skip
    | go_guarded
    | (refine bx_box rfl 31 _ rfl (pc n s x) rfl ?_; intro b w0 hr0 hs0 hb0; have HR0 := hide hr0; have HB0 := hide (And.intro hb0 hs0); clear hr0 hs0 hb0)
    | (refine bx_new rfl 31 rfl _ Tryz.zero32 ?_; intro b2 w1 hr1 hs1 hb1; have HY : Hid (Ty W w1 b b2 n s x) := hide ⟨hb1.row (unhide HR0), (unhide HB0).1.trans hb1, ⟨_, _, _, hr1⟩, by have := (unhide HB0).2; omega, by have := (unhide HB0).1.size; omega, fun e => by have := lt_of_some (unhide HR0); omega⟩; clear hr1 hs1 hb1 HR0 HB0)
    | (refine bx_ldG rfl 31 _ rfl b rfl _ _ (unhide HY).row Tryz.underlying31 (Tryz.size32 _ _ _) ?_)
    | (go_at_call 42; refine ((unhide H1) _ (unhide HY).bel).mono ?_; rintro e w2 ⟨rfl, hb2⟩; replace HY := hide ((unhide HY).next hb2); have y4 := (Bx.of (unhide HY).row).c4; clear hb2)
    | (go_at_call 41; refine ((unhide H2) _ (unhide HY).bel).mono ?_; rintro e w3 ⟨x1, rfl, hf3, hb3⟩; have HF3 := hide hf3; replace HY := hide ((unhide HY).next hb3); clear hb3 hf3)
    | (refine bx_st rfl 31 (.tmp 2) _ rfl b (pc n s x1) _ rfl rfl (unhide HY).row (Tryz.size32 _ _ _) rfl (pc_one _ _ _) ?_; intro w4 hr4 hc4; have y2 := (Bx.of hr4).c2; have y10 := (Bx.of hr4).c10; have HZ : Hid (Tz W w4 b b2 n s x1) := hide ⟨hr4, (unhide HF3).box (unhide HY).row hc4, bel_off (unhide HY).bel hc4 (unhide HY).ge, ((unhide HY).set hr4 hc4).row2, (unhide HY).ge, (unhide HY).ge2, (unhide HY).ne⟩; clear hr4 hc4 HY HF3)
    | (at_builtin; refine app1_el (E := E69) ⟨s.term, 0, d⟩ L' (unhide HL') ((unhide HZ).next ((Bel.refl _).alloc _)).pf.l ((unhide HZ).next ((Bel.refl _).alloc _)).bel.size _ _ (at_new _ _) (by have := unhide HG; omega) rfl _ _ 27 rfl rfl rfl rfl ?_; intro g cap w5 ho5 hg5 hat5; have HA := hide (((unhide HZ).next ((Bel.refl _).alloc _)).app ho5 hg5); clear ho5 hg5 hat5 HZ)
    | (refine fl_log rfl _ _ rfl b _ L' _ rfl rfl (unhide HA).row ?_; intro w6 hr6 hc6; have hz6 := (unhide HA).set hr6 hc6; rw [unhide HMO] at hz6; have HZ := hide hz6; clear hr6 hc6 hz6 HA)
    | (refine bx_ldG rfl 31 _ rfl b rfl _ _ (unhide HZ).row Tryz.underlying31 (Tryz.size32 _ _ _) ?_)
    | (go_at_call 79; refine ((unhide H3) _ _ (unhide HZ).pf.pw).mono ?_; rintro e w7 ⟨t7, rfl, hb7⟩; replace HZ := hide ((unhide HZ).next hb7); clear hb7)
    | (go_at_call 72; refine ((unhide H4) _ _ (unhide HZ).pf.pw).mono ?_; rintro e w8 ⟨rfl, hb8⟩; replace HZ := hide ((unhide HZ).next hb8); clear hb8)
    | (obtain ⟨s2, x2, n2, h2⟩ := (unhide HZ).row2; refine bx_st rfl 31 (.tmp 4) _ rfl b2 (pc n (s.prop d) _) _ rfl rfl h2 (Tryz.size32 _ _ _) rfl (pc_one _ _ _) ?_; intro w9 hr9 hc9; have HR9 := hide (And.intro hr9 (And.intro ((unhide HZ).pf.box h2 hc9) (bel_off (unhide HZ).bel hc9 (unhide HZ).ge2))); clear hr9 hc9 h2))
  refine bodyPost_ret (res3 (p := 4) (q := 5) (r := 6) rfl Tryz.underlying31 (Tryz.size32 _ _ _) (unhide HR9).1 _ _ _ rfl rfl rfl) rfl ⟨_, rfl, ?_, (unhide HR9).2.2⟩
  have p := (unhide HR9).2.1
  exact ⟨p.m, p.b, p.l, p.v, p.f, p.dv⟩
end Go.Proofs.YthekbhliokcpcaaGreat
