/- Entries are laid where they belong. -/
import Derived.Test.YthipgcojbhcdgaaGreatLjn
namespace Go.Proofs.YthipgcojbhcdgaaGreat
open Go.RowKit Go.Maps Go.Sort
theorem ne_kind {w : World} {p q : Nat} {c d : Array Value} {t u : TypeId} (h : w.heap[p]? = some (.cells c t)) (h2 : w.heap[q]? = some (.cells d u)) (hn : t ≠ u) : p ≠ q := fun e => by
  rw [e, h2] at h
  injection (Option.some.inj h) with _ h3
  exact hn h3.symm
/-- A member in its box, a message of logs in its own, and a box for the answer. -/
structure Lz (W w : World) (b b2 b3 n : Nat) (s : PP) (x : Px) (m : QM) (a : Option Addr) (c : Nat) : Prop where
  row : w.heap[b]? = some (.cells (pc n s x) 56)
  rm : w.heap[b3]? = some (.cells (qc m a c) 27)
  row2 : ∃ s2 x2 n2, w.heap[b2]? = some (.cells (pc n2 s2 x2) 56)
  bel : Bel W w
  ge : W.heap.size ≤ b
  ge2 : W.heap.size ≤ b2
  ne : b2 ≠ b
section
variable {base : Nat} {W w w' w0 w1 w2 : World} {b b2 b3 n : Nat} {s s' : PP} {x x' : Px} {m : QM} {a : Option Addr} {c : Nat}
theorem Pg.lowG {base base2 : Nat} {W : World} {n : Nat} {s : PP} {x : Px} (h : Pg base W n s x) (hb : base2 ≤ base) : Pg base2 W n s x := ⟨h.m.mono hb, h.b.mono hb, h.l.mono hb, h.v.mono hb, h.f.mono hb⟩
theorem Lz.next (h : Lz W w b b2 b3 n s x m a c) (hb : Bel w w') : Lz W w' b b2 b3 n s x m a c := by
  obtain ⟨s2, x2, n2, h2⟩ := h.row2
  exact ⟨hb.row h.row, hb.row h.rm, ⟨s2, x2, n2, hb.row h2⟩, h.bel.trans hb, h.ge, h.ge2, h.ne⟩
theorem Lz.set (h : Lz W w b b2 b3 n s x m a c) (h1 : w'.heap[b]? = some (.cells (pc n s' x') 56)) (hc : Ch (fun i => i = b) w w') : Lz W w' b b2 b3 n s' x' m a c := by
  obtain ⟨s2, x2, n2, h2⟩ := h.row2
  exact ⟨h1, hc.row h.rm (ne_kind h.rm h.row (by decide)), ⟨s2, x2, n2, hc.row h2 h.ne⟩, bel_off h.bel hc h.ge, h.ge, h.ge2, h.ne⟩
theorem Lz.st (h : Lz W w b b2 b3 n s x m a c) : Lz W (w.setRow b2 (pc n s x)) b b2 b3 n s x m a c := by
  obtain ⟨s2, x2, n2, h2⟩ := h.row2
  have hc := ch_row (c' := pc n s x) h2
  exact ⟨hc.2.row h.row h.ne.symm, hc.2.row h.rm (ne_kind h.rm h2 (by decide)), ⟨s, x, n, hc.1⟩, bel_off h.bel hc.2 h.ge2, h.ge, h.ge2, h.ne⟩
theorem Lz.out (h : Lz W w b b2 b3 n s x m a c) (hp : Pg base w n s x) : (w.setRow b2 (pc n s x)).heap[b2]? = some (.cells (pc n s x) 56) ∧ Pg base (w.setRow b2 (pc n s x)) n s x ∧ Bel W (w.setRow b2 (pc n s x)) := by
  obtain ⟨s2, x2, n2, h2⟩ := h.row2
  have hc := ch_row (c' := pc n s x) h2
  exact ⟨hc.1, hp.box h2 hc.2, bel_off h.bel hc.2 h.ge2⟩
theorem Lz.outM {bs : Nat} {v : Value} {ms : List QM} (h : Lz W w b b2 b3 n s x m a c) (hm : Mo bs w v ms) : Mo bs (w.setRow b2 (pc n s x)) v ms := by
  obtain ⟨s2, x2, n2, h2⟩ := h.row2
  exact hm.box h2 (ch_row (c' := pc n s x) h2).2
theorem Lz.mk0 {n2 : Nat} {s2 : PP} {x2 : Px} (hb0 : Bel W w0) (hs0 : W.heap.size = b) (hr0 : w0.heap[b]? = some (.cells (pc n s x) 56)) (hb1 : Bel w0 w1) (hr1 : w1.heap[b3]? = some (.cells (qc m a c) 27)) (hb2 : Bel w1 w2) (hs2 : w1.heap.size = b2) (hr2 : w2.heap[b2]? = some (.cells (pc n2 s2 x2) 56)) : Lz W w2 b b2 b3 n s x m a c := by
  have l0 := lt_of_some hr0
  have l1 := lt_of_some hr1
  have l2 := hb1.size
  have l3 := hb0.size
  exact ⟨hb2.row (hb1.row hr0), hb2.row hr1, ⟨_, _, _, hr2⟩, (hb0.trans hb1).trans hb2, by omega, by omega, by omega⟩
/-- An answer is sent. -/
def HrR (W w : World) (h : QM) (v : Value) (w' : World) : Prop := ∃ aA cA, v = .slice aA 1 cA ∧ Mo W.heap.size w' (.slice aA 1 cA) [h] ∧ Bel w w'
theorem hrd_st (to : Int) (ok : Bool) (k : Nat) (hb : Bel W w) : Calls Tryz.prog 108 #[.agg (pc n s x), .int .i64 to, .bool ok, .int .u64 (k : Int), .int .u64 0] w fun e w' => ∃ v, e = .returned v ∧ HrR W w (s.hrd to ok k) v w' :=
  (hrd_any to ok k).mono (fun _ _ ⟨aA, cA, he, hm, hb'⟩ => ⟨_, he, aA, cA, rfl, hm.low hb.size, hb'⟩)
theorem hrd_st0 (to : Int) (ok : Bool) (hb : Bel W w) : Calls Tryz.prog 108 #[.agg (pc n s x), .int .i64 to, .bool ok, .int .u64 0, .int .u64 0] w fun e w' => ∃ v, e = .returned v ∧ HrR W w (s.hrd to ok 0) v w' := hrd_st to ok 0 hb
end
section
variable {W : World} {n T G base : Nat} {s : PP} {x : Px} {m : QM} {a : Option Addr} {c : Nat}
set_option maxRecDepth 100000 in
set_option maxHeartbeats 8000000 in
theorem lay_no (h : Pf base W n s x) (hgl : s.log.length ≤ 900000) (hlt : m.index ≤ 900000) (hi0 : m.index ≠ 0) (th : Bool) (ti : Int) (hT : ∀ w1, Bel W w1 → Calls Tryz.prog 87 #[.agg (pc n s x), .int .u64 (m.index : Int)] w1 fun e w' => e = .returned (.tuple #[.int .u64 ti, .bool th]) ∧ Bel w1 w') (hth : th = false ∨ (th = true ∧ (ti != m.lterm) = true)) : Calls Tryz.prog 110 #[.agg (pc n s x), .agg (qc m a c)] W fun e w' => ∃ x' aA cA, e = .returned (.tuple #[.agg (pc n s x'), .slice aA 1 cA]) ∧ Pg base w' n s x' ∧ Mo W.heap.size w' (.slice aA 1 cA) [s.hrd m.frm false (min s.log.length (m.index - 1))] ∧ Bel W w' := by
  have HLa : Hid (∀ w1, Bel W w1 → Calls Tryz.prog 48 #[.agg (pc n s x)] w1 fun e w' => ∃ t, e = .returned (.tuple #[.int .u64 (s.log.length : Int), .int .u64 t]) ∧ Bel w1 w') := hide (fun w1 hb => (last_any (h.pw.l.bel hb) (by omega)).mono (fun _ _ ⟨he, hb'⟩ => ⟨_, he, hb'⟩))
  obtain ⟨k, hk⟩ : ∃ k, k = min s.log.length (m.index - 1) := ⟨_, rfl⟩
  rw [← hk]
  have hw1 : IntKind.u64.wrap ((m.index : Int) - 1) = ((m.index - 1 : Nat) : Int) := by rw [wrapU (by omega) (by omega)]; omega
  have hmn : min (s.log.length : Int) ((m.index - 1 : Nat) : Int) = (k : Int) := by omega
  have h0 : ¬ ((m.index : Int) < 0) := by omega
  have HP := hide h.pg
  have HT := hide hT
  clear h hgl hlt hi0 hT hk
  generalize hj : m.index - 1 = j1 at *
  clear hj
  rcases hth with rfl | ⟨rfl, hne⟩
  all_goals
    go_enter Tryz.func110, Tryz.ntmps110
    go_wp2_with (first
      | go_skip
      | go_guarded
      | (refine bx_boxH 56 (.tmp 0) (by exact rfl) (by exact rfl) (pc n s x) (by exact rfl) ?_; intro b w0 hr0 hs0 hb0; have HR0 := hide hr0; have HB0 := hide (And.intro hb0 hs0); clear hr0 hs0 hb0)
      | (refine bx_boxH 27 (.tmp 1) (by exact rfl) (by exact rfl) (qc m a c) (by exact rfl) ?_; intro b3 w1 hr1 hs1 hb1; have HM0 := hide hr1; have HB1 := hide hb1; clear hr1 hs1 hb1)
      | (refine bx_new rfl 56 rfl _ Tryz.zero32 ?_; intro b2 w2 hr2 hs2 hb2; have HZ := hide (Lz.mk0 (unhide HB0).1 (unhide HB0).2 (unhide HR0) (unhide HB1) (unhide HM0) hb2 hs2 hr2); have y4 := (Bq.of (unhide HZ).rm).c4; have y9 := (Bq.of (unhide HZ).rm).c9; have y6 := (Bx.of (unhide HZ).row).c6; clear hr2 hs2 hb2 HR0 HB0 HM0 HB1))
    go_quiet (fail)
    replace HZ := hide ((unhide HZ).next ((Bel.refl w2).drewN nq))
    have y5 := (Bq.of (unhide HZ).rm).c5
    have y6 := (Bx.of (unhide HZ).row).c6
    clear y4 y9
    generalize w2.drewN nq = w3 at *
    go_wp2_with (first
      | go_skip
      | go_guarded
      | (refine bx_ldH 56 (.tmp 2) (by exact rfl) b (by exact rfl) (by exact rfl) (pc n s x) _ (unhide HZ).row Tryz.underlying56 (Tryz.size32 _ _ _) ?_)
      | (go_at_call 87; refine ((unhide HT) _ (unhide HZ).bel).mono ?_; rintro e w5 ⟨rfl, hb5⟩; replace HZ := hide ((unhide HZ).next hb5); have y5 := (Bq.of (unhide HZ).rm).c5; clear hb5 HT)
      | (go_at_call 48; refine ((unhide HLa) _ (unhide HZ).bel).mono ?_; rintro e w6 ⟨t6, rfl, hb6⟩; replace HZ := hide ((unhide HZ).next hb6); clear hb6 HLa))
    have HPG := hide ((unhide HP).bel (unhide HZ).bel)
    have hZd := (unhide HZ).next (Bel.refl w6).drew
    have hPd := (unhide HPG).bel (Bel.refl w6).drew
    refine wp_region_held_drew (S := fun w => Lz W w b b2 b3 n s x m a c) Tryz.follows hZd (fun hS => ?_)
    clear hZd
    generalize w6.drew = wd at *
    refine any_ld (i := 0) (b := b) rfl (by kernel_rfl) (by kernel_rfl) (by kernel_rfl) (fun _ _ _ h => h) rfl hS rfl rfl (fun w hw => hw.row) ?_
    refine any_ld (i := 1) (b := b) rfl (by kernel_rfl) (by kernel_rfl) (by kernel_rfl) (fun _ _ _ h => h) rfl hS rfl rfl (fun w hw => hw.row) ?_
    refine any_take (i := 2) (v := .pointer (some ⟨b3, 1, none⟩)) rfl (by kernel_rfl) (by kernel_rfl) (by kernel_rfl) (fun _ _ _ h => h) rfl hS (fun w hw => by go_simp) ?_
    refine any_take (i := 3) (v := .int .i64 m.frm) rfl (by kernel_rfl) (by kernel_rfl) (by kernel_rfl) (fun _ _ _ h => h) rfl hS (fun w hw => by have := (Bq.of hw.rm).c1; go_simp) ?_
    refine any_take (i := 4) (v := .int .u64 (s.log.length : Int)) rfl (by kernel_rfl) (by kernel_rfl) (by kernel_rfl) (fun _ _ _ h => h) rfl hS (fun w hw => by go_simp) ?_
    refine any_take (i := 5) (v := .int .u64 (m.index : Int)) rfl (by kernel_rfl) (by kernel_rfl) (by kernel_rfl) (fun _ _ _ h => h) rfl hS (fun w hw => by go_simp) ?_
    refine any_take (i := 6) (v := .int .u64 (j1 : Int)) rfl (by kernel_rfl) (by kernel_rfl) (by kernel_rfl) (fun _ _ _ h => h) rfl hS (fun w hw => by go_simp) ?_
    refine any_take (i := 7) (v := .int .u64 (k : Int)) rfl (by kernel_rfl) (by kernel_rfl) (by kernel_rfl) (fun _ _ _ h => h) rfl hS (fun w hw => by go_simp) ?_
    refine any_take (i := 8) (v := .pointer (some ⟨b3, 7, none⟩)) rfl (by kernel_rfl) (by kernel_rfl) (by kernel_rfl) (fun _ _ _ h => h) rfl hS (fun w hw => by go_simp) ?_
    refine any_take (i := 9) (v := .int .u64 0) rfl (by kernel_rfl) (by kernel_rfl) (by kernel_rfl) (fun _ _ _ h => h) rfl hS (fun w hw => by have := (Bq.of hw.rm).c7; go_simp) ?_
    refine any_call (i := 10) (by kernel_rfl) rfl rfl (by go_simp) (hrd_st m.frm false k (n := n) (s := s) (x := x) hS.bel) ?_
    rintro e w1 ⟨v, rfl, aA, cA, rfl, hm, hb⟩
    refine ⟨_, rfl, hS.next hb, ?_⟩
    have hS1 := hS.next hb
    have HQ := hide (And.intro (hS1.out (hPd.bel hb)) (hS1.outM hm))
    obtain ⟨s2, x2, n2, h2⟩ := hS1.row2
    refine any_skip (i := 11) (w' := w1.setRow b2 (pc n s x)) (by kernel_rfl) rfl rfl (st_run (n := n) (s := s) (z := x) (.tmp 4) (.tmp 53) (by exact rfl) (by go_simp) (by go_simp) h2) ⟨hS1.st, ?_⟩
    have hS2 := hS1.st
    clear hm hb hS hS1 h2
    generalize w1.setRow b2 (pc n s x) = we at *
    refine any_do (i := 12) (v := .slice aA 1 cA) (w' := we) (by kernel_rfl) rfl rfl (by go_simp) ⟨hS2, ?_⟩
    refine wpAnyH_done (by kernel_rfl) ?_ _
    clear hS2
    simp [Act.put]
    go_wp2_with fail
    exact bodyPost_ret (res2 (p := 4) (q := 5) rfl Tryz.underlying56 (Tryz.size32 _ _ _) (unhide HQ).1.1 _ _ rfl rfl) rfl ⟨_, _, _, rfl, (unhide HQ).1.2.1, (unhide HQ).2, (unhide HQ).1.2.2⟩
set_option maxRecDepth 100000 in
set_option maxHeartbeats 8000000 in
theorem lay_yes (h : Pf base W n s x) (hB : base ≤ W.heap.size) (hok : Ok n T G s) (hn : n ≤ 64) (hG : G ≤ 900000) (hm : QOk n T G m) (hk3 : m.kind = 3) (hs : Sl E69 W a m.ents) (hc : m.ents.length ≤ c) (hi : m.index ≤ s.log.length) (ht : tAt s.log m.index = m.lterm) : Calls Tryz.prog 110 #[.agg (pc n s x), .agg (qc m a c)] W fun e w' => ∃ x' aA cA, e = .returned (.tuple #[.agg (pc n (s.lay m).1 x'), .slice aA (s.lay m).2.length cA]) ∧ Pg base w' n (s.lay m).1 x' ∧ Mo W.heap.size w' (.slice aA (s.lay m).2.length cA) (s.lay m).2 ∧ Bel W w' := by
  obtain ⟨_, _, hl16, hlg, _⟩ := hm.lay hk3
  have hgl := hok.glen
  obtain ⟨r, hr⟩ : ∃ r, r = s.lay m := ⟨_, rfl⟩
  rw [← hr]
  unfold PP.lay at hr
  rw [if_neg (by rintro (h1 | h1); omega; exact h1 ht)] at hr
  obtain ⟨ne, hne⟩ : ∃ ne, ne = m.ents.length := ⟨_, rfl⟩
  obtain ⟨up, hup⟩ : ∃ up, up = m.index + ne := ⟨_, rfl⟩
  have HT : Hid (∀ w1, Bel W w1 → Calls Tryz.prog 87 #[.agg (pc n s x), .int .u64 (m.index : Int)] w1 fun e w' => e = .returned (.tuple #[.int .u64 m.lterm, .bool true]) ∧ Bel w1 w') := hide (fun w1 hb => by rw [← ht]; exact term_in (h.pw.l.bel hb) hi (by omega))
  have HJ : Hid (∀ w1, Bel W w1 → Calls Tryz.prog 135 #[.agg (pc n s x), .int .u64 (m.index : Int), .slice a ne c] w1 fun e w' => ∃ x', e = .returned (.tuple #[.agg (pc n ((s.join m.index m.ents).getD s) x'), .bool (s.join m.index m.ents).isSome]) ∧ Pg base w' n ((s.join m.index m.ents).getD s) x' ∧ Bel w1 w') := hide (fun w1 hb => by rw [hne]; exact join_any (h.bel hb) (Nat.le_trans hB hb.size) hok hn hG m.index m.ents a c (hs.bel hb) hc hi hl16 (fun e he => by rcases (hlg.2 e he).2 with h' | h' <;> omega) (fun e he => by have := (hlg.2 e he).1.1; omega))
  have hw1 : IntKind.u64.wrap (ne : Int) = (ne : Int) := wrapU (by omega) (by omega)
  have hw2 : IntKind.u64.wrap ((m.index : Int) + (ne : Int)) = (up : Int) := by rw [wrapU (by omega) (by omega)]; omega
  have h0 : ¬ ((m.index : Int) < 0) := by omega
  have hlt : (m.lterm != m.lterm) = false := by simp
  have HNE : Hid (m.ents.length = ne) := hide hne.symm
  have HUP : Hid (m.index + m.ents.length = up) := hide (by omega)
  clear h hB hok hn hG hm hk3 hs hc hi ht hl16 hlg hgl hne hup
  cases hj : s.join m.index m.ents with
  | none =>
    rw [hj] at hr HJ
    have HRR : Hid (r = (s, [])) := hide hr
    clear hr hj
    go_enter Tryz.func110, Tryz.ntmps110
    go_wp2_with (first
      | go_skip
      | go_guarded
      | (refine bx_boxH 56 (.tmp 0) (by exact rfl) (by exact rfl) (pc n s x) (by exact rfl) ?_; intro b w0 hr0 hs0 hb0; have HR0 := hide hr0; have HB0 := hide (And.intro hb0 hs0); clear hr0 hs0 hb0)
      | (refine bx_boxH 27 (.tmp 1) (by exact rfl) (by exact rfl) (qc m a c) (by exact rfl) ?_; intro b3 w1 hr1 hs1 hb1; have HM0 := hide hr1; have HB1 := hide hb1; clear hr1 hs1 hb1)
      | (refine bx_new rfl 56 rfl _ Tryz.zero32 ?_; intro b2 w2 hr2 hs2 hb2; have HZ := hide (Lz.mk0 (unhide HB0).1 (unhide HB0).2 (unhide HR0) (unhide HB1) (unhide HM0) hb2 hs2 hr2); have y4 := (Bq.of (unhide HZ).rm).c4; have y9 := (Bq.of (unhide HZ).rm).c9; rw [unhide HNE] at y9; have y6 := (Bx.of (unhide HZ).row).c6; clear hr2 hs2 hb2 HR0 HB0 HM0 HB1))
    go_quiet (fail)
    replace HZ := hide ((unhide HZ).next ((Bel.refl w2).drewN nq))
    have y5 := (Bq.of (unhide HZ).rm).c5
    have y6 := (Bx.of (unhide HZ).row).c6
    clear y4 y9
    generalize w2.drewN nq = w3 at *
    go_wp2_with (first
      | go_skip
      | go_guarded
      | (refine bx_ldH 56 (.tmp 2) (by exact rfl) b (by exact rfl) (by exact rfl) (pc n s x) _ (unhide HZ).row Tryz.underlying56 (Tryz.size32 _ _ _) ?_)
      | (go_at_call 87; refine ((unhide HT) _ (unhide HZ).bel).mono ?_; rintro e w5 ⟨rfl, hb5⟩; replace HZ := hide ((unhide HZ).next hb5); have y5 := (Bq.of (unhide HZ).rm).c5; clear hb5 HT)
      | (go_at_call 135; refine ((unhide HJ) _ (unhide HZ).bel).mono ?_; rintro e w6 ⟨x6, rfl, hp6, hb6⟩; have HP6 := hide hp6; replace HZ := hide ((unhide HZ).next hb6); clear hb6 hp6 HJ)
      | (refine bx_st rfl 56 (.tmp 2) _ rfl b (pc n s x6) _ rfl rfl (unhide HZ).row (Tryz.size32 _ _ _) rfl (pc_one _ _ _) ?_; intro w7 hr7 hc7; have HP7 : Hid (Pg base w7 n s x6) := hide ((unhide HP6).box (unhide HZ).row hc7); have HZ7 := hide ((unhide HZ).set hr7 hc7); clear hr7 hc7 HZ HP6)
      | (refine bx_ldH 56 (.tmp 2) (by exact rfl) b (by exact rfl) (by exact rfl) (pc n s x6) _ (unhide HZ7).row Tryz.underlying56 (Tryz.size32 _ _ _) ?_)
      | (obtain ⟨s2, x2, n2, h2⟩ := (unhide HZ7).row2; refine bx_st rfl 56 (.tmp 4) _ rfl b2 (pc n s x6) _ rfl rfl h2 (Tryz.size32 _ _ _) rfl (pc_one _ _ _) ?_; intro w9 hr9 hc9; have HR9 := hide (And.intro hr9 (And.intro ((unhide HP7).box h2 hc9) (bel_off (unhide HZ7).bel hc9 (unhide HZ7).ge2))); clear hr9 hc9 h2))
    rw [unhide HRR]
    exact bodyPost_ret (res2 (p := 4) (q := 5) rfl Tryz.underlying56 (Tryz.size32 _ _ _) (unhide HR9).1 _ _ rfl rfl) rfl ⟨_, _, _, rfl, (unhide HR9).2.1, Mo.nil _ _, (unhide HR9).2.2⟩
  | some u =>
    rw [hj] at hr HJ
    dsimp only at hr
    rw [unhide HUP] at hr
    obtain ⟨cm, hcm⟩ : ∃ cm, cm = max u.commit (min m.commit up) := ⟨_, rfl⟩
    rw [← hcm] at hr
    have hmx : max (u.commit : Int) (min (m.commit : Int) (up : Int)) = (cm : Int) := by omega
    have HRR : Hid (r = ({ u with commit := cm }, [({ u with commit := cm } : PP).hrd m.frm true up])) := hide hr
    clear hr hj hcm HUP
    change Hid (∀ w1, Bel W w1 → Calls Tryz.prog 135 #[.agg (pc n s x), .int .u64 (m.index : Int), .slice a ne c] w1 fun e w' => ∃ x', e = .returned (.tuple #[.agg (pc n u x'), .bool true]) ∧ Pg base w' n u x' ∧ Bel w1 w') at HJ
    go_enter Tryz.func110, Tryz.ntmps110
    go_wp2_with (first
      | go_skip
      | go_guarded
      | (refine bx_boxH 56 (.tmp 0) (by exact rfl) (by exact rfl) (pc n s x) (by exact rfl) ?_; intro b w0 hr0 hs0 hb0; have HR0 := hide hr0; have HB0 := hide (And.intro hb0 hs0); clear hr0 hs0 hb0)
      | (refine bx_boxH 27 (.tmp 1) (by exact rfl) (by exact rfl) (qc m a c) (by exact rfl) ?_; intro b3 w1 hr1 hs1 hb1; have HM0 := hide hr1; have HB1 := hide hb1; clear hr1 hs1 hb1)
      | (refine bx_new rfl 56 rfl _ Tryz.zero32 ?_; intro b2 w2 hr2 hs2 hb2; have HZ := hide (Lz.mk0 (unhide HB0).1 (unhide HB0).2 (unhide HR0) (unhide HB1) (unhide HM0) hb2 hs2 hr2); have y4 := (Bq.of (unhide HZ).rm).c4; have y9 := (Bq.of (unhide HZ).rm).c9; rw [unhide HNE] at y9; have y6 := (Bx.of (unhide HZ).row).c6; clear hr2 hs2 hb2 HR0 HB0 HM0 HB1))
    go_quiet (fail)
    replace HZ := hide ((unhide HZ).next ((Bel.refl w2).drewN nq))
    have y5 := (Bq.of (unhide HZ).rm).c5
    have y6 := (Bx.of (unhide HZ).row).c6
    clear y4 y9
    generalize w2.drewN nq = w3 at *
    go_wp2_with (first
      | go_skip
      | go_guarded
      | (refine bx_ldH 56 (.tmp 2) (by exact rfl) b (by exact rfl) (by exact rfl) (pc n s x) _ (unhide HZ).row Tryz.underlying56 (Tryz.size32 _ _ _) ?_)
      | (go_at_call 87; refine ((unhide HT) _ (unhide HZ).bel).mono ?_; rintro e w5 ⟨rfl, hb5⟩; replace HZ := hide ((unhide HZ).next hb5); have y5 := (Bq.of (unhide HZ).rm).c5; clear hb5 HT)
      | (go_at_call 135; refine ((unhide HJ) _ (unhide HZ).bel).mono ?_; rintro e w6 ⟨x6, rfl, hp6, hb6⟩; have HP6 := hide hp6; replace HZ := hide ((unhide HZ).next hb6); clear hb6 hp6 HJ)
      | (refine bx_st rfl 56 (.tmp 2) _ rfl b (pc n u x6) _ rfl rfl (unhide HZ).row (Tryz.size32 _ _ _) rfl (pc_one _ _ _) ?_; intro w7 hr7 hc7; have HP7 : Hid (Pg base w7 n u x6) := hide ((unhide HP6).box (unhide HZ).row hc7); have HZ7 := hide ((unhide HZ).set hr7 hc7); have y11 := (Bx.of (unhide HZ7).row).c11; have y6 := (Bq.of (unhide HZ7).rm).c6; clear hr7 hc7 HZ HP6)
      | (refine fl_commit rfl _ _ rfl b cm rfl rfl (unhide HZ7).row ?_; intro w8 hr8 hc8; have HP8 : Hid (Pg base w8 n { u with commit := cm } x6) := hide (have hp := (unhide HP7).box (unhide HZ7).row hc8; ⟨hp.m, hp.b, hp.l, hp.v, hp.f⟩); have HZ8 := hide ((unhide HZ7).set hr8 hc8); clear hr8 hc8 HZ7 HP7))
    obtain ⟨u3, hu3⟩ : ∃ u3 : PP, u3 = { u with commit := cm } := ⟨_, rfl⟩
    rw [← hu3] at HZ8 HP8 HRR
    clear hu3 y5 y6 y11
    have hZd := (unhide HZ8).next (Bel.refl w8).drew
    have hPd := (unhide HP8).bel (Bel.refl w8).drew
    refine wp_region_held_drew (S := fun w => Lz W w b b2 b3 n u3 x6 m a c) Tryz.follows hZd (fun hS => ?_)
    clear hZd
    generalize w8.drew = wd at *
    refine any_ld (i := 0) (b := b) rfl (by kernel_rfl) (by kernel_rfl) (by kernel_rfl) (fun _ _ _ h => h) rfl hS rfl rfl (fun w hw => hw.row) ?_
    refine any_ld (i := 1) (b := b) rfl (by kernel_rfl) (by kernel_rfl) (by kernel_rfl) (fun _ _ _ h => h) rfl hS rfl rfl (fun w hw => hw.row) ?_
    refine any_take (i := 2) (v := .pointer (some ⟨b3, 1, none⟩)) rfl (by kernel_rfl) (by kernel_rfl) (by kernel_rfl) (fun _ _ _ h => h) rfl hS (fun w hw => by go_simp) ?_
    refine any_take (i := 3) (v := .int .i64 m.frm) rfl (by kernel_rfl) (by kernel_rfl) (by kernel_rfl) (fun _ _ _ h => h) rfl hS (fun w hw => by have := (Bq.of hw.rm).c1; go_simp) ?_
    refine any_take (i := 4) (v := .int .u64 (up : Int)) rfl (by kernel_rfl) (by kernel_rfl) (by kernel_rfl) (fun _ _ _ h => h) rfl hS (fun w hw => by go_simp) ?_
    refine any_take (i := 5) (v := .pointer (some ⟨b3, 7, none⟩)) rfl (by kernel_rfl) (by kernel_rfl) (by kernel_rfl) (fun _ _ _ h => h) rfl hS (fun w hw => by go_simp) ?_
    refine any_take (i := 6) (v := .int .u64 0) rfl (by kernel_rfl) (by kernel_rfl) (by kernel_rfl) (fun _ _ _ h => h) rfl hS (fun w hw => by have := (Bq.of hw.rm).c7; go_simp) ?_
    refine any_call (i := 7) (by kernel_rfl) rfl rfl (by go_simp) (hrd_st m.frm true up (n := n) (s := u3) (x := x6) hS.bel) ?_
    rintro e w1 ⟨v, rfl, aA, cA, rfl, hm, hb⟩
    refine ⟨_, rfl, hS.next hb, ?_⟩
    have hS1 := hS.next hb
    have HQ := hide (And.intro (hS1.out (hPd.bel hb)) (hS1.outM hm))
    obtain ⟨s2, x2, n2, h2⟩ := hS1.row2
    refine any_skip (i := 8) (w' := w1.setRow b2 (pc n u3 x6)) (by kernel_rfl) rfl rfl (st_run (n := n) (s := u3) (z := x6) (.tmp 4) (.tmp 87) (by exact rfl) (by go_simp) (by go_simp) h2) ⟨hS1.st, ?_⟩
    have hS2 := hS1.st
    clear hm hb hS hS1 h2
    generalize w1.setRow b2 (pc n u3 x6) = we at *
    refine any_do (i := 9) (v := .slice aA 1 cA) (w' := we) (by kernel_rfl) rfl rfl (by go_simp) ⟨hS2, ?_⟩
    refine wpAnyH_done (by kernel_rfl) ?_ _
    clear hS2
    simp [Act.put]
    go_wp2_with fail
    rw [unhide HRR]
    exact bodyPost_ret (res2 (p := 4) (q := 5) rfl Tryz.underlying56 (Tryz.size32 _ _ _) (unhide HQ).1.1 _ _ rfl rfl) rfl ⟨_, _, _, rfl, (unhide HQ).1.2.1, (unhide HQ).2, (unhide HQ).1.2.2⟩
theorem lay_any (h : Pf base W n s x) (hB : base ≤ W.heap.size) (hok : Ok n T G s) (hn : n ≤ 64) (hG : G ≤ 900000) (hm : QOk n T G m) (hk3 : m.kind = 3) (hs : Sl E69 W a m.ents) (hc : m.ents.length ≤ c) : Calls Tryz.prog 110 #[.agg (pc n s x), .agg (qc m a c)] W fun e w' => ∃ x' aA cA, e = .returned (.tuple #[.agg (pc n (s.lay m).1 x'), .slice aA (s.lay m).2.length cA]) ∧ Pg base w' n (s.lay m).1 x' ∧ Mo W.heap.size w' (.slice aA (s.lay m).2.length cA) (s.lay m).2 ∧ Bel W w' := by
  have hgl := hok.glen
  have hix := hm.index
  have hz := (hm.lay hk3).2.1
  by_cases h1 : s.log.length < m.index
  · have e : s.lay m = (s, [s.hrd m.frm false (min s.log.length (m.index - 1))]) := by unfold PP.lay; rw [if_pos (Or.inl h1)]
    rw [e]
    exact lay_no h (by omega) (by omega) (by omega) false 0 (fun w1 _ => term_out h1 (by omega) (by omega)) (Or.inl rfl)
  · by_cases h2 : tAt s.log m.index = m.lterm
    · exact lay_yes h hB hok hn hG hm hk3 hs hc (by omega) h2
    · have e : s.lay m = (s, [s.hrd m.frm false (min s.log.length (m.index - 1))]) := by unfold PP.lay; rw [if_pos (Or.inr h2)]
      rw [e]
      exact lay_no h (by omega) (by omega) (fun e0 => h2 (by rw [hz.1 e0, e0]; rfl)) true (tAt s.log m.index) (fun w1 hb => term_in (h.pw.l.bel hb) (by omega) (by omega)) (Or.inr ⟨rfl, by simp [h2]⟩)
end
end Go.Proofs.YthipgcojbhcdgaaGreat
