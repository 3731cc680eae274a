/- answerAsk. -/
import Derived.Test.YthipgcojbhcdgaaGra
namespace Go.Proofs.Ythipgcojbhcdgaa
open Go.RowKit Go.Maps Go.Sort
section
variable {ops : Array Oper} {Q : Exit → Act → World → Prop} {md : Region.Mode} {S : World → Prop} {i j : Nat} {o o' : Oper} {fuel : Nat} {listed : Array Bool} {a : Act} {w : World}
/-- Either of two things may come up. -/
theorem any_two {vi : Value} {wi wj : World} (hr : Region.ready md ops listed = [i, j]) (hi : ops[i]? = some o) (hj : ops[j]? = some o') (hwi : Region.wanted o (yielded ops a.tmps) = true) (hwj : Region.wanted o' (yielded ops a.tmps) = true) (hi2 : (execOp a.eval o).run Try.prog w = .ok (.value vi) wi) (hj2 : (execOp a.eval o').run Try.prog w = .ok .skip wj)
    (hKi : S wi ∧ wpAnyH Try.prog md ops Q S fuel (listed.setIfInBounds i true) (a.put o.dst vi) wi) (hKj : S wj ∧ wpAnyH Try.prog md ops Q S fuel (listed.setIfInBounds j true) (a.put o'.dst undef) wj) : wpAnyH Try.prog md ops Q S (fuel + 1) listed a w := by
  refine wpAnyH_all hr (by simp) (fun k hk => ?_)
  rcases List.mem_cons.1 hk with rfl | hk
  · unfold wpOp
    simp only [hi, hwi, if_true, Oper.wp, hi2, Oper.upon_value]
    exact .inl hKi
  · rw [List.mem_singleton.1 hk]
    unfold wpOp
    simp only [hj, hwj, if_true, Oper.wp, hj2, Oper.upon_skip]
    exact .inl hKj
/-- A store is what is left to come up. -/
theorem any_skip {w' : World} (hr : Region.ready md ops listed = [i]) (hi : ops[i]? = some o) (hw : Region.wanted o (yielded ops a.tmps) = true) (hrun : (execOp a.eval o).run Try.prog w = .ok .skip w')
    (hK : S w' ∧ wpAnyH Try.prog md ops Q S fuel (listed.setIfInBounds i true) (a.put o.dst undef) w') : wpAnyH Try.prog md ops Q S (fuel + 1) listed a w := by
  refine wpAnyH_all hr (by simp) (fun j hj => ?_)
  rw [List.mem_singleton.1 hj]
  unfold wpOp
  simp only [hi, hw, if_true, Oper.wp, hrun, Oper.upon_skip]
  exact .inl hK
/-- A whole member is stored. -/
theorem st_run {n n2 : Nat} {s s2 : PP} {z z2 : Px} {b : Nat} (x y : Operand) (ho : o.op = .store 32 x y) (hx : a.eval x = .pointer (some ⟨b, 0, none⟩)) (hy : a.eval y = .agg (pc n s z)) (hg : w.heap[b]? = some (.cells (pc n2 s2 z2) 32)) : (execOp a.eval o).run Try.prog w = .ok .skip (w.setRow b (pc n s z)) := by
  unfold execOp
  simp only [ho, hx, hy, Instr.storeAt, Instr.sureAddr, Sem.run_bind, Sem.run_pure, Result.andThen_ok, run_storeVar_row w b 32 32 _ _ hg (Try.size32 n s z) rfl (pc_one n s z)]
end
/-- A member in its box, a message in its own, and a box for the answer. -/
structure Az (base : Nat) (W w : World) (b b2 b3 n : Nat) (s : PP) (x : Px) (m : PM) : Prop where
  row : w.heap[b]? = some (.cells (pc n s x) 32)
  rm : w.heap[b3]? = some (.cells (mc m) 44)
  row2 : ∃ s2 x2 n2, w.heap[b2]? = some (.cells (pc n2 s2 x2) 32)
  pf : Pf base w n s x
  bel : Bel W w
  ge : W.heap.size ≤ b
  ge2 : W.heap.size ≤ b2
  ne : b2 ≠ b
  ne3 : b3 ≠ b
  ne4 : b3 ≠ b2
theorem Az.next {base : Nat} {W w w' : World} {b b2 b3 n : Nat} {s : PP} {x : Px} {m : PM} (h : Az base W w b b2 b3 n s x m) (hb : Bel w w') : Az base W w' b b2 b3 n s x m := by
  obtain ⟨s2, x2, n2, h2⟩ := h.row2
  exact ⟨hb.row h.row, hb.row h.rm, ⟨s2, x2, n2, hb.row h2⟩, h.pf.bel hb, h.bel.trans hb, h.ge, h.ge2, h.ne, h.ne3, h.ne4⟩
theorem Az.set {base : Nat} {W w w' : World} {b b2 b3 n : Nat} {s s' : PP} {x : Px} {m : PM} (h : Az base W w b b2 b3 n s x m) (h1 : w'.heap[b]? = some (.cells (pc n s' x) 32)) (hc : Ch (fun i => i = b) w w') (e1 : s'.log = s.log) (e2 : s'.votes = s.votes) (e3 : s'.fol = s.fol) : Az base W w' b b2 b3 n s' x m := by
  obtain ⟨s2, x2, n2, h2⟩ := h.row2
  have p := h.pf.box h.row hc
  exact ⟨h1, hc.row h.rm h.ne3, ⟨s2, x2, n2, hc.row h2 h.ne⟩, ⟨p.m, p.b, by rw [e1]; exact p.l, by rw [e2]; exact p.v, by rw [e3]; exact p.f, by rw [e2]; exact p.dv⟩, bel_off h.bel hc h.ge, h.ge, h.ge2, h.ne, h.ne3, h.ne4⟩
theorem Az.out {base : Nat} {W w : World} {b b2 b3 n : Nat} {s : PP} {x : Px} {m : PM} (h : Az base W w b b2 b3 n s x m) {s2 : PP} {x2 : Px} {n2 : Nat} (h2 : w.heap[b2]? = some (.cells (pc n2 s2 x2) 32)) : (w.setRow b2 (pc n s x)).heap[b2]? = some (.cells (pc n s x) 32) ∧ Pf base (w.setRow b2 (pc n s x)) n s x ∧ Bel W (w.setRow b2 (pc n s x)) :=
  ⟨(ch_row h2).1, h.pf.box h2 (ch_row h2).2, bel_off h.bel (ch_row h2).2 h.ge2⟩
theorem Az.mk0 {base : Nat} {W w0 w1 w2 : World} {b b2 b3 n : Nat} {s : PP} {x : Px} {m : PM} {n2 : Nat} {s2 : PP} {x2 : Px} (h : Pf base W n s x) (hb0 : Bel W w0) (hs0 : W.heap.size = b) (hr0 : w0.heap[b]? = some (.cells (pc n s x) 32)) (hb1 : Bel w0 w1) (hs1 : w0.heap.size = b3) (hr1 : w1.heap[b3]? = some (.cells (mc m) 44)) (hb2 : Bel w1 w2) (hs2 : w1.heap.size = b2) (hr2 : w2.heap[b2]? = some (.cells (pc n2 s2 x2) 32)) : Az base W w2 b b2 b3 n s x m := by
  have l0 := lt_of_some hr0
  have l1 := lt_of_some hr1
  have l2 := hb1.size
  have l3 := hb0.size
  exact ⟨hb2.row (hb1.row hr0), hb2.row hr1, ⟨_, _, _, hr2⟩, h.bel ((hb0.trans hb1).trans hb2), (hb0.trans hb1).trans hb2, by omega, by omega, by omega, by omega, by omega⟩
set_option maxRecDepth 100000 in
set_option maxHeartbeats 4000000 in
theorem ask_any {base : Nat} {W : World} {n : Nat} {s : PP} {x : Px} {m : PM} (h : Pf base W n s x) (hB : base ≤ W.heap.size) (hl : s.log.length ≤ 1000000) (hk : m.kind = 1) : Calls Try.prog 46 #[.agg (pc n s x), .agg (mc m)] W fun e w' => ∃ aA cA, e = .returned (.tuple #[.agg (pc n (s.take1 n m).1 x), .slice aA (s.take1 n m).2.length cA]) ∧ Pf base w' n (s.take1 n m).1 x ∧ E44.O W.heap.size w' (.slice aA (s.take1 n m).2.length cA) (s.take1 n m).2 ∧ Bel W w' := by
  have H1 : Hid (∀ W', Bel W W' → Calls Try.prog 67 #[.agg (pc n s x), .agg (mc m)] W' fun e w' => e = .returned (.bool (s.grants m)) ∧ Bel W' w') := hide (fun W' hb => grants_any (h.pw.l.bel hb) hl)
  have HP := hide h
  have HBS := hide hB
  have HT : Hid (s.take1 n m = if s.grants m then ({ s with vote := m.frm, idle := 0 }, [⟨2, s.id, m.frm, s.term, 0, 0, true⟩]) else (s, [⟨2, s.id, m.frm, s.term, 0, 0, false⟩])) := hide (by unfold PP.take1; rw [if_pos hk])
  clear h hB hl hk
  generalize s.take1 n m = r at *
  generalize hgr : s.grants m = gr at *
  clear hgr
  cases gr
  · go_enter Try.func46, Try.ntmps46
    go_wp2_with (first
      | go_skip
      | go_guarded
      | (refine bx_boxH 32 (.tmp 0) (by exact rfl) (by exact rfl) (pc n s x) (by exact rfl) ?_; intro b w0 hr0 hs0 hb0; have HR0 := hide hr0; have HB0 := hide (And.intro hb0 hs0); clear hr0 hs0 hb0)
      | (refine bx_boxH 44 (.tmp 1) (by exact rfl) (by exact rfl) (mc m) (by exact rfl) ?_; intro b3 w1 hr1 hs1 hb1; have HM0 := hide (And.intro hr1 hs1); have HB1 := hide hb1; clear hr1 hs1 hb1)
      | (refine bx_new rfl 32 rfl _ Try.zero32 ?_; intro b2 w2 hr2 hs2 hb2; have HZ := hide (Az.mk0 (unhide HP) (unhide HB0).1 (unhide HB0).2 (unhide HR0) (unhide HB1) (unhide HM0).2 (unhide HM0).1 hb2 hs2 hr2); clear hr2 hs2 hb2 HR0 HB0 HM0 HB1)
      | (refine bx_ldH 32 (.tmp 2) (by exact rfl) b (by exact rfl) (by exact rfl) (pc n s x) _ (unhide HZ).row Try.underlying32 (Try.size32 _ _ _) ?_)
      | (refine bx_ldH 44 (.tmp 3) (by exact rfl) b3 (by exact rfl) (by exact rfl) (mc m) _ (unhide HZ).rm Try.underlying44 (Try.size44 _) ?_)
      | (go_at_call 67; refine ((unhide H1) _ (unhide HZ).bel).mono ?_; rintro e w2 ⟨rfl, hb2⟩; replace HZ := hide ((unhide HZ).next hb2); clear hb2; have m1 := (Bm.of (unhide HZ).rm).c1))
    have HX : Hid (∃ st : PP, r = (st, [(⟨2, s.id, m.frm, s.term, 0, 0, false⟩ : PM)]) ∧ st.id = s.id ∧ st.term = s.term ∧ Az base W w2 b b2 b3 n st x m) := hide ⟨s, (unhide HT).trans (by simp), rfl, rfl, unhide HZ⟩
    obtain ⟨st, hrr, e1, e2, hZ⟩ := unhide HX
    subst hrr
    have hZd := hZ.next (Bel.refl w2).drew
    have HZd := hide hZd
    clear HX HZ HT H1 HP HBS hZ
    refine wp_region_held_drew (S := fun w => w.heap[b]? = some (.cells (pc n st x) 32) ∧ w.heap[b3]? = some (.cells (mc m) 44)) Try.follows ⟨hZd.row, hZd.rm⟩ (fun hS => ?_)
    clear hZd
    generalize w2.drew = wd at *
    refine any_ld (i := 0) (b := b) rfl (by kernel_rfl) (by kernel_rfl) (by kernel_rfl) (fun _ _ _ h => h) rfl hS rfl rfl (fun w hw => hw.1) ?_
    refine any_take (i := 1) (v := .pointer (some ⟨b, 0, none⟩)) rfl (by kernel_rfl) (by kernel_rfl) (by kernel_rfl) (fun _ _ _ h => h) rfl hS (fun w hw => by go_simp) ?_
    refine any_take (i := 2) (v := .int .i64 s.id) rfl (by kernel_rfl) (by kernel_rfl) (by kernel_rfl) (fun _ _ _ h => h) rfl hS (fun w hw => by have := (Bx.of hw.1).c0; rw [e1] at this; go_simp) ?_
    refine any_take (i := 3) (v := .pointer (some ⟨b3, 1, none⟩)) rfl (by kernel_rfl) (by kernel_rfl) (by kernel_rfl) (fun _ _ _ h => h) rfl hS (fun w hw => by go_simp) ?_
    refine any_take (i := 4) (v := .int .i64 m.frm) rfl (by kernel_rfl) (by kernel_rfl) (by kernel_rfl) (fun _ _ _ h => h) rfl hS (fun w hw => by have := (Bm.of hw.2).c1; go_simp) ?_
    refine any_take (i := 5) (v := .pointer (some ⟨b, 2, none⟩)) rfl (by kernel_rfl) (by kernel_rfl) (by kernel_rfl) (fun _ _ _ h => h) rfl hS (fun w hw => by go_simp) ?_
    refine any_take (i := 6) (v := .int .u64 s.term) rfl (by kernel_rfl) (by kernel_rfl) (by kernel_rfl) (fun _ _ _ h => h) rfl hS (fun w hw => by have := (Bx.of hw.1).c2; rw [e2] at this; go_simp) ?_
    refine any_take (i := 7) (v := .bool false) rfl (by kernel_rfl) (by kernel_rfl) (by kernel_rfl) (fun _ _ _ h => h) rfl hS (fun w hw => by go_simp) ?_
    refine any_take (i := 8) (v := .agg (encM (⟨2, s.id, m.frm, s.term, 0, 0, false⟩ : PM)).toArray) rfl (by kernel_rfl) (by kernel_rfl) (by kernel_rfl) (fun _ _ _ h => h) rfl hS (fun w hw => by simp only [encM]; go_simp) ?_
    obtain ⟨s2, x2, n2, h2⟩ := (unhide HZd).row2
    refine any_two (i := 9) (j := 10) (vi := .slice (some ⟨wd.heap.size, 0, none⟩) 1 1) (wi := wd.alloc (.cells (encM (⟨2, s.id, m.frm, s.term, 0, 0, false⟩ : PM)).toArray 44)) (wj := wd.setRow b2 (pc n st x)) (by kernel_rfl) (by exact rfl) (by exact rfl) (by exact rfl) (by exact rfl) (by simp only [encM]; go_simp) (st_run (n := n) (s := st) (z := x) (.tmp 4) (.tmp 15) (by exact rfl) (by go_simp) (by go_simp) h2) ⟨⟨((Bel.refl wd).alloc _).row hS.1, ((Bel.refl wd).alloc _).row hS.2⟩, ?_⟩ ⟨⟨(ch_row h2).2.row hS.1 (unhide HZd).ne.symm, (ch_row h2).2.row hS.2 (unhide HZd).ne4⟩, ?_⟩
    · have h2' := ((Bel.refl wd).alloc (.cells (encM (⟨2, s.id, m.frm, s.term, 0, 0, false⟩ : PM)).toArray 44)).row h2
      have hZ1 := (unhide HZd).next ((Bel.refl wd).alloc (.cells (encM (⟨2, s.id, m.frm, s.term, 0, 0, false⟩ : PM)).toArray 44))
      have hO := ((El.O.built (E := E44) wd (⟨2, s.id, m.frm, s.term, 0, 0, false⟩ : PM)).mono (unhide HZd).bel.size).box h2' (by decide) (ch_row (c' := pc n st x) h2').2
      have hq := hZ1.out h2'
      have HQ := hide (And.intro hO hq)
      refine any_skip (i := 10) (by kernel_rfl) rfl rfl (st_run (n := n) (s := st) (z := x) (.tmp 4) (.tmp 15) (by exact rfl) (by go_simp) (by go_simp) h2') ⟨⟨(ch_row (c' := pc n st x) h2').2.row hZ1.row (unhide HZd).ne.symm, (ch_row (c' := pc n st x) h2').2.row hZ1.rm (unhide HZd).ne4⟩, ?_⟩
      refine any_do (i := 11) (v := .slice (some ⟨wd.heap.size, 0, none⟩) 1 1) (by kernel_rfl) rfl rfl (by go_simp) ⟨⟨(ch_row (c' := pc n st x) h2').2.row hZ1.row (unhide HZd).ne.symm, (ch_row (c' := pc n st x) h2').2.row hZ1.rm (unhide HZd).ne4⟩, ?_⟩
      refine wpAnyH_done (by kernel_rfl) ?_ _
      clear hO hq hZ1 h2' h2 hS
      go_wp2_with fail
      refine bodyPost_ret (res2 (p := 4) (q := 5) rfl Try.underlying32 (Try.size32 _ _ _) (unhide HQ).2.1 _ _ rfl rfl) rfl ⟨_, _, rfl, (unhide HQ).2.2.1, (unhide HQ).1, (unhide HQ).2.2.2⟩
    · have hq := (unhide HZd).out h2
      have hA := (Bel.refl (wd.setRow b2 (pc n st x))).alloc (.cells (encM (⟨2, s.id, m.frm, s.term, 0, 0, false⟩ : PM)).toArray 44)
      have hO := (El.O.built (E := E44) (wd.setRow b2 (pc n st x)) (⟨2, s.id, m.frm, s.term, 0, 0, false⟩ : PM)).mono hq.2.2.size
      have HQ := hide (And.intro hO (And.intro (hA.row hq.1) (And.intro (hq.2.1.bel hA) (hq.2.2.trans hA))))
      have hS2 : (wd.setRow b2 (pc n st x)).heap[b]? = some (.cells (pc n st x) 32) ∧ (wd.setRow b2 (pc n st x)).heap[b3]? = some (.cells (mc m) 44) := ⟨(ch_row h2).2.row hS.1 (unhide HZd).ne.symm, (ch_row h2).2.row hS.2 (unhide HZd).ne4⟩
      generalize wd.setRow b2 (pc n st x) = we at *
      refine any_do (i := 9) (v := .slice (some ⟨we.heap.size, 0, none⟩) 1 1) (w' := we.alloc (.cells (encM (⟨2, s.id, m.frm, s.term, 0, 0, false⟩ : PM)).toArray 44)) (by kernel_rfl) rfl rfl (by simp only [encM]; go_simp) ⟨⟨hA.row hS2.1, hA.row hS2.2⟩, ?_⟩
      refine any_do (i := 11) (v := .slice (some ⟨we.heap.size, 0, none⟩) 1 1) (by kernel_rfl) rfl rfl (by go_simp) ⟨⟨hA.row hS2.1, hA.row hS2.2⟩, ?_⟩
      refine wpAnyH_done (by kernel_rfl) ?_ _
      clear hO hq hA h2 hS hS2
      go_wp2_with fail
      refine bodyPost_ret (res2 (p := 4) (q := 5) rfl Try.underlying32 (Try.size32 _ _ _) (unhide HQ).2.1 _ _ rfl rfl) rfl ⟨_, _, rfl, (unhide HQ).2.2.1, (unhide HQ).1, (unhide HQ).2.2.2⟩
  · go_enter Try.func46, Try.ntmps46
    go_wp2_with (first
      | go_skip
      | go_guarded
      | (refine bx_boxH 32 (.tmp 0) (by exact rfl) (by exact rfl) (pc n s x) (by exact rfl) ?_; intro b w0 hr0 hs0 hb0; have HR0 := hide hr0; have HB0 := hide (And.intro hb0 hs0); clear hr0 hs0 hb0)
      | (refine bx_boxH 44 (.tmp 1) (by exact rfl) (by exact rfl) (mc m) (by exact rfl) ?_; intro b3 w1 hr1 hs1 hb1; have HM0 := hide (And.intro hr1 hs1); have HB1 := hide hb1; clear hr1 hs1 hb1)
      | (refine bx_new rfl 32 rfl _ Try.zero32 ?_; intro b2 w2 hr2 hs2 hb2; have HZ := hide (Az.mk0 (unhide HP) (unhide HB0).1 (unhide HB0).2 (unhide HR0) (unhide HB1) (unhide HM0).2 (unhide HM0).1 hb2 hs2 hr2); clear hr2 hs2 hb2 HR0 HB0 HM0 HB1)
      | (refine bx_ldH 32 (.tmp 2) (by exact rfl) b (by exact rfl) (by exact rfl) (pc n s x) _ (unhide HZ).row Try.underlying32 (Try.size32 _ _ _) ?_)
      | (refine bx_ldH 44 (.tmp 3) (by exact rfl) b3 (by exact rfl) (by exact rfl) (mc m) _ (unhide HZ).rm Try.underlying44 (Try.size44 _) ?_)
      | (go_at_call 67; refine ((unhide H1) _ (unhide HZ).bel).mono ?_; rintro e w2 ⟨rfl, hb2⟩; replace HZ := hide ((unhide HZ).next hb2); clear hb2; have m1 := (Bm.of (unhide HZ).rm).c1)
      | (refine fl_vote rfl _ _ rfl b _ rfl rfl (unhide HZ).row ?_; intro w3 hr3 hc3; replace HZ := hide ((unhide HZ).set hr3 hc3 rfl rfl rfl); clear hr3 hc3; have m1 := (Bm.of (unhide HZ).rm).c1)
      | (refine fl_idle rfl _ _ rfl b _ rfl rfl (unhide HZ).row ?_; intro w3 hr3 hc3; replace HZ := hide ((unhide HZ).set hr3 hc3 rfl rfl rfl); clear hr3 hc3; have m1 := (Bm.of (unhide HZ).rm).c1))
    have HX : Hid (∃ st : PP, r = (st, [(⟨2, s.id, m.frm, s.term, 0, 0, true⟩ : PM)]) ∧ st.id = s.id ∧ st.term = s.term ∧ Az base W w3 b b2 b3 n st x m) := hide ⟨{ s with vote := m.frm, idle := 0 }, (unhide HT).trans (by simp), rfl, rfl, unhide HZ⟩
    obtain ⟨st, hrr, e1, e2, hZ⟩ := unhide HX
    subst hrr
    have hZd := hZ.next (Bel.refl w3).drew
    have HZd := hide hZd
    clear HX HZ HT H1 HP HBS hZ
    refine wp_region_held_drew (S := fun w => w.heap[b]? = some (.cells (pc n st x) 32) ∧ w.heap[b3]? = some (.cells (mc m) 44)) Try.follows ⟨hZd.row, hZd.rm⟩ (fun hS => ?_)
    clear hZd
    generalize w3.drew = wd at *
    refine any_ld (i := 0) (b := b) rfl (by kernel_rfl) (by kernel_rfl) (by kernel_rfl) (fun _ _ _ h => h) rfl hS rfl rfl (fun w hw => hw.1) ?_
    refine any_take (i := 1) (v := .pointer (some ⟨b, 0, none⟩)) rfl (by kernel_rfl) (by kernel_rfl) (by kernel_rfl) (fun _ _ _ h => h) rfl hS (fun w hw => by go_simp) ?_
    refine any_take (i := 2) (v := .int .i64 s.id) rfl (by kernel_rfl) (by kernel_rfl) (by kernel_rfl) (fun _ _ _ h => h) rfl hS (fun w hw => by have := (Bx.of hw.1).c0; rw [e1] at this; go_simp) ?_
    refine any_take (i := 3) (v := .pointer (some ⟨b3, 1, none⟩)) rfl (by kernel_rfl) (by kernel_rfl) (by kernel_rfl) (fun _ _ _ h => h) rfl hS (fun w hw => by go_simp) ?_
    refine any_take (i := 4) (v := .int .i64 m.frm) rfl (by kernel_rfl) (by kernel_rfl) (by kernel_rfl) (fun _ _ _ h => h) rfl hS (fun w hw => by have := (Bm.of hw.2).c1; go_simp) ?_
    refine any_take (i := 5) (v := .pointer (some ⟨b, 2, none⟩)) rfl (by kernel_rfl) (by kernel_rfl) (by kernel_rfl) (fun _ _ _ h => h) rfl hS (fun w hw => by go_simp) ?_
    refine any_take (i := 6) (v := .int .u64 s.term) rfl (by kernel_rfl) (by kernel_rfl) (by kernel_rfl) (fun _ _ _ h => h) rfl hS (fun w hw => by have := (Bx.of hw.1).c2; rw [e2] at this; go_simp) ?_
    refine any_take (i := 7) (v := .bool true) rfl (by kernel_rfl) (by kernel_rfl) (by kernel_rfl) (fun _ _ _ h => h) rfl hS (fun w hw => by go_simp) ?_
    refine any_take (i := 8) (v := .agg (encM (⟨2, s.id, m.frm, s.term, 0, 0, true⟩ : PM)).toArray) rfl (by kernel_rfl) (by kernel_rfl) (by kernel_rfl) (fun _ _ _ h => h) rfl hS (fun w hw => by simp only [encM]; go_simp) ?_
    obtain ⟨s2, x2, n2, h2⟩ := (unhide HZd).row2
    refine any_two (i := 9) (j := 10) (vi := .slice (some ⟨wd.heap.size, 0, none⟩) 1 1) (wi := wd.alloc (.cells (encM (⟨2, s.id, m.frm, s.term, 0, 0, true⟩ : PM)).toArray 44)) (wj := wd.setRow b2 (pc n st x)) (by kernel_rfl) (by exact rfl) (by exact rfl) (by exact rfl) (by exact rfl) (by simp only [encM]; go_simp) (st_run (n := n) (s := st) (z := x) (.tmp 4) (.tmp 15) (by exact rfl) (by go_simp) (by go_simp) h2) ⟨⟨((Bel.refl wd).alloc _).row hS.1, ((Bel.refl wd).alloc _).row hS.2⟩, ?_⟩ ⟨⟨(ch_row h2).2.row hS.1 (unhide HZd).ne.symm, (ch_row h2).2.row hS.2 (unhide HZd).ne4⟩, ?_⟩
    · have h2' := ((Bel.refl wd).alloc (.cells (encM (⟨2, s.id, m.frm, s.term, 0, 0, true⟩ : PM)).toArray 44)).row h2
      have hZ1 := (unhide HZd).next ((Bel.refl wd).alloc (.cells (encM (⟨2, s.id, m.frm, s.term, 0, 0, true⟩ : PM)).toArray 44))
      have hO := ((El.O.built (E := E44) wd (⟨2, s.id, m.frm, s.term, 0, 0, true⟩ : PM)).mono (unhide HZd).bel.size).box h2' (by decide) (ch_row (c' := pc n st x) h2').2
      have hq := hZ1.out h2'
      have HQ := hide (And.intro hO hq)
      refine any_skip (i := 10) (by kernel_rfl) rfl rfl (st_run (n := n) (s := st) (z := x) (.tmp 4) (.tmp 15) (by exact rfl) (by go_simp) (by go_simp) h2') ⟨⟨(ch_row (c' := pc n st x) h2').2.row hZ1.row (unhide HZd).ne.symm, (ch_row (c' := pc n st x) h2').2.row hZ1.rm (unhide HZd).ne4⟩, ?_⟩
      refine any_do (i := 11) (v := .slice (some ⟨wd.heap.size, 0, none⟩) 1 1) (by kernel_rfl) rfl rfl (by go_simp) ⟨⟨(ch_row (c' := pc n st x) h2').2.row hZ1.row (unhide HZd).ne.symm, (ch_row (c' := pc n st x) h2').2.row hZ1.rm (unhide HZd).ne4⟩, ?_⟩
      refine wpAnyH_done (by kernel_rfl) ?_ _
      clear hO hq hZ1 h2' h2 hS
      go_wp2_with fail
      refine bodyPost_ret (res2 (p := 4) (q := 5) rfl Try.underlying32 (Try.size32 _ _ _) (unhide HQ).2.1 _ _ rfl rfl) rfl ⟨_, _, rfl, (unhide HQ).2.2.1, (unhide HQ).1, (unhide HQ).2.2.2⟩
    · have hq := (unhide HZd).out h2
      have hA := (Bel.refl (wd.setRow b2 (pc n st x))).alloc (.cells (encM (⟨2, s.id, m.frm, s.term, 0, 0, true⟩ : PM)).toArray 44)
      have hO := (El.O.built (E := E44) (wd.setRow b2 (pc n st x)) (⟨2, s.id, m.frm, s.term, 0, 0, true⟩ : PM)).mono hq.2.2.size
      have HQ := hide (And.intro hO (And.intro (hA.row hq.1) (And.intro (hq.2.1.bel hA) (hq.2.2.trans hA))))
      have hS2 : (wd.setRow b2 (pc n st x)).heap[b]? = some (.cells (pc n st x) 32) ∧ (wd.setRow b2 (pc n st x)).heap[b3]? = some (.cells (mc m) 44) := ⟨(ch_row h2).2.row hS.1 (unhide HZd).ne.symm, (ch_row h2).2.row hS.2 (unhide HZd).ne4⟩
      generalize wd.setRow b2 (pc n st x) = we at *
      refine any_do (i := 9) (v := .slice (some ⟨we.heap.size, 0, none⟩) 1 1) (w' := we.alloc (.cells (encM (⟨2, s.id, m.frm, s.term, 0, 0, true⟩ : PM)).toArray 44)) (by kernel_rfl) rfl rfl (by simp only [encM]; go_simp) ⟨⟨hA.row hS2.1, hA.row hS2.2⟩, ?_⟩
      refine any_do (i := 11) (v := .slice (some ⟨we.heap.size, 0, none⟩) 1 1) (by kernel_rfl) rfl rfl (by go_simp) ⟨⟨hA.row hS2.1, hA.row hS2.2⟩, ?_⟩
      refine wpAnyH_done (by kernel_rfl) ?_ _
      clear hO hq hA h2 hS hS2
      go_wp2_with fail
      refine bodyPost_ret (res2 (p := 4) (q := 5) rfl Try.underlying32 (Try.size32 _ _ _) (unhide HQ).2.1 _ _ rfl rfl) rfl ⟨_, _, rfl, (unhide HQ).2.2.1, (unhide HQ).1, (unhide HQ).2.2.2⟩
end Go.Proofs.Ythipgcojbhcdgaa
