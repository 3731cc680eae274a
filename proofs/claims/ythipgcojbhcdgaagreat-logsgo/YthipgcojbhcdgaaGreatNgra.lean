/- grants, answerAsk. answerAsk. countTold. -/
import Derived.Test.YthipgcojbhcdgaaGreatTic
import Derived.Test.YthipgcojbhcdgaaGreatMsg
namespace Go.Proofs.YthipgcojbhcdgaaGreat
open Go.RowKit Go.Maps Go.Sort
/-- A whole struct is read; what operation it is is asked first. -/
theorem bx_ldH {ops : Array Oper} {rest : List Oper} {o : Oper} {a : Act} {Q : Exit → Act → World → Prop} {W : World} (t : TypeId) (x : Operand) (ho : o.op = .load t x) (b : Nat) (hx : a.eval x = .pointer (some ⟨b, 0, none⟩)) (hw : Region.wanted o (yielded ops a.tmps) = true) (cs : Array Value) (fs : Array Field) (hg : W.heap[b]? = some (.cells cs t)) (hu : Tryz.prog.underlying t = some (.struct fs)) (hi : (Tryz.prog.info? t).map (·.size) = some cs.size)
    (h : wpList Tryz.prog ops Q rest (a.put o.dst (.agg cs)) W) : wpList Tryz.prog ops Q (o :: rest) a W := bx_ldG hw t x ho b hx cs fs hg hu hi h
/-- A struct is boxed; what operation it is is asked first. -/
theorem bx_boxH {ops : Array Oper} {rest : List Oper} {o : Oper} {a : Act} {Q : Exit → Act → World → Prop} {W : World} (t : TypeId) (x : Operand) (ho : o.op = .box t x) (hgd : o.guard = none) (cs : Array Value) (hx : a.eval x = .agg cs)
    (h : ∀ b w', w'.heap[b]? = some (.cells cs t) → W.heap.size = b → Bel W w' → wpList Tryz.prog ops Q rest (a.put o.dst (.pointer (some ⟨b, 0, none⟩))) w') : wpList Tryz.prog ops Q (o :: rest) a W := bx_box hgd t x ho cs hx h
set_option maxRecDepth 100000 in
set_option maxHeartbeats 4000000 in
theorem grants_any {W : World} {n : Nat} {s : PP} {x : Px} {m : PM} (h : Sl E69 W x.aL s.log) (hl : s.log.length ≤ 1000000) : Calls Tryz.prog 134 #[.agg (pc n s x), .agg (mc m)] W fun e w' => e = .returned (.bool (s.grants m)) ∧ Bel W w' := by
  have H1 : Hid (∀ W', Bel W W' → Calls Tryz.prog 48 #[.agg (pc n s x)] W' fun e w' => e = .returned (.tuple #[.int .u64 s.lastI, .int .u64 s.lastT]) ∧ Bel W' w') := hide (fun W' hb => last_any (h.bel hb) hl)
  clear h hl
  have hX : ∃ gr : Bool, s.grants m = gr ∧ ((decide (s.lastT < m.lterm) = false ∧ (m.lterm == s.lastT) = false ∧ gr = false) ∨ (decide (s.lastT < m.lterm) = false ∧ (m.lterm == s.lastT) = true ∧ decide (s.lastI ≤ m.index) = false ∧ gr = false) ∨ (((decide (s.lastT < m.lterm) = true) ∨ (decide (s.lastT < m.lterm) = false ∧ (m.lterm == s.lastT) = true ∧ decide (s.lastI ≤ m.index) = true)) ∧ (((m.term == s.term) = false ∧ gr = false) ∨ ((m.term == s.term) = true ∧ (s.role == 0) = false ∧ gr = false) ∨ ((m.term == s.term) = true ∧ (s.role == 0) = true ∧ (s.vote == 0) = true ∧ gr = true) ∨ ((m.term == s.term) = true ∧ (s.role == 0) = true ∧ (s.vote == 0) = false ∧ (s.vote == m.frm) = true ∧ gr = true) ∨ ((m.term == s.term) = true ∧ (s.role == 0) = true ∧ (s.vote == 0) = false ∧ (s.vote == m.frm) = false ∧ gr = false)))) := by
    refine ⟨_, rfl, ?_⟩
    unfold PP.grants
    cases decide (s.lastT < m.lterm) <;> cases (m.lterm == s.lastT) <;> cases decide (s.lastI ≤ m.index) <;> cases (m.term == s.term) <;> cases (s.role == 0) <;> cases (s.vote == 0) <;> cases (s.vote == m.frm) <;> simp
  obtain ⟨gr, hg, hx⟩ := hX
  rw [hg]
  clear hg
  generalize s.lastI = I at *
  generalize s.lastT = tT at *
  rcases hx with ⟨c1, c2, rfl⟩ | ⟨c1, c2, c3, rfl⟩ | ⟨c1 | ⟨c1, c2, c3⟩, ⟨c4, rfl⟩ | ⟨c4, c5, rfl⟩ | ⟨c4, c5, c6, rfl⟩ | ⟨c4, c5, c6, c7, rfl⟩ | ⟨c4, c5, c6, c7, rfl⟩⟩
  all_goals
    go_enter Tryz.func134, Tryz.ntmps134
    go_wp2_with (first
      | go_skip
      | go_guarded
      | (refine bx_boxH 56 (.tmp 0) (by exact rfl) (by exact rfl) (pc n s x) (by exact rfl) ?_; intro b w0 hr0 hs0 hb0; have HR0 := hide hr0; have HB0 := hide hb0; clear hr0 hs0 hb0)
      | (refine bx_boxH 27 (.tmp 1) (by exact rfl) (by exact rfl) (mc m) (by exact rfl) ?_; intro b3 w1 hr1 hs1 hb1; have HM0 := hide hr1; replace HR0 := hide (hb1.row (unhide HR0)); replace HB0 := hide ((unhide HB0).trans hb1); clear hr1 hs1 hb1)
      | (refine bx_ldH 56 (.tmp 2) (by exact rfl) b (by exact rfl) (by exact rfl) (pc n s x) _ (unhide HR0) Tryz.underlying56 (Tryz.size32 _ _ _) ?_)
      | (go_at_call 48; refine ((unhide H1) _ (unhide HB0)).mono ?_; rintro e w2 ⟨rfl, hb2⟩; have y2 := (Bx.of (hb2.row (unhide HR0))).c2; have y3 := (Bx.of (hb2.row (unhide HR0))).c3; have y4 := (Bx.of (hb2.row (unhide HR0))).c4; have m1 := (Bm.of (hb2.row (unhide HM0))).c1; have m3 := (Bm.of (hb2.row (unhide HM0))).c3; have m4 := (Bm.of (hb2.row (unhide HM0))).c4; have m5 := (Bm.of (hb2.row (unhide HM0))).c5; replace HB0 := hide ((unhide HB0).trans hb2); clear hb2))
    go_ret
    exact ⟨rfl, unhide HB0⟩
end Go.Proofs.YthipgcojbhcdgaaGreat
namespace Go.Proofs.YthipgcojbhcdgaaGreat
open Go.RowKit Go.Maps Go.Sort
section
variable {ops : Array Oper} {Q : Exit → Act → World → Prop} {md : Region.Mode} {S : World → Prop} {i j : Nat} {o o' : Oper} {fuel : Nat} {listed : Array Bool} {a : Act} {w : World}
/-- Either of two things may come up. -/
theorem any_two {vi : Value} {wi wj : World} (hr : Region.ready md ops listed = [i, j]) (hi : ops[i]? = some o) (hj : ops[j]? = some o') (hwi : Region.wanted o (yielded ops a.tmps) = true) (hwj : Region.wanted o' (yielded ops a.tmps) = true) (hi2 : (execOp a.eval o).run Tryz.prog w = .ok (.value vi) wi) (hj2 : (execOp a.eval o').run Tryz.prog w = .ok .skip wj)
    (hKi : S wi ∧ wpAnyH Tryz.prog md ops Q S fuel (listed.setIfInBounds i true) (a.put o.dst vi) wi) (hKj : S wj ∧ wpAnyH Tryz.prog md ops Q S fuel (listed.setIfInBounds j true) (a.put o'.dst undef) wj) : wpAnyH Tryz.prog md ops Q S (fuel + 1) listed a w := by
  refine wpAnyH_all hr (by simp) (fun k hk => ?_)
  rcases List.mem_cons.1 hk with rfl | hk
  · unfold wpOp
    simp only [hi, hwi, if_true, Oper.wp, hi2, Oper.upon_value]
    exact .inl hKi
  · rw [List.mem_singleton.1 hk]
    unfold wpOp
    simp only [hj, hwj, if_true, Oper.wp, hj2, Oper.upon_skip]
    exact .inl hKj
/-- A store is what is left to come up. -/
theorem any_skip {w' : World} (hr : Region.ready md ops listed = [i]) (hi : ops[i]? = some o) (hw : Region.wanted o (yielded ops a.tmps) = true) (hrun : (execOp a.eval o).run Tryz.prog w = .ok .skip w')
    (hK : S w' ∧ wpAnyH Tryz.prog md ops Q S fuel (listed.setIfInBounds i true) (a.put o.dst undef) w') : wpAnyH Tryz.prog md ops Q S (fuel + 1) listed a w := by
  refine wpAnyH_all hr (by simp) (fun j hj => ?_)
  rw [List.mem_singleton.1 hj]
  unfold wpOp
  simp only [hi, hw, if_true, Oper.wp, hrun, Oper.upon_skip]
  exact .inl hK
/-- A whole member is stored. -/
theorem st_run {n n2 : Nat} {s s2 : PP} {z z2 : Px} {b : Nat} (x y : Operand) (ho : o.op = .store 56 x y) (hx : a.eval x = .pointer (some ⟨b, 0, none⟩)) (hy : a.eval y = .agg (pc n s z)) (hg : w.heap[b]? = some (.cells (pc n2 s2 z2) 56)) : (execOp a.eval o).run Tryz.prog w = .ok .skip (w.setRow b (pc n s z)) := by
  unfold execOp
  simp only [ho, hx, hy, Instr.storeAt, Instr.sureAddr, Sem.run_bind, Sem.run_pure, Result.andThen_ok, run_storeVar_row w b 56 56 _ _ hg (Tryz.size32 n s z) rfl (pc_one n s z)]
end
/-- A member in its box, a message in its own, and a box for the answer. -/
structure Az (base : Nat) (W w : World) (b b2 b3 n : Nat) (s : PP) (x : Px) (m : PM) : Prop where
  row : w.heap[b]? = some (.cells (pc n s x) 56)
  rm : w.heap[b3]? = some (.cells (mc m) 27)
  row2 : ∃ s2 x2 n2, w.heap[b2]? = some (.cells (pc n2 s2 x2) 56)
  pf : Pf base w n s x
  bel : Bel W w
  ge : W.heap.size ≤ b
  ge2 : W.heap.size ≤ b2
  ne : b2 ≠ b
  ne3 : b3 ≠ b
  ne4 : b3 ≠ b2
theorem Az.next {base : Nat} {W w w' : World} {b b2 b3 n : Nat} {s : PP} {x : Px} {m : PM} (h : Az base W w b b2 b3 n s x m) (hb : Bel w w') : Az base W w' b b2 b3 n s x m := by
  obtain ⟨s2, x2, n2, h2⟩ := h.row2
  exact ⟨hb.row h.row, hb.row h.rm, ⟨s2, x2, n2, hb.row h2⟩, h.pf.bel hb, h.bel.trans hb, h.ge, h.ge2, h.ne, h.ne3, h.ne4⟩
theorem Az.set {base : Nat} {W w w' : World} {b b2 b3 n : Nat} {s s' : PP} {x : Px} {m : PM} (h : Az base W w b b2 b3 n s x m) (h1 : w'.heap[b]? = some (.cells (pc n s' x) 56)) (hc : Ch (fun i => i = b) w w') (e1 : s'.log = s.log) (e2 : s'.votes = s.votes) (e3 : s'.fol = s.fol) : Az base W w' b b2 b3 n s' x m := by
  obtain ⟨s2, x2, n2, h2⟩ := h.row2
  have p := h.pf.box h.row hc
  exact ⟨h1, hc.row h.rm h.ne3, ⟨s2, x2, n2, hc.row h2 h.ne⟩, ⟨p.m, p.b, by rw [e1]; exact p.l, by rw [e2]; exact p.v, by rw [e3]; exact p.f, by rw [e2]; exact p.dv⟩, bel_off h.bel hc h.ge, h.ge, h.ge2, h.ne, h.ne3, h.ne4⟩
theorem Az.out {base : Nat} {W w : World} {b b2 b3 n : Nat} {s : PP} {x : Px} {m : PM} (h : Az base W w b b2 b3 n s x m) {s2 : PP} {x2 : Px} {n2 : Nat} (h2 : w.heap[b2]? = some (.cells (pc n2 s2 x2) 56)) : (w.setRow b2 (pc n s x)).heap[b2]? = some (.cells (pc n s x) 56) ∧ Pf base (w.setRow b2 (pc n s x)) n s x ∧ Bel W (w.setRow b2 (pc n s x)) :=
  ⟨(ch_row h2).1, h.pf.box h2 (ch_row h2).2, bel_off h.bel (ch_row h2).2 h.ge2⟩
theorem Az.mk0 {base : Nat} {W w0 w1 w2 : World} {b b2 b3 n : Nat} {s : PP} {x : Px} {m : PM} {n2 : Nat} {s2 : PP} {x2 : Px} (h : Pf base W n s x) (hb0 : Bel W w0) (hs0 : W.heap.size = b) (hr0 : w0.heap[b]? = some (.cells (pc n s x) 56)) (hb1 : Bel w0 w1) (hs1 : w0.heap.size = b3) (hr1 : w1.heap[b3]? = some (.cells (mc m) 27)) (hb2 : Bel w1 w2) (hs2 : w1.heap.size = b2) (hr2 : w2.heap[b2]? = some (.cells (pc n2 s2 x2) 56)) : Az base W w2 b b2 b3 n s x m := by
  have l0 := lt_of_some hr0
  have l1 := lt_of_some hr1
  have l2 := hb1.size
  have l3 := hb0.size
  exact ⟨hb2.row (hb1.row hr0), hb2.row hr1, ⟨_, _, _, hr2⟩, h.bel ((hb0.trans hb1).trans hb2), (hb0.trans hb1).trans hb2, by omega, by omega, by omega, by omega, by omega⟩
set_option maxRecDepth 100000 in
set_option maxHeartbeats 4000000 in
theorem ask_any {base : Nat} {W : World} {n : Nat} {s : PP} {x : Px} {m : PM} (h : Pf base W n s x) (hB : base ≤ W.heap.size) (hl : s.log.length ≤ 1000000) (hk : m.kind = 1) : Calls Tryz.prog 106 #[.agg (pc n s x), .agg (mc m)] W fun e w' => ∃ aA cA, e = .returned (.tuple #[.agg (pc n (s.take1 n m).1 x), .slice aA (s.take1 n m).2.length cA]) ∧ Pf base w' n (s.take1 n m).1 x ∧ E44.O W.heap.size w' (.slice aA (s.take1 n m).2.length cA) (s.take1 n m).2 ∧ Bel W w' := by
  have H1 : Hid (∀ W', Bel W W' → Calls Tryz.prog 134 #[.agg (pc n s x), .agg (mc m)] W' fun e w' => e = .returned (.bool (s.grants m)) ∧ Bel W' w') := hide (fun W' hb => grants_any (h.pw.l.bel hb) hl)
  have HP := hide h
  have HBS := hide hB
  have HT : Hid (s.take1 n m = if s.grants m then ({ s with vote := m.frm, idle := 0 }, [⟨2, s.id, m.frm, s.term, 0, 0, true⟩]) else (s, [⟨2, s.id, m.frm, s.term, 0, 0, false⟩])) := hide (by unfold PP.take1; rw [if_pos hk])
  clear h hB hl hk
  generalize s.take1 n m = r at *
  generalize hgr : s.grants m = gr at *
  clear hgr
  cases gr
  · go_enter Tryz.func106, Tryz.ntmps106
    go_wp2_with (first
      | go_skip
      | go_guarded
      | (refine bx_boxH 56 (.tmp 0) (by exact rfl) (by exact rfl) (pc n s x) (by exact rfl) ?_; intro b w0 hr0 hs0 hb0; have HR0 := hide hr0; have HB0 := hide (And.intro hb0 hs0); clear hr0 hs0 hb0)
      | (refine bx_boxH 27 (.tmp 1) (by exact rfl) (by exact rfl) (mc m) (by exact rfl) ?_; intro b3 w1 hr1 hs1 hb1; have HM0 := hide (And.intro hr1 hs1); have HB1 := hide hb1; clear hr1 hs1 hb1)
      | (refine bx_new rfl 56 rfl _ Tryz.zero32 ?_; intro b2 w2 hr2 hs2 hb2; have HZ := hide (Az.mk0 (unhide HP) (unhide HB0).1 (unhide HB0).2 (unhide HR0) (unhide HB1) (unhide HM0).2 (unhide HM0).1 hb2 hs2 hr2); clear hr2 hs2 hb2 HR0 HB0 HM0 HB1)
      | (refine bx_ldH 56 (.tmp 2) (by exact rfl) b (by exact rfl) (by exact rfl) (pc n s x) _ (unhide HZ).row Tryz.underlying56 (Tryz.size32 _ _ _) ?_)
      | (refine bx_ldH 27 (.tmp 3) (by exact rfl) b3 (by exact rfl) (by exact rfl) (mc m) _ (unhide HZ).rm Tryz.underlying27 (Tryz.size44 _) ?_)
      | (go_at_call 134; refine ((unhide H1) _ (unhide HZ).bel).mono ?_; rintro e w2 ⟨rfl, hb2⟩; replace HZ := hide ((unhide HZ).next hb2); clear hb2; have m1 := (Bm.of (unhide HZ).rm).c1))
    have HX : Hid (∃ st : PP, r = (st, [(⟨2, s.id, m.frm, s.term, 0, 0, false⟩ : PM)]) ∧ st.id = s.id ∧ st.term = s.term ∧ Az base W w2 b b2 b3 n st x m) := hide ⟨s, (unhide HT).trans (by simp), rfl, rfl, unhide HZ⟩
    obtain ⟨st, hrr, e1, e2, hZ⟩ := unhide HX
    subst hrr
    have hZd := hZ.next (Bel.refl w2).drew
    have HZd := hide hZd
    clear HX HZ HT H1 HP HBS hZ
    refine wp_region_held_drew (S := fun w => w.heap[b]? = some (.cells (pc n st x) 56) ∧ w.heap[b3]? = some (.cells (mc m) 27)) Tryz.follows ⟨hZd.row, hZd.rm⟩ (fun hS => ?_)
    clear hZd
    generalize w2.drew = wd at *
    refine any_ld (i := 0) (b := b) rfl (by kernel_rfl) (by kernel_rfl) (by kernel_rfl) (fun _ _ _ h => h) rfl hS rfl rfl (fun w hw => hw.1) ?_
    refine any_take (i := 1) (v := .pointer (some ⟨b, 0, none⟩)) rfl (by kernel_rfl) (by kernel_rfl) (by kernel_rfl) (fun _ _ _ h => h) rfl hS (fun w hw => by go_simp) ?_
    refine any_take (i := 2) (v := .int .i64 s.id) rfl (by kernel_rfl) (by kernel_rfl) (by kernel_rfl) (fun _ _ _ h => h) rfl hS (fun w hw => by have := (Bx.of hw.1).c0; rw [e1] at this; go_simp) ?_
    refine any_take (i := 3) (v := .pointer (some ⟨b3, 1, none⟩)) rfl (by kernel_rfl) (by kernel_rfl) (by kernel_rfl) (fun _ _ _ h => h) rfl hS (fun w hw => by go_simp) ?_
    refine any_take (i := 4) (v := .int .i64 m.frm) rfl (by kernel_rfl) (by kernel_rfl) (by kernel_rfl) (fun _ _ _ h => h) rfl hS (fun w hw => by have := (Bm.of hw.2).c1; go_simp) ?_
    refine any_take (i := 5) (v := .pointer (some ⟨b, 2, none⟩)) rfl (by kernel_rfl) (by kernel_rfl) (by kernel_rfl) (fun _ _ _ h => h) rfl hS (fun w hw => by go_simp) ?_
    refine any_take (i := 6) (v := .int .u64 s.term) rfl (by kernel_rfl) (by kernel_rfl) (by kernel_rfl) (fun _ _ _ h => h) rfl hS (fun w hw => by have := (Bx.of hw.1).c2; rw [e2] at this; go_simp) ?_
    refine any_take (i := 7) (v := .bool false) rfl (by kernel_rfl) (by kernel_rfl) (by kernel_rfl) (fun _ _ _ h => h) rfl hS (fun w hw => by go_simp) ?_
    refine any_take (i := 8) (v := .agg (encM (⟨2, s.id, m.frm, s.term, 0, 0, false⟩ : PM)).toArray) rfl (by kernel_rfl) (by kernel_rfl) (by kernel_rfl) (fun _ _ _ h => h) rfl hS (fun w hw => by simp only [encM]; go_simp) ?_
    obtain ⟨s2, x2, n2, h2⟩ := (unhide HZd).row2
    refine any_two (i := 9) (j := 10) (vi := .slice (some ⟨wd.heap.size, 0, none⟩) 1 1) (wi := wd.alloc (.cells (encM (⟨2, s.id, m.frm, s.term, 0, 0, false⟩ : PM)).toArray 27)) (wj := wd.setRow b2 (pc n st x)) (by kernel_rfl) (by exact rfl) (by exact rfl) (by exact rfl) (by exact rfl) (by simp only [encM]; go_simp) (st_run (n := n) (s := st) (z := x) (.tmp 4) (.tmp 15) (by exact rfl) (by go_simp) (by go_simp) h2) ⟨⟨((Bel.refl wd).alloc _).row hS.1, ((Bel.refl wd).alloc _).row hS.2⟩, ?_⟩ ⟨⟨(ch_row h2).2.row hS.1 (unhide HZd).ne.symm, (ch_row h2).2.row hS.2 (unhide HZd).ne4⟩, ?_⟩
    · have h2' := ((Bel.refl wd).alloc (.cells (encM (⟨2, s.id, m.frm, s.term, 0, 0, false⟩ : PM)).toArray 27)).row h2
      have hZ1 := (unhide HZd).next ((Bel.refl wd).alloc (.cells (encM (⟨2, s.id, m.frm, s.term, 0, 0, false⟩ : PM)).toArray 27))
      have hO := ((El.O.built (E := E44) wd (⟨2, s.id, m.frm, s.term, 0, 0, false⟩ : PM)).mono (unhide HZd).bel.size).box h2' (by decide) (ch_row (c' := pc n st x) h2').2
      have hq := hZ1.out h2'
      have HQ := hide (And.intro hO hq)
      refine any_skip (i := 10) (by kernel_rfl) rfl rfl (st_run (n := n) (s := st) (z := x) (.tmp 4) (.tmp 15) (by exact rfl) (by go_simp) (by go_simp) h2') ⟨⟨(ch_row (c' := pc n st x) h2').2.row hZ1.row (unhide HZd).ne.symm, (ch_row (c' := pc n st x) h2').2.row hZ1.rm (unhide HZd).ne4⟩, ?_⟩
      refine any_do (i := 11) (v := .slice (some ⟨wd.heap.size, 0, none⟩) 1 1) (by kernel_rfl) rfl rfl (by go_simp) ⟨⟨(ch_row (c' := pc n st x) h2').2.row hZ1.row (unhide HZd).ne.symm, (ch_row (c' := pc n st x) h2').2.row hZ1.rm (unhide HZd).ne4⟩, ?_⟩
      refine wpAnyH_done (by kernel_rfl) ?_ _
      clear hO hq hZ1 h2' h2 hS
      go_wp2_with fail
      refine bodyPost_ret (res2 (p := 4) (q := 5) rfl Tryz.underlying56 (Tryz.size32 _ _ _) (unhide HQ).2.1 _ _ rfl rfl) rfl ⟨_, _, rfl, (unhide HQ).2.2.1, (unhide HQ).1, (unhide HQ).2.2.2⟩
    · have hq := (unhide HZd).out h2
      have hA := (Bel.refl (wd.setRow b2 (pc n st x))).alloc (.cells (encM (⟨2, s.id, m.frm, s.term, 0, 0, false⟩ : PM)).toArray 27)
      have hO := (El.O.built (E := E44) (wd.setRow b2 (pc n st x)) (⟨2, s.id, m.frm, s.term, 0, 0, false⟩ : PM)).mono hq.2.2.size
      have HQ := hide (And.intro hO (And.intro (hA.row hq.1) (And.intro (hq.2.1.bel hA) (hq.2.2.trans hA))))
      have hS2 : (wd.setRow b2 (pc n st x)).heap[b]? = some (.cells (pc n st x) 56) ∧ (wd.setRow b2 (pc n st x)).heap[b3]? = some (.cells (mc m) 27) := ⟨(ch_row h2).2.row hS.1 (unhide HZd).ne.symm, (ch_row h2).2.row hS.2 (unhide HZd).ne4⟩
      generalize wd.setRow b2 (pc n st x) = we at *
      refine any_do (i := 9) (v := .slice (some ⟨we.heap.size, 0, none⟩) 1 1) (w' := we.alloc (.cells (encM (⟨2, s.id, m.frm, s.term, 0, 0, false⟩ : PM)).toArray 27)) (by kernel_rfl) rfl rfl (by simp only [encM]; go_simp) ⟨⟨hA.row hS2.1, hA.row hS2.2⟩, ?_⟩
      refine any_do (i := 11) (v := .slice (some ⟨we.heap.size, 0, none⟩) 1 1) (by kernel_rfl) rfl rfl (by go_simp) ⟨⟨hA.row hS2.1, hA.row hS2.2⟩, ?_⟩
      refine wpAnyH_done (by kernel_rfl) ?_ _
      clear hO hq hA h2 hS hS2
      go_wp2_with fail
      refine bodyPost_ret (res2 (p := 4) (q := 5) rfl Tryz.underlying56 (Tryz.size32 _ _ _) (unhide HQ).2.1 _ _ rfl rfl) rfl ⟨_, _, rfl, (unhide HQ).2.2.1, (unhide HQ).1, (unhide HQ).2.2.2⟩
  · go_enter Tryz.func106, Tryz.ntmps106
    go_wp2_with (first
      | go_skip
      | go_guarded
      | (refine bx_boxH 56 (.tmp 0) (by exact rfl) (by exact rfl) (pc n s x) (by exact rfl) ?_; intro b w0 hr0 hs0 hb0; have HR0 := hide hr0; have HB0 := hide (And.intro hb0 hs0); clear hr0 hs0 hb0)
      | (refine bx_boxH 27 (.tmp 1) (by exact rfl) (by exact rfl) (mc m) (by exact rfl) ?_; intro b3 w1 hr1 hs1 hb1; have HM0 := hide (And.intro hr1 hs1); have HB1 := hide hb1; clear hr1 hs1 hb1)
      | (refine bx_new rfl 56 rfl _ Tryz.zero32 ?_; intro b2 w2 hr2 hs2 hb2; have HZ := hide (Az.mk0 (unhide HP) (unhide HB0).1 (unhide HB0).2 (unhide HR0) (unhide HB1) (unhide HM0).2 (unhide HM0).1 hb2 hs2 hr2); clear hr2 hs2 hb2 HR0 HB0 HM0 HB1)
      | (refine bx_ldH 56 (.tmp 2) (by exact rfl) b (by exact rfl) (by exact rfl) (pc n s x) _ (unhide HZ).row Tryz.underlying56 (Tryz.size32 _ _ _) ?_)
      | (refine bx_ldH 27 (.tmp 3) (by exact rfl) b3 (by exact rfl) (by exact rfl) (mc m) _ (unhide HZ).rm Tryz.underlying27 (Tryz.size44 _) ?_)
      | (go_at_call 134; refine ((unhide H1) _ (unhide HZ).bel).mono ?_; rintro e w2 ⟨rfl, hb2⟩; replace HZ := hide ((unhide HZ).next hb2); clear hb2; have m1 := (Bm.of (unhide HZ).rm).c1)
      | (refine fl_vote rfl _ _ rfl b _ rfl rfl (unhide HZ).row ?_; intro w3 hr3 hc3; replace HZ := hide ((unhide HZ).set hr3 hc3 rfl rfl rfl); clear hr3 hc3; have m1 := (Bm.of (unhide HZ).rm).c1)
      | (refine fl_idle rfl _ _ rfl b _ rfl rfl (unhide HZ).row ?_; intro w3 hr3 hc3; replace HZ := hide ((unhide HZ).set hr3 hc3 rfl rfl rfl); clear hr3 hc3; have m1 := (Bm.of (unhide HZ).rm).c1))
    have HX : Hid (∃ st : PP, r = (st, [(⟨2, s.id, m.frm, s.term, 0, 0, true⟩ : PM)]) ∧ st.id = s.id ∧ st.term = s.term ∧ Az base W w3 b b2 b3 n st x m) := hide ⟨{ s with vote := m.frm, idle := 0 }, (unhide HT).trans (by simp), rfl, rfl, unhide HZ⟩
    obtain ⟨st, hrr, e1, e2, hZ⟩ := unhide HX
    subst hrr
    have hZd := hZ.next (Bel.refl w3).drew
    have HZd := hide hZd
    clear HX HZ HT H1 HP HBS hZ
    refine wp_region_held_drew (S := fun w => w.heap[b]? = some (.cells (pc n st x) 56) ∧ w.heap[b3]? = some (.cells (mc m) 27)) Tryz.follows ⟨hZd.row, hZd.rm⟩ (fun hS => ?_)
    clear hZd
    generalize w3.drew = wd at *
    refine any_ld (i := 0) (b := b) rfl (by kernel_rfl) (by kernel_rfl) (by kernel_rfl) (fun _ _ _ h => h) rfl hS rfl rfl (fun w hw => hw.1) ?_
    refine any_take (i := 1) (v := .pointer (some ⟨b, 0, none⟩)) rfl (by kernel_rfl) (by kernel_rfl) (by kernel_rfl) (fun _ _ _ h => h) rfl hS (fun w hw => by go_simp) ?_
    refine any_take (i := 2) (v := .int .i64 s.id) rfl (by kernel_rfl) (by kernel_rfl) (by kernel_rfl) (fun _ _ _ h => h) rfl hS (fun w hw => by have := (Bx.of hw.1).c0; rw [e1] at this; go_simp) ?_
    refine any_take (i := 3) (v := .pointer (some ⟨b3, 1, none⟩)) rfl (by kernel_rfl) (by kernel_rfl) (by kernel_rfl) (fun _ _ _ h => h) rfl hS (fun w hw => by go_simp) ?_
    refine any_take (i := 4) (v := .int .i64 m.frm) rfl (by kernel_rfl) (by kernel_rfl) (by kernel_rfl) (fun _ _ _ h => h) rfl hS (fun w hw => by have := (Bm.of hw.2).c1; go_simp) ?_
    refine any_take (i := 5) (v := .pointer (some ⟨b, 2, none⟩)) rfl (by kernel_rfl) (by kernel_rfl) (by kernel_rfl) (fun _ _ _ h => h) rfl hS (fun w hw => by go_simp) ?_
    refine any_take (i := 6) (v := .int .u64 s.term) rfl (by kernel_rfl) (by kernel_rfl) (by kernel_rfl) (fun _ _ _ h => h) rfl hS (fun w hw => by have := (Bx.of hw.1).c2; rw [e2] at this; go_simp) ?_
    refine any_take (i := 7) (v := .bool true) rfl (by kernel_rfl) (by kernel_rfl) (by kernel_rfl) (fun _ _ _ h => h) rfl hS (fun w hw => by go_simp) ?_
    refine any_take (i := 8) (v := .agg (encM (⟨2, s.id, m.frm, s.term, 0, 0, true⟩ : PM)).toArray) rfl (by kernel_rfl) (by kernel_rfl) (by kernel_rfl) (fun _ _ _ h => h) rfl hS (fun w hw => by simp only [encM]; go_simp) ?_
    obtain ⟨s2, x2, n2, h2⟩ := (unhide HZd).row2
    refine any_two (i := 9) (j := 10) (vi := .slice (some ⟨wd.heap.size, 0, none⟩) 1 1) (wi := wd.alloc (.cells (encM (⟨2, s.id, m.frm, s.term, 0, 0, true⟩ : PM)).toArray 27)) (wj := wd.setRow b2 (pc n st x)) (by kernel_rfl) (by exact rfl) (by exact rfl) (by exact rfl) (by exact rfl) (by simp only [encM]; go_simp) (st_run (n := n) (s := st) (z := x) (.tmp 4) (.tmp 15) (by exact rfl) (by go_simp) (by go_simp) h2) ⟨⟨((Bel.refl wd).alloc _).row hS.1, ((Bel.refl wd).alloc _).row hS.2⟩, ?_⟩ ⟨⟨(ch_row h2).2.row hS.1 (unhide HZd).ne.symm, (ch_row h2).2.row hS.2 (unhide HZd).ne4⟩, ?_⟩
    · have h2' := ((Bel.refl wd).alloc (.cells (encM (⟨2, s.id, m.frm, s.term, 0, 0, true⟩ : PM)).toArray 27)).row h2
      have hZ1 := (unhide HZd).next ((Bel.refl wd).alloc (.cells (encM (⟨2, s.id, m.frm, s.term, 0, 0, true⟩ : PM)).toArray 27))
      have hO := ((El.O.built (E := E44) wd (⟨2, s.id, m.frm, s.term, 0, 0, true⟩ : PM)).mono (unhide HZd).bel.size).box h2' (by decide) (ch_row (c' := pc n st x) h2').2
      have hq := hZ1.out h2'
      have HQ := hide (And.intro hO hq)
      refine any_skip (i := 10) (by kernel_rfl) rfl rfl (st_run (n := n) (s := st) (z := x) (.tmp 4) (.tmp 15) (by exact rfl) (by go_simp) (by go_simp) h2') ⟨⟨(ch_row (c' := pc n st x) h2').2.row hZ1.row (unhide HZd).ne.symm, (ch_row (c' := pc n st x) h2').2.row hZ1.rm (unhide HZd).ne4⟩, ?_⟩
      refine any_do (i := 11) (v := .slice (some ⟨wd.heap.size, 0, none⟩) 1 1) (by kernel_rfl) rfl rfl (by go_simp) ⟨⟨(ch_row (c' := pc n st x) h2').2.row hZ1.row (unhide HZd).ne.symm, (ch_row (c' := pc n st x) h2').2.row hZ1.rm (unhide HZd).ne4⟩, ?_⟩
      refine wpAnyH_done (by kernel_rfl) ?_ _
      clear hO hq hZ1 h2' h2 hS
      go_wp2_with fail
      refine bodyPost_ret (res2 (p := 4) (q := 5) rfl Tryz.underlying56 (Tryz.size32 _ _ _) (unhide HQ).2.1 _ _ rfl rfl) rfl ⟨_, _, rfl, (unhide HQ).2.2.1, (unhide HQ).1, (unhide HQ).2.2.2⟩
    · have hq := (unhide HZd).out h2
      have hA := (Bel.refl (wd.setRow b2 (pc n st x))).alloc (.cells (encM (⟨2, s.id, m.frm, s.term, 0, 0, true⟩ : PM)).toArray 27)
      have hO := (El.O.built (E := E44) (wd.setRow b2 (pc n st x)) (⟨2, s.id, m.frm, s.term, 0, 0, true⟩ : PM)).mono hq.2.2.size
      have HQ := hide (And.intro hO (And.intro (hA.row hq.1) (And.intro (hq.2.1.bel hA) (hq.2.2.trans hA))))
      have hS2 : (wd.setRow b2 (pc n st x)).heap[b]? = some (.cells (pc n st x) 56) ∧ (wd.setRow b2 (pc n st x)).heap[b3]? = some (.cells (mc m) 27) := ⟨(ch_row h2).2.row hS.1 (unhide HZd).ne.symm, (ch_row h2).2.row hS.2 (unhide HZd).ne4⟩
      generalize wd.setRow b2 (pc n st x) = we at *
      refine any_do (i := 9) (v := .slice (some ⟨we.heap.size, 0, none⟩) 1 1) (w' := we.alloc (.cells (encM (⟨2, s.id, m.frm, s.term, 0, 0, true⟩ : PM)).toArray 27)) (by kernel_rfl) rfl rfl (by simp only [encM]; go_simp) ⟨⟨hA.row hS2.1, hA.row hS2.2⟩, ?_⟩
      refine any_do (i := 11) (v := .slice (some ⟨we.heap.size, 0, none⟩) 1 1) (by kernel_rfl) rfl rfl (by go_simp) ⟨⟨hA.row hS2.1, hA.row hS2.2⟩, ?_⟩
      refine wpAnyH_done (by kernel_rfl) ?_ _
      clear hO hq hA h2 hS hS2
      go_wp2_with fail
      refine bodyPost_ret (res2 (p := 4) (q := 5) rfl Tryz.underlying56 (Tryz.size32 _ _ _) (unhide HQ).2.1 _ _ rfl rfl) rfl ⟨_, _, rfl, (unhide HQ).2.2.1, (unhide HQ).1, (unhide HQ).2.2.2⟩
end Go.Proofs.YthipgcojbhcdgaaGreat
namespace Go.Proofs.YthipgcojbhcdgaaGreat
open Go.RowKit Go.Maps Go.Sort
set_option maxRecDepth 100000 in
set_option maxHeartbeats 4000000 in
theorem told_any {base : Nat} {W : World} {n : Nat} {s : PP} {x : Px} {m : PM} (h : Pf base W n s x) (hB : base ≤ W.heap.size) (hn : n ≤ 64) (h1 : 1 ≤ n) (hl : s.log.length ≤ 999999) (hr : Ris s.votes) (hm : ∀ y ∈ s.votes, 1 ≤ y ∧ y ≤ n) (hf : s.role = 1 → s.fol = []) (hk : m.kind ≠ 1) (hF : 1 ≤ m.frm ∧ m.frm ≤ n) : Calls Tryz.prog 107 #[.agg (pc n s x), .agg (mc m)] W fun e w' => ∃ x' aA cA, e = .returned (.tuple #[.agg (pc n (s.take1 n m).1 x'), .slice aA (s.take1 n m).2.length cA]) ∧ Pf base w' n (s.take1 n m).1 x' ∧ E44.O W.heap.size w' (.slice aA (s.take1 n m).2.length cA) (s.take1 n m).2 ∧ Ch (Kx s x) W w' := by
  have hvl : s.votes.length ≤ n := ris_le n s.votes hr.nodup hm
  have HC : Hid (∀ W', Bel W W' → Calls Tryz.prog 88 #[.slice x.aM n x.cM, .int .i64 m.frm] W' fun e w' => e = .returned (.bool true) ∧ w' = W') := hide (fun W' hb => by
    have := contains_any (h.pw.m.bel hb) x.cM m.frm (by rw [mem_len]; omega)
    rw [mem_len, decide_eq_true (mem_iff.2 hF)] at this
    exact this)
  have HP := hide h
  have HBS := hide hB
  have HNN := hide (And.intro hn h1)
  have HL := hide hl
  obtain ⟨V', hV'⟩ : ∃ V', V' = s.votes ++ [m.frm] := ⟨_, rfl⟩
  obtain ⟨U, hU⟩ : ∃ U, U = wth s.votes m.frm := ⟨_, rfl⟩
  have HV' : Hid (V' = s.votes ++ [m.frm] ∧ True) := hide ⟨hV', trivial⟩
  have HLen : Hid (V'.length = s.votes.length + 1 ∧ s.votes.length ≤ 64) := hide ⟨by rw [hV']; simp, by omega⟩
  have HU : Hid (Ris U ∧ ∀ y, y ∈ U ↔ y ∈ V') := hide ⟨by rw [hU]; exact wth_ris hr _, fun y => by rw [hU, hV', wth_mem]; simp [or_comm]⟩
  have HUm : Hid (∀ y ∈ U, 1 ≤ y ∧ y ≤ n) := hide (fun y hy => by
    rw [hU] at hy
    rcases wth_mem.1 hy with rfl | hy
    · exact hF
    · exact hm y hy)
  have hT : s.take1 n m = if m.term = s.term ∧ s.role = 1 ∧ m.ok = true then (({ s with votes := U } : PP).winIf n, []) else (s, []) := by unfold PP.take1; rw [if_neg hk, hU]
  have hX : ((m.term != s.term) = true ∧ s.take1 n m = (s, [])) ∨ ((m.term != s.term) = false ∧ (s.role != 1) = true ∧ s.take1 n m = (s, [])) ∨ ((m.term != s.term) = false ∧ (s.role != 1) = false ∧ m.ok = false ∧ s.take1 n m = (s, [])) ∨ ((m.term != s.term) = false ∧ (s.role != 1) = false ∧ m.ok = true ∧ s.fol = [] ∧ s.take1 n m = (({ s with votes := U } : PP).winIf n, [])) := by
    by_cases c1 : m.term = s.term
    · by_cases c2 : s.role = 1
      · cases c3 : m.ok with
        | false => exact Or.inr (Or.inr (Or.inl ⟨by simp [c1], by simp [c2], rfl, by rw [hT, if_neg (by simp [c3])]⟩))
        | true => exact Or.inr (Or.inr (Or.inr ⟨by simp [c1], by simp [c2], rfl, hf c2, by rw [hT, if_pos ⟨c1, c2, c3⟩]⟩))
      · exact Or.inr (Or.inl ⟨by simp [c1], by simp [c2], by rw [hT, if_neg (fun h => c2 h.2.1)]⟩)
    · exact Or.inl ⟨by simp [c1], by rw [hT, if_neg (fun h => c1 h.1)]⟩
  clear h hB hn h1 hl hr hm hf hk hF hvl hV' hU hT
  generalize s.take1 n m = r at *
  rcases hX with ⟨c1, rfl⟩ | ⟨c1, c2, rfl⟩ | ⟨c1, c2, c3, rfl⟩ | ⟨c1, c2, c3, hf0, rfl⟩
  · clear HV' HLen HU HUm
    go_enter Tryz.func107, Tryz.ntmps107
    go_wp2_with (first
      | go_skip
      | go_guarded
      | (refine bx_boxH 56 (.tmp 0) (by exact rfl) (by exact rfl) (pc n s x) (by exact rfl) ?_; intro b w0 hr0 hs0 hb0; have HR0 := hide hr0; have HB0 := hide (And.intro hb0 hs0); clear hr0 hs0 hb0)
      | (refine bx_boxH 27 (.tmp 1) (by exact rfl) (by exact rfl) (mc m) (by exact rfl) ?_; intro b3 w1 hr1 hs1 hb1; have HM0 := hide (And.intro hr1 hs1); have HB1 := hide hb1; clear hr1 hs1 hb1)
      | (refine bx_new rfl 56 rfl _ Tryz.zero32 ?_; intro b2 w2 hr2 hs2 hb2; have hA := (Az.mk0 (unhide HP) (unhide HB0).1 (unhide HB0).2 (unhide HR0) (unhide HB1) (unhide HM0).2 (unhide HM0).1 hb2 hs2 hr2); have HBW := hide hA.bel; have HZ : Hid (Wz base (Kx s x) W w2 b b2 n s x) := hide ⟨hA.row, hA.pf, hA.bel.ch _, hA.row2, hA.ge, hA.ge2, hA.ne, unhide HBS, Kx.cq W s x⟩; have m1 := (Bm.of hA.rm).c1; have m3 := (Bm.of hA.rm).c3; have m8 := (Bm.of hA.rm).c8; have y1 := (Bx.of hA.row).c1; have y2 := (Bx.of hA.row).c2; have y4 := (Bx.of hA.row).c4; have y14 := (Bx.of hA.row).c14; clear hr2 hs2 hb2 HR0 HB0 HM0 HB1 hA)
      | (go_at_call 88; refine ((unhide HC) _ (unhide HBW)).mono ?_; rintro e w3 ⟨rfl, rfl⟩)
      | (refine bx_ldH 56 (.tmp 2) (by exact rfl) b (by exact rfl) (by exact rfl) _ _ (unhide HZ).row Tryz.underlying56 (Tryz.size32 _ _ _) ?_)
      | (obtain ⟨s2, x2, n2, h2⟩ := (unhide HZ).row2; refine bx_st rfl 56 _ _ rfl b2 _ _ rfl rfl h2 (Tryz.size32 _ _ _) rfl (pc_one _ _ _) ?_; intro w9 hr9 hc9; have HR9 := hide (And.intro hr9 (And.intro (ch_off (unhide HZ).bel hc9 (unhide HZ).ge2) ((unhide HZ).pf.box h2 hc9))); clear hr9 hc9 h2))
    refine bodyPost_ret (res2 (p := 4) (q := 5) rfl Tryz.underlying56 (Tryz.size32 _ _ _) (unhide HR9).1 _ _ rfl rfl) rfl ⟨_, none, 0, rfl, (unhide HR9).2.2, El.O.nil _ _, (unhide HR9).2.1⟩
  · clear HV' HLen HU HUm
    go_enter Tryz.func107, Tryz.ntmps107
    go_wp2_with (first
      | go_skip
      | go_guarded
      | (refine bx_boxH 56 (.tmp 0) (by exact rfl) (by exact rfl) (pc n s x) (by exact rfl) ?_; intro b w0 hr0 hs0 hb0; have HR0 := hide hr0; have HB0 := hide (And.intro hb0 hs0); clear hr0 hs0 hb0)
      | (refine bx_boxH 27 (.tmp 1) (by exact rfl) (by exact rfl) (mc m) (by exact rfl) ?_; intro b3 w1 hr1 hs1 hb1; have HM0 := hide (And.intro hr1 hs1); have HB1 := hide hb1; clear hr1 hs1 hb1)
      | (refine bx_new rfl 56 rfl _ Tryz.zero32 ?_; intro b2 w2 hr2 hs2 hb2; have hA := (Az.mk0 (unhide HP) (unhide HB0).1 (unhide HB0).2 (unhide HR0) (unhide HB1) (unhide HM0).2 (unhide HM0).1 hb2 hs2 hr2); have HBW := hide hA.bel; have HZ : Hid (Wz base (Kx s x) W w2 b b2 n s x) := hide ⟨hA.row, hA.pf, hA.bel.ch _, hA.row2, hA.ge, hA.ge2, hA.ne, unhide HBS, Kx.cq W s x⟩; have m1 := (Bm.of hA.rm).c1; have m3 := (Bm.of hA.rm).c3; have m8 := (Bm.of hA.rm).c8; have y1 := (Bx.of hA.row).c1; have y2 := (Bx.of hA.row).c2; have y4 := (Bx.of hA.row).c4; have y14 := (Bx.of hA.row).c14; clear hr2 hs2 hb2 HR0 HB0 HM0 HB1 hA)
      | (go_at_call 88; refine ((unhide HC) _ (unhide HBW)).mono ?_; rintro e w3 ⟨rfl, rfl⟩)
      | (refine bx_ldH 56 (.tmp 2) (by exact rfl) b (by exact rfl) (by exact rfl) _ _ (unhide HZ).row Tryz.underlying56 (Tryz.size32 _ _ _) ?_)
      | (obtain ⟨s2, x2, n2, h2⟩ := (unhide HZ).row2; refine bx_st rfl 56 _ _ rfl b2 _ _ rfl rfl h2 (Tryz.size32 _ _ _) rfl (pc_one _ _ _) ?_; intro w9 hr9 hc9; have HR9 := hide (And.intro hr9 (And.intro (ch_off (unhide HZ).bel hc9 (unhide HZ).ge2) ((unhide HZ).pf.box h2 hc9))); clear hr9 hc9 h2))
    refine bodyPost_ret (res2 (p := 4) (q := 5) rfl Tryz.underlying56 (Tryz.size32 _ _ _) (unhide HR9).1 _ _ rfl rfl) rfl ⟨_, none, 0, rfl, (unhide HR9).2.2, El.O.nil _ _, (unhide HR9).2.1⟩
  · clear HV' HLen HU HUm
    go_enter Tryz.func107, Tryz.ntmps107
    go_wp2_with (first
      | go_skip
      | go_guarded
      | (refine bx_boxH 56 (.tmp 0) (by exact rfl) (by exact rfl) (pc n s x) (by exact rfl) ?_; intro b w0 hr0 hs0 hb0; have HR0 := hide hr0; have HB0 := hide (And.intro hb0 hs0); clear hr0 hs0 hb0)
      | (refine bx_boxH 27 (.tmp 1) (by exact rfl) (by exact rfl) (mc m) (by exact rfl) ?_; intro b3 w1 hr1 hs1 hb1; have HM0 := hide (And.intro hr1 hs1); have HB1 := hide hb1; clear hr1 hs1 hb1)
      | (refine bx_new rfl 56 rfl _ Tryz.zero32 ?_; intro b2 w2 hr2 hs2 hb2; have hA := (Az.mk0 (unhide HP) (unhide HB0).1 (unhide HB0).2 (unhide HR0) (unhide HB1) (unhide HM0).2 (unhide HM0).1 hb2 hs2 hr2); have HBW := hide hA.bel; have HZ : Hid (Wz base (Kx s x) W w2 b b2 n s x) := hide ⟨hA.row, hA.pf, hA.bel.ch _, hA.row2, hA.ge, hA.ge2, hA.ne, unhide HBS, Kx.cq W s x⟩; have m1 := (Bm.of hA.rm).c1; have m3 := (Bm.of hA.rm).c3; have m8 := (Bm.of hA.rm).c8; have y1 := (Bx.of hA.row).c1; have y2 := (Bx.of hA.row).c2; have y4 := (Bx.of hA.row).c4; have y14 := (Bx.of hA.row).c14; clear hr2 hs2 hb2 HR0 HB0 HM0 HB1 hA)
      | (go_at_call 88; refine ((unhide HC) _ (unhide HBW)).mono ?_; rintro e w3 ⟨rfl, rfl⟩)
      | (refine bx_ldH 56 (.tmp 2) (by exact rfl) b (by exact rfl) (by exact rfl) _ _ (unhide HZ).row Tryz.underlying56 (Tryz.size32 _ _ _) ?_)
      | (obtain ⟨s2, x2, n2, h2⟩ := (unhide HZ).row2; refine bx_st rfl 56 _ _ rfl b2 _ _ rfl rfl h2 (Tryz.size32 _ _ _) rfl (pc_one _ _ _) ?_; intro w9 hr9 hc9; have HR9 := hide (And.intro hr9 (And.intro (ch_off (unhide HZ).bel hc9 (unhide HZ).ge2) ((unhide HZ).pf.box h2 hc9))); clear hr9 hc9 h2))
    refine bodyPost_ret (res2 (p := 4) (q := 5) rfl Tryz.underlying56 (Tryz.size32 _ _ _) (unhide HR9).1 _ _ rfl rfl) rfl ⟨_, none, 0, rfl, (unhide HR9).2.2, El.O.nil _ _, (unhide HR9).2.1⟩
  · have HF0 : Hid (({ s with votes := U } : PP).fol = []) := hide hf0
    clear hf0
    go_enter Tryz.func107, Tryz.ntmps107
    go_wp2_with (first
      | go_skip
      | go_guarded
      | (refine bx_boxH 56 (.tmp 0) (by exact rfl) (by exact rfl) (pc n s x) (by exact rfl) ?_; intro b w0 hr0 hs0 hb0; have HR0 := hide hr0; have HB0 := hide (And.intro hb0 hs0); clear hr0 hs0 hb0)
      | (refine bx_boxH 27 (.tmp 1) (by exact rfl) (by exact rfl) (mc m) (by exact rfl) ?_; intro b3 w1 hr1 hs1 hb1; have HM0 := hide (And.intro hr1 hs1); have HB1 := hide hb1; clear hr1 hs1 hb1)
      | (refine bx_new rfl 56 rfl _ Tryz.zero32 ?_; intro b2 w2 hr2 hs2 hb2; have hA := (Az.mk0 (unhide HP) (unhide HB0).1 (unhide HB0).2 (unhide HR0) (unhide HB1) (unhide HM0).2 (unhide HM0).1 hb2 hs2 hr2); have HBW := hide hA.bel; have HZ : Hid (Wz base (Kx s x) W w2 b b2 n s x) := hide ⟨hA.row, hA.pf, hA.bel.ch _, hA.row2, hA.ge, hA.ge2, hA.ne, unhide HBS, Kx.cq W s x⟩; have m1 := (Bm.of hA.rm).c1; have m3 := (Bm.of hA.rm).c3; have m8 := (Bm.of hA.rm).c8; have y1 := (Bx.of hA.row).c1; have y2 := (Bx.of hA.row).c2; have y4 := (Bx.of hA.row).c4; have y14 := (Bx.of hA.row).c14; clear hr2 hs2 hb2 HR0 HB0 HM0 HB1 hA)
      | (go_at_call 88; refine ((unhide HC) _ (unhide HBW)).mono ?_; rintro e w3 ⟨rfl, rfl⟩)
      | (at_builtin; refine app1_el (E := E3) m.frm V' (unhide HV').1 ((unhide HZ).pf.v.bel ((Bel.refl _).alloc _)) (Nat.le_trans (unhide HZ).hw (Nat.le_trans (unhide HZ).bel.size ((Bel.refl _).alloc _).size)) _ _ (at_new _ _) (by have := (unhide HLen); omega) rfl _ _ 25 rfl rfl rfl rfl ?_; intro g cap w4 ho4 hg4 hat4; have q4 := ((unhide HZ).next ((Bel.refl _).alloc _)).appV hg4; have HY := hide (And.intro q4 ho4); clear q4 ho4 hg4 hat4)
      | (go_at_call 52; refine (once_any (l := V') (Sl.of (unhide HY).2).1 (by have := (unhide HLen); omega)).mono ?_; rintro e w5 ⟨a5, c5, l5, rfl, ho5, hr5, hm5, hb5⟩; obtain rfl : l5 = U := ris_ext _ _ hr5 (unhide HU).1 (fun y => (hm5 y).trans ((unhide HU).2 y).symm); have HQ := hide (And.intro ho5 (And.intro (unhide HY).1.1.bel.size (And.intro (unhide HY).1.1 hb5))); replace HY := hide (And.intro (And.intro ((unhide HY).1.1.next hb5) (And.intro ((unhide HY).1.2.1.bel hb5) ((unhide HY).1.2.2.bel hb5))) trivial); clear ho5 hr5 hm5 hb5)
      | (refine fl_votes rfl _ _ rfl b _ l5 _ rfl rfl (unhide HY).1.1.row ?_; intro w6 hr6 hc6; replace HZ := hide ((unhide HY).1.1.set hr6 hc6 ⟨(unhide HY).1.1.m.box (unhide HY).1.1.row (by decide) hc6, (unhide HY).1.1.mb.box (unhide HY).1.1.row (by decide) hc6, (unhide HY).1.2.2.box (unhide HY).1.1.row (by decide) hc6, ((unhide HQ).1.mono (Nat.le_trans (unhide HBS) (unhide HQ).2.1)).box (unhide HY).1.1.row (by decide) hc6, (unhide HY).1.2.1.box (unhide HY).1.1.row (by decide) hc6, fun k j hk hj => Nat.lt_of_lt_of_le (hj.elim (fun e => ((unhide HQ).2.2.1.m.lt e).2) (fun e => ((unhide HQ).2.2.1.mb.lt e).2)) ((unhide HQ).1.lt hk).1⟩ ⟨(unhide HY).1.1.cq.1, (unhide HY).1.1.cq.2.1, fun k hk => Or.inr (Nat.le_trans (unhide HQ).2.1 ((unhide HQ).1.lt hk).1)⟩); clear hr6 hc6 HY)
      | (refine bx_ldH 56 (.tmp 2) (by exact rfl) b (by exact rfl) (by exact rfl) _ _ (unhide HZ).row Tryz.underlying56 (Tryz.size32 _ _ _) ?_)
      | (go_at_call 90; refine (win_any (unhide HZ).pf (Nat.le_trans (unhide HZ).hw (unhide HZ).bel.size) (unhide HNN).1 (unhide HNN).2 (unhide HL) (unhide HU).1 (unhide HUm) (unhide HF0)).mono ?_; rintro e w8 ⟨x8, rfl, hp8, hc8⟩; obtain ⟨s2, x2, n2, h2⟩ := (unhide HZ).row2; have HW8 := hide (And.intro hp8 (And.intro ((unhide HZ).bel.trans hc8 (fun i hi => ((unhide HZ).cq.kx i hi))) (Kx.row (unhide HZ).pf hc8 h2 (by decide)))); clear hp8 hc8 h2)
      | (refine bx_st rfl 56 _ _ rfl b2 _ _ rfl rfl (unhide HW8).2.2 (Tryz.size32 _ _ _) rfl (pc_one _ _ _) ?_; intro w9 hr9 hc9; have HR9 := hide (And.intro hr9 (And.intro (ch_off (unhide HW8).2.1 hc9 (unhide HZ).ge2) ((unhide HW8).1.box (unhide HW8).2.2 hc9))); clear hr9 hc9))
    refine bodyPost_ret (res2 (p := 4) (q := 5) rfl Tryz.underlying56 (Tryz.size32 _ _ _) (unhide HR9).1 _ _ rfl rfl) rfl ⟨_, none, 0, rfl, (unhide HR9).2.2, El.O.nil _ _, (unhide HR9).2.1⟩
end Go.Proofs.YthipgcojbhcdgaaGreat
