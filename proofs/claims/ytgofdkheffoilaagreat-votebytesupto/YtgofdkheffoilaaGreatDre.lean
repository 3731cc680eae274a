/- Read of the document: the walk. -/
import Derived.Test.YtgofdkheffoilaaGreatDrd
import Derived.Test.YtgofdkheffoilaaGreatDso
import Derived.Test.YtgofdkheffoilaaGreatFol
namespace Go.Proofs.YtgofdkheffoilaaGreat
open Go.RowKit Go.Maps
theorem szR (s : ByteArray) (f : Bool) : (Tryz.prog.info? 82).map (·.size) = some (#[Value.string s, Value.bool f] : Array Value).size := by kernel_rfl
theorem Rg.app {W w w' : World} {B b0 br b5 : Nat} {s : ByteArray} {f : Bool} {m : GM} {x : GX} {v : Value} {l : List (GE × GA)} {o : Obj} (h : Rg W w B b0 br b5 s f m x) (hv : EG.O B w v l) (hW : W.heap.size ≤ B) (hg : (w.alloc o).grownBy w' v.ownBlock) : Rg W w' B b0 br b5 s f m x := by
  have h2 := h.next ((Bel.refl w).alloc o)
  have ne : ∀ b, b < B → v.ownBlock ≠ some b := fun b hb e => by have := (hv.lt e).1; omega
  refine ⟨(hg.block b0 (lt_of_some h2.row0) (fun e => ne b0 h.l0 e.symm)).trans h2.row0, (hg.block br (lt_of_some h2.r) (fun e => ne br h.lr e.symm)).trans h2.r, (hg.block b5 (lt_of_some h2.row) (fun e => ne b5 h.l5 e.symm)).trans h2.row, bel_grown h2.bel hg (fun k hk => Nat.le_trans hW (hv.lt hk).1), h.ge0, h.ger, h.ge5, h.n05, h.nr5, h.n0r, h.l0, h.lr, h.l5, Nat.le_trans h2.lB hg.size⟩
theorem qnum_bad (m : Nat) (s : ByteArray) : (qnum m s true).2.2 = true := by unfold qnum; split <;> rfl
theorem qints_bad (s : ByteArray) : (qints s true).2.2 = true := by
  unfold qints
  rw [qnum_bad]
  cases (qnum 1048576 s true).1 <;> simp [qintsN]
theorem qtext_bad (s : ByteArray) : (qtext s true).2.2 = true := by unfold qtext; split <;> rfl
theorem Gr.wide {W w w' : World} {B b0 br b5 : Nat} {s : ByteArray} {f : Bool} {m : GM} {x : GX} {m' : GM} {x' : GX} (h : Rg W w B b0 br b5 s f m x) (g : Gr B w' m' x') : Gr W.heap.size w' m' x' := g.mono (by have := h.ge0; have := h.l0; omega)
section
variable {ops : Array Oper} {Q : Exit → Act → World → Prop} {md : Region.Mode} {S : World → Prop} {i j : Nat} {o o' : Oper} {fuel : Nat} {listed : Array Bool} {a : Act} {w : World}
theorem any_skp {w' : World} (hr : Region.ready md ops listed = [i]) (hi : ops[i]? = some o) (hw : Region.wanted o (yielded ops a.tmps) = true) (hrun : (execOp a.eval o).run Tryz.prog w = .ok .skip w')
    (hK : S w' ∧ wpAnyH Tryz.prog md ops Q S fuel (listed.setIfInBounds i true) (a.put o.dst undef) w') : wpAnyH Tryz.prog md ops Q S (fuel + 1) listed a w := by
  refine wpAnyH_all hr (by simp) (fun j hj => ?_)
  rw [List.mem_singleton.1 hj]
  unfold wpOp
  simp only [hi, hw, if_true, Oper.wp, hrun, Oper.upon_skip]
  exact .inl hK
/-- A value or a call may come up. -/
theorem any_vc {vi : Value} {f : FuncId} {args : Array Value} {R : Ending → World → Prop} (hr : Region.ready md ops listed = [i, j]) (hi : ops[i]? = some o) (hj : ops[j]? = some o') (hwi : Region.wanted o (yielded ops a.tmps) = true) (hwj : Region.wanted o' (yielded ops a.tmps) = true) (hi2 : (execOp a.eval o).run Tryz.prog w = .ok (.value vi) w) (hj2 : (execOp a.eval o').run Tryz.prog w = .ok (.enter f args) w) (hc : Calls Tryz.prog f args w R)
    (hKi : S w ∧ wpAnyH Tryz.prog md ops Q S fuel (listed.setIfInBounds i true) (a.put o.dst vi) w) (hKj : ∀ e w', R e w' → ∃ v, e = .returned v ∧ S w' ∧ wpAnyH Tryz.prog md ops Q S fuel (listed.setIfInBounds j true) (a.put o'.dst v) w') : wpAnyH Tryz.prog md ops Q S (fuel + 1) listed a w := by
  refine wpAnyH_all hr (by simp) (fun k hk => ?_)
  rcases List.mem_cons.1 hk with rfl | hk
  · unfold wpOp
    simp only [hi, hwi, if_true, Oper.wp, hi2, Oper.upon_value]
    exact .inl hKi
  · rw [List.mem_singleton.1 hk]
    unfold wpOp
    simp only [hj, hwj, if_true, Oper.wp, hj2, Oper.upon_enter]
    refine .inl (hc.mono ?_)
    intro e w' he
    obtain ⟨v, rfl, h1, h2⟩ := hKj e w' he
    exact ⟨h1, h2⟩
/-- One of two values may come up. -/
theorem any_vv {vi vj : Value} {wi wj : World} (hr : Region.ready md ops listed = [i, j]) (hi : ops[i]? = some o) (hj : ops[j]? = some o') (hwi : Region.wanted o (yielded ops a.tmps) = true) (hwj : Region.wanted o' (yielded ops a.tmps) = true) (hi2 : (execOp a.eval o).run Tryz.prog w = .ok (.value vi) wi) (hj2 : (execOp a.eval o').run Tryz.prog w = .ok (.value vj) wj)
    (hKi : S wi ∧ wpAnyH Tryz.prog md ops Q S fuel (listed.setIfInBounds i true) (a.put o.dst vi) wi) (hKj : S wj ∧ wpAnyH Tryz.prog md ops Q S fuel (listed.setIfInBounds j true) (a.put o'.dst vj) wj) : wpAnyH Tryz.prog md ops Q S (fuel + 1) listed a w := by
  refine wpAnyH_all hr (by simp) (fun k hk => ?_)
  rcases List.mem_cons.1 hk with rfl | hk
  · unfold wpOp
    simp only [hi, hwi, if_true, Oper.wp, hi2, Oper.upon_value]
    exact .inl hKi
  · rw [List.mem_singleton.1 hk]
    unfold wpOp
    simp only [hj, hwj, if_true, Oper.wp, hj2, Oper.upon_value]
    exact .inl hKj
end
set_option maxRecDepth 100000 in
set_option maxHeartbeats 16000000 in
theorem refRead_any (s : ByteArray) (hs : s.size ≤ 1048576) (W : World)
    (HMay : ∀ W' x base, Gr base W' (qmsg s false).1 x → Calls Tryz.prog 10 #[.agg (mg (qmsg s false).1 x)] W' fun e w' => e = .returned (.bool (mayMB (qmsg s false).1)) ∧ Bel W' w')
    (HByt : mayMB (qmsg s false).1 = true → ∀ W' x base, Gr base W' (qmsg s false).1 x → Calls Tryz.prog 11 #[.agg (mg (qmsg s false).1 x)] W' fun e w' => e = .returned (.string ⟨(msgb (qmsg s false).1).toArray⟩) ∧ Bel W' w') :
    Calls Tryz.prog 8 #[.string s] W fun e w' => ∃ x, e = .returned (.tuple #[.agg (mg (rdD s) x), .int .i64 (if okD s then 0 else 2)]) ∧ Gr W.heap.size w' (rdD s) x ∧ Bel W w' := by
  obtain ⟨v0, s0, g0, v1, s1, g1, v2, s2, g2, v3, s3, g3, v4, s4, g4, v5, s5, g5, v6, s6, g6, v7, s7, g7, v8, s8, g8, v9, s9, g9, v10, s10, g10, v11, s11, g11, e0, e1, e2, e3, e4, e5, e6, e7, e8, e9, e10, e11, e⟩ := qmsg_steps s false
  unfold rdD okD
  rw [e] at HMay HByt ⊢
  simp only at HMay HByt ⊢
  have HM := hide HMay
  have HY := hide HByt
  clear HMay HByt e
  have f0 := qbyte_facts s false
  rw [e0] at f0
  simp only at f0
  have H0 : Hid (∀ W' b, Rsf W' b s false → Calls Tryz.prog 30 #[.pointer (some ⟨b, 0, none⟩)] W' fun e w' => e = .returned (.int .u8 (v0 : Int)) ∧ Rsf w' b s0 g0 ∧ Ch (fun i => i = b) W' w') := hide (fun W' b hr => by have z := fbyte_any hr (by omega); rw [e0] at z; exact z)
  have f1 := qnum_facts 1048576 s0 g0
  rw [e1] at f1
  simp only at f1
  have H1 : Hid (∀ W' b, Rsf W' b s0 g0 → Calls Tryz.prog 31 #[.pointer (some ⟨b, 0, none⟩), .int .u64 1048576] W' fun e w' => e = .returned (.int .u64 (v1 : Int)) ∧ Rsf w' b s1 g1 ∧ Ch (fun i => i = b) W' w') := hide (fun W' b hr => by have z := fnum_any hr (by omega) 1048576; rw [e1] at z; exact z)
  have f2 := qnum_facts 1048576 s1 g1
  rw [e2] at f2
  simp only at f2
  have H2 : Hid (∀ W' b, Rsf W' b s1 g1 → Calls Tryz.prog 31 #[.pointer (some ⟨b, 0, none⟩), .int .u64 1048576] W' fun e w' => e = .returned (.int .u64 (v2 : Int)) ∧ Rsf w' b s2 g2 ∧ Ch (fun i => i = b) W' w') := hide (fun W' b hr => by have z := fnum_any hr (by omega) 1048576; rw [e2] at z; exact z)
  have f3 := qnum_facts 18446744073709551615 s2 g2
  rw [e3] at f3
  simp only at f3
  have H3 : Hid (∀ W' b, Rsf W' b s2 g2 → Calls Tryz.prog 31 #[.pointer (some ⟨b, 0, none⟩), .int .u64 18446744073709551615] W' fun e w' => e = .returned (.int .u64 (v3 : Int)) ∧ Rsf w' b s3 g3 ∧ Ch (fun i => i = b) W' w') := hide (fun W' b hr => by have z := fnum_any hr (by omega) 18446744073709551615; rw [e3] at z; exact z)
  have f4 := qnum_facts 18446744073709551615 s3 g3
  rw [e4] at f4
  simp only at f4
  have H4 : Hid (∀ W' b, Rsf W' b s3 g3 → Calls Tryz.prog 31 #[.pointer (some ⟨b, 0, none⟩), .int .u64 18446744073709551615] W' fun e w' => e = .returned (.int .u64 (v4 : Int)) ∧ Rsf w' b s4 g4 ∧ Ch (fun i => i = b) W' w') := hide (fun W' b hr => by have z := fnum_any hr (by omega) 18446744073709551615; rw [e4] at z; exact z)
  have f5 := qnum_facts 18446744073709551615 s4 g4
  rw [e5] at f5
  simp only at f5
  have H5 : Hid (∀ W' b, Rsf W' b s4 g4 → Calls Tryz.prog 31 #[.pointer (some ⟨b, 0, none⟩), .int .u64 18446744073709551615] W' fun e w' => e = .returned (.int .u64 (v5 : Int)) ∧ Rsf w' b s5 g5 ∧ Ch (fun i => i = b) W' w') := hide (fun W' b hr => by have z := fnum_any hr (by omega) 18446744073709551615; rw [e5] at z; exact z)
  have f6 := qnum_facts 18446744073709551615 s5 g5
  rw [e6] at f6
  simp only at f6
  have H6 : Hid (∀ W' b, Rsf W' b s5 g5 → Calls Tryz.prog 31 #[.pointer (some ⟨b, 0, none⟩), .int .u64 18446744073709551615] W' fun e w' => e = .returned (.int .u64 (v6 : Int)) ∧ Rsf w' b s6 g6 ∧ Ch (fun i => i = b) W' w') := hide (fun W' b hr => by have z := fnum_any hr (by omega) 18446744073709551615; rw [e6] at z; exact z)
  have f7 := qnum_facts 18446744073709551615 s6 g6
  rw [e7] at f7
  simp only at f7
  have H7 : Hid (∀ W' b, Rsf W' b s6 g6 → Calls Tryz.prog 31 #[.pointer (some ⟨b, 0, none⟩), .int .u64 18446744073709551615] W' fun e w' => e = .returned (.int .u64 (v7 : Int)) ∧ Rsf w' b s7 g7 ∧ Ch (fun i => i = b) W' w') := hide (fun W' b hr => by have z := fnum_any hr (by omega) 18446744073709551615; rw [e7] at z; exact z)
  have f8 := qbyte_facts s7 g7
  rw [e8] at f8
  simp only at f8
  have H8 : Hid (∀ W' b, Rsf W' b s7 g7 → Calls Tryz.prog 30 #[.pointer (some ⟨b, 0, none⟩)] W' fun e w' => e = .returned (.int .u8 (v8 : Int)) ∧ Rsf w' b s8 g8 ∧ Ch (fun i => i = b) W' w') := hide (fun W' b hr => by have z := fbyte_any hr (by omega); rw [e8] at z; exact z)
  obtain ⟨n, t9, u9, en⟩ : ∃ n t9 u9, qnum 1048576 s8 g8 = (n, t9, u9) := ⟨_, _, _, prod3 _⟩
  have f9 := qnum_facts 1048576 s8 g8
  rw [en] at f9
  simp only at f9
  have H9 : Hid (∀ W' b, Rsf W' b s8 g8 → Calls Tryz.prog 31 #[.pointer (some ⟨b, 0, none⟩), .int .u64 1048576] W' fun e w' => e = .returned (.int .u64 (n : Int)) ∧ Rsf w' b t9 u9 ∧ Ch (fun i => i = b) W' w') := hide (fun W' b hr => by have z := fnum_any hr (by omega) 1048576; rw [en] at z; exact z)
  have HQN : Hid (qentsN n t9 u9 = (v9, s9, g9)) := hide (by have z := e9; unfold qents at z; rw [en] at z; exact z)
  have hn20 : n ≤ 1048576 := f9.1
  have HSZ : Hid (t9.size ≤ 1048576) := hide (by omega)
  have x1 : IntKind.i64.wrap (v1 : Int) = (v1 : Int) := wrapI (by omega) (by omega)
  have x2 : IntKind.i64.wrap (v2 : Int) = (v2 : Int) := wrapI (by omega) (by omega)
  have E10 := hide e10
  have E11 := hide e11
  clear e0 e1 e2 e3 e4 e5 e6 e7 e8 e9 e10 e11 en f0 f1 f2 f3 f4 f5 f6 f7 f8 f9 hs
  go_enter Tryz.func8, Tryz.ntmps8
  go_wp2_with (first
    | go_skip
    | (refine bx_new rfl 27 rfl _ zeroM ?_; intro b5 w2 hr2 hs2 hb2; have HG : Hid (Rg W w2 w2.heap.size b0 br b5 s false gz gzx) := hide ⟨hb2.row (unhide HR).1, (unhide HR).2.1.bel hb2, hr2, (unhide HR).2.2.1.trans hb2, (unhide HR).2.2.2.1, (unhide HR).2.2.2.2.1, (show W.heap.size ≤ b5 by have := (unhide HR).2.2.1.size; omega), (show b0 ≠ b5 from fun e => by have := lt_of_some (unhide HR).1; omega), (show br ≠ b5 from fun e => by have := lt_of_some (unhide HR).2.1; omega), (unhide HR).2.2.2.2.2, lt_of_some (hb2.row (unhide HR).1), lt_of_some ((unhide HR).2.1.bel hb2), lt_of_some hr2, Nat.le_refl _⟩; generalize w2.heap.size = B at *; clear hr2 hs2 hb2 HR)
    | (refine bx_new rfl 27 rfl _ zeroM ?_; intro b0 w0 hr0 hs0 hb0; have HA := hide (And.intro hr0 (And.intro hb0 (Nat.le_of_eq hs0))); clear hr0 hs0 hb0)
    | (refine bx_box rfl 82 (.tmp 9) rfl #[.string s, .bool false] rfl ?_; intro br w1 hr1 hs1 hb1; have HR := hide (And.intro (hb1.row (unhide HA).1) (And.intro (show Rsf w1 br s false from hr1) (And.intro ((unhide HA).2.1.trans hb1) (And.intro (unhide HA).2.2 (And.intro (show W.heap.size ≤ br by have := (unhide HA).2.1.size; omega) (show b0 ≠ br from fun e => by have := lt_of_some (unhide HA).1; omega)))))); clear hr1 hs1 hb1 HA)
    | (go_at_call 30; refine ((unhide H0) _ _ (unhide HG).r).mono ?_; rintro e w3 ⟨rfl, hr3, hc3⟩; replace HG := hide ((unhide HG).read hr3 hc3); clear hr3 hc3 H0)
    | (go_at_call 31; refine ((unhide H1) _ _ (unhide HG).r).mono ?_; rintro e w3 ⟨rfl, hr3, hc3⟩; replace HG := hide ((unhide HG).read hr3 hc3); clear hr3 hc3 H1)
    | (go_at_call 31; refine ((unhide H2) _ _ (unhide HG).r).mono ?_; rintro e w3 ⟨rfl, hr3, hc3⟩; replace HG := hide ((unhide HG).read hr3 hc3); clear hr3 hc3 H2)
    | (go_at_call 31; refine ((unhide H3) _ _ (unhide HG).r).mono ?_; rintro e w3 ⟨rfl, hr3, hc3⟩; replace HG := hide ((unhide HG).read hr3 hc3); clear hr3 hc3 H3)
    | (go_at_call 31; refine ((unhide H4) _ _ (unhide HG).r).mono ?_; rintro e w3 ⟨rfl, hr3, hc3⟩; replace HG := hide ((unhide HG).read hr3 hc3); clear hr3 hc3 H4)
    | (go_at_call 31; refine ((unhide H5) _ _ (unhide HG).r).mono ?_; rintro e w3 ⟨rfl, hr3, hc3⟩; replace HG := hide ((unhide HG).read hr3 hc3); clear hr3 hc3 H5)
    | (go_at_call 31; refine ((unhide H6) _ _ (unhide HG).r).mono ?_; rintro e w3 ⟨rfl, hr3, hc3⟩; replace HG := hide ((unhide HG).read hr3 hc3); clear hr3 hc3 H6)
    | (go_at_call 31; refine ((unhide H7) _ _ (unhide HG).r).mono ?_; rintro e w3 ⟨rfl, hr3, hc3⟩; replace HG := hide ((unhide HG).read hr3 hc3); clear hr3 hc3 H7)
    | (go_at_call 30; refine ((unhide H8) _ _ (unhide HG).r).mono ?_; rintro e w3 ⟨rfl, hr3, hc3⟩; replace HG := hide ((unhide HG).read hr3 hc3); clear hr3 hc3 H8)
    | (go_at_call 31; refine ((unhide H9) _ _ (unhide HG).r).mono ?_; rintro e w3 ⟨rfl, hr3, hc3⟩; replace HG := hide ((unhide HG).read hr3 hc3); clear hr3 hc3 H9)
    | (refine bx_set rfl 22 (.tmp 13) (.tmp 12) rfl b5 0 _ rfl rfl rfl rfl _ 27 (unhide HG).row sz22 (show 0 < 12 by decide) ?_; intro w4 hr4 hc4; replace HG : Hid (Rg W w4 B b0 br b5 s0 g0 ⟨(v0 : Int), 0, 0, 0, 0, 0, 0, 0, false, [], [], ⟨#[]⟩⟩ gzx) := hide ((unhide HG).set hr4 hc4); clear hr4 hc4)
    | (refine bx_set rfl 3 (.tmp 17) (.tmp 16) rfl b5 1 _ rfl rfl rfl rfl _ 27 (unhide HG).row sz3 (show 1 < 12 by decide) ?_; intro w4 hr4 hc4; replace HG : Hid (Rg W w4 B b0 br b5 s1 g1 ⟨(v0 : Int), (v1 : Int), 0, 0, 0, 0, 0, 0, false, [], [], ⟨#[]⟩⟩ gzx) := hide ((unhide HG).set hr4 hc4); clear hr4 hc4)
    | (refine bx_set rfl 3 (.tmp 21) (.tmp 20) rfl b5 2 _ rfl rfl rfl rfl _ 27 (unhide HG).row sz3 (show 2 < 12 by decide) ?_; intro w4 hr4 hc4; replace HG : Hid (Rg W w4 B b0 br b5 s2 g2 ⟨(v0 : Int), (v1 : Int), (v2 : Int), 0, 0, 0, 0, 0, false, [], [], ⟨#[]⟩⟩ gzx) := hide ((unhide HG).set hr4 hc4); clear hr4 hc4)
    | (refine bx_set rfl 23 (.tmp 24) (.tmp 23) rfl b5 3 _ rfl rfl rfl rfl _ 27 (unhide HG).row sz23 (show 3 < 12 by decide) ?_; intro w4 hr4 hc4; replace HG : Hid (Rg W w4 B b0 br b5 s3 g3 ⟨(v0 : Int), (v1 : Int), (v2 : Int), (v3 : Int), 0, 0, 0, 0, false, [], [], ⟨#[]⟩⟩ gzx) := hide ((unhide HG).set hr4 hc4); clear hr4 hc4)
    | (refine bx_set rfl 23 (.tmp 27) (.tmp 26) rfl b5 4 _ rfl rfl rfl rfl _ 27 (unhide HG).row sz23 (show 4 < 12 by decide) ?_; intro w4 hr4 hc4; replace HG : Hid (Rg W w4 B b0 br b5 s4 g4 ⟨(v0 : Int), (v1 : Int), (v2 : Int), (v3 : Int), (v4 : Int), 0, 0, 0, false, [], [], ⟨#[]⟩⟩ gzx) := hide ((unhide HG).set hr4 hc4); clear hr4 hc4)
    | (refine bx_set rfl 23 (.tmp 30) (.tmp 29) rfl b5 5 _ rfl rfl rfl rfl _ 27 (unhide HG).row sz23 (show 5 < 12 by decide) ?_; intro w4 hr4 hc4; replace HG : Hid (Rg W w4 B b0 br b5 s5 g5 ⟨(v0 : Int), (v1 : Int), (v2 : Int), (v3 : Int), (v4 : Int), (v5 : Int), 0, 0, false, [], [], ⟨#[]⟩⟩ gzx) := hide ((unhide HG).set hr4 hc4); clear hr4 hc4)
    | (refine bx_set rfl 23 (.tmp 33) (.tmp 32) rfl b5 6 _ rfl rfl rfl rfl _ 27 (unhide HG).row sz23 (show 6 < 12 by decide) ?_; intro w4 hr4 hc4; replace HG : Hid (Rg W w4 B b0 br b5 s6 g6 ⟨(v0 : Int), (v1 : Int), (v2 : Int), (v3 : Int), (v4 : Int), (v5 : Int), (v6 : Int), 0, false, [], [], ⟨#[]⟩⟩ gzx) := hide ((unhide HG).set hr4 hc4); clear hr4 hc4)
    | (refine bx_set rfl 23 (.tmp 36) (.tmp 35) rfl b5 7 _ rfl rfl rfl rfl _ 27 (unhide HG).row sz23 (show 7 < 12 by decide) ?_; intro w4 hr4 hc4; replace HG : Hid (Rg W w4 B b0 br b5 s7 g7 ⟨(v0 : Int), (v1 : Int), (v2 : Int), (v3 : Int), (v4 : Int), (v5 : Int), (v6 : Int), (v7 : Int), false, [], [], ⟨#[]⟩⟩ gzx) := hide ((unhide HG).set hr4 hc4); clear hr4 hc4)
    | (refine bx_set rfl 4 (.tmp 40) (.tmp 39) rfl b5 8 _ rfl rfl rfl rfl _ 27 (unhide HG).row sz4 (show 8 < 12 by decide) ?_; intro w4 hr4 hc4; replace HG : Hid (Rg W w4 B b0 br b5 s8 g8 ⟨(v0 : Int), (v1 : Int), (v2 : Int), (v3 : Int), (v4 : Int), (v5 : Int), (v6 : Int), (v7 : Int), (decide ((v8 : Int) = 1)), [], [], ⟨#[]⟩⟩ gzx) := hide ((unhide HG).set hr4 hc4); clear hr4 hc4))
  go_loopw [7] (fun vk wr => ∃ (k : Nat) (l : List (GE × GA)) (sk : ByteArray) (fk : Bool) (a : Option Addr) (c : Nat), k ≤ n ∧ vk = .int .u64 k ∧ l.length = k ∧ Hid (sk.size ≤ 1048576) ∧ Hid (Rg W wr B b0 br b5 sk fk ⟨(v0 : Int), (v1 : Int), (v2 : Int), (v3 : Int), (v4 : Int), (v5 : Int), (v6 : Int), (v7 : Int), decide ((v8 : Int) = 1), l.map (·.1), [], ⟨#[]⟩⟩ ⟨a, c, l, none, 0⟩ ∧ EG.O B wr (.slice a k c) l ∧ Gn B wr l) ∧ Hid (qentsN n t9 u9 = (l.map (·.1) ++ (qentsN (n - k) sk fk).1, (qentsN (n - k) sk fk).2))) (fun vk _ => n - (intOf vk).toNat)
  case atStart => exact ⟨0, [], t9, u9, none, 0, Nat.zero_le _, rfl, rfl, HSZ, hide ⟨unhide HG, El.O.nil _ _, fun x hx => by simp at hx⟩, hide rfl⟩
  case round =>
    obtain ⟨k, l, sk, fk, ak, ck, hk, rfl, hlk, HSk, HQ, HE⟩ := hrel
    have c1 := (unhide HQ).1.r.c1
    by_cases hlt : k < n
    · have hkn : (k : Int) < n := by omega
      cases fk with
      | true =>
        have HZ0 : (l.map (·.1), sk, true) = (v9, s9, g9) := by
          rw [← unhide HQN, unhide HE, show n - k = (n - (k + 1)) + 1 by omega]
          simp [qentsN]
        obtain rfl : v9 = l.map (·.1) := (congrArg (·.1) HZ0).symm
        obtain rfl : s9 = sk := (congrArg (·.2.1) HZ0).symm
        obtain rfl : g9 = true := (congrArg (·.2.2) HZ0).symm
        have H10 : Hid (∀ W' b, Rsf W' b s9 true → Calls Tryz.prog 33 #[.pointer (some ⟨b, 0, none⟩)] W' fun e w' => ∃ a c, e = .returned (.slice a v10.length c) ∧ Rk E3 W' w' b s10 g10 (.slice a v10.length c) v10) := hide (fun W' b hr => by have z := fints_any hr (by have := unhide HSk; omega); rw [unhide E10] at z; exact z)
        have H11 : Hid (∀ W' b, Rsf W' b s10 g10 → Calls Tryz.prog 34 #[.pointer (some ⟨b, 0, none⟩)] W' fun e w' => e = .returned (.string v11) ∧ Rsf w' b s11 g11 ∧ Ch (fun i => i = b) W' w') := hide (fun W' b hr => by have z := ftext_any hr (by have := unhide HSk; have q := (qints_facts s9 true).2; rw [unhide E10] at q; simp only at q; omega); rw [unhide E11] at z; exact z)
        have HLk := hide hlk
        have z10 := qints_bad s9
        rw [unhide E10] at z10
        simp only at z10
        subst z10
        have z11 := qtext_bad s10
        rw [unhide E11] at z11
        simp only at z11
        subst z11
        have HC : ((!true && decide (s11.size = 0)) && (mayMB ⟨(v0 : Int), (v1 : Int), (v2 : Int), (v3 : Int), (v4 : Int), (v5 : Int), (v6 : Int), (v7 : Int), decide ((v8 : Int) = 1), l.map (·.1), v10, v11⟩ && decide ((⟨(msgb ⟨(v0 : Int), (v1 : Int), (v2 : Int), (v3 : Int), (v4 : Int), (v5 : Int), (v6 : Int), (v7 : Int), decide ((v8 : Int) = 1), l.map (·.1), v10, v11⟩).toArray⟩ : ByteArray) = s))) = false := by simp
        clear HZ0 E10 E11 HE HQN hlk hk
        go_wp2_with (first
          | go_skip
          | (go_at_call 33; refine ((unhide H10) _ _ (unhide HQ).1.r).mono ?_; rintro e w3 ⟨a2, c2, rfl, hk3⟩; have HG := hide (And.intro ((unhide HQ).1.read hk3.r hk3.ch) (And.intro ((unhide HQ).2.1.off hk3.ch (unhide HQ).1.lr) (And.intro ((unhide HQ).2.2.off hk3.ch (unhide HQ).1.lr) (hk3.o.mono (unhide HQ).1.lB)))); clear hk3 HQ)
          | (refine bx_set rfl 25 (.tmp 64) (.tmp 63) rfl b5 10 _ rfl rfl rfl rfl _ 27 (unhide HG).1.row sz25 (show 10 < 12 by decide) ?_; intro w4 hr4 hc4; replace HG : Hid (Rg W w4 B b0 br b5 s10 true ⟨(v0 : Int), (v1 : Int), (v2 : Int), (v3 : Int), (v4 : Int), (v5 : Int), (v6 : Int), (v7 : Int), decide ((v8 : Int) = 1), l.map (·.1), v10, ⟨#[]⟩⟩ ⟨ak, ck, l, a2, c2⟩ ∧ EG.O B w4 (.slice ak k ck) l ∧ Gn B w4 l ∧ E3.O B w4 (.slice a2 v10.length c2) v10) := hide ⟨(unhide HG).1.set hr4 hc4, (unhide HG).2.1.off hc4 (unhide HG).1.l5, (unhide HG).2.2.1.off hc4 (unhide HG).1.l5, (unhide HG).2.2.2.off hc4 (unhide HG).1.l5⟩; clear hr4 hc4)
          | (go_at_call 34; refine ((unhide H11) _ _ (unhide HG).1.r).mono ?_; rintro e w3 ⟨rfl, hr3, hc3⟩; replace HG := hide (And.intro ((unhide HG).1.read hr3 hc3) (And.intro ((unhide HG).2.1.off hc3 (unhide HG).1.lr) (And.intro ((unhide HG).2.2.1.off hc3 (unhide HG).1.lr) ((unhide HG).2.2.2.off hc3 (unhide HG).1.lr)))); clear hr3 hc3)
          | (refine bx_set rfl 9 (.tmp 67) (.tmp 66) rfl b5 11 _ rfl rfl rfl rfl _ 27 (unhide HG).1.row sz9 (show 11 < 12 by decide) ?_; intro w4 hr4 hc4; have HD : Hid (Rg W w4 B b0 br b5 s11 true ⟨(v0 : Int), (v1 : Int), (v2 : Int), (v3 : Int), (v4 : Int), (v5 : Int), (v6 : Int), (v7 : Int), decide ((v8 : Int) = 1), l.map (·.1), v10, v11⟩ ⟨ak, ck, l, a2, c2⟩ ∧ Gr B w4 ⟨(v0 : Int), (v1 : Int), (v2 : Int), (v3 : Int), (v4 : Int), (v5 : Int), (v6 : Int), (v7 : Int), decide ((v8 : Int) = 1), l.map (·.1), v10, v11⟩ ⟨ak, ck, l, a2, c2⟩) := hide ⟨(unhide HG).1.set hr4 hc4, rfl, (by have z := (unhide HG).2.1.off hc4 (unhide HG).1.l5; have e9 : (l.map (·.1)).length = k := (by rw [List.length_map]; exact unhide HLk); simp only [e9]; exact z), (unhide HG).2.2.1.off hc4 (unhide HG).1.l5, (unhide HG).2.2.2.off hc4 (unhide HG).1.l5⟩; clear hr4 hc4 HG; have c0 := (unhide HD).1.r.c0; have c1 := (unhide HD).1.r.c1)
          | (refine ld_w 27 (.tmp 5) (by exact rfl) b5 (by exact rfl) (by exact rfl) _ _ (unhide HD).1.row Tryz.underlying27 (szM _ _) ?_)
          | (go_at_call 10; refine ((unhide HM) _ _ _ (unhide HD).2).mono ?_; rintro e w6 ⟨rfl, hb6⟩; replace HD := hide (And.intro ((unhide HD).1.next hb6) ((unhide HD).2.bel hb6)); clear hb6 c0 c1)
          | (refine bx_st rfl 27 (.tmp 2) (.tmp 90) rfl b0 (mg gz gzx) _ rfl rfl (unhide HD).1.row0 (szM _ _) rfl (mg_one _ _) ?_; intro w7 hr7 hc7; have HZ := hide (And.intro hr7 (bel_off (unhide HD).1.bel hc7 (unhide HD).1.ge0)); clear hr7 hc7)
          | go_guarded)
        all_goals exact bodyPost_ret (res2 (p := 2) (q := 3) rfl Tryz.underlying27 (szM _ _) (unhide HZ).1 _ _ rfl rfl) rfl ⟨gzx, by first | rfl | (rw [HC]; rfl), by first | exact Gr.none _ _ | (rw [HC]; exact Gr.none _ _), (unhide HZ).2⟩
      | false =>
        have HI : Hid (∀ W', Rsf W' br sk false → Calls Tryz.prog 32 #[.pointer (some ⟨br, 0, none⟩)] W' fun e w' => ∃ ga, e = .returned (.agg (encG ((qent sk false).1, ga)).toArray) ∧ E3.O W'.heap.size w' (.slice ga.a (qent sk false).1.m.length ga.c) (qent sk false).1.m ∧ Rsf w' br (qent sk false).2.1 (qent sk false).2.2 ∧ Ch (fun i => i = br) W' w') := hide (fun W' hr => fentry_any hr (by have := unhide HSk; omega))
        have hpf := qent_facts sk false
        have HSn : Hid ((qent sk false).2.1.size ≤ 1048576) := hide (Nat.le_trans hpf.2.2 (unhide HSk))
        have HE2 : Hid (qentsN n t9 u9 = ((l.map (·.1) ++ [(qent sk false).1]) ++ (qentsN (n - (k + 1)) (qent sk false).2.1 (qent sk false).2.2).1, (qentsN (n - (k + 1)) (qent sk false).2.1 (qent sk false).2.2).2)) := hide (by
          rw [unhide HE, show n - k = (n - (k + 1)) + 1 by omega]
          simp [qentsN])
        generalize qent sk false = r at *
        obtain ⟨x, s2, f2⟩ := r
        simp only at HI HE2 HSn hpf
        have hkw : IntKind.u64.wrap ((k : Int) + 1) = (k : Int) + 1 := by rw [IntKind.wrap_u64]; omega
        have HLk := hide hlk
        clear hpf hlk
        go_wp2_with fail
        obtain ⟨t, kd, d, mm⟩ := x
        unfold encG at HI
        simp only at HI
        have HWB : Hid (W.heap.size ≤ B) := hide (by have := (unhide HQ).1.ge0; have := (unhide HQ).1.l0; omega)
        refine wp_region_held_drew (S := fun _ => True) Tryz.follows trivial (fun hS => ?_)
        refine any_take (i := 0) (v := .pointer (some ⟨b5, 9, none⟩)) rfl (by kernel_rfl) (by kernel_rfl) (by kernel_rfl) (fun _ _ _ h => h) rfl hS (fun w _ => by go_simp) ?_
        refine any_take (i := 2) (v := .pointer (some ⟨br, 0, none⟩)) rfl (by kernel_rfl) (by kernel_rfl) (by kernel_rfl) (fun _ _ _ h => h) rfl hS (fun w _ => by go_simp) ?_
        have HQd := hide (And.intro ((unhide HQ).1.next (Bel.refl wr).drew) (And.intro ((unhide HQ).2.1.bel (Bel.refl wr).drew) ((unhide HQ).2.2.bel (Bel.refl wr).drew)))
        have c9 : wr.drew.cell? ⟨b5, 9, none⟩ = some (.slice ak k ck) := by have z := (Mb2.of (unhide HQd).1.row).c9; simp only [List.length_map, unhide HLk] at z; exact z
        generalize wr.drew = wd at *
        clear c1 HQ
        refine any_vc (i := 1) (j := 3) (vi := .slice ak k ck) (by kernel_rfl) rfl rfl rfl rfl (by go_simp) (by go_simp) ((unhide HI) _ (unhide HQd).1.r) ⟨trivial, ?_⟩ ?_
        · refine any_call (i := 3) (by kernel_rfl) rfl rfl (by go_simp) ((unhide HI) _ (unhide HQd).1.r) ?_
          rintro e w5 ⟨ga, rfl, ho5, hr5, hc5⟩
          refine ⟨_, rfl, trivial, ?_⟩
          have HQ5 := hide (And.intro ((unhide HQd).1.read hr5 hc5) (And.intro ((unhide HQd).2.1.off hc5 (unhide HQd).1.lr) (And.intro ((unhide HQd).2.2.off hc5 (unhide HQd).1.lr) (ho5.mono (unhide HQd).1.lB))))
          clear ho5 hr5 hc5
          have c95 : w5.cell? ⟨b5, 9, none⟩ = some (.slice ak k ck) := by have z := (Mb2.of (unhide HQ5).1.row).c9; simp only [List.length_map, unhide HLk] at z; exact z
          have HBa : Hid (Bel w5 (w5.alloc (.cells #[.int .u64 t, .int .u8 kd, .string d, .slice ga.a mm.length ga.c] 72))) := hide ((Bel.refl w5).alloc _)
          have HSO : Hid (Sl EG (w5.alloc (.cells #[.int .u64 t, .int .u8 kd, .string d, .slice ga.a mm.length ga.c] 72)) (some ⟨w5.heap.size, 0, none⟩) [(⟨t, kd, d, mm⟩, ga)]) := hide (sl_one (E := EG) w5 (⟨t, kd, d, mm⟩, ga))
          refine any_do (i := 4) (v := .slice (some ⟨w5.heap.size, 0, none⟩) 1 1) (w' := w5.alloc (.cells #[.int .u64 t, .int .u8 kd, .string d, .slice ga.a mm.length ga.c] 72)) (by kernel_rfl) rfl rfl (by go_simp) ⟨trivial, ?_⟩
          obtain ⟨g6, o6, hg6, hR6⟩ := unhide HSO
          obtain ⟨va, w7, hrun7, ho7, hgr7, _⟩ := El.run_app (E := EG) (w5.alloc (.cells #[.int .u64 t, .int .u8 kd, .string d, .slice ga.a mm.length ga.c] 72)) B (.slice ak k ck) l [(⟨t, kd, d, mm⟩, ga)] ((unhide HQ5).2.1.bel (unhide HBa)) (Nat.le_trans (unhide HQ5).1.lB (unhide HBa).size) (some ⟨w5.heap.size, 0, none⟩) g6 o6 1 hg6 hR6 (by rw [unhide HLk]; simp; omega) 24
          have HQ7 : Hid (Rg W w7 B b0 br b5 s2 f2 ⟨(v0 : Int), (v1 : Int), (v2 : Int), (v3 : Int), (v4 : Int), (v5 : Int), (v6 : Int), (v7 : Int), decide ((v8 : Int) = 1), l.map (·.1), [], ⟨#[]⟩⟩ ⟨ak, ck, l, none, 0⟩) := hide ((unhide HQ5).1.app (unhide HQ5).2.1 (unhide HWB) hgr7)
          have HG7 : Hid (Gn B w7 (l ++ [(⟨t, kd, d, mm⟩, ga)])) := hide (((unhide HQ5).2.2.1.app (unhide HQ5).2.1 (by decide) hgr7).snoc (O_grown (unhide HQ5).2.2.2 (unhide HQ5).2.1 (by decide) hgr7))
          obtain ⟨a7, c7, n7, hv7, _⟩ := ho7.shape
          rw [List.length_append, unhide HLk, List.length_singleton] at hv7
          subst hv7
          have HO7 := hide ho7
          have HRn : Hid ((Builtin.append_ #[24, 24] 24 #[.slice ak k ck, .slice (some ⟨w5.heap.size, 0, none⟩) 1 1]).run Tryz.prog (w5.alloc (.cells #[.int .u64 t, .int .u8 kd, .string d, .slice ga.a mm.length ga.c] 72)) = .ok (.slice a7 (k + 1) c7) w7) := hide hrun7
          clear hrun7 ho7 hgr7 hg6 hR6
          refine any_do (i := 5) (v := .slice a7 (k + 1) c7) (w' := w7) (by kernel_rfl) rfl rfl (by have z := unhide HRn; unfold execOp; simp [resolve, invoke, builtin]; exact congrArg (fun r => Result.andThen r (fun a w' => Result.ok (Next.value a) w')) z) ⟨trivial, ?_⟩
          refine any_do (i := 6) (v := .pointer (some ⟨b5, 9, none⟩)) (w' := w7) (by kernel_rfl) rfl rfl (by go_simp) ⟨trivial, ?_⟩
          have hfr : w7.frozen? ⟨b5, 9, none⟩ = false := free_row (unhide HQ7).row
          have hc9 : w7.cell? ⟨b5, 9, none⟩ = some (.slice ak (l.map (·.1)).length ck) := (Mb2.of (unhide HQ7).row).c9
          refine any_skp (i := 7) (w' := w7.setCell ⟨b5, 9, none⟩ (.slice a7 (k + 1) c7)) (by kernel_rfl) rfl rfl (by go_simp) ⟨trivial, ?_⟩
          have hch : Ch (fun i => i = b5) w7 (w7.setCell ⟨b5, 9, none⟩ (.slice a7 (k + 1) c7)) := Ch.set (ad := ⟨b5, 9, none⟩) (Ch.refl (fun i => i = b5) w7) (Or.inl rfl) _
          have HQ8 : Hid (Rg W (w7.setCell ⟨b5, 9, none⟩ (.slice a7 (k + 1) c7)) B b0 br b5 s2 f2 ⟨(v0 : Int), (v1 : Int), (v2 : Int), (v3 : Int), (v4 : Int), (v5 : Int), (v6 : Int), (v7 : Int), decide ((v8 : Int) = 1), (l ++ [((⟨t, kd, d, mm⟩ : GE), ga)]).map (fun (y : GE × GA) => y.1), [], ⟨#[]⟩⟩ ⟨a7, c7, l ++ [(⟨t, kd, d, mm⟩, ga)], none, 0⟩ ∧ EG.O B (w7.setCell ⟨b5, 9, none⟩ (.slice a7 (k + 1) c7)) (.slice a7 (k + 1) c7) (l ++ [(⟨t, kd, d, mm⟩, ga)]) ∧ Gn B (w7.setCell ⟨b5, 9, none⟩ (.slice a7 (k + 1) c7)) (l ++ [(⟨t, kd, d, mm⟩, ga)])) := hide ⟨(unhide HQ7).set (by have z := row_set (p := 9) (v := .slice a7 (k + 1) c7) (unhide HQ7).row; have e9 : ((l ++ [((⟨t, kd, d, mm⟩ : GE), ga)]).map (·.1)).length = k + 1 := (by simp [unhide HLk]); unfold mg; simp only [e9]; exact z) hch, (unhide HO7).off hch (unhide HQ7).l5, (unhide HG7).off hch (unhide HQ7).l5⟩
          refine wpAnyH_done (by kernel_rfl) ?_ _
          generalize w7.setCell ⟨b5, 9, none⟩ (.slice a7 (k + 1) c7) = w8 at *
          clear hch hc9 hfr
          simp [Act.put]
          go_wp2_with fail
          go_roundw
          case rel => exact ⟨k + 1, l ++ [(⟨t, kd, d, mm⟩, ga)], s2, f2, a7, c7, by omega, by go_num, by simp [unhide HLk], HSn, HQ8, hide (by rw [unhide HE2]; simp)⟩
          case measure => simp [intOf]; omega
        · rintro e w5 ⟨ga, rfl, ho5, hr5, hc5⟩
          refine ⟨_, rfl, trivial, ?_⟩
          have HQ5 := hide (And.intro ((unhide HQd).1.read hr5 hc5) (And.intro ((unhide HQd).2.1.off hc5 (unhide HQd).1.lr) (And.intro ((unhide HQd).2.2.off hc5 (unhide HQd).1.lr) (ho5.mono (unhide HQd).1.lB))))
          clear ho5 hr5 hc5
          have c95 : w5.cell? ⟨b5, 9, none⟩ = some (.slice ak k ck) := by have z := (Mb2.of (unhide HQ5).1.row).c9; simp only [List.length_map, unhide HLk] at z; exact z
          have HBa : Hid (Bel w5 (w5.alloc (.cells #[.int .u64 t, .int .u8 kd, .string d, .slice ga.a mm.length ga.c] 72))) := hide ((Bel.refl w5).alloc _)
          have HSO : Hid (Sl EG (w5.alloc (.cells #[.int .u64 t, .int .u8 kd, .string d, .slice ga.a mm.length ga.c] 72)) (some ⟨w5.heap.size, 0, none⟩) [(⟨t, kd, d, mm⟩, ga)]) := hide (sl_one (E := EG) w5 (⟨t, kd, d, mm⟩, ga))
          refine any_vv (i := 1) (j := 4) (vi := .slice ak k ck) (wi := w5) (vj := .slice (some ⟨w5.heap.size, 0, none⟩) 1 1) (wj := w5.alloc (.cells #[.int .u64 t, .int .u8 kd, .string d, .slice ga.a mm.length ga.c] 72)) (by kernel_rfl) rfl rfl rfl rfl (by go_simp) (by go_simp) ⟨trivial, ?_⟩ ⟨trivial, ?_⟩
          · refine any_do (i := 4) (v := .slice (some ⟨w5.heap.size, 0, none⟩) 1 1) (w' := w5.alloc (.cells #[.int .u64 t, .int .u8 kd, .string d, .slice ga.a mm.length ga.c] 72)) (by kernel_rfl) rfl rfl (by go_simp) ⟨trivial, ?_⟩
            obtain ⟨g6, o6, hg6, hR6⟩ := unhide HSO
            obtain ⟨va, w7, hrun7, ho7, hgr7, _⟩ := El.run_app (E := EG) (w5.alloc (.cells #[.int .u64 t, .int .u8 kd, .string d, .slice ga.a mm.length ga.c] 72)) B (.slice ak k ck) l [(⟨t, kd, d, mm⟩, ga)] ((unhide HQ5).2.1.bel (unhide HBa)) (Nat.le_trans (unhide HQ5).1.lB (unhide HBa).size) (some ⟨w5.heap.size, 0, none⟩) g6 o6 1 hg6 hR6 (by rw [unhide HLk]; simp; omega) 24
            have HQ7 : Hid (Rg W w7 B b0 br b5 s2 f2 ⟨(v0 : Int), (v1 : Int), (v2 : Int), (v3 : Int), (v4 : Int), (v5 : Int), (v6 : Int), (v7 : Int), decide ((v8 : Int) = 1), l.map (·.1), [], ⟨#[]⟩⟩ ⟨ak, ck, l, none, 0⟩) := hide ((unhide HQ5).1.app (unhide HQ5).2.1 (unhide HWB) hgr7)
            have HG7 : Hid (Gn B w7 (l ++ [(⟨t, kd, d, mm⟩, ga)])) := hide (((unhide HQ5).2.2.1.app (unhide HQ5).2.1 (by decide) hgr7).snoc (O_grown (unhide HQ5).2.2.2 (unhide HQ5).2.1 (by decide) hgr7))
            obtain ⟨a7, c7, n7, hv7, _⟩ := ho7.shape
            rw [List.length_append, unhide HLk, List.length_singleton] at hv7
            subst hv7
            have HO7 := hide ho7
            have HRn : Hid ((Builtin.append_ #[24, 24] 24 #[.slice ak k ck, .slice (some ⟨w5.heap.size, 0, none⟩) 1 1]).run Tryz.prog (w5.alloc (.cells #[.int .u64 t, .int .u8 kd, .string d, .slice ga.a mm.length ga.c] 72)) = .ok (.slice a7 (k + 1) c7) w7) := hide hrun7
            clear hrun7 ho7 hgr7 hg6 hR6
            refine any_do (i := 5) (v := .slice a7 (k + 1) c7) (w' := w7) (by kernel_rfl) rfl rfl (by have z := unhide HRn; unfold execOp; simp [resolve, invoke, builtin]; exact congrArg (fun r => Result.andThen r (fun a w' => Result.ok (Next.value a) w')) z) ⟨trivial, ?_⟩
            refine any_do (i := 6) (v := .pointer (some ⟨b5, 9, none⟩)) (w' := w7) (by kernel_rfl) rfl rfl (by go_simp) ⟨trivial, ?_⟩
            have hfr : w7.frozen? ⟨b5, 9, none⟩ = false := free_row (unhide HQ7).row
            have hc9 : w7.cell? ⟨b5, 9, none⟩ = some (.slice ak (l.map (·.1)).length ck) := (Mb2.of (unhide HQ7).row).c9
            refine any_skp (i := 7) (w' := w7.setCell ⟨b5, 9, none⟩ (.slice a7 (k + 1) c7)) (by kernel_rfl) rfl rfl (by go_simp) ⟨trivial, ?_⟩
            have hch : Ch (fun i => i = b5) w7 (w7.setCell ⟨b5, 9, none⟩ (.slice a7 (k + 1) c7)) := Ch.set (ad := ⟨b5, 9, none⟩) (Ch.refl (fun i => i = b5) w7) (Or.inl rfl) _
            have HQ8 : Hid (Rg W (w7.setCell ⟨b5, 9, none⟩ (.slice a7 (k + 1) c7)) B b0 br b5 s2 f2 ⟨(v0 : Int), (v1 : Int), (v2 : Int), (v3 : Int), (v4 : Int), (v5 : Int), (v6 : Int), (v7 : Int), decide ((v8 : Int) = 1), (l ++ [((⟨t, kd, d, mm⟩ : GE), ga)]).map (fun (y : GE × GA) => y.1), [], ⟨#[]⟩⟩ ⟨a7, c7, l ++ [(⟨t, kd, d, mm⟩, ga)], none, 0⟩ ∧ EG.O B (w7.setCell ⟨b5, 9, none⟩ (.slice a7 (k + 1) c7)) (.slice a7 (k + 1) c7) (l ++ [(⟨t, kd, d, mm⟩, ga)]) ∧ Gn B (w7.setCell ⟨b5, 9, none⟩ (.slice a7 (k + 1) c7)) (l ++ [(⟨t, kd, d, mm⟩, ga)])) := hide ⟨(unhide HQ7).set (by have z := row_set (p := 9) (v := .slice a7 (k + 1) c7) (unhide HQ7).row; have e9 : ((l ++ [((⟨t, kd, d, mm⟩ : GE), ga)]).map (·.1)).length = k + 1 := (by simp [unhide HLk]); unfold mg; simp only [e9]; exact z) hch, (unhide HO7).off hch (unhide HQ7).l5, (unhide HG7).off hch (unhide HQ7).l5⟩
            refine wpAnyH_done (by kernel_rfl) ?_ _
            generalize w7.setCell ⟨b5, 9, none⟩ (.slice a7 (k + 1) c7) = w8 at *
            clear hch hc9 hfr
            simp [Act.put]
            go_wp2_with fail
            go_roundw
            case rel => exact ⟨k + 1, l ++ [(⟨t, kd, d, mm⟩, ga)], s2, f2, a7, c7, by omega, by go_num, by simp [unhide HLk], HSn, HQ8, hide (by rw [unhide HE2]; simp)⟩
            case measure => simp [intOf]; omega
          · have c96 := (unhide HBa).cell c95
            refine any_do (i := 1) (v := .slice ak k ck) (w' := w5.alloc (.cells #[.int .u64 t, .int .u8 kd, .string d, .slice ga.a mm.length ga.c] 72)) (by kernel_rfl) rfl rfl (by go_simp) ⟨trivial, ?_⟩
            obtain ⟨g6, o6, hg6, hR6⟩ := unhide HSO
            obtain ⟨va, w7, hrun7, ho7, hgr7, _⟩ := El.run_app (E := EG) (w5.alloc (.cells #[.int .u64 t, .int .u8 kd, .string d, .slice ga.a mm.length ga.c] 72)) B (.slice ak k ck) l [(⟨t, kd, d, mm⟩, ga)] ((unhide HQ5).2.1.bel (unhide HBa)) (Nat.le_trans (unhide HQ5).1.lB (unhide HBa).size) (some ⟨w5.heap.size, 0, none⟩) g6 o6 1 hg6 hR6 (by rw [unhide HLk]; simp; omega) 24
            have HQ7 : Hid (Rg W w7 B b0 br b5 s2 f2 ⟨(v0 : Int), (v1 : Int), (v2 : Int), (v3 : Int), (v4 : Int), (v5 : Int), (v6 : Int), (v7 : Int), decide ((v8 : Int) = 1), l.map (·.1), [], ⟨#[]⟩⟩ ⟨ak, ck, l, none, 0⟩) := hide ((unhide HQ5).1.app (unhide HQ5).2.1 (unhide HWB) hgr7)
            have HG7 : Hid (Gn B w7 (l ++ [(⟨t, kd, d, mm⟩, ga)])) := hide (((unhide HQ5).2.2.1.app (unhide HQ5).2.1 (by decide) hgr7).snoc (O_grown (unhide HQ5).2.2.2 (unhide HQ5).2.1 (by decide) hgr7))
            obtain ⟨a7, c7, n7, hv7, _⟩ := ho7.shape
            rw [List.length_append, unhide HLk, List.length_singleton] at hv7
            subst hv7
            have HO7 := hide ho7
            have HRn : Hid ((Builtin.append_ #[24, 24] 24 #[.slice ak k ck, .slice (some ⟨w5.heap.size, 0, none⟩) 1 1]).run Tryz.prog (w5.alloc (.cells #[.int .u64 t, .int .u8 kd, .string d, .slice ga.a mm.length ga.c] 72)) = .ok (.slice a7 (k + 1) c7) w7) := hide hrun7
            clear hrun7 ho7 hgr7 hg6 hR6
            refine any_do (i := 5) (v := .slice a7 (k + 1) c7) (w' := w7) (by kernel_rfl) rfl rfl (by have z := unhide HRn; unfold execOp; simp [resolve, invoke, builtin]; exact congrArg (fun r => Result.andThen r (fun a w' => Result.ok (Next.value a) w')) z) ⟨trivial, ?_⟩
            refine any_do (i := 6) (v := .pointer (some ⟨b5, 9, none⟩)) (w' := w7) (by kernel_rfl) rfl rfl (by go_simp) ⟨trivial, ?_⟩
            have hfr : w7.frozen? ⟨b5, 9, none⟩ = false := free_row (unhide HQ7).row
            have hc9 : w7.cell? ⟨b5, 9, none⟩ = some (.slice ak (l.map (·.1)).length ck) := (Mb2.of (unhide HQ7).row).c9
            refine any_skp (i := 7) (w' := w7.setCell ⟨b5, 9, none⟩ (.slice a7 (k + 1) c7)) (by kernel_rfl) rfl rfl (by go_simp) ⟨trivial, ?_⟩
            have hch : Ch (fun i => i = b5) w7 (w7.setCell ⟨b5, 9, none⟩ (.slice a7 (k + 1) c7)) := Ch.set (ad := ⟨b5, 9, none⟩) (Ch.refl (fun i => i = b5) w7) (Or.inl rfl) _
            have HQ8 : Hid (Rg W (w7.setCell ⟨b5, 9, none⟩ (.slice a7 (k + 1) c7)) B b0 br b5 s2 f2 ⟨(v0 : Int), (v1 : Int), (v2 : Int), (v3 : Int), (v4 : Int), (v5 : Int), (v6 : Int), (v7 : Int), decide ((v8 : Int) = 1), (l ++ [((⟨t, kd, d, mm⟩ : GE), ga)]).map (fun (y : GE × GA) => y.1), [], ⟨#[]⟩⟩ ⟨a7, c7, l ++ [(⟨t, kd, d, mm⟩, ga)], none, 0⟩ ∧ EG.O B (w7.setCell ⟨b5, 9, none⟩ (.slice a7 (k + 1) c7)) (.slice a7 (k + 1) c7) (l ++ [(⟨t, kd, d, mm⟩, ga)]) ∧ Gn B (w7.setCell ⟨b5, 9, none⟩ (.slice a7 (k + 1) c7)) (l ++ [(⟨t, kd, d, mm⟩, ga)])) := hide ⟨(unhide HQ7).set (by have z := row_set (p := 9) (v := .slice a7 (k + 1) c7) (unhide HQ7).row; have e9 : ((l ++ [((⟨t, kd, d, mm⟩ : GE), ga)]).map (·.1)).length = k + 1 := (by simp [unhide HLk]); unfold mg; simp only [e9]; exact z) hch, (unhide HO7).off hch (unhide HQ7).l5, (unhide HG7).off hch (unhide HQ7).l5⟩
            refine wpAnyH_done (by kernel_rfl) ?_ _
            generalize w7.setCell ⟨b5, 9, none⟩ (.slice a7 (k + 1) c7) = w8 at *
            clear hch hc9 hfr
            simp [Act.put]
            go_wp2_with fail
            go_roundw
            case rel => exact ⟨k + 1, l ++ [(⟨t, kd, d, mm⟩, ga)], s2, f2, a7, c7, by omega, by go_num, by simp [unhide HLk], HSn, HQ8, hide (by rw [unhide HE2]; simp)⟩
            case measure => simp [intOf]; omega
    · obtain rfl : k = n := by omega
      have HZ0 : (l.map (·.1), sk, fk) = (v9, s9, g9) := by
        rw [← unhide HQN, unhide HE, Nat.sub_self]
        simp [qentsN]
      obtain rfl : v9 = l.map (·.1) := (congrArg (·.1) HZ0).symm
      obtain rfl : s9 = sk := (congrArg (·.2.1) HZ0).symm
      obtain rfl : g9 = fk := (congrArg (·.2.2) HZ0).symm
      have H10 : Hid (∀ W' b, Rsf W' b s9 g9 → Calls Tryz.prog 33 #[.pointer (some ⟨b, 0, none⟩)] W' fun e w' => ∃ a c, e = .returned (.slice a v10.length c) ∧ Rk E3 W' w' b s10 g10 (.slice a v10.length c) v10) := hide (fun W' b hr => by have z := fints_any hr (by have := unhide HSk; omega); rw [unhide E10] at z; exact z)
      have H11 : Hid (∀ W' b, Rsf W' b s10 g10 → Calls Tryz.prog 34 #[.pointer (some ⟨b, 0, none⟩)] W' fun e w' => e = .returned (.string v11) ∧ Rsf w' b s11 g11 ∧ Ch (fun i => i = b) W' w') := hide (fun W' b hr => by have z := ftext_any hr (by have := unhide HSk; have q := (qints_facts s9 g9).2; rw [unhide E10] at q; simp only at q; omega); rw [unhide E11] at z; exact z)
      have HLk := hide hlk
      clear HZ0 E10 E11 HE HQN hlk hk hlt hn20
      cases g11 with
      | true =>
        have HC : ((!true && decide (s11.size = 0)) && (mayMB ⟨(v0 : Int), (v1 : Int), (v2 : Int), (v3 : Int), (v4 : Int), (v5 : Int), (v6 : Int), (v7 : Int), decide ((v8 : Int) = 1), l.map (·.1), v10, v11⟩ && decide ((⟨(msgb ⟨(v0 : Int), (v1 : Int), (v2 : Int), (v3 : Int), (v4 : Int), (v5 : Int), (v6 : Int), (v7 : Int), decide ((v8 : Int) = 1), l.map (·.1), v10, v11⟩).toArray⟩ : ByteArray) = s))) = false := by simp
        go_wp2_with (first
          | go_skip
          | (go_at_call 33; refine ((unhide H10) _ _ (unhide HQ).1.r).mono ?_; rintro e w3 ⟨a2, c2, rfl, hk3⟩; have HG := hide (And.intro ((unhide HQ).1.read hk3.r hk3.ch) (And.intro ((unhide HQ).2.1.off hk3.ch (unhide HQ).1.lr) (And.intro ((unhide HQ).2.2.off hk3.ch (unhide HQ).1.lr) (hk3.o.mono (unhide HQ).1.lB)))); clear hk3 HQ)
          | (refine bx_set rfl 25 (.tmp 64) (.tmp 63) rfl b5 10 _ rfl rfl rfl rfl _ 27 (unhide HG).1.row sz25 (show 10 < 12 by decide) ?_; intro w4 hr4 hc4; replace HG : Hid (Rg W w4 B b0 br b5 s10 g10 ⟨(v0 : Int), (v1 : Int), (v2 : Int), (v3 : Int), (v4 : Int), (v5 : Int), (v6 : Int), (v7 : Int), decide ((v8 : Int) = 1), l.map (·.1), v10, ⟨#[]⟩⟩ ⟨ak, ck, l, a2, c2⟩ ∧ EG.O B w4 (.slice ak k ck) l ∧ Gn B w4 l ∧ E3.O B w4 (.slice a2 v10.length c2) v10) := hide ⟨(unhide HG).1.set hr4 hc4, (unhide HG).2.1.off hc4 (unhide HG).1.l5, (unhide HG).2.2.1.off hc4 (unhide HG).1.l5, (unhide HG).2.2.2.off hc4 (unhide HG).1.l5⟩; clear hr4 hc4)
          | (go_at_call 34; refine ((unhide H11) _ _ (unhide HG).1.r).mono ?_; rintro e w3 ⟨rfl, hr3, hc3⟩; replace HG := hide (And.intro ((unhide HG).1.read hr3 hc3) (And.intro ((unhide HG).2.1.off hc3 (unhide HG).1.lr) (And.intro ((unhide HG).2.2.1.off hc3 (unhide HG).1.lr) ((unhide HG).2.2.2.off hc3 (unhide HG).1.lr)))); clear hr3 hc3)
          | (refine bx_set rfl 9 (.tmp 67) (.tmp 66) rfl b5 11 _ rfl rfl rfl rfl _ 27 (unhide HG).1.row sz9 (show 11 < 12 by decide) ?_; intro w4 hr4 hc4; have HD : Hid (Rg W w4 B b0 br b5 s11 true ⟨(v0 : Int), (v1 : Int), (v2 : Int), (v3 : Int), (v4 : Int), (v5 : Int), (v6 : Int), (v7 : Int), decide ((v8 : Int) = 1), l.map (·.1), v10, v11⟩ ⟨ak, ck, l, a2, c2⟩ ∧ Gr B w4 ⟨(v0 : Int), (v1 : Int), (v2 : Int), (v3 : Int), (v4 : Int), (v5 : Int), (v6 : Int), (v7 : Int), decide ((v8 : Int) = 1), l.map (·.1), v10, v11⟩ ⟨ak, ck, l, a2, c2⟩) := hide ⟨(unhide HG).1.set hr4 hc4, rfl, (by have z := (unhide HG).2.1.off hc4 (unhide HG).1.l5; have e9 : (l.map (·.1)).length = k := (by rw [List.length_map]; exact unhide HLk); simp only [e9]; exact z), (unhide HG).2.2.1.off hc4 (unhide HG).1.l5, (unhide HG).2.2.2.off hc4 (unhide HG).1.l5⟩; clear hr4 hc4 HG; have c0 := (unhide HD).1.r.c0; have c1 := (unhide HD).1.r.c1)
          | (refine ld_w 27 (.tmp 5) (by exact rfl) b5 (by exact rfl) (by exact rfl) _ _ (unhide HD).1.row Tryz.underlying27 (szM _ _) ?_)
          | (go_at_call 10; refine ((unhide HM) _ _ _ (unhide HD).2).mono ?_; rintro e w6 ⟨rfl, hb6⟩; replace HD := hide (And.intro ((unhide HD).1.next hb6) ((unhide HD).2.bel hb6)); clear hb6 c0 c1)
          | (refine bx_st rfl 27 (.tmp 2) (.tmp 90) rfl b0 (mg gz gzx) _ rfl rfl (unhide HD).1.row0 (szM _ _) rfl (mg_one _ _) ?_; intro w7 hr7 hc7; have HZ := hide (And.intro hr7 (bel_off (unhide HD).1.bel hc7 (unhide HD).1.ge0)); clear hr7 hc7)
          | go_guarded)
        all_goals exact bodyPost_ret (res2 (p := 2) (q := 3) rfl Tryz.underlying27 (szM _ _) (unhide HZ).1 _ _ rfl rfl) rfl ⟨gzx, by first | rfl | (rw [HC]; rfl), by first | exact Gr.none _ _ | (rw [HC]; exact Gr.none _ _), (unhide HZ).2⟩
      | false =>
        by_cases hz : s11.size = 0
        · obtain rfl : s11 = ByteArray.empty := (ba_zero s11).2 hz
          clear hz
          cases hm : mayMB ⟨(v0 : Int), (v1 : Int), (v2 : Int), (v3 : Int), (v4 : Int), (v5 : Int), (v6 : Int), (v7 : Int), decide ((v8 : Int) = 1), l.map (·.1), v10, v11⟩ with
          | false =>
            have HC : ((!false && decide (ByteArray.empty.size = 0)) && (mayMB ⟨(v0 : Int), (v1 : Int), (v2 : Int), (v3 : Int), (v4 : Int), (v5 : Int), (v6 : Int), (v7 : Int), decide ((v8 : Int) = 1), l.map (·.1), v10, v11⟩ && decide ((⟨(msgb ⟨(v0 : Int), (v1 : Int), (v2 : Int), (v3 : Int), (v4 : Int), (v5 : Int), (v6 : Int), (v7 : Int), decide ((v8 : Int) = 1), l.map (·.1), v10, v11⟩).toArray⟩ : ByteArray) = s))) = false := by rw [hm]; simp
            rw [hm] at HM
            go_wp2_with (first
              | go_skip
              | (go_at_call 33; refine ((unhide H10) _ _ (unhide HQ).1.r).mono ?_; rintro e w3 ⟨a2, c2, rfl, hk3⟩; have HG := hide (And.intro ((unhide HQ).1.read hk3.r hk3.ch) (And.intro ((unhide HQ).2.1.off hk3.ch (unhide HQ).1.lr) (And.intro ((unhide HQ).2.2.off hk3.ch (unhide HQ).1.lr) (hk3.o.mono (unhide HQ).1.lB)))); clear hk3 HQ)
              | (refine bx_set rfl 25 (.tmp 64) (.tmp 63) rfl b5 10 _ rfl rfl rfl rfl _ 27 (unhide HG).1.row sz25 (show 10 < 12 by decide) ?_; intro w4 hr4 hc4; replace HG : Hid (Rg W w4 B b0 br b5 s10 g10 ⟨(v0 : Int), (v1 : Int), (v2 : Int), (v3 : Int), (v4 : Int), (v5 : Int), (v6 : Int), (v7 : Int), decide ((v8 : Int) = 1), l.map (·.1), v10, ⟨#[]⟩⟩ ⟨ak, ck, l, a2, c2⟩ ∧ EG.O B w4 (.slice ak k ck) l ∧ Gn B w4 l ∧ E3.O B w4 (.slice a2 v10.length c2) v10) := hide ⟨(unhide HG).1.set hr4 hc4, (unhide HG).2.1.off hc4 (unhide HG).1.l5, (unhide HG).2.2.1.off hc4 (unhide HG).1.l5, (unhide HG).2.2.2.off hc4 (unhide HG).1.l5⟩; clear hr4 hc4)
              | (go_at_call 34; refine ((unhide H11) _ _ (unhide HG).1.r).mono ?_; rintro e w3 ⟨rfl, hr3, hc3⟩; replace HG := hide (And.intro ((unhide HG).1.read hr3 hc3) (And.intro ((unhide HG).2.1.off hc3 (unhide HG).1.lr) (And.intro ((unhide HG).2.2.1.off hc3 (unhide HG).1.lr) ((unhide HG).2.2.2.off hc3 (unhide HG).1.lr)))); clear hr3 hc3)
              | (refine bx_set rfl 9 (.tmp 67) (.tmp 66) rfl b5 11 _ rfl rfl rfl rfl _ 27 (unhide HG).1.row sz9 (show 11 < 12 by decide) ?_; intro w4 hr4 hc4; have HD : Hid (Rg W w4 B b0 br b5 ByteArray.empty false ⟨(v0 : Int), (v1 : Int), (v2 : Int), (v3 : Int), (v4 : Int), (v5 : Int), (v6 : Int), (v7 : Int), decide ((v8 : Int) = 1), l.map (·.1), v10, v11⟩ ⟨ak, ck, l, a2, c2⟩ ∧ Gr B w4 ⟨(v0 : Int), (v1 : Int), (v2 : Int), (v3 : Int), (v4 : Int), (v5 : Int), (v6 : Int), (v7 : Int), decide ((v8 : Int) = 1), l.map (·.1), v10, v11⟩ ⟨ak, ck, l, a2, c2⟩) := hide ⟨(unhide HG).1.set hr4 hc4, rfl, (by have z := (unhide HG).2.1.off hc4 (unhide HG).1.l5; have e9 : (l.map (·.1)).length = k := (by rw [List.length_map]; exact unhide HLk); simp only [e9]; exact z), (unhide HG).2.2.1.off hc4 (unhide HG).1.l5, (unhide HG).2.2.2.off hc4 (unhide HG).1.l5⟩; clear hr4 hc4 HG; have c0 := (unhide HD).1.r.c0; have c1 := (unhide HD).1.r.c1)
              | (refine ld_w 27 (.tmp 5) (by exact rfl) b5 (by exact rfl) (by exact rfl) _ _ (unhide HD).1.row Tryz.underlying27 (szM _ _) ?_)
              | (go_at_call 10; refine ((unhide HM) _ _ _ (unhide HD).2).mono ?_; rintro e w6 ⟨rfl, hb6⟩; replace HD := hide (And.intro ((unhide HD).1.next hb6) ((unhide HD).2.bel hb6)); clear hb6 c0 c1)
              | (refine bx_st rfl 27 (.tmp 2) (.tmp 90) rfl b0 (mg gz gzx) _ rfl rfl (unhide HD).1.row0 (szM _ _) rfl (mg_one _ _) ?_; intro w7 hr7 hc7; have HZ := hide (And.intro hr7 (bel_off (unhide HD).1.bel hc7 (unhide HD).1.ge0)); clear hr7 hc7)
              | go_guarded)
            all_goals exact bodyPost_ret (res2 (p := 2) (q := 3) rfl Tryz.underlying27 (szM _ _) (unhide HZ).1 _ _ rfl rfl) rfl ⟨gzx, by first | rfl | (rw [HC]; rfl), by first | exact Gr.none _ _ | (rw [HC]; exact Gr.none _ _), (unhide HZ).2⟩
          | true =>
            have HYt := hide ((unhide HY) hm)
            clear HY
            have HY := HYt
            clear HYt
            by_cases hb : (⟨(msgb ⟨(v0 : Int), (v1 : Int), (v2 : Int), (v3 : Int), (v4 : Int), (v5 : Int), (v6 : Int), (v7 : Int), decide ((v8 : Int) = 1), l.map (·.1), v10, v11⟩).toArray⟩ : ByteArray) = s
            · have HC : ((!false && decide (ByteArray.empty.size = 0)) && (mayMB ⟨(v0 : Int), (v1 : Int), (v2 : Int), (v3 : Int), (v4 : Int), (v5 : Int), (v6 : Int), (v7 : Int), decide ((v8 : Int) = 1), l.map (·.1), v10, v11⟩ && decide ((⟨(msgb ⟨(v0 : Int), (v1 : Int), (v2 : Int), (v3 : Int), (v4 : Int), (v5 : Int), (v6 : Int), (v7 : Int), decide ((v8 : Int) = 1), l.map (·.1), v10, v11⟩).toArray⟩ : ByteArray) = s))) = true := by rw [hm, decide_eq_true hb]; rfl
              rw [hm] at HM
              go_wp2_with (first
                | go_skip
                | (go_at_call 33; refine ((unhide H10) _ _ (unhide HQ).1.r).mono ?_; rintro e w3 ⟨a2, c2, rfl, hk3⟩; have HG := hide (And.intro ((unhide HQ).1.read hk3.r hk3.ch) (And.intro ((unhide HQ).2.1.off hk3.ch (unhide HQ).1.lr) (And.intro ((unhide HQ).2.2.off hk3.ch (unhide HQ).1.lr) (hk3.o.mono (unhide HQ).1.lB)))); clear hk3 HQ)
                | (refine bx_set rfl 25 (.tmp 64) (.tmp 63) rfl b5 10 _ rfl rfl rfl rfl _ 27 (unhide HG).1.row sz25 (show 10 < 12 by decide) ?_; intro w4 hr4 hc4; replace HG : Hid (Rg W w4 B b0 br b5 s10 g10 ⟨(v0 : Int), (v1 : Int), (v2 : Int), (v3 : Int), (v4 : Int), (v5 : Int), (v6 : Int), (v7 : Int), decide ((v8 : Int) = 1), l.map (·.1), v10, ⟨#[]⟩⟩ ⟨ak, ck, l, a2, c2⟩ ∧ EG.O B w4 (.slice ak k ck) l ∧ Gn B w4 l ∧ E3.O B w4 (.slice a2 v10.length c2) v10) := hide ⟨(unhide HG).1.set hr4 hc4, (unhide HG).2.1.off hc4 (unhide HG).1.l5, (unhide HG).2.2.1.off hc4 (unhide HG).1.l5, (unhide HG).2.2.2.off hc4 (unhide HG).1.l5⟩; clear hr4 hc4)
                | (go_at_call 34; refine ((unhide H11) _ _ (unhide HG).1.r).mono ?_; rintro e w3 ⟨rfl, hr3, hc3⟩; replace HG := hide (And.intro ((unhide HG).1.read hr3 hc3) (And.intro ((unhide HG).2.1.off hc3 (unhide HG).1.lr) (And.intro ((unhide HG).2.2.1.off hc3 (unhide HG).1.lr) ((unhide HG).2.2.2.off hc3 (unhide HG).1.lr)))); clear hr3 hc3)
                | (refine bx_set rfl 9 (.tmp 67) (.tmp 66) rfl b5 11 _ rfl rfl rfl rfl _ 27 (unhide HG).1.row sz9 (show 11 < 12 by decide) ?_; intro w4 hr4 hc4; have HD : Hid (Rg W w4 B b0 br b5 ByteArray.empty false ⟨(v0 : Int), (v1 : Int), (v2 : Int), (v3 : Int), (v4 : Int), (v5 : Int), (v6 : Int), (v7 : Int), decide ((v8 : Int) = 1), l.map (·.1), v10, v11⟩ ⟨ak, ck, l, a2, c2⟩ ∧ Gr B w4 ⟨(v0 : Int), (v1 : Int), (v2 : Int), (v3 : Int), (v4 : Int), (v5 : Int), (v6 : Int), (v7 : Int), decide ((v8 : Int) = 1), l.map (·.1), v10, v11⟩ ⟨ak, ck, l, a2, c2⟩) := hide ⟨(unhide HG).1.set hr4 hc4, rfl, (by have z := (unhide HG).2.1.off hc4 (unhide HG).1.l5; have e9 : (l.map (·.1)).length = k := (by rw [List.length_map]; exact unhide HLk); simp only [e9]; exact z), (unhide HG).2.2.1.off hc4 (unhide HG).1.l5, (unhide HG).2.2.2.off hc4 (unhide HG).1.l5⟩; clear hr4 hc4 HG; have c0 := (unhide HD).1.r.c0; have c1 := (unhide HD).1.r.c1)
                | (refine ld_w 27 (.tmp 5) (by exact rfl) b5 (by exact rfl) (by exact rfl) _ _ (unhide HD).1.row Tryz.underlying27 (szM _ _) ?_)
                | (go_at_call 10; refine ((unhide HM) _ _ _ (unhide HD).2).mono ?_; rintro e w6 ⟨rfl, hb6⟩; replace HD := hide (And.intro ((unhide HD).1.next hb6) ((unhide HD).2.bel hb6)); clear hb6 c0 c1)
                | (go_at_call 11; refine ((unhide HY) _ _ _ (unhide HD).2).mono ?_; rintro e w6 ⟨rfl, hb6⟩; replace HD := hide (And.intro ((unhide HD).1.next hb6) ((unhide HD).2.bel hb6)); clear hb6)
                | (refine bx_st rfl 27 (.tmp 2) (.tmp 91) rfl b0 _ _ rfl rfl (unhide HD).1.row0 (szM _ _) rfl (mg_one _ _) ?_; intro w7 hr7 hc7; have HZ := hide (And.intro hr7 (And.intro (bel_off (unhide HD).1.bel hc7 (unhide HD).1.ge0) (show Gr W.heap.size w7 _ _ from Gr.wide (unhide HD).1 ((unhide HD).2.off hc7 (unhide HD).1.l0)))); clear hr7 hc7)
                | go_guarded)
              exact bodyPost_ret (res2 (p := 2) (q := 3) rfl Tryz.underlying27 (szM _ _) (unhide HZ).1 _ _ rfl rfl) rfl ⟨_, by first | rfl | (rw [HC]; rfl), by first | exact (unhide HZ).2.2 | (rw [HC]; exact (unhide HZ).2.2), (unhide HZ).2.1⟩
            · have HC : ((!false && decide (ByteArray.empty.size = 0)) && (mayMB ⟨(v0 : Int), (v1 : Int), (v2 : Int), (v3 : Int), (v4 : Int), (v5 : Int), (v6 : Int), (v7 : Int), decide ((v8 : Int) = 1), l.map (·.1), v10, v11⟩ && decide ((⟨(msgb ⟨(v0 : Int), (v1 : Int), (v2 : Int), (v3 : Int), (v4 : Int), (v5 : Int), (v6 : Int), (v7 : Int), decide ((v8 : Int) = 1), l.map (·.1), v10, v11⟩).toArray⟩ : ByteArray) = s))) = false := by rw [hm, decide_eq_false hb]; rfl
              have hs1 : (msgb ⟨(v0 : Int), (v1 : Int), (v2 : Int), (v3 : Int), (v4 : Int), (v5 : Int), (v6 : Int), (v7 : Int), decide ((v8 : Int) = 1), l.map (·.1), v10, v11⟩ == s.toList) = false := beq_eq_false_iff_ne.2 (fun e => hb (ba_ext (by simp [e, ByteArray.toList_eq])))
              rw [hm] at HM
              go_wp2_with (first
                | go_skip
                | (go_at_call 33; refine ((unhide H10) _ _ (unhide HQ).1.r).mono ?_; rintro e w3 ⟨a2, c2, rfl, hk3⟩; have HG := hide (And.intro ((unhide HQ).1.read hk3.r hk3.ch) (And.intro ((unhide HQ).2.1.off hk3.ch (unhide HQ).1.lr) (And.intro ((unhide HQ).2.2.off hk3.ch (unhide HQ).1.lr) (hk3.o.mono (unhide HQ).1.lB)))); clear hk3 HQ)
                | (refine bx_set rfl 25 (.tmp 64) (.tmp 63) rfl b5 10 _ rfl rfl rfl rfl _ 27 (unhide HG).1.row sz25 (show 10 < 12 by decide) ?_; intro w4 hr4 hc4; replace HG : Hid (Rg W w4 B b0 br b5 s10 g10 ⟨(v0 : Int), (v1 : Int), (v2 : Int), (v3 : Int), (v4 : Int), (v5 : Int), (v6 : Int), (v7 : Int), decide ((v8 : Int) = 1), l.map (·.1), v10, ⟨#[]⟩⟩ ⟨ak, ck, l, a2, c2⟩ ∧ EG.O B w4 (.slice ak k ck) l ∧ Gn B w4 l ∧ E3.O B w4 (.slice a2 v10.length c2) v10) := hide ⟨(unhide HG).1.set hr4 hc4, (unhide HG).2.1.off hc4 (unhide HG).1.l5, (unhide HG).2.2.1.off hc4 (unhide HG).1.l5, (unhide HG).2.2.2.off hc4 (unhide HG).1.l5⟩; clear hr4 hc4)
                | (go_at_call 34; refine ((unhide H11) _ _ (unhide HG).1.r).mono ?_; rintro e w3 ⟨rfl, hr3, hc3⟩; replace HG := hide (And.intro ((unhide HG).1.read hr3 hc3) (And.intro ((unhide HG).2.1.off hc3 (unhide HG).1.lr) (And.intro ((unhide HG).2.2.1.off hc3 (unhide HG).1.lr) ((unhide HG).2.2.2.off hc3 (unhide HG).1.lr)))); clear hr3 hc3)
                | (refine bx_set rfl 9 (.tmp 67) (.tmp 66) rfl b5 11 _ rfl rfl rfl rfl _ 27 (unhide HG).1.row sz9 (show 11 < 12 by decide) ?_; intro w4 hr4 hc4; have HD : Hid (Rg W w4 B b0 br b5 ByteArray.empty false ⟨(v0 : Int), (v1 : Int), (v2 : Int), (v3 : Int), (v4 : Int), (v5 : Int), (v6 : Int), (v7 : Int), decide ((v8 : Int) = 1), l.map (·.1), v10, v11⟩ ⟨ak, ck, l, a2, c2⟩ ∧ Gr B w4 ⟨(v0 : Int), (v1 : Int), (v2 : Int), (v3 : Int), (v4 : Int), (v5 : Int), (v6 : Int), (v7 : Int), decide ((v8 : Int) = 1), l.map (·.1), v10, v11⟩ ⟨ak, ck, l, a2, c2⟩) := hide ⟨(unhide HG).1.set hr4 hc4, rfl, (by have z := (unhide HG).2.1.off hc4 (unhide HG).1.l5; have e9 : (l.map (·.1)).length = k := (by rw [List.length_map]; exact unhide HLk); simp only [e9]; exact z), (unhide HG).2.2.1.off hc4 (unhide HG).1.l5, (unhide HG).2.2.2.off hc4 (unhide HG).1.l5⟩; clear hr4 hc4 HG; have c0 := (unhide HD).1.r.c0; have c1 := (unhide HD).1.r.c1)
                | (refine ld_w 27 (.tmp 5) (by exact rfl) b5 (by exact rfl) (by exact rfl) _ _ (unhide HD).1.row Tryz.underlying27 (szM _ _) ?_)
                | (go_at_call 10; refine ((unhide HM) _ _ _ (unhide HD).2).mono ?_; rintro e w6 ⟨rfl, hb6⟩; replace HD := hide (And.intro ((unhide HD).1.next hb6) ((unhide HD).2.bel hb6)); clear hb6 c0 c1)
                | (go_at_call 11; refine ((unhide HY) _ _ _ (unhide HD).2).mono ?_; rintro e w6 ⟨rfl, hb6⟩; replace HD := hide (And.intro ((unhide HD).1.next hb6) ((unhide HD).2.bel hb6)); clear hb6)
                | (refine bx_st rfl 27 (.tmp 2) (.tmp 90) rfl b0 (mg gz gzx) _ rfl rfl (unhide HD).1.row0 (szM _ _) rfl (mg_one _ _) ?_; intro w7 hr7 hc7; have HZ := hide (And.intro hr7 (bel_off (unhide HD).1.bel hc7 (unhide HD).1.ge0)); clear hr7 hc7)
                | go_guarded)
              all_goals exact bodyPost_ret (res2 (p := 2) (q := 3) rfl Tryz.underlying27 (szM _ _) (unhide HZ).1 _ _ rfl rfl) rfl ⟨gzx, by first | rfl | (rw [HC]; rfl), by first | exact Gr.none _ _ | (rw [HC]; exact Gr.none _ _), (unhide HZ).2⟩
        · have HC : ((!false && decide (s11.size = 0)) && (mayMB ⟨(v0 : Int), (v1 : Int), (v2 : Int), (v3 : Int), (v4 : Int), (v5 : Int), (v6 : Int), (v7 : Int), decide ((v8 : Int) = 1), l.map (·.1), v10, v11⟩ && decide ((⟨(msgb ⟨(v0 : Int), (v1 : Int), (v2 : Int), (v3 : Int), (v4 : Int), (v5 : Int), (v6 : Int), (v7 : Int), decide ((v8 : Int) = 1), l.map (·.1), v10, v11⟩).toArray⟩ : ByteArray) = s))) = false := by rw [decide_eq_false hz]; rfl
          have he : s11.toList.isEmpty = false := by rw [beq_empty]; exact decide_eq_false hz
          go_wp2_with (first
            | go_skip
            | (go_at_call 33; refine ((unhide H10) _ _ (unhide HQ).1.r).mono ?_; rintro e w3 ⟨a2, c2, rfl, hk3⟩; have HG := hide (And.intro ((unhide HQ).1.read hk3.r hk3.ch) (And.intro ((unhide HQ).2.1.off hk3.ch (unhide HQ).1.lr) (And.intro ((unhide HQ).2.2.off hk3.ch (unhide HQ).1.lr) (hk3.o.mono (unhide HQ).1.lB)))); clear hk3 HQ)
            | (refine bx_set rfl 25 (.tmp 64) (.tmp 63) rfl b5 10 _ rfl rfl rfl rfl _ 27 (unhide HG).1.row sz25 (show 10 < 12 by decide) ?_; intro w4 hr4 hc4; replace HG : Hid (Rg W w4 B b0 br b5 s10 g10 ⟨(v0 : Int), (v1 : Int), (v2 : Int), (v3 : Int), (v4 : Int), (v5 : Int), (v6 : Int), (v7 : Int), decide ((v8 : Int) = 1), l.map (·.1), v10, ⟨#[]⟩⟩ ⟨ak, ck, l, a2, c2⟩ ∧ EG.O B w4 (.slice ak k ck) l ∧ Gn B w4 l ∧ E3.O B w4 (.slice a2 v10.length c2) v10) := hide ⟨(unhide HG).1.set hr4 hc4, (unhide HG).2.1.off hc4 (unhide HG).1.l5, (unhide HG).2.2.1.off hc4 (unhide HG).1.l5, (unhide HG).2.2.2.off hc4 (unhide HG).1.l5⟩; clear hr4 hc4)
            | (go_at_call 34; refine ((unhide H11) _ _ (unhide HG).1.r).mono ?_; rintro e w3 ⟨rfl, hr3, hc3⟩; replace HG := hide (And.intro ((unhide HG).1.read hr3 hc3) (And.intro ((unhide HG).2.1.off hc3 (unhide HG).1.lr) (And.intro ((unhide HG).2.2.1.off hc3 (unhide HG).1.lr) ((unhide HG).2.2.2.off hc3 (unhide HG).1.lr)))); clear hr3 hc3)
            | (refine bx_set rfl 9 (.tmp 67) (.tmp 66) rfl b5 11 _ rfl rfl rfl rfl _ 27 (unhide HG).1.row sz9 (show 11 < 12 by decide) ?_; intro w4 hr4 hc4; have HD : Hid (Rg W w4 B b0 br b5 s11 false ⟨(v0 : Int), (v1 : Int), (v2 : Int), (v3 : Int), (v4 : Int), (v5 : Int), (v6 : Int), (v7 : Int), decide ((v8 : Int) = 1), l.map (·.1), v10, v11⟩ ⟨ak, ck, l, a2, c2⟩ ∧ Gr B w4 ⟨(v0 : Int), (v1 : Int), (v2 : Int), (v3 : Int), (v4 : Int), (v5 : Int), (v6 : Int), (v7 : Int), decide ((v8 : Int) = 1), l.map (·.1), v10, v11⟩ ⟨ak, ck, l, a2, c2⟩) := hide ⟨(unhide HG).1.set hr4 hc4, rfl, (by have z := (unhide HG).2.1.off hc4 (unhide HG).1.l5; have e9 : (l.map (·.1)).length = k := (by rw [List.length_map]; exact unhide HLk); simp only [e9]; exact z), (unhide HG).2.2.1.off hc4 (unhide HG).1.l5, (unhide HG).2.2.2.off hc4 (unhide HG).1.l5⟩; clear hr4 hc4 HG; have c0 := (unhide HD).1.r.c0; have c1 := (unhide HD).1.r.c1)
            | (refine ld_w 27 (.tmp 5) (by exact rfl) b5 (by exact rfl) (by exact rfl) _ _ (unhide HD).1.row Tryz.underlying27 (szM _ _) ?_)
            | (go_at_call 10; refine ((unhide HM) _ _ _ (unhide HD).2).mono ?_; rintro e w6 ⟨rfl, hb6⟩; replace HD := hide (And.intro ((unhide HD).1.next hb6) ((unhide HD).2.bel hb6)); clear hb6 c0 c1)
            | (refine bx_st rfl 27 (.tmp 2) (.tmp 90) rfl b0 (mg gz gzx) _ rfl rfl (unhide HD).1.row0 (szM _ _) rfl (mg_one _ _) ?_; intro w7 hr7 hc7; have HZ := hide (And.intro hr7 (bel_off (unhide HD).1.bel hc7 (unhide HD).1.ge0)); clear hr7 hc7)
            | go_guarded)
          all_goals exact bodyPost_ret (res2 (p := 2) (q := 3) rfl Tryz.underlying27 (szM _ _) (unhide HZ).1 _ _ rfl rfl) rfl ⟨gzx, by first | rfl | (rw [HC]; rfl), by first | exact Gr.none _ _ | (rw [HC]; exact Gr.none _ _), (unhide HZ).2⟩
end Go.Proofs.YtgofdkheffoilaaGreat
