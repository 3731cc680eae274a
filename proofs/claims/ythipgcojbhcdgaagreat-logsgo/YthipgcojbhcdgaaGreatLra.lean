/- A member that stands down to a later term; its answer. -/
import Derived.Test.YthipgcojbhcdgaaGreatLti
import Derived.Test.YthipgcojbhcdgaaGreatQmm
import Derived.Test.YthipgcojbhcdgaaGreatNgra
namespace Go.Proofs.YthipgcojbhcdgaaGreat
open Go.RowKit Go.Maps Go.Sort
section
variable {W : World} {n T G : Nat} {s : PP} {x : Px}
theorem Pf.lower {base base' : Nat} {w : World} (hf : Pf base w n s x) (h : base' ≤ base) : Pf base' w n s x := ⟨hf.m.mono h, hf.b.mono h, hf.l.mono h, hf.v.mono h, hf.f.mono h, hf.dv⟩
set_option maxRecDepth 100000 in
set_option maxHeartbeats 2000000 in
theorem raised_any (h : Pq W n s x) (hok : Ok n T G s) (hn : n ≤ 64) (hT : T ≤ 1000000) (hG : G ≤ 999999) (t : Int) (ht : t ≤ T) : Calls Tryz.prog 75 #[.agg (pc n s x), .int .u64 t] W fun e w' => ∃ x', e = .returned (.agg (pc n (s.rais t) x')) ∧ Pf W.heap.size w' n (s.rais t) x' ∧ Bel W w' := by
  have hln := hok.lens hn
  have hgl := hok.glen
  by_cases hlt : s.term < t
  · have HE : Hid (s.rais t = s.down t) := hide (by unfold PP.rais; rw [if_pos hlt])
    have HD : Hid (∀ W', Bel W W' → Calls Tryz.prog 109 #[.agg (pc n s x), .int .u64 t] W' fun e w' => ∃ x', e = .returned (.tuple #[.agg (pc n (s.down t) x'), .int .i64 0]) ∧ Pf W.heap.size w' n (s.down t) x' ∧ Bel W' w') := hide (fun W' hb => (down_any (h.bel hb) hok hn hT hG t (by omega)).mono (fun _ _ ⟨x', he, hf, hb'⟩ => ⟨x', he, hf.lower hb.size, hb'⟩))
    clear h hok hn hT hG ht hln hgl
    obtain ⟨sd, hsd⟩ : ∃ sd, sd = s.down t := ⟨_, rfl⟩
    rw [← hsd] at HD HE
    clear hsd
    go_enter Tryz.func75, Tryz.ntmps75
    go_wp2_with (first
      | go_skip
      | go_guarded
      | (refine bx_box rfl 56 _ rfl (pc n s x) rfl ?_; intro b w0 hr0 hs0 hb0; have HR0 := hide hr0; have HB0 := hide (And.intro hb0 hs0); clear hr0 hs0 hb0)
      | (refine bx_new rfl 56 rfl _ Tryz.zero32 ?_; intro b2 w1 hr1 hs1 hb1; have HY : Hid (Ty W w1 b b2 n s x) := hide ⟨hb1.row (unhide HR0), (unhide HB0).1.trans hb1, ⟨_, _, _, hr1⟩, by have := (unhide HB0).2; omega, by have := (unhide HB0).1.size; omega, fun e => by have := lt_of_some (unhide HR0); omega⟩; have y2 := (Bx.of (unhide HY).row).c2; clear hr1 hs1 hb1 HR0 HB0)
      | (refine bx_ldG rfl 56 _ rfl b rfl _ _ (unhide HY).row Tryz.underlying56 (Tryz.size32 _ _ _) ?_)
      | (go_at_call 109; refine ((unhide HD) _ (unhide HY).bel).mono ?_; rintro e w3 ⟨x1, rfl, hf3, hb3⟩; have HF3 := hide hf3; replace HY := hide ((unhide HY).next hb3); clear hb3 hf3)
      | (refine bx_st rfl 56 (.tmp 2) _ rfl b (pc n sd x1) _ rfl rfl (unhide HY).row (Tryz.size32 _ _ _) rfl (pc_one _ _ _) ?_; intro w4 hr4 hc4; have HZ : Hid (Tz W w4 b b2 n sd x1) := hide ⟨hr4, (unhide HF3).box (unhide HY).row hc4, bel_off (unhide HY).bel hc4 (unhide HY).ge, ((unhide HY).set hr4 hc4).row2, (unhide HY).ge, (unhide HY).ge2, (unhide HY).ne⟩; clear hr4 hc4 HY HF3)
      | (refine bx_ldG rfl 56 _ rfl b rfl _ _ (unhide HZ).row Tryz.underlying56 (Tryz.size32 _ _ _) ?_)
      | (obtain ⟨s2, x2, n2, h2⟩ := (unhide HZ).row2; refine bx_st rfl 56 (.tmp 4) _ rfl b2 _ _ rfl rfl h2 (Tryz.size32 _ _ _) rfl (pc_one _ _ _) ?_; intro w9 hr9 hc9; have HR9 := hide (And.intro hr9 (And.intro ((unhide HZ).pf.box h2 hc9) (bel_off (unhide HZ).bel hc9 (unhide HZ).ge2))); clear hr9 hc9 h2))
    rw [unhide HE]
    exact bodyPost_ret (res1 (p := 4) rfl Tryz.underlying56 (Tryz.size32 _ _ _) (unhide HR9).1 _ rfl) rfl ⟨_, rfl, (unhide HR9).2.1, (unhide HR9).2.2⟩
  · have HE : Hid (s.rais t = s) := hide (by unfold PP.rais; rw [if_neg hlt])
    have HC : Hid (∀ W', Bel W W' → Calls Tryz.prog 47 #[.agg (pc n s x)] W' fun e w' => ∃ x', e = .returned (.agg (pc n s x')) ∧ Pf W.heap.size w' n s x' ∧ Bel W' w') := hide (fun W' hb => (clone_any (h.pw.bel hb) hn (by omega) hln.1 hln.2).mono (fun _ _ ⟨x', he, hf, hb'⟩ => ⟨x', he, hf.lower hb.size, hb'⟩))
    clear h hok hn hT hG ht hln hgl
    go_enter Tryz.func75, Tryz.ntmps75
    go_wp2_with (first
      | go_skip
      | go_guarded
      | (refine bx_box rfl 56 _ rfl (pc n s x) rfl ?_; intro b w0 hr0 hs0 hb0; have HR0 := hide hr0; have HB0 := hide (And.intro hb0 hs0); clear hr0 hs0 hb0)
      | (refine bx_new rfl 56 rfl _ Tryz.zero32 ?_; intro b2 w1 hr1 hs1 hb1; have HY : Hid (Ty W w1 b b2 n s x) := hide ⟨hb1.row (unhide HR0), (unhide HB0).1.trans hb1, ⟨_, _, _, hr1⟩, by have := (unhide HB0).2; omega, by have := (unhide HB0).1.size; omega, fun e => by have := lt_of_some (unhide HR0); omega⟩; have y2 := (Bx.of (unhide HY).row).c2; clear hr1 hs1 hb1 HR0 HB0)
      | (refine bx_ldG rfl 56 _ rfl b rfl _ _ (unhide HY).row Tryz.underlying56 (Tryz.size32 _ _ _) ?_)
      | (go_at_call 47; refine ((unhide HC) _ (unhide HY).bel).mono ?_; rintro e w3 ⟨x1, rfl, hf3, hb3⟩; have HF3 := hide hf3; replace HY := hide ((unhide HY).next hb3); clear hb3 hf3)
      | (obtain ⟨s2, x2, n2, h2⟩ := (unhide HY).row2; refine bx_st rfl 56 (.tmp 4) _ rfl b2 (pc n s x1) _ rfl rfl h2 (Tryz.size32 _ _ _) rfl (pc_one _ _ _) ?_; intro w9 hr9 hc9; have HR9 := hide (And.intro hr9 (And.intro ((unhide HF3).box h2 hc9) ((unhide HY).out hc9))); clear hr9 hc9 h2))
    rw [unhide HE]
    exact bodyPost_ret (res1 (p := 4) rfl Tryz.underlying56 (Tryz.size32 _ _ _) (unhide HR9).1 _ rfl) rfl ⟨_, rfl, (unhide HR9).2.1, (unhide HR9).2.2⟩
/-- An answer to a leader. -/
theorem hrd_any (to : Int) (ok : Bool) (k : Nat) : Calls Tryz.prog 108 #[.agg (pc n s x), .int .i64 to, .bool ok, .int .u64 (k : Int), .int .u64 0] W fun e w' => ∃ aA cA, e = .returned (.slice aA 1 cA) ∧ Mo W.heap.size w' (.slice aA 1 cA) [s.hrd to ok k] ∧ Bel W w' := by
  go_enter Tryz.func108, Tryz.ntmps108
  go_wp2_with (first
    | go_skip
    | go_guarded
    | (refine bx_box rfl 56 _ rfl (pc n s x) rfl ?_; intro b w0 hr0 hs0 hb0; have y0 := (Bx.of hr0).c0; have y2 := (Bx.of hr0).c2; have HB0 := hide hb0; clear hr0 hs0 hb0)
    | (refine el_one E27q (qc (s.hrd to ok k) none 0) rfl (by decide) _ rfl rfl rfl ?_))
  go_ret
  refine ⟨_, _, rfl, ⟨[(s.hrd to ok k, none, 0)], rfl, ?_, fun q hq => ?_⟩, (unhide HB0).alloc _⟩
  · exact (El.O.built (E := E27q) w0 (s.hrd to ok k, none, 0)).mono (unhide HB0).size
  · rw [List.mem_singleton.1 hq]; exact ⟨El.O.nil _ _, fun hk => absurd hk (by show ¬ ((4 : Int) < 3); decide)⟩
end
section
variable {ops : Array Oper} {Q : Exit → Act → World → Prop} {md : Region.Mode} {S : World → Prop} {i j : Nat} {o o' : Oper} {fuel : Nat} {listed : Array Bool} {a : Act} {w : World}
/-- A call and a store, whichever comes first. -/
theorem any_cs {f : FuncId} {args : Array Value} {R : World → Value → World → Prop} {St : World → World} (hr : Region.ready md ops listed = [i, j]) (hr1 : Region.ready md ops (listed.setIfInBounds i true) = [j]) (hr2 : Region.ready md ops (listed.setIfInBounds j true) = [i]) (hi : ops[i]? = some o) (hj : ops[j]? = some o') (hwi : ∀ a : Act, Region.wanted o (yielded ops a.tmps) = true) (hwj : ∀ a : Act, Region.wanted o' (yielded ops a.tmps) = true)
    (hdj : o'.dst = none) (hrun : ∀ w, (execOp a.eval o).run Tryz.prog w = .ok (.enter f args) w) (hc : ∀ w, S w → Calls Tryz.prog f args w (fun e w' => ∃ v, e = .returned v ∧ R w v w')) (hS : S w) (hRS : ∀ w v w', S w → R w v w' → S w') (hst : ∀ w v, S w → (execOp (a.put o.dst v).eval o').run Tryz.prog w = .ok .skip (St w)) (hst0 : ∀ w, S w → (execOp a.eval o').run Tryz.prog w = .ok .skip (St w)) (hSS : ∀ w, S w → S (St w))
    (hK1 : ∀ v w1, R w v w1 → wpAnyH Tryz.prog md ops Q S fuel ((listed.setIfInBounds i true).setIfInBounds j true) (a.put o.dst v) (St w1)) (hK2 : ∀ v w2, R (St w) v w2 → wpAnyH Tryz.prog md ops Q S fuel ((listed.setIfInBounds j true).setIfInBounds i true) (a.put o.dst v) w2) : wpAnyH Tryz.prog md ops Q S (fuel + 2) listed a w := by
  refine wpAnyH_all hr (by simp) (fun k hk => ?_)
  have hk' : k = i ∨ k = j := by simpa using hk
  rcases hk' with rfl | rfl
  · unfold wpOp
    simp only [hi, hwi, if_true, Oper.wp, hrun, Oper.upon_enter]
    refine .inl ((hc w hS).mono ?_)
    rintro e w1 ⟨v, rfl, h1⟩
    refine ⟨hRS _ _ _ hS h1, ?_⟩
    refine wpAnyH_all hr1 (by simp) (fun q hq => ?_)
    rw [List.mem_singleton.1 hq]
    unfold wpOp
    simp only [hj, hwj, if_true, Oper.wp, hst w1 v (hRS _ _ _ hS h1), Oper.upon, hdj]
    exact .inl ⟨hSS _ (hRS _ _ _ hS h1), hK1 v w1 h1⟩
  · unfold wpOp
    simp only [hj, hwj, if_true, Oper.wp, hst0 w hS, Oper.upon, hdj]
    refine .inl ⟨hSS _ hS, ?_⟩
    refine wpAnyH_all hr2 (by simp) (fun q hq => ?_)
    rw [List.mem_singleton.1 hq]
    unfold wpOp
    simp only [hi]
    have hru : (execOp (a.put none undef).eval o).run Tryz.prog (St w) = .ok (.enter f args) (St w) := hrun _
    simp only [hwi, if_true, Oper.wp, hru, Oper.upon_enter]
    refine .inl ((hc _ (hSS _ hS)).mono ?_)
    rintro e w2 ⟨v, rfl, h2⟩
    exact ⟨hRS _ _ _ (hSS _ hS) h2, hK2 v w2 h2⟩
end
end Go.Proofs.YthipgcojbhcdgaaGreat
