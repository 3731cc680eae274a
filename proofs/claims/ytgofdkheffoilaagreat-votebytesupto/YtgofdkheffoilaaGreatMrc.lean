/- New. New of members that do not rise. alive. -/
import Derived.Test.YtgofdkheffoilaaGreatTic
namespace Go.Proofs.YtgofdkheffoilaaGreat
open Go.RowKit Go.Maps Go.Sort
/-- A whole struct is read; what operation it is is asked first. -/
theorem bx_ldH {ops : Array Oper} {rest : List Oper} {o : Oper} {a : Act} {Q : Exit → Act → World → Prop} {W : World} (t : TypeId) (x : Operand) (ho : o.op = .load t x) (b : Nat) (hx : a.eval x = .pointer (some ⟨b, 0, none⟩)) (hw : Region.wanted o (yielded ops a.tmps) = true) (cs : Array Value) (fs : Array Field) (hg : W.heap[b]? = some (.cells cs t)) (hu : Tryz.prog.underlying t = some (.struct fs)) (hi : (Tryz.prog.info? t).map (·.size) = some cs.size)
    (h : wpList Tryz.prog ops Q rest (a.put o.dst (.agg cs)) W) : wpList Tryz.prog ops Q (o :: rest) a W := bx_ldG hw t x ho b hx cs fs hg hu hi h
/-- A struct is boxed; what operation it is is asked first. -/
theorem bx_boxH {ops : Array Oper} {rest : List Oper} {o : Oper} {a : Act} {Q : Exit → Act → World → Prop} {W : World} (t : TypeId) (x : Operand) (ho : o.op = .box t x) (hgd : o.guard = none) (cs : Array Value) (hx : a.eval x = .agg cs)
    (h : ∀ b w', w'.heap[b]? = some (.cells cs t) → W.heap.size = b → Bel W w' → wpList Tryz.prog ops Q rest (a.put o.dst (.pointer (some ⟨b, 0, none⟩))) w') : wpList Tryz.prog ops Q (o :: rest) a W := bx_box hgd t x ho cs hx h
theorem sl_new3 (W : World) (l : List Int) : Sl E3 (W.alloc (.cells (l.map fun x => Value.int .i64 x).toArray 3)) (some ⟨W.heap.size, 0, none⟩) l :=
  ⟨W.heap.size, 0, fun _ => rfl, fun j hj c u hu => by
    have hc : c = 0 ∧ u = .int .i64 l[j] := by
      cases c with
      | zero => simp [E3] at hu; exact ⟨rfl, hu.symm⟩
      | succ c => simp [E3] at hu
    obtain ⟨rfl, rfl⟩ := hc
    rw [cell_of (at_new W _)]
    simp [E3, hj]⟩
/-- Where a new member's lists lie. -/
def xnew (a : Option Addr) (c : Nat) : Px := ⟨a, c, a, c, none, 0, none, 0, none, 0, none, 0⟩
theorem pnew_ok {n : Nat} {id wait : Int} (hi : 1 ≤ id ∧ id ≤ n) (hw : 1 ≤ wait ∧ wait ≤ 1000) : Ok n 0 0 (pnew id wait) := by
  refine ⟨hi.1, hi.2, Int.le_refl _, Int.le_refl _, ⟨Int.le_refl _, ?_⟩, ⟨Int.le_refl _, ?_⟩, hw, ⟨Int.le_refl _, ?_⟩, ⟨List.Pairwise.nil, fun x hx => (by cases hx)⟩, Nat.le_refl _, Nat.le_refl _, List.Pairwise.nil, fun x hx => (by cases hx), Or.inl ⟨rfl, rfl, rfl⟩⟩
  · show (0 : Int) ≤ n; omega
  · show (0 : Int) ≤ n; omega
  · show (0 : Int) ≤ 1000; omega
set_option maxRecDepth 100000 in
set_option maxHeartbeats 4000000 in
theorem new_any {W : World} {n : Nat} {a : Option Addr} {cap : Nat} {id wait : Int} (h : Sl E3 W a (mem n)) (hn : n ≤ 64) (hi : 1 ≤ id ∧ id ≤ n) (hw : 1 ≤ wait ∧ wait ≤ 1000) : Calls Tryz.prog 16 #[.int .i64 id, .int .i64 wait, .slice a n cap] W fun e w' => ∃ x', e = .returned (.tuple #[.agg (pc n (pnew id wait) x'), .int .i64 0]) ∧ Pf W.heap.size w' n (pnew id wait) x' ∧ Bel W w' := by
  have hz69 : ∀ W', Sl E69 W' none ([] : List PE) := fun W' => (Sl.of (El.O.nil (E := E69) 0 W')).1
  have hz3 : ∀ W', Sl E3 W' none ([] : List Int) := fun W' => (Sl.of (El.O.nil (E := E3) 0 W')).1
  have hz65 : ∀ W', Sl E65 W' none ([] : List (Int × Int × Int)) := fun W' => (Sl.of (El.O.nil (E := E65) 0 W')).1
  have H2 : Hid (∀ W', Bel W W' → Calls Tryz.prog 50 #[.agg (pc n (pnew id wait) (xnew a cap))] W' fun e w' => ∃ x', e = .returned (.agg (pc n (pnew id wait) x')) ∧ Pf W.heap.size w' n (pnew id wait) x' ∧ Bel W' w') := hide (fun W' hb => (clone_any (x := xnew a cap) (s := pnew id wait) ⟨h.bel hb, h.bel hb, hz69 W', hz3 W', hz65 W'⟩ hn (Nat.zero_le _) (Nat.zero_le _) (Nat.zero_le _)).mono (fun _ _ ⟨x', he, hf, hb'⟩ => ⟨x', he, ⟨hf.m.mono hb.size, hf.b.mono hb.size, hf.l.mono hb.size, hf.v.mono hb.size, hf.f.mono hb.size, hf.dv⟩, hb'⟩))
  have H1 : Hid (∀ W' x', Pf W.heap.size W' n (pnew id wait) x' → Calls Tryz.prog 51 #[.agg (pc n (pnew id wait) x')] W' fun e w' => e = .returned (.int .i64 0) ∧ Bel W' w') := hide (fun W' x' hp => may_ok hp.pw (pnew_ok hi hw) hn (by decide) (by decide) (Nat.zero_le _))
  clear h hn hi hw hz69 hz3 hz65
  go_enter Tryz.func16, Tryz.ntmps16
  go_wp2_with (first
    | go_skip
    | go_guarded
    | (refine bx_new rfl 45 rfl _ Tryz.zero32 ?_; intro b w2 hr2 hs2 hb2; replace HG := hide ((unhide HG).bel hb2); have HA := hide (And.intro hr2 (And.intro (hb2.row (unhide HR1).1) (And.intro ((unhide HR1).2.1.trans hb2) (And.intro (show W.heap.size ≤ b by have := (unhide HR1).2.1.size; omega) (And.intro (show W.heap.size ≤ b2 by have := (unhide HR1).2.2; omega) (show b2 ≠ b from fun e => by have := lt_of_some (unhide HR1).1; omega)))))); clear hr2 hs2 hb2 HR1)
    | (refine bx_new rfl 45 rfl _ Tryz.zero32 ?_; intro b2 w1 hr1 hs1 hb1; have HR1 := hide (And.intro hr1 (And.intro hb1 hs1)); clear hr1 hs1 hb1)
    | (go_at_call 50; refine ((unhide H2) _ (unhide HR1).2.1).mono ?_; rintro e w3 ⟨x3, rfl, hp3, hb3⟩; have HG := hide hp3; replace HR1 := hide (And.intro (hb3.row (unhide HR1).1) (And.intro ((unhide HR1).2.1.trans hb3) (unhide HR1).2.2)); clear hp3 hb3)
    | (refine bx_st rfl 45 (.tmp 8) _ rfl b (pc n (pnew id wait) x3) _ rfl rfl (unhide HA).1 (Tryz.size32 _ _ _) rfl (pc_one _ _ _) ?_; intro w4 hr4 hc4; have HZ : Hid (Tz W w4 b b2 n (pnew id wait) x3) := hide ⟨hr4, (unhide HG).box (unhide HA).1 hc4, bel_off (unhide HA).2.2.1 hc4 (unhide HA).2.2.2.1, ⟨_, _, _, hc4.row (unhide HA).2.1 (unhide HA).2.2.2.2.2⟩, (unhide HA).2.2.2.1, (unhide HA).2.2.2.2.1, (unhide HA).2.2.2.2.2⟩; clear hr4 hc4 HA HG)
    | (refine bx_ldH 45 (.tmp 8) (by exact rfl) b (by exact rfl) (by exact rfl) _ _ (unhide HZ).row Tryz.underlying45 (Tryz.size32 _ _ _) ?_)
    | (go_at_call 51; refine ((unhide H1) _ _ (unhide HZ).pf).mono ?_; rintro e w5 ⟨rfl, hb5⟩; replace HZ := hide ((unhide HZ).next hb5); clear hb5)
    | (obtain ⟨s2, x2, n2, h2⟩ := (unhide HZ).row2; refine bx_st rfl 45 (.tmp 6) _ rfl b2 _ _ rfl rfl h2 (Tryz.size32 _ _ _) rfl (pc_one _ _ _) ?_; intro w9 hr9 hc9; have HR9 := hide (And.intro hr9 (And.intro ((unhide HZ).pf.box h2 hc9) (bel_off (unhide HZ).bel hc9 (unhide HZ).ge2))); clear hr9 hc9 h2))
  exact bodyPost_ret (res2 (p := 6) (q := 7) rfl Tryz.underlying45 (Tryz.size32 _ _ _) (unhide HR9).1 _ _ rfl rfl) rfl ⟨_, rfl, (unhide HR9).2.1, (unhide HR9).2.2⟩
end Go.Proofs.YtgofdkheffoilaaGreat
namespace Go.Proofs.YtgofdkheffoilaaGreat
open Go.RowKit Go.Maps Go.Sort
set_option maxRecDepth 100000 in
set_option maxHeartbeats 1000000 in
theorem mems_no {W : World} {s : PP} {x : Px} (h : Sl E3 W x.aB ([2, 1] : List Int)) : Calls Tryz.prog 96 #[.agg (pc 2 s x)] W fun e w' => e = .returned (.bool false) ∧ Bel W w' := by
  have H1 : Hid (∀ W', Bel W W' → Calls Tryz.prog 108 #[.slice x.aB 2 x.cB] W' fun e w' => e = .returned (.bool false) ∧ Bel W' w') := hide (fun W' hb => by
    have := areMem_any (h.bel hb) x.cB (by decide)
    exact this.mono (fun e w' ⟨he, hw⟩ => ⟨he.trans rfl, by rw [hw]; exact Bel.refl _⟩))
  clear h
  go_enter Tryz.func96, Tryz.ntmps96
  go_wp2_with (first
    | (refine bx_box rfl 45 _ rfl (pc 2 s x) rfl ?_; intro b w0 hr0 hs0 hb0; have HR0 := hide hr0; have HB0 := hide hb0; clear hr0 hs0 hb0))
  have y8 : ∀ p : BelBy w0, p.W.cell? ⟨b, 8, none⟩ = some (.slice x.aB 2 x.cB) := fun p => (Bx.of (p.h.row (unhide HR0))).c8
  have hne := BelBy.some w0
  refine wp_region_bel Tryz.follows (by kernel_rfl) ?_
  repeat (go_big_quiet_step (first
      | (go_at_call 108; refine calls_by ((unhide H1) _ ((unhide HB0).trans (BelBy.h _))))))
  refine wpQuiet_nil ?_
  rintro w' ⟨p, rfl⟩
  have HP := hide p.h
  generalize p.W = w1 at *
  clear y8
  go_wp2_with fail
  go_ret
  exact ⟨rfl, (unhide HB0).trans (unhide HP)⟩
set_option maxRecDepth 100000 in
theorem may_no {W : World} {s : PP} {x : Px} (h : Sl E3 W x.aB ([2, 1] : List Int)) (hl : Sl E69 W x.aL s.log) (hok : Ok 2 0 0 s) : Calls Tryz.prog 51 #[.agg (pc 2 s x)] W fun e w' => e = .returned (.int .i64 2) ∧ Bel W w' := by
  have hgl := hok.glen
  have H1 : Hid (∀ W', Calls Tryz.prog 94 #[.agg (pc 2 s x)] W' fun e w' => e = .returned (.bool true) ∧ Bel W' w') := hide (fun W' => numbers_ok x hok (by decide) (by decide))
  have H2 : Hid (∀ W', Bel W W' → Calls Tryz.prog 95 #[.agg (pc 2 s x)] W' fun e w' => e = .returned (.bool true) ∧ Bel W' w') := hide (fun W' hb => log_ok (hl.bel hb) hok (by omega))
  have H3 : Hid (∀ W', Bel W W' → Calls Tryz.prog 96 #[.agg (pc 2 s x)] W' fun e w' => e = .returned (.bool false) ∧ Bel W' w') := hide (fun W' hb => mems_no (h.bel hb))
  clear h hl hok hgl
  go_enter Tryz.func51, Tryz.ntmps51
  go_wp2_with (first
    | go_skip
    | (refine bx_box rfl 45 _ rfl (pc 2 s x) rfl ?_; intro b w0 hr0 hs0 hb0; have HR0 := hide hr0; have HB0 := hide hb0; clear hr0 hs0 hb0)
    | (refine bx_ldG rfl 45 _ rfl b rfl (pc 2 s x) _ (unhide HR0) Tryz.underlying45 (Tryz.size32 2 s x) ?_)
    | (go_at_call 94; refine ((unhide H1) _).mono ?_; rintro e w1 ⟨rfl, hb1⟩; replace HR0 := hide (hb1.row (unhide HR0)); replace HB0 := hide ((unhide HB0).trans hb1); clear hb1)
    | (go_at_call 95; refine ((unhide H2) _ (unhide HB0)).mono ?_; rintro e w2 ⟨rfl, hb1⟩; replace HR0 := hide (hb1.row (unhide HR0)); replace HB0 := hide ((unhide HB0).trans hb1); clear hb1)
    | (go_at_call 96; refine ((unhide H3) _ (unhide HB0)).mono ?_; rintro e w3 ⟨rfl, hb1⟩; replace HR0 := hide (hb1.row (unhide HR0)); replace HB0 := hide ((unhide HB0).trans hb1); clear hb1))
  go_ret
  exact ⟨rfl, unhide HB0⟩
set_option maxRecDepth 100000 in
set_option maxHeartbeats 4000000 in
theorem new_no {W : World} {a : Option Addr} {cap : Nat} (h : Sl E3 W a ([2, 1] : List Int)) : Calls Tryz.prog 16 #[.int .i64 1, .int .i64 10, .slice a 2 cap] W fun e w' => e = .returned (.tuple #[.agg (pc 0 ⟨0, 0, 0, 0, 0, 0, 0, [], [], [], 0⟩ ⟨none, 0, none, 0, none, 0, none, 0, none, 0, none, 0⟩), .int .i64 2]) ∧ Bel W w' := by
  have hz69 : ∀ W', Sl E69 W' none ([] : List PE) := fun W' => (Sl.of (El.O.nil (E := E69) 0 W')).1
  have hz3 : ∀ W', Sl E3 W' none ([] : List Int) := fun W' => (Sl.of (El.O.nil (E := E3) 0 W')).1
  have hz65 : ∀ W', Sl E65 W' none ([] : List (Int × Int × Int)) := fun W' => (Sl.of (El.O.nil (E := E65) 0 W')).1
  have H2 : Hid (∀ W', Bel W W' → Calls Tryz.prog 50 #[.agg (pc 2 (pnew 1 10) (xnew a cap))] W' fun e w' => ∃ x', e = .returned (.agg (pc 2 (pnew 1 10) x')) ∧ (E3.O W'.heap.size w' (.slice x'.aB 2 x'.cB) ([2, 1] : List Int) ∧ E69.O W'.heap.size w' (.slice x'.aL 0 x'.cL) ([] : List PE)) ∧ Bel W' w') := hide (fun W' hb => (clone_gen (x := xnew a cap) (s := pnew 1 10) (M := [2, 1]) (n := 2) rfl (h.bel hb) (h.bel hb) (hz69 W') (hz3 W') (hz65 W') (by decide) (Nat.zero_le _) (Nat.zero_le _) (Nat.zero_le _)).mono (fun _ _ ⟨x', he, hf, hb'⟩ => ⟨x', he, ⟨hf.b, hf.l⟩, hb'⟩))
  have H1 : Hid (∀ W' x', Sl E3 W' x'.aB ([2, 1] : List Int) ∧ Sl E69 W' x'.aL ([] : List PE) → Calls Tryz.prog 51 #[.agg (pc 2 (pnew 1 10) x')] W' fun e w' => e = .returned (.int .i64 2) ∧ Bel W' w') := hide (fun W' x' hp => may_no hp.1 hp.2 (pnew_ok (by decide) (by decide)))
  clear h hz69 hz3 hz65
  go_enter Tryz.func16, Tryz.ntmps16
  go_wp2_with (first
    | go_skip
    | go_guarded
    | (refine bx_new rfl 45 rfl _ Tryz.zero32 ?_; intro b w2 hr2 hs2 hb2; replace HG := hide (And.intro ((unhide HG).1.bel hb2) ((unhide HG).2.bel hb2)); have HA := hide (And.intro hr2 (And.intro (hb2.row (unhide HR1).1) (And.intro ((unhide HR1).2.1.trans hb2) (And.intro (show W.heap.size ≤ b by have := (unhide HR1).2.1.size; omega) (And.intro (show W.heap.size ≤ b2 by have := (unhide HR1).2.2; omega) (show b2 ≠ b from fun e => by have := lt_of_some (unhide HR1).1; omega)))))); clear hr2 hs2 hb2 HR1)
    | (refine bx_new rfl 45 rfl _ Tryz.zero32 ?_; intro b2 w1 hr1 hs1 hb1; have HR1 := hide (And.intro hr1 (And.intro hb1 hs1)); clear hr1 hs1 hb1)
    | (go_at_call 50; refine ((unhide H2) _ (unhide HR1).2.1).mono ?_; rintro e w3 ⟨x3, rfl, hp3, hb3⟩; have HG := hide hp3; replace HR1 := hide (And.intro (hb3.row (unhide HR1).1) (And.intro ((unhide HR1).2.1.trans hb3) (unhide HR1).2.2)); clear hp3 hb3)
    | (refine bx_st rfl 45 (.tmp 8) _ rfl b (pc 2 (pnew 1 10) x3) _ rfl rfl (unhide HA).1 (Tryz.size32 _ _ _) rfl (pc_one _ _ _) ?_; intro w4 hr4 hc4; have HZ := hide (And.intro hr4 (And.intro (bel_off (unhide HA).2.2.1 hc4 (unhide HA).2.2.2.1) (And.intro (hc4.row (unhide HA).2.1 (unhide HA).2.2.2.2.2) (unhide HA).2.2.2.2.1))); have HC4 := hide (And.intro hc4 (unhide HA).1); clear hr4 hc4 HA)
    | (refine bx_ldH 45 (.tmp 8) (by exact rfl) b (by exact rfl) (by exact rfl) _ _ (unhide HZ).1 Tryz.underlying45 (Tryz.size32 _ _ _) ?_)
    | (go_at_call 51; refine ((unhide H1) _ _ ⟨(Sl.of ((unhide HG).1.box (unhide HC4).2 (by decide) (unhide HC4).1)).1, (Sl.of ((unhide HG).2.box (unhide HC4).2 (by decide) (unhide HC4).1)).1⟩).mono ?_; rintro e w5 ⟨rfl, hb5⟩; replace HZ := hide (And.intro (hb5.row (unhide HZ).1) (And.intro ((unhide HZ).2.1.trans hb5) (And.intro (hb5.row (unhide HZ).2.2.1) (unhide HZ).2.2.2))); clear hb5)
    | (refine bx_st rfl 45 (.tmp 6) _ rfl b2 (pc 0 ⟨0, 0, 0, 0, 0, 0, 0, [], [], [], 0⟩ ⟨none, 0, none, 0, none, 0, none, 0, none, 0, none, 0⟩) _ rfl rfl (unhide HZ).2.2.1 (Tryz.size32 _ _ _) rfl (pc_one _ _ _) ?_; intro w9 hr9 hc9; have HR9 := hide (And.intro hr9 (bel_off (unhide HZ).2.1 hc9 (unhide HZ).2.2.2)); clear hr9 hc9))
  exact bodyPost_ret (res2 (p := 6) (q := 7) rfl Tryz.underlying45 (Tryz.size32 _ _ _) (unhide HR9).1 _ _ rfl rfl) rfl ⟨rfl, (unhide HR9).2⟩
end Go.Proofs.YtgofdkheffoilaaGreat
namespace Go.Proofs.YtgofdkheffoilaaGreat
open Go.RowKit Go.Maps Go.Sort
/-- The first tick of the law's own member. -/
theorem tick1 : ((pnew 1 1).tick 3 3).1.term = 1 ∧ ((pnew 1 1).tick 3 3).1.role = 1 ∧ ((pnew 1 1).tick 3 3).1.wait = 13 ∧ ((pnew 1 1).tick 3 3).2.length = 2 := by decide
set_option maxRecDepth 100000 in
set_option maxHeartbeats 4000000 in
theorem alive_any {W : World} : Calls Tryz.prog 5 #[] W fun e w' => e = .returned (.bool true) ∧ Bel W w' := by
  have HN : Hid (∀ W' : World, Calls Tryz.prog 16 #[.int .i64 1, .int .i64 1, .slice (some ⟨W'.heap.size, 0, none⟩) 3 3] (W'.alloc (.cells #[.int .i64 1, .int .i64 2, .int .i64 3] 3)) fun e w' => ∃ x', e = .returned (.tuple #[.agg (pc 3 (pnew 1 1) x'), .int .i64 0]) ∧ Pf 0 w' 3 (pnew 1 1) x' ∧ Bel W' w') := hide (fun W' => (new_any (n := 3) (id := 1) (wait := 1) (sl_new3 W' [1, 2, 3]) (by decide) (by decide) (by decide)).mono (fun _ _ ⟨x', he, hf, hb⟩ => ⟨x', he, ⟨hf.m.mono (Nat.zero_le _), hf.b.mono (Nat.zero_le _), hf.l.mono (Nat.zero_le _), hf.v.mono (Nat.zero_le _), hf.f.mono (Nat.zero_le _), hf.dv⟩, ((Bel.refl W').alloc _).trans hb⟩))
  have HM : Hid (∀ W' : World, Calls Tryz.prog 16 #[.int .i64 1, .int .i64 10, .slice (some ⟨W'.heap.size, 0, none⟩) 2 2] (W'.alloc (.cells #[.int .i64 2, .int .i64 1] 3)) fun e w' => e = .returned (.tuple #[.agg (pc 0 ⟨0, 0, 0, 0, 0, 0, 0, [], [], [], 0⟩ ⟨none, 0, none, 0, none, 0, none, 0, none, 0, none, 0⟩), .int .i64 2]) ∧ Bel W' w') := hide (fun W' => (new_no (sl_new3 W' [2, 1])).mono (fun _ _ ⟨he, hb⟩ => ⟨he, ((Bel.refl W').alloc _).trans hb⟩))
  have HT : Hid (∀ W' x', Pf 0 W' 3 (pnew 1 1) x' → Calls Tryz.prog 17 #[.agg (pc 3 (pnew 1 1) x'), .int .i64 3] W' fun e w' => ∃ st x2 aA cA, (st.term = 1 ∧ st.role = 1 ∧ st.wait = 13) ∧ e = .returned (.tuple #[.agg (pc 3 st x2), .slice aA 2 cA, .int .i64 0]) ∧ Bel W' w') := hide (fun W' x' hp => (tick_any hp.pq (pnew_ok (by decide) (by decide)) (by decide) (by decide) (by decide) 3 (by decide)).mono (fun _ _ ⟨x2, aA, cA, he, _, _, hb⟩ => ⟨_, x2, aA, cA, ⟨tick1.1, tick1.2.1, tick1.2.2.1⟩, by rw [he, tick1.2.2.2], hb⟩))
  have HJ : Hid (∀ W' : World, Calls Tryz.prog 18 #[.slice (some ⟨W'.heap.size, 0, none⟩) 4 4, .slice (some ⟨W'.heap.size + 1, 0, none⟩) 3 3] ((W'.alloc (.cells #[.int .i64 1, .int .i64 2, .int .i64 3, .int .i64 4] 3)).alloc (.cells #[.int .i64 1, .int .i64 2, .int .i64 4] 3)) fun e w' => e = .returned (.bool true) ∧ Bel W' w') := hide (fun W' => by
    have hs : ∀ o, (W'.alloc o).heap.size = W'.heap.size + 1 := fun o => by unfold World.alloc; exact Array.size_push _
    have h1 : Sl E3 ((W'.alloc (.cells #[.int .i64 1, .int .i64 2, .int .i64 3, .int .i64 4] 3)).alloc (.cells #[.int .i64 1, .int .i64 2, .int .i64 4] 3)) (some ⟨W'.heap.size, 0, none⟩) [1, 2, 3, 4] := (sl_new3 W' [1, 2, 3, 4]).bel ((Bel.refl _).alloc _)
    have h2 : Sl E3 ((W'.alloc (.cells #[.int .i64 1, .int .i64 2, .int .i64 3, .int .i64 4] 3)).alloc (.cells #[.int .i64 1, .int .i64 2, .int .i64 4] 3)) (some ⟨W'.heap.size + 1, 0, none⟩) [1, 2, 4] := by
      have := sl_new3 (W'.alloc (.cells #[.int .i64 1, .int .i64 2, .int .i64 3, .int .i64 4] 3)) [1, 2, 4]
      rw [hs] at this
      exact this
    have := majority_any (cap := 4) (cap2 := 3) h1 h2 (by decide) (by decide) (M' := [1, 2, 3, 4]) (I' := [1, 2, 4]) (by simp [Ris]) (fun _ => Iff.rfl) (by simp [Ris]) (fun _ => Iff.rfl) (by decide) (by decide)
    exact this.mono (fun e w' ⟨he, hb⟩ => ⟨he.trans (congrArg (fun v => Ending.returned (Value.bool v)) (by decide)), (((Bel.refl W').alloc _).alloc _).trans hb⟩))
  go_enter Tryz.func5, Tryz.ntmps5
  go_wp2_with (first
    | go_skip
    | (go_at_call 16; refine ((unhide HN) _).mono ?_; rintro e w1 ⟨x1, rfl, hp1, hb1⟩; have HP := hide hp1; have HB := hide hb1; clear hp1 hb1 HN)
    | (go_at_call 16; refine ((unhide HM) _).mono ?_; rintro e w2 ⟨rfl, hb2⟩; have HR := hide (hb2.row (unhide HR)); have HP := hide ((unhide HP).bel hb2); have HB := hide ((unhide HB).trans hb2); clear hb2)
    | (go_at_call 17; refine ((unhide HT) _ _ (unhide HP)).mono ?_; rintro e w3 ⟨st, x3, aA, cA, hst, rfl, hb3⟩; have HST := hide hst; have HR := hide (hb3.row (unhide HR)); have HP := hide ((unhide HP).bel hb3); have HB := hide ((unhide HB).trans hb3); clear hb3 hst)
    | (refine bx_new rfl 45 rfl _ Tryz.zero32 ?_; intro b w4 hr4 hs4 hb4; have HQ := hide (And.intro hr4 (And.intro (show W.heap.size ≤ b by have := (unhide HB).size; omega) (Nat.ne_of_lt (Nat.lt_of_lt_of_eq (lt_of_some (unhide HR)) hs4)))); have HR := hide (hb4.row (unhide HR)); have HP := hide ((unhide HP).bel hb4); have HB := hide ((unhide HB).trans hb4); clear hr4 hs4 hb4)
    | (refine bx_new rfl 45 rfl _ Tryz.zero32 ?_; intro b w4 hr4 hs4 hb4; have HQ := hide (And.intro hr4 (show W.heap.size ≤ b by have := (unhide HB).size; omega)); have HP := hide ((unhide HP).bel hb4); have HB := hide ((unhide HB).trans hb4); clear hr4 hs4 hb4)
    | (refine bx_st rfl 45 (.tmp 1) _ rfl b (pc 3 (pnew 1 1) x1) _ rfl rfl (unhide HQ).1 (Tryz.size32 _ _ _) rfl (pc_one _ _ _) ?_; intro w5 hr5 hc5; have HR := hide hr5; have HP := hide ((unhide HP).box (unhide HQ).1 hc5); have HB := hide (bel_off (unhide HB) hc5 (unhide HQ).2); clear hr5 hc5)
    | (refine bx_st rfl 45 (.tmp 3) _ rfl b (pc 0 ⟨0, 0, 0, 0, 0, 0, 0, [], [], [], 0⟩ ⟨none, 0, none, 0, none, 0, none, 0, none, 0, none, 0⟩) _ rfl rfl (unhide HQ).1 (Tryz.size32 _ _ _) rfl (pc_one _ _ _) ?_; intro w5 hr5 hc5; have HR := hide (hc5.row (unhide HR) (unhide HQ).2.2); have HP := hide ((unhide HP).box (unhide HQ).1 hc5); have HB := hide (bel_off (unhide HB) hc5 (unhide HQ).2.1); clear hr5 hc5)
    | (refine bx_ldH 45 (.tmp 1) (by exact rfl) _ (by exact rfl) (by exact rfl) (pc 3 (pnew 1 1) x1) _ (unhide HR) Tryz.underlying45 (Tryz.size32 _ _ _) ?_)
    | (refine bx_st rfl 45 (.tmp 5) _ rfl b (pc 3 st x3) _ rfl rfl (unhide HQ).1 (Tryz.size32 _ _ _) rfl (pc_one _ _ _) ?_; intro w5 hr5 hc5; have y2 := (Bx.of hr5).c2; have y4 := (Bx.of hr5).c4; have y13 := (Bx.of hr5).c13; rw [(unhide HST).1] at y2; rw [(unhide HST).2.1] at y4; rw [(unhide HST).2.2] at y13; have HB := hide (bel_off (unhide HB) hc5 (unhide HQ).2.1); clear hr5 hc5)
    | (go_at_call 18; refine ((unhide HJ) _).mono ?_; rintro e w6 ⟨rfl, hb6⟩; have HB := hide ((unhide HB).trans hb6); clear hb6)
    | go_guarded)
  go_ret
  exact ⟨rfl, unhide HB⟩
end Go.Proofs.YtgofdkheffoilaaGreat
