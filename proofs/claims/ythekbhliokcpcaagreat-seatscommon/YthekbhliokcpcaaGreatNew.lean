/- New. -/
import Derived.Test.YthekbhliokcpcaaGreatTic
namespace Go.Proofs.YthekbhliokcpcaaGreat
open Go.RowKit Go.Maps Go.Sort
/-- A whole struct is read; what operation it is is asked first. -/
theorem bx_ldH {ops : Array Oper} {rest : List Oper} {o : Oper} {a : Act} {Q : Exit → Act → World → Prop} {W : World} (t : TypeId) (x : Operand) (ho : o.op = .load t x) (b : Nat) (hx : a.eval x = .pointer (some ⟨b, 0, none⟩)) (hw : Region.wanted o (yielded ops a.tmps) = true) (cs : Array Value) (fs : Array Field) (hg : W.heap[b]? = some (.cells cs t)) (hu : Tryz.prog.underlying t = some (.struct fs)) (hi : (Tryz.prog.info? t).map (·.size) = some cs.size)
    (h : wpList Tryz.prog ops Q rest (a.put o.dst (.agg cs)) W) : wpList Tryz.prog ops Q (o :: rest) a W := bx_ldG hw t x ho b hx cs fs hg hu hi h
/-- A struct is boxed; what operation it is is asked first. -/
theorem bx_boxH {ops : Array Oper} {rest : List Oper} {o : Oper} {a : Act} {Q : Exit → Act → World → Prop} {W : World} (t : TypeId) (x : Operand) (ho : o.op = .box t x) (hgd : o.guard = none) (cs : Array Value) (hx : a.eval x = .agg cs)
    (h : ∀ b w', w'.heap[b]? = some (.cells cs t) → W.heap.size = b → Bel W w' → wpList Tryz.prog ops Q rest (a.put o.dst (.pointer (some ⟨b, 0, none⟩))) w') : wpList Tryz.prog ops Q (o :: rest) a W := bx_box hgd t x ho cs hx h
theorem sl_new3 (W : World) (l : List Int) : Sl E3 (W.alloc (.cells (l.map fun x => Value.int .i64 x).toArray 3)) (some ⟨W.heap.size, 0, none⟩) l :=
  ⟨W.heap.size, 0, fun _ => rfl, fun j hj c u hu => by
    have hc : c = 0 ∧ u = .int .i64 l[j] := by
      cases c with
      | zero => simp [E3] at hu; exact ⟨rfl, hu.symm⟩
      | succ c => simp [E3] at hu
    obtain ⟨rfl, rfl⟩ := hc
    rw [cell_of (at_new W _)]
    simp [E3, hj]⟩
/-- Where a new member's lists lie. -/
def xnew (a : Option Addr) (c : Nat) : Px := ⟨a, c, a, c, none, 0, none, 0, none, 0, none, 0⟩
theorem pnew_ok {n : Nat} {id wait : Int} (hi : 1 ≤ id ∧ id ≤ n) (hw : 1 ≤ wait ∧ wait ≤ 1000) : Ok n 0 0 (pnew id wait) := by
  refine ⟨hi.1, hi.2, Int.le_refl _, Int.le_refl _, ⟨Int.le_refl _, ?_⟩, ⟨Int.le_refl _, ?_⟩, hw, ⟨Int.le_refl _, ?_⟩, ⟨List.Pairwise.nil, fun x hx => (by cases hx)⟩, Nat.le_refl _, Nat.le_refl _, List.Pairwise.nil, fun x hx => (by cases hx), Or.inl ⟨rfl, rfl, rfl⟩⟩
  · show (0 : Int) ≤ n; omega
  · show (0 : Int) ≤ n; omega
  · show (0 : Int) ≤ 1000; omega
set_option maxRecDepth 100000 in
set_option maxHeartbeats 4000000 in
theorem new_any {W : World} {n : Nat} {a : Option Addr} {cap : Nat} {id wait : Int} (h : Sl E3 W a (mem n)) (hn : n ≤ 64) (hi : 1 ≤ id ∧ id ≤ n) (hw : 1 ≤ wait ∧ wait ≤ 1000) : Calls Tryz.prog 17 #[.int .i64 id, .int .i64 wait, .slice a n cap] W fun e w' => ∃ x', e = .returned (.tuple #[.agg (pc n (pnew id wait) x'), .int .i64 0]) ∧ Pf W.heap.size w' n (pnew id wait) x' ∧ Bel W w' := by
  have hz69 : ∀ W', Sl E69 W' none ([] : List PE) := fun W' => (Sl.of (El.O.nil (E := E69) 0 W')).1
  have hz3 : ∀ W', Sl E3 W' none ([] : List Int) := fun W' => (Sl.of (El.O.nil (E := E3) 0 W')).1
  have hz65 : ∀ W', Sl E65 W' none ([] : List (Int × Int × Int)) := fun W' => (Sl.of (El.O.nil (E := E65) 0 W')).1
  have H2 : Hid (∀ W', Bel W W' → Calls Tryz.prog 41 #[.agg (pc n (pnew id wait) (xnew a cap))] W' fun e w' => ∃ x', e = .returned (.agg (pc n (pnew id wait) x')) ∧ Pf W.heap.size w' n (pnew id wait) x' ∧ Bel W' w') := hide (fun W' hb => (clone_any (x := xnew a cap) (s := pnew id wait) ⟨h.bel hb, h.bel hb, hz69 W', hz3 W', hz65 W'⟩ hn (Nat.zero_le _) (Nat.zero_le _) (Nat.zero_le _)).mono (fun _ _ ⟨x', he, hf, hb'⟩ => ⟨x', he, ⟨hf.m.mono hb.size, hf.b.mono hb.size, hf.l.mono hb.size, hf.v.mono hb.size, hf.f.mono hb.size, hf.dv⟩, hb'⟩))
  have H1 : Hid (∀ W' x', Pf W.heap.size W' n (pnew id wait) x' → Calls Tryz.prog 42 #[.agg (pc n (pnew id wait) x')] W' fun e w' => e = .returned (.int .i64 0) ∧ Bel W' w') := hide (fun W' x' hp => may_ok hp.pw (pnew_ok hi hw) hn (by decide) (by decide) (Nat.zero_le _))
  clear h hn hi hw hz69 hz3 hz65
  go_enter Tryz.func17, Tryz.ntmps17
  go_wp2_with (first
    | go_skip
    | go_guarded
    | (refine bx_new rfl 31 rfl _ Tryz.zero32 ?_; intro b w2 hr2 hs2 hb2; replace HG := hide ((unhide HG).bel hb2); have HA := hide (And.intro hr2 (And.intro (hb2.row (unhide HR1).1) (And.intro ((unhide HR1).2.1.trans hb2) (And.intro (show W.heap.size ≤ b by have := (unhide HR1).2.1.size; omega) (And.intro (show W.heap.size ≤ b2 by have := (unhide HR1).2.2; omega) (show b2 ≠ b from fun e => by have := lt_of_some (unhide HR1).1; omega)))))); clear hr2 hs2 hb2 HR1)
    | (refine bx_new rfl 31 rfl _ Tryz.zero32 ?_; intro b2 w1 hr1 hs1 hb1; have HR1 := hide (And.intro hr1 (And.intro hb1 hs1)); clear hr1 hs1 hb1)
    | (go_at_call 41; refine ((unhide H2) _ (unhide HR1).2.1).mono ?_; rintro e w3 ⟨x3, rfl, hp3, hb3⟩; have HG := hide hp3; replace HR1 := hide (And.intro (hb3.row (unhide HR1).1) (And.intro ((unhide HR1).2.1.trans hb3) (unhide HR1).2.2)); clear hp3 hb3)
    | (refine bx_st rfl 31 (.tmp 8) _ rfl b (pc n (pnew id wait) x3) _ rfl rfl (unhide HA).1 (Tryz.size32 _ _ _) rfl (pc_one _ _ _) ?_; intro w4 hr4 hc4; have HZ : Hid (Tz W w4 b b2 n (pnew id wait) x3) := hide ⟨hr4, (unhide HG).box (unhide HA).1 hc4, bel_off (unhide HA).2.2.1 hc4 (unhide HA).2.2.2.1, ⟨_, _, _, hc4.row (unhide HA).2.1 (unhide HA).2.2.2.2.2⟩, (unhide HA).2.2.2.1, (unhide HA).2.2.2.2.1, (unhide HA).2.2.2.2.2⟩; clear hr4 hc4 HA HG)
    | (refine bx_ldH 31 (.tmp 8) (by exact rfl) b (by exact rfl) (by exact rfl) _ _ (unhide HZ).row Tryz.underlying31 (Tryz.size32 _ _ _) ?_)
    | (go_at_call 42; refine ((unhide H1) _ _ (unhide HZ).pf).mono ?_; rintro e w5 ⟨rfl, hb5⟩; replace HZ := hide ((unhide HZ).next hb5); clear hb5)
    | (obtain ⟨s2, x2, n2, h2⟩ := (unhide HZ).row2; refine bx_st rfl 31 (.tmp 6) _ rfl b2 _ _ rfl rfl h2 (Tryz.size32 _ _ _) rfl (pc_one _ _ _) ?_; intro w9 hr9 hc9; have HR9 := hide (And.intro hr9 (And.intro ((unhide HZ).pf.box h2 hc9) (bel_off (unhide HZ).bel hc9 (unhide HZ).ge2))); clear hr9 hc9 h2))
  exact bodyPost_ret (res2 (p := 6) (q := 7) rfl Tryz.underlying31 (Tryz.size32 _ _ _) (unhide HR9).1 _ _ rfl rfl) rfl ⟨_, rfl, (unhide HR9).2.1, (unhide HR9).2.2⟩
end Go.Proofs.YthekbhliokcpcaaGreat
