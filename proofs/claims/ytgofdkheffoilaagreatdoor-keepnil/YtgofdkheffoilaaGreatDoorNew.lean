/- New. -/
import Derived.Test.YtgofdkheffoilaaGreatDoorCln
namespace Go.Proofs.YtgofdkheffoilaaGreatDoor
open Go.RowKit Go.Maps
structure Tz (W w : World) (b b2 n : Nat) (s : PP) (x : Px) : Prop where
  row : w.heap[b]? = some (.cells (pc n s x) 29)
  pf : Pf W.heap.size w n s x
  bel : Bel W w
  row2 : ∃ s2 x2 n2, w.heap[b2]? = some (.cells (pc n2 s2 x2) 29)
  ge : W.heap.size ≤ b
  ge2 : W.heap.size ≤ b2
  ne : b2 ≠ b
section
variable {W w w' : World} {b b2 n : Nat} {s s' : PP} {x x' : Px}
theorem Tz.set (h : Tz W w b b2 n s x) (h1 : w'.heap[b]? = some (.cells (pc n s' x') 29)) (hc : Ch (fun i => i = b) w w') (hp : Pf W.heap.size w' n s' x') : Tz W w' b b2 n s' x' := by
  obtain ⟨s2, x2, n2, h2⟩ := h.row2
  exact ⟨h1, hp, bel_off h.bel hc h.ge, ⟨s2, x2, n2, hc.row h2 h.ne⟩, h.ge, h.ge2, h.ne⟩
theorem Tz.next (h : Tz W w b b2 n s x) (hb : Bel w w') : Tz W w' b b2 n s x := by
  obtain ⟨s2, x2, n2, h2⟩ := h.row2
  exact ⟨hb.row h.row, h.pf.bel hb, h.bel.trans hb, ⟨s2, x2, n2, hb.row h2⟩, h.ge, h.ge2, h.ne⟩
end
theorem sl_new3 (W : World) (l : List Int) : Sl E3 (W.alloc (.cells (l.map fun x => Value.int .i64 x).toArray 3)) (some ⟨W.heap.size, 0, none⟩) l :=
  ⟨W.heap.size, 0, fun _ => rfl, fun j hj c u hu => by
    have hc : c = 0 ∧ u = .int .i64 l[j] := by
      cases c with
      | zero => simp [E3] at hu; exact ⟨rfl, hu.symm⟩
      | succ c => simp [E3] at hu
    obtain ⟨rfl, rfl⟩ := hc
    rw [cell_of (at_new W _)]
    simp [E3, hj]⟩
/-- Where a new member's lists lie. -/
def xnew (a : Option Addr) (c : Nat) : Px := ⟨a, c, a, c, none, 0, none, 0, none, 0, none, 0⟩
theorem pnew_ok {n : Nat} {id wait : Int} (hi : 1 ≤ id ∧ id ≤ n) (hw : 1 ≤ wait ∧ wait ≤ 1000) : Ok n 0 0 (pnew id wait) := by
  refine ⟨hi.1, hi.2, Int.le_refl _, Int.le_refl _, ⟨Int.le_refl _, ?_⟩, ⟨Int.le_refl _, ?_⟩, hw, ⟨Int.le_refl _, ?_⟩, ⟨List.Pairwise.nil, fun x hx => (by cases hx)⟩, Nat.le_refl _, Nat.le_refl _, List.Pairwise.nil, fun x hx => (by cases hx), Or.inl ⟨rfl, rfl, rfl⟩⟩
  · show (0 : Int) ≤ n; omega
  · show (0 : Int) ≤ n; omega
  · show (0 : Int) ≤ 1000; omega
set_option maxRecDepth 100000 in
set_option maxHeartbeats 4000000 in
theorem new_any {W : World} {n : Nat} {a : Option Addr} {cap : Nat} {id wait : Int} (h : Sl E3 W a (mem n)) (hn : n ≤ 64) (hi : 1 ≤ id ∧ id ≤ n) (hw : 1 ≤ wait ∧ wait ≤ 1000) : Calls Tryz.prog 21 #[.int .i64 id, .int .i64 wait, .slice a n cap] W fun e w' => ∃ x', e = .returned (.tuple #[.agg (pc n (pnew id wait) x'), .int .i64 0]) ∧ Pf W.heap.size w' n (pnew id wait) x' ∧ Bel W w' := by
  have hz69 : ∀ W', Sl E69 W' none ([] : List PE) := fun W' => (Sl.of (El.O.nil (E := E69) 0 W')).1
  have hz3 : ∀ W', Sl E3 W' none ([] : List Int) := fun W' => (Sl.of (El.O.nil (E := E3) 0 W')).1
  have hz65 : ∀ W', Sl E65 W' none ([] : List (Int × Int × Int)) := fun W' => (Sl.of (El.O.nil (E := E65) 0 W')).1
  have H2 : Hid (∀ W', Bel W W' → Calls Tryz.prog 52 #[.agg (pc n (pnew id wait) (xnew a cap))] W' fun e w' => ∃ x', e = .returned (.agg (pc n (pnew id wait) x')) ∧ Pf W.heap.size w' n (pnew id wait) x' ∧ Bel W' w') := hide (fun W' hb => (clone_any (x := xnew a cap) (s := pnew id wait) ⟨h.bel hb, h.bel hb, hz69 W', hz3 W', hz65 W'⟩ hn (Nat.zero_le _) (Nat.zero_le _) (Nat.zero_le _)).mono (fun _ _ ⟨x', he, hf, hb'⟩ => ⟨x', he, ⟨hf.m.mono hb.size, hf.b.mono hb.size, hf.l.mono hb.size, hf.v.mono hb.size, hf.f.mono hb.size, hf.dv⟩, hb'⟩))
  have H1 : Hid (∀ W' x', Pf W.heap.size W' n (pnew id wait) x' → Calls Tryz.prog 17 #[.agg (pc n (pnew id wait) x')] W' fun e w' => e = .returned (.int .i64 0) ∧ Bel W' w') := hide (fun W' x' hp => may_ok hp.pw (pnew_ok hi hw) hn (by decide) (by decide) (Nat.zero_le _) rfl rfl rfl)
  clear h hn hi hw hz69 hz3 hz65
  go_enter Tryz.func21, Tryz.ntmps21
  go_wp2_with (first
    | go_skip
    | go_guarded
    | (refine bx_new rfl 29 rfl _ Tryz.zero32 ?_; intro b w2 hr2 hs2 hb2; replace HG := hide ((unhide HG).bel hb2); have HA := hide (And.intro hr2 (And.intro (hb2.row (unhide HR1).1) (And.intro ((unhide HR1).2.1.trans hb2) (And.intro (show W.heap.size ≤ b by have := (unhide HR1).2.1.size; omega) (And.intro (show W.heap.size ≤ b2 by have := (unhide HR1).2.2; omega) (show b2 ≠ b from fun e => by have := lt_of_some (unhide HR1).1; omega)))))); clear hr2 hs2 hb2 HR1)
    | (refine bx_new rfl 29 rfl _ Tryz.zero32 ?_; intro b2 w1 hr1 hs1 hb1; have HR1 := hide (And.intro hr1 (And.intro hb1 hs1)); clear hr1 hs1 hb1)
    | (go_at_call 52; refine ((unhide H2) _ (unhide HR1).2.1).mono ?_; rintro e w3 ⟨x3, rfl, hp3, hb3⟩; have HG := hide hp3; replace HR1 := hide (And.intro (hb3.row (unhide HR1).1) (And.intro ((unhide HR1).2.1.trans hb3) (unhide HR1).2.2)); clear hp3 hb3)
    | (refine bx_st rfl 29 (.tmp 8) _ rfl b (pc n (pnew id wait) x3) _ rfl rfl (unhide HA).1 (Tryz.size32 _ _ _) rfl (pc_one _ _ _) ?_; intro w4 hr4 hc4; have HZ : Hid (Tz W w4 b b2 n (pnew id wait) x3) := hide ⟨hr4, (unhide HG).box (unhide HA).1 hc4, bel_off (unhide HA).2.2.1 hc4 (unhide HA).2.2.2.1, ⟨_, _, _, hc4.row (unhide HA).2.1 (unhide HA).2.2.2.2.2⟩, (unhide HA).2.2.2.1, (unhide HA).2.2.2.2.1, (unhide HA).2.2.2.2.2⟩; clear hr4 hc4 HA HG)
    | (refine bx_ldH 29 (.tmp 8) (by exact rfl) b (by exact rfl) (by exact rfl) _ _ (unhide HZ).row Tryz.underlying29 (Tryz.size32 _ _ _) ?_)
    | (go_at_call 17; refine ((unhide H1) _ _ (unhide HZ).pf).mono ?_; rintro e w5 ⟨rfl, hb5⟩; replace HZ := hide ((unhide HZ).next hb5); clear hb5)
    | (obtain ⟨s2, x2, n2, h2⟩ := (unhide HZ).row2; refine bx_st rfl 29 (.tmp 6) _ rfl b2 _ _ rfl rfl h2 (Tryz.size32 _ _ _) rfl (pc_one _ _ _) ?_; intro w9 hr9 hc9; have HR9 := hide (And.intro hr9 (And.intro ((unhide HZ).pf.box h2 hc9) (bel_off (unhide HZ).bel hc9 (unhide HZ).ge2))); clear hr9 hc9 h2))
  exact bodyPost_ret (res2 (p := 6) (q := 7) rfl Tryz.underlying29 (Tryz.size32 _ _ _) (unhide HR9).1 _ _ rfl rfl) rfl ⟨_, rfl, (unhide HR9).2.1, (unhide HR9).2.2⟩
end Go.Proofs.YtgofdkheffoilaaGreatDoor
