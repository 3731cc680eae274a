/- countTold of any member. MayMsg of any message. -/
import Derived.Test.YthekbhliokcpcaaGreatT15
import Derived.Test.YthekbhliokcpcaaGreatT16
namespace Go.Proofs.YthekbhliokcpcaaGreat
open Go.RowKit Go.Maps Go.Sort
def GP.told (s : GP) (m : GM) : GP := if m.term = s.term ∧ s.role = 1 ∧ m.ok = true ∧ m.frm ∈ s.M then ({ s with votes := wth s.votes m.frm } : GP).winIf else s
theorem El.O.blk {α : Type} {E : El α} {base : Nat} {W w' : World} {v : Value} {L : List α} {r : Option Nat} (h : E.O base W v L) (hg : W.grownBy w' r) (hn : ∀ k j, r = some k → v.ownBlock = some j → j ≠ k) : E.O base w' v L := h.at (fun k hk => hg.block k (h.lt hk).2 (fun e => hn k k e.symm hk rfl))
theorem Pv.voted {base : Nat} {W w' : World} {s : GP} {x : Px} {V' : List Int} {g c : Nat} (h : Pv base W s x) (hg : W.grownBy w' (Value.slice x.aV s.votes.length x.cV).ownBlock) (hO : E3.O base w' (.slice (some ⟨g, 0, none⟩) V'.length c) V') (hat : (Value.slice x.aV s.votes.length x.cV).ownBlock = some g ∨ g = W.heap.size) : Pg base w' { s with votes := V' } { x with aV := some ⟨g, 0, none⟩, cV := c } := by
 obtain ⟨mid, mi2, h1, h2, h3, h4, h5⟩ := h.sep
 have hmi : ∀ {v : Value} {L : List Int}, E3.O mi2 W v L → E3.O mi2 w' v L := fun hq => hq.blk hg (fun k j hk hj e => by have := h4 k hk; have := (hq.lt hj).1; omega)
 refine ⟨h.m.blk hg (fun k j hk hj e => by have := h.dv k j hk (Or.inl hj); omega), (h5.b.blk hg (fun k j hk hj e => by have := h.dv k j hk (Or.inr hj); omega)).mono h1, ?_, hO, (h5.f.grown h5.v hg (by decide)).mono h1, ?_, ?_⟩
 ·obtain ⟨L, hl⟩ := h5.l
  exact ⟨L, hl.map, (hl.row.grown h5.v hg (by decide)).mono (Nat.le_trans h1 h2), fun y hy => (hmi (hl.own y hy)).mono (Nat.le_trans h1 h2)⟩
 ·obtain ⟨L, q1, q2, q3⟩ := h5.r
  exact ⟨L, q1, (q2.grown h5.v hg (by decide)).mono (Nat.le_trans h1 h2), fun y hy => (hmi (q3 y hy)).mono (Nat.le_trans h1 h2)⟩
 ·intro k j hk hj
  have e : g = k := by injection hk
  subst e
  rcases hat with e | e
  ·exact h.dv g j e hj
  ·rw [e]
   exact hj.elim (fun q => (h.m.lt q).2) (fun q => (h5.b.lt q).2)
structure Vq (base : Nat) (W w : World) (b b2 : Nat) (s : GP) (x : Px) (V' : List Int) (x' : Px) : Prop where
 row : w.heap[b]? = some (.cells (gc s x) 31)
 pg : Pg base w { s with votes := V' } x'
 bel : Below base W w
 row2 : ∃ s2 x2, w.heap[b2]? = some (.cells (gc s2 x2) 31)
 ge : W.heap.size ≤ b
 ge2 : W.heap.size ≤ b2
 ne : b2 ≠ b
 hB : base ≤ W.heap.size
 hs : W.heap.size ≤ w.heap.size
 kp : Kp W w
section
variable {base : Nat} {W w w' : World} {b b2 : Nat} {s : GP} {x x' : Px} {V' : List Int}
theorem Wg.vq {g c : Nat} {o : Obj} (h : Wg base W w b b2 s x) (hp : Pv base w s x) (hO : E3.O base w' (.slice (some ⟨g, 0, none⟩) V'.length c) V') (hG : (w.alloc o).grownBy w' (Value.slice x.aV s.votes.length x.cV).ownBlock) (hat : (Value.slice x.aV s.votes.length x.cV).ownBlock = some g ∨ g = (w.alloc o).heap.size) : Vq base W w' b b2 s x V' { x with aV := some ⟨g, 0, none⟩, cV := c } := by
 have hb := (Bel.refl w).alloc o
 have hn := h.next hb
 have hv := (hp.bel hb).pg.v
 obtain ⟨s2, x2, h2⟩ := hn.row2
 exact ⟨row_grown hn.row hv hG (by decide), (hp.bel hb).voted hG hO hat, Below.grew hn.bel hG hn.hw (fun k hk => (hv.lt hk).1), ⟨s2, x2, row_grown h2 hv hG (by decide)⟩, h.ge, h.ge2, h.ne, h.hB, Nat.le_trans hn.hs hG.size, hn.kp.grew hv hG (Or.inr (Or.inr rfl))⟩
theorem Vq.next (h : Vq base W w b b2 s x V' x') (hb : Bel w w') : Vq base W w' b b2 s x V' x' := by
 obtain ⟨s2, x2, h2⟩ := h.row2
 exact ⟨hb.row h.row, h.pg.bel hb, Below.ofBel h.bel hb (Nat.le_trans h.hB h.hs), ⟨s2, x2, hb.row h2⟩, h.ge, h.ge2, h.ne, h.hB, Nat.le_trans h.hs hb.size, h.kp.bel hb⟩
theorem Vq.put {U : List Int} {a : Option Addr} {c : Nat} (h : Vq base W w b b2 s x V' x') (hm : x'.aM = x.aM ∧ x'.cM = x.cM ∧ x'.aB = x.aB ∧ x'.cB = x.cB ∧ x'.aL = x.aL ∧ x'.cL = x.cL ∧ x'.aF = x.aF ∧ x'.cF = x.cF ∧ x'.aR = x.aR ∧ x'.cR = x.cR) (hO : E3.O base w (.slice a U.length c) U) (hd : ∀ k j, (Value.slice a U.length c).ownBlock = some k → (Value.slice x'.aM s.M.length x'.cM).ownBlock = some j ∨ (Value.slice x'.aB s.B.length x'.cB).ownBlock = some j → j < k) (h1 : w'.heap[b]? = some (.cells (gc { s with votes := U } { x with aV := a, cV := c }) 31)) (hc : Ch (fun i => i = b) w w') : Wg base W w' b b2 { s with votes := U } { x with aV := a, cV := c } := by
 obtain ⟨s2, x2, h2⟩ := h.row2
 obtain ⟨e1, e2, e3, e4, e5, e6, e7, e8, e9, e10⟩ := hm
 have p := h.pg
 have hp : Pg base w { s with votes := U } { x with aV := a, cV := c } := by
  refine ⟨?_, ?_, ?_, hO, ?_, ?_, ?_⟩
  ·have := p.m; rw [e1, e2] at this; exact this
  ·have := p.b; rw [e3, e4] at this; exact this
  ·have := p.l; rw [e5, e6] at this; exact this
  ·have := p.f; rw [e7, e8] at this; exact this
  ·have := p.r; rw [e9, e10] at this; exact this
  ·intro k j hk hj; exact hd k j hk (by rw [e1, e2, e3, e4]; exact hj)
 exact ⟨h1, hp.box h.row hc, Below.offCh h.bel hc (Nat.le_trans h.hB h.hs) (Nat.le_trans h.hB h.ge), ⟨s2, x2, hc.row h2 h.ne⟩, h.ge, h.ge2, h.ne, h.hB, Nat.le_trans h.hs hc.size, h.kp.off hc h.ge⟩
end
set_option maxRecDepth 100000 in
set_option maxHeartbeats 4000000 in
theorem told_g {base : Nat} {W : World} {s : GP} {x : Px} {m : GM} {y : GX} (h : Pv base W s x) (hB : base ≤ W.heap.size) (hn : s.M.length ≤ 64) (h1 : 1 ≤ s.M.length) (hM : Ris s.M) (h0 : 0 ≤ s.base) (h62 : s.base ≤ 4611686018427387904) (hl : s.log.length ≤ 99999) (hr : Ris s.votes) (hv : ∀ z ∈ s.votes, 1 ≤ z ∧ z ≤ 64) (hMm : ∀ z ∈ s.M, 1 ≤ z ∧ z ≤ 64) (hf : s.role = 1 → s.fol = []) : Calls Tryz.prog 238 #[.agg (gc s x), .agg (mg m y)] W fun e w' => ∃ x', e = .returned (.tuple #[.agg (gc (s.told m) x'), .slice none 0 0]) ∧ Pg base w' (s.told m) x' ∧ Below base W w' ∧ Kp W w' := by
 have HC : Hid (∀ W', Bel W W' → Calls Tryz.prog 82 #[.slice x.aM s.M.length x.cM, .int .i64 m.frm] W' fun e w' => e = .returned (.bool (decide (m.frm ∈ s.M))) ∧ w' = W') := jd (fun W' hb => contains_any ((Sl.of (h.m.bel hb)).1) x.cM m.frm (by omega))
 have HP := jd h
 have HBS := jd hB
 by_cases hyes : m.term = s.term ∧ s.role = 1 ∧ m.ok = true ∧ m.frm ∈ s.M
 ·obtain ⟨c1, c2, c3, c4⟩ := hyes
  obtain ⟨V', hV'⟩ : ∃ V', V' = s.votes ++ [m.frm] := ⟨_, rfl⟩
  obtain ⟨U, hU⟩ : ∃ U, U = wth s.votes m.frm := ⟨_, rfl⟩
  have HT : s.told m = ({ s with votes := U } : GP).winIf := by unfold GP.told; rw [if_pos ⟨c1, c2, c3, c4⟩, hU]
  rw [HT]
  have HV' := jd hV'
  have hvl : s.votes.length ≤ 64 := ris_le 64 s.votes hr.nodup hv
  have HLen : Hid (V'.length = s.votes.length + 1 ∧ s.votes.length ≤ 64) := jd ⟨by rw [hV']; simp, hvl⟩
  have hUr : Ris U := by rw [hU]; exact wth_ris hr _
  have hUm : ∀ z ∈ U, 1 ≤ z ∧ z ≤ 64 := fun z hz => by
   rw [hU] at hz
   rcases wth_mem.1 hz with rfl | hz
   ·exact hMm _ c4
   ·exact hv z hz
  have HU : Hid (Ris U ∧ ∀ y, y ∈ U ↔ y ∈ V') := jd ⟨hUr, fun y => by rw [hU, hV', wth_mem]; simp [or_comm]⟩
  have HW : Hid (∀ w1 x1, Pg base w1 { s with votes := U } x1 → base ≤ w1.heap.size → Calls Tryz.prog 170 #[.agg (gc { s with votes := U } x1)] w1 fun e w' => ∃ x', e = .returned (.agg (gc ({ s with votes := U } : GP).winIf x')) ∧ Pg base w' ({ s with votes := U } : GP).winIf x' ∧ Below base w1 w' ∧ Kp w1 w') := jd (fun w1 x1 hp hb => win_g (s := { s with votes := U }) hp hb hn h1 h0 h62 hl hM hUr (ris_le 64 U hUr.nodup hUm) (hf c2))
  generalize ({ s with votes := U } : GP).winIf = r at *
  have d1 : (m.term != s.term) = false := by simp [c1]
  have d2 : (s.role != 1) = false := by simp [c2]
  rw [decide_eq_true c4] at HC
  clear h hB hn h1 hM h0 h62 hl hr hv hMm hf HT hV' hU hUr hUm hvl c1 c2 c4
  go_enter Tryz.func238, Tryz.ntmps238
  go_wp2_with (first
   | go_skip
   | (refine bx_boxK 31 (.tmp 0) (by exact rfl) (by exact rfl) (gc s x) (by exact rfl) ?_; intro b w0 hr0 hs0 hb0; have HR0 := jd hr0; have HB0 := jd (aI hb0 hs0); clear hr0 hs0 hb0)
   | (refine bx_boxK 87 (.tmp 1) (by exact rfl) (by exact rfl) (mg m y) (by exact rfl) ?_; intro b3 w1 hr1 hs1 hb1; have HM0 := jd (aI hr1 hs1); have HB1 := jd hb1; clear hr1 hs1 hb1)
   | (refine bx_new rfl 31 rfl _ Tryz.zeroP ?_; intro b2 w2 hr2 hs2 hb2; have hA := (Az.mk0 (ju HP).pg (ju HB0).1 (ju HB0).2 (ju HR0) (ju HB1) (ju HM0).2 (ju HM0).1 hb2 hs2 hr2); have HBW := jd hA.bel; have HZ : Hid (Wg base W w2 b b2 s x) := jd ⟨hA.row, hA.pf, Below.ofBel (Below.refl _ _) hA.bel (ju HBS), hA.row2, hA.ge, hA.ge2, hA.ne, ju HBS, hA.bel.size, (Kp.refl W).bel hA.bel⟩; have m1 := (Mb2.of hA.rm).c1; have m3 := (Mb2.of hA.rm).c3; have m8 := (Mb2.of hA.rm).c8; have y1 := (Bg.of hA.row).c1; have y2 := (Bg.of hA.row).c2; have y4 := (Bg.of hA.row).c4; have y14 := (Bg.of hA.row).c14; clear hr2 hs2 hb2 HR0 HB0 HM0 HB1 hA)
   | (go_at_call 82; refine ((ju HC) _ (ju HBW)).mono ?_; rintro e w3 ⟨rfl, rfl⟩)
   | (refine bx_ldK 31 (.tmp 2) (by exact rfl) b (by exact rfl) (by exact rfl) _ _ (ju HZ).row u31 (zP _ _) ?_)
   | (at_builtin; have hpv := (ju HP).bel (ju HBW); refine app1_el (E := E3) m.frm V' (ju HV') (hpv.pg.v.bel ((Bel.refl _).alloc _)) (Nat.le_trans (ju HZ).hw ((Bel.refl _).alloc _).size) _ _ (at_new _ _) (by have := (ju HLen); omega) rfl _ _ 22 rfl rfl rfl rfl ?_; intro g cap w4 ho4 hg4 hat4; have HY := jd ((ju HZ).vq hpv ho4 hg4 hat4); clear ho4 hg4 hat4 hpv)
   | (go_at_call 43; refine (once_any (l := V') (Sl.of (ju HY).pg.v).1 (by have := (ju HLen); omega)).mono ?_; rintro e w5 ⟨a5, c5, l5, rfl, ho5, hr5, hm5, hb5⟩; obtain rfl : l5 = U := ris_ext _ _ hr5 (ju HU).1 (fun y => (hm5 y).trans ((ju HU).2 y).symm); have HQ := jd (aI (ho5.mono (Nat.le_trans (ju HY).hB (ju HY).hs)) (aI ho5 (ju HY).pg)); replace HY := jd ((ju HY).next hb5); clear ho5 hr5 hm5 hb5)
   | (refine gl_votes rfl _ _ rfl b _ l5 _ rfl rfl (ju HY).row ?_; intro w6 hr6 hc6; replace HZ := jd ((ju HY).put ⟨rfl, rfl, rfl, rfl, rfl, rfl, rfl, rfl, rfl, rfl⟩ (ju HQ).1 (fun k j hk hj => Nat.lt_of_lt_of_le (hj.elim (fun e => ((ju HQ).2.2.m.lt e).2) (fun e => ((ju HQ).2.2.b.lt e).2)) ((ju HQ).2.1.lt hk).1) hr6 hc6); clear hr6 hc6 HY HQ)
   | (go_at_call 170; refine ((ju HW) _ _ (ju HZ).pg (ju HZ).hw).mono ?_; rintro e w8 ⟨x8, rfl, hp8, hb8, hk8⟩; obtain ⟨s2, x2, h2⟩ := (ju HZ).row2; have HW8 := jd (aI hp8 (aI (Below.trans (ju HZ).bel hb8) (aI (hk8 _ _ _ h2 (by decide)) (aI ((ju HZ).kp.trans hk8) (Nat.le_trans (ju HZ).hw hb8.size))))); clear hp8 hb8 hk8 h2)
   | go_guarded
   | (refine bx_st rfl 31 (.tmp 4) _ rfl b2 _ _ rfl rfl (ju HW8).2.2.1 (zP _ _) rfl (gc_one _ _) ?_; intro w9 hr9 hc9; have HR9 := jd (aI hr9 (aI ((ju HW8).1.box (ju HW8).2.2.1 hc9) (aI (Below.offCh (ju HW8).2.1 hc9 (ju HW8).2.2.2.2 (Nat.le_trans (ju HZ).hB (ju HZ).ge2)) ((ju HW8).2.2.2.1.off hc9 (ju HZ).ge2)))); clear hr9 hc9))
  refine bodyPost_ret (res2 (p := 4) (q := 5) rfl u31 (zP _ _) (ju HR9).1 _ _ rfl rfl) rfl ⟨_, rfl, (ju HR9).2.1, (ju HR9).2.2⟩
 ·have HT : s.told m = s := by unfold GP.told; rw [if_neg hyes]
  rw [HT]
  have hX : (m.term != s.term) = true ∨ ((m.term != s.term) = false ∧ (s.role != 1) = true) ∨ ((m.term != s.term) = false ∧ (s.role != 1) = false ∧ m.ok = false) ∨ ((m.term != s.term) = false ∧ (s.role != 1) = false ∧ m.ok = true ∧ decide (m.frm ∈ s.M) = false) := by
   by_cases c1 : m.term = s.term
   ·by_cases c2 : s.role = 1
    ·cases c3 : m.ok with
     | false => exact Or.inr (Or.inr (Or.inl ⟨by simp [c1], by simp [c2], rfl⟩))
     | true => exact Or.inr (Or.inr (Or.inr ⟨by simp [c1], by simp [c2], rfl, decide_eq_false (fun c4 => hyes ⟨c1, c2, c3, c4⟩)⟩))
    ·exact Or.inr (Or.inl ⟨by simp [c1], by simp [c2]⟩)
   ·exact Or.inl (by simp [c1])
  clear h hB hn h1 hM h0 h62 hl hr hv hMm hf hyes HT
  rcases hX with c1 | ⟨c1, c2⟩ | ⟨c1, c2, c3⟩ | ⟨c1, c2, c3, c4⟩
  ·go_enter Tryz.func238, Tryz.ntmps238
   go_wp2_with (first
    | go_skip
    | (refine bx_boxK 31 (.tmp 0) (by exact rfl) (by exact rfl) (gc s x) (by exact rfl) ?_; intro b w0 hr0 hs0 hb0; have HR0 := jd hr0; have HB0 := jd (aI hb0 hs0); clear hr0 hs0 hb0)
    | (refine bx_boxK 87 (.tmp 1) (by exact rfl) (by exact rfl) (mg m y) (by exact rfl) ?_; intro b3 w1 hr1 hs1 hb1; have HM0 := jd (aI hr1 hs1); have HB1 := jd hb1; clear hr1 hs1 hb1)
    | (refine bx_new rfl 31 rfl _ Tryz.zeroP ?_; intro b2 w2 hr2 hs2 hb2; have hA := (Az.mk0 (ju HP).pg (ju HB0).1 (ju HB0).2 (ju HR0) (ju HB1) (ju HM0).2 (ju HM0).1 hb2 hs2 hr2); have HBW := jd hA.bel; have HZ : Hid (Wg base W w2 b b2 s x) := jd ⟨hA.row, hA.pf, Below.ofBel (Below.refl _ _) hA.bel (ju HBS), hA.row2, hA.ge, hA.ge2, hA.ne, ju HBS, hA.bel.size, (Kp.refl W).bel hA.bel⟩; have m1 := (Mb2.of hA.rm).c1; have m3 := (Mb2.of hA.rm).c3; have m8 := (Mb2.of hA.rm).c8; have y1 := (Bg.of hA.row).c1; have y2 := (Bg.of hA.row).c2; have y4 := (Bg.of hA.row).c4; have y14 := (Bg.of hA.row).c14; clear hr2 hs2 hb2 HR0 HB0 HM0 HB1 hA)
    | (go_at_call 82; refine ((ju HC) _ (ju HBW)).mono ?_; rintro e w3 ⟨rfl, rfl⟩)
    | (refine bx_ldK 31 (.tmp 2) (by exact rfl) b (by exact rfl) (by exact rfl) _ _ (ju HZ).row u31 (zP _ _) ?_)
    | go_guarded
    | (obtain ⟨s2, x2, h2⟩ := (ju HZ).row2; refine bx_st rfl 31 (.tmp 4) _ rfl b2 _ _ rfl rfl h2 (zP _ _) rfl (gc_one _ _) ?_; intro w9 hr9 hc9; have HR9 := jd (aI hr9 ((ju HZ).out h2 hc9)); clear hr9 hc9 h2))
   refine bodyPost_ret (res2 (p := 4) (q := 5) rfl u31 (zP _ _) (ju HR9).1 _ _ rfl rfl) rfl ⟨_, rfl, (ju HR9).2.1, (ju HR9).2.2⟩
  ·go_enter Tryz.func238, Tryz.ntmps238
   go_wp2_with (first
    | go_skip
    | (refine bx_boxK 31 (.tmp 0) (by exact rfl) (by exact rfl) (gc s x) (by exact rfl) ?_; intro b w0 hr0 hs0 hb0; have HR0 := jd hr0; have HB0 := jd (aI hb0 hs0); clear hr0 hs0 hb0)
    | (refine bx_boxK 87 (.tmp 1) (by exact rfl) (by exact rfl) (mg m y) (by exact rfl) ?_; intro b3 w1 hr1 hs1 hb1; have HM0 := jd (aI hr1 hs1); have HB1 := jd hb1; clear hr1 hs1 hb1)
    | (refine bx_new rfl 31 rfl _ Tryz.zeroP ?_; intro b2 w2 hr2 hs2 hb2; have hA := (Az.mk0 (ju HP).pg (ju HB0).1 (ju HB0).2 (ju HR0) (ju HB1) (ju HM0).2 (ju HM0).1 hb2 hs2 hr2); have HBW := jd hA.bel; have HZ : Hid (Wg base W w2 b b2 s x) := jd ⟨hA.row, hA.pf, Below.ofBel (Below.refl _ _) hA.bel (ju HBS), hA.row2, hA.ge, hA.ge2, hA.ne, ju HBS, hA.bel.size, (Kp.refl W).bel hA.bel⟩; have m1 := (Mb2.of hA.rm).c1; have m3 := (Mb2.of hA.rm).c3; have m8 := (Mb2.of hA.rm).c8; have y1 := (Bg.of hA.row).c1; have y2 := (Bg.of hA.row).c2; have y4 := (Bg.of hA.row).c4; have y14 := (Bg.of hA.row).c14; clear hr2 hs2 hb2 HR0 HB0 HM0 HB1 hA)
    | (go_at_call 82; refine ((ju HC) _ (ju HBW)).mono ?_; rintro e w3 ⟨rfl, rfl⟩)
    | (refine bx_ldK 31 (.tmp 2) (by exact rfl) b (by exact rfl) (by exact rfl) _ _ (ju HZ).row u31 (zP _ _) ?_)
    | go_guarded
    | (obtain ⟨s2, x2, h2⟩ := (ju HZ).row2; refine bx_st rfl 31 (.tmp 4) _ rfl b2 _ _ rfl rfl h2 (zP _ _) rfl (gc_one _ _) ?_; intro w9 hr9 hc9; have HR9 := jd (aI hr9 ((ju HZ).out h2 hc9)); clear hr9 hc9 h2))
   refine bodyPost_ret (res2 (p := 4) (q := 5) rfl u31 (zP _ _) (ju HR9).1 _ _ rfl rfl) rfl ⟨_, rfl, (ju HR9).2.1, (ju HR9).2.2⟩
  ·go_enter Tryz.func238, Tryz.ntmps238
   go_wp2_with (first
    | go_skip
    | (refine bx_boxK 31 (.tmp 0) (by exact rfl) (by exact rfl) (gc s x) (by exact rfl) ?_; intro b w0 hr0 hs0 hb0; have HR0 := jd hr0; have HB0 := jd (aI hb0 hs0); clear hr0 hs0 hb0)
    | (refine bx_boxK 87 (.tmp 1) (by exact rfl) (by exact rfl) (mg m y) (by exact rfl) ?_; intro b3 w1 hr1 hs1 hb1; have HM0 := jd (aI hr1 hs1); have HB1 := jd hb1; clear hr1 hs1 hb1)
    | (refine bx_new rfl 31 rfl _ Tryz.zeroP ?_; intro b2 w2 hr2 hs2 hb2; have hA := (Az.mk0 (ju HP).pg (ju HB0).1 (ju HB0).2 (ju HR0) (ju HB1) (ju HM0).2 (ju HM0).1 hb2 hs2 hr2); have HBW := jd hA.bel; have HZ : Hid (Wg base W w2 b b2 s x) := jd ⟨hA.row, hA.pf, Below.ofBel (Below.refl _ _) hA.bel (ju HBS), hA.row2, hA.ge, hA.ge2, hA.ne, ju HBS, hA.bel.size, (Kp.refl W).bel hA.bel⟩; have m1 := (Mb2.of hA.rm).c1; have m3 := (Mb2.of hA.rm).c3; have m8 := (Mb2.of hA.rm).c8; have y1 := (Bg.of hA.row).c1; have y2 := (Bg.of hA.row).c2; have y4 := (Bg.of hA.row).c4; have y14 := (Bg.of hA.row).c14; clear hr2 hs2 hb2 HR0 HB0 HM0 HB1 hA)
    | (go_at_call 82; refine ((ju HC) _ (ju HBW)).mono ?_; rintro e w3 ⟨rfl, rfl⟩)
    | (refine bx_ldK 31 (.tmp 2) (by exact rfl) b (by exact rfl) (by exact rfl) _ _ (ju HZ).row u31 (zP _ _) ?_)
    | go_guarded
    | (obtain ⟨s2, x2, h2⟩ := (ju HZ).row2; refine bx_st rfl 31 (.tmp 4) _ rfl b2 _ _ rfl rfl h2 (zP _ _) rfl (gc_one _ _) ?_; intro w9 hr9 hc9; have HR9 := jd (aI hr9 ((ju HZ).out h2 hc9)); clear hr9 hc9 h2))
   refine bodyPost_ret (res2 (p := 4) (q := 5) rfl u31 (zP _ _) (ju HR9).1 _ _ rfl rfl) rfl ⟨_, rfl, (ju HR9).2.1, (ju HR9).2.2⟩
  ·rw [c4] at HC
   go_enter Tryz.func238, Tryz.ntmps238
   go_wp2_with (first
    | go_skip
    | (refine bx_boxK 31 (.tmp 0) (by exact rfl) (by exact rfl) (gc s x) (by exact rfl) ?_; intro b w0 hr0 hs0 hb0; have HR0 := jd hr0; have HB0 := jd (aI hb0 hs0); clear hr0 hs0 hb0)
    | (refine bx_boxK 87 (.tmp 1) (by exact rfl) (by exact rfl) (mg m y) (by exact rfl) ?_; intro b3 w1 hr1 hs1 hb1; have HM0 := jd (aI hr1 hs1); have HB1 := jd hb1; clear hr1 hs1 hb1)
    | (refine bx_new rfl 31 rfl _ Tryz.zeroP ?_; intro b2 w2 hr2 hs2 hb2; have hA := (Az.mk0 (ju HP).pg (ju HB0).1 (ju HB0).2 (ju HR0) (ju HB1) (ju HM0).2 (ju HM0).1 hb2 hs2 hr2); have HBW := jd hA.bel; have HZ : Hid (Wg base W w2 b b2 s x) := jd ⟨hA.row, hA.pf, Below.ofBel (Below.refl _ _) hA.bel (ju HBS), hA.row2, hA.ge, hA.ge2, hA.ne, ju HBS, hA.bel.size, (Kp.refl W).bel hA.bel⟩; have m1 := (Mb2.of hA.rm).c1; have m3 := (Mb2.of hA.rm).c3; have m8 := (Mb2.of hA.rm).c8; have y1 := (Bg.of hA.row).c1; have y2 := (Bg.of hA.row).c2; have y4 := (Bg.of hA.row).c4; have y14 := (Bg.of hA.row).c14; clear hr2 hs2 hb2 HR0 HB0 HM0 HB1 hA)
    | (go_at_call 82; refine ((ju HC) _ (ju HBW)).mono ?_; rintro e w3 ⟨rfl, rfl⟩)
    | (refine bx_ldK 31 (.tmp 2) (by exact rfl) b (by exact rfl) (by exact rfl) _ _ (ju HZ).row u31 (zP _ _) ?_)
    | go_guarded
    | (obtain ⟨s2, x2, h2⟩ := (ju HZ).row2; refine bx_st rfl 31 (.tmp 4) _ rfl b2 _ _ rfl rfl h2 (zP _ _) rfl (gc_one _ _) ?_; intro w9 hr9 hc9; have HR9 := jd (aI hr9 ((ju HZ).out h2 hc9)); clear hr9 hc9 h2))
   refine bodyPost_ret (res2 (p := 4) (q := 5) rfl u31 (zP _ _) (ju HR9).1 _ _ rfl rfl) rfl ⟨_, rfl, (ju HR9).2.1, (ju HR9).2.2⟩
end Go.Proofs.YthekbhliokcpcaaGreat
namespace Go.Proofs.YthekbhliokcpcaaGreat
open Go.RowKit Go.Maps
def headB (m : GM) : Bool := decide (0 < m.kind) && decide (m.kind ≤ 5) && idB m.frm && idB m.to && (m.frm != m.to) && decide (0 < m.term) && decide (m.term ≤ 4611686018427387904)
set_option maxRecDepth 100000 in
set_option maxHeartbeats 1000000 in
theorem head_any {W : World} {m : GM} {x : GX} : Calls Tryz.prog 212 #[.agg (mg m x)] W fun e w' => e = .returned (.bool (headB m)) ∧ Bel W w' := by
 have HI := jd isId_any
 unfold headB
 generalize hf : idB m.frm = f at *
 generalize ht : idB m.to = t at *
 have HF := jd hf
 have HT := jd ht
 clear hf ht
 go_enter Tryz.func212, Tryz.ntmps212
 go_wp2_with (first
  | (refine bx_box rfl 87 _ rfl (mg m x) rfl ?_; intro b w0 hr0 hs0 hb0; obtain ⟨c0, c1, c2, c3, c4, c5, c6, c7, c8, c9, c10, c11⟩ := Mb2.of hr0; have HB := jd hb0; clear hr0 hs0 hb0)
  | (go_at_call 149; refine ((ju HI) _ _).mono ?_; rintro e w9 ⟨rfl, hw9⟩; rw [hw9]; clear hw9; first | rw [ju HF] | rw [ju HT]))
 all_goals
  go_ret
  refine ⟨?_, ju HB⟩
  simp_all <;> (try (intros; omega))
def placeB (m : GM) : Bool := if decide (4611686018427387904 < m.index) || decide (4611686018427387904 < m.round) || decide (m.term < m.lterm) then false else if m.kind == 1 || m.kind == 3 then ((m.index == 0) == (m.lterm == 0)) else if m.kind == 5 then decide (0 < m.index) && decide (0 < m.lterm) else true
set_option maxRecDepth 100000 in
set_option maxHeartbeats 1000000 in
theorem place_any {W : World} {m : GM} {x : GX} : Calls Tryz.prog 213 #[.agg (mg m x)] W fun e w' => e = .returned (.bool (placeB m)) ∧ Bel W w' := by
 unfold placeB
 go_enter Tryz.func213, Tryz.ntmps213
 go_wp2_with (first
  | (refine bx_box rfl 87 _ rfl (mg m x) rfl ?_; intro b w0 hr0 hs0 hb0; obtain ⟨c0, c1, c2, c3, c4, c5, c6, c7, c8, c9, c10, c11⟩ := Mb2.of hr0; have HB := jd hb0; clear hr0 hs0 hb0))
 all_goals
  go_ret
  refine ⟨?_, ju HB⟩
  simp_all <;> (try (intros; omega))
def listsB (m : GM) : Bool := if m.kind == 3 then decide (m.ents.length ≤ 16) && mayEs m.lterm m.term m.ents else if m.kind == 5 then decide (0 < m.mem.length) && aids 0 m.mem else true
set_option maxRecDepth 100000 in
set_option maxHeartbeats 1000000 in
theorem lists_any {W : World} {m : GM} {x : GX} (h : Gw W m x) (hl : m.ents.length ≤ 1048576) (hm : m.mem.length ≤ 1048576) (hq : ∀ y ∈ x.ls, y.1.m.length ≤ 1048576) : Calls Tryz.prog 214 #[.agg (mg m x)] W fun e w' => e = .returned (.bool (listsB m)) ∧ Bel W w' := by
 have hle : x.ls.length = m.ents.length := by rw [← h.e, List.length_map]
 have HE : Hid (∀ W', Bel W W' → Calls Tryz.prog 151 #[.slice x.ea m.ents.length x.ec, .int .u64 m.lterm, .int .u64 m.term] W' fun e w' => e = .returned (.bool (mayEs m.lterm m.term m.ents)) ∧ Bel W' w') := jd (fun W' hb => by
  have := mayEntries_any (h.l.bel hb) (h.g.bel hb) x.ec m.lterm m.term (by omega) (fun y hy => by have := hq y hy; omega)
  rwa [hle, h.e] at this)
 have HM : Hid (∀ W', Bel W W' → Calls Tryz.prog 152 #[.slice x.ma m.mem.length x.mc] W' fun e w' => e = .returned (.bool (decide (0 < m.mem.length) && aids 0 m.mem)) ∧ w' = W') := jd (fun W' hb => areMem_any (h.m.bel hb) x.mc (by omega))
 unfold listsB
 generalize mayEs m.lterm m.term m.ents = me at *
 generalize (decide (0 < m.mem.length) && aids 0 m.mem) = mm at *
 clear h hl hm hq hle
 go_enter Tryz.func214, Tryz.ntmps214
 go_wp2_with (first
  | (refine bx_box rfl 87 _ rfl (mg m x) rfl ?_; intro b w0 hr0 hs0 hb0; obtain ⟨c0, c1, c2, c3, c4, c5, c6, c7, c8, c9, c10, c11⟩ := Mb2.of hr0; have HB := jd hb0; clear hr0 hs0 hb0)
  | (go_at_call 151; refine ((ju HE) _ (ju HB)).mono ?_; rintro e w9 ⟨rfl, hb9⟩; replace HB := jd ((ju HB).trans hb9); clear hb9)
  | (go_at_call 152; refine ((ju HM) _ (ju HB)).mono ?_; rintro e w9 ⟨rfl, hw9⟩; rw [hw9]; clear hw9))
 all_goals
  go_ret
  refine ⟨?_, ju HB⟩
  simp_all <;> (try (intros; omega))
def unm (m : GM) : GM :=
 if m.kind = 5 then { m with index := 0, lterm := 0, round := 0, mem := [], snap := ⟨#[]⟩ }
 else if m.kind = 3 then { m with commit := 0, round := 0, ents := [], index := 0, lterm := 0 }
 else if m.kind = 1 then { m with index := 0, lterm := 0 }
 else if m.kind = 4 then { m with index := 0, round := 0, ok := false }
 else if m.kind = 2 then { m with ok := false }
 else m
def emptyB (m : GM) : Bool := (m.index == 0) && (m.lterm == 0) && (m.commit == 0) && (m.round == 0) && !m.ok && decide (m.ents.length = 0) && decide (m.mem.length = 0) && m.snap.toList.isEmpty
set_option maxRecDepth 100000 in
set_option maxHeartbeats 1000000 in
theorem empty_any {W : World} {m : GM} {x : GX} : Calls Tryz.prog 215 #[.agg (mg m x)] W fun e w' => e = .returned (.bool (emptyB m)) ∧ Bel W w' := by
 unfold emptyB
 go_enter Tryz.func215, Tryz.ntmps215
 go_wp2_with (first
  | (refine bx_box rfl 87 _ rfl (mg m x) rfl ?_; intro b w0 hr0 hs0 hb0; obtain ⟨c0, c1, c2, c3, c4, c5, c6, c7, c8, c9, c10, c11⟩ := Mb2.of hr0; have HB := jd hb0; clear hr0 hs0 hb0))
 all_goals
  go_ret
  refine ⟨?_, ju HB⟩
  simp_all <;> (try (intros; omega))
def unx (m : GM) (x : GX) : GX := if m.kind = 5 then { x with ma := none, mc := 0 } else if m.kind = 3 then { x with ea := none, ec := 0 } else x
theorem szMs {cs : Array Value} (h : cs.size = 12) : (Tryz.prog.info? 87).map (·.size) = some cs.size := by rw [h]; kernel_rfl
structure Mo (W w : World) (b b2 : Nat) (cs : Array Value) : Prop where
 row : w.heap[b]? = some (.cells cs 87)
 row2 : w.heap[b2]? = some (.cells (mg gz gzx) 87)
 bel : Bel W w
 ge : W.heap.size ≤ b
 ge2 : W.heap.size ≤ b2
 ne : b2 ≠ b
 sz : cs.size = 12
 one : cs.all (·.oneCell') = true
theorem Mo.set {W w w' : World} {b b2 i : Nat} {cs : Array Value} {v : Value} (h : Mo W w b b2 cs) (hv : v.oneCell' = true) (hr : w'.heap[b]? = some (.cells (cs.setIfInBounds i v) 87)) (hc : Ch (fun k => k = b) w w') : Mo W w' b b2 (cs.setIfInBounds i v) := by
 refine ⟨hr, hc.row h.row2 h.ne, bel_off h.bel hc h.ge, h.ge, h.ge2, h.ne, by rw [Array.size_setIfInBounds]; exact h.sz, ?_⟩
 have h1 := h.one
 rw [Array.all_eq_true] at h1 ⊢
 intro j hj
 rw [Array.getElem_setIfInBounds]
 split
 ·exact hv
 ·exact h1 j (by simpa using hj)
theorem msz23 : (Tryz.prog.info? 25).map (·.size) = some 1 := by kernel_rfl
theorem msz9 : (Tryz.prog.info? 9).map (·.size) = some 1 := by kernel_rfl
theorem msz25 : (Tryz.prog.info? 22).map (·.size) = some 1 := by kernel_rfl
theorem msz4 : (Tryz.prog.info? 4).map (·.size) = some 1 := by kernel_rfl
theorem msz24 : (Tryz.prog.info? 27).map (·.size) = some 1 := by kernel_rfl
set_option maxRecDepth 100000 in
set_option maxHeartbeats 4000000 in
theorem unn5 {W : World} {m : GM} {x : GX} (hk : m.kind = 5) : Calls Tryz.prog 216 #[.agg (mg m x)] W fun e w' => e = .returned (.agg (mg (unm m) (unx m x))) ∧ Bel W w' := by
 have HE : Hid (mg (unm m) (unx m x) = mg (unm m) (unx m x)) := jd rfl
 have HU : Hid (unm m = unm m) := jd rfl
 have e5 : (m.kind == 5) = true := by rw [hk]; rfl
 have HK := jd hk
 clear hk HE HU
 go_enter Tryz.func216, Tryz.ntmps216
 go_wp2_with (first
  | go_skip
  | (refine bx_box rfl 87 _ rfl (mg m x) rfl ?_; intro b w0 hr0 hs0 hb0; have HR0 := jd hr0; have HB0 := jd (aI hb0 (Nat.le_of_eq hs0)); clear hr0 hs0 hb0)
  | (refine bx_new rfl 87 rfl _ zeroM ?_; intro b2 w1 hr1 hs1 hb1; have HO : Hid (Mo W w1 b b2 (mg m x)) := jd ⟨hb1.row (ju HR0), hr1, (ju HB0).1.trans hb1, (ju HB0).2, (show W.heap.size ≤ b2 by have := (ju HB0).1.size; omega), (show b2 ≠ b from fun e => by have := lt_of_some (ju HR0); omega), rfl, mg_one m x⟩; have c0 := (Mb2.of (ju HO).row).c0; clear hr1 hs1 hb1)
  | (refine bx_set rfl 25 (.tmp 15) (.const (.int .u64 0)) rfl b 4 _ rfl rfl rfl rfl _ 87 (ju HO).row msz23 (by rw [(ju HO).sz]; decide) ?_; intro w2 hr2 hc2; replace HO := jd ((ju HO).set rfl hr2 hc2); clear hr2 hc2)
  | (refine bx_set rfl 25 (.tmp 16) (.const (.int .u64 0)) rfl b 5 _ rfl rfl rfl rfl _ 87 (ju HO).row msz23 (by rw [(ju HO).sz]; decide) ?_; intro w2 hr2 hc2; replace HO := jd ((ju HO).set rfl hr2 hc2); clear hr2 hc2)
  | (refine bx_set rfl 25 (.tmp 17) (.const (.int .u64 0)) rfl b 7 _ rfl rfl rfl rfl _ 87 (ju HO).row msz23 (by rw [(ju HO).sz]; decide) ?_; intro w2 hr2 hc2; replace HO := jd ((ju HO).set rfl hr2 hc2); clear hr2 hc2)
  | (refine bx_set rfl 22 (.tmp 18) (.const (.slice none 0 0)) rfl b 10 _ rfl rfl rfl rfl _ 87 (ju HO).row msz25 (by rw [(ju HO).sz]; decide) ?_; intro w2 hr2 hc2; replace HO := jd ((ju HO).set rfl hr2 hc2); clear hr2 hc2)
  | (refine bx_set rfl 9 (.tmp 19) (.const (.string ⟨#[]⟩)) rfl b 11 _ rfl rfl rfl rfl _ 87 (ju HO).row msz9 (by rw [(ju HO).sz]; decide) ?_; intro w2 hr2 hc2; replace HO := jd ((ju HO).set rfl hr2 hc2); clear hr2 hc2)
  | (refine bx_ld rfl 87 (.tmp 1) rfl b rfl _ _ (ju HO).row Tryz.underlying87 (szMs (ju HO).sz) ?_)
  | (refine bx_st rfl 87 (.tmp 2) (.tmp 28) rfl b2 _ _ rfl rfl (ju HO).row2 (szMs (ju HO).sz) (ju HO).sz.symm (ju HO).one ?_; intro w9 hr9 hc9; have HZ := jd (aI hr9 (bel_off (ju HO).bel hc9 (ju HO).ge2)); clear hr9 hc9)
  | go_guarded)
 refine bodyPost_ret (res1 (p := 2) rfl Tryz.underlying87 (szMs (by first | rfl | exact (ju HO).sz)) (ju HZ).1 _ rfl) rfl ⟨?_, (ju HZ).2⟩
 refine congrArg (fun c => Ending.returned (Value.agg c)) ?_
 have hk := ju HK
 simp only [unm, unx, if_pos hk]
 all_goals rfl
set_option maxRecDepth 100000 in
set_option maxHeartbeats 4000000 in
theorem unn3 {W : World} {m : GM} {x : GX} (hk : m.kind = 3) : Calls Tryz.prog 216 #[.agg (mg m x)] W fun e w' => e = .returned (.agg (mg (unm m) (unx m x))) ∧ Bel W w' := by
 have HE : Hid (mg (unm m) (unx m x) = mg (unm m) (unx m x)) := jd rfl
 have HU : Hid (unm m = unm m) := jd rfl
 have e5 : (m.kind == 5) = false := by rw [hk]; rfl
 have e3 : (m.kind == 3) = true := by rw [hk]; rfl
 have HK := jd hk
 clear hk HE HU
 go_enter Tryz.func216, Tryz.ntmps216
 go_wp2_with (first
  | go_skip
  | (refine bx_box rfl 87 _ rfl (mg m x) rfl ?_; intro b w0 hr0 hs0 hb0; have HR0 := jd hr0; have HB0 := jd (aI hb0 (Nat.le_of_eq hs0)); clear hr0 hs0 hb0)
  | (refine bx_new rfl 87 rfl _ zeroM ?_; intro b2 w1 hr1 hs1 hb1; have HO : Hid (Mo W w1 b b2 (mg m x)) := jd ⟨hb1.row (ju HR0), hr1, (ju HB0).1.trans hb1, (ju HB0).2, (show W.heap.size ≤ b2 by have := (ju HB0).1.size; omega), (show b2 ≠ b from fun e => by have := lt_of_some (ju HR0); omega), rfl, mg_one m x⟩; have c0 := (Mb2.of (ju HO).row).c0; clear hr1 hs1 hb1)
  | (refine bx_set rfl 25 (.tmp 20) (.const (.int .u64 0)) rfl b 6 _ rfl rfl rfl rfl _ 87 (ju HO).row msz23 (by rw [(ju HO).sz]; decide) ?_; intro w2 hr2 hc2; replace HO := jd ((ju HO).set rfl hr2 hc2); clear hr2 hc2)
  | (refine bx_set rfl 25 (.tmp 21) (.const (.int .u64 0)) rfl b 7 _ rfl rfl rfl rfl _ 87 (ju HO).row msz23 (by rw [(ju HO).sz]; decide) ?_; intro w2 hr2 hc2; replace HO := jd ((ju HO).set rfl hr2 hc2); clear hr2 hc2)
  | (refine bx_set rfl 27 (.tmp 22) (.const (.slice none 0 0)) rfl b 9 _ rfl rfl rfl rfl _ 87 (ju HO).row msz24 (by rw [(ju HO).sz]; decide) ?_; intro w2 hr2 hc2; replace HO := jd ((ju HO).set rfl hr2 hc2); clear hr2 hc2)
  | (refine bx_set rfl 25 (.tmp 23) (.const (.int .u64 0)) rfl b 4 _ rfl rfl rfl rfl _ 87 (ju HO).row msz23 (by rw [(ju HO).sz]; decide) ?_; intro w2 hr2 hc2; replace HO := jd ((ju HO).set rfl hr2 hc2); clear hr2 hc2)
  | (refine bx_set rfl 25 (.tmp 24) (.const (.int .u64 0)) rfl b 5 _ rfl rfl rfl rfl _ 87 (ju HO).row msz23 (by rw [(ju HO).sz]; decide) ?_; intro w2 hr2 hc2; replace HO := jd ((ju HO).set rfl hr2 hc2); clear hr2 hc2)
  | (refine bx_ld rfl 87 (.tmp 1) rfl b rfl _ _ (ju HO).row Tryz.underlying87 (szMs (ju HO).sz) ?_)
  | (refine bx_st rfl 87 (.tmp 2) (.tmp 28) rfl b2 _ _ rfl rfl (ju HO).row2 (szMs (ju HO).sz) (ju HO).sz.symm (ju HO).one ?_; intro w9 hr9 hc9; have HZ := jd (aI hr9 (bel_off (ju HO).bel hc9 (ju HO).ge2)); clear hr9 hc9)
  | go_guarded)
 refine bodyPost_ret (res1 (p := 2) rfl Tryz.underlying87 (szMs (by first | rfl | exact (ju HO).sz)) (ju HZ).1 _ rfl) rfl ⟨?_, (ju HZ).2⟩
 refine congrArg (fun c => Ending.returned (Value.agg c)) ?_
 have n5 : ¬ m.kind = 5 := by rw [ju HK]; decide
 have hk := ju HK
 simp only [unm, unx, if_neg n5, if_pos hk]
 all_goals rfl
set_option maxRecDepth 100000 in
set_option maxHeartbeats 4000000 in
theorem unn1 {W : World} {m : GM} {x : GX} (hk : m.kind = 1) : Calls Tryz.prog 216 #[.agg (mg m x)] W fun e w' => e = .returned (.agg (mg (unm m) (unx m x))) ∧ Bel W w' := by
 have HE : Hid (mg (unm m) (unx m x) = mg (unm m) (unx m x)) := jd rfl
 have HU : Hid (unm m = unm m) := jd rfl
 have e5 : (m.kind == 5) = false := by rw [hk]; rfl
 have e3 : (m.kind == 3) = false := by rw [hk]; rfl
 have e1 : (m.kind == 1) = true := by rw [hk]; rfl
 have HK := jd hk
 clear hk HE HU
 go_enter Tryz.func216, Tryz.ntmps216
 go_wp2_with (first
  | go_skip
  | (refine bx_box rfl 87 _ rfl (mg m x) rfl ?_; intro b w0 hr0 hs0 hb0; have HR0 := jd hr0; have HB0 := jd (aI hb0 (Nat.le_of_eq hs0)); clear hr0 hs0 hb0)
  | (refine bx_new rfl 87 rfl _ zeroM ?_; intro b2 w1 hr1 hs1 hb1; have HO : Hid (Mo W w1 b b2 (mg m x)) := jd ⟨hb1.row (ju HR0), hr1, (ju HB0).1.trans hb1, (ju HB0).2, (show W.heap.size ≤ b2 by have := (ju HB0).1.size; omega), (show b2 ≠ b from fun e => by have := lt_of_some (ju HR0); omega), rfl, mg_one m x⟩; have c0 := (Mb2.of (ju HO).row).c0; clear hr1 hs1 hb1)
  | (refine bx_set rfl 25 (.tmp 23) (.const (.int .u64 0)) rfl b 4 _ rfl rfl rfl rfl _ 87 (ju HO).row msz23 (by rw [(ju HO).sz]; decide) ?_; intro w2 hr2 hc2; replace HO := jd ((ju HO).set rfl hr2 hc2); clear hr2 hc2)
  | (refine bx_set rfl 25 (.tmp 24) (.const (.int .u64 0)) rfl b 5 _ rfl rfl rfl rfl _ 87 (ju HO).row msz23 (by rw [(ju HO).sz]; decide) ?_; intro w2 hr2 hc2; replace HO := jd ((ju HO).set rfl hr2 hc2); clear hr2 hc2)
  | (refine bx_ld rfl 87 (.tmp 1) rfl b rfl _ _ (ju HO).row Tryz.underlying87 (szMs (ju HO).sz) ?_)
  | (refine bx_st rfl 87 (.tmp 2) (.tmp 28) rfl b2 _ _ rfl rfl (ju HO).row2 (szMs (ju HO).sz) (ju HO).sz.symm (ju HO).one ?_; intro w9 hr9 hc9; have HZ := jd (aI hr9 (bel_off (ju HO).bel hc9 (ju HO).ge2)); clear hr9 hc9)
  | go_guarded)
 refine bodyPost_ret (res1 (p := 2) rfl Tryz.underlying87 (szMs (by first | rfl | exact (ju HO).sz)) (ju HZ).1 _ rfl) rfl ⟨?_, (ju HZ).2⟩
 refine congrArg (fun c => Ending.returned (Value.agg c)) ?_
 have n5 : ¬ m.kind = 5 := by rw [ju HK]; decide
 have n3 : ¬ m.kind = 3 := by rw [ju HK]; decide
 have hk := ju HK
 simp only [unm, unx, if_neg n5, if_neg n3, if_pos hk]
 all_goals rfl
set_option maxRecDepth 100000 in
set_option maxHeartbeats 4000000 in
theorem unn4 {W : World} {m : GM} {x : GX} (hk : m.kind = 4) : Calls Tryz.prog 216 #[.agg (mg m x)] W fun e w' => e = .returned (.agg (mg (unm m) (unx m x))) ∧ Bel W w' := by
 have HE : Hid (mg (unm m) (unx m x) = mg (unm m) (unx m x)) := jd rfl
 have HU : Hid (unm m = unm m) := jd rfl
 have e5 : (m.kind == 5) = false := by rw [hk]; rfl
 have e3 : (m.kind == 3) = false := by rw [hk]; rfl
 have e1 : (m.kind == 1) = false := by rw [hk]; rfl
 have e4 : (m.kind == 4) = true := by rw [hk]; rfl
 have HK := jd hk
 clear hk HE HU
 go_enter Tryz.func216, Tryz.ntmps216
 go_wp2_with (first
  | go_skip
  | (refine bx_box rfl 87 _ rfl (mg m x) rfl ?_; intro b w0 hr0 hs0 hb0; have HR0 := jd hr0; have HB0 := jd (aI hb0 (Nat.le_of_eq hs0)); clear hr0 hs0 hb0)
  | (refine bx_new rfl 87 rfl _ zeroM ?_; intro b2 w1 hr1 hs1 hb1; have HO : Hid (Mo W w1 b b2 (mg m x)) := jd ⟨hb1.row (ju HR0), hr1, (ju HB0).1.trans hb1, (ju HB0).2, (show W.heap.size ≤ b2 by have := (ju HB0).1.size; omega), (show b2 ≠ b from fun e => by have := lt_of_some (ju HR0); omega), rfl, mg_one m x⟩; have c0 := (Mb2.of (ju HO).row).c0; clear hr1 hs1 hb1)
  | (refine bx_set rfl 25 (.tmp 25) (.const (.int .u64 0)) rfl b 4 _ rfl rfl rfl rfl _ 87 (ju HO).row msz23 (by rw [(ju HO).sz]; decide) ?_; intro w2 hr2 hc2; replace HO := jd ((ju HO).set rfl hr2 hc2); clear hr2 hc2)
  | (refine bx_set rfl 25 (.tmp 26) (.const (.int .u64 0)) rfl b 7 _ rfl rfl rfl rfl _ 87 (ju HO).row msz23 (by rw [(ju HO).sz]; decide) ?_; intro w2 hr2 hc2; replace HO := jd ((ju HO).set rfl hr2 hc2); clear hr2 hc2)
  | (refine bx_set rfl 4 (.tmp 27) (.const (.bool false)) rfl b 8 _ rfl rfl rfl rfl _ 87 (ju HO).row msz4 (by rw [(ju HO).sz]; decide) ?_; intro w2 hr2 hc2; replace HO := jd ((ju HO).set rfl hr2 hc2); clear hr2 hc2)
  | (refine bx_ld rfl 87 (.tmp 1) rfl b rfl _ _ (ju HO).row Tryz.underlying87 (szMs (ju HO).sz) ?_)
  | (refine bx_st rfl 87 (.tmp 2) (.tmp 28) rfl b2 _ _ rfl rfl (ju HO).row2 (szMs (ju HO).sz) (ju HO).sz.symm (ju HO).one ?_; intro w9 hr9 hc9; have HZ := jd (aI hr9 (bel_off (ju HO).bel hc9 (ju HO).ge2)); clear hr9 hc9)
  | go_guarded)
 refine bodyPost_ret (res1 (p := 2) rfl Tryz.underlying87 (szMs (by first | rfl | exact (ju HO).sz)) (ju HZ).1 _ rfl) rfl ⟨?_, (ju HZ).2⟩
 refine congrArg (fun c => Ending.returned (Value.agg c)) ?_
 have n5 : ¬ m.kind = 5 := by rw [ju HK]; decide
 have n3 : ¬ m.kind = 3 := by rw [ju HK]; decide
 have n1 : ¬ m.kind = 1 := by rw [ju HK]; decide
 have hk := ju HK
 simp only [unm, unx, if_neg n5, if_neg n3, if_neg n1, if_pos hk]
 all_goals rfl
set_option maxRecDepth 100000 in
set_option maxHeartbeats 4000000 in
theorem unn2 {W : World} {m : GM} {x : GX} (hk : m.kind = 2) : Calls Tryz.prog 216 #[.agg (mg m x)] W fun e w' => e = .returned (.agg (mg (unm m) (unx m x))) ∧ Bel W w' := by
 have HE : Hid (mg (unm m) (unx m x) = mg (unm m) (unx m x)) := jd rfl
 have HU : Hid (unm m = unm m) := jd rfl
 have e5 : (m.kind == 5) = false := by rw [hk]; rfl
 have e3 : (m.kind == 3) = false := by rw [hk]; rfl
 have e1 : (m.kind == 1) = false := by rw [hk]; rfl
 have e4 : (m.kind == 4) = false := by rw [hk]; rfl
 have e2 : (m.kind == 2) = true := by rw [hk]; rfl
 have HK := jd hk
 clear hk HE HU
 go_enter Tryz.func216, Tryz.ntmps216
 go_wp2_with (first
  | go_skip
  | (refine bx_box rfl 87 _ rfl (mg m x) rfl ?_; intro b w0 hr0 hs0 hb0; have HR0 := jd hr0; have HB0 := jd (aI hb0 (Nat.le_of_eq hs0)); clear hr0 hs0 hb0)
  | (refine bx_new rfl 87 rfl _ zeroM ?_; intro b2 w1 hr1 hs1 hb1; have HO : Hid (Mo W w1 b b2 (mg m x)) := jd ⟨hb1.row (ju HR0), hr1, (ju HB0).1.trans hb1, (ju HB0).2, (show W.heap.size ≤ b2 by have := (ju HB0).1.size; omega), (show b2 ≠ b from fun e => by have := lt_of_some (ju HR0); omega), rfl, mg_one m x⟩; have c0 := (Mb2.of (ju HO).row).c0; clear hr1 hs1 hb1)
  | (refine bx_set rfl 4 (.tmp 27) (.const (.bool false)) rfl b 8 _ rfl rfl rfl rfl _ 87 (ju HO).row msz4 (by rw [(ju HO).sz]; decide) ?_; intro w2 hr2 hc2; replace HO := jd ((ju HO).set rfl hr2 hc2); clear hr2 hc2)
  | (refine bx_ld rfl 87 (.tmp 1) rfl b rfl _ _ (ju HO).row Tryz.underlying87 (szMs (ju HO).sz) ?_)
  | (refine bx_st rfl 87 (.tmp 2) (.tmp 28) rfl b2 _ _ rfl rfl (ju HO).row2 (szMs (ju HO).sz) (ju HO).sz.symm (ju HO).one ?_; intro w9 hr9 hc9; have HZ := jd (aI hr9 (bel_off (ju HO).bel hc9 (ju HO).ge2)); clear hr9 hc9)
  | go_guarded)
 refine bodyPost_ret (res1 (p := 2) rfl Tryz.underlying87 (szMs (by first | rfl | exact (ju HO).sz)) (ju HZ).1 _ rfl) rfl ⟨?_, (ju HZ).2⟩
 refine congrArg (fun c => Ending.returned (Value.agg c)) ?_
 have n5 : ¬ m.kind = 5 := by rw [ju HK]; decide
 have n3 : ¬ m.kind = 3 := by rw [ju HK]; decide
 have n1 : ¬ m.kind = 1 := by rw [ju HK]; decide
 have n4 : ¬ m.kind = 4 := by rw [ju HK]; decide
 have hk := ju HK
 simp only [unm, unx, if_neg n5, if_neg n3, if_neg n1, if_neg n4, if_pos hk]
 all_goals rfl
set_option maxRecDepth 100000 in
set_option maxHeartbeats 4000000 in
theorem unn0 {W : World} {m : GM} {x : GX} (h5 : ¬ m.kind = 5) (h3 : ¬ m.kind = 3) (h1 : ¬ m.kind = 1) (h4 : ¬ m.kind = 4) (h2 : ¬ m.kind = 2) : Calls Tryz.prog 216 #[.agg (mg m x)] W fun e w' => e = .returned (.agg (mg (unm m) (unx m x))) ∧ Bel W w' := by
 have e5 : (m.kind == 5) = false := beq_eq_false_iff_ne.2 h5
 have e3 : (m.kind == 3) = false := beq_eq_false_iff_ne.2 h3
 have e1 : (m.kind == 1) = false := beq_eq_false_iff_ne.2 h1
 have e4 : (m.kind == 4) = false := beq_eq_false_iff_ne.2 h4
 have e2 : (m.kind == 2) = false := beq_eq_false_iff_ne.2 h2
 have HK := jd (aI h5 (aI h3 (aI h1 (aI h4 h2))))
 clear h5 h3 h1 h4 h2
 go_enter Tryz.func216, Tryz.ntmps216
 go_wp2_with (first
  | go_skip
  | (refine bx_box rfl 87 _ rfl (mg m x) rfl ?_; intro b w0 hr0 hs0 hb0; have HR0 := jd hr0; have HB0 := jd (aI hb0 (Nat.le_of_eq hs0)); clear hr0 hs0 hb0)
  | (refine bx_new rfl 87 rfl _ zeroM ?_; intro b2 w1 hr1 hs1 hb1; have HO : Hid (Mo W w1 b b2 (mg m x)) := jd ⟨hb1.row (ju HR0), hr1, (ju HB0).1.trans hb1, (ju HB0).2, (show W.heap.size ≤ b2 by have := (ju HB0).1.size; omega), (show b2 ≠ b from fun e => by have := lt_of_some (ju HR0); omega), rfl, mg_one m x⟩; have c0 := (Mb2.of (ju HO).row).c0; clear hr1 hs1 hb1)
  | (refine bx_ld rfl 87 (.tmp 1) rfl b rfl _ _ (ju HO).row Tryz.underlying87 (szMs (ju HO).sz) ?_)
  | (refine bx_st rfl 87 (.tmp 2) (.tmp 28) rfl b2 _ _ rfl rfl (ju HO).row2 (szMs (ju HO).sz) (ju HO).sz.symm (ju HO).one ?_; intro w9 hr9 hc9; have HZ := jd (aI hr9 (bel_off (ju HO).bel hc9 (ju HO).ge2)); clear hr9 hc9)
  | go_guarded)
 refine bodyPost_ret (res1 (p := 2) rfl Tryz.underlying87 (szMs (by first | rfl | exact (ju HO).sz)) (ju HZ).1 _ rfl) rfl ⟨?_, (ju HZ).2⟩
 refine congrArg (fun c => Ending.returned (Value.agg c)) ?_
 have n5 : ¬ m.kind = 5 := (ju HK).1
 have n3 : ¬ m.kind = 3 := (ju HK).2.1
 have n1 : ¬ m.kind = 1 := (ju HK).2.2.1
 have n4 : ¬ m.kind = 4 := (ju HK).2.2.2.1
 have n2 : ¬ m.kind = 2 := (ju HK).2.2.2.2
 simp only [unm, unx, if_neg n5, if_neg n3, if_neg n1, if_neg n4, if_neg n2]
 all_goals rfl
theorem unnamed_any {W : World} {m : GM} {x : GX} : Calls Tryz.prog 216 #[.agg (mg m x)] W fun e w' => e = .returned (.agg (mg (unm m) (unx m x))) ∧ Bel W w' := by
 by_cases h5 : m.kind = 5
 ·exact unn5 h5
 by_cases h3 : m.kind = 3
 ·exact unn3 h3
 by_cases h1 : m.kind = 1
 ·exact unn1 h1
 by_cases h4 : m.kind = 4
 ·exact unn4 h4
 by_cases h2 : m.kind = 2
 ·exact unn2 h2
 exact unn0 h5 h3 h1 h4 h2
theorem ld_w {ops : Array Oper} {rest : List Oper} {o : Oper} {a : Act} {Q : Exit → Act → World → Prop} {W : World} (t : TypeId) (x : Operand) (ho : o.op = .load t x) (b : Nat) (hx : a.eval x = .pointer (some ⟨b, 0, none⟩)) (hw : Region.wanted o (yielded ops a.tmps) = true) (cs : Array Value) (fs : Array Field) (hg : W.heap[b]? = some (.cells cs t)) (hu : Tryz.prog.underlying t = some (.struct fs)) (hi : (Tryz.prog.info? t).map (·.size) = some cs.size)
  (h : wpList Tryz.prog ops Q rest (a.put o.dst (.agg cs)) W) : wpList Tryz.prog ops Q (o :: rest) a W :=
 wpList_step fun K hK => by
  rw [if_pos hw]
  exact wp_load_row t x ho b hx t cs (0, 0) _ hg hu rfl hi (hK _ _ h)
def mayMB (m : GM) : Bool := headB m && placeB m && listsB m && emptyB (unm m)
set_option maxRecDepth 100000 in
set_option maxHeartbeats 2000000 in
theorem maymsg_any {W : World} {m : GM} {x : GX} (h : Gw W m x) (hl : m.ents.length ≤ 1048576) (hm : m.mem.length ≤ 1048576) (hq : ∀ y ∈ x.ls, y.1.m.length ≤ 1048576) : Calls Tryz.prog 177 #[.agg (mg m x)] W fun e w' => e = .returned (.int .i64 (if mayMB m then 0 else 2)) ∧ Bel W w' := by
 have H1 : Hid (∀ W', Calls Tryz.prog 212 #[.agg (mg m x)] W' fun e w' => e = .returned (.bool (headB m)) ∧ Bel W' w') := jd (fun W' => head_any)
 have H2 : Hid (∀ W', Calls Tryz.prog 213 #[.agg (mg m x)] W' fun e w' => e = .returned (.bool (placeB m)) ∧ Bel W' w') := jd (fun W' => place_any)
 have H3 : Hid (∀ W', Bel W W' → Calls Tryz.prog 214 #[.agg (mg m x)] W' fun e w' => e = .returned (.bool (listsB m)) ∧ Bel W' w') := jd (fun W' hb => lists_any (h.bel hb) hl hm hq)
 have H4 : Hid (∀ W', Calls Tryz.prog 216 #[.agg (mg m x)] W' fun e w' => e = .returned (.agg (mg (unm m) (unx m x))) ∧ Bel W' w') := jd (fun W' => unnamed_any)
 have H5 : Hid (∀ W', Calls Tryz.prog 215 #[.agg (mg (unm m) (unx m x))] W' fun e w' => e = .returned (.bool (emptyB (unm m))) ∧ Bel W' w') := jd (fun W' => empty_any)
 unfold mayMB
 generalize headB m = a1 at *
 generalize placeB m = a2 at *
 generalize listsB m = a3 at *
 generalize emptyB (unm m) = a4 at *
 clear h hl hm hq
 cases a1 <;> cases a2 <;> cases a3 <;> cases a4
 all_goals
  go_enter Tryz.func177, Tryz.ntmps177
  go_wp2_with (first
   | go_skip
   | (refine bx_box rfl 87 _ rfl (mg m x) rfl ?_; intro b w0 hr0 hs0 hb0; have HB := jd (aI hr0 hb0); clear hr0 hs0 hb0)
   | (refine ld_w 87 (.tmp 1) (by exact rfl) b (by exact rfl) (by exact rfl) _ _ (ju HB).1 Tryz.underlying87 (szM _ _) ?_)
   | (go_at_call 212; refine ((ju H1) _).mono ?_; rintro e w1 ⟨rfl, hb1⟩; replace HB := jd (aI (hb1.row (ju HB).1) ((ju HB).2.trans hb1)); clear hb1)
   | (go_at_call 213; refine ((ju H2) _).mono ?_; rintro e w1 ⟨rfl, hb1⟩; replace HB := jd (aI (hb1.row (ju HB).1) ((ju HB).2.trans hb1)); clear hb1)
   | (go_at_call 214; refine ((ju H3) _ (ju HB).2).mono ?_; rintro e w1 ⟨rfl, hb1⟩; replace HB := jd (aI (hb1.row (ju HB).1) ((ju HB).2.trans hb1)); clear hb1)
   | (go_at_call 216; refine ((ju H4) _).mono ?_; rintro e w1 ⟨rfl, hb1⟩; replace HB := jd (aI (hb1.row (ju HB).1) ((ju HB).2.trans hb1)); clear hb1)
   | (go_at_call 215; refine ((ju H5) _).mono ?_; rintro e w1 ⟨rfl, hb1⟩; replace HB := jd (aI (hb1.row (ju HB).1) ((ju HB).2.trans hb1)); clear hb1)
   | go_guarded)
  go_ret
  exact ⟨rfl, (ju HB).2⟩
end Go.Proofs.YthekbhliokcpcaaGreat
