/- doings, Take of vote, of any member. raised, Propose of any member. logs.entries of any member. -/
import Derived.Test.YthekbhliokcpcaaGreatT17
import Derived.Test.YthekbhliokcpcaaGreatT10
namespace Go.Proofs.YthekbhliokcpcaaGreat
open Go.RowKit Go.Maps Go.Sort
def dos : Array Value := #[.nilFunc, .func (.func 237) #[] #[], .func (.func 238) #[] #[], .nilFunc, .nilFunc, .nilFunc]
theorem dos_one : dos.all (·.oneCell') = true := by simp [dos, Value.oneCell']
theorem Tryz.zeroDos (w : World) : (zeroValue 236).run Tryz.prog w = .ok (.agg #[.nilFunc, .nilFunc, .nilFunc, .nilFunc, .nilFunc, .nilFunc]) w := by go_simp
theorem Tryz.sizeDos : (Tryz.prog.info? 236).map (·.size) = some dos.size := by kernel_rfl
theorem Tryz.underlyingDos : Tryz.prog.underlying 236 = some (.array 6 235) := by kernel_rfl
theorem res1a {fn : Func} {p : Tmp} {t : TypeId} (hr : fn.results = #[.cell p t]) {W : World} {B k : Nat} {u : TypeId} {cs : Array Value} (hu : Tryz.prog.underlying t = some (.array k u)) (hs : (Tryz.prog.info? t).map (·.size) = some cs.size) (hg : W.heap[B]? = some (.cells cs t)) (tmps : Array Value) (hp : tmps.getD p undef = .pointer (some ⟨B, 0, none⟩)) : (results fn tmps).run Tryz.prog W = .ok (.agg cs) W := by
 have hp' : tmps[p]?.getD undef = .pointer (some ⟨B, 0, none⟩) := by simpa using hp
 simp [results, hr, hp', asAddr, run_loadVar_row W B t t cs (0, 0) _ hg hu rfl hs]
set_option maxRecDepth 100000 in
theorem doings_any {W : World} : Calls Tryz.prog 211 #[] W fun e w' => e = .returned (.agg dos) ∧ Bel W w' := by
 go_enter Tryz.func211, Tryz.ntmps211
 go_wp2_with (first
  | (refine bx_new rfl 236 rfl _ Tryz.zeroDos ?_; intro b2 w1 hr1 hs1 hb1; have HR1 := jd (aI hr1 (aI hb1 hs1)); clear hr1 hs1 hb1)
  | (refine bx_st rfl 236 _ _ rfl b2 dos _ rfl rfl (ju HR1).1 Tryz.sizeDos rfl dos_one ?_; intro w9 hr9 hc9; have HR9 := jd (aI hr9 hc9); clear hr9 hc9))
 refine bodyPost_ret (res1a (p := 0) rfl Tryz.underlyingDos Tryz.sizeDos (ju HR9).1 _ rfl) rfl ⟨rfl, bel_off (ju HR1).2.1 (ju HR9).2 (by have := (ju HR1).2.2; omega)⟩
structure Aq (W w : World) (b b2 b3 : Nat) (s : GP) (x : Px) (m : GM) (y : GX) : Prop where
 row : w.heap[b]? = some (.cells (gc s x) 31)
 rm : w.heap[b3]? = some (.cells (mg m y) 87)
 row2 : ∃ s2 x2, w.heap[b2]? = some (.cells (gc s2 x2) 31)
 bel : Bel W w
 ge : W.heap.size ≤ b
 ge2 : W.heap.size ≤ b2
 ne : b2 ≠ b
 ne3 : b3 ≠ b
 ne4 : b3 ≠ b2
section
variable {W w w' : World} {b b2 b3 : Nat} {s s' : GP} {x x' : Px} {m : GM} {y : GX}
theorem Aq.next (h : Aq W w b b2 b3 s x m y) (hb : Bel w w') : Aq W w' b b2 b3 s x m y := by
 obtain ⟨s2, x2, h2⟩ := h.row2
 exact ⟨hb.row h.row, hb.row h.rm, ⟨s2, x2, hb.row h2⟩, h.bel.trans hb, h.ge, h.ge2, h.ne, h.ne3, h.ne4⟩
theorem Aq.set (h : Aq W w b b2 b3 s x m y) (h1 : w'.heap[b]? = some (.cells (gc s' x') 31)) (hc : Ch (fun i => i = b) w w') : Aq W w' b b2 b3 s' x' m y := by
 obtain ⟨s2, x2, h2⟩ := h.row2
 exact ⟨h1, hc.row h.rm h.ne3, ⟨s2, x2, hc.row h2 h.ne⟩, bel_off h.bel hc h.ge, h.ge, h.ge2, h.ne, h.ne3, h.ne4⟩
theorem Aq.kp (h : Aq W w b b2 b3 s x m y) (hb : Below W.heap.size w w') (hk : Kp w w') : Aq W w' b b2 b3 s x m y := by
 obtain ⟨s2, x2, h2⟩ := h.row2
 exact ⟨hk _ _ _ h.row (by decide), hk _ _ _ h.rm (by decide), ⟨s2, x2, hk _ _ _ h2 (by decide)⟩, Below.trans h.bel hb, h.ge, h.ge2, h.ne, h.ne3, h.ne4⟩
theorem Aq.mk0 {w0 w1 w2 : World} {s2 : GP} {x2 : Px} (hb0 : Bel W w0) (hs0 : W.heap.size = b) (hr0 : w0.heap[b]? = some (.cells (gc s x) 31)) (hb1 : Bel w0 w1) (hs1 : w0.heap.size = b3) (hr1 : w1.heap[b3]? = some (.cells (mg m y) 87)) (hb2 : Bel w1 w2) (hs2 : w1.heap.size = b2) (hr2 : w2.heap[b2]? = some (.cells (gc s2 x2) 31)) : Aq W w2 b b2 b3 s x m y := by
 have l0 := lt_of_some hr0
 have l1 := lt_of_some hr1
 have l2 := hb1.size
 have l3 := hb0.size
 exact ⟨hb2.row (hb1.row hr0), hb2.row hr1, ⟨_, _, hr2⟩, (hb0.trans hb1).trans hb2, by omega, by omega, by omega, by omega, by omega⟩
end
theorem ixd_1 (w : World) : (Instr.index 236 (.agg dos) (.int .u8 1)).run Tryz.prog w = .ok (.func (.func 237) #[] #[]) w := by kernel_rfl
theorem ixd_2 (w : World) : (Instr.index 236 (.agg dos) (.int .u8 2)).run Tryz.prog w = .ok (.func (.func 238) #[] #[]) w := by kernel_rfl
theorem eqd_1 (w : World) : (binOp BinOp.eql 235 (.func (.func 237) #[] #[]) .nilFunc).run Tryz.prog w = .ok (.bool false) w := by kernel_rfl
theorem eqd_2 (w : World) : (binOp BinOp.eql 235 (.func (.func 238) #[] #[]) .nilFunc).run Tryz.prog w = .ok (.bool false) w := by kernel_rfl
theorem Pv.down {base : Nat} {W : World} {s : GP} {x : Px} (h : Pv base W s x) (t : Int) : Pv base W (s.down t) (dnX x) := by
 obtain ⟨mid, mi2, h1, h2, h3, h4, h5⟩ := h.sep
 exact ⟨h.m, ⟨mid, mi2, h1, h2, h3, (fun k hk => by cases hk), ⟨h5.b, h5.l, El.O.nil _ _, El.O.nil _ _, ⟨[], rfl, El.O.nil _ _, fun y hy => by cases hy⟩⟩⟩, fun k j hk => by cases hk⟩
def GP.vote1 (u : GP) (m : GM) : GP × List (GM × GX) := if m.kind = 1 then u.ask m else (u.told m, [])
def GP.voteTake (s : GP) (m : GM) : GP × List (GM × GX) := (if s.term < m.term then s.down m.term else s).vote1 m
theorem aids_bound : ∀ (l : List Int) (b : Int), aids b l = true → ∀ x ∈ l, 1 ≤ x ∧ x ≤ 64
 | [], _, _ => fun x hx => by cases hx
 | z :: l, b, h => by
  unfold aids at h
  simp only [Bool.and_eq_true, Bool.not_eq_true', decide_eq_false_iff_not] at h
  obtain ⟨⟨h1, h2⟩, h3⟩ := h
  unfold idB at h2
  simp only [Bool.and_eq_true, decide_eq_true_eq] at h2
  intro x hx
  rcases List.mem_cons.1 hx with rfl | hx
  ·exact h2
  ·exact aids_bound l z h3 x hx
theorem votes_of {s : GP} (h : mayG s = true) : Ris s.votes ∧ ∀ z ∈ s.votes, 1 ≤ z ∧ z ≤ 64 := by
 have h4 := (mayG_num h).2.2.2
 have nil : s.votes = [] → Ris s.votes ∧ ∀ z ∈ s.votes, 1 ≤ z ∧ z ≤ 64 := fun e => by rw [e]; exact ⟨List.Pairwise.nil, fun z hz => by cases hz⟩
 by_cases hr : s.role = 2
 ·exact nil (lf_of h hr).vo
 ·unfold rolB at h4
  rw [if_neg hr] at h4
  by_cases hq : 0 < s.fol.length ∨ 0 < s.reads.length
  ·rw [if_pos hq] at h4; cases h4
  ·rw [if_neg hq] at h4
   by_cases h1 : s.role = 1
   ·rw [if_pos h1] at h4
    unfold standB at h4
    simp only [Bool.and_eq_true] at h4
    have ha := h4.2.2.1
    exact ⟨(aids_ris _ 0 ha).2, aids_bound _ 0 ha⟩
   ·rw [if_neg h1] at h4
    exact nil (List.eq_nil_of_length_eq_zero (by have := beq_iff_eq.1 h4; omega))
theorem do_g {W : World} {u : GP} {m : GM} {y : GX} {f : Nat} (hn : u.M.length ≤ 64) (h1 : 1 ≤ u.M.length) (hM : Ris u.M) (hMm : ∀ z ∈ u.M, 1 ≤ z ∧ z ≤ 64) (h0 : 0 ≤ u.base) (h62 : u.base ≤ 4611686018427387904) (hl : u.log.length ≤ 99999) (hr : Ris u.votes) (hv : ∀ z ∈ u.votes, 1 ≤ z ∧ z ≤ 64) (hf : u.role = 1 → u.fol = []) (hk : (m.kind = 1 ∧ f = 237) ∨ (m.kind = 2 ∧ f = 238)) : ∀ W' x', W.heap.size ≤ W'.heap.size → Pv W.heap.size W' u x' → Calls Tryz.prog f #[.agg (gc u x'), .agg (mg m y)] W' fun e w' => ∃ x'' aA cA, e = .returned (.tuple #[.agg (gc (u.vote1 m).1 x''), .slice aA (u.vote1 m).2.length cA]) ∧ Pg W.heap.size w' (u.vote1 m).1 x'' ∧ EMg.O W.heap.size w' (.slice aA (u.vote1 m).2.length cA) (u.vote1 m).2 ∧ Below W.heap.size W' w' ∧ Kp W' w' := by
 intro W' x' hs hp
 rcases hk with ⟨hk, rfl⟩ | ⟨hk, rfl⟩
 ·have e : u.vote1 m = u.ask m := by unfold GP.vote1; rw [if_pos hk]
  rw [e]
  exact (ask_g hp.pg hs h0 h62 (by omega)).mono (fun _ _ ⟨aA, cA, he, hf, ho, hb⟩ => ⟨x', aA, cA, he, hf, ho.mono hs, Below.mono hb hs, (Kp.refl _).bel hb⟩)
 ·have e : u.vote1 m = (u.told m, []) := by unfold GP.vote1; rw [if_neg (by omega)]
  rw [e]
  exact (told_g hp hs hn h1 hM h0 h62 hl hr hv hMm hf).mono (fun _ _ ⟨x'', he, hf, hb, hk⟩ => ⟨x'', none, 0, he, hf, El.O.nil _ _, hb, hk⟩)
set_option maxRecDepth 100000 in
set_option maxHeartbeats 8000000 in
theorem voteTake_g {W : World} {s : GP} {x : Px} {m : GM} {y : GX} (h : Gp W s x) (hz : Gz s x) (hm : mayG s = true) (hll : s.log.length ≤ 99999) (hw : Gw W m y) (hme : m.ents.length ≤ 1048576 ∧ m.mem.length ≤ 1048576 ∧ ∀ z ∈ y.ls, z.1.m.length ≤ 1048576) (hmm : mayMB m = true) (hto : m.to = s.id) (hkd : m.kind = 1 ∨ m.kind = 2) : Calls Tryz.prog 176 #[.agg (gc s x), .agg (mg m y)] W fun e w' => ∃ x' aA cA, e = .returned (.tuple #[.agg (gc (s.voteTake m).1 x'), .slice aA (s.voteTake m).2.length cA, .int .i64 0]) ∧ Pg W.heap.size w' (s.voteTake m).1 x' ∧ EMg.O W.heap.size w' (.slice aA (s.voteTake m).2.length cA) (s.voteTake m).2 ∧ Bel W w' := by
 have H1 : Hid (∀ W', Bel W W' → Calls Tryz.prog 42 #[.agg (gc s x)] W' fun e w' => e = .returned (.int .i64 0) ∧ Bel W' w') := jd (fun W' hb => by have := may_g (h.bel hb) hz; rwa [hm, if_pos rfl] at this)
 have H2 : Hid (∀ W', Bel W W' → Calls Tryz.prog 41 #[.agg (gc s x)] W' fun e w' => ∃ x', e = .returned (.agg (gc s x')) ∧ Pv W.heap.size w' s x' ∧ Bel W' w') := jd (fun W' hb => (clone_v (h.bel hb) hz.m hz.b (by have := hz.l; omega) hz.lm hz.v (by have := hz.f; omega) (by have := hz.r; omega) hz.ra).mono (fun _ _ ⟨x', he, hp, hb'⟩ => ⟨x', he, hp.mono hb.size, hb'⟩))
 have H3 : Hid (∀ W', Bel W W' → Calls Tryz.prog 177 #[.agg (mg m y)] W' fun e w' => e = .returned (.int .i64 0) ∧ Bel W' w') := jd (fun W' hb => by have := maymsg_any (hw.bel hb) hme.1 hme.2.1 hme.2.2; rwa [hmm, if_pos rfl] at this)
 have e1 : (m.to != s.id) = false := by simp [hto]
 obtain ⟨q1, q2, q3, q4⟩ := mayG_num hm
 have m64 := mem64 q2 q3
 have hids := (mem_ids q2 q3).2
 have hris := (aids_ris _ 0 hids).2
 have hbd := aids_bound _ 0 hids
 have hb62 := numB_base q1
 have hvo := votes_of hm
 have hfo : s.role = 1 → s.fol = [] := fun hr => (fol_none hm (by omega)).1
 obtain ⟨r, hr⟩ : ∃ r, r = s.voteTake m := ⟨_, rfl⟩
 rw [← hr]
 by_cases c : s.term < m.term
 ·have hru : r = (s.down m.term).vote1 m := by rw [hr]; unfold GP.voteTake; rw [if_pos c]
  have cd : decide (s.term < m.term) = true := decide_eq_true c
  have H5 := jd (do_g (W := W) (u := s.down m.term) (y := y) (f := 237) (m := m) m64.2 m64.1 hris hbd hz.base.1 hb62 hll List.Pairwise.nil (fun y hy => by cases hy) (fun _ => rfl))
  have H6 := jd (do_g (W := W) (u := s.down m.term) (y := y) (f := 238) (m := m) m64.2 m64.1 hris hbd hz.base.1 hb62 hll List.Pairwise.nil (fun y hy => by cases hy) (fun _ => rfl))
  rw [← hru] at H5 H6
  rcases hkd with hk | hk
  ·have H4 := jd ((ju H5) (Or.inl ⟨hk, rfl⟩))
   clear h hz hm hll hw hme hmm hto q1 q2 q3 q4 m64 hids hris hbd hb62 hvo hfo hr c H5 H6 hru
   go_enter Tryz.func176, Tryz.ntmps176
   go_wp2_with (first
    | go_skip
    | (refine bx_boxK 31 (.tmp 0) (by exact rfl) (by exact rfl) (gc s x) (by exact rfl) ?_; intro b w0 hr0 hs0 hb0; have HR0 := jd hr0; have HB0 := jd (aI hb0 hs0); clear hr0 hs0 hb0)
    | (refine bx_boxK 87 (.tmp 1) (by exact rfl) (by exact rfl) (mg m y) (by exact rfl) ?_; intro b3 w1 hr1 hs1 hb1; have HM0 := jd (aI hr1 hs1); have HB1 := jd hb1; clear hr1 hs1 hb1)
    | (refine bx_new rfl 31 rfl _ Tryz.zeroP ?_; intro b2 w2 hr2 hs2 hb2; have HA := jd (Aq.mk0 (ju HB0).1 (ju HB0).2 (ju HR0) (ju HB1) (ju HM0).2 (ju HM0).1 hb2 hs2 hr2); clear hr2 hs2 hb2 HR0 HB0 HM0 HB1)
    | (go_at_call 42; refine ((ju H1) _ (ju HA).bel).mono ?_; rintro e w3 ⟨rfl, hb3⟩; replace HA := jd ((ju HA).next hb3); clear hb3)
    | (go_at_call 177; refine ((ju H3) _ (ju HA).bel).mono ?_; rintro e w4 ⟨rfl, hb4⟩; replace HA := jd ((ju HA).next hb4); clear hb4; have m2 := (Mb2.of (ju HA).rm).c2; have y0 := (Bg.of (ju HA).row).c0)
    | (refine bx_ldK 31 (.tmp 2) (by exact rfl) b (by exact rfl) (by exact rfl) _ _ (ju HA).row u31 (zP _ _) ?_)
    | (refine bx_ldK 87 (.tmp 3) (by exact rfl) b3 (by exact rfl) (by exact rfl) _ _ (ju HA).rm Tryz.underlying87 (szM _ _) ?_))
   clear m2 y0
   have hA := (ju HA).next (Bel.refl w4).drew
   refine wp_region_held_drew (S := fun w => w.heap[b3]? = some (.cells (mg m y) 87)) Tryz.follows hA.rm (fun hS => ?_)
   clear HA
   generalize w4.drew = wd at *
   refine any_take (i := 1) (v := .pointer (some ⟨b3, 0, none⟩)) rfl (by kernel_rfl) (fun _ _ _ h => h) rfl hS (fun w _ => by go_simp) ?_
   refine any_take (i := 2) (v := .int .u8 1) rfl (by kernel_rfl) (fun _ _ _ h => h) rfl hS (fun w hw => by have := (Mb2.of hw).c0; rw [hk] at this; go_simp) ?_
   refine any_call (i := 0) (by kernel_rfl) rfl rfl (by go_simp) doings_any ?_
   rintro e w5 ⟨rfl, hb5⟩
   refine ⟨_, rfl, hb5.row hS, ?_⟩
   refine any_do (i := 3) (v := .func (.func 237) #[] #[]) (by kernel_rfl) rfl rfl (by have := ixd_1 w5; go_simp) ⟨hb5.row hS, ?_⟩
   refine any_do (i := 4) (v := .func (.func 237) #[] #[]) (by kernel_rfl) rfl rfl (by go_simp) ⟨hb5.row hS, ?_⟩
   refine wpAnyH_done (by kernel_rfl) ?_ _
   have HA := jd (hA.next hb5)
   clear hA hS hb5 hk
   have q5 := eqd_1 w5
   go_wp2_with (first
    | go_skip
    | (go_at_call 41; refine ((ju H2) _ (ju HA).bel).mono ?_; rintro e w6 ⟨x6, rfl, hp6, hb6⟩; have HG := jd hp6; replace HA := jd ((ju HA).next hb6); clear hb6 hp6)
    | (go_at_call 145; refine (standDown_g _).mono ?_; rintro e w8 ⟨rfl, hb8⟩; have HG := jd (((ju HF).bel hb8).down m.term); replace HA := jd ((ju HA).next hb8); clear hb8 HF)
    | (go_at_call 237; refine ((ju H4) _ _ (ju HA).bel.size (ju HF)).mono ?_; rintro e w9 ⟨x9, aA, cA, rfl, hp9, ho9, hb9, hk9⟩; have HO := jd ho9; have HQ := jd hp9; replace HA := jd ((ju HA).kp hb9 hk9); clear hp9 ho9 hb9 hk9 HF)
    | (refine bx_ldK 31 (.tmp 2) (by exact rfl) b (by exact rfl) (by exact rfl) _ _ (ju HA).row u31 (zP _ _) ?_)
    | (refine bx_ldK 87 (.tmp 3) (by exact rfl) b3 (by exact rfl) (by exact rfl) _ _ (ju HA).rm Tryz.underlying87 (szM _ _) ?_)
    | (refine bx_st rfl 31 (.tmp 2) _ rfl b _ _ rfl rfl (ju HA).row (zP _ _) rfl (gc_one _ _) ?_; intro w7 hr7 hc7; have HP := jd ((ju HO).box (ju HA).row (by decide) hc7); have HF := jd ((ju HQ).box (ju HA).row hc7); replace HA := jd ((ju HA).set hr7 hc7); clear hr7 hc7 HQ HO)
    | (refine bx_st rfl 31 (.tmp 2) _ rfl b _ _ rfl rfl (ju HA).row (zP _ _) rfl (gc_one _ _) ?_; intro w7 hr7 hc7; have HF := jd ((ju HG).box (ju HA).row hc7); replace HA := jd ((ju HA).set hr7 hc7); have y2 := (Bg.of (ju HA).row).c2; have m3 := (Mb2.of (ju HA).rm).c3; clear hr7 hc7 HG)
    | go_guarded
    | (obtain ⟨s2, x2, h2⟩ := (ju HA).row2; refine bx_st rfl 31 (.tmp 4) _ rfl b2 _ _ rfl rfl h2 (zP _ _) rfl (gc_one _ _) ?_; intro w10 hr10 hc10; have HR10 := jd (aI hr10 (aI ((ju HF).box h2 hc10) (aI ((ju HP).box h2 (by decide) hc10) (bel_off (ju HA).bel hc10 (ju HA).ge2)))); clear hr10 hc10 h2))
   refine bodyPost_ret (res3 (p := 4) (q := 5) (r := 6) rfl u31 (zP _ _) (ju HR10).1 _ _ _ rfl rfl rfl) rfl ⟨_, _, _, rfl, (ju HR10).2.1, (ju HR10).2.2.1, (ju HR10).2.2.2⟩
  ·have H4 := jd ((ju H6) (Or.inr ⟨hk, rfl⟩))
   clear h hz hm hll hw hme hmm hto q1 q2 q3 q4 m64 hids hris hbd hb62 hvo hfo hr c H5 H6 hru
   go_enter Tryz.func176, Tryz.ntmps176
   go_wp2_with (first
    | go_skip
    | (refine bx_boxK 31 (.tmp 0) (by exact rfl) (by exact rfl) (gc s x) (by exact rfl) ?_; intro b w0 hr0 hs0 hb0; have HR0 := jd hr0; have HB0 := jd (aI hb0 hs0); clear hr0 hs0 hb0)
    | (refine bx_boxK 87 (.tmp 1) (by exact rfl) (by exact rfl) (mg m y) (by exact rfl) ?_; intro b3 w1 hr1 hs1 hb1; have HM0 := jd (aI hr1 hs1); have HB1 := jd hb1; clear hr1 hs1 hb1)
    | (refine bx_new rfl 31 rfl _ Tryz.zeroP ?_; intro b2 w2 hr2 hs2 hb2; have HA := jd (Aq.mk0 (ju HB0).1 (ju HB0).2 (ju HR0) (ju HB1) (ju HM0).2 (ju HM0).1 hb2 hs2 hr2); clear hr2 hs2 hb2 HR0 HB0 HM0 HB1)
    | (go_at_call 42; refine ((ju H1) _ (ju HA).bel).mono ?_; rintro e w3 ⟨rfl, hb3⟩; replace HA := jd ((ju HA).next hb3); clear hb3)
    | (go_at_call 177; refine ((ju H3) _ (ju HA).bel).mono ?_; rintro e w4 ⟨rfl, hb4⟩; replace HA := jd ((ju HA).next hb4); clear hb4; have m2 := (Mb2.of (ju HA).rm).c2; have y0 := (Bg.of (ju HA).row).c0)
    | (refine bx_ldK 31 (.tmp 2) (by exact rfl) b (by exact rfl) (by exact rfl) _ _ (ju HA).row u31 (zP _ _) ?_)
    | (refine bx_ldK 87 (.tmp 3) (by exact rfl) b3 (by exact rfl) (by exact rfl) _ _ (ju HA).rm Tryz.underlying87 (szM _ _) ?_))
   clear m2 y0
   have hA := (ju HA).next (Bel.refl w4).drew
   refine wp_region_held_drew (S := fun w => w.heap[b3]? = some (.cells (mg m y) 87)) Tryz.follows hA.rm (fun hS => ?_)
   clear HA
   generalize w4.drew = wd at *
   refine any_take (i := 1) (v := .pointer (some ⟨b3, 0, none⟩)) rfl (by kernel_rfl) (fun _ _ _ h => h) rfl hS (fun w _ => by go_simp) ?_
   refine any_take (i := 2) (v := .int .u8 2) rfl (by kernel_rfl) (fun _ _ _ h => h) rfl hS (fun w hw => by have := (Mb2.of hw).c0; rw [hk] at this; go_simp) ?_
   refine any_call (i := 0) (by kernel_rfl) rfl rfl (by go_simp) doings_any ?_
   rintro e w5 ⟨rfl, hb5⟩
   refine ⟨_, rfl, hb5.row hS, ?_⟩
   refine any_do (i := 3) (v := .func (.func 238) #[] #[]) (by kernel_rfl) rfl rfl (by have := ixd_2 w5; go_simp) ⟨hb5.row hS, ?_⟩
   refine any_do (i := 4) (v := .func (.func 238) #[] #[]) (by kernel_rfl) rfl rfl (by go_simp) ⟨hb5.row hS, ?_⟩
   refine wpAnyH_done (by kernel_rfl) ?_ _
   have HA := jd (hA.next hb5)
   clear hA hS hb5 hk
   have q5 := eqd_2 w5
   go_wp2_with (first
    | go_skip
    | (go_at_call 41; refine ((ju H2) _ (ju HA).bel).mono ?_; rintro e w6 ⟨x6, rfl, hp6, hb6⟩; have HG := jd hp6; replace HA := jd ((ju HA).next hb6); clear hb6 hp6)
    | (go_at_call 145; refine (standDown_g _).mono ?_; rintro e w8 ⟨rfl, hb8⟩; have HG := jd (((ju HF).bel hb8).down m.term); replace HA := jd ((ju HA).next hb8); clear hb8 HF)
    | (go_at_call 238; refine ((ju H4) _ _ (ju HA).bel.size (ju HF)).mono ?_; rintro e w9 ⟨x9, aA, cA, rfl, hp9, ho9, hb9, hk9⟩; have HO := jd ho9; have HQ := jd hp9; replace HA := jd ((ju HA).kp hb9 hk9); clear hp9 ho9 hb9 hk9 HF)
    | (refine bx_ldK 31 (.tmp 2) (by exact rfl) b (by exact rfl) (by exact rfl) _ _ (ju HA).row u31 (zP _ _) ?_)
    | (refine bx_ldK 87 (.tmp 3) (by exact rfl) b3 (by exact rfl) (by exact rfl) _ _ (ju HA).rm Tryz.underlying87 (szM _ _) ?_)
    | (refine bx_st rfl 31 (.tmp 2) _ rfl b _ _ rfl rfl (ju HA).row (zP _ _) rfl (gc_one _ _) ?_; intro w7 hr7 hc7; have HP := jd ((ju HO).box (ju HA).row (by decide) hc7); have HF := jd ((ju HQ).box (ju HA).row hc7); replace HA := jd ((ju HA).set hr7 hc7); clear hr7 hc7 HQ HO)
    | (refine bx_st rfl 31 (.tmp 2) _ rfl b _ _ rfl rfl (ju HA).row (zP _ _) rfl (gc_one _ _) ?_; intro w7 hr7 hc7; have HF := jd ((ju HG).box (ju HA).row hc7); replace HA := jd ((ju HA).set hr7 hc7); have y2 := (Bg.of (ju HA).row).c2; have m3 := (Mb2.of (ju HA).rm).c3; clear hr7 hc7 HG)
    | go_guarded
    | (obtain ⟨s2, x2, h2⟩ := (ju HA).row2; refine bx_st rfl 31 (.tmp 4) _ rfl b2 _ _ rfl rfl h2 (zP _ _) rfl (gc_one _ _) ?_; intro w10 hr10 hc10; have HR10 := jd (aI hr10 (aI ((ju HF).box h2 hc10) (aI ((ju HP).box h2 (by decide) hc10) (bel_off (ju HA).bel hc10 (ju HA).ge2)))); clear hr10 hc10 h2))
   refine bodyPost_ret (res3 (p := 4) (q := 5) (r := 6) rfl u31 (zP _ _) (ju HR10).1 _ _ _ rfl rfl rfl) rfl ⟨_, _, _, rfl, (ju HR10).2.1, (ju HR10).2.2.1, (ju HR10).2.2.2⟩
 ·have hru : r = s.vote1 m := by rw [hr]; unfold GP.voteTake; rw [if_neg c]
  have cd : decide (s.term < m.term) = false := decide_eq_false c
  have H5 := jd (do_g (W := W) (u := s) (y := y) (f := 237) (m := m) m64.2 m64.1 hris hbd hz.base.1 hb62 hll hvo.1 hvo.2 hfo)
  have H6 := jd (do_g (W := W) (u := s) (y := y) (f := 238) (m := m) m64.2 m64.1 hris hbd hz.base.1 hb62 hll hvo.1 hvo.2 hfo)
  rw [← hru] at H5 H6
  rcases hkd with hk | hk
  ·have H4 := jd ((ju H5) (Or.inl ⟨hk, rfl⟩))
   clear h hz hm hll hw hme hmm hto q1 q2 q3 q4 m64 hids hris hbd hb62 hvo hfo hr c H5 H6 hru
   go_enter Tryz.func176, Tryz.ntmps176
   go_wp2_with (first
    | go_skip
    | (refine bx_boxK 31 (.tmp 0) (by exact rfl) (by exact rfl) (gc s x) (by exact rfl) ?_; intro b w0 hr0 hs0 hb0; have HR0 := jd hr0; have HB0 := jd (aI hb0 hs0); clear hr0 hs0 hb0)
    | (refine bx_boxK 87 (.tmp 1) (by exact rfl) (by exact rfl) (mg m y) (by exact rfl) ?_; intro b3 w1 hr1 hs1 hb1; have HM0 := jd (aI hr1 hs1); have HB1 := jd hb1; clear hr1 hs1 hb1)
    | (refine bx_new rfl 31 rfl _ Tryz.zeroP ?_; intro b2 w2 hr2 hs2 hb2; have HA := jd (Aq.mk0 (ju HB0).1 (ju HB0).2 (ju HR0) (ju HB1) (ju HM0).2 (ju HM0).1 hb2 hs2 hr2); clear hr2 hs2 hb2 HR0 HB0 HM0 HB1)
    | (go_at_call 42; refine ((ju H1) _ (ju HA).bel).mono ?_; rintro e w3 ⟨rfl, hb3⟩; replace HA := jd ((ju HA).next hb3); clear hb3)
    | (go_at_call 177; refine ((ju H3) _ (ju HA).bel).mono ?_; rintro e w4 ⟨rfl, hb4⟩; replace HA := jd ((ju HA).next hb4); clear hb4; have m2 := (Mb2.of (ju HA).rm).c2; have y0 := (Bg.of (ju HA).row).c0)
    | (refine bx_ldK 31 (.tmp 2) (by exact rfl) b (by exact rfl) (by exact rfl) _ _ (ju HA).row u31 (zP _ _) ?_)
    | (refine bx_ldK 87 (.tmp 3) (by exact rfl) b3 (by exact rfl) (by exact rfl) _ _ (ju HA).rm Tryz.underlying87 (szM _ _) ?_))
   clear m2 y0
   have hA := (ju HA).next (Bel.refl w4).drew
   refine wp_region_held_drew (S := fun w => w.heap[b3]? = some (.cells (mg m y) 87)) Tryz.follows hA.rm (fun hS => ?_)
   clear HA
   generalize w4.drew = wd at *
   refine any_take (i := 1) (v := .pointer (some ⟨b3, 0, none⟩)) rfl (by kernel_rfl) (fun _ _ _ h => h) rfl hS (fun w _ => by go_simp) ?_
   refine any_take (i := 2) (v := .int .u8 1) rfl (by kernel_rfl) (fun _ _ _ h => h) rfl hS (fun w hw => by have := (Mb2.of hw).c0; rw [hk] at this; go_simp) ?_
   refine any_call (i := 0) (by kernel_rfl) rfl rfl (by go_simp) doings_any ?_
   rintro e w5 ⟨rfl, hb5⟩
   refine ⟨_, rfl, hb5.row hS, ?_⟩
   refine any_do (i := 3) (v := .func (.func 237) #[] #[]) (by kernel_rfl) rfl rfl (by have := ixd_1 w5; go_simp) ⟨hb5.row hS, ?_⟩
   refine any_do (i := 4) (v := .func (.func 237) #[] #[]) (by kernel_rfl) rfl rfl (by go_simp) ⟨hb5.row hS, ?_⟩
   refine wpAnyH_done (by kernel_rfl) ?_ _
   have HA := jd (hA.next hb5)
   clear hA hS hb5 hk
   have q5 := eqd_1 w5
   go_wp2_with (first
    | go_skip
    | (go_at_call 41; refine ((ju H2) _ (ju HA).bel).mono ?_; rintro e w6 ⟨x6, rfl, hp6, hb6⟩; have HG := jd hp6; replace HA := jd ((ju HA).next hb6); clear hb6 hp6)
    | (go_at_call 145; refine (standDown_g _).mono ?_; rintro e w8 ⟨rfl, hb8⟩; have HG := jd (((ju HF).bel hb8).down m.term); replace HA := jd ((ju HA).next hb8); clear hb8 HF)
    | (go_at_call 237; refine ((ju H4) _ _ (ju HA).bel.size (ju HF)).mono ?_; rintro e w9 ⟨x9, aA, cA, rfl, hp9, ho9, hb9, hk9⟩; have HO := jd ho9; have HQ := jd hp9; replace HA := jd ((ju HA).kp hb9 hk9); clear hp9 ho9 hb9 hk9 HF)
    | (refine bx_ldK 31 (.tmp 2) (by exact rfl) b (by exact rfl) (by exact rfl) _ _ (ju HA).row u31 (zP _ _) ?_)
    | (refine bx_ldK 87 (.tmp 3) (by exact rfl) b3 (by exact rfl) (by exact rfl) _ _ (ju HA).rm Tryz.underlying87 (szM _ _) ?_)
    | (refine bx_st rfl 31 (.tmp 2) _ rfl b _ _ rfl rfl (ju HA).row (zP _ _) rfl (gc_one _ _) ?_; intro w7 hr7 hc7; have HP := jd ((ju HO).box (ju HA).row (by decide) hc7); have HF := jd ((ju HQ).box (ju HA).row hc7); replace HA := jd ((ju HA).set hr7 hc7); clear hr7 hc7 HQ HO)
    | (refine bx_st rfl 31 (.tmp 2) _ rfl b _ _ rfl rfl (ju HA).row (zP _ _) rfl (gc_one _ _) ?_; intro w7 hr7 hc7; have HF := jd ((ju HG).box (ju HA).row hc7); replace HA := jd ((ju HA).set hr7 hc7); have y2 := (Bg.of (ju HA).row).c2; have m3 := (Mb2.of (ju HA).rm).c3; clear hr7 hc7 HG)
    | go_guarded
    | (obtain ⟨s2, x2, h2⟩ := (ju HA).row2; refine bx_st rfl 31 (.tmp 4) _ rfl b2 _ _ rfl rfl h2 (zP _ _) rfl (gc_one _ _) ?_; intro w10 hr10 hc10; have HR10 := jd (aI hr10 (aI ((ju HF).box h2 hc10) (aI ((ju HP).box h2 (by decide) hc10) (bel_off (ju HA).bel hc10 (ju HA).ge2)))); clear hr10 hc10 h2))
   refine bodyPost_ret (res3 (p := 4) (q := 5) (r := 6) rfl u31 (zP _ _) (ju HR10).1 _ _ _ rfl rfl rfl) rfl ⟨_, _, _, rfl, (ju HR10).2.1, (ju HR10).2.2.1, (ju HR10).2.2.2⟩
  ·have H4 := jd ((ju H6) (Or.inr ⟨hk, rfl⟩))
   clear h hz hm hll hw hme hmm hto q1 q2 q3 q4 m64 hids hris hbd hb62 hvo hfo hr c H5 H6 hru
   go_enter Tryz.func176, Tryz.ntmps176
   go_wp2_with (first
    | go_skip
    | (refine bx_boxK 31 (.tmp 0) (by exact rfl) (by exact rfl) (gc s x) (by exact rfl) ?_; intro b w0 hr0 hs0 hb0; have HR0 := jd hr0; have HB0 := jd (aI hb0 hs0); clear hr0 hs0 hb0)
    | (refine bx_boxK 87 (.tmp 1) (by exact rfl) (by exact rfl) (mg m y) (by exact rfl) ?_; intro b3 w1 hr1 hs1 hb1; have HM0 := jd (aI hr1 hs1); have HB1 := jd hb1; clear hr1 hs1 hb1)
    | (refine bx_new rfl 31 rfl _ Tryz.zeroP ?_; intro b2 w2 hr2 hs2 hb2; have HA := jd (Aq.mk0 (ju HB0).1 (ju HB0).2 (ju HR0) (ju HB1) (ju HM0).2 (ju HM0).1 hb2 hs2 hr2); clear hr2 hs2 hb2 HR0 HB0 HM0 HB1)
    | (go_at_call 42; refine ((ju H1) _ (ju HA).bel).mono ?_; rintro e w3 ⟨rfl, hb3⟩; replace HA := jd ((ju HA).next hb3); clear hb3)
    | (go_at_call 177; refine ((ju H3) _ (ju HA).bel).mono ?_; rintro e w4 ⟨rfl, hb4⟩; replace HA := jd ((ju HA).next hb4); clear hb4; have m2 := (Mb2.of (ju HA).rm).c2; have y0 := (Bg.of (ju HA).row).c0)
    | (refine bx_ldK 31 (.tmp 2) (by exact rfl) b (by exact rfl) (by exact rfl) _ _ (ju HA).row u31 (zP _ _) ?_)
    | (refine bx_ldK 87 (.tmp 3) (by exact rfl) b3 (by exact rfl) (by exact rfl) _ _ (ju HA).rm Tryz.underlying87 (szM _ _) ?_))
   clear m2 y0
   have hA := (ju HA).next (Bel.refl w4).drew
   refine wp_region_held_drew (S := fun w => w.heap[b3]? = some (.cells (mg m y) 87)) Tryz.follows hA.rm (fun hS => ?_)
   clear HA
   generalize w4.drew = wd at *
   refine any_take (i := 1) (v := .pointer (some ⟨b3, 0, none⟩)) rfl (by kernel_rfl) (fun _ _ _ h => h) rfl hS (fun w _ => by go_simp) ?_
   refine any_take (i := 2) (v := .int .u8 2) rfl (by kernel_rfl) (fun _ _ _ h => h) rfl hS (fun w hw => by have := (Mb2.of hw).c0; rw [hk] at this; go_simp) ?_
   refine any_call (i := 0) (by kernel_rfl) rfl rfl (by go_simp) doings_any ?_
   rintro e w5 ⟨rfl, hb5⟩
   refine ⟨_, rfl, hb5.row hS, ?_⟩
   refine any_do (i := 3) (v := .func (.func 238) #[] #[]) (by kernel_rfl) rfl rfl (by have := ixd_2 w5; go_simp) ⟨hb5.row hS, ?_⟩
   refine any_do (i := 4) (v := .func (.func 238) #[] #[]) (by kernel_rfl) rfl rfl (by go_simp) ⟨hb5.row hS, ?_⟩
   refine wpAnyH_done (by kernel_rfl) ?_ _
   have HA := jd (hA.next hb5)
   clear hA hS hb5 hk
   have q5 := eqd_2 w5
   go_wp2_with (first
    | go_skip
    | (go_at_call 41; refine ((ju H2) _ (ju HA).bel).mono ?_; rintro e w6 ⟨x6, rfl, hp6, hb6⟩; have HG := jd hp6; replace HA := jd ((ju HA).next hb6); clear hb6 hp6)
    | (go_at_call 145; refine (standDown_g _).mono ?_; rintro e w8 ⟨rfl, hb8⟩; have HG := jd (((ju HF).bel hb8).down m.term); replace HA := jd ((ju HA).next hb8); clear hb8 HF)
    | (go_at_call 238; refine ((ju H4) _ _ (ju HA).bel.size (ju HF)).mono ?_; rintro e w9 ⟨x9, aA, cA, rfl, hp9, ho9, hb9, hk9⟩; have HO := jd ho9; have HQ := jd hp9; replace HA := jd ((ju HA).kp hb9 hk9); clear hp9 ho9 hb9 hk9 HF)
    | (refine bx_ldK 31 (.tmp 2) (by exact rfl) b (by exact rfl) (by exact rfl) _ _ (ju HA).row u31 (zP _ _) ?_)
    | (refine bx_ldK 87 (.tmp 3) (by exact rfl) b3 (by exact rfl) (by exact rfl) _ _ (ju HA).rm Tryz.underlying87 (szM _ _) ?_)
    | (refine bx_st rfl 31 (.tmp 2) _ rfl b _ _ rfl rfl (ju HA).row (zP _ _) rfl (gc_one _ _) ?_; intro w7 hr7 hc7; have HP := jd ((ju HO).box (ju HA).row (by decide) hc7); have HF := jd ((ju HQ).box (ju HA).row hc7); replace HA := jd ((ju HA).set hr7 hc7); clear hr7 hc7 HQ HO)
    | (refine bx_st rfl 31 (.tmp 2) _ rfl b _ _ rfl rfl (ju HA).row (zP _ _) rfl (gc_one _ _) ?_; intro w7 hr7 hc7; have HF := jd ((ju HG).box (ju HA).row hc7); replace HA := jd ((ju HA).set hr7 hc7); have y2 := (Bg.of (ju HA).row).c2; have m3 := (Mb2.of (ju HA).rm).c3; clear hr7 hc7 HG)
    | go_guarded
    | (obtain ⟨s2, x2, h2⟩ := (ju HA).row2; refine bx_st rfl 31 (.tmp 4) _ rfl b2 _ _ rfl rfl h2 (zP _ _) rfl (gc_one _ _) ?_; intro w10 hr10 hc10; have HR10 := jd (aI hr10 (aI ((ju HF).box h2 hc10) (aI ((ju HP).box h2 (by decide) hc10) (bel_off (ju HA).bel hc10 (ju HA).ge2)))); clear hr10 hc10 h2))
   refine bodyPost_ret (res3 (p := 4) (q := 5) (r := 6) rfl u31 (zP _ _) (ju HR10).1 _ _ _ rfl rfl rfl) rfl ⟨_, _, _, rfl, (ju HR10).2.1, (ju HR10).2.2.1, (ju HR10).2.2.2⟩
def GP.raise (s : GP) (t : Int) : GP := if s.term < t then s.down t else s
set_option maxRecDepth 100000 in
set_option maxHeartbeats 4000000 in
theorem raised_g {W : World} {s : GP} {x : Px} (h : Gp W s x) (hz : Gz s x) (hm : mayG s = true) (t : Int) (ht : t ≤ 4611686018427387904) : Calls Tryz.prog 179 #[.agg (gc s x), .int .u64 t] W fun e w' => ∃ x', e = .returned (.agg (gc (s.raise t) x')) ∧ Pg W.heap.size w' (s.raise t) x' ∧ Bel W w' := by
 have H2 : Hid (∀ W', Bel W W' → Calls Tryz.prog 41 #[.agg (gc s x)] W' fun e w' => ∃ x', e = .returned (.agg (gc s x')) ∧ Pg W.heap.size w' s x' ∧ Bel W' w') := jd (fun W' hb => (clone_g (h.bel hb) hz.m hz.b (by have := hz.l; omega) hz.lm hz.v (by have := hz.f; omega) (by have := hz.r; omega) hz.ra).mono (fun _ _ ⟨x', he, hp, hb'⟩ => ⟨x', he, hp.mono hb.size, hb'⟩))
 have H3 : Hid (∀ W', Bel W W' → Calls Tryz.prog 93 #[.agg (gc s x), .int .u64 t] W' fun e w' => ∃ x', e = .returned (.tuple #[.agg (gc (s.down t) x'), .int .i64 0]) ∧ Pg W.heap.size w' (s.down t) x' ∧ Bel W' w') := jd (fun W' hb => (down_g (h.bel hb) hz hm t ht).mono (fun _ _ ⟨x', he, hp, hb'⟩ => ⟨x', he, hp.mono hb.size, hb'⟩))
 by_cases c : s.term < t
 ·have hc : s.raise t = s.down t := by unfold GP.raise; rw [if_pos c]
  rw [hc]
  have cd : decide (s.term < t) = true := decide_eq_true c
  clear h hz hm ht hc
  go_enter Tryz.func179, Tryz.ntmps179
  go_wp2_with (first
   | go_skip
   | (refine bx_boxK 31 (.tmp 0) (by exact rfl) (by exact rfl) (gc s x) (by exact rfl) ?_; intro b w0 hr0 hs0 hb0; have HR0 := jd hr0; have HB0 := jd (aI hb0 hs0); clear hr0 hs0 hb0)
   | (refine bx_new rfl 31 rfl _ Tryz.zeroP ?_; intro b2 w1 hr1 hs1 hb1; have HY : Hid (TyG W w1 b b2 s x) := jd ⟨hb1.row (ju HR0), (ju HB0).1.trans hb1, ⟨_, _, hr1⟩, by have := (ju HB0).2; omega, by have := (ju HB0).1.size; omega, fun e => by have := lt_of_some (ju HR0); omega⟩; have y2 := (Bg.of (ju HY).row).c2; clear hr1 hs1 hb1 HR0 HB0)
   | (refine bx_ldK 31 (.tmp 2) (by exact rfl) b (by exact rfl) (by exact rfl) (gc s x) _ (ju HY).row u31 (zP _ _) ?_)
   | (refine bx_ldK 31 (.tmp 2) (by exact rfl) b (by exact rfl) (by exact rfl) _ _ (ju HZ).row u31 (zP _ _) ?_)
   | (go_at_call 93; refine ((ju H3) _ (ju HY).bel).mono ?_; rintro e w3 ⟨x1, rfl, hf3, hb3⟩; have HF3 := jd hf3; replace HY := jd ((ju HY).next hb3); clear hb3 hf3)
   | (refine bx_st rfl 31 (.tmp 2) _ rfl b (gc (s.down t) x1) _ rfl rfl (ju HY).row (zP _ _) rfl (gc_one _ _) ?_; intro w4 hr4 hc4; have HZ := jd ((ju HY).put (ju HF3) hr4 hc4); clear hr4 hc4 HY HF3)
   | go_guarded
   | (obtain ⟨s2, x2, h2⟩ := (ju HZ).row2; refine bx_st rfl 31 (.tmp 4) _ rfl b2 _ _ rfl rfl h2 (zP _ _) rfl (gc_one _ _) ?_; intro w9 hr9 hc9; have HR9 := jd (aI hr9 ((ju HZ).out h2 hc9)); clear hr9 hc9 h2))
  exact bodyPost_ret (res1 (p := 4) rfl u31 (zP _ _) (ju HR9).1 _ rfl) rfl ⟨_, rfl, (ju HR9).2⟩
 ·have hc : s.raise t = s := by unfold GP.raise; rw [if_neg c]
  rw [hc]
  have cd : decide (s.term < t) = false := decide_eq_false c
  clear h hz hm ht hc
  go_enter Tryz.func179, Tryz.ntmps179
  go_wp2_with (first
   | go_skip
   | (refine bx_boxK 31 (.tmp 0) (by exact rfl) (by exact rfl) (gc s x) (by exact rfl) ?_; intro b w0 hr0 hs0 hb0; have HR0 := jd hr0; have HB0 := jd (aI hb0 hs0); clear hr0 hs0 hb0)
   | (refine bx_new rfl 31 rfl _ Tryz.zeroP ?_; intro b2 w1 hr1 hs1 hb1; have HY : Hid (TyG W w1 b b2 s x) := jd ⟨hb1.row (ju HR0), (ju HB0).1.trans hb1, ⟨_, _, hr1⟩, by have := (ju HB0).2; omega, by have := (ju HB0).1.size; omega, fun e => by have := lt_of_some (ju HR0); omega⟩; have y2 := (Bg.of (ju HY).row).c2; clear hr1 hs1 hb1 HR0 HB0)
   | (refine bx_ldK 31 (.tmp 2) (by exact rfl) b (by exact rfl) (by exact rfl) (gc s x) _ (ju HY).row u31 (zP _ _) ?_)
   | (go_at_call 41; refine ((ju H2) _ (ju HY).bel).mono ?_; rintro e w3 ⟨x1, rfl, hf3, hb3⟩; have HF3 := jd hf3; replace HY := jd ((ju HY).next hb3); clear hb3 hf3)
   | go_guarded
   | (obtain ⟨s2, x2, h2⟩ := (ju HY).row2; refine bx_st rfl 31 (.tmp 4) _ rfl b2 (gc s x1) _ rfl rfl h2 (zP _ _) rfl (gc_one _ _) ?_; intro w9 hr9 hc9; have HR9 := jd (aI hr9 (aI ((ju HF3).box h2 hc9) (bel_off (ju HY).bel hc9 (ju HY).ge2))); clear hr9 hc9 h2))
  exact bodyPost_ret (res1 (p := 4) rfl u31 (zP _ _) (ju HR9).1 _ rfl) rfl ⟨_, rfl, (ju HR9).2⟩
def GP.more (s : GP) (d : ByteArray) : GP := { s with log := s.log ++ [⟨s.term, 0, d, []⟩] }
theorem more_lastI (s : GP) (d : ByteArray) : (s.more d).lastI = s.lastI + 1 := by
 unfold GP.lastI GP.more
 simp only [List.length_append, List.length_singleton]
 omega
theorem more_lf {s : GP} (h : Lf s) (d : ByteArray) : Lf (s.more d) := by
 have e := more_lastI s d
 refine ⟨h.m1, h.m64, h.ids, h.map, h.f64, fun f hf => ?_, ?_, h.t1, h.b62, ?_, h.vo, h.ld⟩
 ·have := h.fb f hf
  rw [e]; omega
 ·intro q
  have hn := h.ne
  unfold GP.have at q hn
  rw [List.append_eq_nil_iff] at q
  have q2 : s.fol.map (·.2.2) = [] := q.2
  by_cases hin : s.id ∈ s.M
  ·have q1 := q.1
   rw [if_pos (show (s.more d).id ∈ (s.more d).M from hin)] at q1
   cases q1
  ·rw [if_neg hin, q2] at hn; exact hn rfl
 ·have := h.com
  rw [e]
  show s.base ≤ s.commit ∧ s.commit ≤ s.lastI + 1
  omega
theorem TzG.wg {W w : World} {b b2 : Nat} {s : GP} {x : Px} (h : TzG W w b b2 s x) : Wg W.heap.size W w b b2 s x := ⟨h.row, h.pg, h.bel, h.row2, h.ge, h.ge2, h.ne, Nat.le_refl _, h.bel.size, (Kp.refl W).bel h.bel⟩
set_option maxRecDepth 100000 in
set_option maxHeartbeats 4000000 in
theorem propose_g {W : World} {s : GP} {x : Px} (h : Gp W s x) (hz : Gz s x) (hm : mayG s = true) (hr : s.role = 2) (hll : s.log.length ≤ 99999) (d : ByteArray) (hd : d.size ≤ 1048576) : Calls Tryz.prog 32 #[.agg (gc s x), .string d] W fun e w' => ∃ x', e = .returned (.tuple #[.agg (gc (s.more d).adv x'), .int .u64 (s.lastI + 1), .int .i64 0]) ∧ Pg W.heap.size w' (s.more d).adv x' ∧ Bel W w' := by
 have hlf := more_lf (lf_of hm hr) d
 have H1 : Hid (∀ W', Bel W W' → Calls Tryz.prog 42 #[.agg (gc s x)] W' fun e w' => e = .returned (.int .i64 0) ∧ Bel W' w') := jd (fun W' hb => by have := may_g (h.bel hb) hz; rwa [hm, if_pos rfl] at this)
 have H2 : Hid (∀ W', Bel W W' → Calls Tryz.prog 41 #[.agg (gc s x)] W' fun e w' => ∃ x', e = .returned (.agg (gc s x')) ∧ Pg W.heap.size w' s x' ∧ Bel W' w') := jd (fun W' hb => (clone_g (h.bel hb) hz.m hz.b (by have := hz.l; omega) hz.lm hz.v (by have := hz.f; omega) (by have := hz.r; omega) hz.ra).mono (fun _ _ ⟨x', he, hp, hb'⟩ => ⟨x', he, hp.mono hb.size, hb'⟩))
 have hml : (s.more d).log.length ≤ 1000000 := by unfold GP.more; simp only [List.length_append, List.length_singleton]; omega
 have H3 : Hid (∀ W' x', Gp W' (s.more d) x' → Calls Tryz.prog 79 #[.agg (gc (s.more d) x')] W' fun e w' => ∃ t, e = .returned (.tuple #[.int .u64 (s.lastI + 1), .int .u64 t]) ∧ Bel W' w') := jd (fun W' x' hp => by
  have q := last_g hp.l (show 0 ≤ (s.more d).base from hz.base.1) hlf.b62 hml
  rw [more_lastI] at q
  exact q.mono (fun _ _ k => ⟨_, k.1, k.2⟩))
 have H4 : Hid (∀ W' x', Gp W' (s.more d) x' → Calls Tryz.prog 72 #[.agg (gc (s.more d) x')] W' fun e w' => e = .returned (.agg (gc (s.more d).adv x')) ∧ Bel W' w') := jd (fun W' x' hp => hlf.adv_call hp hz.base.1 hml (fun f hf => (hz.ft f hf).2.1))
 have e1 : (s.role != 2) = false := by simp [hr]
 have e2 : (s.role == 2) = true := by simp [hr]
 have hd' : ¬ ((1048576 : Int) < (d.size : Int)) := by omega
 have HG : Hid (s.log.length + 1 ≤ 100000000000) := jd (by omega)
 obtain ⟨L', hL'⟩ : ∃ L', L' = s.log ++ [(⟨s.term, 0, d, []⟩ : GE)] := ⟨_, rfl⟩
 have HL' := jd hL'
 have HMO : Hid ({ s with log := L' } = s.more d) := jd (by rw [hL']; rfl)
 clear h hz hm hr hll hd hlf hml hL'
 go_enter Tryz.func32, Tryz.ntmps32
 go_wp2_with (first
  | go_skip
  | (refine bx_boxK 31 (.tmp 0) (by exact rfl) (by exact rfl) (gc s x) (by exact rfl) ?_; intro b w0 hr0 hs0 hb0; have HR0 := jd hr0; have HB0 := jd (aI hb0 hs0); clear hr0 hs0 hb0)
  | (refine bx_new rfl 31 rfl _ Tryz.zeroP ?_; intro b2 w1 hr1 hs1 hb1; have HY : Hid (TyG W w1 b b2 s x) := jd ⟨hb1.row (ju HR0), (ju HB0).1.trans hb1, ⟨_, _, hr1⟩, by have := (ju HB0).2; omega, by have := (ju HB0).1.size; omega, fun e => by have := lt_of_some (ju HR0); omega⟩; clear hr1 hs1 hb1 HR0 HB0)
  | (refine bx_ldK 31 (.tmp 2) (by exact rfl) b (by exact rfl) (by exact rfl) (gc s x) _ (ju HY).row u31 (zP _ _) ?_)
  | (refine bx_ldK 31 (.tmp 2) (by exact rfl) b (by exact rfl) (by exact rfl) _ _ (ju HZ).row u31 (zP _ _) ?_)
  | (go_at_call 42; refine ((ju H1) _ (ju HY).bel).mono ?_; rintro e w2 ⟨rfl, hb2⟩; replace HY := jd ((ju HY).next hb2); have y4 := (Bg.of (ju HY).row).c4; clear hb2)
  | (go_at_call 41; refine ((ju H2) _ (ju HY).bel).mono ?_; rintro e w3 ⟨x1, rfl, hf3, hb3⟩; have HF3 := jd hf3; replace HY := jd ((ju HY).next hb3); clear hb3 hf3)
  | (refine bx_st rfl 31 (.tmp 2) _ rfl b (gc s x1) _ rfl rfl (ju HY).row (zP _ _) rfl (gc_one _ _) ?_; intro w4 hr4 hc4; have y2 := (Bg.of hr4).c2; have y10 := (Bg.of hr4).c10; have HZ := jd (((ju HY).put (ju HF3) hr4 hc4).wg); clear hr4 hc4 HY HF3)
  | (at_builtin; obtain ⟨LG, hlg⟩ := (ju HZ).pg.l; refine app_ll ⟨s.term, 0, d, []⟩ ⟨none, 0⟩ L' (ju HL') (hlg.bel ((Bel.refl _).alloc _)) (Nat.le_trans (ju HZ).hw ((Bel.refl _).alloc _).size) _ _ (at_new _ _) (ju HG) rfl _ _ 27 rfl rfl rfl rfl ?_; intro g cap w5 ho5 hg5; have HA := jd ((ju HZ).lq (ju HL') hlg (El.O.nil _ _) ho5 hg5); clear hlg ho5 hg5 HZ)
  | (refine gl_log rfl _ _ rfl b _ L' _ rfl rfl (ju HA).1 ?_; intro w6 hr6 hc6; have hz6 := (ju HA).2 _ hr6 hc6; rw [ju HMO] at hz6; have HZ := jd hz6; clear hr6 hc6 hz6 HA)
  | (go_at_call 79; refine ((ju H3) _ _ (ju HZ).pg.gp).mono ?_; rintro e w7 ⟨t7, rfl, hb7⟩; replace HZ := jd ((ju HZ).next hb7); clear hb7)
  | (go_at_call 72; refine ((ju H4) _ _ (ju HZ).pg.gp).mono ?_; rintro e w8 ⟨rfl, hb8⟩; replace HZ := jd ((ju HZ).next hb8); clear hb8)
  | go_guarded
  | (obtain ⟨s2, x2, h2⟩ := (ju HZ).row2; refine bx_st rfl 31 (.tmp 4) _ rfl b2 (gc (s.more d).adv _) _ rfl rfl h2 (zP _ _) rfl (gc_one _ _) ?_; intro w9 hr9 hc9; have HR9 := jd (aI hr9 (aI ((ju HZ).pg.box h2 hc9) (Below.offCh (ju HZ).bel hc9 (ju HZ).hw (ju HZ).ge2))); clear hr9 hc9 h2))
 exact bodyPost_ret (res3 (p := 4) (q := 5) (r := 6) rfl u31 (zP _ _) (ju HR9).1 _ _ _ rfl rfl rfl) rfl ⟨_, rfl, (ju HR9).2.1.adv, (ju HR9).2.2⟩
set_option maxRecDepth 100000 in
set_option maxHeartbeats 4000000 in
theorem ents_g {W : World} {s : GP} {x : Px} (h : SlG W x.aL s.log) (i1 i2 : Int) (k m : Nat) (hk : k ≤ m) (hm : m ≤ s.log.length) (h1 : i1 - s.base = k + 1) (h2 : i2 - s.base = m) (hl : s.log.length ≤ 1000000) (hcap : s.log.length ≤ x.cL) (hmm : ∀ e ∈ s.log, e.m.length ≤ 17592186044416) : Calls Tryz.prog 174 #[.agg (gc s x), .int .u64 i1, .int .u64 i2] W fun e w' => ∃ a' c', e = .returned (.slice a' ((s.log.take m).drop k).length c') ∧ SlGT w' a' ((s.log.take m).drop k) ∧ (Nw W.heap.size a' ((s.log.take m).drop k).length ∧ ((s.log.take m).drop k).length ≤ c') ∧ Bel W w' := by
 rw [show ((s.log.take m).drop k).length = m - k by rw [List.length_drop, List.length_take]; omega]
 obtain ⟨aL, hxr⟩ : ∃ a, a = x.aL := ⟨_, rfl⟩
 rw [← hxr] at h
 have HXR := jd hxr
 clear hxr
 obtain ⟨L, hL, ⟨g, off, hg, hR⟩, hG⟩ := h
 have hLn : L.length = s.log.length := by rw [← hL, List.length_map]
 have hdl : ((L.take m).drop k).length = m - k := by rw [List.length_drop, List.length_take]; omega
 have HE : Hid (∀ (a : Option Addr) (c : Nat) (W' : World), Bel W W' → (k < m → a = some ⟨g, off + k * 4, none⟩) → Calls Tryz.prog 101 #[.slice a (m - k) c] W' fun e w' => ∃ a' c', e = .returned (.slice a' (m - k) c') ∧ SlGT w' a' ((s.log.take m).drop k) ∧ (Nw W.heap.size a' (m - k) ∧ m - k ≤ c') ∧ Bel W' w') := jd (fun a c W' hb ha => by
  refine (entries_g (L := (L.take m).drop k) hdl ⟨g, off + k * 4, fun h0 => ha (by omega), ?_⟩ (fun y hy => (hG.bel hb) y (List.mem_of_mem_take (List.mem_of_mem_drop hy))) (by omega) (fun y hy => hmm _ (by rw [← hL]; exact List.mem_map_of_mem (List.mem_of_mem_take (List.mem_of_mem_drop hy))))).mono ?_
  ·exact ((hR.bel hb).take m).drop k
  ·rintro e w' ⟨a', c', L', he, hmp, ho, hoo, hb'⟩
   exact ⟨a', c', he, ⟨L', by rw [hmp, List.map_drop, List.map_take, hL], SlT.of ho, fun y hy => SlT.of (hoo y hy)⟩, ⟨ho.nw hb.size, by have h9 := congrArg List.length hmp; rw [List.length_map, List.length_map] at h9; have h8 := (Sl.of ho).2.2; omega⟩, hb'⟩)
 have hw1 : IntKind.u64.wrap (i1 - s.base) = (k : Int) + 1 := by rw [h1, IntKind.wrap_u64]; omega
 have hw2 : IntKind.u64.wrap (k : Int) = (k : Int) := by rw [IntKind.wrap_u64]; omega
 have hw3 : IntKind.u64.wrap (i2 - s.base) = (m : Int) := by rw [h2, IntKind.wrap_u64]; omega
 have hkm : (k : Int) ≤ m := by omega
 have hknc : (m : Int) ≤ x.cL := by omega
 have hkc : (k : Int) ≤ x.cL := by omega
 have hk0 : (0 : Int) ≤ k := by omega
 have hm0 : (0 : Int) ≤ m := by omega
 have HG := jd hg
 have HLN := jd hLn
 have hkcn : k ≤ x.cL := by omega
 have hxk : x.cL = k → m = k := by omega
 clear hL hR hG hLn hg hmm hdl h1 h2
 generalize hsm : s.log.length = n at *
 by_cases hck : x.cL = k
 ·have HMK := jd (hxk hck)
  clear hxk
  go_enter Tryz.func174, Tryz.ntmps174
  go_wp2_with (first
   | (refine bx_box rfl 31 _ rfl (gc s x) rfl ?_; intro b w0 hr0 hs0 hb0; have y10 := (Bg.of hr0).c10; rw [hsm, ← ju HXR] at y10; have y6 := (Bg.of hr0).c6; have HB0 := jd hb0; clear hr0 hs0 hb0)
   | (go_at_call 101; refine ((ju HE) _ _ _ (ju HB0) (by intro hkm; have := ju HMK; omega)).mono ?_; rintro e w2 ⟨a2, c2, rfl, hs2, hn2, hb2⟩; have HS2 := jd (aI hs2 (aI hn2 ((ju HB0).trans hb2))); clear hs2 hn2 hb2))
  go_ret
  exact ⟨_, _, rfl, (ju HS2).1, (ju HS2).2.1, (ju HS2).2.2⟩
 ·clear hxk
  go_enter Tryz.func174, Tryz.ntmps174
  go_wp2_with (first
   | (refine bx_box rfl 31 _ rfl (gc s x) rfl ?_; intro b w0 hr0 hs0 hb0; have y10 := (Bg.of hr0).c10; rw [hsm, ← ju HXR] at y10; have y6 := (Bg.of hr0).c6; have HB0 := jd hb0; clear hr0 hs0 hb0)
   | (go_at_call 101; refine ((ju HE) _ _ _ (ju HB0) (by intro hkm; have ea := (ju HG) (by have := ju HLN; omega); rw [ea]; exact congrArg some (Addr.add_lit _ _ _))).mono ?_; rintro e w2 ⟨a2, c2, rfl, hs2, hn2, hb2⟩; have HS2 := jd (aI hs2 (aI hn2 ((ju HB0).trans hb2))); clear hs2 hn2 hb2))
  go_ret
  exact ⟨_, _, rfl, (ju HS2).1, (ju HS2).2.1, (ju HS2).2.2⟩
end Go.Proofs.YthekbhliokcpcaaGreat
