/- Entries are laid in the log of any member. -/
import Derived.Test.YthekbhliokcpcaaGreatT23
namespace Go.Proofs.YthekbhliokcpcaaGreat
open Go.RowKit Go.Maps Go.Sort
set_option maxRecDepth 100000 in
set_option maxHeartbeats 2000000 in
theorem lheard_g {W : World} {s : GP} {x : Px} (to : Int) (ok : Bool) (i r : Int) : Calls Tryz.prog 217 #[.agg (gc s x), .int .i64 to, .bool ok, .int .u64 i, .int .u64 r] W fun e w' => ∃ a, e = .returned (.slice a 1 1) ∧ EMg.O W.heap.size w' (.slice a 1 1) [(s.heard to ok i r, gzx)] ∧ Bel W w' := by
 go_enter Tryz.func217, Tryz.ntmps217
 go_wp2_with (first
  | (refine bx_boxK 31 (.tmp 0) (by exact rfl) (by exact rfl) (gc s x) (by exact rfl) ?_; intro b w0 hr0 hs0 hb0; have y0 := (Bg.of hr0).c0; have y2 := (Bg.of hr0).c2; have HB0 := jd hb0; clear hr0 hs0 hb0)
  | (refine el_one EMg (mg (s.heard to ok i r) gzx) rfl (by show ¬ 1 * 12 > 2 ^ 24; decide) _ rfl rfl rfl ?_))
 go_ret
 exact ⟨_, rfl, (El.O.one (E := EMg) w0 (s.heard to ok i r, gzx)).mono (ju HB0).size, (ju HB0).alloc _⟩
theorem sl_op {ops : Array Oper} {rest : List Oper} {o : Oper} {a : Act} {Q : Exit → Act → World → Prop} {W : World} (x y : Operand) (ho : o.op = .slice 27 x (some y) none none) (hgd : o.guard = none) (ad : Option Addr) (n c k : Nat) (hx : a.eval x = .slice ad n c) (hy : a.eval y = .int .u64 (k : Int)) (hk : k ≤ n)
  (h : wpList Tryz.prog ops Q rest (a.put o.dst (.slice (if c = k then ad else ad.map (·.add (k * 4))) (n - k) (c - k))) W) : wpList Tryz.prog ops Q (o :: rest) a W := by
 refine wpList_plain hgd fun K hK' => ?_
 have hu : Tryz.prog.underlying 27 = some (.slice 53) := by kernel_rfl
 have hs : ∀ w, (sizeOf 53).run Tryz.prog w = .ok 4 w := fun w => by go_simp
 unfold Oper.wp execOp
 simp only [ho, Option.map_some, Option.map_none, hx, hy]
 simp [Instr.sliceAt, Instr.slice, underlying, hu, Instr.sliceBounds, Instr.sliceBound, asIntOf, hs, hk, go_sem]
 exact hK' _ _ h
theorem join_same {s u : GP} {bh : Int} {l : List GE} (h : s.join bh l = some u) : u.id = s.id ∧ u.term = s.term ∧ u.commit = s.commit := by
 unfold GP.join at h
 split at h
 ·cases h; exact ⟨rfl, rfl, rfl⟩
 ·split at h
  ·cases h
  ·cases h; exact ⟨rfl, rfl, rfl⟩
theorem Gt.com {W : World} {s : GP} {x : Px} (h : Gt W s x) (c : Int) : Gt W { s with commit := c } x := ⟨h.m, h.b, h.l, h.v, h.f, h.r⟩
section
variable {W : World} {s : GP} {x : Px} {m : GM} {y : GX}
set_option maxRecDepth 100000 in
set_option maxHeartbeats 8000000 in
theorem layTo_g (B0 : Nat) (hBS : B0 ≤ W.heap.size) (h : Gt W s x) (h0 : 0 ≤ s.base) (h62 : s.base ≤ 4611686018427387904) (hll : s.log.length ≤ 900000) (hcap : Lc B0 x s.log.length) (hlm : ∀ e ∈ s.log, e.m.length ≤ 17592186044416) (hBl : s.B.length ≤ 17592186044416) (hcm : 0 ≤ s.commit ∧ s.commit ≤ 18446744073709551615) (hw : Gw W m y) (hec : m.ents.length ≤ y.ec) (hmi : 0 ≤ m.index ∧ m.index ≤ 4611686018427387904) (h16 : m.ents.length ≤ 16) (hl2 : ∀ e ∈ m.ents, e.m.length ≤ 17592186044416) (hne : ¬ m.index < s.base → s.tAt m.index ≠ some m.lterm → 1 ≤ m.index) : Calls Tryz.prog 218 #[.agg (gc s x), .agg (mg m y)] W fun e w' => ∃ x' aA cA, e = .returned (.tuple #[.agg (gc (s.layTo m).1 x'), .slice aA (s.layTo m).2.length cA]) ∧ Gt w' (s.layTo m).1 x' ∧ Lc B0 x' (s.layTo m).1.log.length ∧ Ms W.heap.size w' (.slice aA (s.layTo m).2.length cA) (s.layTo m).2 ∧ Bel W w' := by
 have hI : s.lastI = s.base + s.log.length := rfl
 have HT : Hid (∀ w1, Bel W w1 → Calls Tryz.prog 74 #[.agg (gc s x), .int .u64 m.index] w1 fun e w' => e = .returned (.tuple #[.int .u64 ((s.tAt m.index).getD 0), .bool (s.tAt m.index).isSome]) ∧ Bel w1 w') := jd (fun w1 hb => term_g (h.bel hb).l.sl _ h0 (by omega) (by omega))
 have HTB : Hid (∀ w1, Bel W w1 → Calls Tryz.prog 79 #[.agg (gc s x)] w1 fun e w' => e = .returned (.tuple #[.int .u64 s.lastI, .int .u64 s.lastT]) ∧ Bel w1 w') := jd (fun w1 hb => last_g (h.bel hb).l.sl h0 h62 (by omega))
 have HP := jd (aI h hcap)
 obtain ⟨he, hl, hg, _⟩ := hw
 have HJN : Hid (∀ w1 bh l L a c, Bel W w1 → L.map (·.1) = l → Sl EG w1 a L → Gm w1 L → l.length ≤ c → (s.base ≤ bh ∧ bh ≤ s.lastI) → l.length ≤ 16 → (∀ e ∈ l, e.m.length ≤ 17592186044416) → Calls Tryz.prog 239 #[.agg (gc s x), .int .u64 bh, .slice a l.length c] w1 fun e w' => ∃ x', e = .returned (.tuple #[.agg (gc ((s.join bh l).getD s) x'), .bool (s.join bh l).isSome]) ∧ Gt w' ((s.join bh l).getD s) x' ∧ Lc B0 x' ((s.join bh l).getD s).log.length ∧ Bel w1 w') := jd (fun w1 bh l L a c hb e1 e2 e3 e4 e5 e6 e7 => join_g B0 (Nat.le_trans hBS hb.size) (h.bel hb) h0 h62 hll hcap hlm hBl bh l L a c e1 e2 e3 e4 e5 e6 e7)
 have hen : m.ents.length ≤ 16 := h16
 clear h hcap hlm hBl hI
 by_cases hlt : m.index < s.base
 ·have hd1 : decide (m.index < s.base) = true := decide_eq_true hlt
  have HLT : Hid (s.layTo m = s.joined m s.base (s.restOf m)) := jd (by unfold GP.layTo; rw [if_pos hlt])
  obtain ⟨rn0, hrn0⟩ : ∃ n : Nat, n = m.ents.length := ⟨_, rfl⟩
  obtain ⟨kk, hkk⟩ : ∃ k : Nat, k = min (s.base - m.index).toNat m.ents.length := ⟨_, rfl⟩
  have hrest : s.restOf m = m.ents.drop kk := by rw [hkk]; rfl
  obtain ⟨ea, hea⟩ : ∃ ea : Option Addr, ea = if y.ec = kk then y.ea else y.ea.map (·.add (kk * 4)) := ⟨_, rfl⟩
  obtain ⟨cc, hcc⟩ : ∃ cc : Nat, cc = y.ec - kk := ⟨_, rfl⟩
  have hrl0 : (s.restOf m).length = rn0 - kk := by rw [hrest, List.length_drop, hrn0]
  have hlsn : y.ls.length = m.ents.length := by rw [← he, List.length_map]
  have hSl : ∀ w1, Bel W w1 → Sl EG w1 ea (y.ls.drop kk) := fun w1 hb => by
   by_cases hz : kk < y.ls.length
   ·obtain ⟨g0, o0, q1, q2⟩ := hl.bel hb
    have hq := q1 (by omega)
    refine ⟨g0, o0 + kk * 4, fun _ => ?_, q2.drop kk⟩
    rw [hea, if_neg (by omega), hq, Option.map_some, Addr.add_lit]
   ·rw [List.drop_of_length_le (by omega)]
    exact Sl.nil EG w1 ea
  have HJ : Hid (∀ w1, Bel W w1 → Calls Tryz.prog 239 #[.agg (gc s x), .int .u64 s.base, .slice ea (s.restOf m).length cc] w1 fun e w' => ∃ x', e = .returned (.tuple #[.agg (gc ((s.join s.base (s.restOf m)).getD s) x'), .bool (s.join s.base (s.restOf m)).isSome]) ∧ Gt w' ((s.join s.base (s.restOf m)).getD s) x' ∧ Lc B0 x' ((s.join s.base (s.restOf m)).getD s).log.length ∧ Bel w1 w') := jd (fun w1 hb => (ju HJN) w1 s.base (s.restOf m) (y.ls.drop kk) ea cc hb (by rw [List.map_drop, he, hrest]) (hSl w1 hb) (fun z hz => (hg z (List.mem_of_mem_drop hz)).bel hb) (by rw [hrl0, hcc]; omega) ⟨Int.le_refl _, by show s.base ≤ s.base + (s.log.length : Int); omega⟩ (by rw [hrl0]; omega) (fun e he2 => hl2 e (by rw [hrest] at he2; exact List.mem_of_mem_drop he2)))
  have hcmB := hcm
  have HRL : Hid (m.ents.length = rn0) := jd hrn0.symm
  have hkn : kk ≤ rn0 := by omega
  have hmn : min (s.base - m.index) (rn0 : Int) = (kk : Int) := by omega
  have hwd : IntKind.u64.wrap (s.base - m.index) = s.base - m.index := wrapU (by omega) (by omega)
  have hwl : IntKind.u64.wrap (rn0 : Int) = (rn0 : Int) := wrapU (by omega) (by omega)
  have HSO : Hid ((if y.ec = kk then y.ea else y.ea.map (·.add (kk * 4))) = ea ∧ rn0 - kk = (s.restOf m).length ∧ y.ec - kk = cc) := jd ⟨hea.symm, hrl0.symm, hcc.symm⟩
  have hen2 : (s.restOf m).length ≤ 16 := by omega
  clear he hl hg hec hl2 hne HJN h16 hrest hlsn hSl hrl0 hkk hea hcc hrn0 hen
  have hup : IntKind.u64.wrap (s.base + ((s.restOf m).length : Int)) = s.base + ((s.restOf m).length : Int) := wrapU (by omega) (by omega)
  have hwn : IntKind.u64.wrap ((s.restOf m).length : Int) = ((s.restOf m).length : Int) := wrapU (by omega) (by omega)
  generalize hrl : (s.restOf m).length = rn at *
  have HRR := jd hrl
  clear hrl
  cases hj : s.join s.base (s.restOf m) with
  | none =>
   have HE : Hid (s.layTo m = (s, [])) := jd (by rw [ju HLT]; unfold GP.joined; rw [hj])
   rw [hj] at HJ
   have HJ' : Hid (∀ w1, Bel W w1 → Calls Tryz.prog 239 #[.agg (gc s x), .int .u64 s.base, .slice ea rn cc] w1 fun e w' => ∃ x', e = .returned (.tuple #[.agg (gc s x'), .bool false]) ∧ Gt w' s x' ∧ Lc B0 x' s.log.length ∧ Bel w1 w') := HJ
   replace HJ := HJ'
   clear HJ' hj
   rw [ju HE]
   clear HE HLT
   go_enter Tryz.func218, Tryz.ntmps218
   go_wp2_with (first
    | go_skip
    | (refine bx_boxK 31 (.tmp 0) (by exact rfl) (by exact rfl) (gc s x) (by exact rfl) ?_; intro b w0 hr0 hs0 hb0; have HR0 := jd hr0; have HB0 := jd (aI hb0 hs0); clear hr0 hs0 hb0)
    | (refine bx_boxK 87 (.tmp 1) (by exact rfl) (by exact rfl) (mg m y) (by exact rfl) ?_; intro b3 w1 hr1 hs1 hb1; have HM0 := jd (aI hr1 hs1); have HB1 := jd hb1; clear hr1 hs1 hb1)
    | (refine bx_new rfl 31 rfl _ Tryz.zeroP ?_; intro b2 w2 hr2 hs2 hb2; have HA := jd (Aq.mk0 (ju HB0).1 (ju HB0).2 (ju HR0) (ju HB1) (ju HM0).2 (ju HM0).1 hb2 hs2 hr2); clear hr2 hs2 hb2 HR0 HB0 HM0 HB1))
   have y6 := (Bg.of (ju HA).row).c6
   have y11 := (Bg.of (ju HA).row).c11
   have m1 := (Mb2.of (ju HA).rm).c1
   have m4 := (Mb2.of (ju HA).rm).c4
   have m5 := (Mb2.of (ju HA).rm).c5
   have m6 := (Mb2.of (ju HA).rm).c6
   have m7 := (Mb2.of (ju HA).rm).c7
   have m9 := (Mb2.of (ju HA).rm).c9
   rw [ju HRL] at m9
   go_quiet (fail)
   clear y6 y11 m1 m4 m5 m6 m7 m9
   replace HA := jd ((ju HA).next ((Bel.refl w2).drewN nq))
   generalize w2.drewN nq = w3 at *
   have y6 := (Bg.of (ju HA).row).c6
   have y11 := (Bg.of (ju HA).row).c11
   have m1 := (Mb2.of (ju HA).rm).c1
   have m4 := (Mb2.of (ju HA).rm).c4
   have m5 := (Mb2.of (ju HA).rm).c5
   have m6 := (Mb2.of (ju HA).rm).c6
   have m7 := (Mb2.of (ju HA).rm).c7
   have m9 := (Mb2.of (ju HA).rm).c9
   rw [ju HRL] at m9
   go_wp2_with (first
    | go_skip
    | (refine bx_ldK 31 _ (by exact rfl) b (by exact rfl) (by exact rfl) _ _ (ju HA).row u31 (zP _ _) ?_)
    | (refine sl_op (.tmp 22) (.tmp 30) (by exact rfl) (by exact rfl) y.ea rn0 y.ec kk (by exact rfl) (by exact rfl) hkn ?_; rw [(ju HSO).1, (ju HSO).2.1, (ju HSO).2.2])
    | (go_at_call 74; refine ((ju HT) _ (ju HA).bel).mono ?_; rintro e w4 ⟨rfl, hb4⟩; replace HA := jd ((ju HA).next hb4); clear y6 y11 m1 m4 m5 m6 m7 m9; have y6 := (Bg.of (ju HA).row).c6; have y11 := (Bg.of (ju HA).row).c11; have m1 := (Mb2.of (ju HA).rm).c1; have m4 := (Mb2.of (ju HA).rm).c4; have m5 := (Mb2.of (ju HA).rm).c5; have m6 := (Mb2.of (ju HA).rm).c6; have m7 := (Mb2.of (ju HA).rm).c7; have m9 := (Mb2.of (ju HA).rm).c9; rw [ju HRL] at m9; clear hb4)
    | (go_at_call 239; refine ((ju HJ) _ (ju HA).bel).mono ?_; rintro e w5 ⟨x5, rfl, hg5, hc5, hb5⟩; have HG5 := jd (aI hg5 hc5); replace HA := jd ((ju HA).next hb5); clear hg5 hc5 hb5)
    | (refine bx_st rfl 31 (.tmp 2) _ rfl b (gc s x5) _ rfl rfl (ju HA).row (zP _ _) rfl (gc_one _ _) ?_; intro w6 hr6 hc6; replace HG5 := jd (aI ((ju HG5).1.box (ju HA).row hc6) (ju HG5).2); replace HA := jd ((ju HA).set hr6 hc6); clear y6 y11 m1 m4 m5 m6 m7 m9; have y6 := (Bg.of (ju HA).row).c6; have y11 := (Bg.of (ju HA).row).c11; have m1 := (Mb2.of (ju HA).rm).c1; have m4 := (Mb2.of (ju HA).rm).c4; have m5 := (Mb2.of (ju HA).rm).c5; have m6 := (Mb2.of (ju HA).rm).c6; have m7 := (Mb2.of (ju HA).rm).c7; have m9 := (Mb2.of (ju HA).rm).c9; rw [ju HRL] at m9; clear hr6 hc6)
    | go_guarded
    | (obtain ⟨s9, x9, h2⟩ := (ju HA).row2; refine bx_st rfl 31 (.tmp 4) _ rfl b2 (gc s x5) _ rfl rfl h2 (zP _ _) rfl (gc_one _ _) ?_; intro w9 hr9 hc9; have HR9 := jd (aI hr9 (aI ((ju HG5).1.box h2 hc9) (aI (ju HG5).2 (bel_off (ju HA).bel hc9 (ju HA).ge2)))); clear hr9 hc9 h2))
   have q := ju HR9
   exact bodyPost_ret (res2 (p := 4) (q := 5) rfl u31 (zP _ _) q.1 _ _ rfl rfl) rfl ⟨_, none, 0, rfl, q.2.1, q.2.2.1, Ms.nil _ _, q.2.2.2⟩
  | some u =>
   have hsm := join_same hj
   obtain ⟨cm, hcm⟩ : ∃ cm, cm = max u.commit (min m.commit (s.base + (rn : Int))) := ⟨_, rfl⟩
   obtain ⟨v, hv⟩ : ∃ v : GP, v = { u with commit := cm } := ⟨_, rfl⟩
   have HE : Hid (s.layTo m = (v, [v.heard m.frm true (s.base + (rn : Int)) m.round])) := jd (by
    rw [ju HLT]; unfold GP.joined; rw [hj]
    show (({ u with commit := max u.commit (min m.commit (s.base + ((s.restOf m).length : Int))) } : GP), [s.heard m.frm true (s.base + ((s.restOf m).length : Int)) m.round]) = _
    rw [ju HRR, ← hcm, hv]
    unfold GP.heard
    rw [show ({ u with commit := cm } : GP).id = s.id from hsm.1, show ({ u with commit := cm } : GP).term = s.term from hsm.2.1])
   rw [hj] at HJ
   have HJ' : Hid (∀ w1, Bel W w1 → Calls Tryz.prog 239 #[.agg (gc s x), .int .u64 s.base, .slice ea rn cc] w1 fun e w' => ∃ x', e = .returned (.tuple #[.agg (gc u x'), .bool true]) ∧ Gt w' u x' ∧ Lc B0 x' u.log.length ∧ Bel w1 w') := HJ
   replace HJ := HJ'
   have hcu : 0 ≤ u.commit ∧ u.commit ≤ 18446744073709551615 := by rw [hsm.2.2]; exact hcmB
   have hmx : max u.commit (min m.commit (s.base + (rn : Int))) = cm := hcm.symm
   have HV := jd hv
   have hvl : v.log = u.log := by rw [hv]
   have hvc : v.commit = cm := by rw [hv]
   have HVL := jd (aI hvl hvc)
   clear HJ' hj hcm hv hsm hvl hvc
   rw [ju HE]
   clear HE HLT
   go_enter Tryz.func218, Tryz.ntmps218
   go_wp2_with (first
    | go_skip
    | (refine bx_boxK 31 (.tmp 0) (by exact rfl) (by exact rfl) (gc s x) (by exact rfl) ?_; intro b w0 hr0 hs0 hb0; have HR0 := jd hr0; have HB0 := jd (aI hb0 hs0); clear hr0 hs0 hb0)
    | (refine bx_boxK 87 (.tmp 1) (by exact rfl) (by exact rfl) (mg m y) (by exact rfl) ?_; intro b3 w1 hr1 hs1 hb1; have HM0 := jd (aI hr1 hs1); have HB1 := jd hb1; clear hr1 hs1 hb1)
    | (refine bx_new rfl 31 rfl _ Tryz.zeroP ?_; intro b2 w2 hr2 hs2 hb2; have HA := jd (Aq.mk0 (ju HB0).1 (ju HB0).2 (ju HR0) (ju HB1) (ju HM0).2 (ju HM0).1 hb2 hs2 hr2); clear hr2 hs2 hb2 HR0 HB0 HM0 HB1))
   have y6 := (Bg.of (ju HA).row).c6
   have y11 := (Bg.of (ju HA).row).c11
   have m1 := (Mb2.of (ju HA).rm).c1
   have m4 := (Mb2.of (ju HA).rm).c4
   have m5 := (Mb2.of (ju HA).rm).c5
   have m6 := (Mb2.of (ju HA).rm).c6
   have m7 := (Mb2.of (ju HA).rm).c7
   have m9 := (Mb2.of (ju HA).rm).c9
   rw [ju HRL] at m9
   go_quiet (fail)
   clear y6 y11 m1 m4 m5 m6 m7 m9
   replace HA := jd ((ju HA).next ((Bel.refl w2).drewN nq))
   generalize w2.drewN nq = w3 at *
   have y6 := (Bg.of (ju HA).row).c6
   have y11 := (Bg.of (ju HA).row).c11
   have m1 := (Mb2.of (ju HA).rm).c1
   have m4 := (Mb2.of (ju HA).rm).c4
   have m5 := (Mb2.of (ju HA).rm).c5
   have m6 := (Mb2.of (ju HA).rm).c6
   have m7 := (Mb2.of (ju HA).rm).c7
   have m9 := (Mb2.of (ju HA).rm).c9
   rw [ju HRL] at m9
   go_wp2_with (first
    | go_skip
    | (refine bx_ldK 31 _ (by exact rfl) b (by exact rfl) (by exact rfl) _ _ (ju HA).row u31 (zP _ _) ?_)
    | (refine sl_op (.tmp 22) (.tmp 30) (by exact rfl) (by exact rfl) y.ea rn0 y.ec kk (by exact rfl) (by exact rfl) hkn ?_; rw [(ju HSO).1, (ju HSO).2.1, (ju HSO).2.2])
    | (go_at_call 74; refine ((ju HT) _ (ju HA).bel).mono ?_; rintro e w4 ⟨rfl, hb4⟩; replace HA := jd ((ju HA).next hb4); clear y6 y11 m1 m4 m5 m6 m7 m9; have y6 := (Bg.of (ju HA).row).c6; have y11 := (Bg.of (ju HA).row).c11; have m1 := (Mb2.of (ju HA).rm).c1; have m4 := (Mb2.of (ju HA).rm).c4; have m5 := (Mb2.of (ju HA).rm).c5; have m6 := (Mb2.of (ju HA).rm).c6; have m7 := (Mb2.of (ju HA).rm).c7; have m9 := (Mb2.of (ju HA).rm).c9; rw [ju HRL] at m9; clear hb4)
    | (go_at_call 239; refine ((ju HJ) _ (ju HA).bel).mono ?_; rintro e w5 ⟨x5, rfl, hg5, hc5, hb5⟩; have HG5 := jd (aI hg5 hc5); replace HA := jd ((ju HA).next hb5); clear hg5 hc5 hb5)
    | (refine bx_st rfl 31 (.tmp 2) _ rfl b (gc u x5) _ rfl rfl (ju HA).row (zP _ _) rfl (gc_one _ _) ?_; intro w6 hr6 hc6; replace HG5 := jd (aI ((ju HG5).1.box (ju HA).row hc6) (ju HG5).2); replace HA := jd ((ju HA).set hr6 hc6); clear y6 y11 m1 m4 m5 m6 m7 m9; have y6 := (Bg.of (ju HA).row).c6; have y11 := (Bg.of (ju HA).row).c11; have m1 := (Mb2.of (ju HA).rm).c1; have m4 := (Mb2.of (ju HA).rm).c4; have m5 := (Mb2.of (ju HA).rm).c5; have m6 := (Mb2.of (ju HA).rm).c6; have m7 := (Mb2.of (ju HA).rm).c7; have m9 := (Mb2.of (ju HA).rm).c9; rw [ju HRL] at m9; clear hr6 hc6)
    | (refine gl_commit (by exact rfl) _ _ (by exact rfl) b cm (by exact rfl) (by exact rfl) (ju HA).row ?_; intro w8 hr8 hc8; rw [← ju HV] at hr8; have hgv := (((ju HG5).1.com cm).box (ju HA).row hc8); rw [← ju HV] at hgv; have hgl := (ju HG5).2; rw [← (ju HVL).1] at hgl; replace HG5 := jd (aI hgv hgl); replace HA := jd ((ju HA).set hr8 hc8); clear y6 y11 m1 m4 m5 m6 m7 m9; clear hr8 hc8 hgv hgl)
    | go_guarded)
   have hA := (ju HA).next (Bel.refl w8).drew
   have hG := aI ((ju HG5).1.bel (Bel.refl w8).drew) (ju HG5).2
   refine wp_region_held_drew (S := fun w => w.heap[b]? = some (.cells (gc v x5) 31) ∧ w.heap[b3]? = some (.cells (mg m y) 87)) Tryz.follows ⟨hA.row, hA.rm⟩ (fun hS => ?_)
   clear HA HG5
   generalize w8.drew = wd at *
   refine any_ldP (i := 0) (b := b) rfl (by kernel_rfl) (fun _ _ _ h => h) rfl hS rfl (by go_simp) (fun w hw => hw.1) ?_
   refine any_ldP (i := 1) (b := b) rfl (by kernel_rfl) (fun _ _ _ h => h) rfl hS rfl (by go_simp) (fun w hw => hw.1) ?_
   refine any_take (i := 2) (v := .pointer (some ⟨b3, 1, none⟩)) rfl (by kernel_rfl) (fun _ _ _ h => h) rfl hS (fun w hw => by go_simp) ?_
   refine any_take (i := 3) (v := .int .i64 m.frm) rfl (by kernel_rfl) (fun _ _ _ h => h) rfl hS (fun w hw => by have := (Mb2.of hw.2).c1; go_simp) ?_
   refine any_take (i := 4) (v := .int .u64 (s.base + (rn : Int))) rfl (by kernel_rfl) (fun _ _ _ h => h) rfl hS (fun w hw => by go_simp) ?_
   refine any_take (i := 5) (v := .pointer (some ⟨b3, 7, none⟩)) rfl (by kernel_rfl) (fun _ _ _ h => h) rfl hS (fun w hw => by go_simp) ?_
   refine any_take (i := 6) (v := .int .u64 m.round) rfl (by kernel_rfl) (fun _ _ _ h => h) rfl hS (fun w hw => by have := (Mb2.of hw.2).c7; go_simp) ?_
   refine any_call (i := 7) (by kernel_rfl) rfl rfl (by go_simp) (lheard_g (W := wd) (s := v) (x := x5) m.frm true (s.base + (rn : Int)) m.round) ?_
   rintro e w9 ⟨aH, rfl, hoH, hb9⟩
   have hS5 := aI (hb9.row hS.1) (hb9.row hS.2)
   refine ⟨_, rfl, hS5, ?_⟩
   have hA5 := hA.next hb9
   obtain ⟨s9, x9, h2⟩ := hA5.row2
   have hch := ch_row (c' := gc v x5) h2
   have HQ := jd (aI hch.1 (aI ((hG.1.bel hb9).box h2 hch.2) (aI hG.2 (aI (bel_off hA5.bel hch.2 hA5.ge2) ((hoH.mono hA.bel.size).box h2 (by decide) hch.2)))))
   have hS6 := aI (hch.2.row hS5.1 hA5.ne.symm) (hch.2.row hS5.2 hA5.ne4)
   refine any_skip (i := 8) (w' := w9.setRow b2 (gc v x5)) (by kernel_rfl) rfl rfl (st_run (s := v) (z := x5) (.tmp 4) (.tmp 87) (by exact rfl) (by go_simp) (by go_simp) h2) ⟨hS6, ?_⟩
   generalize w9.setRow b2 (gc v x5) = wE at *
   refine any_do (i := 9) (v := .slice aH 1 1) (w' := wE) (by kernel_rfl) rfl rfl (by go_simp) ⟨hS6, ?_⟩
   refine wpAnyH_done (by kernel_rfl) ?_ _
   clear hch hS6 h2 hA5 hS5 hoH hb9 hS hG hA
   simp [Act.put]
   go_wp2_with fail
   have q := ju HQ
   exact bodyPost_ret (res2 (p := 4) (q := 5) rfl u31 (zP _ _) q.1 _ _ rfl rfl) rfl ⟨_, aH, 1, rfl, q.2.1, q.2.2.1, Ms.plain q.2.2.2.2 (fun z hz => by rw [List.mem_singleton.1 hz]; exact ⟨rfl, rfl, rfl⟩), q.2.2.2.1⟩
 ·by_cases hte : s.tAt m.index = some m.lterm
  ·have hd1 : decide (m.index < s.base) = false := decide_eq_false hlt
   have hti : (s.tAt m.index).getD 0 = m.lterm := by rw [hte]; rfl
   have hth : (s.tAt m.index).isSome = true := by rw [hte]; rfl
   rw [hti, hth] at HT
   have hib := tAt_last hte
   have HLT : Hid (s.layTo m = s.joined m m.index m.ents) := jd (by unfold GP.layTo; rw [if_neg hlt, if_pos hte])
   have HJ : Hid (∀ w1, Bel W w1 → Calls Tryz.prog 239 #[.agg (gc s x), .int .u64 m.index, .slice y.ea m.ents.length y.ec] w1 fun e w' => ∃ x', e = .returned (.tuple #[.agg (gc ((s.join m.index m.ents).getD s) x'), .bool (s.join m.index m.ents).isSome]) ∧ Gt w' ((s.join m.index m.ents).getD s) x' ∧ Lc B0 x' ((s.join m.index m.ents).getD s).log.length ∧ Bel w1 w') := jd (fun w1 hb => (ju HJN) w1 m.index m.ents y.ls y.ea y.ec hb he (hl.bel hb) (fun z hz => (hg z hz).bel hb) hec hib h16 hl2)
   have hcmB := hcm
   clear he hl hg hec hl2 hne hti hth hte HJN h16
   have hup : IntKind.u64.wrap (m.index + (m.ents.length : Int)) = m.index + (m.ents.length : Int) := wrapU (by omega) (by omega)
   have hwn : IntKind.u64.wrap (m.ents.length : Int) = (m.ents.length : Int) := wrapU (by omega) (by omega)
   generalize hrl : m.ents.length = rn at *
   have HRL := jd hrl
   clear hrl
   cases hj : s.join m.index m.ents with
   | none =>
    have HE : Hid (s.layTo m = (s, [])) := jd (by rw [ju HLT]; unfold GP.joined; rw [hj])
    rw [hj] at HJ
    have HJ' : Hid (∀ w1, Bel W w1 → Calls Tryz.prog 239 #[.agg (gc s x), .int .u64 m.index, .slice y.ea rn y.ec] w1 fun e w' => ∃ x', e = .returned (.tuple #[.agg (gc s x'), .bool false]) ∧ Gt w' s x' ∧ Lc B0 x' s.log.length ∧ Bel w1 w') := HJ
    replace HJ := HJ'
    clear HJ' hj
    rw [ju HE]
    clear HE HLT
    go_enter Tryz.func218, Tryz.ntmps218
    go_wp2_with (first
     | go_skip
     | (refine bx_boxK 31 (.tmp 0) (by exact rfl) (by exact rfl) (gc s x) (by exact rfl) ?_; intro b w0 hr0 hs0 hb0; have HR0 := jd hr0; have HB0 := jd (aI hb0 hs0); clear hr0 hs0 hb0)
     | (refine bx_boxK 87 (.tmp 1) (by exact rfl) (by exact rfl) (mg m y) (by exact rfl) ?_; intro b3 w1 hr1 hs1 hb1; have HM0 := jd (aI hr1 hs1); have HB1 := jd hb1; clear hr1 hs1 hb1)
     | (refine bx_new rfl 31 rfl _ Tryz.zeroP ?_; intro b2 w2 hr2 hs2 hb2; have HA := jd (Aq.mk0 (ju HB0).1 (ju HB0).2 (ju HR0) (ju HB1) (ju HM0).2 (ju HM0).1 hb2 hs2 hr2); clear hr2 hs2 hb2 HR0 HB0 HM0 HB1))
    have y6 := (Bg.of (ju HA).row).c6
    have y11 := (Bg.of (ju HA).row).c11
    have m1 := (Mb2.of (ju HA).rm).c1
    have m4 := (Mb2.of (ju HA).rm).c4
    have m5 := (Mb2.of (ju HA).rm).c5
    have m6 := (Mb2.of (ju HA).rm).c6
    have m7 := (Mb2.of (ju HA).rm).c7
    have m9 := (Mb2.of (ju HA).rm).c9
    rw [ju HRL] at m9
    go_quiet (fail)
    clear y6 y11 m1 m4 m5 m6 m7 m9
    replace HA := jd ((ju HA).next ((Bel.refl w2).drewN nq))
    generalize w2.drewN nq = w3 at *
    have y6 := (Bg.of (ju HA).row).c6
    have y11 := (Bg.of (ju HA).row).c11
    have m1 := (Mb2.of (ju HA).rm).c1
    have m4 := (Mb2.of (ju HA).rm).c4
    have m5 := (Mb2.of (ju HA).rm).c5
    have m6 := (Mb2.of (ju HA).rm).c6
    have m7 := (Mb2.of (ju HA).rm).c7
    have m9 := (Mb2.of (ju HA).rm).c9
    rw [ju HRL] at m9
    go_wp2_with (first
     | go_skip
     | (refine bx_ldK 31 _ (by exact rfl) b (by exact rfl) (by exact rfl) _ _ (ju HA).row u31 (zP _ _) ?_)
     | (go_at_call 74; refine ((ju HT) _ (ju HA).bel).mono ?_; rintro e w4 ⟨rfl, hb4⟩; replace HA := jd ((ju HA).next hb4); clear y6 y11 m1 m4 m5 m6 m7 m9; have y6 := (Bg.of (ju HA).row).c6; have y11 := (Bg.of (ju HA).row).c11; have m1 := (Mb2.of (ju HA).rm).c1; have m4 := (Mb2.of (ju HA).rm).c4; have m5 := (Mb2.of (ju HA).rm).c5; have m6 := (Mb2.of (ju HA).rm).c6; have m7 := (Mb2.of (ju HA).rm).c7; have m9 := (Mb2.of (ju HA).rm).c9; rw [ju HRL] at m9; clear hb4)
     | (go_at_call 239; refine ((ju HJ) _ (ju HA).bel).mono ?_; rintro e w5 ⟨x5, rfl, hg5, hc5, hb5⟩; have HG5 := jd (aI hg5 hc5); replace HA := jd ((ju HA).next hb5); clear hg5 hc5 hb5)
     | (refine bx_st rfl 31 (.tmp 2) _ rfl b (gc s x5) _ rfl rfl (ju HA).row (zP _ _) rfl (gc_one _ _) ?_; intro w6 hr6 hc6; replace HG5 := jd (aI ((ju HG5).1.box (ju HA).row hc6) (ju HG5).2); replace HA := jd ((ju HA).set hr6 hc6); clear y6 y11 m1 m4 m5 m6 m7 m9; have y6 := (Bg.of (ju HA).row).c6; have y11 := (Bg.of (ju HA).row).c11; have m1 := (Mb2.of (ju HA).rm).c1; have m4 := (Mb2.of (ju HA).rm).c4; have m5 := (Mb2.of (ju HA).rm).c5; have m6 := (Mb2.of (ju HA).rm).c6; have m7 := (Mb2.of (ju HA).rm).c7; have m9 := (Mb2.of (ju HA).rm).c9; rw [ju HRL] at m9; clear hr6 hc6)
     | go_guarded
     | (obtain ⟨s9, x9, h2⟩ := (ju HA).row2; refine bx_st rfl 31 (.tmp 4) _ rfl b2 (gc s x5) _ rfl rfl h2 (zP _ _) rfl (gc_one _ _) ?_; intro w9 hr9 hc9; have HR9 := jd (aI hr9 (aI ((ju HG5).1.box h2 hc9) (aI (ju HG5).2 (bel_off (ju HA).bel hc9 (ju HA).ge2)))); clear hr9 hc9 h2))
    have q := ju HR9
    exact bodyPost_ret (res2 (p := 4) (q := 5) rfl u31 (zP _ _) q.1 _ _ rfl rfl) rfl ⟨_, none, 0, rfl, q.2.1, q.2.2.1, Ms.nil _ _, q.2.2.2⟩
   | some u =>
    have hsm := join_same hj
    obtain ⟨cm, hcm⟩ : ∃ cm, cm = max u.commit (min m.commit (m.index + (rn : Int))) := ⟨_, rfl⟩
    obtain ⟨v, hv⟩ : ∃ v : GP, v = { u with commit := cm } := ⟨_, rfl⟩
    have HE : Hid (s.layTo m = (v, [v.heard m.frm true (m.index + (rn : Int)) m.round])) := jd (by
     rw [ju HLT]; unfold GP.joined; rw [hj]
     show (({ u with commit := max u.commit (min m.commit (m.index + (m.ents.length : Int))) } : GP), [s.heard m.frm true (m.index + (m.ents.length : Int)) m.round]) = _
     rw [ju HRL, ← hcm, hv]
     unfold GP.heard
     rw [show ({ u with commit := cm } : GP).id = s.id from hsm.1, show ({ u with commit := cm } : GP).term = s.term from hsm.2.1])
    rw [hj] at HJ
    have HJ' : Hid (∀ w1, Bel W w1 → Calls Tryz.prog 239 #[.agg (gc s x), .int .u64 m.index, .slice y.ea rn y.ec] w1 fun e w' => ∃ x', e = .returned (.tuple #[.agg (gc u x'), .bool true]) ∧ Gt w' u x' ∧ Lc B0 x' u.log.length ∧ Bel w1 w') := HJ
    replace HJ := HJ'
    have hcu : 0 ≤ u.commit ∧ u.commit ≤ 18446744073709551615 := by rw [hsm.2.2]; exact hcmB
    have hmx : max u.commit (min m.commit (m.index + (rn : Int))) = cm := hcm.symm
    have HV := jd hv
    have hvl : v.log = u.log := by rw [hv]
    have hvc : v.commit = cm := by rw [hv]
    have HVL := jd (aI hvl hvc)
    clear HJ' hj hcm hv hsm hvl hvc
    rw [ju HE]
    clear HE HLT
    go_enter Tryz.func218, Tryz.ntmps218
    go_wp2_with (first
     | go_skip
     | (refine bx_boxK 31 (.tmp 0) (by exact rfl) (by exact rfl) (gc s x) (by exact rfl) ?_; intro b w0 hr0 hs0 hb0; have HR0 := jd hr0; have HB0 := jd (aI hb0 hs0); clear hr0 hs0 hb0)
     | (refine bx_boxK 87 (.tmp 1) (by exact rfl) (by exact rfl) (mg m y) (by exact rfl) ?_; intro b3 w1 hr1 hs1 hb1; have HM0 := jd (aI hr1 hs1); have HB1 := jd hb1; clear hr1 hs1 hb1)
     | (refine bx_new rfl 31 rfl _ Tryz.zeroP ?_; intro b2 w2 hr2 hs2 hb2; have HA := jd (Aq.mk0 (ju HB0).1 (ju HB0).2 (ju HR0) (ju HB1) (ju HM0).2 (ju HM0).1 hb2 hs2 hr2); clear hr2 hs2 hb2 HR0 HB0 HM0 HB1))
    have y6 := (Bg.of (ju HA).row).c6
    have y11 := (Bg.of (ju HA).row).c11
    have m1 := (Mb2.of (ju HA).rm).c1
    have m4 := (Mb2.of (ju HA).rm).c4
    have m5 := (Mb2.of (ju HA).rm).c5
    have m6 := (Mb2.of (ju HA).rm).c6
    have m7 := (Mb2.of (ju HA).rm).c7
    have m9 := (Mb2.of (ju HA).rm).c9
    rw [ju HRL] at m9
    go_quiet (fail)
    clear y6 y11 m1 m4 m5 m6 m7 m9
    replace HA := jd ((ju HA).next ((Bel.refl w2).drewN nq))
    generalize w2.drewN nq = w3 at *
    have y6 := (Bg.of (ju HA).row).c6
    have y11 := (Bg.of (ju HA).row).c11
    have m1 := (Mb2.of (ju HA).rm).c1
    have m4 := (Mb2.of (ju HA).rm).c4
    have m5 := (Mb2.of (ju HA).rm).c5
    have m6 := (Mb2.of (ju HA).rm).c6
    have m7 := (Mb2.of (ju HA).rm).c7
    have m9 := (Mb2.of (ju HA).rm).c9
    rw [ju HRL] at m9
    go_wp2_with (first
     | go_skip
     | (refine bx_ldK 31 _ (by exact rfl) b (by exact rfl) (by exact rfl) _ _ (ju HA).row u31 (zP _ _) ?_)
     | (go_at_call 74; refine ((ju HT) _ (ju HA).bel).mono ?_; rintro e w4 ⟨rfl, hb4⟩; replace HA := jd ((ju HA).next hb4); clear y6 y11 m1 m4 m5 m6 m7 m9; have y6 := (Bg.of (ju HA).row).c6; have y11 := (Bg.of (ju HA).row).c11; have m1 := (Mb2.of (ju HA).rm).c1; have m4 := (Mb2.of (ju HA).rm).c4; have m5 := (Mb2.of (ju HA).rm).c5; have m6 := (Mb2.of (ju HA).rm).c6; have m7 := (Mb2.of (ju HA).rm).c7; have m9 := (Mb2.of (ju HA).rm).c9; rw [ju HRL] at m9; clear hb4)
     | (go_at_call 239; refine ((ju HJ) _ (ju HA).bel).mono ?_; rintro e w5 ⟨x5, rfl, hg5, hc5, hb5⟩; have HG5 := jd (aI hg5 hc5); replace HA := jd ((ju HA).next hb5); clear hg5 hc5 hb5)
     | (refine bx_st rfl 31 (.tmp 2) _ rfl b (gc u x5) _ rfl rfl (ju HA).row (zP _ _) rfl (gc_one _ _) ?_; intro w6 hr6 hc6; replace HG5 := jd (aI ((ju HG5).1.box (ju HA).row hc6) (ju HG5).2); replace HA := jd ((ju HA).set hr6 hc6); clear y6 y11 m1 m4 m5 m6 m7 m9; have y6 := (Bg.of (ju HA).row).c6; have y11 := (Bg.of (ju HA).row).c11; have m1 := (Mb2.of (ju HA).rm).c1; have m4 := (Mb2.of (ju HA).rm).c4; have m5 := (Mb2.of (ju HA).rm).c5; have m6 := (Mb2.of (ju HA).rm).c6; have m7 := (Mb2.of (ju HA).rm).c7; have m9 := (Mb2.of (ju HA).rm).c9; rw [ju HRL] at m9; clear hr6 hc6)
     | (refine gl_commit (by exact rfl) _ _ (by exact rfl) b cm (by exact rfl) (by exact rfl) (ju HA).row ?_; intro w8 hr8 hc8; rw [← ju HV] at hr8; have hgv := (((ju HG5).1.com cm).box (ju HA).row hc8); rw [← ju HV] at hgv; have hgl := (ju HG5).2; rw [← (ju HVL).1] at hgl; replace HG5 := jd (aI hgv hgl); replace HA := jd ((ju HA).set hr8 hc8); clear y6 y11 m1 m4 m5 m6 m7 m9; clear hr8 hc8 hgv hgl)
     | go_guarded)
    have hA := (ju HA).next (Bel.refl w8).drew
    have hG := aI ((ju HG5).1.bel (Bel.refl w8).drew) (ju HG5).2
    refine wp_region_held_drew (S := fun w => w.heap[b]? = some (.cells (gc v x5) 31) ∧ w.heap[b3]? = some (.cells (mg m y) 87)) Tryz.follows ⟨hA.row, hA.rm⟩ (fun hS => ?_)
    clear HA HG5
    generalize w8.drew = wd at *
    refine any_ldP (i := 0) (b := b) rfl (by kernel_rfl) (fun _ _ _ h => h) rfl hS rfl (by go_simp) (fun w hw => hw.1) ?_
    refine any_ldP (i := 1) (b := b) rfl (by kernel_rfl) (fun _ _ _ h => h) rfl hS rfl (by go_simp) (fun w hw => hw.1) ?_
    refine any_take (i := 2) (v := .pointer (some ⟨b3, 1, none⟩)) rfl (by kernel_rfl) (fun _ _ _ h => h) rfl hS (fun w hw => by go_simp) ?_
    refine any_take (i := 3) (v := .int .i64 m.frm) rfl (by kernel_rfl) (fun _ _ _ h => h) rfl hS (fun w hw => by have := (Mb2.of hw.2).c1; go_simp) ?_
    refine any_take (i := 4) (v := .int .u64 (m.index + (rn : Int))) rfl (by kernel_rfl) (fun _ _ _ h => h) rfl hS (fun w hw => by go_simp) ?_
    refine any_take (i := 5) (v := .pointer (some ⟨b3, 7, none⟩)) rfl (by kernel_rfl) (fun _ _ _ h => h) rfl hS (fun w hw => by go_simp) ?_
    refine any_take (i := 6) (v := .int .u64 m.round) rfl (by kernel_rfl) (fun _ _ _ h => h) rfl hS (fun w hw => by have := (Mb2.of hw.2).c7; go_simp) ?_
    refine any_call (i := 7) (by kernel_rfl) rfl rfl (by go_simp) (lheard_g (W := wd) (s := v) (x := x5) m.frm true (m.index + (rn : Int)) m.round) ?_
    rintro e w9 ⟨aH, rfl, hoH, hb9⟩
    have hS5 := aI (hb9.row hS.1) (hb9.row hS.2)
    refine ⟨_, rfl, hS5, ?_⟩
    have hA5 := hA.next hb9
    obtain ⟨s9, x9, h2⟩ := hA5.row2
    have hch := ch_row (c' := gc v x5) h2
    have HQ := jd (aI hch.1 (aI ((hG.1.bel hb9).box h2 hch.2) (aI hG.2 (aI (bel_off hA5.bel hch.2 hA5.ge2) ((hoH.mono hA.bel.size).box h2 (by decide) hch.2)))))
    have hS6 := aI (hch.2.row hS5.1 hA5.ne.symm) (hch.2.row hS5.2 hA5.ne4)
    refine any_skip (i := 8) (w' := w9.setRow b2 (gc v x5)) (by kernel_rfl) rfl rfl (st_run (s := v) (z := x5) (.tmp 4) (.tmp 87) (by exact rfl) (by go_simp) (by go_simp) h2) ⟨hS6, ?_⟩
    generalize w9.setRow b2 (gc v x5) = wE at *
    refine any_do (i := 9) (v := .slice aH 1 1) (w' := wE) (by kernel_rfl) rfl rfl (by go_simp) ⟨hS6, ?_⟩
    refine wpAnyH_done (by kernel_rfl) ?_ _
    clear hch hS6 h2 hA5 hS5 hoH hb9 hS hG hA
    simp [Act.put]
    go_wp2_with fail
    have q := ju HQ
    exact bodyPost_ret (res2 (p := 4) (q := 5) rfl u31 (zP _ _) q.1 _ _ rfl rfl) rfl ⟨_, aH, 1, rfl, q.2.1, q.2.2.1, Ms.plain q.2.2.2.2 (fun z hz => by rw [List.mem_singleton.1 hz]; exact ⟨rfl, rfl, rfl⟩), q.2.2.2.1⟩
  ·have hd1 : decide (m.index < s.base) = false := decide_eq_false hlt
   have hi1 := hne hlt hte
   have HE : Hid (s.layTo m = (s, [s.heard m.frm false (min s.lastI (m.index - 1)) m.round])) := jd (by unfold GP.layTo; rw [if_neg hlt, if_neg hte])
   have hthr : (s.tAt m.index).isSome = false ∨ ((s.tAt m.index).isSome = true ∧ ((s.tAt m.index).getD 0 != m.lterm) = true) := by
    cases hq : s.tAt m.index with
    | none => exact Or.inl rfl
    | some t0 => exact Or.inr ⟨rfl, by rw [bne_iff_ne]; exact fun h => hte (by rw [hq]; exact congrArg some h)⟩
   obtain ⟨rn0, hrn0⟩ : ∃ n : Nat, n = m.ents.length := ⟨_, rfl⟩
   have HRL : Hid (m.ents.length = rn0) := jd hrn0.symm
   clear he hl hg hec hl2 hne HJN h16 hte hrn0 hen
   generalize (s.tAt m.index).getD 0 = ti at *
   generalize (s.tAt m.index).isSome = th at *
   generalize s.lastI = li at *
   rw [ju HE]
   clear HE
   rcases hthr with hth | ⟨hth, hnq⟩
   ·subst hth
    have hw1 : IntKind.u64.wrap (m.index - 1) = m.index - 1 := wrapU (by omega) (by omega)
    go_enter Tryz.func218, Tryz.ntmps218
    go_wp2_with (first
     | go_skip
     | (refine bx_boxK 31 (.tmp 0) (by exact rfl) (by exact rfl) (gc s x) (by exact rfl) ?_; intro b w0 hr0 hs0 hb0; have HR0 := jd hr0; have HB0 := jd (aI hb0 hs0); clear hr0 hs0 hb0)
     | (refine bx_boxK 87 (.tmp 1) (by exact rfl) (by exact rfl) (mg m y) (by exact rfl) ?_; intro b3 w1 hr1 hs1 hb1; have HM0 := jd (aI hr1 hs1); have HB1 := jd hb1; clear hr1 hs1 hb1)
     | (refine bx_new rfl 31 rfl _ Tryz.zeroP ?_; intro b2 w2 hr2 hs2 hb2; have HA := jd (Aq.mk0 (ju HB0).1 (ju HB0).2 (ju HR0) (ju HB1) (ju HM0).2 (ju HM0).1 hb2 hs2 hr2); clear hr2 hs2 hb2 HR0 HB0 HM0 HB1))
    have y6 := (Bg.of (ju HA).row).c6
    have y11 := (Bg.of (ju HA).row).c11
    have m1 := (Mb2.of (ju HA).rm).c1
    have m4 := (Mb2.of (ju HA).rm).c4
    have m5 := (Mb2.of (ju HA).rm).c5
    have m6 := (Mb2.of (ju HA).rm).c6
    have m7 := (Mb2.of (ju HA).rm).c7
    have m9 := (Mb2.of (ju HA).rm).c9
    rw [ju HRL] at m9
    go_quiet (fail)
    clear y6 y11 m1 m4 m5 m6 m7 m9
    replace HA := jd ((ju HA).next ((Bel.refl w2).drewN nq))
    generalize w2.drewN nq = w3 at *
    have y6 := (Bg.of (ju HA).row).c6
    have y11 := (Bg.of (ju HA).row).c11
    have m1 := (Mb2.of (ju HA).rm).c1
    have m4 := (Mb2.of (ju HA).rm).c4
    have m5 := (Mb2.of (ju HA).rm).c5
    have m6 := (Mb2.of (ju HA).rm).c6
    have m7 := (Mb2.of (ju HA).rm).c7
    have m9 := (Mb2.of (ju HA).rm).c9
    rw [ju HRL] at m9
    go_wp2_with (first
     | go_skip
     | (refine bx_ldK 31 _ (by exact rfl) b (by exact rfl) (by exact rfl) _ _ (ju HA).row u31 (zP _ _) ?_)
     | (go_at_call 74; refine ((ju HT) _ (ju HA).bel).mono ?_; rintro e w4 ⟨rfl, hb4⟩; replace HA := jd ((ju HA).next hb4); clear y6 y11 m1 m4 m5 m6 m7 m9; have y6 := (Bg.of (ju HA).row).c6; have y11 := (Bg.of (ju HA).row).c11; have m1 := (Mb2.of (ju HA).rm).c1; have m4 := (Mb2.of (ju HA).rm).c4; have m5 := (Mb2.of (ju HA).rm).c5; have m6 := (Mb2.of (ju HA).rm).c6; have m7 := (Mb2.of (ju HA).rm).c7; have m9 := (Mb2.of (ju HA).rm).c9; rw [ju HRL] at m9; clear hb4)
     | (go_at_call 79; refine ((ju HTB) _ (ju HA).bel).mono ?_; rintro e w4 ⟨rfl, hb4⟩; replace HA := jd ((ju HA).next hb4); clear y6 y11 m1 m4 m5 m6 m7 m9; have y6 := (Bg.of (ju HA).row).c6; have y11 := (Bg.of (ju HA).row).c11; have m1 := (Mb2.of (ju HA).rm).c1; have m4 := (Mb2.of (ju HA).rm).c4; have m5 := (Mb2.of (ju HA).rm).c5; have m6 := (Mb2.of (ju HA).rm).c6; have m7 := (Mb2.of (ju HA).rm).c7; have m9 := (Mb2.of (ju HA).rm).c9; rw [ju HRL] at m9; clear hb4)
     | go_guarded)
    clear y6 y11 m1 m4 m5 m6 m7 m9
    have hA := (ju HA).next (Bel.refl w4).drew
    refine wp_region_held_drew (S := fun w => w.heap[b]? = some (.cells (gc s x) 31) ∧ w.heap[b3]? = some (.cells (mg m y) 87)) Tryz.follows ⟨hA.row, hA.rm⟩ (fun hS => ?_)
    clear HA
    generalize w4.drew = wd at *
    refine any_ldP (i := 0) (b := b) rfl (by kernel_rfl) (fun _ _ _ h => h) rfl hS rfl (by go_simp) (fun w hw => hw.1) ?_
    refine any_ldP (i := 1) (b := b) rfl (by kernel_rfl) (fun _ _ _ h => h) rfl hS rfl (by go_simp) (fun w hw => hw.1) ?_
    refine any_take (i := 2) (v := .pointer (some ⟨b3, 1, none⟩)) rfl (by kernel_rfl) (fun _ _ _ h => h) rfl hS (fun w hw => by go_simp) ?_
    refine any_take (i := 3) (v := .int .i64 m.frm) rfl (by kernel_rfl) (fun _ _ _ h => h) rfl hS (fun w hw => by have := (Mb2.of hw.2).c1; go_simp) ?_
    refine any_take (i := 4) (v := .int .u64 li) rfl (by kernel_rfl) (fun _ _ _ h => h) rfl hS (fun w hw => by go_simp) ?_
    refine any_take (i := 5) (v := .int .u64 m.index) rfl (by kernel_rfl) (fun _ _ _ h => h) rfl hS (fun w hw => by go_simp) ?_
    refine any_take (i := 6) (v := .int .u64 (m.index - 1)) rfl (by kernel_rfl) (fun _ _ _ h => h) rfl hS (fun w hw => by go_simp) ?_
    refine any_take (i := 7) (v := .int .u64 (min li (m.index - 1))) rfl (by kernel_rfl) (fun _ _ _ h => h) rfl hS (fun w hw => by go_simp) ?_
    refine any_take (i := 8) (v := .pointer (some ⟨b3, 7, none⟩)) rfl (by kernel_rfl) (fun _ _ _ h => h) rfl hS (fun w hw => by go_simp) ?_
    refine any_take (i := 9) (v := .int .u64 m.round) rfl (by kernel_rfl) (fun _ _ _ h => h) rfl hS (fun w hw => by have := (Mb2.of hw.2).c7; go_simp) ?_
    refine any_call (i := 10) (by kernel_rfl) rfl rfl (by go_simp) (lheard_g (W := wd) (s := s) (x := x) m.frm false (min li (m.index - 1)) m.round) ?_
    rintro e w9 ⟨aH, rfl, hoH, hb9⟩
    have hS5 := aI (hb9.row hS.1) (hb9.row hS.2)
    refine ⟨_, rfl, hS5, ?_⟩
    have hA5 := hA.next hb9
    obtain ⟨s9, x9, h2⟩ := hA5.row2
    have hch := ch_row (c' := gc s x) h2
    have HQ := jd (aI hch.1 (aI ((((ju HP).1.bel hA5.bel)).box h2 hch.2) (aI (ju HP).2 (aI (bel_off hA5.bel hch.2 hA5.ge2) ((hoH.mono hA.bel.size).box h2 (by decide) hch.2)))))
    have hS6 := aI (hch.2.row hS5.1 hA5.ne.symm) (hch.2.row hS5.2 hA5.ne4)
    refine any_skip (i := 11) (w' := w9.setRow b2 (gc s x)) (by kernel_rfl) rfl rfl (st_run (s := s) (z := x) (.tmp 4) (.tmp 53) (by exact rfl) (by go_simp) (by go_simp) h2) ⟨hS6, ?_⟩
    generalize w9.setRow b2 (gc s x) = wE at *
    refine any_do (i := 12) (v := .slice aH 1 1) (w' := wE) (by kernel_rfl) rfl rfl (by go_simp) ⟨hS6, ?_⟩
    refine wpAnyH_done (by kernel_rfl) ?_ _
    clear hch hS6 h2 hA5 hS5 hoH hb9 hS hA
    simp [Act.put]
    go_wp2_with fail
    have q := ju HQ
    exact bodyPost_ret (res2 (p := 4) (q := 5) rfl u31 (zP _ _) q.1 _ _ rfl rfl) rfl ⟨_, aH, 1, rfl, q.2.1, q.2.2.1, Ms.plain q.2.2.2.2 (fun z hz => by rw [List.mem_singleton.1 hz]; exact ⟨rfl, rfl, rfl⟩), q.2.2.2.1⟩
   ·subst hth
    have hw1 : IntKind.u64.wrap (m.index - 1) = m.index - 1 := wrapU (by omega) (by omega)
    go_enter Tryz.func218, Tryz.ntmps218
    go_wp2_with (first
     | go_skip
     | (refine bx_boxK 31 (.tmp 0) (by exact rfl) (by exact rfl) (gc s x) (by exact rfl) ?_; intro b w0 hr0 hs0 hb0; have HR0 := jd hr0; have HB0 := jd (aI hb0 hs0); clear hr0 hs0 hb0)
     | (refine bx_boxK 87 (.tmp 1) (by exact rfl) (by exact rfl) (mg m y) (by exact rfl) ?_; intro b3 w1 hr1 hs1 hb1; have HM0 := jd (aI hr1 hs1); have HB1 := jd hb1; clear hr1 hs1 hb1)
     | (refine bx_new rfl 31 rfl _ Tryz.zeroP ?_; intro b2 w2 hr2 hs2 hb2; have HA := jd (Aq.mk0 (ju HB0).1 (ju HB0).2 (ju HR0) (ju HB1) (ju HM0).2 (ju HM0).1 hb2 hs2 hr2); clear hr2 hs2 hb2 HR0 HB0 HM0 HB1))
    have y6 := (Bg.of (ju HA).row).c6
    have y11 := (Bg.of (ju HA).row).c11
    have m1 := (Mb2.of (ju HA).rm).c1
    have m4 := (Mb2.of (ju HA).rm).c4
    have m5 := (Mb2.of (ju HA).rm).c5
    have m6 := (Mb2.of (ju HA).rm).c6
    have m7 := (Mb2.of (ju HA).rm).c7
    have m9 := (Mb2.of (ju HA).rm).c9
    rw [ju HRL] at m9
    go_quiet (fail)
    clear y6 y11 m1 m4 m5 m6 m7 m9
    replace HA := jd ((ju HA).next ((Bel.refl w2).drewN nq))
    generalize w2.drewN nq = w3 at *
    have y6 := (Bg.of (ju HA).row).c6
    have y11 := (Bg.of (ju HA).row).c11
    have m1 := (Mb2.of (ju HA).rm).c1
    have m4 := (Mb2.of (ju HA).rm).c4
    have m5 := (Mb2.of (ju HA).rm).c5
    have m6 := (Mb2.of (ju HA).rm).c6
    have m7 := (Mb2.of (ju HA).rm).c7
    have m9 := (Mb2.of (ju HA).rm).c9
    rw [ju HRL] at m9
    go_wp2_with (first
     | go_skip
     | (refine bx_ldK 31 _ (by exact rfl) b (by exact rfl) (by exact rfl) _ _ (ju HA).row u31 (zP _ _) ?_)
     | (go_at_call 74; refine ((ju HT) _ (ju HA).bel).mono ?_; rintro e w4 ⟨rfl, hb4⟩; replace HA := jd ((ju HA).next hb4); clear y6 y11 m1 m4 m5 m6 m7 m9; have y6 := (Bg.of (ju HA).row).c6; have y11 := (Bg.of (ju HA).row).c11; have m1 := (Mb2.of (ju HA).rm).c1; have m4 := (Mb2.of (ju HA).rm).c4; have m5 := (Mb2.of (ju HA).rm).c5; have m6 := (Mb2.of (ju HA).rm).c6; have m7 := (Mb2.of (ju HA).rm).c7; have m9 := (Mb2.of (ju HA).rm).c9; rw [ju HRL] at m9; clear hb4)
     | (go_at_call 79; refine ((ju HTB) _ (ju HA).bel).mono ?_; rintro e w4 ⟨rfl, hb4⟩; replace HA := jd ((ju HA).next hb4); clear y6 y11 m1 m4 m5 m6 m7 m9; have y6 := (Bg.of (ju HA).row).c6; have y11 := (Bg.of (ju HA).row).c11; have m1 := (Mb2.of (ju HA).rm).c1; have m4 := (Mb2.of (ju HA).rm).c4; have m5 := (Mb2.of (ju HA).rm).c5; have m6 := (Mb2.of (ju HA).rm).c6; have m7 := (Mb2.of (ju HA).rm).c7; have m9 := (Mb2.of (ju HA).rm).c9; rw [ju HRL] at m9; clear hb4)
     | go_guarded)
    clear y6 y11 m1 m4 m5 m6 m7 m9
    have hA := (ju HA).next (Bel.refl w4).drew
    refine wp_region_held_drew (S := fun w => w.heap[b]? = some (.cells (gc s x) 31) ∧ w.heap[b3]? = some (.cells (mg m y) 87)) Tryz.follows ⟨hA.row, hA.rm⟩ (fun hS => ?_)
    clear HA
    generalize w4.drew = wd at *
    refine any_ldP (i := 0) (b := b) rfl (by kernel_rfl) (fun _ _ _ h => h) rfl hS rfl (by go_simp) (fun w hw => hw.1) ?_
    refine any_ldP (i := 1) (b := b) rfl (by kernel_rfl) (fun _ _ _ h => h) rfl hS rfl (by go_simp) (fun w hw => hw.1) ?_
    refine any_take (i := 2) (v := .pointer (some ⟨b3, 1, none⟩)) rfl (by kernel_rfl) (fun _ _ _ h => h) rfl hS (fun w hw => by go_simp) ?_
    refine any_take (i := 3) (v := .int .i64 m.frm) rfl (by kernel_rfl) (fun _ _ _ h => h) rfl hS (fun w hw => by have := (Mb2.of hw.2).c1; go_simp) ?_
    refine any_take (i := 4) (v := .int .u64 li) rfl (by kernel_rfl) (fun _ _ _ h => h) rfl hS (fun w hw => by go_simp) ?_
    refine any_take (i := 5) (v := .int .u64 m.index) rfl (by kernel_rfl) (fun _ _ _ h => h) rfl hS (fun w hw => by go_simp) ?_
    refine any_take (i := 6) (v := .int .u64 (m.index - 1)) rfl (by kernel_rfl) (fun _ _ _ h => h) rfl hS (fun w hw => by go_simp) ?_
    refine any_take (i := 7) (v := .int .u64 (min li (m.index - 1))) rfl (by kernel_rfl) (fun _ _ _ h => h) rfl hS (fun w hw => by go_simp) ?_
    refine any_take (i := 8) (v := .pointer (some ⟨b3, 7, none⟩)) rfl (by kernel_rfl) (fun _ _ _ h => h) rfl hS (fun w hw => by go_simp) ?_
    refine any_take (i := 9) (v := .int .u64 m.round) rfl (by kernel_rfl) (fun _ _ _ h => h) rfl hS (fun w hw => by have := (Mb2.of hw.2).c7; go_simp) ?_
    refine any_call (i := 10) (by kernel_rfl) rfl rfl (by go_simp) (lheard_g (W := wd) (s := s) (x := x) m.frm false (min li (m.index - 1)) m.round) ?_
    rintro e w9 ⟨aH, rfl, hoH, hb9⟩
    have hS5 := aI (hb9.row hS.1) (hb9.row hS.2)
    refine ⟨_, rfl, hS5, ?_⟩
    have hA5 := hA.next hb9
    obtain ⟨s9, x9, h2⟩ := hA5.row2
    have hch := ch_row (c' := gc s x) h2
    have HQ := jd (aI hch.1 (aI ((((ju HP).1.bel hA5.bel)).box h2 hch.2) (aI (ju HP).2 (aI (bel_off hA5.bel hch.2 hA5.ge2) ((hoH.mono hA.bel.size).box h2 (by decide) hch.2)))))
    have hS6 := aI (hch.2.row hS5.1 hA5.ne.symm) (hch.2.row hS5.2 hA5.ne4)
    refine any_skip (i := 11) (w' := w9.setRow b2 (gc s x)) (by kernel_rfl) rfl rfl (st_run (s := s) (z := x) (.tmp 4) (.tmp 53) (by exact rfl) (by go_simp) (by go_simp) h2) ⟨hS6, ?_⟩
    generalize w9.setRow b2 (gc s x) = wE at *
    refine any_do (i := 12) (v := .slice aH 1 1) (w' := wE) (by kernel_rfl) rfl rfl (by go_simp) ⟨hS6, ?_⟩
    refine wpAnyH_done (by kernel_rfl) ?_ _
    clear hch hS6 h2 hA5 hS5 hoH hb9 hS hA
    simp [Act.put]
    go_wp2_with fail
    have q := ju HQ
    exact bodyPost_ret (res2 (p := 4) (q := 5) rfl u31 (zP _ _) q.1 _ _ rfl rfl) rfl ⟨_, aH, 1, rfl, q.2.1, q.2.2.1, Ms.plain q.2.2.2.2 (fun z hz => by rw [List.mem_singleton.1 hz]; exact ⟨rfl, rfl, rfl⟩), q.2.2.2.1⟩
end
end Go.Proofs.YthekbhliokcpcaaGreat
