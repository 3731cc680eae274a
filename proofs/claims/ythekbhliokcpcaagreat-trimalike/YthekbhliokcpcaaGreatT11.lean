/- trim.Compact of any member. campaign. A leader commits what a majority has. -/
import Derived.Test.YthekbhliokcpcaaGreatT10
import Derived.Test.YthekbhliokcpcaaGreatT05
import Derived.Test.YthekbhliokcpcaaGreatT09
import Derived.Test.YthekbhliokcpcaaGreatT06
namespace Go.Proofs.YthekbhliokcpcaaGreat
open Go.RowKit Go.Maps Go.Sort
def cmpB (s : GP) (to : Int) : Bool := mayG s && (!decide (to ≤ s.base) && !decide (min s.commit 4611686018427387904 < to))
theorem mayG_num {s : GP} (h : mayG s = true) : numB s = true ∧ logB s = true ∧ memB s = true ∧ rolB s = true := by
 unfold mayG at h
 simp only [Bool.and_eq_true] at h
 exact h
theorem numB_base {s : GP} (h : numB s = true) : s.base ≤ 4611686018427387904 := by
 unfold numB at h
 simp only [Bool.and_eq_true, decide_eq_true_eq] at h
 exact h.2.2.2.2.2.1
theorem Pg.gt {base : Nat} {W : World} {s : GP} {x : Px} (h : Pg base W s x) : Gt W s x := ⟨SlT.of h.m, SlT.of h.b, by obtain ⟨L, hl⟩ := h.l; exact ⟨L, hl.map, SlT.of hl.row, fun y hy => SlT.of (hl.own y hy)⟩, SlT.of h.v, SlT.of h.f, by obtain ⟨L, h1, h2, h3⟩ := h.r; exact ⟨L, h1, SlT.of h2, fun y hy => SlT.of (h3 y hy)⟩⟩
theorem ldS_run {a : Act} {o : Oper} {y : Operand} {w : World} {b : Nat} {i t : Int} {B : List Int} {aB : Option Addr} {cB : Nat} {d : ByteArray} (ho : o.op = .load 135 y) (hx : a.eval y = .pointer (some ⟨b, 0, none⟩)) (hg : w.heap[b]? = some (.cells (snc i t B aB cB d) 135)) : (execOp a.eval o).run Tryz.prog w = .ok (.value (.agg (snc i t B aB cB d))) w := by
 unfold execOp
 simp only [ho, hx, Instr.loadAt, Instr.sureAddr, Sem.run_bind, Sem.run_pure, Result.andThen_ok, run_loadVar_row w b 135 135 _ (0, 0) _ hg Tryz.underlying135 rfl (Tryz.sizeS _ _ _ _ _ _)]
theorem stP_run {a : Act} {o : Oper} {y z : Operand} {w : World} {b : Nat} {s s' : GP} {x x' : Px} (ho : o.op = .store 31 y z) (hx : a.eval y = .pointer (some ⟨b, 0, none⟩)) (hz : a.eval z = .agg (gc s x)) (hg : w.heap[b]? = some (.cells (gc s' x') 31)) : (execOp a.eval o).run Tryz.prog w = .ok .skip (w.setRow b (gc s x)) := by
 unfold execOp
 simp only [ho, hx, hz, Instr.storeAt, Instr.sureAddr, Sem.run_bind, Sem.run_pure, Result.andThen_ok, run_storeVar_row w b 31 31 _ (gc s x) hg (zP s x) rfl (gc_one s x)]
set_option maxRecDepth 100000 in
set_option maxHeartbeats 8000000 in
theorem compact_no {W : World} {s : GP} {x : Px} (h : Gp W s x) (hz : Gz s x) (to : Int) (d : ByteArray) (hc : cmpB s to = false) : Calls Tryz.prog 29 #[.agg (gc s x), .int .u64 to, .string d] W fun e w' => e = .returned (.tuple #[.agg (gc g0 y0), .int .i64 2]) ∧ Bel W w' := by
 have H1 : Hid (∀ W', Bel W W' → Calls Tryz.prog 42 #[.agg (gc s x)] W' fun e w' => e = .returned (.int .i64 (if mayG s then 0 else 2)) ∧ Bel W' w') := jd (fun W' hb => may_g (h.bel hb) hz)
 unfold cmpB at hc
 clear h hz
 cases hm : mayG s with
 | false =>
  rw [hm, if_neg (by decide)] at H1
  clear hc hm
  go_enter Tryz.func29, Tryz.ntmps29
  go_wp2_with (first
   | go_skip
   | (refine bx_boxK 31 (.tmp 0) (by exact rfl) (by exact rfl) (gc s x) (by exact rfl) ?_; intro b w0 hr0 hs0 hb0; have HR0 := jd hr0; have HB0 := jd (aI hb0 (Nat.le_of_eq hs0)); have y6 := (Bg.of hr0).c6; have y11 := (Bg.of hr0).c11; clear hr0 hs0 hb0)
   | (refine bx_new rfl 31 rfl _ Tryz.zeroP ?_; intro b6 w2 hr2 hs2 hb2; have HR6 := jd hr2; have HN6 : Hid (b6 ≠ b ∧ W.heap.size ≤ b6) := jd ⟨fun e => by have := lt_of_some (ju HR0); omega, by have := (ju HB0).1.size; omega⟩; have y6 := hb2.cell y6; have y11 := hb2.cell y11; replace HR0 := jd (hb2.row (ju HR0)); replace HB0 := jd (aI ((ju HB0).1.trans hb2) (ju HB0).2); clear hr2 hs2 hb2)
   | (refine bx_ldK 31 (.tmp 3) (by exact rfl) b (by exact rfl) (by exact rfl) (gc s x) _ (ju HR0) u31 (zP s x) ?_)
   | go_guarded
   | (go_at_call 42; refine ((ju H1) _ (ju HB0).1).mono ?_; rintro e w1 ⟨rfl, hb1⟩; have y6 := hb1.cell y6; have y11 := hb1.cell y11; replace HR6 := jd (hb1.row (ju HR6)); replace HR0 := jd (hb1.row (ju HR0)); replace HB0 := jd (aI ((ju HB0).1.trans hb1) (ju HB0).2); clear hb1)
   | (refine bx_st rfl 31 (.tmp 6) _ rfl b6 (gc g0 y0) _ rfl rfl (ju HR6) (zP _ _) rfl (gc_one _ _) ?_; intro wb hrb hcb; have HRB := jd (aI hrb (bel_off (ju HB0).1 hcb (ju HN6).2)); clear hrb hcb))
  exact bodyPost_ret (res2 (p := 6) (q := 7) rfl u31 (zP _ _) (ju HRB).1 _ _ rfl rfl) rfl ⟨rfl, (ju HRB).2⟩
 | true =>
  rw [hm, if_pos rfl] at H1
  rw [hm, Bool.true_and] at hc
  clear hm
  by_cases h1 : to ≤ s.base
  ·clear hc
   go_enter Tryz.func29, Tryz.ntmps29
   go_wp2_with (first
    | go_skip
    | (refine bx_boxK 31 (.tmp 0) (by exact rfl) (by exact rfl) (gc s x) (by exact rfl) ?_; intro b w0 hr0 hs0 hb0; have HR0 := jd hr0; have HB0 := jd (aI hb0 (Nat.le_of_eq hs0)); have y6 := (Bg.of hr0).c6; have y11 := (Bg.of hr0).c11; clear hr0 hs0 hb0)
    | (refine bx_new rfl 31 rfl _ Tryz.zeroP ?_; intro b6 w2 hr2 hs2 hb2; have HR6 := jd hr2; have HN6 : Hid (b6 ≠ b ∧ W.heap.size ≤ b6) := jd ⟨fun e => by have := lt_of_some (ju HR0); omega, by have := (ju HB0).1.size; omega⟩; have y6 := hb2.cell y6; have y11 := hb2.cell y11; replace HR0 := jd (hb2.row (ju HR0)); replace HB0 := jd (aI ((ju HB0).1.trans hb2) (ju HB0).2); clear hr2 hs2 hb2)
    | (refine bx_ldK 31 (.tmp 3) (by exact rfl) b (by exact rfl) (by exact rfl) (gc s x) _ (ju HR0) u31 (zP s x) ?_)
    | go_guarded
    | (go_at_call 42; refine ((ju H1) _ (ju HB0).1).mono ?_; rintro e w1 ⟨rfl, hb1⟩; have y6 := hb1.cell y6; have y11 := hb1.cell y11; replace HR6 := jd (hb1.row (ju HR6)); replace HR0 := jd (hb1.row (ju HR0)); replace HB0 := jd (aI ((ju HB0).1.trans hb1) (ju HB0).2); clear hb1)
    | (refine bx_st rfl 31 (.tmp 6) _ rfl b6 (gc g0 y0) _ rfl rfl (ju HR6) (zP _ _) rfl (gc_one _ _) ?_; intro wb hrb hcb; have HRB := jd (aI hrb (bel_off (ju HB0).1 hcb (ju HN6).2)); clear hrb hcb))
   exact bodyPost_ret (res2 (p := 6) (q := 7) rfl u31 (zP _ _) (ju HRB).1 _ _ rfl rfl) rfl ⟨rfl, (ju HRB).2⟩
  ·rw [decide_eq_false h1, Bool.not_false, Bool.true_and, Bool.not_eq_false', decide_eq_true_eq] at hc
   go_enter Tryz.func29, Tryz.ntmps29
   go_wp2_with (first
    | go_skip
    | (refine bx_boxK 31 (.tmp 0) (by exact rfl) (by exact rfl) (gc s x) (by exact rfl) ?_; intro b w0 hr0 hs0 hb0; have HR0 := jd hr0; have HB0 := jd (aI hb0 (Nat.le_of_eq hs0)); have y6 := (Bg.of hr0).c6; have y11 := (Bg.of hr0).c11; clear hr0 hs0 hb0)
    | (refine bx_new rfl 31 rfl _ Tryz.zeroP ?_; intro b6 w2 hr2 hs2 hb2; have HR6 := jd hr2; have HN6 : Hid (b6 ≠ b ∧ W.heap.size ≤ b6) := jd ⟨fun e => by have := lt_of_some (ju HR0); omega, by have := (ju HB0).1.size; omega⟩; have y6 := hb2.cell y6; have y11 := hb2.cell y11; replace HR0 := jd (hb2.row (ju HR0)); replace HB0 := jd (aI ((ju HB0).1.trans hb2) (ju HB0).2); clear hr2 hs2 hb2)
    | (refine bx_ldK 31 (.tmp 3) (by exact rfl) b (by exact rfl) (by exact rfl) (gc s x) _ (ju HR0) u31 (zP s x) ?_)
    | go_guarded
    | (go_at_call 42; refine ((ju H1) _ (ju HB0).1).mono ?_; rintro e w1 ⟨rfl, hb1⟩; have y6 := hb1.cell y6; have y11 := hb1.cell y11; replace HR6 := jd (hb1.row (ju HR6)); replace HR0 := jd (hb1.row (ju HR0)); replace HB0 := jd (aI ((ju HB0).1.trans hb1) (ju HB0).2); clear hb1)
    | (refine bx_st rfl 31 (.tmp 6) _ rfl b6 (gc g0 y0) _ rfl rfl (ju HR6) (zP _ _) rfl (gc_one _ _) ?_; intro wb hrb hcb; have HRB := jd (aI hrb (bel_off (ju HB0).1 hcb (ju HN6).2)); clear hrb hcb))
   exact bodyPost_ret (res2 (p := 6) (q := 7) rfl u31 (zP _ _) (ju HRB).1 _ _ rfl rfl) rfl ⟨rfl, (ju HRB).2⟩
set_option maxRecDepth 100000 in
set_option maxHeartbeats 8000000 in
theorem compact_long {W : World} {s : GP} {x : Px} (h : Gp W s x) (hz : Gz s x) (to : Int) (d : ByteArray) (hc : cmpB s to = true) (hd : 1044480 < d.size) : Calls Tryz.prog 29 #[.agg (gc s x), .int .u64 to, .string d] W fun e w' => e = .returned (.tuple #[.agg (gc g0 y0), .int .i64 4]) ∧ Bel W w' := by
 have H1 : Hid (∀ W', Bel W W' → Calls Tryz.prog 42 #[.agg (gc s x)] W' fun e w' => e = .returned (.int .i64 (if mayG s then 0 else 2)) ∧ Bel W' w') := jd (fun W' hb => may_g (h.bel hb) hz)
 unfold cmpB at hc
 simp only [Bool.and_eq_true, Bool.not_eq_true', decide_eq_false_iff_not] at hc
 obtain ⟨hm, h1, h2⟩ := hc
 rw [hm, if_pos rfl] at H1
 have hd1 : (1044480 : Int) < (d.size : Int) := by omega
 clear h hz hm hd
 go_enter Tryz.func29, Tryz.ntmps29
 go_wp2_with (first
  | go_skip
  | (refine bx_boxK 31 (.tmp 0) (by exact rfl) (by exact rfl) (gc s x) (by exact rfl) ?_; intro b w0 hr0 hs0 hb0; have HR0 := jd hr0; have HB0 := jd (aI hb0 (Nat.le_of_eq hs0)); have y6 := (Bg.of hr0).c6; have y11 := (Bg.of hr0).c11; clear hr0 hs0 hb0)
  | (refine bx_new rfl 31 rfl _ Tryz.zeroP ?_; intro b6 w2 hr2 hs2 hb2; have HR6 := jd hr2; have HN6 : Hid (b6 ≠ b ∧ W.heap.size ≤ b6) := jd ⟨fun e => by have := lt_of_some (ju HR0); omega, by have := (ju HB0).1.size; omega⟩; have y6 := hb2.cell y6; have y11 := hb2.cell y11; replace HR0 := jd (hb2.row (ju HR0)); replace HB0 := jd (aI ((ju HB0).1.trans hb2) (ju HB0).2); clear hr2 hs2 hb2)
  | (refine bx_ldK 31 (.tmp 3) (by exact rfl) b (by exact rfl) (by exact rfl) (gc s x) _ (ju HR0) u31 (zP s x) ?_)
  | go_guarded
  | (go_at_call 42; refine ((ju H1) _ (ju HB0).1).mono ?_; rintro e w1 ⟨rfl, hb1⟩; have y6 := hb1.cell y6; have y11 := hb1.cell y11; replace HR6 := jd (hb1.row (ju HR6)); replace HR0 := jd (hb1.row (ju HR0)); replace HB0 := jd (aI ((ju HB0).1.trans hb1) (ju HB0).2); clear hb1)
  | (refine bx_st rfl 31 (.tmp 6) _ rfl b6 (gc g0 y0) _ rfl rfl (ju HR6) (zP _ _) rfl (gc_one _ _) ?_; intro wb hrb hcb; have HRB := jd (aI hrb (bel_off (ju HB0).1 hcb (ju HN6).2)); clear hrb hcb))
 exact bodyPost_ret (res2 (p := 6) (q := 7) rfl u31 (zP _ _) (ju HRB).1 _ _ rfl rfl) rfl ⟨rfl, (ju HRB).2⟩
def GP.trimTo (s : GP) (to : Int) (d : ByteArray) : GP := s.cut to ((s.tAt to).getD 0) (s.mAt to) d (s.log.drop (to - s.base).toNat)
set_option maxRecDepth 100000 in
set_option maxHeartbeats 8000000 in
theorem compact_yes {W : World} {s : GP} {x : Px} (h : Gp W s x) (hz : Gz s x) (to : Int) (hto : 0 ≤ to ∧ to ≤ 18446744073709551615) (d : ByteArray) (hc : cmpB s to = true) (hd : d.size ≤ 1044480) : Calls Tryz.prog 29 #[.agg (gc s x), .int .u64 to, .string d] W fun e w' => ∃ x', e = .returned (.tuple #[.agg (gc (s.trimTo to d) x'), .int .i64 0]) ∧ Gt w' (s.trimTo to d) x' ∧ Lc W.heap.size x' (s.trimTo to d).log.length ∧ Bel W w' := by
 have H1 : Hid (∀ W', Bel W W' → Calls Tryz.prog 42 #[.agg (gc s x)] W' fun e w' => e = .returned (.int .i64 (if mayG s then 0 else 2)) ∧ Bel W' w') := jd (fun W' hb => may_g (h.bel hb) hz)
 unfold cmpB at hc
 simp only [Bool.and_eq_true, Bool.not_eq_true', decide_eq_false_iff_not] at hc
 obtain ⟨hm, h1, h2⟩ := hc
 have hll : s.log.length ≤ 1000000 := by have := hz.l; omega
 obtain ⟨k, hk⟩ : ∃ k : Nat, to - s.base = k := ⟨(to - s.base).toNat, by omega⟩
 have hlogB := (mayG_num hm).2.1
 have hkl : k ≤ s.log.length := by
  have hci : s.commit ≤ s.lastI := by
   unfold logB at hlogB
   simp only [Bool.and_eq_true, decide_eq_true_eq] at hlogB
   exact hlogB.2.2.2.2.2
  unfold GP.lastI at hci
  omega
 have ek : (to - s.base).toNat = k := by omega
 have H2 : Hid (∀ W', Bel W W' → Calls Tryz.prog 74 #[.agg (gc s x), .int .u64 to] W' fun e w' => e = .returned (.tuple #[.int .u64 ((s.tAt to).getD 0), .bool (s.tAt to).isSome]) ∧ Bel W' w') := jd (fun W' hb => term_g (h.l.bel hb) to hz.base.1 hto hll)
 have H3 : Hid (∀ W', Bel W W' → Calls Tryz.prog 75 #[.agg (gc s x), .int .u64 to] W' fun e w' => ∃ a' c', e = .returned (.slice a' (s.mAt to).length c') ∧ SlT E3 w' a' (s.mAt to) ∧ Bel W' w') := jd (fun W' hb => (membs_g (h.l.bel hb) (h.b.bel hb) to hz.base.1 hto hll hz.cap hz.b hz.lm).mono (fun e w' ⟨a', c', he, ho, hb'⟩ => ⟨a', c', he, SlT.of ho, hb'⟩))
 have H4 : Hid (∀ W', Bel W W' → Calls Tryz.prog 41 #[.agg (gc s x)] W' fun e w' => ∃ x', e = .returned (.agg (gc s x')) ∧ Gt w' s x' ∧ Bel W' w') := jd (fun W' hb => (clone_g (h.bel hb) hz.m hz.b hll hz.lm hz.v (by have := hz.f; omega) (by have := hz.r; omega) hz.ra).mono (fun e w' ⟨x', he, hp, hb'⟩ => ⟨x', he, hp.gt, hb'⟩))
 have H5 : Hid (∀ W', Bel W W' → Calls Tryz.prog 77 #[.agg (gc s x), .int .u64 to] W' fun e w' => ∃ a', e = .returned (.slice a' (s.log.drop k).length (s.log.drop k).length) ∧ SlGT w' a' (s.log.drop k) ∧ Nw W.heap.size a' (s.log.drop k).length ∧ Bel W' w') := jd (fun W' hb => (tail_g (h.l.bel hb) to k hkl hk hll hz.cap hz.lm).mono (fun e w' ⟨a', e1, e2, e3, e4⟩ => ⟨a', e1, e2, e3.mono hb.size, e4⟩))
 have hmA : (s.mAt to).length ≤ 17592186044416 := by
  unfold GP.mAt
  split
  ·simp
  ·exact memOf_len _ _ hz.b (fun e he => hz.lm e (List.mem_of_mem_take he))
 have H6 : Hid (∀ W' x' aB cB aL, Gt W' s x' → SlT E3 W' aB (s.mAt to) → SlGT W' aL (s.log.drop k) → Nw W.heap.size aL (s.log.drop k).length → Calls Tryz.prog 76 #[.agg (gc s x'), .agg (snc to ((s.tAt to).getD 0) (s.mAt to) aB cB d), .slice aL (s.log.drop k).length (s.log.drop k).length] W' fun e w' => ∃ x2, e = .returned (.agg (gc (s.trimTo to d) x2)) ∧ Gt w' (s.trimTo to d) x2 ∧ (s.trimTo to d).log.length ≤ x2.cL ∧ Nw W.heap.size x2.aL (s.trimTo to d).log.length ∧ Bel W' w') := jd (fun W' x' aB cB aL hp hB hL hN => by
  refine (cut_g (s := s) (x := x') (i := to) (t := (s.tAt to).getD 0) (d := d) hB.1 hL.sl ⟨by omega, by omega⟩ (by rw [List.length_drop]; omega) (Nat.le_refl _) hmA (fun e he => hz.lm e (List.mem_of_mem_drop he))).mono ?_
  rintro e w' ⟨aM, cM, he, ho, hb'⟩
  unfold GP.trimTo
  rw [ek]
  refine ⟨_, he, ⟨SlT.of ho, hB.bel hb', hL.bel hb', hp.v.bel hb', hp.f.bel hb', hp.r.bel hb'⟩, Nat.le_refl _, hN, hb'⟩)
 rw [hm, if_pos rfl] at H1
 have hd1 : ¬ ((1044480 : Int) < (d.size : Int)) := by omega
 generalize s.trimTo to d = sq at *
 generalize (s.tAt to).getD 0 = tt at *
 generalize (s.tAt to).isSome = tb at *
 generalize s.mAt to = mm at *
 generalize s.log.drop k = ll at *
 clear h hz hm hd hll hlogB hkl ek hmA hk hto
 go_enter Tryz.func29, Tryz.ntmps29
 go_wp2_with (first
  | go_skip
  | (refine bx_boxK 31 (.tmp 0) (by exact rfl) (by exact rfl) (gc s x) (by exact rfl) ?_; intro b w0 hr0 hs0 hb0; have HR0 := jd hr0; have HB0 := jd (aI hb0 (Nat.le_of_eq hs0)); have y6 := (Bg.of hr0).c6; have y11 := (Bg.of hr0).c11; clear hr0 hs0 hb0)
  | (refine bx_new rfl 31 rfl _ Tryz.zeroP ?_; intro b6 w2 hr2 hs2 hb2; have HR6 := jd hr2; have HN6 : Hid (b6 ≠ b ∧ W.heap.size ≤ b6) := jd ⟨fun e => by have := lt_of_some (ju HR0); omega, by have := (ju HB0).1.size; omega⟩; have y6 := hb2.cell y6; have y11 := hb2.cell y11; replace HR0 := jd (hb2.row (ju HR0)); replace HB0 := jd (aI ((ju HB0).1.trans hb2) (ju HB0).2); clear hr2 hs2 hb2)
  | (refine bx_ldK 31 (.tmp 3) (by exact rfl) b (by exact rfl) (by exact rfl) (gc s x) _ (ju HR0) u31 (zP s x) ?_)
  | go_guarded
  | (go_at_call 42; refine ((ju H1) _ (ju HB0).1).mono ?_; rintro e w1 ⟨rfl, hb1⟩; have y6 := hb1.cell y6; have y11 := hb1.cell y11; replace HR6 := jd (hb1.row (ju HR6)); replace HR0 := jd (hb1.row (ju HR0)); replace HB0 := jd (aI ((ju HB0).1.trans hb1) (ju HB0).2); clear hb1)
  | (refine bx_st rfl 31 (.tmp 6) _ rfl b6 (gc g0 y0) _ rfl rfl (ju HR6) (zP _ _) rfl (gc_one _ _) ?_; intro wb hrb hcb; have HRB := jd (aI hrb (bel_off (ju HB0).1 hcb (ju HN6).2)); clear hrb hcb)
  | (go_at_call 74; refine ((ju H2) _ (ju HB0).1).mono ?_; rintro e w3 ⟨rfl, hb3⟩; replace HR6 := jd (hb3.row (ju HR6)); replace HR0 := jd (hb3.row (ju HR0)); replace HB0 := jd (aI ((ju HB0).1.trans hb3) (ju HB0).2); clear hb3)
  | (go_at_call 75; refine ((ju H3) _ (ju HB0).1).mono ?_; rintro e w4 ⟨aB, cB, rfl, hs4, hb4⟩; have HSB := jd hs4; replace HR6 := jd (hb4.row (ju HR6)); replace HR0 := jd (hb4.row (ju HR0)); replace HB0 := jd (aI ((ju HB0).1.trans hb4) (ju HB0).2); clear hb4 hs4))
 have hrS : (w4.alloc (.cells (snc to tt mm aB cB d) 135)).heap[w4.heap.size]? = some (.cells (snc to tt mm aB cB d) 135) := at_new w4 _
 have hr5 := ((Bel.refl w4).alloc (.cells (snc to tt mm aB cB d) 135)).row (ju HR0)
 have hr6 := ((Bel.refl w4).alloc (.cells (snc to tt mm aB cB d) 135)).row (ju HR6)
 have hb5 := (ju HB0).1.alloc (.cells (snc to tt mm aB cB d) 135)
 have hsb := (ju HSB).bel ((Bel.refl w4).alloc (.cells (snc to tt mm aB cB d) 135))
 rw [show (#[.int .u64 to, .int .u64 tt, .slice aB mm.length cB, .string d] : Array Value) = snc to tt mm aB cB d from rfl]
 generalize (w4.alloc (.cells (snc to tt mm aB cB d) 135)) = w5 at *
 generalize w4.heap.size = bS at *
 clear H1 H2 H3 HR6 HR0 HSB h1 h2 hd1
 clear y6 y11
 refine wp_region_held_drew (S := fun W => W.heap[b]? = some (.cells (gc s x) 31) ∧ W.heap[bS]? = some (.cells (snc to tt mm aB cB d) 135)) Tryz.follows ⟨hr5, hrS⟩ (fun hS => ?_)
 have hbd : ∀ {w w' : World}, Bel w w' → (w.heap[b]? = some (.cells (gc s x) 31) ∧ w.heap[bS]? = some (.cells (snc to tt mm aB cB d) 135)) → (w'.heap[b]? = some (.cells (gc s x) 31) ∧ w'.heap[bS]? = some (.cells (snc to tt mm aB cB d) 135)) := fun hb h => ⟨hb.row h.1, hb.row h.2⟩
 refine any_ldP (i := 0) (b := b) rfl (by kernel_rfl) (fun _ _ _ h => h) rfl hS rfl (by go_simp) (fun w hw => hw.1) ?_
 refine any_take (i := 2) (v := .agg (snc to tt mm aB cB d)) rfl (by kernel_rfl) (fun _ _ _ h => h) rfl hS (fun w hw => ldS_run (b := bS) rfl (by go_simp) hw.2) ?_
 refine any_ldP (i := 3) (b := b) rfl (by kernel_rfl) (fun _ _ _ h => h) rfl hS rfl (by go_simp) (fun w hw => hw.1) ?_
 refine any_take (i := 4) (v := .int .u64 to) rfl (by kernel_rfl) (fun _ _ _ h => h) rfl hS (fun w hw => by go_simp) ?_
 refine any_call (i := 1) (by kernel_rfl) rfl rfl (by go_simp) ((ju H4) _ (Bel.drew hb5)) ?_
 rintro e w6 ⟨x6, rfl, hp6, hb6⟩
 have hS6 := hbd hb6 hS
 refine ⟨_, rfl, hS6, ?_⟩
 refine any_call (i := 5) (by kernel_rfl) rfl rfl (by go_simp) ((ju H5) _ (hb5.drew.trans hb6)) ?_
 rintro e w7 ⟨a7, rfl, hs7, hn7, hb7⟩
 have hS7 := hbd hb7 hS6
 refine ⟨_, rfl, hS7, ?_⟩
 refine any_call (i := 6) (by kernel_rfl) rfl rfl (by go_simp) ((ju H6) w7 x6 aB cB a7 (hp6.bel hb7) (((hsb.bel (Bel.refl w5).drew).bel hb6).bel hb7) hs7 hn7) ?_
 rintro e w8 ⟨x8, rfl, hp8, hc8, hn8, hb8⟩
 have hS8 := hbd hb8 hS7
 refine ⟨_, rfl, hS8, ?_⟩
 have hr68 := hb8.row (hb7.row (hb6.row hr6))
 have hch := ch_row (c' := gc sq x8) hr68
 have hS9 : (w8.setRow b6 (gc sq x8)).heap[b]? = some (.cells (gc s x) 31) ∧ (w8.setRow b6 (gc sq x8)).heap[bS]? = some (.cells (snc to tt mm aB cB d) 135) := ⟨hch.2.row hS8.1 (fun e => (ju HN6).1 e.symm), hch.2.row hS8.2 (fun e => by have := hS8.2; rw [e, hr68] at this; injection (Option.some.inj this) with _ h2; exact absurd h2 (by decide))⟩
 refine any_skp (i := 7) (w' := w8.setRow b6 (gc sq x8)) (by kernel_rfl) rfl rfl (stP_run (by rfl) (by go_simp) (by go_simp) hr68) ⟨hS9, ?_⟩
 refine any_do (i := 8) (v := .int .i64 0) (w' := w8.setRow b6 (gc sq x8)) (by kernel_rfl) rfl rfl (by go_simp) ⟨hS9, ?_⟩
 refine wpAnyH_done (by kernel_rfl) ?_ _
 simp [Act.put]
 go_wp2_with fail
 have hq6 := hb6.trans (hb7.trans hb8)
 have hbf := bel_off (hb5.drew.trans hq6) hch.2 (ju HN6).2
 exact bodyPost_ret (res2 (p := 6) (q := 7) rfl u31 (zP _ _) hch.1 _ _ rfl rfl) rfl ⟨_, rfl, hp8.box hr68 hch.2, ⟨hc8, hn8⟩, hbf⟩
theorem El.O.built {α : Type} {E : El α} (W : World) (x : α) : E.O W.heap.size (W.alloc (.cells (E.enc x).toArray E.e)) (.slice (some ⟨W.heap.size, 0, none⟩) 1 1) [x] := by
 have h1 : (E.fl [x]).length = 1 * E.k := by rw [E.fl_len]; rfl
 refine ⟨h1, Or.inr ⟨W.heap.size, 1, (E.enc x).toArray, rfl, Nat.le_refl _, at_new W _, Nat.le_refl _, by unfold maxLen; omega, by simp [E.len], ?_⟩⟩
 rw [E.fl_one]
 show List.take (1 * E.k) (E.enc x) = E.enc x
 rw [Nat.one_mul, ← E.len x, List.take_length]
theorem most_mem {l : List Int} (h : l ≠ []) : most l ∈ l := by
 have hl : 0 < l.length := List.length_pos_iff.2 h
 have hj : l.length / 2 < (srtD l).length := by rw [srtD_len]; omega
 unfold most
 rw [List.getD_eq_getElem?_getD, List.getElem?_eq_getElem hj, Option.getD_some]
 exact (srtD_perm l).mem_iff.1 (List.getElem_mem hj)
theorem most_ok {n T G : Nat} {s : PP} (h : Ok n T G s) : 0 ≤ most s.have ∧ most s.have ≤ s.log.length := by
 have hm := most_mem (l := s.have) (by simp [PP.have])
 unfold PP.have at hm ⊢
 rcases List.mem_cons.1 hm with e | hm
 ·rw [e]; unfold PP.lastI; omega
 ·obtain ⟨f, hf, e⟩ := List.mem_map.1 hm
  rcases h.role with h' | h' | h'
  ·rw [h'.2.2] at hf; cases hf
  ·rw [h'.2.2.2.2] at hf; cases hf
  ·have := h'.2.2.2.2.2.2 f hf
   omega
end Go.Proofs.YthekbhliokcpcaaGreat
