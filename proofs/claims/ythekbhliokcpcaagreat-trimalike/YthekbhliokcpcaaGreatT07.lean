/- mayLog of any member. mayMembers, mayReads, mayFollows of any member. mayReads, mayStand of any member. -/
import Derived.Test.YthekbhliokcpcaaGreatT03
import Derived.Test.YthekbhliokcpcaaGreatT06
import Derived.Test.YthekbhliokcpcaaGreatT04
namespace Go.Proofs.YthekbhliokcpcaaGreat
open Go.RowKit Go.Maps
def logB (s : GP) : Bool := ((s.base == 0) == (s.baseT == 0)) && ((decide (0 < s.base) || s.snap.toList.isEmpty) && (decide (s.baseT ≤ s.term) && (mayEs s.baseT s.term s.log && (decide (s.base ≤ s.commit) && (decide (s.commit ≤ s.lastI))))))
set_option maxRecDepth 100000 in
set_option maxHeartbeats 8000000 in
theorem log_g {W : World} {s : GP} {x : Px} (h : SlG W x.aL s.log) (h0 : 0 ≤ s.base) (h1 : s.base ≤ 4611686018427387904) (hl : s.log.length ≤ 1000000) (hm : ∀ e ∈ s.log, e.m.length ≤ 17592186044416) : Calls Tryz.prog 104 #[.agg (gc s x)] W fun e w' => e = .returned (.bool (logB s)) ∧ Bel W w' := by
 have H1 : Hid (∀ W', Bel W W' → Calls Tryz.prog 79 #[.agg (gc s x)] W' fun e w' => e = .returned (.tuple #[.int .u64 s.lastI, .int .u64 s.lastT]) ∧ Bel W' w') := jd (fun W' hb => last_g (h.bel hb) h0 h1 hl)
 have H2 : Hid (∀ W', Bel W W' → Calls Tryz.prog 151 #[.slice x.aL s.log.length x.cL, .int .u64 s.baseT, .int .u64 s.term] W' fun e w' => e = .returned (.bool (mayEs s.baseT s.term s.log)) ∧ Bel W' w') := jd (fun W' hb => by
  obtain ⟨L, hL, hS, hG⟩ := h
  have := mayEntries_any (hS.bel hb) (hG.bel hb) x.cL s.baseT s.term (by rw [← hL, List.length_map] at hl; omega) (fun y hy => by have := hm _ (by rw [← hL]; exact List.mem_map_of_mem hy); omega)
  rwa [hL, show L.length = s.log.length by rw [← hL, List.length_map]] at this)
 have h0' : ¬ (s.base < 0) := by omega
 clear h h1 hl hm
 generalize hI : s.lastI = i at *
 generalize s.lastT = t at *
 unfold logB
 rw [hI]
 clear hI
 generalize hE : mayEs s.baseT s.term s.log = es at *
 clear hE
 cases e0 : (s.base == 0) with
 | false =>
  cases e1 : (s.baseT == 0) with
  | false =>
   rw [show ((false : Bool) == false) = true from rfl, Bool.true_and]
   have hp : 0 < s.base := by have := beq_eq_false_iff_ne.1 e0; omega
   rw [decide_eq_true hp, Bool.true_or, Bool.true_and]
   by_cases q2 : s.baseT ≤ s.term
   ·rw [decide_eq_true q2, Bool.true_and]
    cases es with
    | false =>
     rw [Bool.false_and]
     go_enter Tryz.func104, Tryz.ntmps104
     go_wp2_with (first
      | go_skip
      | go_guarded
      | (refine bx_box rfl 31 _ rfl (gc s x) rfl ?_; intro b w0 hr0 hs0 hb0; have HR0 := jd hr0; have HB0 := jd hb0; clear hr0 hs0 hb0)
      | (refine bx_ld rfl 31 _ rfl b rfl (gc s x) _ (ju HR0) u31 (zP s x) ?_)
      | (go_at_call 79; refine ((ju H1) _ (ju HB0)).mono ?_; rintro e w1 ⟨rfl, hb1⟩; obtain ⟨y0, y1, y2, y3, y4, y5, y6, y7, y8, y9, y10, y11, y12, y13, y14, y15, y16, y17⟩ := Bg.of (hb1.row (ju HR0)); have HB1 := jd ((ju HB0).trans hb1); clear hb1)
      | (go_at_call 151; refine ((ju H2) _ (ju HB1)).mono ?_; rintro e w2 ⟨rfl, hb2⟩; have y26 := hb2.cell y6; have y211 := hb2.cell y11; have HB1 := jd ((ju HB1).trans hb2); clear hb2))
     go_ret
     exact ⟨rfl, ju HB1⟩
    | true =>
     rw [Bool.true_and]
     by_cases q4 : s.base ≤ s.commit
     ·rw [decide_eq_true q4, Bool.true_and]
      go_enter Tryz.func104, Tryz.ntmps104
      go_wp2_with (first
       | go_skip
       | go_guarded
       | (refine bx_box rfl 31 _ rfl (gc s x) rfl ?_; intro b w0 hr0 hs0 hb0; have HR0 := jd hr0; have HB0 := jd hb0; clear hr0 hs0 hb0)
       | (refine bx_ld rfl 31 _ rfl b rfl (gc s x) _ (ju HR0) u31 (zP s x) ?_)
       | (go_at_call 79; refine ((ju H1) _ (ju HB0)).mono ?_; rintro e w1 ⟨rfl, hb1⟩; obtain ⟨y0, y1, y2, y3, y4, y5, y6, y7, y8, y9, y10, y11, y12, y13, y14, y15, y16, y17⟩ := Bg.of (hb1.row (ju HR0)); have HB1 := jd ((ju HB0).trans hb1); clear hb1)
       | (go_at_call 151; refine ((ju H2) _ (ju HB1)).mono ?_; rintro e w2 ⟨rfl, hb2⟩; have y26 := hb2.cell y6; have y211 := hb2.cell y11; have HB1 := jd ((ju HB1).trans hb2); clear hb2))
      go_ret
      exact ⟨rfl, ju HB1⟩
     ·rw [decide_eq_false q4, Bool.false_and]
      go_enter Tryz.func104, Tryz.ntmps104
      go_wp2_with (first
       | go_skip
       | go_guarded
       | (refine bx_box rfl 31 _ rfl (gc s x) rfl ?_; intro b w0 hr0 hs0 hb0; have HR0 := jd hr0; have HB0 := jd hb0; clear hr0 hs0 hb0)
       | (refine bx_ld rfl 31 _ rfl b rfl (gc s x) _ (ju HR0) u31 (zP s x) ?_)
       | (go_at_call 79; refine ((ju H1) _ (ju HB0)).mono ?_; rintro e w1 ⟨rfl, hb1⟩; obtain ⟨y0, y1, y2, y3, y4, y5, y6, y7, y8, y9, y10, y11, y12, y13, y14, y15, y16, y17⟩ := Bg.of (hb1.row (ju HR0)); have HB1 := jd ((ju HB0).trans hb1); clear hb1)
       | (go_at_call 151; refine ((ju H2) _ (ju HB1)).mono ?_; rintro e w2 ⟨rfl, hb2⟩; have y26 := hb2.cell y6; have y211 := hb2.cell y11; have HB1 := jd ((ju HB1).trans hb2); clear hb2))
      go_ret
      exact ⟨rfl, ju HB1⟩
   ·rw [decide_eq_false q2, Bool.false_and]
    go_enter Tryz.func104, Tryz.ntmps104
    go_wp2_with (first
     | go_skip
     | go_guarded
     | (refine bx_box rfl 31 _ rfl (gc s x) rfl ?_; intro b w0 hr0 hs0 hb0; have HR0 := jd hr0; have HB0 := jd hb0; clear hr0 hs0 hb0)
     | (refine bx_ld rfl 31 _ rfl b rfl (gc s x) _ (ju HR0) u31 (zP s x) ?_)
     | (go_at_call 79; refine ((ju H1) _ (ju HB0)).mono ?_; rintro e w1 ⟨rfl, hb1⟩; obtain ⟨y0, y1, y2, y3, y4, y5, y6, y7, y8, y9, y10, y11, y12, y13, y14, y15, y16, y17⟩ := Bg.of (hb1.row (ju HR0)); have HB1 := jd ((ju HB0).trans hb1); clear hb1)
     | (go_at_call 151; refine ((ju H2) _ (ju HB1)).mono ?_; rintro e w2 ⟨rfl, hb2⟩; have y26 := hb2.cell y6; have y211 := hb2.cell y11; have HB1 := jd ((ju HB1).trans hb2); clear hb2))
    go_ret
    exact ⟨rfl, ju HB1⟩
  | true =>
   rw [show ((false : Bool) == true) = false from rfl, Bool.false_and]
   go_enter Tryz.func104, Tryz.ntmps104
   go_wp2_with (first
    | go_skip
    | go_guarded
    | (refine bx_box rfl 31 _ rfl (gc s x) rfl ?_; intro b w0 hr0 hs0 hb0; have HR0 := jd hr0; have HB0 := jd hb0; clear hr0 hs0 hb0)
    | (refine bx_ld rfl 31 _ rfl b rfl (gc s x) _ (ju HR0) u31 (zP s x) ?_)
    | (go_at_call 79; refine ((ju H1) _ (ju HB0)).mono ?_; rintro e w1 ⟨rfl, hb1⟩; obtain ⟨y0, y1, y2, y3, y4, y5, y6, y7, y8, y9, y10, y11, y12, y13, y14, y15, y16, y17⟩ := Bg.of (hb1.row (ju HR0)); have HB1 := jd ((ju HB0).trans hb1); clear hb1)
    | (go_at_call 151; refine ((ju H2) _ (ju HB1)).mono ?_; rintro e w2 ⟨rfl, hb2⟩; have y26 := hb2.cell y6; have y211 := hb2.cell y11; have HB1 := jd ((ju HB1).trans hb2); clear hb2))
   go_ret
   exact ⟨rfl, ju HB1⟩
 | true =>
  cases e1 : (s.baseT == 0) with
  | false =>
   rw [show ((true : Bool) == false) = false from rfl, Bool.false_and]
   go_enter Tryz.func104, Tryz.ntmps104
   go_wp2_with (first
    | go_skip
    | go_guarded
    | (refine bx_box rfl 31 _ rfl (gc s x) rfl ?_; intro b w0 hr0 hs0 hb0; have HR0 := jd hr0; have HB0 := jd hb0; clear hr0 hs0 hb0)
    | (refine bx_ld rfl 31 _ rfl b rfl (gc s x) _ (ju HR0) u31 (zP s x) ?_)
    | (go_at_call 79; refine ((ju H1) _ (ju HB0)).mono ?_; rintro e w1 ⟨rfl, hb1⟩; obtain ⟨y0, y1, y2, y3, y4, y5, y6, y7, y8, y9, y10, y11, y12, y13, y14, y15, y16, y17⟩ := Bg.of (hb1.row (ju HR0)); have HB1 := jd ((ju HB0).trans hb1); clear hb1)
    | (go_at_call 151; refine ((ju H2) _ (ju HB1)).mono ?_; rintro e w2 ⟨rfl, hb2⟩; have y26 := hb2.cell y6; have y211 := hb2.cell y11; have HB1 := jd ((ju HB1).trans hb2); clear hb2))
   go_ret
   exact ⟨rfl, ju HB1⟩
  | true =>
   rw [show ((true : Bool) == true) = true from rfl, Bool.true_and]
   have hp : ¬ 0 < s.base := by have := eq_of_beq e0; omega
   rw [decide_eq_false hp, Bool.false_or]
   cases e2 : s.snap.toList.isEmpty with
   | false =>
    rw [Bool.false_and]
    go_enter Tryz.func104, Tryz.ntmps104
    go_wp2_with (first
     | go_skip
     | go_guarded
     | (refine bx_box rfl 31 _ rfl (gc s x) rfl ?_; intro b w0 hr0 hs0 hb0; have HR0 := jd hr0; have HB0 := jd hb0; clear hr0 hs0 hb0)
     | (refine bx_ld rfl 31 _ rfl b rfl (gc s x) _ (ju HR0) u31 (zP s x) ?_)
     | (go_at_call 79; refine ((ju H1) _ (ju HB0)).mono ?_; rintro e w1 ⟨rfl, hb1⟩; obtain ⟨y0, y1, y2, y3, y4, y5, y6, y7, y8, y9, y10, y11, y12, y13, y14, y15, y16, y17⟩ := Bg.of (hb1.row (ju HR0)); have HB1 := jd ((ju HB0).trans hb1); clear hb1)
     | (go_at_call 151; refine ((ju H2) _ (ju HB1)).mono ?_; rintro e w2 ⟨rfl, hb2⟩; have y26 := hb2.cell y6; have y211 := hb2.cell y11; have HB1 := jd ((ju HB1).trans hb2); clear hb2))
    go_ret
    exact ⟨rfl, ju HB1⟩
   | true =>
    rw [Bool.true_and]
    by_cases q2 : s.baseT ≤ s.term
    ·rw [decide_eq_true q2, Bool.true_and]
     cases es with
     | false =>
      rw [Bool.false_and]
      go_enter Tryz.func104, Tryz.ntmps104
      go_wp2_with (first
       | go_skip
       | go_guarded
       | (refine bx_box rfl 31 _ rfl (gc s x) rfl ?_; intro b w0 hr0 hs0 hb0; have HR0 := jd hr0; have HB0 := jd hb0; clear hr0 hs0 hb0)
       | (refine bx_ld rfl 31 _ rfl b rfl (gc s x) _ (ju HR0) u31 (zP s x) ?_)
       | (go_at_call 79; refine ((ju H1) _ (ju HB0)).mono ?_; rintro e w1 ⟨rfl, hb1⟩; obtain ⟨y0, y1, y2, y3, y4, y5, y6, y7, y8, y9, y10, y11, y12, y13, y14, y15, y16, y17⟩ := Bg.of (hb1.row (ju HR0)); have HB1 := jd ((ju HB0).trans hb1); clear hb1)
       | (go_at_call 151; refine ((ju H2) _ (ju HB1)).mono ?_; rintro e w2 ⟨rfl, hb2⟩; have y26 := hb2.cell y6; have y211 := hb2.cell y11; have HB1 := jd ((ju HB1).trans hb2); clear hb2))
      go_ret
      exact ⟨rfl, ju HB1⟩
     | true =>
      rw [Bool.true_and]
      by_cases q4 : s.base ≤ s.commit
      ·rw [decide_eq_true q4, Bool.true_and]
       go_enter Tryz.func104, Tryz.ntmps104
       go_wp2_with (first
        | go_skip
        | go_guarded
        | (refine bx_box rfl 31 _ rfl (gc s x) rfl ?_; intro b w0 hr0 hs0 hb0; have HR0 := jd hr0; have HB0 := jd hb0; clear hr0 hs0 hb0)
        | (refine bx_ld rfl 31 _ rfl b rfl (gc s x) _ (ju HR0) u31 (zP s x) ?_)
        | (go_at_call 79; refine ((ju H1) _ (ju HB0)).mono ?_; rintro e w1 ⟨rfl, hb1⟩; obtain ⟨y0, y1, y2, y3, y4, y5, y6, y7, y8, y9, y10, y11, y12, y13, y14, y15, y16, y17⟩ := Bg.of (hb1.row (ju HR0)); have HB1 := jd ((ju HB0).trans hb1); clear hb1)
        | (go_at_call 151; refine ((ju H2) _ (ju HB1)).mono ?_; rintro e w2 ⟨rfl, hb2⟩; have y26 := hb2.cell y6; have y211 := hb2.cell y11; have HB1 := jd ((ju HB1).trans hb2); clear hb2))
       go_ret
       exact ⟨rfl, ju HB1⟩
      ·rw [decide_eq_false q4, Bool.false_and]
       go_enter Tryz.func104, Tryz.ntmps104
       go_wp2_with (first
        | go_skip
        | go_guarded
        | (refine bx_box rfl 31 _ rfl (gc s x) rfl ?_; intro b w0 hr0 hs0 hb0; have HR0 := jd hr0; have HB0 := jd hb0; clear hr0 hs0 hb0)
        | (refine bx_ld rfl 31 _ rfl b rfl (gc s x) _ (ju HR0) u31 (zP s x) ?_)
        | (go_at_call 79; refine ((ju H1) _ (ju HB0)).mono ?_; rintro e w1 ⟨rfl, hb1⟩; obtain ⟨y0, y1, y2, y3, y4, y5, y6, y7, y8, y9, y10, y11, y12, y13, y14, y15, y16, y17⟩ := Bg.of (hb1.row (ju HR0)); have HB1 := jd ((ju HB0).trans hb1); clear hb1)
        | (go_at_call 151; refine ((ju H2) _ (ju HB1)).mono ?_; rintro e w2 ⟨rfl, hb2⟩; have y26 := hb2.cell y6; have y211 := hb2.cell y11; have HB1 := jd ((ju HB1).trans hb2); clear hb2))
       go_ret
       exact ⟨rfl, ju HB1⟩
    ·rw [decide_eq_false q2, Bool.false_and]
     go_enter Tryz.func104, Tryz.ntmps104
     go_wp2_with (first
      | go_skip
      | go_guarded
      | (refine bx_box rfl 31 _ rfl (gc s x) rfl ?_; intro b w0 hr0 hs0 hb0; have HR0 := jd hr0; have HB0 := jd hb0; clear hr0 hs0 hb0)
      | (refine bx_ld rfl 31 _ rfl b rfl (gc s x) _ (ju HR0) u31 (zP s x) ?_)
      | (go_at_call 79; refine ((ju H1) _ (ju HB0)).mono ?_; rintro e w1 ⟨rfl, hb1⟩; obtain ⟨y0, y1, y2, y3, y4, y5, y6, y7, y8, y9, y10, y11, y12, y13, y14, y15, y16, y17⟩ := Bg.of (hb1.row (ju HR0)); have HB1 := jd ((ju HB0).trans hb1); clear hb1)
      | (go_at_call 151; refine ((ju H2) _ (ju HB1)).mono ?_; rintro e w2 ⟨rfl, hb2⟩; have y26 := hb2.cell y6; have y211 := hb2.cell y11; have HB1 := jd ((ju HB1).trans hb2); clear hb2))
     go_ret
     exact ⟨rfl, ju HB1⟩
end Go.Proofs.YthekbhliokcpcaaGreat
namespace Go.Proofs.YthekbhliokcpcaaGreat
open Go.RowKit Go.Maps Go.Sort
theorem quiet_ldg {C : World → Prop} {K : Act → Prop} {a : Act} {o : Oper} (s : GP) (x : Px) (b : Nat) (y : Operand) (ho : o.op = .load 31 y) (hx : a.eval y = .pointer (some ⟨b, 0, none⟩)) (hb : ∀ w, C w → w.heap[b]? = some (.cells (gc s x) 31)) (hk : K (a.put o.dst (.agg (gc s x)))) : o.quiet Tryz.prog a C K :=
 ⟨_, fun w hw => by
  have : (execOp a.eval o).run Tryz.prog w = .ok (.value (.agg (gc s x))) w := by
   unfold execOp
   simp only [ho, hx, Instr.loadAt, Instr.sureAddr, Sem.run_bind, Sem.run_pure, Result.andThen_ok, run_loadVar_row w b 31 31 _ (0, 0) _ (hb w hw) u31 rfl (zP s x)]
  unfold Oper.quietAt
  rw [this]
  exact ⟨rfl, rfl⟩, hk⟩
def memB (s : GP) : Bool := (decide (0 < s.B.length) && aids 0 s.B) && decide (s.M = memOf s.B s.log)
set_option maxRecDepth 100000 in
set_option maxHeartbeats 2000000 in
theorem mems_g {W : World} {s : GP} {x : Px} (h : Gp W s x) (hM : s.M.length ≤ 17592186044416) (hB : s.B.length ≤ 17592186044416) (hl : s.log.length ≤ 1000000) (hc : s.log.length ≤ x.cL) : Calls Tryz.prog 105 #[.agg (gc s x)] W fun e w' => e = .returned (.bool (memB s)) ∧ Bel W w' := by
 obtain ⟨L, hL, hS, hG⟩ := h.l
 have hLn : L.length = s.log.length := by rw [← hL, List.length_map]
 have H1 : Hid (∀ W', Bel W W' → Calls Tryz.prog 152 #[.slice x.aB s.B.length x.cB] W' fun e w' => e = .returned (.bool (decide (0 < s.B.length) && aids 0 s.B)) ∧ Bel W' w') := jd (fun W' hb => (areMem_any (h.b.bel hb) x.cB (by omega)).mono (fun e w' ⟨he, hw⟩ => ⟨he, by rw [hw]; exact Bel.refl _⟩))
 obtain ⟨mx, hmx⟩ : ∃ mx, mx = memX (s.B, ⟨x.aB, x.cB⟩) L := ⟨_, rfl⟩
 have hmx1 : mx.1 = memOf s.B s.log := by rw [hmx, memX_of, hL]
 have H2 : Hid (∀ W', Bel W W' → Calls Tryz.prog 133 #[.agg (gc s x), .int .i64 s.log.length] W' fun e w' => e = .returned (.slice mx.2.a mx.1.length mx.2.c) ∧ Bel W' w') := jd (fun W' hb => by
  have := members_g hL (hS.bel hb) hl hc s.log.length (Nat.le_refl _)
  rwa [List.take_of_length_le (by omega), ← hmx] at this)
 have H3 : Hid (∀ W', Bel W W' → Calls Tryz.prog 113 #[.slice x.aM s.M.length x.cM, .slice mx.2.a mx.1.length mx.2.c] W' fun e w' => e = .returned (.bool (decide (s.M = mx.1))) ∧ Bel W' w') := jd (fun W' hb => equal_any (h.m.bel hb) (by have := memX_sl (s.B, ⟨x.aB, x.cB⟩) L (h.b.bel hb) (hG.bel hb); rwa [← hmx] at this) x.cM mx.2.c (by omega))
 unfold memB
 rw [← hmx1]
 clear h hM hB hl hc hL hS hG hLn hmx hmx1
 generalize decide (s.M = mx.1) = bm at *
 generalize (decide (0 < s.B.length) && aids 0 s.B) = bb at *
 cases bb with
 | true =>
  rw [Bool.true_and]
  go_enter Tryz.func105, Tryz.ntmps105
  go_wp2_with (first
   | (refine bx_box rfl 31 _ rfl (gc s x) rfl ?_; intro b w0 hr0 hs0 hb0; have HR0 := jd hr0; have HB0 := jd hb0; clear hr0 hs0 hb0))
  have y8 : ∀ p : BelBy w0, p.W.cell? ⟨b, 8, none⟩ = some (.slice x.aB s.B.length x.cB) := fun p => (Bg.of (p.h.row (ju HR0))).c8
  have y1 : ∀ p : BelBy w0, p.W.cell? ⟨b, 1, none⟩ = some (.slice x.aM s.M.length x.cM) := fun p => (Bg.of (p.h.row (ju HR0))).c1
  have y10 : ∀ p : BelBy w0, p.W.cell? ⟨b, 10, none⟩ = some (.slice x.aL s.log.length x.cL) := fun p => (Bg.of (p.h.row (ju HR0))).c10
  have hne := BelBy.some w0
  refine wp_region_bel Tryz.follows (by kernel_rfl) ?_
  repeat (first
   | (go_big_quiet_want; refine quiet_ldg s x b _ rfl rfl (fun w hw => by obtain ⟨p, rfl⟩ := hw; exact p.h.row (ju HR0)) ?_; simp only [Act.put, List.setIfInBounds_toArray, List.set_cons_zero, List.set_cons_succ]; go_big_quiet_on)
   | go_big_quiet_step (first
    | (go_at_call 152; refine calls_by ((ju H1) _ ((ju HB0).trans (BelBy.h _))))
    | (go_at_call 133; refine calls_by ((ju H2) _ ((ju HB0).trans (BelBy.h _))))
    | (go_at_call 113; refine calls_by ((ju H3) _ ((ju HB0).trans (BelBy.h _))))))
  refine wpQuiet_nil ?_
  rintro w' ⟨p, rfl⟩
  have HP := jd p.h
  generalize p.W = w1 at *
  clear y8 y1 y10
  go_wp2_with fail
  go_ret
  exact ⟨rfl, (ju HB0).trans (ju HP)⟩
 | false =>
  rw [Bool.false_and]
  go_enter Tryz.func105, Tryz.ntmps105
  go_wp2_with (first
   | (refine bx_box rfl 31 _ rfl (gc s x) rfl ?_; intro b w0 hr0 hs0 hb0; have HR0 := jd hr0; have HB0 := jd hb0; clear hr0 hs0 hb0))
  have y8 : ∀ p : BelBy w0, p.W.cell? ⟨b, 8, none⟩ = some (.slice x.aB s.B.length x.cB) := fun p => (Bg.of (p.h.row (ju HR0))).c8
  have y1 : ∀ p : BelBy w0, p.W.cell? ⟨b, 1, none⟩ = some (.slice x.aM s.M.length x.cM) := fun p => (Bg.of (p.h.row (ju HR0))).c1
  have y10 : ∀ p : BelBy w0, p.W.cell? ⟨b, 10, none⟩ = some (.slice x.aL s.log.length x.cL) := fun p => (Bg.of (p.h.row (ju HR0))).c10
  have hne := BelBy.some w0
  refine wp_region_bel Tryz.follows (by kernel_rfl) ?_
  repeat (first
   | (go_big_quiet_want; refine quiet_ldg s x b _ rfl rfl (fun w hw => by obtain ⟨p, rfl⟩ := hw; exact p.h.row (ju HR0)) ?_; simp only [Act.put, List.setIfInBounds_toArray, List.set_cons_zero, List.set_cons_succ]; go_big_quiet_on)
   | go_big_quiet_step (first
    | (go_at_call 152; refine calls_by ((ju H1) _ ((ju HB0).trans (BelBy.h _))))))
  refine wpQuiet_nil ?_
  rintro w' ⟨p, rfl⟩
  have HP := jd p.h
  generalize p.W = w1 at *
  clear y8 y1 y10
  go_wp2_with fail
  go_ret
  exact ⟨rfl, (ju HB0).trans (ju HP)⟩
def reasB (round commit : Int) : Option Int → List GR → Bool
 | _, [] => true
 | p, r :: l => (match p with | none => true | some q => !decide (r.r ≤ q)) && ((!decide (round < r.r) && !decide (commit < r.i) && aids 0 r.a) && reasB round commit (some r.r) l)
def reaB (s : GP) : Bool := reasB s.round s.commit none s.reads
def prevX (L : List (GR × GA)) : Nat → Option Int
 | 0 => none
 | k + 1 => (L[k]?).map (·.1.r)
theorem prevX_succ (L : List (GR × GA)) (k : Nat) : prevX L (k + 1) = (L[k]?).map (·.1.r) := rfl
set_option maxRecDepth 100000 in
set_option maxHeartbeats 8000000 in
theorem reads_g {W : World} {s : GP} {x : Px} (h : SlR W x.aR s.reads) (hl : s.reads.length ≤ 1000000) (ha : ∀ r ∈ s.reads, r.a.length ≤ 17592186044416) : Calls Tryz.prog 190 #[.agg (gc s x)] W fun e w' => e = .returned (.bool (reaB s)) ∧ Bel W w' := by
 obtain ⟨aR, hxr⟩ : ∃ a, a = x.aR := ⟨_, rfl⟩
 rw [← hxr] at h
 have HXR := jd hxr
 clear hxr
 obtain ⟨L, hL, ⟨g, off, hg, hR⟩, hG⟩ := h
 have hLn : L.length = s.reads.length := by rw [← hL, List.length_map]
 have HA : Hid (∀ (y : GR × GA) (w' : World), y ∈ L → Bel W w' → Calls Tryz.prog 188 #[.slice y.2.a y.1.a.length y.2.c] w' fun e w'' => e = .returned (.bool (aids 0 y.1.a)) ∧ w'' = w') := jd (fun y w' hy hb => areIds_any ((hG y hy).bel hb) y.2.c (by have := ha _ (by rw [← hL]; exact List.mem_map_of_mem hy); omega))
 unfold reaB
 generalize hrn : s.reads.length = rn at *
 have HG := jd hg
 have HR := jd hR
 have HL := jd hL
 have HLN := jd hLn
 clear hg hR hG ha hL hLn
 go_enter Tryz.func190, Tryz.ntmps190
 go_wp2_with (first
  | (refine bx_box rfl 31 _ rfl (gc s x) rfl ?_; intro b w0 hr0 hs0 hb0; have y17 := (Bg.of hr0).c17; rw [hrn, ← ju HXR] at y17; have HR0 := jd hr0; have HB0 := jd hb0; clear hr0 hs0 hb0))
 clear hrn
 go_loopw [8] (fun vk wr => ∃ k : Nat, k ≤ rn ∧ vk = .int .i64 k ∧ Hid (Bel w0 wr) ∧ Hid (reasB s.round s.commit none s.reads = reasB s.round s.commit (prevX L k) ((L.drop k).map (·.1)))) (fun vk _ => rn - (intOf vk).toNat)
 case atStart => exact ⟨0, Nat.zero_le _, rfl, jd (Bel.refl _), jd (by rw [← ju HL]; rfl)⟩
 case round =>
  obtain ⟨k, hk, rfl, HB, HE⟩ := hrel
  by_cases hlt : k < rn
  ·have hkl : k < L.length := by rw [ju HLN]; exact hlt
   obtain rfl := (ju HG) (by rw [ju HLN]; omega)
   have hkn : (k : Int) < rn := by omega
   have z17 := (ju HB).cell y17
   have z16 := (ju HB).cell (Bg.of (ju HR0)).c16
   have z11 := (ju HB).cell (Bg.of (ju HR0)).c11
   obtain ⟨r0, r1, r2⟩ := ER_cell (ju HR) k hkl
   have r0 := ((ju HB0).trans (ju HB)).cell r0
   have r1 := ((ju HB0).trans (ju HB)).cell r1
   have r2 := ((ju HB0).trans (ju HB)).cell r2
   have HA2 : Hid (∀ w', Bel wr w' → Calls Tryz.prog 188 #[.slice L[k].2.a L[k].1.a.length L[k].2.c] w' fun e w'' => e = .returned (.bool (aids 0 L[k].1.a)) ∧ w'' = w') := jd (fun w' hb => (ju HA) L[k] w' (List.getElem_mem hkl) (((ju HB0).trans (ju HB)).trans hb))
   have HYK : Hid (L[k]? = some L[k]) := jd (List.getElem?_eq_getElem hkl)
   have HD : Hid (∀ p, reasB s.round s.commit p ((L.drop k).map (·.1)) = ((match p with | none => true | some q => !decide (L[k].1.r ≤ q)) && ((!decide (s.round < L[k].1.r) && !decide (s.commit < L[k].1.i) && aids 0 L[k].1.a) && reasB s.round s.commit (some L[k].1.r) ((L.drop (k + 1)).map (·.1))))) := jd (fun p => by rw [List.drop_eq_getElem_cons hkl]; rfl)
   have HK := jd hkl
   clear y17
   have HPV : Hid (∀ j, k = j + 1 → ∃ q, prevX L k = some q ∧ wr.cell? ⟨g, off + j * 3, none⟩ = some (.int .u64 q)) := jd (fun j e => by
    have hjl : j < L.length := by have := ju HK; omega
    refine ⟨L[j].1.r, ?_, ((ju HB0).trans (ju HB)).cell (ER_cell (ju HR) j hjl).1⟩
    rw [e, prevX_succ, List.getElem?_eq_getElem hjl]; rfl)
   generalize L[k] = y at *
   obtain ⟨⟨yr, yi, ya⟩, ax, cx⟩ := y
   simp only at r0 r1 r2 HA2 HD HYK
   generalize aids 0 ya = ba at *
   generalize ya.length = yn at *
   rcases Nat.eq_zero_or_pos k with hk0 | hk0
   ·subst hk0
    have HP : prevX L 0 = none := rfl
    replace HD := jd ((ju HD) (prevX L 0))
    rw [HP] at HD HE
    have HD2 : Hid (reasB s.round s.commit none ((L.drop 0).map (·.1)) = ((!decide (s.round < yr) && !decide (s.commit < yi) && ba) && reasB s.round s.commit (some yr) ((L.drop (0 + 1)).map (·.1)))) := jd (by rw [ju HD]; simp)
    simp only [Nat.zero_mul, Nat.add_zero] at r0 r1 r2
    by_cases c1 : s.round < yr
    ·have HF : Hid (reasB s.round s.commit none s.reads = false) := jd (by rw [ju HE, ju HD2]; simp [c1])
     go_wp2_with fail
     go_quiet (fail)
     have hbn : Bel wr ((wr.alloc (.cells #[.int .u64 yr, .int .u64 yi, .slice ax yn cx] 104)).drewN nq) := ((Bel.refl _).alloc _).drewN _
     have hrz : ((wr.alloc (.cells #[.int .u64 yr, .int .u64 yi, .slice ax yn cx] 104)).drewN nq).heap[wr.heap.size]? = some (.cells #[.int .u64 yr, .int .u64 yi, .slice ax yn cx] 104) := at_new wr _
     generalize ((wr.alloc (.cells #[.int .u64 yr, .int .u64 yi, .slice ax yn cx] 104)).drewN nq) = wz at *
     generalize wr.heap.size = bz at *
     have q0 : wz.cell? ⟨bz, 0, none⟩ = some (.int .u64 yr) := cell_of hrz
     have q1 : wz.cell? ⟨bz, 1, none⟩ = some (.int .u64 yi) := cell_of hrz
     have q2 : wz.cell? ⟨bz, 2, none⟩ = some (.slice ax yn cx) := cell_of hrz
     have q16 := hbn.cell z16
     have q11 := hbn.cell z11
     have HBN := jd hbn
     clear hbn hrz
     go_wp2_with (first
      | (go_at_call 188; refine (ju HA2 _ (ju HBN)).mono ?_; rintro e w9 ⟨rfl, hw9⟩; rw [hw9]; clear hw9))
     go_ret
     exact ⟨by rw [ju HF]; rfl, (ju HB0).trans ((ju HB).trans (ju HBN))⟩
    ·by_cases c2 : s.commit < yi
     ·have HF : Hid (reasB s.round s.commit none s.reads = false) := jd (by rw [ju HE, ju HD2]; simp [c2])
      go_wp2_with fail
      go_quiet (fail)
      have hbn : Bel wr ((wr.alloc (.cells #[.int .u64 yr, .int .u64 yi, .slice ax yn cx] 104)).drewN nq) := ((Bel.refl _).alloc _).drewN _
      have hrz : ((wr.alloc (.cells #[.int .u64 yr, .int .u64 yi, .slice ax yn cx] 104)).drewN nq).heap[wr.heap.size]? = some (.cells #[.int .u64 yr, .int .u64 yi, .slice ax yn cx] 104) := at_new wr _
      generalize ((wr.alloc (.cells #[.int .u64 yr, .int .u64 yi, .slice ax yn cx] 104)).drewN nq) = wz at *
      generalize wr.heap.size = bz at *
      have q0 : wz.cell? ⟨bz, 0, none⟩ = some (.int .u64 yr) := cell_of hrz
      have q1 : wz.cell? ⟨bz, 1, none⟩ = some (.int .u64 yi) := cell_of hrz
      have q2 : wz.cell? ⟨bz, 2, none⟩ = some (.slice ax yn cx) := cell_of hrz
      have q16 := hbn.cell z16
      have q11 := hbn.cell z11
      have HBN := jd hbn
      clear hbn hrz
      go_wp2_with (first
       | (go_at_call 188; refine (ju HA2 _ (ju HBN)).mono ?_; rintro e w9 ⟨rfl, hw9⟩; rw [hw9]; clear hw9))
      go_ret
      exact ⟨by rw [ju HF]; rfl, (ju HB0).trans ((ju HB).trans (ju HBN))⟩
     ·cases ba with
      | false =>
       have HF : Hid (reasB s.round s.commit none s.reads = false) := jd (by rw [ju HE, ju HD2]; simp)
       go_wp2_with fail
       go_quiet (fail)
       have hbn : Bel wr ((wr.alloc (.cells #[.int .u64 yr, .int .u64 yi, .slice ax yn cx] 104)).drewN nq) := ((Bel.refl _).alloc _).drewN _
       have hrz : ((wr.alloc (.cells #[.int .u64 yr, .int .u64 yi, .slice ax yn cx] 104)).drewN nq).heap[wr.heap.size]? = some (.cells #[.int .u64 yr, .int .u64 yi, .slice ax yn cx] 104) := at_new wr _
       generalize ((wr.alloc (.cells #[.int .u64 yr, .int .u64 yi, .slice ax yn cx] 104)).drewN nq) = wz at *
       generalize wr.heap.size = bz at *
       have q0 : wz.cell? ⟨bz, 0, none⟩ = some (.int .u64 yr) := cell_of hrz
       have q1 : wz.cell? ⟨bz, 1, none⟩ = some (.int .u64 yi) := cell_of hrz
       have q2 : wz.cell? ⟨bz, 2, none⟩ = some (.slice ax yn cx) := cell_of hrz
       have q16 := hbn.cell z16
       have q11 := hbn.cell z11
       have HBN := jd hbn
       clear hbn hrz
       go_wp2_with (first
        | (go_at_call 188; refine (ju HA2 _ (ju HBN)).mono ?_; rintro e w9 ⟨rfl, hw9⟩; rw [hw9]; clear hw9))
       go_ret
       exact ⟨by rw [ju HF]; rfl, (ju HB0).trans ((ju HB).trans (ju HBN))⟩
      | true =>
       have HF : Hid (reasB s.round s.commit none s.reads = reasB s.round s.commit (some yr) ((L.drop (0 + 1)).map (·.1))) := jd (by rw [ju HE, ju HD2]; simp [c1, c2])
       go_wp2_with fail
       go_quiet (fail)
       have hbn : Bel wr ((wr.alloc (.cells #[.int .u64 yr, .int .u64 yi, .slice ax yn cx] 104)).drewN nq) := ((Bel.refl _).alloc _).drewN _
       have hrz : ((wr.alloc (.cells #[.int .u64 yr, .int .u64 yi, .slice ax yn cx] 104)).drewN nq).heap[wr.heap.size]? = some (.cells #[.int .u64 yr, .int .u64 yi, .slice ax yn cx] 104) := at_new wr _
       generalize ((wr.alloc (.cells #[.int .u64 yr, .int .u64 yi, .slice ax yn cx] 104)).drewN nq) = wz at *
       generalize wr.heap.size = bz at *
       have q0 : wz.cell? ⟨bz, 0, none⟩ = some (.int .u64 yr) := cell_of hrz
       have q1 : wz.cell? ⟨bz, 1, none⟩ = some (.int .u64 yi) := cell_of hrz
       have q2 : wz.cell? ⟨bz, 2, none⟩ = some (.slice ax yn cx) := cell_of hrz
       have q16 := hbn.cell z16
       have q11 := hbn.cell z11
       have HBN := jd hbn
       clear hbn hrz
       go_wp2_with (first
        | (go_at_call 188; refine (ju HA2 _ (ju HBN)).mono ?_; rintro e w9 ⟨rfl, hw9⟩; rw [hw9]; clear hw9))
       go_roundw
       case rel => exact ⟨0 + 1, by omega, by go_num, jd ((ju HB).trans (ju HBN)), jd (by rw [ju HF, prevX_succ, ju HYK]; rfl)⟩
       case measure => simp [intOf]; omega
   ·obtain ⟨j, rfl⟩ : ∃ j, k = j + 1 := ⟨k - 1, by omega⟩
    obtain ⟨q, HP, rq⟩ := (ju HPV) j rfl
    replace HD := jd ((ju HD) (prevX L (j + 1)))
    rw [HP] at HD HE
    have hjw : IntKind.i64.wrap (((j + 1 : Nat) : Int) - 1) = (j : Int) := by rw [show (((j + 1 : Nat) : Int) - 1) = (j : Int) by omega]; exact wrapI (by omega) (by omega)
    have hjn : (j : Int) < rn := by omega
    have z17a := ((Bel.refl wr).alloc (.cells #[.int .u64 yr, .int .u64 yi, .slice ax yn cx] 104)).cell z17
    have rqa := ((Bel.refl wr).alloc (.cells #[.int .u64 yr, .int .u64 yi, .slice ax yn cx] 104)).cell rq
    have hj0 : (0 : Int) < ((j + 1 : Nat) : Int) := by omega
    have hjj : (0 : Int) ≤ (j : Int) := by omega
    by_cases c0 : yr ≤ q
    ·have HF : Hid (reasB s.round s.commit none s.reads = false) := jd (by rw [ju HE, ju HD]; simp [c0])
     go_wp2_with fail
     go_quiet (fail)
     go_wp2_with fail
     go_ret
     exact ⟨by rw [ju HF]; rfl, (ju HB0).trans (((ju HB).alloc _).drewN _)⟩
    ·have HD2 : Hid (reasB s.round s.commit (some q) ((L.drop (j + 1)).map (·.1)) = ((!decide (s.round < yr) && !decide (s.commit < yi) && ba) && reasB s.round s.commit (some yr) ((L.drop (j + 1 + 1)).map (·.1)))) := jd (by rw [ju HD]; simp [c0])
     by_cases c1 : s.round < yr
     ·have HF : Hid (reasB s.round s.commit none s.reads = false) := jd (by rw [ju HE, ju HD2]; simp [c1])
      go_wp2_with fail
      go_quiet (fail)
      have hbn : Bel wr ((wr.alloc (.cells #[.int .u64 yr, .int .u64 yi, .slice ax yn cx] 104)).drewN nq) := ((Bel.refl _).alloc _).drewN _
      have hrz : ((wr.alloc (.cells #[.int .u64 yr, .int .u64 yi, .slice ax yn cx] 104)).drewN nq).heap[wr.heap.size]? = some (.cells #[.int .u64 yr, .int .u64 yi, .slice ax yn cx] 104) := at_new wr _
      generalize ((wr.alloc (.cells #[.int .u64 yr, .int .u64 yi, .slice ax yn cx] 104)).drewN nq) = wz at *
      generalize wr.heap.size = bz at *
      have q0 : wz.cell? ⟨bz, 0, none⟩ = some (.int .u64 yr) := cell_of hrz
      have q1 : wz.cell? ⟨bz, 1, none⟩ = some (.int .u64 yi) := cell_of hrz
      have q2 : wz.cell? ⟨bz, 2, none⟩ = some (.slice ax yn cx) := cell_of hrz
      have q16 := hbn.cell z16
      have q11 := hbn.cell z11
      have HBN := jd hbn
      clear hbn hrz
      go_wp2_with (first
       | (go_at_call 188; refine (ju HA2 _ (ju HBN)).mono ?_; rintro e w9 ⟨rfl, hw9⟩; rw [hw9]; clear hw9))
      go_ret
      exact ⟨by rw [ju HF]; rfl, (ju HB0).trans ((ju HB).trans (ju HBN))⟩
     ·by_cases c2 : s.commit < yi
      ·have HF : Hid (reasB s.round s.commit none s.reads = false) := jd (by rw [ju HE, ju HD2]; simp [c2])
       go_wp2_with fail
       go_quiet (fail)
       have hbn : Bel wr ((wr.alloc (.cells #[.int .u64 yr, .int .u64 yi, .slice ax yn cx] 104)).drewN nq) := ((Bel.refl _).alloc _).drewN _
       have hrz : ((wr.alloc (.cells #[.int .u64 yr, .int .u64 yi, .slice ax yn cx] 104)).drewN nq).heap[wr.heap.size]? = some (.cells #[.int .u64 yr, .int .u64 yi, .slice ax yn cx] 104) := at_new wr _
       generalize ((wr.alloc (.cells #[.int .u64 yr, .int .u64 yi, .slice ax yn cx] 104)).drewN nq) = wz at *
       generalize wr.heap.size = bz at *
       have q0 : wz.cell? ⟨bz, 0, none⟩ = some (.int .u64 yr) := cell_of hrz
       have q1 : wz.cell? ⟨bz, 1, none⟩ = some (.int .u64 yi) := cell_of hrz
       have q2 : wz.cell? ⟨bz, 2, none⟩ = some (.slice ax yn cx) := cell_of hrz
       have q16 := hbn.cell z16
       have q11 := hbn.cell z11
       have HBN := jd hbn
       clear hbn hrz
       go_wp2_with (first
        | (go_at_call 188; refine (ju HA2 _ (ju HBN)).mono ?_; rintro e w9 ⟨rfl, hw9⟩; rw [hw9]; clear hw9))
       go_ret
       exact ⟨by rw [ju HF]; rfl, (ju HB0).trans ((ju HB).trans (ju HBN))⟩
      ·cases ba with
       | false =>
        have HF : Hid (reasB s.round s.commit none s.reads = false) := jd (by rw [ju HE, ju HD2]; simp)
        go_wp2_with fail
        go_quiet (fail)
        have hbn : Bel wr ((wr.alloc (.cells #[.int .u64 yr, .int .u64 yi, .slice ax yn cx] 104)).drewN nq) := ((Bel.refl _).alloc _).drewN _
        have hrz : ((wr.alloc (.cells #[.int .u64 yr, .int .u64 yi, .slice ax yn cx] 104)).drewN nq).heap[wr.heap.size]? = some (.cells #[.int .u64 yr, .int .u64 yi, .slice ax yn cx] 104) := at_new wr _
        generalize ((wr.alloc (.cells #[.int .u64 yr, .int .u64 yi, .slice ax yn cx] 104)).drewN nq) = wz at *
        generalize wr.heap.size = bz at *
        have q0 : wz.cell? ⟨bz, 0, none⟩ = some (.int .u64 yr) := cell_of hrz
        have q1 : wz.cell? ⟨bz, 1, none⟩ = some (.int .u64 yi) := cell_of hrz
        have q2 : wz.cell? ⟨bz, 2, none⟩ = some (.slice ax yn cx) := cell_of hrz
        have q16 := hbn.cell z16
        have q11 := hbn.cell z11
        have HBN := jd hbn
        clear hbn hrz
        go_wp2_with (first
         | (go_at_call 188; refine (ju HA2 _ (ju HBN)).mono ?_; rintro e w9 ⟨rfl, hw9⟩; rw [hw9]; clear hw9))
        go_ret
        exact ⟨by rw [ju HF]; rfl, (ju HB0).trans ((ju HB).trans (ju HBN))⟩
       | true =>
        have HF : Hid (reasB s.round s.commit none s.reads = reasB s.round s.commit (some yr) ((L.drop (j + 1 + 1)).map (·.1))) := jd (by rw [ju HE, ju HD2]; simp [c1, c2])
        go_wp2_with fail
        go_quiet (fail)
        have hbn : Bel wr ((wr.alloc (.cells #[.int .u64 yr, .int .u64 yi, .slice ax yn cx] 104)).drewN nq) := ((Bel.refl _).alloc _).drewN _
        have hrz : ((wr.alloc (.cells #[.int .u64 yr, .int .u64 yi, .slice ax yn cx] 104)).drewN nq).heap[wr.heap.size]? = some (.cells #[.int .u64 yr, .int .u64 yi, .slice ax yn cx] 104) := at_new wr _
        generalize ((wr.alloc (.cells #[.int .u64 yr, .int .u64 yi, .slice ax yn cx] 104)).drewN nq) = wz at *
        generalize wr.heap.size = bz at *
        have q0 : wz.cell? ⟨bz, 0, none⟩ = some (.int .u64 yr) := cell_of hrz
        have q1 : wz.cell? ⟨bz, 1, none⟩ = some (.int .u64 yi) := cell_of hrz
        have q2 : wz.cell? ⟨bz, 2, none⟩ = some (.slice ax yn cx) := cell_of hrz
        have q16 := hbn.cell z16
        have q11 := hbn.cell z11
        have HBN := jd hbn
        clear hbn hrz
        go_wp2_with (first
         | (go_at_call 188; refine (ju HA2 _ (ju HBN)).mono ?_; rintro e w9 ⟨rfl, hw9⟩; rw [hw9]; clear hw9))
        go_roundw
        case rel => exact ⟨j + 1 + 1, by omega, by go_num, jd ((ju HB).trans (ju HBN)), jd (by rw [ju HF, prevX_succ, ju HYK]; rfl)⟩
        case measure => simp [intOf]; omega
  ·obtain rfl : k = rn := by omega
   have HF : Hid (reasB s.round s.commit none s.reads = true) := jd (by rw [ju HE, List.drop_of_length_le (by rw [ju HLN]; omega)]; rfl)
   go_wp2_with fail
   go_ret
   exact ⟨by rw [ju HF]; rfl, (ju HB0).trans (ju HB)⟩
set_option maxRecDepth 100000 in
theorem nomem_g {W : World} {b : Nat} {s : GP} {x : Px} (hb : W.heap[b]? = some (.cells (gc s x) 31)) (h : Sl E3 W x.aM s.M) (hn : s.M.length ≤ 17592186044416) (y : Int) : Calls Tryz.prog 192 #[.int .i64 y, .pointer (some ⟨b, 0, none⟩)] W fun e w' => e = .returned (.bool (!decide (y ∈ s.M))) ∧ w' = W := by
 have HC : Hid (Calls Tryz.prog 82 #[.slice x.aM s.M.length x.cM, .int .i64 y] W fun e w' => e = .returned (.bool (decide (y ∈ s.M))) ∧ w' = W) := jd (contains_any h x.cM y (by omega))
 have y1 := (Bg.of hb).c1
 generalize decide (y ∈ s.M) = bm at *
 clear hb h hn
 go_enter Tryz.func192, Tryz.ntmps192
 go_wp2_with (first
  | (go_at_call 82; refine (ju HC).mono ?_; rintro e w9 ⟨rfl, hw9⟩; rw [hw9]; clear hw9))
 go_ret
 exact ⟨rfl, rfl⟩
set_option maxRecDepth 100000 in
set_option maxHeartbeats 1000000 in
theorem idxf_g {W : World} {a : Option Addr} {l : List Int} {b : Nat} {s : GP} {x : Px} (hb : W.heap[b]? = some (.cells (gc s x) 31)) (hm : Sl E3 W x.aM s.M) (hn : s.M.length ≤ 17592186044416) (h : Sl E3 W a l) (cap : Nat) (hl : l.length ≤ 17592186044416) : Calls Tryz.prog 143 #[.slice a l.length cap, .func (.func 192) #[] #[.pointer (some ⟨b, 0, none⟩)]] W fun e w' => ∃ i, e = .returned (.int .i64 i) ∧ (0 ≤ i ↔ (l.any fun v => !decide (v ∈ s.M)) = true) ∧ w' = W := by
 obtain ⟨g, off, hg, hR⟩ := h
 have HC : Hid (∀ (y : Int) (c : Bool), (!decide (y ∈ s.M)) = c → Calls Tryz.prog 192 #[.int .i64 y, .pointer (some ⟨b, 0, none⟩)] W fun e w' => e = .returned (.bool c) ∧ w' = W) := jd (fun y c hc => by rw [← hc]; exact nomem_g hb hm hn y)
 generalize hn2 : l.length = m at *
 have HN := jd hn2
 have HG := jd hg
 have HR := jd hR
 clear hn2 hg hR hb hm hn
 go_enter Tryz.func143, Tryz.ntmps143
 go_wp2_with fail
 go_loopw [8] (fun vk wr => ∃ (k : Nat), k ≤ m ∧ vk = .int .i64 k ∧ wr = W ∧ Hid ((l.any fun v => !decide (v ∈ s.M)) = ((l.drop k).any fun v => !decide (v ∈ s.M)))) (fun vk _ => m - (intOf vk).toNat)
 case atStart => exact ⟨0, Nat.zero_le _, rfl, rfl, jd rfl⟩
 case round =>
  obtain ⟨k, hk, rfl, rfl, HE⟩ := hrel
  by_cases hlt : k < m
  ·have hkl : k < l.length := by rw [ju HN]; exact hlt
   obtain rfl := (ju HG) (by omega)
   have hkn : (k : Int) < m := by omega
   have r0 := E3_cell (ju HR) k hkl
   have HD : Hid (((l.drop k).any fun v => !decide (v ∈ s.M)) = ((!decide (l[k] ∈ s.M)) || ((l.drop (k + 1)).any fun v => !decide (v ∈ s.M)))) := jd (by rw [List.drop_eq_getElem_cons hkl]; rfl)
   generalize l[k] = y at *
   have HC2 := jd ((ju HC) y)
   cases hd : (!decide (y ∈ s.M)) with
   | true =>
    have HC3 := jd ((ju HC2) true hd)
    have HF : Hid ((l.any fun v => !decide (v ∈ s.M)) = true) := jd (by rw [ju HE, ju HD, hd]; rfl)
    clear hd
    go_wp2_with (first
     | (go_at_call 192; refine (ju HC3).mono ?_; rintro e w9 ⟨rfl, hw9⟩; rw [hw9]; clear hw9))
    go_ret
    exact ⟨_, rfl, ⟨fun _ => ju HF, fun _ => by omega⟩, rfl⟩
   | false =>
    have HC3 := jd ((ju HC2) false hd)
    have HF : Hid ((l.any fun v => !decide (v ∈ s.M)) = ((l.drop (k + 1)).any fun v => !decide (v ∈ s.M))) := jd (by rw [ju HE, ju HD, hd]; rfl)
    clear hd
    go_wp2_with (first
     | (go_at_call 192; refine (ju HC3).mono ?_; rintro e w9 ⟨rfl, hw9⟩; rw [hw9]; clear hw9))
    go_roundw
    case rel => exact ⟨k + 1, by omega, by go_num, by trivial, HF⟩
    case measure => simp [intOf]; omega
  ·obtain rfl : k = m := by omega
   have HF : Hid ((l.any fun v => !decide (v ∈ s.M)) = false) := jd (by rw [ju HE, List.drop_of_length_le (by rw [ju HN]; omega)]; rfl)
   go_wp2_with fail
   go_ret
   exact ⟨_, rfl, ⟨fun h => absurd h (by decide), fun h => by rw [ju HF] at h; exact absurd h (by decide)⟩, rfl⟩
set_option maxRecDepth 100000 in
theorem contf_g {W : World} {a : Option Addr} {l : List Int} {b : Nat} {s : GP} {x : Px} (hb : W.heap[b]? = some (.cells (gc s x) 31)) (hm : Sl E3 W x.aM s.M) (hn : s.M.length ≤ 17592186044416) (h : Sl E3 W a l) (cap : Nat) (hl : l.length ≤ 17592186044416) : Calls Tryz.prog 191 #[.slice a l.length cap, .func (.func 192) #[] #[.pointer (some ⟨b, 0, none⟩)]] W fun e w' => e = .returned (.bool (l.any fun v => !decide (v ∈ s.M))) ∧ w' = W := by
 have HC := jd (idxf_g hb hm hn h cap hl)
 clear hb hm hn h hl
 generalize (l.any fun v => !decide (v ∈ s.M)) = bm at *
 generalize l.length = n at *
 cases bm with
 | true =>
  go_enter Tryz.func191, Tryz.ntmps191
  go_wp2_with (first
   | (go_at_call 143; refine (ju HC).mono ?_; rintro e w9 ⟨i, rfl, hi, hw9⟩; rw [hw9]; clear hw9; have hi2 : 0 ≤ i := hi.2 rfl; clear hi))
  go_ret
  exact ⟨rfl, rfl⟩
 | false =>
  go_enter Tryz.func191, Tryz.ntmps191
  go_wp2_with (first
   | (go_at_call 143; refine (ju HC).mono ?_; rintro e w9 ⟨i, rfl, hi, hw9⟩; rw [hw9]; clear hw9; have hi2 : ¬ (0 ≤ i) := fun h => absurd (hi.1 h) (by decide); clear hi))
  go_ret
  exact ⟨by have e : decide (0 ≤ i) = false := decide_eq_false (by omega); rw [← e]; rfl, rfl⟩
set_option maxRecDepth 100000 in
theorem seated_g {W : World} {s : GP} {x : Px} (h : Sl E3 W x.aM s.M) (hn : s.M.length ≤ 17592186044416) : Calls Tryz.prog 128 #[.agg (gc s x)] W fun e w' => e = .returned (.bool (decide (s.id ∈ s.M))) ∧ Bel W w' := by
 have HC : Hid (∀ w1, Bel W w1 → Calls Tryz.prog 82 #[.slice x.aM s.M.length x.cM, .int .i64 s.id] w1 fun e w' => e = .returned (.bool (decide (s.id ∈ s.M))) ∧ w' = w1) := jd (fun w1 hb => contains_any (h.bel hb) x.cM s.id (by omega))
 clear h hn
 generalize decide (s.id ∈ s.M) = bm at *
 go_enter Tryz.func128, Tryz.ntmps128
 go_wp2_with (first
  | (refine bx_box rfl 31 _ rfl (gc s x) rfl ?_; intro b w0 hr0 hs0 hb0; obtain ⟨y0, y1, y2, y3, y4, y5, y6, y7, y8, y9, y10, y11, y12, y13, y14, y15, y16, y17⟩ := Bg.of hr0; have HB0 := jd hb0; clear hr0 hs0 hb0)
  | (go_at_call 82; refine ((ju HC) _ (ju HB0)).mono ?_; rintro e w9 ⟨rfl, hw9⟩; rw [hw9]; clear hw9))
 go_ret
 exact ⟨rfl, ju HB0⟩
end Go.Proofs.YthekbhliokcpcaaGreat
