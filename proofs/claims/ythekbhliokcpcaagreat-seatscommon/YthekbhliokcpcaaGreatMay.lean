/- May of members that may be. -/
import Derived.Test.YthekbhliokcpcaaGreatRol
namespace Go.Proofs.YthekbhliokcpcaaGreat
open Go.RowKit Go.Maps Go.Sort
theorem quiet_ld {C : World → Prop} {K : Act → Prop} {a : Act} {o : Oper} (n : Nat) (s : PP) (x : Px) (b : Nat) (y : Operand) (ho : o.op = .load 31 y) (hx : a.eval y = .pointer (some ⟨b, 0, none⟩)) (hb : ∀ w, C w → w.heap[b]? = some (.cells (pc n s x) 31)) (hk : K (a.put o.dst (.agg (pc n s x)))) : o.quiet Tryz.prog a C K :=
  ⟨_, fun w hw => by
    have : (execOp a.eval o).run Tryz.prog w = .ok (.value (.agg (pc n s x))) w := by
      unfold execOp
      simp only [ho, hx, Instr.loadAt, Instr.sureAddr, Sem.run_bind, Sem.run_pure, Result.andThen_ok, run_loadVar_row w b 31 31 _ (0, 0) _ (hb w hw) Tryz.underlying31 rfl (Tryz.size32 n s x)]
    unfold Oper.quietAt
    rw [this]
    exact ⟨rfl, rfl⟩, hk⟩
set_option maxRecDepth 100000 in
set_option maxHeartbeats 1000000 in
theorem mems_ok {W : World} {n : Nat} {s : PP} {x : Px} (h : Pw W n s x) (hk2 : ∀ e ∈ s.log, e.k ≠ 2) (hn : n ≤ 64) (h1 : 1 ≤ n) (hl : s.log.length ≤ 999999) (hc : s.log.length ≤ x.cL) : Calls Tryz.prog 105 #[.agg (pc n s x)] W fun e w' => e = .returned (.bool true) ∧ Bel W w' := by
  have H1 : Hid (∀ W', Bel W W' → Calls Tryz.prog 152 #[.slice x.aB n x.cB] W' fun e w' => e = .returned (.bool true) ∧ Bel W' w') := hide (fun W' hb => by
    have := areMem_any (h.b.bel hb) x.cB (by rw [mem_len]; omega)
    rw [mem_len, mem_aids hn, decide_eq_true (by omega : 0 < n)] at this
    exact this.mono (fun e w' ⟨he, hw⟩ => ⟨he, by rw [hw]; exact Bel.refl _⟩))
  have H2 : Hid (∀ W', Bel W W' → Calls Tryz.prog 133 #[.agg (pc n s x), .int .i64 s.log.length] W' fun e w' => e = .returned (.slice x.aB n x.cB) ∧ Bel W' w') := hide (fun W' hb => members_any (h.l.bel hb) hk2 (by omega) hc)
  have H3 : Hid (∀ W', Bel W W' → Calls Tryz.prog 113 #[.slice x.aM n x.cM, .slice x.aB n x.cB] W' fun e w' => e = .returned (.bool true) ∧ Bel W' w') := hide (fun W' hb => by
    have := equal_any (h.m.bel hb) (h.b.bel hb) x.cM x.cB (by rw [mem_len]; omega)
    rwa [mem_len, decide_eq_true rfl] at this)
  clear h hk2 hn h1 hl hc
  go_enter Tryz.func105, Tryz.ntmps105
  go_wp2_with (first
    | (refine bx_box rfl 31 _ rfl (pc n s x) rfl ?_; intro b w0 hr0 hs0 hb0; have HR0 := hide hr0; have HB0 := hide hb0; clear hr0 hs0 hb0))
  have y8 : ∀ p : BelBy w0, p.W.cell? ⟨b, 8, none⟩ = some (.slice x.aB n x.cB) := fun p => (Bx.of (p.h.row (unhide HR0))).c8
  have y1 : ∀ p : BelBy w0, p.W.cell? ⟨b, 1, none⟩ = some (.slice x.aM n x.cM) := fun p => (Bx.of (p.h.row (unhide HR0))).c1
  have y10 : ∀ p : BelBy w0, p.W.cell? ⟨b, 10, none⟩ = some (.slice x.aL s.log.length x.cL) := fun p => (Bx.of (p.h.row (unhide HR0))).c10
  have hne := BelBy.some w0
  refine wp_region_bel Tryz.follows (by kernel_rfl) ?_
  repeat (first
    | (go_big_quiet_want; refine quiet_ld n s x b _ rfl rfl (fun w hw => by obtain ⟨p, rfl⟩ := hw; exact p.h.row (unhide HR0)) ?_; simp only [Act.put, List.setIfInBounds_toArray, List.set_cons_zero, List.set_cons_succ]; go_big_quiet_on)
    | go_big_quiet_step (first
      | (go_at_call 152; refine calls_by ((unhide H1) _ ((unhide HB0).trans (BelBy.h _))))
      | (go_at_call 133; refine calls_by ((unhide H2) _ ((unhide HB0).trans (BelBy.h _))))
      | (go_at_call 113; refine calls_by ((unhide H3) _ ((unhide HB0).trans (BelBy.h _))))))
  refine wpQuiet_nil ?_
  rintro w' ⟨p, rfl⟩
  have HP := hide p.h
  generalize p.W = w1 at *
  clear y8 y1 y10
  go_wp2_with fail
  go_ret
  exact ⟨rfl, (unhide HB0).trans (unhide HP)⟩
set_option maxRecDepth 100000 in
set_option maxHeartbeats 1000000 in
theorem role_ok {W : World} {n T G : Nat} {s : PP} {x : Px} (h : Pw W n s x) (hok : Ok n T G s) (hn : n ≤ 64) (hG : G ≤ 999999) : Calls Tryz.prog 106 #[.agg (pc n s x)] W fun e w' => e = .returned (.bool true) ∧ Bel W w' := by
  have hid : s.id ∈ mem n := mem_iff.2 ⟨hok.id1, hok.idn⟩
  have h1 : 1 ≤ n := by have := hok.id1; have := hok.idn; omega
  have hgl := hok.glen
  rcases hok.role with ⟨r0, r1, r2⟩ | ⟨r0, r1, r2, r3, r4⟩ | ⟨r0, r1, r2, r3, r4, r5, r6⟩
  · have e1 : (s.role == 2) = false := by simp [r0]
    have e2 : (s.role == 1) = false := by simp [r0]
    have e3 : s.fol.length = 0 := by rw [r2]; rfl
    have e4 : s.votes.length = 0 := by rw [r1]; rfl
    clear h hok hn hG hid h1 hgl r0 r1 r2
    go_enter Tryz.func106, Tryz.ntmps106
    go_wp2_with (first
      | (refine bx_box rfl 31 _ rfl (pc n s x) rfl ?_; intro b w0 hr0 hs0 hb0; obtain ⟨y0, y1, y2, y3, y4, y5, y6, y7, y8, y9, y10, y11, y12, y13, y14, y15, y16, y17⟩ := Bx.of hr0; rw [e3] at y15; rw [e4] at y14; have HB0 := hide hb0; clear hr0 hs0 hb0))
    go_ret
    exact ⟨rfl, unhide HB0⟩
  · have e1 : (s.role == 2) = false := by simp [r0]
    have e2 : (s.role == 1) = true := by simp [r0]
    have e3 : s.fol.length = 0 := by rw [r4]; rfl
    have H1 : Hid (∀ W', Bel W W' → Calls Tryz.prog 154 #[.agg (pc n s x)] W' fun e w' => e = .returned (.bool true) ∧ Bel W' w') := hide (fun W' hb => stand_ok (h.bel hb) hn hid r1 r2 hok.vr hok.vm r3)
    clear h hok hn hG hid h1 hgl r0 r1 r2 r3 r4
    go_enter Tryz.func106, Tryz.ntmps106
    go_wp2_with (first
      | (refine bx_box rfl 31 _ rfl (pc n s x) rfl ?_; intro b w0 hr0 hs0 hb0; obtain ⟨y0, y1, y2, y3, y4, y5, y6, y7, y8, y9, y10, y11, y12, y13, y14, y15, y16, y17⟩ := Bx.of hr0; rw [e3] at y15; have HR0 := hide hr0; have HB0 := hide hb0; clear hr0 hs0 hb0)
      | (refine bx_ldG rfl 31 _ rfl b rfl (pc n s x) _ (unhide HR0) Tryz.underlying31 (Tryz.size32 n s x) ?_)
      | (go_at_call 154; refine ((unhide H1) _ (unhide HB0)).mono ?_; rintro e w1 ⟨rfl, hb1⟩; have HB1 := hide ((unhide HB0).trans hb1); clear hb1))
    go_ret
    exact ⟨rfl, unhide HB1⟩
  · have e1 : (s.role == 2) = true := by simp [r0]
    have H1 : Hid (∀ W', Bel W W' → Calls Tryz.prog 153 #[.agg (pc n s x)] W' fun e w' => e = .returned (.bool true) ∧ Bel W' w') := hide (fun W' hb => lead_ok (h.bel hb) hn h1 (by omega) r1 r2 r3 r5 r6)
    clear h hok hn hG hid h1 hgl r0 r1 r2 r3 r4 r5 r6
    go_enter Tryz.func106, Tryz.ntmps106
    go_wp2_with (first
      | (refine bx_box rfl 31 _ rfl (pc n s x) rfl ?_; intro b w0 hr0 hs0 hb0; obtain ⟨y0, y1, y2, y3, y4, y5, y6, y7, y8, y9, y10, y11, y12, y13, y14, y15, y16, y17⟩ := Bx.of hr0; have HR0 := hide hr0; have HB0 := hide hb0; clear hr0 hs0 hb0)
      | (refine bx_ldG rfl 31 _ rfl b rfl (pc n s x) _ (unhide HR0) Tryz.underlying31 (Tryz.size32 n s x) ?_)
      | (go_at_call 153; refine ((unhide H1) _ (unhide HB0)).mono ?_; rintro e w1 ⟨rfl, hb1⟩; have HB1 := hide ((unhide HB0).trans hb1); clear hb1))
    go_ret
    exact ⟨rfl, unhide HB1⟩
set_option maxRecDepth 100000 in
set_option maxHeartbeats 1000000 in
theorem may_ok {W : World} {n T G : Nat} {s : PP} {x : Px} (h : Pw W n s x) (hok : Ok n T G s) (hn : n ≤ 64) (hT : T ≤ 1000000) (hG : G ≤ 999999) (hc : s.log.length ≤ x.cL) : Calls Tryz.prog 42 #[.agg (pc n s x)] W fun e w' => e = .returned (.int .i64 0) ∧ Bel W w' := by
  have h1 : 1 ≤ n := by have := hok.id1; have := hok.idn; omega
  have hgl := hok.glen
  have H1 : Hid (∀ W', Calls Tryz.prog 103 #[.agg (pc n s x)] W' fun e w' => e = .returned (.bool true) ∧ Bel W' w') := hide (fun W' => numbers_ok x hok hn hT)
  have H2 : Hid (∀ W', Bel W W' → Calls Tryz.prog 104 #[.agg (pc n s x)] W' fun e w' => e = .returned (.bool true) ∧ Bel W' w') := hide (fun W' hb => log_ok (h.l.bel hb) hok (by omega))
  have H3 : Hid (∀ W', Bel W W' → Calls Tryz.prog 105 #[.agg (pc n s x)] W' fun e w' => e = .returned (.bool true) ∧ Bel W' w') := hide (fun W' hb => mems_ok (h.bel hb) hok.k2 hn h1 (by omega) hc)
  have H4 : Hid (∀ W', Bel W W' → Calls Tryz.prog 106 #[.agg (pc n s x)] W' fun e w' => e = .returned (.bool true) ∧ Bel W' w') := hide (fun W' hb => role_ok (h.bel hb) hok hn hG)
  clear h hok hn hT hG hc h1 hgl
  go_enter Tryz.func42, Tryz.ntmps42
  go_wp2_with (first
    | (refine bx_box rfl 31 _ rfl (pc n s x) rfl ?_; intro b w0 hr0 hs0 hb0; have HR0 := hide hr0; have HB0 := hide hb0; clear hr0 hs0 hb0)
    | (refine bx_ldG rfl 31 _ rfl b rfl (pc n s x) _ (unhide HR0) Tryz.underlying31 (Tryz.size32 n s x) ?_)
    | (go_at_call 103; refine ((unhide H1) _).mono ?_; rintro e w1 ⟨rfl, hb1⟩; replace HR0 := hide (hb1.row (unhide HR0)); replace HB0 := hide ((unhide HB0).trans hb1); clear hb1)
    | (go_at_call 104; refine ((unhide H2) _ (unhide HB0)).mono ?_; rintro e w2 ⟨rfl, hb1⟩; replace HR0 := hide (hb1.row (unhide HR0)); replace HB0 := hide ((unhide HB0).trans hb1); clear hb1)
    | (go_at_call 105; refine ((unhide H3) _ (unhide HB0)).mono ?_; rintro e w3 ⟨rfl, hb1⟩; replace HR0 := hide (hb1.row (unhide HR0)); replace HB0 := hide ((unhide HB0).trans hb1); clear hb1)
    | (go_at_call 106; refine ((unhide H4) _ (unhide HB0)).mono ?_; rintro e w4 ⟨rfl, hb1⟩; replace HR0 := hide (hb1.row (unhide HR0)); replace HB0 := hide ((unhide HB0).trans hb1); clear hb1))
  go_ret
  exact ⟨rfl, unhide HB0⟩
end Go.Proofs.YthekbhliokcpcaaGreat
