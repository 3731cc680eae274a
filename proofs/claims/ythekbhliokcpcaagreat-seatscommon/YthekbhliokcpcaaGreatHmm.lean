/- mayMembers, mayReads, mayFollows of any member. -/
import Derived.Test.YthekbhliokcpcaaGreatHbk
import Derived.Test.YthekbhliokcpcaaGreatHnm
import Derived.Test.YthekbhliokcpcaaGreatHlo
import Derived.Test.YthekbhliokcpcaaGreatMay
namespace Go.Proofs.YthekbhliokcpcaaGreat
open Go.RowKit Go.Maps Go.Sort
theorem quiet_ldg {C : World → Prop} {K : Act → Prop} {a : Act} {o : Oper} (s : GP) (x : Px) (b : Nat) (y : Operand) (ho : o.op = .load 31 y) (hx : a.eval y = .pointer (some ⟨b, 0, none⟩)) (hb : ∀ w, C w → w.heap[b]? = some (.cells (gc s x) 31)) (hk : K (a.put o.dst (.agg (gc s x)))) : o.quiet Tryz.prog a C K :=
  ⟨_, fun w hw => by
    have : (execOp a.eval o).run Tryz.prog w = .ok (.value (.agg (gc s x))) w := by
      unfold execOp
      simp only [ho, hx, Instr.loadAt, Instr.sureAddr, Sem.run_bind, Sem.run_pure, Result.andThen_ok, run_loadVar_row w b 31 31 _ (0, 0) _ (hb w hw) Tryz.underlying31 rfl (Tryz.sizeP s x)]
    unfold Oper.quietAt
    rw [this]
    exact ⟨rfl, rfl⟩, hk⟩
/-- The members of a member that may be. -/
def memB (s : GP) : Bool := (decide (0 < s.B.length) && aids 0 s.B) && decide (s.M = memOf s.B s.log)
set_option maxRecDepth 100000 in
set_option maxHeartbeats 2000000 in
theorem mems_g {W : World} {s : GP} {x : Px} (h : Gp W s x) (hM : s.M.length ≤ 17592186044416) (hB : s.B.length ≤ 17592186044416) (hl : s.log.length ≤ 1000000) (hc : s.log.length ≤ x.cL) : Calls Tryz.prog 105 #[.agg (gc s x)] W fun e w' => e = .returned (.bool (memB s)) ∧ Bel W w' := by
  obtain ⟨L, hL, hS, hG⟩ := h.l
  have hLn : L.length = s.log.length := by rw [← hL, List.length_map]
  have H1 : Hid (∀ W', Bel W W' → Calls Tryz.prog 152 #[.slice x.aB s.B.length x.cB] W' fun e w' => e = .returned (.bool (decide (0 < s.B.length) && aids 0 s.B)) ∧ Bel W' w') := hide (fun W' hb => (areMem_any (h.b.bel hb) x.cB (by omega)).mono (fun e w' ⟨he, hw⟩ => ⟨he, by rw [hw]; exact Bel.refl _⟩))
  obtain ⟨mx, hmx⟩ : ∃ mx, mx = memX (s.B, ⟨x.aB, x.cB⟩) L := ⟨_, rfl⟩
  have hmx1 : mx.1 = memOf s.B s.log := by rw [hmx, memX_of, hL]
  have H2 : Hid (∀ W', Bel W W' → Calls Tryz.prog 133 #[.agg (gc s x), .int .i64 s.log.length] W' fun e w' => e = .returned (.slice mx.2.a mx.1.length mx.2.c) ∧ Bel W' w') := hide (fun W' hb => by
    have := members_g hL (hS.bel hb) hl hc s.log.length (Nat.le_refl _)
    rwa [List.take_of_length_le (by omega), ← hmx] at this)
  have H3 : Hid (∀ W', Bel W W' → Calls Tryz.prog 113 #[.slice x.aM s.M.length x.cM, .slice mx.2.a mx.1.length mx.2.c] W' fun e w' => e = .returned (.bool (decide (s.M = mx.1))) ∧ Bel W' w') := hide (fun W' hb => equal_any (h.m.bel hb) (by have := memX_sl (s.B, ⟨x.aB, x.cB⟩) L (h.b.bel hb) (hG.bel hb); rwa [← hmx] at this) x.cM mx.2.c (by omega))
  unfold memB
  rw [← hmx1]
  clear h hM hB hl hc hL hS hG hLn hmx hmx1
  generalize decide (s.M = mx.1) = bm at *
  generalize (decide (0 < s.B.length) && aids 0 s.B) = bb at *
  cases bb with
  | true =>
    rw [Bool.true_and]
    go_enter Tryz.func105, Tryz.ntmps105
    go_wp2_with (first
      | (refine bx_box rfl 31 _ rfl (gc s x) rfl ?_; intro b w0 hr0 hs0 hb0; have HR0 := hide hr0; have HB0 := hide hb0; clear hr0 hs0 hb0))
    have y8 : ∀ p : BelBy w0, p.W.cell? ⟨b, 8, none⟩ = some (.slice x.aB s.B.length x.cB) := fun p => (Bg.of (p.h.row (unhide HR0))).c8
    have y1 : ∀ p : BelBy w0, p.W.cell? ⟨b, 1, none⟩ = some (.slice x.aM s.M.length x.cM) := fun p => (Bg.of (p.h.row (unhide HR0))).c1
    have y10 : ∀ p : BelBy w0, p.W.cell? ⟨b, 10, none⟩ = some (.slice x.aL s.log.length x.cL) := fun p => (Bg.of (p.h.row (unhide HR0))).c10
    have hne := BelBy.some w0
    refine wp_region_bel Tryz.follows (by kernel_rfl) ?_
    repeat (first
      | (go_big_quiet_want; refine quiet_ldg s x b _ rfl rfl (fun w hw => by obtain ⟨p, rfl⟩ := hw; exact p.h.row (unhide HR0)) ?_; simp only [Act.put, List.setIfInBounds_toArray, List.set_cons_zero, List.set_cons_succ]; go_big_quiet_on)
      | go_big_quiet_step (first
        | (go_at_call 152; refine calls_by ((unhide H1) _ ((unhide HB0).trans (BelBy.h _))))
        | (go_at_call 133; refine calls_by ((unhide H2) _ ((unhide HB0).trans (BelBy.h _))))
        | (go_at_call 113; refine calls_by ((unhide H3) _ ((unhide HB0).trans (BelBy.h _))))))
    refine wpQuiet_nil ?_
    rintro w' ⟨p, rfl⟩
    have HP := hide p.h
    generalize p.W = w1 at *
    clear y8 y1 y10
    go_wp2_with fail
    go_ret
    exact ⟨rfl, (unhide HB0).trans (unhide HP)⟩
  | false =>
    rw [Bool.false_and]
    go_enter Tryz.func105, Tryz.ntmps105
    go_wp2_with (first
      | (refine bx_box rfl 31 _ rfl (gc s x) rfl ?_; intro b w0 hr0 hs0 hb0; have HR0 := hide hr0; have HB0 := hide hb0; clear hr0 hs0 hb0))
    have y8 : ∀ p : BelBy w0, p.W.cell? ⟨b, 8, none⟩ = some (.slice x.aB s.B.length x.cB) := fun p => (Bg.of (p.h.row (unhide HR0))).c8
    have y1 : ∀ p : BelBy w0, p.W.cell? ⟨b, 1, none⟩ = some (.slice x.aM s.M.length x.cM) := fun p => (Bg.of (p.h.row (unhide HR0))).c1
    have y10 : ∀ p : BelBy w0, p.W.cell? ⟨b, 10, none⟩ = some (.slice x.aL s.log.length x.cL) := fun p => (Bg.of (p.h.row (unhide HR0))).c10
    have hne := BelBy.some w0
    refine wp_region_bel Tryz.follows (by kernel_rfl) ?_
    repeat (first
      | (go_big_quiet_want; refine quiet_ldg s x b _ rfl rfl (fun w hw => by obtain ⟨p, rfl⟩ := hw; exact p.h.row (unhide HR0)) ?_; simp only [Act.put, List.setIfInBounds_toArray, List.set_cons_zero, List.set_cons_succ]; go_big_quiet_on)
      | go_big_quiet_step (first
        | (go_at_call 152; refine calls_by ((unhide H1) _ ((unhide HB0).trans (BelBy.h _))))))
    refine wpQuiet_nil ?_
    rintro w' ⟨p, rfl⟩
    have HP := hide p.h
    generalize p.W = w1 at *
    clear y8 y1 y10
    go_wp2_with fail
    go_ret
    exact ⟨rfl, (unhide HB0).trans (unhide HP)⟩
end Go.Proofs.YthekbhliokcpcaaGreat
