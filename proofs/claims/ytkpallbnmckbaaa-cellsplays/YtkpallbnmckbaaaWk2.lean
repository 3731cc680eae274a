/- walk: its ways through. -/
import Derived.Test.YtkpallbnmckbaaaWlk
import Derived.Deep.DrawnRows
namespace Go.Proofs.Ytkpallbnmckbaaa
open Go.RowKit
attribute [local go_sem ↓] Go.wp_at_zero Go.wp_at_succ
set_option maxRecDepth 100000 in
set_option maxHeartbeats 2000000 in
theorem walk_b2 {σ : Type} {W0 : World} {B fn : Nat} {caps : Array Value} {J : σ → World → Prop} {bd : σ → C} {st : σ → C → σ × Bool} {q : σ → Nat} {N : Nat} (hv : Vis W0 B fn caps J bd st q N)
    {nb : Nat} {lv rv : Value} {x : C} (hn : N6 W0 nb x lv rv)
    (s : σ) (W : World) (hJ : J s W) (hc : ¬ cmpC x (bd s) < 0) {s1 : σ} {b1 : Bool}
    (ihl : ∀ W, J s W → Calls Try.prog 30 #[lv, .pointer (some ⟨B, 0, none⟩), .func (.func fn) #[] caps] W fun e w' => e = .returned (.bool b1) ∧ J s1 w') (hb : b1 = true) (hc' : cmpC x (bd s1) < 0) {r : σ × Bool}
    (ih : ∀ W, J s1 W → Calls Try.prog 30 #[rv, .pointer (some ⟨B, 0, none⟩), .func (.func fn) #[] caps] W fun e w' => e = .returned (.bool r.2) ∧ J r.1 w') :
    Calls Try.prog 30 #[.pointer (some ⟨nb, 0, none⟩), .pointer (some ⟨B, 0, none⟩), .func (.func fn) #[] caps] W fun e w' => e = .returned (.bool r.2) ∧ J r.1 w' := by
  obtain ⟨xk, xt, xd, xv⟩ := x
  have hfu := Try.follows
  have hen : ∀ (args : Array Value) (W : World), (callFunc fn args).run Try.prog W = .ok (.enter fn args) W := hv.en
  subst hb
  obtain ⟨⟨bk, bt, bdd, bv⟩, hbd⟩ : ∃ y, bd s = y := ⟨_, rfl⟩
  rw [hbd] at hc
  obtain ⟨z, hz⟩ : ∃ z, cmpC (xk, xt, xd, xv) (bk, bt, bdd, bv) = z := ⟨_, rfl⟩
  have C21 := hide (cmpv (xk, xt, xd, xv) (bk, bt, bdd, bv) z hz)
  rw [hz] at hc
  obtain ⟨⟨bk', bt', bdd', bv'⟩, hbd'⟩ : ∃ y, bd s1 = y := ⟨_, rfl⟩
  rw [hbd'] at hc'
  obtain ⟨z', hz'⟩ : ∃ z, cmpC (xk, xt, xd, xv) (bk', bt', bdd', bv') = z := ⟨_, rfl⟩
  have C21' := hide (cmpv (xk, xt, xd, xv) (bk', bt', bdd', bv') z' hz')
  rw [hz'] at hc'
  have IHL := hide ihl
  have HJ := hide hJ
  have HV := hide hv
  have HN := hide hn
  have hb4 := hv.bnd s W hJ
  rw [hbd] at hb4
  have hd : decide (0 ≤ z) = true := by simp; omega
  have hnW := hn.bel (hv.old s W hJ)
  obtain ⟨e0, e1, e2, e3⟩ : N4 W.drew B (bk, bt, bdd, bv) := hb4
  obtain ⟨f0, f1, f2, f3⟩ : N4 W.drew nb (xk, xt, xd, xv) := N6.n4 hnW
  simp only [C.k, C.t, C.d, C.v] at e0 e1 e2 e3 f0 f1 f2 f3 C21
  have hd' : decide (0 ≤ z') = false := by simp; omega
  have IH := hide ih
  have HBD := hide hbd'
  simp only [C.k, C.t, C.d, C.v] at C21'
  clear hJ hv hn hz hz' ihl ih hbd hbd' hnW
  go_enter Try.func30, Try.ntmps30
  go_wp2_with fail
  go_region_with (first
    | (go_at_call 21; refine (C21.out _).mono ?_; rintro e w1 ⟨rfl, hb1⟩; have c4 : w1.cell? ⟨nb, 4, none⟩ = some lv := ((unhide HN).bel ((unhide HV).old s _ ((unhide HV).bel s _ _ (unhide HJ) ((Bel.refl _).drew.trans hb1)))).2.2.2.2.1; have HJ1 := hide ((unhide HV).bel s _ _ (unhide HJ) ((Bel.refl _).drew.trans hb1)); clear hb1)
    | (go_at_call 30; refine (IHL.out _ (unhide HJ1)).mono ?_; rintro e w2 ⟨rfl, hj2⟩; have HJ2 := hide hj2; clear hj2))
  all_goals
    have hb4' := (unhide HV).bnd s1 w2 (unhide HJ2)
    rw [HBD.out] at hb4'
    obtain ⟨e0', e1', e2', e3'⟩ := hb4'.all
    have hn2 := (unhide HN).bel ((unhide HV).old s1 w2 (unhide HJ2))
    obtain ⟨f0', f1', f2', f3'⟩ := (N6.n4 hn2).all
    have c5 : ∀ p : BelBy w2, p.W.cell? ⟨nb, 5, none⟩ = some rv := fun p => p.h.cell hn2.2.2.2.2.2
    have hne := BelBy.some w2
    clear hb4' hn2
    go_wp2_with fail
    simp only [Act.put, List.getElem_toArray, List.getElem_cons_succ, List.getElem_cons_zero, List.setIfInBounds_toArray, List.set_cons_succ, List.set_cons_zero]
    refine wp_region_bel hfu (by kernel_rfl) ?_
    repeat (go_big_quiet_step (first | (go_at_call 21; refine calls_by (C21'.out _))))
    refine wpQuiet_nil ?_
    rintro W2 ⟨p2, rfl⟩
    have c5' := c5 p2
    have HJ3 := hide ((unhide HV).bel s1 _ _ (unhide HJ2) p2.h)
    generalize p2.W = W2 at *
    clear e0' e1' e2' e3' f0' f1' f2' f3' hne p2 c5
    go_wp2_with (go_at_call 30; refine (IH.out _ (unhide HJ3)).mono ?_; rintro e w3 ⟨rfl, hj3⟩)
    go_ret
    exact ⟨rfl, hj3⟩
end Go.Proofs.Ytkpallbnmckbaaa
