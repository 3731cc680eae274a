/- walk: its ways through. -/
import Derived.Test.YtkpallbnmckbaaaWlk
import Derived.Deep.DrawnRows
namespace Go.Proofs.Ytkpallbnmckbaaa
open Go.RowKit
attribute [local go_sem ↓] Go.wp_at_zero Go.wp_at_succ
set_option maxRecDepth 100000 in
set_option maxHeartbeats 2000000 in
theorem walk_b1 {σ : Type} {W0 : World} {B fn : Nat} {caps : Array Value} {J : σ → World → Prop} {bd : σ → C} {st : σ → C → σ × Bool} {q : σ → Nat} {N : Nat} (hv : Vis W0 B fn caps J bd st q N)
    {nb : Nat} {lv rv : Value} {x : C} (hn : N6 W0 nb x lv rv)
    (s : σ) (W : World) (hJ : J s W) (hc : ¬ cmpC x (bd s) < 0) {s1 : σ} {b1 : Bool}
    (ihl : ∀ W, J s W → Calls Try.prog 30 #[lv, .pointer (some ⟨B, 0, none⟩), .func (.func fn) #[] caps] W fun e w' => e = .returned (.bool b1) ∧ J s1 w') (hb : b1 = false) :
    Calls Try.prog 30 #[.pointer (some ⟨nb, 0, none⟩), .pointer (some ⟨B, 0, none⟩), .func (.func fn) #[] caps] W fun e w' => e = .returned (.bool false) ∧ J s1 w' := by
  obtain ⟨xk, xt, xd, xv⟩ := x
  have hfu := Try.follows
  have hen : ∀ (args : Array Value) (W : World), (callFunc fn args).run Try.prog W = .ok (.enter fn args) W := hv.en
  subst hb
  obtain ⟨⟨bk, bt, bdd, bv⟩, hbd⟩ : ∃ y, bd s = y := ⟨_, rfl⟩
  rw [hbd] at hc
  obtain ⟨z, hz⟩ : ∃ z, cmpC (xk, xt, xd, xv) (bk, bt, bdd, bv) = z := ⟨_, rfl⟩
  have C21 := hide (cmpv (xk, xt, xd, xv) (bk, bt, bdd, bv) z hz)
  rw [hz] at hc
  have IHL := hide ihl
  have HJ := hide hJ
  have HV := hide hv
  have HN := hide hn
  have hb4 := hv.bnd s W hJ
  rw [hbd] at hb4
  have hd : decide (0 ≤ z) = true := by simp; omega
  have hnW := hn.bel (hv.old s W hJ)
  obtain ⟨e0, e1, e2, e3⟩ : N4 W.drew B (bk, bt, bdd, bv) := hb4
  obtain ⟨f0, f1, f2, f3⟩ : N4 W.drew nb (xk, xt, xd, xv) := N6.n4 hnW
  simp only [C.k, C.t, C.d, C.v] at e0 e1 e2 e3 f0 f1 f2 f3 C21
  clear hJ hv hn hz ihl hbd hnW
  go_enter Try.func30, Try.ntmps30
  go_wp2_with fail
  go_region_with (first
    | (go_at_call 21; refine (C21.out _).mono ?_; rintro e w1 ⟨rfl, hb1⟩; have c4 : w1.cell? ⟨nb, 4, none⟩ = some lv := ((unhide HN).bel ((unhide HV).old s _ ((unhide HV).bel s _ _ (unhide HJ) ((Bel.refl _).drew.trans hb1)))).2.2.2.2.1; have HJ1 := hide ((unhide HV).bel s _ _ (unhide HJ) ((Bel.refl _).drew.trans hb1)); clear hb1)
    | (go_at_call 30; refine (IHL.out _ (unhide HJ1)).mono ?_; rintro e w2 ⟨rfl, hj2⟩; have HJ2 := hide hj2; clear hj2))
  all_goals
    go_wp2_with fail
    go_ret
    exact ⟨rfl, unhide HJ2⟩
end Go.Proofs.Ytkpallbnmckbaaa
