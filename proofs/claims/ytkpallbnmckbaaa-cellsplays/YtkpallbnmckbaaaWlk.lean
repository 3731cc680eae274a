/- walk: a tree is gone over by a function of the program. -/
import Derived.Test.YtkpallbnmckbaaaOrd
namespace Go.Proofs.Ytkpallbnmckbaaa
open Go.RowKit
/-- A function's number that a call enters. -/
def En (fn : Nat) : Prop := ∀ (args : Array Value) (W : World), (callFunc fn args).run Try.prog W = .ok (.enter fn args) W
/-- What going over cells in order comes to: a bound that may move, what each visit makes of the state, whether it goes on. -/
def wlk {σ : Type} (bd : σ → C) (st : σ → C → σ × Bool) : σ → List C → σ × Bool
  | s, [] => (s, true)
  | s, x :: r => if cmpC x (bd s) < 0 then wlk bd st s r else if (st s x).2 = true then wlk bd st (st s x).1 r else ((st s x).1, false)
section
variable {σ : Type} {bd : σ → C} {st : σ → C → σ × Bool}
theorem wlk_cons (s : σ) (x : C) (r : List C) : wlk bd st s (x :: r) = if cmpC x (bd s) < 0 then wlk bd st s r else if (st s x).2 = true then wlk bd st (st s x).1 r else ((st s x).1, false) := rfl
theorem wlk_app (s : σ) (a b : List C) : wlk bd st s (a ++ b) = if (wlk bd st s a).2 = true then wlk bd st (wlk bd st s a).1 b else ((wlk bd st s a).1, false) := by
  induction a generalizing s with
  | nil => simp [wlk]
  | cons x a ih =>
    rw [List.cons_append, wlk_cons, wlk_cons]
    split
    · exact ih s
    · split
      · exact ih _
      · simp
theorem wlk_skip (s : σ) (a : List C) (h : ∀ y ∈ a, cmpC y (bd s) < 0) : wlk bd st s a = (s, true) := by
  induction a with
  | nil => rfl
  | cons x a ih =>
    unfold wlk
    rw [if_pos (h x (by simp))]
    exact ih (fun y hy => h y (by simp [hy]))
theorem wlk_q {q : σ → Nat} (hq : ∀ s x, q (st s x).1 ≤ q s + 1) (s : σ) (l : List C) : q (wlk bd st s l).1 ≤ q s + l.length := by
  induction l generalizing s with
  | nil => simp [wlk]
  | cons x l ih =>
    unfold wlk
    split
    · have := ih s; simp; omega
    · split
      · have := ih (st s x).1; have := hq s x; simp; omega
      · have := hq s x; simp; omega
end
/-- What a function that visits cells must do. -/
structure Vis {σ : Type} (W0 : World) (B fn : Nat) (caps : Array Value) (J : σ → World → Prop) (bd : σ → C) (st : σ → C → σ × Bool) (q : σ → Nat) (N : Nat) : Prop where
  en : En fn
  bnd : ∀ s W, J s W → N4 W B (bd s)
  old : ∀ s W, J s W → Bel W0 W
  bel : ∀ s W W', J s W → Bel W W' → J s W'
  hq : ∀ s x, q (st s x).1 ≤ q s + 1
  go : ∀ s k t d v W, J s W → q s < N → Calls Try.prog fn (#[.agg #[.string k, .int .u64 t, .bool d, .string v]] ++ caps) W fun e w' => e = .returned (.bool (st s (k, t, d, v)).2) ∧ J (st s (k, t, d, v)).1 w'
theorem walk_nil (b f : Value) (w : World) : Calls Try.prog 30 #[.pointer none, b, f] w fun e w' => e = .returned (.bool true) ∧ w' = w := by
  go_enter Try.func30, Try.ntmps30
  go_wp2_with fail
  go_ret
  exact ⟨rfl, rfl⟩
theorem N6.n4 {w : World} {b : Nat} {x : C} {lv rv : Value} (h : N6 w b x lv rv) : N4 w b x := ⟨h.1, h.2.1, h.2.2.1, h.2.2.2.1⟩
theorem cmpv (a b : C) (z : Int) (h : cmpC a b = z) (w : World) : Calls Try.prog 21 #[.agg #[.string a.k, .int .u64 a.t, .bool a.d, .string a.v], .agg #[.string b.k, .int .u64 b.t, .bool b.d, .string b.v]] w fun e w' => e = .returned (.int .i64 z) ∧ Bel w w' := by
  subst h
  exact cmp_any a b w
set_option maxRecDepth 100000 in
set_option maxHeartbeats 1000000 in
theorem walk_a {σ : Type} {W0 : World} {B fn : Nat} {caps : Array Value} {J : σ → World → Prop} {bd : σ → C} {st : σ → C → σ × Bool} {q : σ → Nat} {N : Nat} (hv : Vis W0 B fn caps J bd st q N)
    {nb : Nat} {lv rv : Value} {x : C} (hn : N6 W0 nb x lv rv)
    (s : σ) (W : World) (hJ : J s W) (hc : cmpC x (bd s) < 0) {r : σ × Bool}
    (ih : ∀ W, J s W → Calls Try.prog 30 #[rv, .pointer (some ⟨B, 0, none⟩), .func (.func fn) #[] caps] W fun e w' => e = .returned (.bool r.2) ∧ J r.1 w') :
    Calls Try.prog 30 #[.pointer (some ⟨nb, 0, none⟩), .pointer (some ⟨B, 0, none⟩), .func (.func fn) #[] caps] W fun e w' => e = .returned (.bool r.2) ∧ J r.1 w' := by
  obtain ⟨xk, xt, xd, xv⟩ := x
  have hfu := Try.follows
  have hen : ∀ (args : Array Value) (W : World), (callFunc fn args).run Try.prog W = .ok (.enter fn args) W := hv.en
  obtain ⟨⟨bk, bt, bdd, bv⟩, hbd⟩ : ∃ y, bd s = y := ⟨_, rfl⟩
  rw [hbd] at hc
  obtain ⟨z, hz⟩ : ∃ z, cmpC (xk, xt, xd, xv) (bk, bt, bdd, bv) = z := ⟨_, rfl⟩
  have C21 := hide (cmpv (xk, xt, xd, xv) (bk, bt, bdd, bv) z hz)
  rw [hz] at hc
  have hd : decide (0 ≤ z) = false := by simp; omega
  have IH := hide ih
  have HJ := hide hJ
  have HV := hide hv
  have HN := hide hn
  have hb4 := hv.bnd s W hJ
  rw [hbd] at hb4
  obtain ⟨e0, e1, e2, e3⟩ := hb4.all
  obtain ⟨f0, f1, f2, f3⟩ : (∀ p : BelBy W, p.W.cell? ⟨nb, 0, none⟩ = some (.string xk)) ∧ (∀ p : BelBy W, p.W.cell? ⟨nb, 1, none⟩ = some (.int .u64 xt)) ∧ (∀ p : BelBy W, p.W.cell? ⟨nb, 2, none⟩ = some (.bool xd)) ∧ (∀ p : BelBy W, p.W.cell? ⟨nb, 3, none⟩ = some (.string xv)) := N4.all (N6.n4 (hn.bel (hv.old s W hJ)))
  have hne := BelBy.some W
  clear hJ hv hn hz ih hb4 hbd
  simp only [C.k, C.t, C.d, C.v] at C21
  go_enter Try.func30, Try.ntmps30
  go_wp2_with fail
  refine wp_region_bel hfu (by kernel_rfl) ?_
  repeat (go_big_quiet_step (first | (go_at_call 21; refine calls_by (C21.out _))))
  refine wpQuiet_nil ?_
  rintro W1 ⟨p1, rfl⟩
  have c5 : ∀ p : BelBy p1.W, p.W.cell? ⟨nb, 5, none⟩ = some rv := fun p => p.h.cell (p1.h.cell ((unhide HN).bel ((unhide HV).old s W (unhide HJ))).2.2.2.2.2)
  have HJ1 := hide ((unhide HV).bel s _ _ (unhide HJ) p1.h)
  have e0' : ∀ p : BelBy p1.W, p.W.cell? ⟨B, 0, none⟩ = some (.string bk) := fun p => p.h.cell (e0 p1)
  have e1' : ∀ p : BelBy p1.W, p.W.cell? ⟨B, 1, none⟩ = some (.int .u64 bt) := fun p => p.h.cell (e1 p1)
  have e2' : ∀ p : BelBy p1.W, p.W.cell? ⟨B, 2, none⟩ = some (.bool bdd) := fun p => p.h.cell (e2 p1)
  have e3' : ∀ p : BelBy p1.W, p.W.cell? ⟨B, 3, none⟩ = some (.string bv) := fun p => p.h.cell (e3 p1)
  have f0' : ∀ p : BelBy p1.W, p.W.cell? ⟨nb, 0, none⟩ = some (.string xk) := fun p => p.h.cell (f0 p1)
  have f1' : ∀ p : BelBy p1.W, p.W.cell? ⟨nb, 1, none⟩ = some (.int .u64 xt) := fun p => p.h.cell (f1 p1)
  have f2' : ∀ p : BelBy p1.W, p.W.cell? ⟨nb, 2, none⟩ = some (.bool xd) := fun p => p.h.cell (f2 p1)
  have f3' : ∀ p : BelBy p1.W, p.W.cell? ⟨nb, 3, none⟩ = some (.string xv) := fun p => p.h.cell (f3 p1)
  have hne' := BelBy.some p1.W
  generalize p1.W = W1 at *
  clear e0 e1 e2 e3 f0 f1 f2 f3 hne p1
  go_wp2_with fail
  refine wp_region_bel hfu (by kernel_rfl) ?_
  repeat (go_big_quiet_step (first | (go_at_call 21; refine calls_by (C21.out _))))
  refine wpQuiet_nil ?_
  rintro W2 ⟨p2, rfl⟩
  have c5' := c5 p2
  have HJ2 := hide ((unhide HV).bel s _ _ (unhide HJ1) p2.h)
  generalize p2.W = W2 at *
  clear e0' e1' e2' e3' f0' f1' f2' f3' hne' p2 c5
  go_wp2_with (go_at_call 30; refine (IH.out _ (unhide HJ2)).mono ?_; rintro e w3 ⟨rfl, hj3⟩)
  go_ret
  exact ⟨rfl, hj3⟩
end Go.Proofs.Ytkpallbnmckbaaa
