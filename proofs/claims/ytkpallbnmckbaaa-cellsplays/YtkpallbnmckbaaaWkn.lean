/- walk, for every tree, by a function of the program. -/
import Derived.Test.YtkpallbnmckbaaaWk1
import Derived.Test.YtkpallbnmckbaaaWk2
import Derived.Test.YtkpallbnmckbaaaWk3
import Derived.Test.YtkpallbnmckbaaaWk4
namespace Go.Proofs.Ytkpallbnmckbaaa
open Go.RowKit
theorem walk_upto {σ : Type} {W0 : World} {B fn : Nat} {caps : Array Value} {J : σ → World → Prop} {bd : σ → C} {st : σ → C → σ × Bool} {q : σ → Nat} {N : Nat} (hv : Vis W0 B fn caps J bd st q N) (m : Nat) :
    ∀ (l : List C) (v : Value) (s : σ) (W : World), l.length ≤ m → TV W0 v l → Srt l → J s W → q s + l.length ≤ N →
      Calls Try.prog 30 #[v, .pointer (some ⟨B, 0, none⟩), .func (.func fn) #[] caps] W fun e w' => e = .returned (.bool (wlk bd st s l).2) ∧ J (wlk bd st s l).1 w' := by
  induction m with
  | zero =>
    intro l v s W hm ht hs hJ hN
    obtain rfl : l = [] := List.length_eq_zero_iff.1 (by omega)
    rcases ht.none_or with ⟨rfl, _⟩ | ⟨_, _, _, l1, x, l2, _, _, e, _⟩
    · refine (walk_nil _ _ W).mono ?_
      rintro e w' ⟨rfl, rfl⟩
      exact ⟨rfl, hJ⟩
    · exact absurd e.symm (by simp)
  | succ m ih =>
    intro l v s W hm ht hs hJ hN
    rcases ht.none_or with ⟨rfl, rfl⟩ | ⟨nb, lv, rv, l1, x, l2, rfl, hn, rfl, t1, t2⟩
    · refine (walk_nil _ _ W).mono ?_
      rintro e w' ⟨rfl, rfl⟩
      exact ⟨rfl, hJ⟩
    · obtain ⟨s1, s2, h3, h4⟩ := hs.parts
      have hlen : l1.length + l2.length + 1 = (l1 ++ x :: l2).length := by simp; omega
      have hq1 := wlk_q (bd := bd) hv.hq s l1
      have ihl : ∀ W, J s W → Calls Try.prog 30 #[lv, .pointer (some ⟨B, 0, none⟩), .func (.func fn) #[] caps] W fun e w' => e = .returned (.bool (wlk bd st s l1).2) ∧ J (wlk bd st s l1).1 w' := fun W h => ih l1 lv s W (by omega) t1 s1 h (by omega)
      rw [wlk_app]
      by_cases hc : cmpC x (bd s) < 0
      · have hsk : wlk bd st s l1 = (s, true) := wlk_skip s l1 (fun y hy => lt_le (h3 y hy) (by omega))
        rw [hsk]
        simp only [if_true]
        rw [wlk_cons, if_pos hc]
        exact walk_a hv hn s W hJ hc (fun W h => ih l2 rv s W (by omega) t2 s2 h (by omega))
      · cases hb1 : (wlk bd st s l1).2 with
        | false =>
          rw [hb1] at ihl
          simp only [Bool.false_eq_true, if_false]
          exact walk_b1 hv hn s W hJ hc ihl rfl
        | true =>
          rw [hb1] at ihl
          simp only [if_true]
          rw [wlk_cons]
          generalize (wlk bd st s l1).1 = sa at *
          by_cases hc' : cmpC x (bd sa) < 0
          · rw [if_pos hc']
            exact walk_b2 hv hn s W hJ hc ihl rfl hc' (fun W h => ih l2 rv sa W (by omega) t2 s2 h (by omega))
          · rw [if_neg hc']
            have hq2 := hv.hq sa x
            cases hb2 : (st sa x).2 with
            | false =>
              simp only [Bool.false_eq_true, if_false]
              exact walk_b3 hv hn s W hJ hc ihl rfl hc' (s2 := (st sa x).1) (b2 := (st sa x).2) rfl (by omega) hb2
            | true =>
              simp only [if_true]
              exact walk_b4 hv hn s W hJ hc ihl rfl hc' (s2 := (st sa x).1) (b2 := (st sa x).2) rfl (by omega) hb2 (fun W h => ih l2 rv _ W (by omega) t2 s2 h (by omega))
theorem walk_any {σ : Type} {W0 : World} {B fn : Nat} {caps : Array Value} {J : σ → World → Prop} {bd : σ → C} {st : σ → C → σ × Bool} {q : σ → Nat} {N : Nat} (hv : Vis W0 B fn caps J bd st q N) {l : List C} {v : Value} (s : σ) (W : World) (ht : TV W0 v l) (hs : Srt l) (hJ : J s W) (hN : q s + l.length ≤ N) :
    Calls Try.prog 30 #[v, .pointer (some ⟨B, 0, none⟩), .func (.func fn) #[] caps] W fun e w' => e = .returned (.bool (wlk bd st s l).2) ∧ J (wlk bd st s l).1 w' := walk_upto hv l.length l v s W (Nat.le_refl _) ht hs hJ hN
end Go.Proofs.Ytkpallbnmckbaaa
