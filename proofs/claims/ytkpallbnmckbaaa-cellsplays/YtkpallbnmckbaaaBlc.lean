/- balanced. -/
import Derived.Test.YtkpallbnmckbaaaTul
import Derived.Test.YtkpallbnmckbaaaTur
namespace Go.Proofs.Ytkpallbnmckbaaa
open Go.RowKit
theorem turnl_any {w : World} {lv rv : Option Nat} {l r : List C} (x : C) (h1 : Tree w lv l) (h2 : Tree w rv r) (hr : r ≠ []) (hl : l.length + r.length ≤ 100000) :
    Calls Try.prog 46 #[pt lv, vC x, pt rv] w fun e w' => ∃ b, e = .returned (.pointer (some ⟨b, 0, none⟩)) ∧ Bel w w' ∧ TV w' (.pointer (some ⟨b, 0, none⟩)) (l ++ x :: r) := by
  obtain ⟨rb, rfl⟩ := h2.has hr
  obtain ⟨ml, rr, m, y, r2, hn, rfl, hm, hr2⟩ := h2.one
  have hl' : l.length + m.length + r2.length ≤ 100000 := by simp at hl; omega
  by_cases hc : m.length + 1 < 2 * (r2.length + 1)
  · have := turnl_one x h1 hn hm hr2 hc hl'
    rw [show (l ++ x :: m) ++ y :: r2 = l ++ x :: (m ++ y :: r2) by simp] at this
    exact this
  · have hm0 : m ≠ [] := fun e => by subst e; simp at hc; omega
    obtain ⟨mb, rfl⟩ := hm.has hm0
    obtain ⟨av, bv, la, z, lb, hz, rfl, ha, hb⟩ := hm.one
    have := turnl_two x h1 hn hz ha hb hr2 hc hl'
    rw [show (l ++ x :: la) ++ z :: (lb ++ y :: r2) = l ++ x :: ((la ++ z :: lb) ++ y :: r2) by simp] at this
    exact this
theorem turnr_any {w : World} {lv rv : Option Nat} {l r : List C} (x : C) (h1 : Tree w lv l) (h2 : Tree w rv r) (hr : l ≠ []) (hl : l.length + r.length ≤ 100000) :
    Calls Try.prog 47 #[pt lv, vC x, pt rv] w fun e w' => ∃ b, e = .returned (.pointer (some ⟨b, 0, none⟩)) ∧ Bel w w' ∧ TV w' (.pointer (some ⟨b, 0, none⟩)) (l ++ x :: r) := by
  obtain ⟨rb, rfl⟩ := h1.has hr
  obtain ⟨rr, ml, r2, y, m, hn, rfl, hr2, hm⟩ := h1.one
  have hl' : r.length + m.length + r2.length ≤ 100000 := by simp at hl; omega
  by_cases hc : m.length + 1 < 2 * (r2.length + 1)
  · have := turnr_one x h2 hn hm hr2 hc hl'
    rw [show r2 ++ y :: (m ++ x :: r) = (r2 ++ y :: m) ++ x :: r by simp] at this
    exact this
  · have hm0 : m ≠ [] := fun e => by subst e; simp at hc; omega
    obtain ⟨mb, rfl⟩ := hm.has hm0
    obtain ⟨av, bv, la, z, lb, hz, rfl, ha, hb⟩ := hm.one
    have := turnr_two x h2 hn hz ha hb hr2 hc hl'
    rw [show (r2 ++ y :: la) ++ z :: (lb ++ x :: r) = (r2 ++ y :: (la ++ z :: lb)) ++ x :: r by simp] at this
    exact this
set_option maxRecDepth 100000 in
set_option maxHeartbeats 2000000 in
theorem bal_any {w : World} {lv rv : Option Nat} {l r : List C} (x : C) (h1 : Tree w lv l) (h2 : Tree w rv r) (hl : l.length + r.length ≤ 100000) :
    Calls Try.prog 42 #[pt lv, vC x, pt rv] w fun e w' => ∃ b, e = .returned (.pointer (some ⟨b, 0, none⟩)) ∧ Bel w w' ∧ TV w' (.pointer (some ⟨b, 0, none⟩)) (l ++ x :: r) := by
  obtain ⟨k, t, d, v⟩ := x
  show Calls Try.prog 42 #[pt lv, .agg #[.string k, .int .u64 t, .bool d, .string v], pt rv] w _
  obtain ⟨W, hW⟩ : ∃ W, W = (w.alloc (.cells #[.string k, .int .u64 t, .bool d, .string v] 38)) := ⟨_, rfl⟩
  have hbW : Bel w W := by rw [hW]; exact (Bel.refl w).alloc _
  have g1 := h1.bel hbW
  have g2 := h2.bel hbW
  have w1 := hide (weight_tv g1.tv (by omega))
  have w2 := hide (weight_tv g2.tv (by omega))
  have tl : Hid (r ≠ [] → Calls Try.prog 46 #[pt lv, .agg #[.string k, .int .u64 t, .bool d, .string v], pt rv] W fun e w' => ∃ b, e = .returned (.pointer (some ⟨b, 0, none⟩)) ∧ Bel W w' ∧ TV w' (.pointer (some ⟨b, 0, none⟩)) (l ++ (k, t, d, v) :: r)) := hide (fun h => turnl_any (k, t, d, v) g1 g2 h hl)
  have tr : Hid (l ≠ [] → Calls Try.prog 47 #[pt lv, .agg #[.string k, .int .u64 t, .bool d, .string v], pt rv] W fun e w' => ∃ b, e = .returned (.pointer (some ⟨b, 0, none⟩)) ∧ Bel W w' ∧ TV w' (.pointer (some ⟨b, 0, none⟩)) (l ++ (k, t, d, v) :: r)) := hide (fun h => turnr_any (k, t, d, v) g1 g2 h hl)
  have tj := hide (joined_tv k t d v g1.tv g2.tv (by omega))
  have hnr : Hid (3 * (l.length + 1) < r.length + 1 → r ≠ []) := hide (fun h e => by subst e; simp at h)
  have hnl : Hid (3 * (r.length + 1) < l.length + 1 → l ≠ []) := hide (fun h e => by subst e; simp at h)
  generalize pt lv = pl at *
  generalize pt rv = pr at *
  have HB := hide hbW
  clear h1 h2 g1 g2 hbW
  have b1 : ((l.length + 1 : Nat) : Int) ≤ 100001 := by omega
  have b2 : ((r.length + 1 : Nat) : Int) ≤ 100001 := by omega
  clear hl
  generalize hn1 : l.length + 1 = n1 at w1 b1 hnr hnl
  generalize hn2 : r.length + 1 = n2 at w2 b2 hnr hnl
  clear hn1 hn2
  obtain ⟨q0, q1, q2, q3⟩ : N4 W w.heap.size (k, t, d, v) := by rw [hW]; exact N4.of (at_new w _)
  have hw1 : IntKind.i64.wrap (3 * (n1 : Int)) = 3 * (n1 : Int) := wrapI (by omega) (by omega)
  have hw2 : IntKind.i64.wrap (3 * (n2 : Int)) = 3 * (n2 : Int) := wrapI (by omega) (by omega)
  have HW := hide hW
  clear hW
  by_cases c1 : 3 * n1 < n2
  · have c1' : (3 : Int) * (n1 : Int) < (n2 : Int) := by omega
    have T := hide (tl.out (hnr.out c1))
    clear tl tr tj c1
    go_enter Try.func42, Try.ntmps42
    go_wp2_with (first | (rw [← unhide HW]; (go_at_call 45; first | (with_reducible refine (w2.out).mono ?_; rintro e w' ⟨rfl, rfl⟩) | (with_reducible refine (w1.out).mono ?_; rintro e w' ⟨rfl, rfl⟩))) | (go_at_call 45; first | (with_reducible refine (w2.out).mono ?_; rintro e w' ⟨rfl, rfl⟩) | (with_reducible refine (w1.out).mono ?_; rintro e w' ⟨rfl, rfl⟩)) | (go_at_call 46; refine (T.out).mono ?_; rintro e w3 ⟨b, rfl, hb3, ht3⟩))
    go_ret
    exact ⟨b, rfl, HB.out.trans hb3, ht3⟩
  · have c1' : ¬ (3 : Int) * (n1 : Int) < (n2 : Int) := by omega
    by_cases c2 : 3 * n2 < n1
    · have c2' : (3 : Int) * (n2 : Int) < (n1 : Int) := by omega
      have T := hide (tr.out (hnl.out c2))
      clear tl tr tj c1 c2
      go_enter Try.func42, Try.ntmps42
      go_wp2_with (first | (rw [← unhide HW]; (go_at_call 45; first | (with_reducible refine (w2.out).mono ?_; rintro e w' ⟨rfl, rfl⟩) | (with_reducible refine (w1.out).mono ?_; rintro e w' ⟨rfl, rfl⟩))) | (go_at_call 45; first | (with_reducible refine (w2.out).mono ?_; rintro e w' ⟨rfl, rfl⟩) | (with_reducible refine (w1.out).mono ?_; rintro e w' ⟨rfl, rfl⟩)) | (go_at_call 47; refine (T.out).mono ?_; rintro e w3 ⟨b, rfl, hb3, ht3⟩))
      go_ret
      exact ⟨b, rfl, HB.out.trans hb3, ht3⟩
    · have c2' : ¬ (3 : Int) * (n2 : Int) < (n1 : Int) := by omega
      have T := tj
      clear tl tr tj c1 c2
      go_enter Try.func42, Try.ntmps42
      go_wp2_with (first | (rw [← unhide HW]; (go_at_call 45; first | (with_reducible refine (w2.out).mono ?_; rintro e w' ⟨rfl, rfl⟩) | (with_reducible refine (w1.out).mono ?_; rintro e w' ⟨rfl, rfl⟩))) | (go_at_call 45; first | (with_reducible refine (w2.out).mono ?_; rintro e w' ⟨rfl, rfl⟩) | (with_reducible refine (w1.out).mono ?_; rintro e w' ⟨rfl, rfl⟩)) | (go_at_call 41; refine (T.out).mono ?_; rintro e w3 ⟨b, rfl, hb3, ht3⟩))
      go_ret
      exact ⟨b, rfl, HB.out.trans hb3, ht3⟩
end Go.Proofs.Ytkpallbnmckbaaa
