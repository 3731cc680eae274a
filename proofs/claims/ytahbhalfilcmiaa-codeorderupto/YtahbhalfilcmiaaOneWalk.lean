/- The walk of the law on one form: it returns true, for every text within the form's own reach. -/
import Derived.Test.YtahbhalfilcmiaaAlive
import Derived.Test.YtahbhalfilcmiaaOne
namespace Go.Proofs.Ytahbhalfilcmiaa
open Go.RowKit
theorem calls_bel {w : World} {f : Nat} {args : Array Value} {v : Value} (h : ∀ W, Calls Try.prog f args W fun e w' => e = .returned v ∧ Bel W w') : Hid (∀ W, Bel w W → Calls Try.prog f args W fun e w' => e = .returned v ∧ Bel w w') :=
  fun W hb => (h W).mono fun _ _ h' => ⟨h'.1, hb.trans h'.2⟩
theorem app_size {a b s : ByteArray} (h : a ++ b = s) (hm : s.size ≤ 150000000000000) : ¬ (9223372036854775807 < a.size + b.size) := by
  have : (a ++ b).size = a.size + b.size := ByteArray.size_append
  rw [h] at this
  omega
set_option maxHeartbeats 2000000 in
theorem one_walk (s : ByteArray) (hm : s.size ≤ 150000000000000) (w : World) :
    Calls Try.prog 7 #[.string s] w fun e w' => e = .returned (.bool true) ∧ Bel w w' := by
  have c20 := calls_bel (w := w) (fun W => readNum_any s hm W)
  have c22 := calls_bel (w := w) (fun W => readInt_any s hm W)
  have c24 := calls_bel (w := w) (fun W => readText_any s hm W)
  have c26 := calls_bel (w := w) (fun W => readKey_any s hm W)
  have c12 := calls_bel (w := w) (fun W => num_any (rNum s).1 (by have := (rNum_facts s).1; omega) W)
  have c14 := calls_bel (w := w) (fun W => int_any (rInt s).1 (rInt_facts s).1 (rInt_facts s).2 W)
  have c16 := calls_bel (w := w) (fun W => text_any (rText s).1 (Nat.le_trans (rText_len s) hm) W)
  have c18 := calls_bel (w := w) (fun W => key_any (rKey s).1 (rKey_len s hm) W)
  have c9 := calls_bel (w := w) (fun W => alive_any W)
  have e1 := rNum_one s
  have e2 := rInt_one s
  have e3 := fun h => (rText_one s h).1
  have e4 := fun h => (rKey_one s h).1
  generalize (⟨(num (rNum s).1).toArray⟩ : ByteArray) = x1 at *
  generalize (⟨(int8 (rInt s).1).toArray⟩ : ByteArray) = x2 at *
  generalize text (rText s).1 = x3 at *
  generalize (⟨(key (rKey s).1.data.toList).toArray⟩ : ByteArray) = x4 at *
  generalize rNum s = r1 at *
  generalize rInt s = r2 at *
  generalize rText s = r3 at *
  generalize rKey s = r4 at *
  obtain ⟨a1, a2, a3⟩ := r1
  obtain ⟨b1, b2, b3⟩ := r2
  obtain ⟨d1, d2, d3⟩ := r3
  obtain ⟨f1, f2, f3⟩ := r4
  simp only at c20 c22 c24 c26 c12 c14 c16 c18 e1 e2 e3 e4
  have g1 : (a3 == 0) = false ∨ (a3 = 0 ∧ x1 ++ a2 = s ∧ ¬ (9223372036854775807 < x1.size + a2.size)) := by
    by_cases h : a3 = 0
    · right; exact ⟨h, e1 h, app_size (e1 h) hm⟩
    · left; rw [beq_eq_false_iff_ne]; exact h
  have g2 : (b3 == 0) = false ∨ (b3 = 0 ∧ x2 ++ b2 = s ∧ ¬ (9223372036854775807 < x2.size + b2.size)) := by
    by_cases h : b3 = 0
    · right; exact ⟨h, e2 h, app_size (e2 h) hm⟩
    · left; rw [beq_eq_false_iff_ne]; exact h
  have g3 : (d3 == 0) = false ∨ (d3 = 0 ∧ x3 ++ d2 = s ∧ ¬ (9223372036854775807 < x3.size + d2.size)) := by
    by_cases h : d3 = 0
    · right; exact ⟨h, e3 h, app_size (e3 h) hm⟩
    · left; rw [beq_eq_false_iff_ne]; exact h
  have g4 : (f3 != 0) = true ∨ (f3 = 0 ∧ x4 ++ f2 = s ∧ ¬ (9223372036854775807 < x4.size + f2.size)) := by
    by_cases h : f3 = 0
    · right; exact ⟨h, e4 h, app_size (e4 h) hm⟩
    · left; rw [bne_iff_ne]; exact h
  have hb0 := Bel.refl w
  clear e1 e2 e3 e4 hm
  rcases g1 with g1 | ⟨rfl, g1, q1⟩ <;> rcases g2 with g2 | ⟨rfl, g2, q2⟩ <;> rcases g3 with g3 | ⟨rfl, g3, q3⟩ <;> rcases g4 with g4 | ⟨rfl, g4, q4⟩
  all_goals
    go_enter Try.func7, Try.ntmps7
    go_wp2_with (first
      | (go_at_call 20; refine (c20.out _ (by assumption)).mono ?_; rintro e w' ⟨rfl, hb⟩)
      | (go_at_call 12; refine (c12.out _ (by assumption)).mono ?_; rintro e w' ⟨rfl, hb⟩)
      | (go_at_call 22; refine (c22.out _ (by assumption)).mono ?_; rintro e w' ⟨rfl, hb⟩)
      | (go_at_call 14; refine (c14.out _ (by assumption)).mono ?_; rintro e w' ⟨rfl, hb⟩)
      | (go_at_call 24; refine (c24.out _ (by assumption)).mono ?_; rintro e w' ⟨rfl, hb⟩)
      | (go_at_call 16; refine (c16.out _ (by assumption)).mono ?_; rintro e w' ⟨rfl, hb⟩)
      | (go_at_call 26; refine (c26.out _ (by assumption)).mono ?_; rintro e w' ⟨rfl, hb⟩)
      | (go_at_call 18; refine (c18.out _ (by assumption)).mono ?_; rintro e w' ⟨rfl, hb⟩)
      | (go_at_call 9; refine (c9.out _ (by assumption)).mono ?_; rintro e w' ⟨rfl, hb⟩))
    go_ret
    exact ⟨rfl, by assumption⟩
end Go.Proofs.Ytahbhalfilcmiaa
