/- Draws, ticks, sides of machines. -/
import Derived.Test.YtbcgikkdhfbphaaNtw
import Derived.Laws.BitsAllLaws
namespace Go.Proofs.Ytbcgikkdhfbphaa
open Go.RowKit Go.Maps
/-- The word that is drawn of a state. -/
def mix1 (x : Int) : Int := IntKind.u64.wrap (bits BinOp.xor IntKind.u64 x (x / 1073741824) * 13787848793156543929)
def mix2 (x : Int) : Int := IntKind.u64.wrap (bits BinOp.xor IntKind.u64 x (x / 134217728) * 10723151780598845931)
def mix3 (x : Int) : Int := bits BinOp.xor IntKind.u64 x (x / 2147483648)
def mixd (x : Int) : Int := mix3 (mix2 (mix1 x))
theorem mix3_in (x : Int) (h0 : 0 ≤ x) (h1 : x < 18446744073709551616) : 0 ≤ mix3 x ∧ mix3 x < 18446744073709551616 := by
  unfold mix3
  rw [u64_xor x _ h0 h1 (by omega) (by omega)]
  refine ⟨by omega, ?_⟩
  have : x.toNat ^^^ (x / 2147483648).toNat < 2 ^ 64 := Nat.xor_lt_two_pow (by omega) (by omega)
  omega
theorem mixd_in (x : Int) : 0 ≤ mixd x ∧ mixd x < 18446744073709551616 := by
  unfold mixd
  refine mix3_in _ ?_ ?_
  · unfold mix2; rw [IntKind.wrap_u64]; omega
  · unfold mix2; rw [IntKind.wrap_u64]; omega
set_option maxRecDepth 100000 in
theorem mixed_any (x : Int) (w : World) : Calls Try.prog 50 #[.int .u64 x] w fun e w' => e = .returned (.int .u64 (mixd x)) ∧ w' = w := by
  go_enter Try.func50, Try.ntmps50
  go_wp2_with fail
  go_ret
  exact ⟨rfl, rfl⟩
/-- The state of a machine's draws ahead of the first one. -/
def fst9 (x k : Int) : Int := IntKind.u64.wrap (x + IntKind.u64.wrap (11400714819323198485 * IntKind.u64.wrap k))
set_option maxRecDepth 100000 in
theorem first_any (x k : Int) (w : World) : Calls Try.prog 28 #[.int .u64 x, .int .i64 k] w fun e w' => e = .returned (.int .u64 (fst9 x k)) ∧ w' = w := by
  go_enter Try.func28, Try.ntmps28
  go_wp2_with fail
  go_ret
  exact ⟨rfl, rfl⟩
set_option maxRecDepth 100000 in
theorem at_any (p bm N cm j : Nat) (w : World) (c0 : w.cell? ⟨p, 0, none⟩ = some (.slice (some ⟨bm, 0, none⟩) N cm)) (hj : j < N) (hN : N ≤ 64) : Calls Try.prog 46 #[.pointer (some ⟨p, 0, none⟩), .int .i64 ((j : Int) + 1)] w fun e w' => e = .returned (.pointer (some ⟨bm, j * 3, none⟩)) ∧ w' = w := by
  have hw : IntKind.i64.wrap ((j : Int) + 1 - 1) = (j : Int) := by rw [show (j : Int) + 1 - 1 = j by omega]; exact wrapI (by omega) (by omega)
  have hN' : (j : Int) < N := by omega
  go_enter Try.func46, Try.ntmps46
  go_wp2_with fail
  go_ret
  exact ⟨rfl, rfl⟩
/-- A machine's number is one more than its place. -/
theorem PN.may.at {s : PN} {a : Int} (h : s.may a) : ∃ j : Nat, j < s.ms.length ∧ a = (j : Int) + 1 := ⟨(a - 1).toNat, by have := h.1; have := h.2; omega, by have := h.1; omega⟩
theorem PN.may.mk {s : PN} {j : Nat} (h : j < s.ms.length) : s.may ((j : Int) + 1) := ⟨by omega, by omega⟩
theorem RI.one (w : World) (o : Int) : RI (w.alloc (.cells #[.int .i64 o] 3)) (.slice (some ⟨w.heap.size, 0, none⟩) 1 1) [o] :=
  ⟨_, 1, w.heap.size, 0, rfl, fun _ => rfl, fun j hj => by
    have : j = 0 := by simp at hj; omega
    subst this
    exact cell_of (at_new w _)⟩
theorem RI.two (w : World) (a b : Int) : RI (w.alloc (.cells #[.int .i64 a, .int .i64 b] 3)) (.slice (some ⟨w.heap.size, 0, none⟩) 2 2) [a, b] :=
  ⟨_, 2, w.heap.size, 0, rfl, fun _ => rfl, fun j hj => by
    have : j = 0 ∨ j = 1 := by simp at hj; omega
    rcases this with rfl | rfl
    · exact cell_of (at_new w _)
    · exact cell_of (at_new w _)⟩
/-- fault at one number, and at two. -/
theorem fault1 {C : Nat} {w : World} {p : Nat} {s : PN} {M : Nat → Prop} (h : Nt C w p s M) (a : Int) : Calls Try.prog 37 #[.pointer (some ⟨p, 0, none⟩), .slice (some ⟨w.heap.size, 0, none⟩) 1 1] (w.alloc (.cells #[.int .i64 a] 3)) fun e w' => e = .returned (.int .i64 (flt s [a])) ∧ w' = w.alloc (.cells #[.int .i64 a] 3) :=
  fault_any (h.bel ((Bel.refl w).alloc _)) (RI.one w a) (by simp)
theorem fault2 {C : Nat} {w : World} {p : Nat} {s : PN} {M : Nat → Prop} (h : Nt C w p s M) (a b : Int) : Calls Try.prog 37 #[.pointer (some ⟨p, 0, none⟩), .slice (some ⟨w.heap.size, 0, none⟩) 2 2] (w.alloc (.cells #[.int .i64 a, .int .i64 b] 3)) fun e w' => e = .returned (.int .i64 (flt s [a, b])) ∧ w' = w.alloc (.cells #[.int .i64 a, .int .i64 b] 3) :=
  fault_any (h.bel ((Bel.refl w).alloc _)) (RI.two w a b) (by simp)
theorem flt1_ok {s : PN} {a : Int} (h : s.may a) : flt s [a] = 0 := by unfold flt; rw [if_pos (by simp [mayB_iff, h])]
theorem flt1_no {s : PN} {a : Int} (h : ¬ s.may a) : flt s [a] = 2 := by unfold flt; rw [if_neg (by simp [mayB_iff, h])]
theorem flt2_ok {s : PN} {a b : Int} (h : s.may a) (h' : s.may b) : flt s [a, b] = 0 := by unfold flt; rw [if_pos (by simp [mayB_iff, h, h'])]
theorem flt2_no {s : PN} {a b : Int} (h : ¬ (s.may a ∧ s.may b)) : flt s [a, b] = 2 := by
  unfold flt; rw [if_neg (by simp only [List.all_cons, List.all_nil, Bool.and_true, Bool.and_eq_true, mayB_iff]; exact h)]
/-- How many ticks a machine has; 0 of none. -/
def PN.ticks (s : PN) (a : Int) : Int := if s.mayB a then (s.ms[(a - 1).toNat]?.getD (0, 0, false)).1 else 0
theorem ticks_at {s : PN} {j : Nat} (h : j < s.ms.length) : s.ticks ((j : Int) + 1) = s.ms[j].1 := by
  unfold PN.ticks
  rw [if_pos (mayB_iff.2 (PN.may.mk h)), show ((j : Int) + 1 - 1).toNat = j by omega, List.getElem?_eq_getElem h]
  rfl
theorem ticks_no {s : PN} {a : Int} (h : ¬ s.may a) : s.ticks a = 0 := if_neg (fun h' => h (mayB_iff.1 h'))
set_option maxRecDepth 100000 in
theorem ticks_any {C : Nat} {w : World} {p : Nat} {s : PN} {M : Nat → Prop} (h : Nt C w p s M) (a : Int) : Calls Try.prog 26 #[.pointer (some ⟨p, 0, none⟩), .int .i64 a] w fun e w' => e = .returned (.int .i64 (s.ticks a)) ∧ Bel w w' := by
  have HF := hide (fault1 h a)
  have hbel := (Bel.refl w).alloc (.cells #[.int .i64 a] 3)
  by_cases hm : s.may a
  · rw [flt1_ok hm] at HF
    obtain ⟨j, hj, rfl⟩ := hm.at
    obtain ⟨bm, cm, bl, n, f, h1, h2⟩ := (h.bel hbel).co
    have HA := hide (at_any p bm s.ms.length cm j _ (cell_of h1.row) hj h.few)
    obtain ⟨c1, _, _⟩ := h1.mr.cells hj
    rw [ticks_at hj]
    generalize s.ms[j].1 = t at *
    have HB := hide hbel
    clear h h1 h2 hbel
    go_enter Try.func26, Try.ntmps26
    go_wp2_with (first
      | (go_at_call 37; refine (unhide HF).mono ?_; rintro e w9 ⟨rfl, hw9⟩; rw [hw9]; clear hw9)
      | (go_at_call 46; refine (unhide HA).mono ?_; rintro e w9 ⟨rfl, hw9⟩; rw [hw9]; clear hw9))
    go_ret
    exact ⟨rfl, unhide HB⟩
  · rw [flt1_no hm] at HF
    rw [ticks_no hm]
    have HB := hide hbel
    clear h hm hbel
    go_enter Try.func26, Try.ntmps26
    go_wp2_with (first
      | (go_at_call 37; refine (unhide HF).mono ?_; rintro e w9 ⟨rfl, hw9⟩; rw [hw9]; clear hw9))
    go_ret
    exact ⟨rfl, unhide HB⟩
end Go.Proofs.Ytbcgikkdhfbphaa
