/- Small functions of the program: count, weight, gone, tree, may, joined, behind, New. -/
import Derived.Test.YtkpallbnmckbaaaCmp
import Derived.Deep.RegionHeld3
namespace Go.Proofs.Ytkpallbnmckbaaa
open Go.RowKit
theorem count_any {w : World} {v : Option Nat} {l : List C} (h : Tree w v l) : Calls Try.prog 38 #[pt v] w fun e w' => e = .returned (.int .i64 l.length) ∧ w' = w := by
  cases v with
  | none =>
    have := h.nil; subst this
    clear h
    rw [pt_none]
    go_enter Try.func38, Try.ntmps38
    go_wp2
    go_ret
    exact ⟨rfl, rfl⟩
  | some b =>
    obtain ⟨lv, rv, l1, x, l2, hn, hl, _, _⟩ := h.one
    have c6 := hn.c6
    generalize l.length = n at *
    clear h hn hl
    rw [pt_some]
    go_enter Try.func38, Try.ntmps38
    go_wp2
    go_ret
    exact ⟨rfl, rfl⟩
theorem weight_any {w : World} {v : Option Nat} {l : List C} (h : Tree w v l) (hl : l.length ≤ 1000000) : Calls Try.prog 45 #[pt v] w fun e w' => e = .returned (.int .i64 ((l.length + 1 : Nat) : Int)) ∧ w' = w := by
  have C38 := hide (count_any h)
  generalize l.length = n at *
  generalize pt v = p at *
  clear h
  go_enter Try.func45, Try.ntmps45
  go_wp2_with (go_at_call 38; refine (C38.out).mono ?_; rintro e w' ⟨rfl, rfl⟩)
  go_ret
  exact ⟨rfl, rfl⟩
theorem gone_nil (w : World) : Calls Try.prog 24 #[.pointer none] w fun e w' => e = .returned (.bool true) ∧ w' = w := by
  go_enter Try.func24, Try.ntmps24
  go_wp2_with fail
  go_ret
  exact ⟨rfl, rfl⟩
/-- Cells that are there: block p, whose root is v. -/
def Cl (w : World) (p : Nat) (v : Option Nat) : Prop := w.heap[p]? = some (.cells #[.bool true, pt v] 57)
theorem gone_any {w : World} {p : Nat} {v : Option Nat} (h : Cl w p v) : Calls Try.prog 24 #[.pointer (some ⟨p, 0, none⟩)] w fun e w' => e = .returned (.bool false) ∧ w' = w := by
  have h0 : w.cell? ⟨p, 0, none⟩ = some (.bool true) := cell_of h
  clear h
  go_enter Try.func24, Try.ntmps24
  go_wp2_with fail
  go_ret
  exact ⟨rfl, rfl⟩
theorem tree_nil (w : World) : Calls Try.prog 29 #[.pointer none] w fun e w' => e = .returned (.pointer none) ∧ w' = w := by
  go_enter Try.func29, Try.ntmps29
  go_wp2_with (go_at_call 24; refine (gone_nil _).mono ?_; rintro e w1 ⟨rfl, rfl⟩)
  go_ret
  exact ⟨rfl, rfl⟩
theorem tree_any {w : World} {p : Nat} {v : Option Nat} (h : Cl w p v) : Calls Try.prog 29 #[.pointer (some ⟨p, 0, none⟩)] w fun e w' => e = .returned (pt v) ∧ w' = w := by
  have h1 : w.cell? ⟨p, 1, none⟩ = some (pt v) := cell_of h
  have C := hide (gone_any h)
  unfold pt at *
  clear h
  go_enter Try.func29, Try.ntmps29
  go_wp2_with (go_at_call 24; refine (C.out).mono ?_; rintro e w1 ⟨rfl, rfl⟩)
  go_ret
  exact ⟨rfl, rfl⟩
theorem len_nil (w : World) : Calls Try.prog 20 #[.pointer none] w fun e w' => e = .returned (.int .i64 0) ∧ w' = w := by
  have C := hide (count_any (Tree.zero w))
  rw [pt_none] at C
  go_enter Try.func20, Try.ntmps20
  go_wp2_with (first | (go_at_call 29; refine (tree_nil _).mono ?_; rintro e w1 ⟨rfl, rfl⟩) | (go_at_call 38; refine (C.out).mono ?_; rintro e w1 ⟨rfl, rfl⟩))
  go_ret
  exact ⟨rfl, rfl⟩
theorem len_any {w : World} {p : Nat} {v : Option Nat} {l : List C} (h : Cl w p v) (ht : Tree w v l) : Calls Try.prog 20 #[.pointer (some ⟨p, 0, none⟩)] w fun e w' => e = .returned (.int .i64 l.length) ∧ w' = w := by
  have C := hide (count_any ht)
  have D := hide (tree_any h)
  unfold pt at *
  generalize l.length = n at *
  clear h ht
  go_enter Try.func20, Try.ntmps20
  go_wp2_with (first | (go_at_call 29; refine (D.out).mono ?_; rintro e w1 ⟨rfl, rfl⟩) | (go_at_call 38; refine (C.out).mono ?_; rintro e w1 ⟨rfl, rfl⟩))
  go_ret
  exact ⟨rfl, rfl⟩
theorem new_any (w : World) : Calls Try.prog 7 #[] w fun e w' => e = .returned (.pointer (some ⟨w.heap.size, 0, none⟩)) ∧ w' = w.alloc (.cells #[.bool true, .pointer none] 57) := by
  go_enter Try.func7, Try.ntmps7
  go_wp2_with fail
  go_ret
  exact ⟨rfl, rfl⟩
/-- Whether a cell may be. -/
def mayC (x : C) : Int := if 8192 < x.k.size ∨ 65536 < x.v.size then 4 else if x.k.data.toList.isEmpty = true ∨ x.t = 0 ∨ (x.d = true ∧ x.v.data.toList.isEmpty = false) then 2 else 0
end Go.Proofs.Ytkpallbnmckbaaa
