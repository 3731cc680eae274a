/- All: an iterator over all cells. -/
import Derived.Test.YtkpallbnmckbaaaAly
namespace Go.Proofs.Ytkpallbnmckbaaa
open Go.RowKit Go.Shelf
theorem en37 : En 37 := fun _ _ => by kernel_rfl
theorem all_any (v : Value) (hv : v.oneCell' = true) (w : World) : Calls Try.prog 19 #[v] w fun e w' => e = .returned (.func (.func 37) #[] #[.pointer (some ⟨w.heap.size, 0, none⟩)]) ∧ w' = w.alloc (.cells #[v] 23) := by
  go_enter Try.func19, Try.ntmps19
  go_wp2_with fail
  go_ret
  exact ⟨rfl, rfl⟩
theorem eql43 (k : Nat) (l : Array Value) (W : World) (h : k = 37 ∨ k = 35) : (binOp BinOp.eql 43 (.func (.func k) #[] l) .nilFunc).run Try.prog W = .ok (.bool false) W := by
  rcases h with rfl | rfl <;> kernel_rfl
theorem neq43 (k : Nat) (l : Array Value) (W : World) (h : k = 37 ∨ k = 35) : (binOp BinOp.neq 43 (.func (.func k) #[] l) .nilFunc).run Try.prog W = .ok (.bool true) W := by
  rcases h with rfl | rfl <;> kernel_rfl
set_option maxRecDepth 100000 in
set_option maxHeartbeats 2000000 in
theorem all_it {w : World} {bc : Nat} {q : Option Addr} {tv : Value} {l : List C} (hc : w.heap[bc]? = some (.cells #[.pointer q] 23)) (h29 : ∀ W, Bel w W → Calls Try.prog 29 #[.pointer q] W fun e w' => e = .returned tv ∧ w' = W) (ht : TV w tv l) (hg : Good l) (hl : l.length ≤ 900000) : It w 4 900000 37 #[.pointer (some ⟨bc, 0, none⟩)] l := by
  intro lp J W hb hY hJ
  have hJ1 := hY.own _ _ W (.cells #[.string ⟨#[]⟩, .int .u64 0, .bool false, .string ⟨#[]⟩] 38) hJ
  have hb1 : Bel w (W.alloc (.cells #[.string ⟨#[]⟩, .int .u64 0, .bool false, .string ⟨#[]⟩] 38)) := hb.trans ((Bel.refl _).alloc _)
  have c1 : ∀ o, (W.alloc o).cell? ⟨bc, 0, none⟩ = some (.pointer q) := fun o => cell_of ((hb.trans ((Bel.refl _).alloc o)).row hc)
  have C29 := hide (h29 _ hb1)
  have C30 := hide (walky_upto hY (X := fun k => False ∨ k = W.heap.size) (B := W.heap.size) (Or.inr rfl) l.length l tv [] _ (Nat.le_refl _) ht hg hJ1 (at_new W _) (by simpa using hl))
  clear hJ hJ1 hY hb hb1 h29 ht hg hl hc
  refine callsIn_of_wp Try.func37 rfl trivial ?_
  simp only [Try.ntmps37, List.size_toArray, List.length_cons, List.length_nil, Nat.reduceAdd, Nat.reduceSub, Array.replicate_succ, Array.replicate_zero, List.push_toArray, List.append_toArray, List.nil_append, List.cons_append]
  gi_wp2_with (first
    | (refine ⟨trivial, ?_⟩; gi_at_call 29; refine (callsIn_wide.2 (C29.out)).mono ?_; rintro e w1 ⟨rfl, hw1⟩; rw [hw1]; clear hw1)
    | (refine ⟨trivial, ?_⟩; gi_at_call 30; refine (callsIn_wide.2 (callsIn_wide.1 (C30.out))).mono ?_; rintro e w2 ⟨rfl, hj2, _⟩))
  exact bodyPost_end (results_none rfl _ _ _) rfl ⟨⟨_, rfl⟩, _, by simpa using hj2⟩
theorem allC_it {w : World} {p bc : Nat} {l : List C} (h : Cs w p l) (hg : Good l) (hl : l.length ≤ 900000) (hc : w.heap[bc]? = some (.cells #[.pointer (some ⟨p, 0, none⟩)] 23)) : It w 4 900000 37 #[.pointer (some ⟨bc, 0, none⟩)] l := by
  obtain ⟨v, h1, h2⟩ := h.see
  exact all_it hc (fun W hb => tree_any (show Cl W p v from hb.row h1)) h2.tv hg hl
theorem allN_it {w : World} {bc : Nat} (hc : w.heap[bc]? = some (.cells #[.pointer none] 23)) : It w 4 900000 37 #[.pointer (some ⟨bc, 0, none⟩)] [] :=
  all_it hc (fun W _ => tree_nil W) (Tree.zero w).tv (fun x hx => by simp at hx) (by simp)
end Go.Proofs.Ytkpallbnmckbaaa
