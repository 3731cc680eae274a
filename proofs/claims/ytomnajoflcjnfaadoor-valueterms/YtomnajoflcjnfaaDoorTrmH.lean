/- Rows of texts while the document's Rising puts a text in its place. -/
import Derived.Test.YtomnajoflcjnfaaDoorTrmF
import Derived.Deep.RegionHeld3
import Derived.BigQuiet
import Derived.Deep.QuietTactic
import Derived.Test.YtomnajoflcjnfaaDoorValA
import Derived.Sort.Walk0
namespace Go.Proofs.YtomnajoflcjnfaaDoor
open Go.RowKit
structure RO (w W : World) (vo : Value) (out : List (List UInt8)) : Prop where
  own : W.ownsRow w.heap.size 9 1 vo out.length (out.map encStr)
  bel : Bel w W
theorem RO.next {w W W' : World} {vo : Value} {out : List (List UInt8)} (h : RO w W vo out) (hb : W' = W.drew) : RO w W' vo out := by
  subst hb; exact ⟨h.own.drew, Below.drew h.bel⟩
theorem str_lt {x y : List UInt8} (h : x < y) : Op.bytesLess x y = true := by rw [bytesLess_eq]; simpa using h
theorem str_nlt {x y : List UInt8} (h : ¬ x < y) : Op.bytesLess x y = false := by rw [bytesLess_eq]; simpa using h
theorem str_eq {x y : List UInt8} (h : x = y) : (x == y) = true := by subst h; simp
theorem str_ne {x y : List UInt8} (h : x ≠ y) : (x == y) = false := by simpa using h
theorem RO.drewN {w W : World} {vo : Value} {out : List (List UInt8)} (h : RO w W vo out) (q : Nat) : RO w (W.drewN q) vo out := ⟨h.own, ⟨h.bel.os, h.bel.tape, h.bel.output, h.bel.size, h.bel.block⟩⟩
/-- A row of N texts, in its place. -/
structure RO2 (w W : World) (g N co : Nat) (xs : List (List UInt8)) : Prop where
  own : W.ownsRow w.heap.size 9 1 (.slice (some ⟨g, 0, none⟩) N co) N (xs.map encStr)
  bel : Bel w W
  le : N ≤ co
theorem ro_push {ops : Array Oper} {rest : List Oper} {o : Oper} {a : Act} {Q : Exit → Act → World → Prop} {w W : World} {vo : Value} {out : List (List UInt8)} (h : RO w W vo out) (hb : out.length + 1 ≤ 1048577)
    (hgd : o.guard = none) (s x : Operand) (ho : o.op = .call { callee := .builtin .append, args := #[s, x], argTypes := #[50, 50] }) (hs : a.eval s = vo) (hx : a.eval x = .slice (some ⟨W.heap.size, 0, none⟩) 1 1)
    (hK : ∀ g cap w', RO2 w w' g (out.length + 1) cap (shf out out.length) → wpList Tryd.prog ops Q rest (a.put o.dst (.slice (some ⟨g, 0, none⟩) (out.length + 1) cap)) w') : wpList Tryd.prog ops Q (o :: rest) a (W.alloc (.cells #[.string ⟨#[]⟩] 9)) := by
  obtain ⟨i0, hi, hz0, hz1, hz2⟩ := Tryd.i9
  have hBW : w.heap.size ≤ W.heap.size := h.bel.size
  refine wpList_append_lies (P := Tryd.prog) _ hgd s x 50 ho w.heap.size 9 i0 (.string ⟨#[]⟩) 1 16 Tryd.underlying50 hi hz0 hz1 hz2 rfl (by decide) vo out.length (out.map encStr) hs (h.own.alloc _) ⟨W.heap.size, 0, none⟩ 1 1 [.string ⟨#[]⟩] hx rfl (cells_new W _ 9) (fun u hu => by rw [List.mem_singleton.1 hu]; rfl) (by decide) (by unfold maxLen; omega) (by omega) (Nat.le_trans hBW (by simp)) _ rfl ?_
  intro g cap w' hown hgrow _ _
  refine hK g cap w' ⟨?_, (Below.alloc h.bel hBW _).grown hgrow (Nat.le_trans hBW (by simp)) (fun k hk => (h.own.lt k hk).1), ?_⟩
  · rw [shf_start, List.map_append]
    exact hown
  · rcases hown.2 with ⟨e, _⟩ | ⟨_, _, _, e, _, _, hn, _⟩
    · cases e
    · injection e with _ _ e3; rw [e3]; exact hn
theorem RO2.put {w W : World} {g N co : Nat} {xs : List (List UInt8)} (h : RO2 w W g N co xs) (j : Nat) (x : List UInt8) (ys : List (List UInt8)) (hy : xs.set j x = ys) : RO2 w (W.setCell ⟨g, j, none⟩ (.string ⟨x.toArray⟩)) g N co ys := by
  subst hy
  refine ⟨?_, Below.setCell h.bel (show w.heap.size ≤ g from (h.own.lt g rfl).1) _, h.le⟩
  have h1 := h.own.stored j (.string ⟨x.toArray⟩)
  rw [List.map_set]
  exact h1.1
theorem RO2.cell {w W : World} {g N co : Nat} {xs : List (List UInt8)} (h : RO2 w W g N co xs) {j : Nat} {x : List UInt8} (hj : j < N) (hx : xs[j]? = some x) : W.cell? ⟨g, j, none⟩ = some (.string ⟨x.toArray⟩) := by
  rw [h.own.cellAt j (by omega), List.getElem?_map, hx]
  rfl
theorem lt_of_not {x y : List UInt8} (h : ¬ x < y) (hne : y ≠ x) : y < x := by
  rcases List.le_iff_lt_or_eq.1 (List.not_lt.1 h) with h | h
  · exact h
  · exact absurd h hne
theorem RO2.ro {w W : World} {g N co : Nat} {xs : List (List UInt8)} (h : RO2 w W g N co xs) (hN : N = xs.length) : RO w W (.slice (some ⟨g, 0, none⟩) N co) xs := by
  subst hN; exact ⟨h.own, h.bel⟩
theorem takeT_next {l : List (List UInt8)} {n : Nat} (h : n < l.length) (y : List UInt8) : y ∈ l.take (n + 1) ↔ y ∈ l.take n ∨ y = l[n] := by
  rw [List.take_succ_eq_append_getElem h, List.mem_append, List.mem_singleton]
end Go.Proofs.YtomnajoflcjnfaaDoor
