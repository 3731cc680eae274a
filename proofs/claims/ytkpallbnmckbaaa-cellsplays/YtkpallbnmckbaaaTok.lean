/- took: the cells that an iterator tells. -/
import Derived.Test.YtkpallbnmckbaaaRng
import Derived.Test.YtkpallbnmckbaaaTrc
namespace Go.Proofs.Ytkpallbnmckbaaa
open Go.RowKit Go.Shelf
attribute [local go_sem] Oper.semAt_some
/-- How took stands: mb is the box of most, B that of its list. -/
structure TkI (w : World) (mb B : Nat) (X : Nat → Prop) (pre : List C) (A : World) : Prop where
  bel : Bel w A
  mst : A.heap[mb]? = some (.cells #[.int .i64 (-1)] 3)
  row : ∃ v, Boxed A B 25 v ∧ OR w.heap.size A v pre ∧ ∀ b, X b → v.ownBlock ≠ some b
  sep : ∀ b, X b → w.heap.size ≤ b ∧ b ≠ mb ∧ b ≠ B
  lo : w.heap.size ≤ B
  xlt : ∀ b, X b → b < A.heap.size
theorem TkI.next {w : World} {mb B : Nat} {X : Nat → Prop} {pre : List C} {A A' : World} (h : TkI w mb B X pre A) (hb : Bel A A') : TkI w mb B X pre A' := by
  obtain ⟨v, h1, h2, h3⟩ := h.row
  exact ⟨h.bel.trans hb, hb.row h.mst, ⟨v, hb.row h1, h2.bel hb, h3⟩, h.sep, h.lo, fun b hX => Nat.lt_of_lt_of_le (h.xlt b hX) hb.size⟩
theorem TkI.own {w : World} {mb B : Nat} {X : Nat → Prop} {pre : List C} {A : World} (h : TkI w mb B X pre A) (o : Obj) : TkI w mb B (fun k => X k ∨ k = A.heap.size) pre (A.alloc o) := by
  have hb := (Bel.refl A).alloc o
  obtain ⟨v, h1, h2, h3⟩ := h.row
  refine ⟨h.bel.trans hb, hb.row h.mst, ⟨v, hb.row h1, h2.bel hb, fun b hX => ?_⟩, fun b hX => ?_, h.lo, fun b hX => hX.elim (fun hX => Nat.lt_of_lt_of_le (h.xlt b hX) hb.size) (fun e => by subst e; simp)⟩
  · rcases hX with hX | rfl
    · exact h3 b hX
    · intro e; have := (h2.lt e).2; omega
  · rcases hX with hX | rfl
    · exact h.sep b hX
    · have := lt_of_some h.mst
      have := h1.lt
      have := h.bel.size
      exact ⟨by omega, by omega, by omega⟩
theorem TkI.ch {w : World} {mb B : Nat} {X : Nat → Prop} {pre : List C} {A A' : World} {r : Nat} (h : TkI w mb B X pre A) (hc : Ch (fun i => i = r) A A') (hr : w.heap.size ≤ r) (h1 : mb ≠ r) (h2 : B ≠ r) (h3 : ∀ v, Boxed A B 25 v → v.ownBlock ≠ some r) : TkI w mb B X pre A' := by
  obtain ⟨v, q1, q2, q3⟩ := h.row
  exact ⟨hc.after h.bel hr, hc.row h.mst h1, ⟨v, hc.row q1 h2, q2.at (fun k hk => hc.block k (q2.lt hk).2 (fun e => by subst e; exact h3 v q1 hk)), q3⟩, h.sep, h.lo, fun b hX => Nat.lt_of_lt_of_le (h.xlt b hX) hc.size⟩
theorem boxed_one {A : World} {B : Nat} {t : TypeId} {v v' : Value} (h : Boxed A B t v) (h' : Boxed A B t v') : v = v' := by
  have : some (Obj.cells #[v] t (0, 0)) = some (Obj.cells #[v'] t (0, 0)) := (show A.heap[B]? = _ from h).symm.trans h'
  simpa using this
theorem TkI.set {w : World} {mb B : Nat} {X : Nat → Prop} {pre : List C} {A A' : World} {b : Nat} (h : TkI w mb B X pre A) (hX : X b) (hc : Ch (fun i => i = b) A A') : TkI w mb B X pre A' := by
  obtain ⟨s1, s2, s3⟩ := h.sep b hX
  obtain ⟨v, q1, q2, q3⟩ := h.row
  exact h.ch hc s1 (fun e => s2 e.symm) (fun e => s3 e.symm) (fun v' hv' => by rw [boxed_one hv' q1]; exact q3 b hX)
theorem TkI.put {w : World} {mb B : Nat} {X : Nat → Prop} {pre : List C} {A : World} {r : Nat} {o : Obj} (h : TkI w mb B X pre A) (o' : Obj) (hr : w.heap.size ≤ r) (ho : A.heap[r]? = some o) (hn : o.isCells = false) : TkI w mb B X pre (A.putObj r o') := by
  obtain ⟨v, q1, q2, q3⟩ := h.row
  refine h.ch (ch_put A r o') hr (fun e => ?_) (fun e => ?_) (fun v' hv' e => ?_)
  · subst e; rw [h.mst] at ho; cases ho; cases hn
  · subst e; rw [show A.heap[B]? = _ from q1] at ho; cases ho; cases hn
  · rw [boxed_one hv' q1] at e
    rcases q2.2 with ⟨rfl, _⟩ | ⟨g, cap, cur, rfl, h1, h2, h3⟩
    · simp [Value.ownBlock] at e
    · have e' : g = r := by simpa [Value.ownBlock] using e
      subst e'
      rw [h2] at ho; cases ho; cases hn
/-- Behind an append to the list, and its store. -/
theorem TkI.push {w : World} {mb B : Nat} {X : Nat → Prop} {pre : List C} {A A1 : World} {v v' : Value} {x : C} {g cap : Nat} (h : TkI w mb B X pre A) (hv : Boxed A B 25 v) (hr : OR w.heap.size A v pre)
    (hg : A.grownBy A1 v.ownBlock) (ho : OR w.heap.size A1 v' (pre ++ [x])) (he : v' = .slice (some ⟨g, 0, none⟩) (pre.length + 1) cap) (hat : v.ownBlock = some g ∨ g = A.heap.size) :
    TkI w mb B X (pre ++ [x]) (A1.setCell ⟨B, 0, none⟩ v') ∧ A1.cell? ⟨B, 0, none⟩ = some v ∧ A1.frozen? ⟨B, 0, none⟩ = false ∧ KeepsOthers A (A1.setCell ⟨B, 0, none⟩ v') ∧ ∀ b, X b → (A1.setCell ⟨B, 0, none⟩ v').heap[b]? = A.heap[b]? := by
  obtain ⟨v0, q1, q2, q3⟩ := h.row
  obtain rfl := boxed_one hv q1
  have hL : v.ownBlock ≠ some B := hr.ne (show A.heap[B]? = some (.cells #[v] 25) from hv) (by decide)
  have hl : v.ownBlock ≠ some mb := hr.ne h.mst (by decide)
  have hv1 : Boxed A1 B 25 v := (hg.block B hv.lt (fun e => hL e.symm)).trans hv
  have hbl1 := (hg.block mb (lt_of_some h.mst) (fun e => hl e.symm)).trans h.mst
  have hBW1 : Bel w A1 := Below.trans h.bel (grown_bel hg h.bel.size (fun k hk => (hr.lt hk).1))
  have e1 : mb ≠ B := ne_type h.mst (show A.heap[B]? = some (.cells #[v] 25) from hv) (by decide)
  have e3 : v'.ownBlock ≠ some B := ho.ne (show A1.heap[B]? = some (.cells #[v] 25) from hv1) (by decide)
  refine ⟨⟨Below.setCell hBW1 (p := ⟨B, 0, none⟩) h.lo _, ?_, ⟨v', hv1.set v', ho.at (fun k hk => ?_), fun b hb => ?_⟩, h.sep, h.lo, fun b hb => ?_⟩, hv1.cell, hv1.frozen, ?_, fun b hb => ?_⟩
  · rw [Below.heap_setCell _ _ _ _ e1]; exact hbl1
  · exact Below.heap_setCell _ _ _ _ (fun e => by subst e; exact e3 hk)
  · rw [he]
    intro e
    have eg : g = b := by simpa [Value.ownBlock] using e
    subst eg
    rcases hat with hat | hat
    · exact q3 g hb hat
    · have := h.xlt g hb; omega
  · have e1 := h.xlt b hb
    have e2 := hg.size
    have e3 := (KeepsWalks.setCell A1 ⟨B, 0, none⟩ v').size
    omega
  · refine (KeepsOthers.of_grownBy hg fun j o ej hj => ?_).trans (KeepsOthers.setCell _ _ _)
    rcases hr.2 with ⟨rfl, _⟩ | ⟨g', cap', cur, rfl, h1, h2, h3⟩
    · simp [Value.ownBlock] at ej
    · obtain rfl : g' = j := by simpa [Value.ownBlock] using ej
      rw [h2] at hj; cases hj; rfl
  · rw [Below.heap_setCell _ _ _ _ (fun e => (h.sep b hb).2.2 e)]
    exact hg.block b (h.xlt b hb) (fun e => q3 b hb e.symm)
end Go.Proofs.Ytkpallbnmckbaaa
