/- A range over an iterator that has boxes of its own: what each side keeps of the other's. -/
import Derived.Test.YtkpallbnmckbaaaWkn
import Derived.RangeFuncNested
import Derived.RangeFuncBound
import Derived.RangeFuncCalls
import Derived.RangeFuncLeaves
import Derived.RangeFuncFrom
import Derived.Shelf.Abstract
import Derived.Shelf.RegionOpen
import Derived.OwnWalkIn
import Derived.TacticsInMore
import Derived.LoopNIn
import Derived.LoopIn
namespace Go.Proofs.Ytkpallbnmckbaaa
open Go.RowKit Go.Shelf
/-- What the one who ranges promises an iterator: X are the iterator's own boxes. -/
structure Yl (w : World) (n N l : Nat) (J : (Nat → Prop) → List C → World → Prop) : Prop where
  bel : ∀ X pre A B, J X pre A → Bel A B → J X pre B
  own : ∀ X pre A o, J X pre A → J (fun k => X k ∨ k = A.heap.size) pre (A.alloc o)
  set : ∀ X pre A B b c, J X pre A → X b → A.heap[b]? = some (.cells c 38) → Ch (fun i => i = b) A B → J X pre B
  old : ∀ X pre A, J X pre A → Bel w A
  yld : ∀ X pre x A, J X pre A → pre.length < N → YieldAt Fence.wide (n - 1) Try.prog l #[vC x] A fun e B => e = .returned (.bool true) ∧ J X (pre ++ [x]) B ∧ (∀ b, X b → B.heap[b]? = A.heap[b]?)
/-- An iterator that tells these cells. -/
def It (w : World) (n N gf : Nat) (lb : Array Value) (xs : List C) : Prop :=
  ∀ (l : Nat) (J : (Nat → Prop) → List C → World → Prop) (W : World), Bel w W → Yl w n N l J → J (fun _ => False) [] W →
    CallsIn Fence.wide n Try.prog gf (#[.func (.yield l) #[] #[]] ++ lb) W fun e W' => (∃ v, e = .returned v) ∧ ∃ X, J X xs W'
theorem ch_put (A : World) (r : Nat) (o : Obj) : Ch (fun i => i = r) A (A.putObj r o) :=
  ⟨rfl, rfl, rfl, by simp, fun k _ hk => World.putObj_heap_other (fun e => hk e)⟩
/-- The statement 'for x := range it', where the body always goes on. -/
theorem rangeIt {g : Operand} {p : Tmp} {assign body : Code} {Q : Exit → Act → World → Prop} {a : Act} {w : World} {n : Nat} (h1 : 1 ≤ n) {gf : Nat} {lb : Array Value} (hg : a.eval g = .func (.func gf) #[] lb) (en : En gf) {w0 : World} {xs : List C} {N : Nat}
    (hit : It w0 (n - 1) N gf lb xs) (hb0 : Bel w0 w) (I : (Nat → Prop) → List C → World → Prop) (Ax : C → Act → World → Prop)
    (hbel : ∀ X pre A B, I X pre A → Bel A B → I X pre B)
    (hown : ∀ X pre A o, I X pre A → I (fun k => X k ∨ k = A.heap.size) pre (A.alloc o))
    (hset : ∀ X pre A B b c, I X pre A → X b → A.heap[b]? = some (.cells c 38) → Ch (fun i => i = b) A B → I X pre B)
    (hold : ∀ X pre A, I X pre A → Bel w0 A)
    (hput : ∀ X pre A r o o', I X pre A → w.heap.size ≤ r → A.heap[r]? = some o → o.isCells = false → I X pre (A.putObj r o'))
    (hAx : ∀ x a' A r o o', Ax x a' A → w.heap.size ≤ r → A.heap[r]? = some o → o.isCells = false → Ax x a' (A.putObj r o'))
    (h0 : I (fun _ => False) [] w)
    (hassign : ∀ (l : Nat) X pre (x : C) (A : World) (K : Act → World → Prop), I X pre A → (∀ a' A', Bel A A' → I X pre A' → Ax x a' A' → K a' A') →
      assign.wpIn (Fence.wide.inRound l) (n - 1 - 1) Try.prog (Exit.then K (fun _ _ _ => False)) { tmps := (#[p].zip #[vC x]).foldl (fun t (p, v) => t.setIfInBounds p v) a.tmps, defers := [] } A)
    (hbody : ∀ (l : Nat) X pre (x : C) (a' : Act) (A : World), I X pre A → Ax x a' A → pre.length < N → body.wpIn (Fence.wide.inRound l) (n - 1 - 1) Try.prog (fun e _ B => e = .normal ∧ I X (pre ++ [x]) B ∧ KeepsOthers A B ∧ ∀ b, X b → B.heap[b]? = A.heap[b]?) a' A)
    (hdone : ∀ (D : Nat) X (W : World), w.heap.size ≤ D → I X xs W → W.heap[D]? = some (.deferred (some [])) → Q .normal { a with defers := { target := .collected D, args := #[] } :: a.defers } W) :
    (Code.rangeFunc g #[p] assign body).wpIn Fence.wide n Try.prog Q a w := by
  refine wpIn_rangeFunc ?_
  intro fn hfn
  obtain ⟨rec, hrec⟩ : ∃ rec : LoopState → Option Code → Loop, rec = fun st pe => { state := st, pending := pe, fn, tmps := a.tmps, params := #[p], assign, body, defers := w.heap.size } := ⟨_, rfl⟩
  obtain ⟨W1, hW1⟩ : ∃ W1, (w.alloc (.deferred (some []))).alloc (.loop (rec .ready none)) = W1 := ⟨_, rfl⟩
  have hL1 : W1.heap[w.heap.size + 1]? = some (.loop (rec .ready none)) := by rw [← hW1]; exact at_new2 w _ _
  have hK1 : W1.heap[w.heap.size]? = some (.deferred (some [])) := by rw [← hW1]; exact ((Bel.refl _).alloc _).row (at_new w _)
  have hbW : Bel w W1 := by rw [← hW1]; exact ((Bel.refl w).alloc _).alloc _
  refine ⟨w.heap.size + 1, [{ target := .collected w.heap.size, args := #[] }], W1, { target := .fn (.func gf) lb, args := #[.func (.yield (w.heap.size + 1)) #[] #[]] }, W1, gf,
    #[.func (.yield (w.heap.size + 1)) #[] #[]] ++ lb, W1, ?_, ?_, fun _ _ => trivial, ?_, fun _ => h1, ?_⟩
  · rw [← hW1, hrec]; exact run_enterLoop_outer _ _ _ _ _
  · simp only [resolve, hg]
    simp [go_sem]
  · have eg : ∀ (args : Array Value) (w : World), (callFunc gf args).run Try.prog w = .ok (.enter gf args) w := en
    simp [invoke, go_sem, eg]
  · refine (hit (w.heap.size + 1) (fun X pre A => I X pre A ∧ A.heap[w.heap.size + 1]? = some (.loop (rec .ready none)) ∧ A.heap[w.heap.size]? = some (.deferred (some [])) ∧ ¬ X (w.heap.size + 1) ∧ ¬ X w.heap.size ∧ ∀ b, X b → b < A.heap.size) W1 (hb0.trans hbW)
      ⟨?bel, ?own, ?set, fun X pre A h => hold X pre A h.1, ?yld⟩ ⟨hbel _ _ _ _ h0 hbW, hL1, hK1, id, id, fun _ h => h.elim⟩).mono ?fin
    case bel =>
      rintro X pre A B ⟨q1, q2, q3, q4, q5, q6⟩ hb
      exact ⟨hbel _ _ _ _ q1 hb, hb.row q2, hb.row q3, q4, q5, fun b h => Nat.lt_of_lt_of_le (q6 b h) hb.size⟩
    case own =>
      rintro X pre A o ⟨q1, q2, q3, q4, q5, q6⟩
      have hb := (Bel.refl A).alloc o
      have l2 := lt_of_some q2
      exact ⟨hown _ _ _ _ q1, hb.row q2, hb.row q3, fun h => h.elim q4 (fun e => by omega), fun h => h.elim q5 (fun e => by omega), fun b h => h.elim (fun h => Nat.lt_of_lt_of_le (q6 b h) hb.size) (fun e => by subst e; simp)⟩
    case set =>
      rintro X pre A B b c ⟨q1, q2, q3, q4, q5, q6⟩ hX hbc hc
      exact ⟨hset _ _ _ _ _ _ q1 hX hbc hc, hc.row q2 (fun e => by subst e; exact q4 hX), hc.row q3 (fun e => by subst e; exact q5 hX), q4, q5, fun b h => Nat.lt_of_lt_of_le (q6 b h) hc.size⟩
    case yld =>
      rintro X pre x A ⟨hi, hl, hk, q4, q5, q6⟩ hlen
      have hy := run_yield (P := Try.prog) (args := #[vC x]) hl (by rw [hrec]; rfl)
      rw [hrec] at hy
      refine ⟨fn, _, assign, body, hy, roundIn_of_wpIn hfn (hassign _ X pre x A _ hi ?_)⟩
      intro a' A' hb' hi' hax
      have hl' := hb'.row hl
      have hk' := hb'.row hk
      refine ⟨_, run_beginRound hl' (by rw [hrec]), ?_⟩
      have hi2 := hput _ _ _ _ _ (.loop { rec .ready none with state := .busy }) hi' (by omega) hl' rfl
      have hx2 := hAx x a' A' _ _ (.loop { rec .ready none with state := .busy }) hax (by omega) hl' rfl
      have hl2 : (A'.putObj (w.heap.size + 1) (.loop { rec .ready none with state := .busy })).heap[w.heap.size + 1]? = some (.loop { rec .ready none with state := .busy }) := World.putObj_heap_same (lt_of_some hl')
      have hk2 : (A'.putObj (w.heap.size + 1) (.loop { rec .ready none with state := .busy })).heap[w.heap.size]? = some (.deferred (some [])) := (World.putObj_heap_other (by omega)).trans hk'
      refine wpIn_mono (hbody _ X pre x a' _ hi2 hx2 hlen) ?_
      rintro e a3 W3 ⟨rfl, hi3, hk3, hX3⟩
      have hl3 := hk3.same _ _ hl2 rfl
      have hd3 := hk3.same _ _ hk2 rfl
      have hend := run_endRound (P := Try.prog) none hl3
      refine ⟨_, _, hend, rfl, ⟨hput _ _ _ _ _ _ hi3 (by omega) hl3 rfl, ?_, (World.putObj_heap_other (by omega)).trans hd3, q4, q5, fun b h => ?_⟩, fun b hb => ?_⟩
      · rw [World.putObj_heap_same (lt_of_some hl3), hrec]; rfl
      · have e1 := hk3.size
        have e2 := hb'.size
        have e3 := q6 b h
        simp at e1 ⊢
        omega
      · rw [World.putObj_heap_other (fun e => by subst e; exact q4 hb), hX3 b hb, World.putObj_heap_other (fun e => by subst e; exact q4 hb)]
        exact hb'.block b (q6 b hb)
    case fin =>
      rintro e W2 ⟨⟨v, rfl⟩, X, hi, hl, hk, _, _, _⟩
      exact ⟨none, _, by have := run_endLoop (P := Try.prog) hl (by rw [hrec]; simp); rw [hrec] at this; exact this, hdone _ X _ (Nat.le_refl _) (hput _ _ _ _ _ _ hi (by omega) hl rfl) ((World.putObj_heap_other (by omega)).trans hk)⟩
end Go.Proofs.Ytkpallbnmckbaaa
