/- A range over an iterator that has boxes of its own: what each side keeps of the other's. -/
import Derived.Test.YtbcgikkdhfbphaaSrt
import Derived.RangeFuncNested
import Derived.RangeFuncBound
import Derived.RangeFuncCalls
import Derived.RangeFuncLeaves
import Derived.RangeFuncFrom
import Derived.Shelf.Abstract
import Derived.Shelf.RegionOpen
import Derived.OwnWalkIn
import Derived.TacticsInMore
import Derived.LoopNIn
import Derived.LoopIn
namespace Go.Proofs.Ytbcgikkdhfbphaa
open Go.RowKit Go.Shelf Go.Maps
/-- A function with a body is entered. -/
def En (fn : Nat) : Prop := ∀ (args : Array Value) (W : World), (callFunc fn args).run Try.prog W = .ok (.enter fn args) W
/-- What the one who ranges promises an iterator: X are the iterator's own blocks. -/
structure Yl (w : World) (n N l : Nat) (J : (Nat → Prop) → List (Int × Int) → World → Prop) : Prop where
  bel : ∀ X pre A B, J X pre A → Bel A B → J X pre B
  own : ∀ X pre A B, J X pre A → Bel A B → J (fun k => X k ∨ (A.heap.size ≤ k ∧ k < B.heap.size)) pre B
  set : ∀ X pre A B b, J X pre A → X b → Ch (fun i => i = b) A B → J X pre B
  old : ∀ X pre A, J X pre A → Bel w A
  yld : ∀ X pre x A, J X pre A → pre.length < N → YieldAt Fence.wide (n - 1) Try.prog l #[lk x] A fun e B => e = .returned (.bool true) ∧ J X (pre ++ [x]) B ∧ (∀ b, X b → B.heap[b]? = A.heap[b]?)
/-- An iterator that tells links. -/
def It (w : World) (n N gf : Nat) (lb : Array Value) (Sx : List (Int × Int) → Prop) : Prop :=
  ∀ (l : Nat) (J : (Nat → Prop) → List (Int × Int) → World → Prop) (W : World), Bel w W → Yl w n N l J → J (fun _ => False) [] W →
    CallsIn Fence.wide n Try.prog gf (#[.func (.yield l) #[] #[]] ++ lb) W fun e W' => (∃ v, e = .returned v) ∧ ∃ xs X, Sx xs ∧ J X xs W'
theorem ch_obj (A : World) (r : Nat) (o : Obj) : Ch (fun i => i = r) A (A.putObj r o) :=
  ⟨rfl, rfl, rfl, by simp, fun k _ hk => World.putObj_heap_other (fun e => hk e)⟩
/-- The statement 'for x := range it', where the body always goes on. -/
theorem rangeIt {g : Operand} {p : Tmp} {assign body : Code} {Q : Exit → Act → World → Prop} {a : Act} {w : World} {n : Nat} (h1 : 1 ≤ n) {gf : Nat} {lb : Array Value} (hg : a.eval g = .func (.func gf) #[] lb) (en : En gf) {w0 : World} {Sx : List (Int × Int) → Prop} {N : Nat}
    (hit : It w0 (n - 1) N gf lb Sx) (hb0 : Bel w0 w) (I : (Nat → Prop) → List (Int × Int) → World → Prop) (Ax : Int × Int → Act → World → Prop)
    (hbel : ∀ X pre A B, I X pre A → Bel A B → I X pre B)
    (hown : ∀ X pre A B, I X pre A → Bel A B → I (fun k => X k ∨ (A.heap.size ≤ k ∧ k < B.heap.size)) pre B)
    (hset : ∀ X pre A B b, I X pre A → X b → Ch (fun i => i = b) A B → I X pre B)
    (hold : ∀ X pre A, I X pre A → Bel w0 A)
    (hput : ∀ X pre A r o o', I X pre A → w.heap.size ≤ r → A.heap[r]? = some o → o.isCells = false → I X pre (A.putObj r o'))
    (hAx : ∀ x a' A r o o', Ax x a' A → w.heap.size ≤ r → A.heap[r]? = some o → o.isCells = false → Ax x a' (A.putObj r o'))
    (h0 : I (fun _ => False) [] w)
    (hassign : ∀ (l : Nat) X pre (x : Int × Int) (A : World) (K : Act → World → Prop), I X pre A → (∀ a' A', Bel A A' → I X pre A' → Ax x a' A' → K a' A') →
      assign.wpIn (Fence.wide.inRound l) (n - 1 - 1) Try.prog (Exit.then K (fun _ _ _ => False)) { tmps := (#[p].zip #[lk x]).foldl (fun t (p, v) => t.setIfInBounds p v) a.tmps, defers := [] } A)
    (hbody : ∀ (l : Nat) X pre (x : Int × Int) (a' : Act) (A : World), I X pre A → Ax x a' A → pre.length < N → body.wpIn (Fence.wide.inRound l) (n - 1 - 1) Try.prog (fun e _ B => e = .normal ∧ I X (pre ++ [x]) B ∧ KeepsOthers A B ∧ ∀ b, X b → B.heap[b]? = A.heap[b]?) a' A)
    (hdone : ∀ (D : Nat) X xs (W : World), w.heap.size ≤ D → Sx xs → I X xs W → W.heap[D]? = some (.deferred (some [])) → Q .normal { a with defers := { target := .collected D, args := #[] } :: a.defers } W) :
    (Code.rangeFunc g #[p] assign body).wpIn Fence.wide n Try.prog Q a w := by
  refine wpIn_rangeFunc ?_
  intro fn hfn
  obtain ⟨rec, hrec⟩ : ∃ rec : LoopState → Option Code → Loop, rec = fun st pe => { state := st, pending := pe, fn, tmps := a.tmps, params := #[p], assign, body, defers := w.heap.size } := ⟨_, rfl⟩
  obtain ⟨W1, hW1⟩ : ∃ W1, (w.alloc (.deferred (some []))).alloc (.loop (rec .ready none)) = W1 := ⟨_, rfl⟩
  have hL1 : W1.heap[w.heap.size + 1]? = some (.loop (rec .ready none)) := by rw [← hW1]; exact (by have := at_new (w.alloc (.deferred (some []))) (.loop (rec .ready none)); rw [show (w.alloc (.deferred (some []))).heap.size = w.heap.size + 1 by simp] at this; exact this)
  have hK1 : W1.heap[w.heap.size]? = some (.deferred (some [])) := by rw [← hW1]; exact ((Bel.refl _).alloc _).row (at_new w _)
  have hbW : Bel w W1 := by rw [← hW1]; exact ((Bel.refl w).alloc _).alloc _
  refine ⟨w.heap.size + 1, [{ target := .collected w.heap.size, args := #[] }], W1, { target := .fn (.func gf) lb, args := #[.func (.yield (w.heap.size + 1)) #[] #[]] }, W1, gf,
    #[.func (.yield (w.heap.size + 1)) #[] #[]] ++ lb, W1, ?_, ?_, fun _ _ => trivial, ?_, fun _ => h1, ?_⟩
  · rw [← hW1, hrec]; exact run_enterLoop_outer _ _ _ _ _
  · simp only [resolve, hg]
    simp [go_sem]
  · have eg : ∀ (args : Array Value) (w : World), (callFunc gf args).run Try.prog w = .ok (.enter gf args) w := en
    simp [invoke, go_sem, eg]
  · refine (hit (w.heap.size + 1) (fun X pre A => I X pre A ∧ A.heap[w.heap.size + 1]? = some (.loop (rec .ready none)) ∧ A.heap[w.heap.size]? = some (.deferred (some [])) ∧ ¬ X (w.heap.size + 1) ∧ ¬ X w.heap.size ∧ ∀ b, X b → b < A.heap.size) W1 (hb0.trans hbW)
      ⟨?bel, ?own, ?set, fun X pre A h => hold X pre A h.1, ?yld⟩ ⟨hbel _ _ _ _ h0 hbW, hL1, hK1, id, id, fun _ h => h.elim⟩).mono ?fin
    case bel =>
      rintro X pre A B ⟨q1, q2, q3, q4, q5, q6⟩ hb
      exact ⟨hbel _ _ _ _ q1 hb, hb.row q2, hb.row q3, q4, q5, fun b h => Nat.lt_of_lt_of_le (q6 b h) hb.size⟩
    case own =>
      rintro X pre A B ⟨q1, q2, q3, q4, q5, q6⟩ hb
      have l2 := lt_of_some q2
      exact ⟨hown _ _ _ _ q1 hb, hb.row q2, hb.row q3, fun h => h.elim q4 (fun e => by omega), fun h => h.elim q5 (fun e => by omega), fun b h => h.elim (fun h => Nat.lt_of_lt_of_le (q6 b h) hb.size) (fun e => e.2)⟩
    case set =>
      rintro X pre A B b ⟨q1, q2, q3, q4, q5, q6⟩ hX hc
      exact ⟨hset _ _ _ _ _ q1 hX hc, hc.row q2 (fun e => by subst e; exact q4 hX), hc.row q3 (fun e => by subst e; exact q5 hX), q4, q5, fun b h => Nat.lt_of_lt_of_le (q6 b h) hc.size⟩
    case yld =>
      rintro X pre x A ⟨hi, hl, hk, q4, q5, q6⟩ hlen
      have hy := run_yield (P := Try.prog) (args := #[lk x]) hl (by rw [hrec]; rfl)
      rw [hrec] at hy
      refine ⟨fn, _, assign, body, hy, roundIn_of_wpIn hfn (hassign _ X pre x A _ hi ?_)⟩
      intro a' A' hb' hi' hax
      have hl' := hb'.row hl
      have hk' := hb'.row hk
      refine ⟨_, run_beginRound hl' (by rw [hrec]), ?_⟩
      have hi2 := hput _ _ _ _ _ (.loop { rec .ready none with state := .busy }) hi' (by omega) hl' rfl
      have hx2 := hAx x a' A' _ _ (.loop { rec .ready none with state := .busy }) hax (by omega) hl' rfl
      have hl2 : (A'.putObj (w.heap.size + 1) (.loop { rec .ready none with state := .busy })).heap[w.heap.size + 1]? = some (.loop { rec .ready none with state := .busy }) := World.putObj_heap_same (lt_of_some hl')
      have hk2 : (A'.putObj (w.heap.size + 1) (.loop { rec .ready none with state := .busy })).heap[w.heap.size]? = some (.deferred (some [])) := (World.putObj_heap_other (by omega)).trans hk'
      refine wpIn_mono (hbody _ X pre x a' _ hi2 hx2 hlen) ?_
      rintro e a3 W3 ⟨rfl, hi3, hk3, hX3⟩
      have hl3 := hk3.same _ _ hl2 rfl
      have hd3 := hk3.same _ _ hk2 rfl
      have hend := run_endRound (P := Try.prog) none hl3
      refine ⟨_, _, hend, rfl, ⟨hput _ _ _ _ _ _ hi3 (by omega) hl3 rfl, ?_, (World.putObj_heap_other (by omega)).trans hd3, q4, q5, fun b h => ?_⟩, fun b hb => ?_⟩
      · rw [World.putObj_heap_same (lt_of_some hl3), hrec]; rfl
      · have e1 := hk3.size
        have e2 := hb'.size
        have e3 := q6 b h
        simp at e1 ⊢
        omega
      · rw [World.putObj_heap_other (fun e => by subst e; exact q4 hb), hX3 b hb, World.putObj_heap_other (fun e => by subst e; exact q4 hb)]
        exact hb'.block b (q6 b hb)
    case fin =>
      rintro e W2 ⟨⟨v, rfl⟩, xs, X, hsx, hi, hl, hk, _, _, _⟩
      exact ⟨none, _, by have := run_endLoop (P := Try.prog) hl (by rw [hrec]; simp); rw [hrec] at this; exact this, hdone _ X xs _ (Nat.le_refl _) hsx (hput _ _ _ _ _ _ hi (by omega) hl rfl) ((World.putObj_heap_other (by omega)).trans hk)⟩
end Go.Proofs.Ytbcgikkdhfbphaa
