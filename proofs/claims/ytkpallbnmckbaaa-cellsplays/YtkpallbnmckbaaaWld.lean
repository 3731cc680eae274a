/- What a call may change; cells and trees of cells in memory. -/
import Derived.Test.YtkpallbnmckbaaaPln
import Derived.Test.YtkpallbnmckbaaaProg
import Derived.Laws.OwnMore
import Derived.Deep.AppendLies
import Derived.Deep.OwnRows
import Derived.WalkLawsBesides
import Derived.WalkSpells
import Derived.Laws.IdiomStrings
import Derived.BigQuiet
import Derived.RangeFuncBox
import Derived.WalkKit
import Derived.Deep.QuietTactic
namespace Go.Proofs.Ytkpallbnmckbaaa
open Go.RowKit
theorem hide {p : Prop} (h : p) : Hid p := h
theorem unhide {p : Prop} (h : Hid p) : p := h
theorem wrapI {n : Int} (h0 : -9223372036854775808 ≤ n) (h1 : n < 9223372036854775808) : IntKind.i64.wrap n = n := by
  rw [IntKind.wrap_i64]
  omega
def Bel (w w' : World) : Prop := Below w.heap.size w w'
theorem Bel.refl (w : World) : Bel w w := Below.refl _ _
theorem Bel.trans {a b c : World} (h : Bel a b) (k : Bel b c) : Bel a c := Below.trans h (Below.mono k h.size)
theorem Bel.drew {a b : World} (h : Bel a b) : Bel a b.drew := Below.drew h
theorem Bel.drewN {a b : World} (h : Bel a b) (n : Nat) : Bel a (b.drewN n) := ⟨h.os, h.tape, h.output, h.size, h.block⟩
theorem Bel.alloc {a b : World} (h : Bel a b) (o : Obj) : Bel a (b.alloc o) := Below.alloc h h.size o
theorem lt_of_some {w : World} {k : Nat} {o : Obj} (h : w.heap[k]? = some o) : k < w.heap.size := (Array.getElem?_eq_some_iff.1 h).1
theorem Bel.row {a b : World} (h : Bel a b) {k : Nat} {o : Obj} (hr : a.heap[k]? = some o) : b.heap[k]? = some o := (h.block k (lt_of_some hr)).trans hr
/-- Of what was there nothing has changed but blocks of M. -/
structure Ch (M : Nat → Prop) (w w' : World) : Prop where
  os : w'.os = w.os
  tape : w'.tape = w.tape
  output : w'.output = w.output
  size : w.heap.size ≤ w'.heap.size
  block : ∀ k, k < w.heap.size → ¬ M k → w'.heap[k]? = w.heap[k]?
theorem Ch.refl (M : Nat → Prop) (w : World) : Ch M w w := ⟨rfl, rfl, rfl, Nat.le_refl _, fun _ _ _ => rfl⟩
theorem Ch.trans {M M' : Nat → Prop} {a b c : World} (h : Ch M a b) (k : Ch M' b c) (hm : ∀ i, M' i → M i ∨ a.heap.size ≤ i) : Ch M a c :=
  ⟨k.os.trans h.os, k.tape.trans h.tape, k.output.trans h.output, Nat.le_trans h.size k.size, fun i hi hn => (k.block i (Nat.lt_of_lt_of_le hi h.size) (fun h' => (hm i h').elim hn (fun h2 => by omega))).trans (h.block i hi hn)⟩
theorem Ch.mono {M M' : Nat → Prop} {a b : World} (h : Ch M a b) (hm : ∀ i, M i → M' i) : Ch M' a b := ⟨h.os, h.tape, h.output, h.size, fun i hi hn => h.block i hi (fun h' => hn (hm i h'))⟩
theorem Ch.bel {M : Nat → Prop} {a b c : World} (h : Ch M a b) (k : Bel b c) : Ch M a c :=
  ⟨k.os.trans h.os, k.tape.trans h.tape, k.output.trans h.output, Nat.le_trans h.size k.size, fun i hi hn => (k.block i (Nat.lt_of_lt_of_le hi h.size)).trans (h.block i hi hn)⟩
theorem Bel.ch {a b : World} (k : Bel a b) (M : Nat → Prop) : Ch M a b := (Ch.refl M a).bel k
theorem Ch.set {M : Nat → Prop} {a b : World} (h : Ch M a b) {ad : Addr} (hm : M ad.block ∨ a.heap.size ≤ ad.block) (v : Value) : Ch M a (b.setCell ad v) := by
  refine ⟨?_, ?_, ?_, ?_, fun i hi hn => ?_⟩
  · rw [← h.os]; unfold World.setCell; split <;> rfl
  · rw [← h.tape]; unfold World.setCell; split <;> rfl
  · rw [← h.output]; unfold World.setCell; split <;> rfl
  · have : (b.setCell ad v).heap.size = b.heap.size := by unfold World.setCell; split <;> simp
    rw [this]; exact h.size
  · rw [Below.heap_setCell _ _ _ _ (fun e => ?_)]
    · exact h.block i hi hn
    · rcases hm with h' | h'
      · rw [← e] at h'; exact hn h'
      · omega
theorem Ch.below {M : Nat → Prop} {a b : World} {B : Nat} (h : Ch M a b) (hB : B ≤ a.heap.size) (hm : ∀ i, M i → B ≤ i) : Below B a b :=
  ⟨h.os, h.tape, h.output, h.size, fun i hi => h.block i (by omega) (fun h' => by have := hm i h'; omega)⟩
theorem Ch.row {M : Nat → Prop} {a b : World} (h : Ch M a b) {k : Nat} {o : Obj} (hr : a.heap[k]? = some o) (hn : ¬ M k) : b.heap[k]? = some o := (h.block k (lt_of_some hr) hn).trans hr
theorem cell_of {W : World} {B i : Nat} {c : Array Value} {t : TypeId} (h : W.heap[B]? = some (.cells c t)) : W.cell? ⟨B, i, none⟩ = c[i]? := by
  simp only [World.cell?, h]; rfl
theorem free_row {W : World} {b p : Nat} {c : Array Value} {t : TypeId} (h : W.heap[b]? = some (.cells c t)) : W.frozen? ⟨b, p, none⟩ = false := by
  unfold World.frozen?
  simp only [h]
  simp
theorem row_set {W : World} {b p : Nat} {c : Array Value} {t : TypeId} {fr : Nat × Nat} {v : Value} (h : W.heap[b]? = some (.cells c t fr)) : (W.setCell ⟨b, p, none⟩ v).heap[b]? = some (.cells (c.setIfInBounds p v) t fr) := by
  rw [setCell_eq_setRow W b p c t fr v h]
  exact setRow_heap W b c _ t fr h
theorem at_new (w : World) (o : Obj) : (w.alloc o).heap[w.heap.size]? = some o := World.alloc_heap_new w o
/-- A cell's four values. -/
def enc4 (x : C) : List Value := [.string x.k, .int .u64 x.t, .bool x.d, .string x.v]
def vC (x : C) : Value := .agg #[.string x.k, .int .u64 x.t, .bool x.d, .string x.v]
/-- Block b is a node. -/
def Nod (w : World) (b : Nat) (x : C) (lv rv : Value) (n : Nat) : Prop := w.heap[b]? = some (.cells #[.string x.k, .int .u64 x.t, .bool x.d, .string x.v, lv, rv, .int .i64 n] 69)
/-- A tree of cells in order, at most so deep. -/
def Tr (w : World) : Nat → Option Nat → List C → Prop
  | 0, v, l => v = none ∧ l = []
  | n + 1, v, l => (v = none ∧ l = []) ∨ ∃ b lv rv l1 x l2, v = some b ∧ Nod w b x (.pointer (lv.map (fun i => ⟨i, 0, none⟩))) (.pointer (rv.map (fun i => ⟨i, 0, none⟩))) l.length ∧ l = l1 ++ x :: l2 ∧ Tr w n lv l1 ∧ Tr w n rv l2
def pt (v : Option Nat) : Value := .pointer (v.map (fun i => ⟨i, 0, none⟩))
theorem pt_none : pt none = .pointer none := rfl
theorem pt_some (b : Nat) : pt (some b) = .pointer (some ⟨b, 0, none⟩) := rfl
theorem Tr.up {w : World} : ∀ {n : Nat} {v : Option Nat} {l : List C}, Tr w n v l → Tr w (n + 1) v l
  | 0, _, _, h => Or.inl h
  | n + 1, v, l, h => by
    rcases h with h | ⟨b, lv, rv, l1, x, l2, h1, h2, h3, h4, h5⟩
    · exact Or.inl h
    · exact Or.inr ⟨b, lv, rv, l1, x, l2, h1, h2, h3, h4.up, h5.up⟩
theorem Tr.ups {w : World} {n m : Nat} {v : Option Nat} {l : List C} (h : Tr w n v l) (hm : n ≤ m) : Tr w m v l := by
  induction hm with
  | refl => exact h
  | step _ ih => exact ih.up
theorem Tr.at {w w' : World} (hk : ∀ (b : Nat) (c : Array Value), w.heap[b]? = some (Obj.cells c 69) → w'.heap[b]? = some (Obj.cells c 69)) : ∀ {n : Nat} {v : Option Nat} {l : List C}, Tr w n v l → Tr w' n v l
  | 0, _, _, h => h
  | n + 1, v, l, h => by
    rcases h with h | ⟨b, lv, rv, l1, x, l2, h1, h2, h3, h4, h5⟩
    · exact Or.inl h
    · exact Or.inr ⟨b, lv, rv, l1, x, l2, h1, hk _ _ h2, h3, h4.at hk, h5.at hk⟩
/-- A tree. -/
def Tree (w : World) (v : Option Nat) (l : List C) : Prop := ∃ n, Tr w n v l
theorem Tree.at {w w' : World} {v : Option Nat} {l : List C} (h : Tree w v l) (hk : ∀ (b : Nat) (c : Array Value), w.heap[b]? = some (Obj.cells c 69) → w'.heap[b]? = some (Obj.cells c 69)) : Tree w' v l := by
  obtain ⟨n, h⟩ := h
  exact ⟨n, h.at hk⟩
theorem Tree.bel {w w' : World} {v : Option Nat} {l : List C} (h : Tree w v l) (hb : Bel w w') : Tree w' v l := h.at (fun _ _ h => hb.row h)
theorem Tr.bel {w w' : World} {n : Nat} {v : Option Nat} {l : List C} (h : Tr w n v l) (hb : Bel w w') : Tr w' n v l := h.at (fun _ _ h => hb.row h)
theorem Tree.zero (w : World) : Tree w none [] := ⟨0, rfl, rfl⟩
theorem Tree.nil {w : World} {l : List C} (h : Tree w none l) : l = [] := by
  obtain ⟨n, h⟩ := h
  cases n with
  | zero => exact h.2
  | succ n =>
    rcases h with h | ⟨b, _, _, _, _, _, h1, _⟩
    · exact h.2
    · cases h1
/-- A tree that is not nothing. -/
theorem Tree.one {w : World} {b : Nat} {l : List C} (h : Tree w (some b) l) : ∃ lv rv l1 x l2, Nod w b x (pt lv) (pt rv) l.length ∧ l = l1 ++ x :: l2 ∧ Tree w lv l1 ∧ Tree w rv l2 := by
  obtain ⟨n, h⟩ := h
  cases n with
  | zero => cases h.1
  | succ n =>
    rcases h with h | ⟨b', lv, rv, l1, x, l2, h1, h2, h3, h4, h5⟩
    · cases h.1
    · cases h1
      exact ⟨lv, rv, l1, x, l2, h2, h3, ⟨n, h4⟩, ⟨n, h5⟩⟩
theorem Tree.mk {w : World} {b : Nat} {lv rv : Option Nat} {l1 l2 : List C} {x : C} {k : Nat} (h : Nod w b x (pt lv) (pt rv) k) (hk : k = (l1 ++ x :: l2).length) (h1 : Tree w lv l1) (h2 : Tree w rv l2) : Tree w (some b) (l1 ++ x :: l2) := by
  obtain ⟨n, h1⟩ := h1
  obtain ⟨m, h2⟩ := h2
  subst hk
  exact ⟨max n m + 1, Or.inr ⟨b, lv, rv, l1, x, l2, rfl, h, rfl, h1.ups (Nat.le_max_left _ _), h2.ups (Nat.le_max_right _ _)⟩⟩
theorem Tree.has {w : World} {v : Option Nat} {l : List C} (h : Tree w v l) (hl : l ≠ []) : ∃ b, v = Option.some b := by
  cases v with
  | none => exact absurd h.nil hl
  | some b => exact ⟨b, rfl⟩
theorem Nod.c0 {w : World} {b : Nat} {x : C} {lv rv : Value} {n : Nat} (h : Nod w b x lv rv n) : w.cell? ⟨b, 0, none⟩ = some (.string x.k) := cell_of h
theorem Nod.c1 {w : World} {b : Nat} {x : C} {lv rv : Value} {n : Nat} (h : Nod w b x lv rv n) : w.cell? ⟨b, 1, none⟩ = some (.int .u64 x.t) := cell_of h
theorem Nod.c2 {w : World} {b : Nat} {x : C} {lv rv : Value} {n : Nat} (h : Nod w b x lv rv n) : w.cell? ⟨b, 2, none⟩ = some (.bool x.d) := cell_of h
theorem Nod.c3 {w : World} {b : Nat} {x : C} {lv rv : Value} {n : Nat} (h : Nod w b x lv rv n) : w.cell? ⟨b, 3, none⟩ = some (.string x.v) := cell_of h
theorem Nod.c4 {w : World} {b : Nat} {x : C} {lv rv : Value} {n : Nat} (h : Nod w b x lv rv n) : w.cell? ⟨b, 4, none⟩ = some lv := cell_of h
theorem Nod.c5 {w : World} {b : Nat} {x : C} {lv rv : Value} {n : Nat} (h : Nod w b x lv rv n) : w.cell? ⟨b, 5, none⟩ = some rv := cell_of h
theorem Nod.c6 {w : World} {b : Nat} {x : C} {lv rv : Value} {n : Nat} (h : Nod w b x lv rv n) : w.cell? ⟨b, 6, none⟩ = some (.int .i64 n) := cell_of h
theorem Nod.bel {w w' : World} {b : Nat} {x : C} {lv rv : Value} {n : Nat} (h : Nod w b x lv rv n) (hb : Bel w w') : Nod w' b x lv rv n := hb.row h
/-- A world in which all that was there stands. -/
structure BelBy (w : World) where
  W : World
  h : Bel w W
theorem BelBy.some (w : World) : Nonempty (BelBy w) := ⟨⟨w, Bel.refl _⟩⟩
theorem wp_region_bel {P : Program} {id : Nat} {Q : Exit → Act → World → Prop} {a : Act} {w : World} {l : List Oper} (hm : P.follows .mixedOrders = true) (hB : Region.lexB .any l.toArray = true)
    (h : wpQuiet P l.toArray (fun w' => ∃ p : BelBy w, w' = p.W) (fun a' => ∀ w', (∃ p : BelBy w, w' = p.W) → Q .normal a' w') l a) : (Code.region id l.toArray true).wp P Q a w :=
  wp_region_quiet (C := fun w' => ∃ p : BelBy w, w' = p.W) hm hB ⟨⟨w.drew, (Bel.refl _).drew⟩, rfl⟩ (by simpa using h)
theorem cell_bel {w : World} {k i : Nat} {v : Value} {c : Array Value} {t : TypeId} (h : w.heap[k]? = Option.some (.cells c t)) (hv : c[i]? = Option.some v) (p : BelBy w) : p.W.cell? ⟨k, i, none⟩ = Option.some v := (cell_of (p.h.row h)).trans hv
theorem calls_by {P : Program} {f : FuncId} {args : Array Value} {w : World} {p : BelBy w} {v : Value}
    (h : Calls P f args p.W fun e w' => e = .returned v ∧ Bel p.W w') : Calls P f args p.W fun e w'' => e = .returned v ∧ ∃ p' : BelBy w, w'' = p'.W :=
  h.mono fun _ w' ⟨he, hb⟩ => ⟨he, ⟨w', p.h.trans hb⟩, rfl⟩
theorem Try.follows : Try.prog.follows .mixedOrders = true := by kernel_rfl
end Go.Proofs.Ytkpallbnmckbaaa
