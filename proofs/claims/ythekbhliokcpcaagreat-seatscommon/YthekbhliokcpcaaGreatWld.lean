/- What a call may change; maps in memory. -/
import Derived.Test.YthekbhliokcpcaaGreatPln
import Derived.Test.YthekbhliokcpcaaGreatProg
import Derived.Laws.OwnMore
import Derived.Deep.AppendLies
import Derived.Deep.OwnRows
import Derived.WalkLawsBesides
import Derived.WalkSpells
import Derived.Laws.IdiomStrings
import Derived.BigQuiet
import Derived.RangeFuncBox
import Derived.Maps.OwnSet
import Derived.Maps.RangeWalk
import Derived.WideKeyEntry
import Derived.DeepKeys5
import Derived.ArgAppend
import Derived.Deep.Upon
import Derived.WalkKit
import Derived.Deep.QuietTactic
namespace Go.Proofs.YthekbhliokcpcaaGreat
open Go.RowKit Go.Maps
theorem hide {p : Prop} (h : p) : Hid p := h
theorem unhide {p : Prop} (h : Hid p) : p := h
theorem wrapI {n : Int} (h0 : -9223372036854775808 ≤ n) (h1 : n < 9223372036854775808) : IntKind.i64.wrap n = n := by
  rw [IntKind.wrap_i64]
  omega
def Bel (w w' : World) : Prop := Below w.heap.size w w'
theorem Bel.refl (w : World) : Bel w w := Below.refl _ _
theorem Bel.trans {a b c : World} (h : Bel a b) (k : Bel b c) : Bel a c := Below.trans h (Below.mono k h.size)
theorem Bel.drew {a b : World} (h : Bel a b) : Bel a b.drew := Below.drew h
theorem Bel.drewN {a b : World} (h : Bel a b) (n : Nat) : Bel a (b.drewN n) := ⟨h.os, h.tape, h.output, h.size, h.block⟩
theorem Bel.alloc {a b : World} (h : Bel a b) (o : Obj) : Bel a (b.alloc o) := Below.alloc h h.size o
theorem lt_of_some {w : World} {k : Nat} {o : Obj} (h : w.heap[k]? = some o) : k < w.heap.size := (Array.getElem?_eq_some_iff.1 h).1
theorem Bel.row {a b : World} (h : Bel a b) {k : Nat} {o : Obj} (hr : a.heap[k]? = some o) : b.heap[k]? = some o := (h.block k (lt_of_some hr)).trans hr
/-- Of what was there nothing has changed but blocks of M. -/
structure Ch (M : Nat → Prop) (w w' : World) : Prop where
  os : w'.os = w.os
  tape : w'.tape = w.tape
  output : w'.output = w.output
  size : w.heap.size ≤ w'.heap.size
  block : ∀ k, k < w.heap.size → ¬ M k → w'.heap[k]? = w.heap[k]?
theorem Ch.refl (M : Nat → Prop) (w : World) : Ch M w w := ⟨rfl, rfl, rfl, Nat.le_refl _, fun _ _ _ => rfl⟩
theorem Ch.trans {M M' : Nat → Prop} {a b c : World} (h : Ch M a b) (k : Ch M' b c) (hm : ∀ i, M' i → M i ∨ a.heap.size ≤ i) : Ch M a c :=
  ⟨k.os.trans h.os, k.tape.trans h.tape, k.output.trans h.output, Nat.le_trans h.size k.size, fun i hi hn => (k.block i (Nat.lt_of_lt_of_le hi h.size) (fun h' => (hm i h').elim hn (fun h2 => by omega))).trans (h.block i hi hn)⟩
theorem Ch.mono {M M' : Nat → Prop} {a b : World} (h : Ch M a b) (hm : ∀ i, M i → M' i) : Ch M' a b := ⟨h.os, h.tape, h.output, h.size, fun i hi hn => h.block i hi (fun h' => hn (hm i h'))⟩
theorem Ch.bel {M : Nat → Prop} {a b c : World} (h : Ch M a b) (k : Bel b c) : Ch M a c :=
  ⟨k.os.trans h.os, k.tape.trans h.tape, k.output.trans h.output, Nat.le_trans h.size k.size, fun i hi hn => (k.block i (Nat.lt_of_lt_of_le hi h.size)).trans (h.block i hi hn)⟩
theorem Bel.ch {a b : World} (k : Bel a b) (M : Nat → Prop) : Ch M a b := (Ch.refl M a).bel k
theorem Ch.set {M : Nat → Prop} {a b : World} (h : Ch M a b) {ad : Addr} (hm : M ad.block ∨ a.heap.size ≤ ad.block) (v : Value) : Ch M a (b.setCell ad v) := by
  refine ⟨?_, ?_, ?_, ?_, fun i hi hn => ?_⟩
  · rw [← h.os]; unfold World.setCell; split <;> rfl
  · rw [← h.tape]; unfold World.setCell; split <;> rfl
  · rw [← h.output]; unfold World.setCell; split <;> rfl
  · have : (b.setCell ad v).heap.size = b.heap.size := by unfold World.setCell; split <;> simp
    rw [this]; exact h.size
  · rw [Below.heap_setCell _ _ _ _ (fun e => ?_)]
    · exact h.block i hi hn
    · rcases hm with h' | h'
      · rw [← e] at h'; exact hn h'
      · omega
theorem Ch.below {M : Nat → Prop} {a b : World} {B : Nat} (h : Ch M a b) (hB : B ≤ a.heap.size) (hm : ∀ i, M i → B ≤ i) : Below B a b :=
  ⟨h.os, h.tape, h.output, h.size, fun i hi => h.block i (by omega) (fun h' => by have := hm i h'; omega)⟩
theorem Ch.row {M : Nat → Prop} {a b : World} (h : Ch M a b) {k : Nat} {o : Obj} (hr : a.heap[k]? = some o) (hn : ¬ M k) : b.heap[k]? = some o := (h.block k (lt_of_some hr) hn).trans hr
theorem cell_of {W : World} {B i : Nat} {c : Array Value} {t : TypeId} (h : W.heap[B]? = some (.cells c t)) : W.cell? ⟨B, i, none⟩ = c[i]? := by
  simp only [World.cell?, h]; rfl
theorem free_row {W : World} {b p : Nat} {c : Array Value} {t : TypeId} (h : W.heap[b]? = some (.cells c t)) : W.frozen? ⟨b, p, none⟩ = false := by
  unfold World.frozen?
  simp only [h]
  simp
theorem row_set {W : World} {b p : Nat} {c : Array Value} {t : TypeId} {fr : Nat × Nat} {v : Value} (h : W.heap[b]? = some (.cells c t fr)) : (W.setCell ⟨b, p, none⟩ v).heap[b]? = some (.cells (c.setIfInBounds p v) t fr) := by
  rw [setCell_eq_setRow W b p c t fr v h]
  exact setRow_heap W b c _ t fr h
theorem at_new (w : World) (o : Obj) : (w.alloc o).heap[w.heap.size]? = some o := World.alloc_heap_new w o
/-- A world in which all that was there stands. -/
structure BelBy (w : World) where
  W : World
  h : Bel w W
theorem BelBy.some (w : World) : Nonempty (BelBy w) := ⟨⟨w, Bel.refl _⟩⟩
theorem wp_region_bel {P : Program} {id : Nat} {Q : Exit → Act → World → Prop} {a : Act} {w : World} {l : List Oper} (hm : P.follows .mixedOrders = true) (hB : Region.lexB .any l.toArray = true)
    (h : wpQuiet P l.toArray (fun w' => ∃ p : BelBy w, w' = p.W) (fun a' => ∀ w', (∃ p : BelBy w, w' = p.W) → Q .normal a' w') l a) : (Code.region id l.toArray true).wp P Q a w :=
  wp_region_quiet (C := fun w' => ∃ p : BelBy w, w' = p.W) hm hB ⟨⟨w.drew, (Bel.refl _).drew⟩, rfl⟩ (by simpa using h)
theorem cell_bel {w : World} {k i : Nat} {v : Value} {c : Array Value} {t : TypeId} (h : w.heap[k]? = Option.some (.cells c t)) (hv : c[i]? = Option.some v) (p : BelBy w) : p.W.cell? ⟨k, i, none⟩ = Option.some v := (cell_of (p.h.row h)).trans hv
theorem calls_by {P : Program} {f : FuncId} {args : Array Value} {w : World} {p : BelBy w} {v : Value}
    (h : Calls P f args p.W fun e w' => e = .returned v ∧ Bel p.W w') : Calls P f args p.W fun e w'' => e = .returned v ∧ ∃ p' : BelBy w, w'' = p'.W :=
  h.mono fun _ w' ⟨he, hb⟩ => ⟨he, ⟨w', p.h.trans hb⟩, rfl⟩
theorem Tryz.follows : Tryz.prog.follows .mixedOrders = true := by kernel_rfl

theorem Ch.grown {M : Nat → Prop} {a b c : World} {row : Option Nat} (h : Ch M a b) (k : b.grownBy c row) (hm : ∀ i, row = some i → M i ∨ a.heap.size ≤ i) : Ch M a c :=
  ⟨k.os.trans h.os, k.tape.trans h.tape, k.output.trans h.output, Nat.le_trans h.size k.size, fun i hi hn => (k.block i (Nat.lt_of_lt_of_le hi h.size) (fun e => (hm i e.symm).elim hn (fun h2 => by omega))).trans (h.block i hi hn)⟩
theorem Ch.turned {M : Nat → Prop} {a b c : World} {k : Nat} (h : Ch M a b) (t : b.mapTurned c k) (hm : M k ∨ a.heap.size ≤ k) : Ch M a c := h.grown t.grown (fun i hi => by cases hi; exact hm)
theorem Ch.drew {M : Nat → Prop} {a b : World} (h : Ch M a b) : Ch M a b.drew := h.bel (Bel.refl b).drew
theorem Ch.alloc {M : Nat → Prop} {a b : World} (h : Ch M a b) (o : Obj) : Ch M a (b.alloc o) := h.bel ((Bel.refl b).alloc o)
theorem Bel.cell {w w' : World} (h : Bel w w') {ad : Addr} {v : Value} (hc : w.cell? ad = some v) : w'.cell? ad = some v := (Below.cell h (World.block_lt_of_cell? _ _ hc)).trans hc
theorem Bel.kept {a b : World} (h : Bel a b) : a.keptBut b (fun _ => False) := Below.frame h _
/-! ### maps -/
/-- An element of a map stands for itself. -/
def HV (v : Value) : Option (DataW Value × List MemPlace) := some (.held v, [])
/-- A value that may be a key. -/
def KeyOK (k : TypeId) (x : Value) : Prop := ∃ l, keyOf Tryz.prog k x = some l
/-- Block b is a map of at most n entries that has just what f has; its keys are of the form mk. -/
def Mg {α : Type} (k : TypeId) (mk : α → Value) (w : World) (b n : Nat) (f : α → Option Value) : Prop :=
  (∃ D, w.ownsMap Tryz.prog k HV b n D ∧ ∀ x l, keyOf Tryz.prog k (mk x) = some l → Maps.has D l = (f x).isSome ∧ ∀ v, f x = some v → ∀ z, D.atKey l z = .held v) ∧ ∀ x v, f x = some v → KeyOK k (mk x)
theorem own_at {w w' : World} {b n : Nat} {D : DataW Value} {P : Program} {k : TypeId} {R : Value → Option (DataW Value × List MemPlace)} (h : w.ownsMap P k R b n D) (e : w'.heap[b]? = w.heap[b]?) : w'.ownsMap P k R b n D := by
  obtain ⟨es, clock, hb, r⟩ := h
  exact ⟨es, clock, e.trans hb, r⟩
section
variable {α : Type} {k t e : TypeId} {mk : α → Value} {w w' : World} {b n : Nat} {f : α → Option Value} {z : Value} {x : α}
theorem Mg.lt (h : Mg k mk w b n f) : b < w.heap.size := by
  obtain ⟨⟨D, h, _⟩, _⟩ := h
  exact World.ownsMap.lt h
theorem Mg.at (h : Mg k mk w b n f) (e : w'.heap[b]? = w.heap[b]?) : Mg k mk w' b n f := by
  obtain ⟨⟨D, h1, h2⟩, h3⟩ := h
  exact ⟨⟨D, own_at h1 e, h2⟩, h3⟩
theorem Mg.bel (h : Mg k mk w b n f) (c : Bel w w') : Mg k mk w' b n f := h.at (c.block b h.lt)
theorem Mg.mono {n' : Nat} (h : Mg k mk w b n f) (hn : n ≤ n') : Mg k mk w b n' f := by
  obtain ⟨⟨D, h1, h2⟩, h3⟩ := h
  exact ⟨⟨D, h1.mono hn, h2⟩, h3⟩
theorem Mg.isMap (h : Mg k mk w b n f) : ∃ es clock, w.heap[b]? = some (.map es clock) := by
  obtain ⟨⟨D, ⟨es, clock, hb, _⟩, _⟩, _⟩ := h
  exact ⟨es, clock, hb⟩
theorem Mg.ne_row {j : Nat} {c : Array Value} {t : TypeId} {fr : Nat × Nat} (h : Mg k mk w b n f) (hr : w.heap[j]? = some (.cells c t fr)) : b ≠ j := by
  obtain ⟨es, clock, hb⟩ := h.isMap
  intro e
  rw [e, hr] at hb
  cases hb
theorem Mg.new (k : TypeId) (mk : α → Value) (w : World) : Mg k mk (w.alloc (.map #[] 0)) w.heap.size 0 (fun _ => none) :=
  ⟨⟨.map [], World.ownsMap_made _ _ _ _, fun x l _ => ⟨rfl, fun v h => by cases h⟩⟩, fun x v h => by cases h⟩
/-- f with another value at x. -/
def upd [DecidableEq α] (f : α → Option Value) (x : α) (v : Option Value) : α → Option Value := fun y => if y = x then v else f y
theorem upd_same [DecidableEq α] (f : α → Option Value) (x : α) (v : Option Value) : upd f x v x = v := if_pos rfl
theorem upd_ne [DecidableEq α] (f : α → Option Value) {x y : α} (v : Option Value) (h : y ≠ x) : upd f x v y = f y := if_neg h
theorem Mg.look (h : Mg k mk w b n f) (K : Keyed Tryz.prog k) (ht : Tryz.prog.underlying t = some (.map k e)) (hz : (zeroValue e).run Tryz.prog w = .ok z w) (hx : KeyOK k (mk x)) : (Instr.lookup t (.map (some b)) (mk x) false).run Tryz.prog w = .ok ((f x).getD z) w := by
  obtain ⟨⟨D, h1, h2⟩, _⟩ := h
  obtain ⟨l, hl⟩ := hx
  obtain ⟨v, ps, hr, hv⟩ := h1.lookup K ht hz (zd := .held z) (zp := []) rfl hl
  obtain ⟨e1, e2⟩ := h2 x l hl
  have hv' : v = (f x).getD z := by
    unfold HV at hv
    simp only [Option.some.injEq, Prod.mk.injEq] at hv
    cases hf : f x with
    | none =>
      rw [hf] at e1
      rw [atKey_of_not_has (by simpa using e1)] at hv
      simpa using hv.1
    | some y =>
      rw [e2 y hf] at hv
      simpa using hv.1
  rw [hr, hv']
variable [DecidableEq α]
theorem upd_key (h : ∀ x v, f x = some v → KeyOK k (mk x)) (hx : KeyOK k (mk x)) (v : Option Value) : ∀ y u, upd f x v y = some u → KeyOK k (mk y) := by
  intro y u hu
  by_cases e : y = x
  · rw [e]; exact hx
  · rw [upd_ne f v e] at hu; exact h y u hu
theorem Mg.put_of {D : DataW Value} {m : Nat} {v : Value} (K : Keyed Tryz.prog k) (hmk : ∀ x y, mk x = mk y → x = y) (h2 : ∀ x l, keyOf Tryz.prog k (mk x) = some l → Maps.has D l = (f x).isSome ∧ ∀ v, f x = some v → ∀ z, D.atKey l z = .held v) (h3 : ∀ x v, f x = some v → KeyOK k (mk x)) (hm : IsMap D) {l : Lit} (hl : keyOf Tryz.prog k (mk x) = some l) (h' : w'.ownsMap Tryz.prog k HV b m (D.put l (.held v))) : Mg k mk w' b m (upd f x (some v)) := by
  refine ⟨⟨_, h', fun y ly hy => ?_⟩, upd_key h3 ⟨l, hl⟩ _⟩
  have hk := K.key hl
  by_cases e : y = x
  · subst e
    rw [hl] at hy
    cases hy
    rw [upd_same]
    exact ⟨has_put_same hm hk _, fun u hu z => by cases hu; exact atKey_put_same hm hk _ _⟩
  · have hne : ly ≠ l := fun e' => e (hmk _ _ (K.inj hy (by rw [e']; exact hl)))
    rw [upd_ne f _ e]
    refine ⟨(has_put_other hne _).trans (h2 y ly hy).1, fun u hu z => ?_⟩
    rw [atKey_put_other hne]
    exact (h2 y ly hy).2 u hu z
theorem Mg.store (h : Mg k mk w b n f) (K : Keyed Tryz.prog k) (hmk : ∀ x y, mk x = mk y → x = y) (ht : Tryz.prog.underlying t = some (.map k e)) (hn : n ≤ 1000000) (hx : KeyOK k (mk x)) (v : Value) :
    ∃ w', (Instr.mapUpdate t (.map (some b)) (mk x) v).run Tryz.prog w = .ok () w' ∧ Mg k mk w' b (n + 1) (upd f x (some v)) ∧ w.mapTurned w' b := by
  obtain ⟨⟨D, h1, h2⟩, h3⟩ := h
  obtain ⟨l, hl⟩ := hx
  obtain ⟨w', r1, r2, r3⟩ := h1.store K ht (by unfold maxLen; omega) hl (d := .held v) (ps := []) rfl
  exact ⟨w', r1, Mg.put_of K hmk h2 h3 h1.isMap hl r2, r3⟩
theorem Mg.dele (h : Mg k mk w b n f) (K : Keyed Tryz.prog k) (hmk : ∀ x y, mk x = mk y → x = y) (ht : Tryz.prog.underlying t = some (.map k e)) (hx : KeyOK k (mk x)) (ty : TypeId) :
    ∃ w', (Builtin.delete_ #[t, k] ty #[.map (some b), mk x]).run Tryz.prog w = .ok (.tuple #[]) w' ∧ Mg k mk w' b n (upd f x none) ∧ w.mapTurned w' b := by
  obtain ⟨⟨D, h1, h2⟩, h3⟩ := h
  obtain ⟨l, hl⟩ := hx
  obtain ⟨w', r1, r2, r3⟩ := h1.drop K ht hl ty
  refine ⟨w', r1, ⟨⟨_, r2, fun y ly hy => ?_⟩, upd_key h3 ⟨l, hl⟩ _⟩, r3⟩
  by_cases e : y = x
  · subst e
    rw [hl] at hy
    cases hy
    rw [upd_same]
    exact ⟨has_del_same, fun u hu z => by cases hu⟩
  · have hne : ly ≠ l := fun e' => e (hmk _ _ (K.inj hy (by rw [e']; exact hl)))
    rw [upd_ne f _ e]
    refine ⟨(has_del_other hne).trans (h2 y ly hy).1, fun u hu z => ?_⟩
    rw [atKey_del_other hne]
    exact (h2 y ly hy).2 u hu z
/-- 'm[k] op= ..': the entry is taken, then what was reckoned is stored into it. -/
theorem Mg.entry (h : Mg k mk w b n f) (K : WideMaps.KeyLaw Tryz.prog k) (hmk : ∀ x y, mk x = mk y → x = y) (ht : Tryz.prog.underlying t = some (.map k e)) (hz : ∀ u : World, (zeroValue e).run Tryz.prog u = .ok z u) (hn : n ≤ 1000000) (hx : KeyOK k (mk x)) :
    ∃ (st : Nat) (w1 : World), (Instr.mapEntry t (.map (some b)) (mk x)).run Tryz.prog w = .ok (.tuple #[(f x).getD z, .int .i64 (st : Int)]) w1 ∧ w.mapTurned w1 b ∧
      ∀ (w2 : World) (v : Value), w2.heap[b]? = w1.heap[b]? → ∃ w3, (Instr.entryStore t (.map (some b)) (.int .i64 (st : Int)) v).run Tryz.prog w2 = .ok () w3 ∧ Mg k mk w3 b (n + 1) (upd f x (some v)) ∧ w2.mapTurned w3 b := by
  have hlook := h.look (Keyed.of_law K) ht (hz w) hx
  obtain ⟨⟨D, h1, h2⟩, h3⟩ := h
  obtain ⟨l, hl⟩ := hx
  have h1' := h1
  obtain ⟨es, clock, hb, F, hs, hD⟩ := h1'
  obtain ⟨v0, st, es1, clock1, r1, r2, r3⟩ := WideElems.entry_then_store K ht hz hb F hl
  have hv0 : v0 = (f x).getD z := by
    rcases r2 with ⟨e0, he0, hk0, rfl⟩ | ⟨hno, rfl⟩
    · have hfl := Maps.fit_look (w := w) false (Keyed.of_law K) ht (hz w) hb F hl
      rcases hfl with ⟨q1, q2, _⟩ | ⟨e1', y, q1, q2, q3, _⟩
      · exact absurd hk0 (q2 e0 he0)
      · rw [hlook] at q3
        have : e1' = e0 := entry_eq_of_key (List.pairwise_map.1 F.stamped.2.2) q1 he0 (q2.trans hk0.symm)
        subst this
        simpa using q3.symm
    · have hfl := Maps.fit_look (w := w) false (Keyed.of_law K) ht (hz w) hb F hl
      rcases hfl with ⟨q1, q2, _⟩ | ⟨e1', y, q1, q2, q3, _⟩
      · rw [hlook] at q1
        simpa using q1.symm
      · exact absurd q2 (hno e1' q1)
  subst hv0
  refine ⟨st, _, r1, ⟨es, clock, es1, clock1, hb, rfl⟩, fun w2 v hw2 => ?_⟩
  rw [ChangeMaps.heap_setBlock_same hb] at hw2
  obtain ⟨es', clock', s1, s2⟩ := r3 w2 v hw2
  obtain ⟨w', q1, q2, q3⟩ := h1.store (Keyed.of_law K) ht (by unfold maxLen; omega) hl (d := .held v) (ps := []) rfl
  rw [s2] at q1
  cases q1
  refine ⟨_, s1, ?_, ⟨es1, clock1, es', clock', hw2, rfl⟩⟩
  refine (Mg.put_of (Keyed.of_law K) hmk h2 h3 h1.isMap hl q2).at ?_
  rw [ChangeMaps.heap_setBlock_same hw2, ChangeMaps.heap_setBlock_same hb]
end
end Go.Proofs.YthekbhliokcpcaaGreat
