/- A wal in memory: its cells, its records, its disk; what its calls leave as it was. -/
import Derived.Test.YtgimciacapfbfaaGreatDoorPtr
import Derived.Test.YtgimciacapfbfaaGreatDoorFrm
namespace Go.Proofs.YtgimciacapfbfaaGreatDoor
open Go.RowKit Go.Maps Go.WideMaps
/-- G stands. -/
structure Kp (G : Nat → Prop) (W W' : World) : Prop where
  os : W'.os = W.os
  tape : W'.tape = W.tape
  output : W'.output = W.output
  size : W.heap.size ≤ W'.heap.size
  block : ∀ k, G k → W'.heap[k]? = W.heap[k]?
theorem Kp.refl (G : Nat → Prop) (W : World) : Kp G W W := ⟨rfl, rfl, rfl, Nat.le_refl _, fun _ _ => rfl⟩
theorem Kp.trans {G : Nat → Prop} {a b c : World} (h : Kp G a b) (k : Kp G b c) : Kp G a c := ⟨k.os.trans h.os, k.tape.trans h.tape, k.output.trans h.output, Nat.le_trans h.size k.size, fun i hi => (k.block i hi).trans (h.block i hi)⟩
theorem Kp.less {G G' : Nat → Prop} {a b : World} (h : Kp G a b) (hg : ∀ i, G' i → G i) : Kp G' a b := ⟨h.os, h.tape, h.output, h.size, fun i hi => h.block i (hg i hi)⟩
theorem Kp.row {G : Nat → Prop} {a b : World} (h : Kp G a b) {k : Nat} {o : Obj} (hk : G k) (hr : a.heap[k]? = some o) : b.heap[k]? = some o := (h.block k hk).trans hr
theorem Bel.kp {G : Nat → Prop} {a b : World} (h : Bel a b) (hg : ∀ i, G i → i < a.heap.size) : Kp G a b := ⟨h.os, h.tape, h.output, h.size, fun i hi => h.block i (hg i hi)⟩
theorem Ch.kp {G M : Nat → Prop} {a b : World} (h : Ch M a b) (hg : ∀ i, G i → i < a.heap.size) (hd : ∀ i, M i → ¬ G i) : Kp G a b := ⟨h.os, h.tape, h.output, h.size, fun i hi => h.block i (hg i hi) (fun hm => hd i hm hi)⟩
theorem Kp.bel {G : Nat → Prop} {w W W' : World} (k : Kp G W W') (h : Bel w W) (g : ∀ i, i < w.heap.size → G i) : Bel w W' := ⟨k.os.trans h.os, k.tape.trans h.tape, k.output.trans h.output, Nat.le_trans h.size k.size, fun i hi => (k.block i (g i hi)).trans (h.block i hi)⟩
theorem Kp.cell {G : Nat → Prop} {a b : World} (h : Kp G a b) {k i : Nat} (hk : G k) : b.cell? ⟨k, i, none⟩ = a.cell? ⟨k, i, none⟩ := by
  unfold World.cell?
  rw [h.block k hk]
/-- A wal, plain: its name, its first number, its last file's number, its records with their ends. -/
structure PW where
  nm : List UInt8
  first : Nat
  last : Nat
  rs : List (List UInt8 × Nat)
/-- The cells of records. -/
def rcs : List (List UInt8 × Nat) → List Value
  | [] => []
  | r :: l => vS r.1 :: .int .i64 r.2 :: rcs l
theorem rcs_len : ∀ l : List (List UInt8 × Nat), (rcs l).length = l.length * 2
  | [] => rfl
  | _ :: l => by have := rcs_len l; simp [rcs]; omega
theorem rcs_app : ∀ (l k : List (List UInt8 × Nat)), rcs (l ++ k) = rcs l ++ rcs k
  | [], _ => rfl
  | _ :: l, k => by simp [rcs, rcs_app l k]
theorem rcs_get : ∀ (l : List (List UInt8 × Nat)) (j : Nat) (h : j < l.length), (rcs l)[j * 2]? = some (vS l[j].1) ∧ (rcs l)[j * 2 + 1]? = some (.int .i64 (l[j].2 : Nat))
  | r :: l, 0, _ => ⟨rfl, rfl⟩
  | r :: l, j + 1, h => by
    have := rcs_get l j (by simpa using h)
    rw [show (j + 1) * 2 = j * 2 + 1 + 1 by omega, show j * 2 + 1 + 1 + 1 = (j * 2 + 1) + 1 + 1 by omega]
    exact this
theorem rcs_one : ∀ (l : List (List UInt8 × Nat)), ∀ u ∈ rcs l, u.oneCell' = true
  | [] => by simp [rcs]
  | r :: l => by
    intro u hu
    simp only [rcs, List.mem_cons] at hu
    rcases hu with rfl | rfl | h
    · rfl
    · rfl
    · exact rcs_one l u h
/-- A wal's five cells and its records. -/
structure Wc (W : World) (q p : Nat) (v : Value) (x : PW) : Prop where
  row : W.heap[q]? = some (.cells #[.pointer (some ⟨p, 0, none⟩), vS x.nm, .int .i64 x.first, .int .i64 x.last, v] 55)
  own : W.ownsRow 0 67 2 v x.rs.length (rcs x.rs)
/-- Nothing is shared. -/
structure Apt (G : Nat → Prop) (q : Nat) (v : Value) (M B : Nat → Prop) : Prop where
  mg : ∀ i, M i → ¬ G i
  bg : ∀ i, B i → ¬ G i
  aq : ¬ G q ∧ ¬ M q ∧ ¬ B q
  av : ∀ k, v.ownBlock = some k → ¬ G k ∧ ¬ M k ∧ ¬ B k ∧ k ≠ q
/-- A wal and its disk; none of their calls changes G. -/
structure Wa (w0 : World) (C : Nat) (G : Nat → Prop) (W : World) (q p : Nat) (x : PW) (d : PD) : Prop where
  ex : ∃ v M B, Wc W q p v x ∧ Dk C W p d M B ∧ Apt G q v M B
  lt : ∀ i, G i → i < W.heap.size
  g0 : ∀ i, i < w0.heap.size → G i
  bel : Bel w0 W
theorem wa_disk {w0 W w' : World} {C' : Nat} {G : Nat → Prop} {q p : Nat} {x : PW} {d' : PD} {v : Value} {M B : Nat → Prop} (hw : Wc W q p v x) (ha : Apt G q v M B) (lt : ∀ i, G i → i < W.heap.size) (g0 : ∀ i, i < w0.heap.size → G i) (bel : Bel w0 W) (af : Aft C' W p M B d' w') : Wa w0 C' G w' q p x d' ∧ Kp G W w' := by
  obtain ⟨M', B', k1, k2, k3, k4⟩ := af
  have hq := lt_of_some hw.row
  have hkp : Kp G W w' := k4.kp lt ha.mg
  have hvl := fun k hk => (hw.own.lt k hk).2
  refine ⟨⟨⟨v, M', B', ⟨k4.row hw.row ha.aq.2.1, row_at hw.own (fun k hk => k4.block k (hvl k hk) (ha.av k hk).2.1)⟩, k1, ⟨fun i hi hg => ?_, fun i hi hg => ?_, ⟨ha.aq.1, fun hi => ?_, fun hi => ?_⟩, fun k hk => ⟨(ha.av k hk).1, fun hi => ?_, fun hi => ?_, (ha.av k hk).2.2.2⟩⟩⟩, fun i hi => Nat.lt_of_lt_of_le (lt i hi) hkp.size, g0, hkp.bel bel g0⟩, hkp⟩
  · rcases k2 i hi with h | h
    · exact ha.mg i h hg
    · have := lt i hg; omega
  · rcases k3 i hi with h | h
    · exact ha.bg i h hg
    · have := lt i hg; omega
  · rcases k2 q hi with h | h
    · exact ha.aq.2.1 h
    · omega
  · rcases k3 q hi with h | h
    · exact ha.aq.2.2 h
    · omega
  · rcases k2 k hi with h | h
    · exact (ha.av k hk).2.1 h
    · have := hvl k hk; omega
  · rcases k3 k hi with h | h
    · exact (ha.av k hk).2.2.1 h
    · have := hvl k hk; omega
/-- A call of the disk. -/
theorem Wa.call {w0 W : World} {C C' : Nat} {G : Nat → Prop} {q p : Nat} {x : PW} {d d' : PD} {f : FuncId} {args : Array Value} {r : Value} (h : Wa w0 C G W q p x d) (hc : ∀ M B, Dk C W p d M B → Calls Tryz.prog f args W fun e w' => e = .returned r ∧ Aft C' W p M B d' w') :
    Calls Tryz.prog f args W fun e w' => e = .returned r ∧ Wa w0 C' G w' q p x d' ∧ Kp G W w' := by
  obtain ⟨v, M, B, h1, h2, h3⟩ := h.ex
  exact (hc M B h2).mono fun _ _ ⟨he, ha⟩ => ⟨he, wa_disk h1 h3 h.lt h.g0 h.bel ha⟩
theorem Wa.up {w0 W W' : World} {C : Nat} {G : Nat → Prop} {q p : Nat} {x : PW} {d : PD} (h : Wa w0 C G W q p x d) (hb : Bel W W') : Wa w0 C G W' q p x d := by
  obtain ⟨v, M, B, h1, h2, h3⟩ := h.ex
  exact (wa_disk h1 h3 h.lt h.g0 h.bel (h2.aft hb)).1
theorem Wa.kp {w0 W W' : World} {C : Nat} {G : Nat → Prop} {q p : Nat} {x : PW} {d : PD} (h : Wa w0 C G W q p x d) (hb : Bel W W') : Kp G W W' := hb.kp h.lt
theorem Wa.mono {w0 W : World} {C C' : Nat} {G : Nat → Prop} {q p : Nat} {x : PW} {d : PD} (h : Wa w0 C G W q p x d) (hc : C ≤ C') : Wa w0 C' G W q p x d := by
  obtain ⟨v, M, B, h1, h2, h3⟩ := h.ex
  exact ⟨⟨v, M, B, h1, h2.mono hc, h3⟩, h.lt, h.g0, h.bel⟩
/-- The wal's own cells are changed. -/
theorem wa_turn {w0 W W' : World} {C : Nat} {G : Nat → Prop} {q p : Nat} {x x' : PW} {d : PD} {v v' : Value} {M B : Nat → Prop} (hw : Wc W q p v x) (hd : Dk C W p d M B) (ha : Apt G q v M B) (lt : ∀ i, G i → i < W.heap.size) (g0 : ∀ i, i < w0.heap.size → G i) (bel : Bel w0 W) (hc : Ch (fun i => i = q ∨ v.ownBlock = some i) W W') (hw' : Wc W' q p v' x') (hv : ∀ k, v'.ownBlock = some k → v.ownBlock = some k ∨ W.heap.size ≤ k) : Wa w0 C G W' q p x' d ∧ Kp G W W' := by
  have hkp : Kp G W W' := hc.kp lt (fun i hi hg => by
    rcases hi with rfl | hi
    · exact ha.aq.1 hg
    · exact (ha.av i hi).1 hg)
  have hq := lt_of_some hw.row
  refine ⟨⟨⟨v', M, B, hw', hd.at hc.size (fun i hi => hc.block i (hi.elim (hd.ltM i) (hd.ltB i)) (fun h => ?_)), ⟨ha.mg, ha.bg, ha.aq, fun k hk => ?_⟩⟩, fun i hi => Nat.lt_of_lt_of_le (lt i hi) hkp.size, g0, hkp.bel bel g0⟩, hkp⟩
  · rcases h with rfl | h
    · rcases hi with hi | hi
      · exact ha.aq.2.1 hi
      · exact ha.aq.2.2 hi
    · rcases hi with hi | hi
      · exact (ha.av i h).2.1 hi
      · exact (ha.av i h).2.2.1 hi
  · rcases hv k hk with h | h
    · exact ha.av k h
    · refine ⟨fun hg => by have := lt k hg; omega, fun hm => by have := hd.ltM k hm; omega, fun hm => by have := hd.ltB k hm; omega, fun e => by omega⟩
/-- What is G's is changed, or G itself. -/
theorem Wa.outer {w0 W W' : World} {C : Nat} {G G' E : Nat → Prop} {q p : Nat} {x : PW} {d : PD} (h : Wa w0 C G W q p x d) (hc : Ch E W W') (hE : ∀ i, E i → G i) (hb : Bel w0 W') (hG : ∀ i, G' i → G i ∨ (W.heap.size ≤ i ∧ i < W'.heap.size)) (hg0 : ∀ i, i < w0.heap.size → G' i) : Wa w0 C G' W' q p x d := by
  obtain ⟨v, M, B, h1, h2, h3⟩ := h.ex
  have hq := lt_of_some h1.row
  have hvl := fun k hk => (h1.own.lt k hk).2
  refine ⟨⟨v, M, B, ⟨hc.row h1.row (fun e => h3.aq.1 (hE q e)), row_at h1.own (fun k hk => hc.block k (hvl k hk) (fun e => (h3.av k hk).1 (hE k e)))⟩, h2.at hc.size (fun i hi => hc.block i (hi.elim (h2.ltM i) (h2.ltB i)) (fun e => hi.elim (fun a => h3.mg i a (hE i e)) (fun a => h3.bg i a (hE i e)))), ⟨fun i hi hg => ?_, fun i hi hg => ?_, ⟨fun hg => ?_, h3.aq.2⟩, fun k hk => ⟨fun hg => ?_, (h3.av k hk).2⟩⟩⟩, fun i hi => ?_, hg0, hb⟩
  · rcases hG i hg with h' | h'
    · exact h3.mg i hi h'
    · have := h2.ltM i hi; omega
  · rcases hG i hg with h' | h'
    · exact h3.bg i hi h'
    · have := h2.ltB i hi; omega
  · rcases hG q hg with h' | h'
    · exact h3.aq.1 h'
    · omega
  · rcases hG k hg with h' | h'
    · exact (h3.av k hk).1 h'
    · have := hvl k hk; omega
  · rcases hG i hi with h' | h'
    · exact Nat.lt_of_lt_of_le (h.lt i h') hc.size
    · exact h'.2
/-- What is read of a wal. -/
theorem Wc.see {W : World} {q p : Nat} {v : Value} {x : PW} (h : Wc W q p v x) : ∃ a c, v = .slice a x.rs.length c ∧ x.rs.length ≤ c ∧ ∀ j (hj : j < x.rs.length), ∃ g, a = some ⟨g, 0, none⟩ ∧ W.cell? ⟨g, j * 2, none⟩ = some (vS x.rs[j].1) ∧ W.cell? ⟨g, j * 2 + 1, none⟩ = some (.int .i64 (x.rs[j].2 : Nat)) := by
  obtain ⟨a, c, rfl, h1, h2⟩ := own_shape h.own
  refine ⟨a, c, rfl, h1, fun j hj => ?_⟩
  obtain ⟨g, rfl⟩ := h2 (by omega)
  have := rcs_get x.rs j hj
  exact ⟨g, rfl, (h.own.cellAt (j * 2) (by omega)).trans this.1, (h.own.cellAt (j * 2 + 1) (by omega)).trans this.2⟩
theorem Wa.see {w0 W : World} {C : Nat} {G : Nat → Prop} {q p : Nat} {x : PW} {d : PD} (h : Wa w0 C G W q p x d) : ∃ a c, W.heap[q]? = some (.cells #[.pointer (some ⟨p, 0, none⟩), vS x.nm, .int .i64 x.first, .int .i64 x.last, .slice a x.rs.length c] 55) ∧ x.rs.length ≤ c ∧ ∀ j (hj : j < x.rs.length), ∃ g, a = some ⟨g, 0, none⟩ ∧ W.cell? ⟨g, j * 2, none⟩ = some (vS x.rs[j].1) ∧ W.cell? ⟨g, j * 2 + 1, none⟩ = some (.int .i64 (x.rs[j].2 : Nat)) := by
  obtain ⟨v, M, B, h1, h2, h3⟩ := h.ex
  obtain ⟨a, c, rfl, k1, k2⟩ := h1.see
  exact ⟨a, c, h1.row, k1, k2⟩
end Go.Proofs.YtgimciacapfbfaaGreatDoor
