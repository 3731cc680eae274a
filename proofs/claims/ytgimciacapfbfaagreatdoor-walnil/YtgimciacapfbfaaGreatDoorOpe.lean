/- A disk apart from what must stand; a wal's block is made. -/
import Derived.Test.YtgimciacapfbfaaGreatDoorApp
import Derived.Test.YtgimciacapfbfaaGreatDoorNam
namespace Go.Proofs.YtgimciacapfbfaaGreatDoor
open Go.RowKit Go.Maps Go.WideMaps
/-- A disk none of whose calls changes G. -/
structure Da (w0 : World) (C : Nat) (G : Nat → Prop) (W : World) (p : Nat) (d : PD) : Prop where
  ex : ∃ M B, Dk C W p d M B ∧ (∀ i, M i → ¬ G i) ∧ (∀ i, B i → ¬ G i)
  lt : ∀ i, G i → i < W.heap.size
  g0 : ∀ i, i < w0.heap.size → G i
  bel : Bel w0 W
theorem Wa.da {w0 W : World} {C : Nat} {G : Nat → Prop} {q p : Nat} {x : PW} {d : PD} (h : Wa w0 C G W q p x d) : Da w0 C G W p d := by
  obtain ⟨v, M, B, h1, h2, h3⟩ := h.ex
  exact ⟨⟨M, B, h2, h3.mg, h3.bg⟩, h.lt, h.g0, h.bel⟩
theorem Da.up {w0 W W' : World} {C : Nat} {G : Nat → Prop} {p : Nat} {d : PD} (h : Da w0 C G W p d) (hb : Bel W W') : Da w0 C G W' p d := by
  obtain ⟨M, B, h2, h3, h4⟩ := h.ex
  exact ⟨⟨M, B, h2.bel hb, h3, h4⟩, fun i hi => Nat.lt_of_lt_of_le (h.lt i hi) hb.size, h.g0, h.bel.trans hb⟩
theorem Da.call {w0 W : World} {C C' : Nat} {G : Nat → Prop} {p : Nat} {d d' : PD} {f : FuncId} {args : Array Value} {r : Value} (h : Da w0 C G W p d) (hc : ∀ M B, Dk C W p d M B → Calls Tryz.prog f args W fun e w' => e = .returned r ∧ Aft C' W p M B d' w') :
    Calls Tryz.prog f args W fun e w' => e = .returned r ∧ Da w0 C' G w' p d' ∧ Kp G W w' := by
  obtain ⟨M, B, h2, h3, h4⟩ := h.ex
  refine (hc M B h2).mono fun _ w' ⟨he, ha⟩ => ⟨he, ?_⟩
  obtain ⟨M', B', k1, k2, k3, k4⟩ := ha
  have hkp : Kp G W w' := k4.kp h.lt h3
  refine ⟨⟨⟨M', B', k1, fun i hi hg => ?_, fun i hi hg => ?_⟩, fun i hi => Nat.lt_of_lt_of_le (h.lt i hi) hkp.size, h.g0, hkp.bel h.bel h.g0⟩, hkp⟩
  · rcases k2 i hi with h' | h'
    · exact h3 i h' hg
    · have := h.lt i hg; omega
  · rcases k3 i hi with h' | h'
    · exact h4 i h' hg
    · have := h.lt i hg; omega
theorem da_new {w0 w w1 : World} {C p : Nat} {d : PD} {G : Nat → Prop} (h : Dk C w1 p d (fun i => w.heap.size ≤ i ∧ i < w1.heap.size) (fun _ => False)) (hb : Bel w w1) (hw : Bel w0 w) (hG : ∀ i, G i → i < w.heap.size) (hg0 : ∀ i, i < w0.heap.size → G i) : Da w0 C G w1 p d :=
  ⟨⟨_, _, h, fun i hi hg => by have := hG i hg; omega, fun i hi => hi.elim⟩, fun i hi => Nat.lt_of_lt_of_le (hG i hi) hb.size, hg0, hw.trans hb⟩
/-- The wal's block is made. -/
theorem wa_box {w0 W : World} {C : Nat} {G : Nat → Prop} {p : Nat} {d : PD} (h : Da w0 C G W p d) (nm : List UInt8) : Wa w0 C G (W.alloc (.cells #[.pointer (some ⟨p, 0, none⟩), vS nm, .int .i64 (1 : Nat), .int .i64 (0 : Nat), .slice none 0 0] 55)) W.heap.size p ⟨nm, 1, 0, []⟩ d := by
  have hb := (Bel.refl W).alloc (.cells #[.pointer (some ⟨p, 0, none⟩), vS nm, .int .i64 (1 : Nat), .int .i64 (0 : Nat), .slice none 0 0] 55)
  obtain ⟨M, B, h2, h3, h4⟩ := (h.up hb).ex
  obtain ⟨M0, B0, k2, k3, k4⟩ := h.ex
  refine ⟨⟨.slice none 0 0, M0, B0, ⟨at_new W _, World.ownsRow_nil _ _ _ _⟩, k2.bel hb, ⟨k3, k4, ⟨fun hg => ?_, fun hm => ?_, fun hm => ?_⟩, fun k hk => by cases hk⟩⟩, (h.up hb).lt, h.g0, (h.up hb).bel⟩
  · have := h.lt _ hg; omega
  · have := k2.ltM _ hm; omega
  · have := k2.ltB _ hm; omega
end Go.Proofs.YtgimciacapfbfaaGreatDoor
