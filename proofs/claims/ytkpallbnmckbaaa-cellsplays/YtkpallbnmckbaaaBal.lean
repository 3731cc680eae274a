/- balanced: a tree turned once or twice. -/
import Derived.Test.YtkpallbnmckbaaaJoi
namespace Go.Proofs.Ytkpallbnmckbaaa
open Go.RowKit
/-- A value that is a tree. -/
def TV (w : World) (v : Value) (l : List C) : Prop := ∃ o, v = pt o ∧ Tree w o l
theorem TV.bel {w w' : World} {v : Value} {l : List C} (h : TV w v l) (hb : Bel w w') : TV w' v l := by
  obtain ⟨o, h1, h2⟩ := h
  exact ⟨o, h1, h2.bel hb⟩
theorem Tree.tv {w : World} {o : Option Nat} {l : List C} (h : Tree w o l) : TV w (pt o) l := ⟨o, rfl, h⟩
theorem joined_tv {w : World} {p q : Value} {l1 l2 : List C} (k : ByteArray) (t : Int) (d : Bool) (v : ByteArray) (h1 : TV w p l1) (h2 : TV w q l2) (hl : l1.length + l2.length ≤ 1000000) :
    Calls Try.prog 41 #[p, .agg #[.string k, .int .u64 t, .bool d, .string v], q] w fun e w' => ∃ b, e = .returned (.pointer (some ⟨b, 0, none⟩)) ∧ Bel w w' ∧ TV w' (.pointer (some ⟨b, 0, none⟩)) (l1 ++ (k, t, d, v) :: l2) := by
  obtain ⟨o1, rfl, h1⟩ := h1
  obtain ⟨o2, rfl, h2⟩ := h2
  refine (joined_any (k, t, d, v) h1 h2 hl).mono ?_
  rintro e w' ⟨b, he, hb, ht⟩
  exact ⟨b, he, hb, ht.tv⟩
theorem weight_tv {w : World} {p : Value} {l : List C} (h : TV w p l) (hl : l.length ≤ 1000000) : Calls Try.prog 45 #[p] w fun e w' => e = .returned (.int .i64 ((l.length + 1 : Nat) : Int)) ∧ w' = w := by
  obtain ⟨o, rfl, h⟩ := h
  exact weight_any h hl
/-- A node in memory, its cells. -/
def N6 (w : World) (b : Nat) (x : C) (lv rv : Value) : Prop := w.cell? ⟨b, 0, none⟩ = some (.string x.k) ∧ w.cell? ⟨b, 1, none⟩ = some (.int .u64 x.t) ∧ w.cell? ⟨b, 2, none⟩ = some (.bool x.d) ∧ w.cell? ⟨b, 3, none⟩ = some (.string x.v) ∧ w.cell? ⟨b, 4, none⟩ = some lv ∧ w.cell? ⟨b, 5, none⟩ = some rv
theorem Nod.n6 {w : World} {b : Nat} {x : C} {lv rv : Value} {n : Nat} (h : Nod w b x lv rv n) : N6 w b x lv rv := ⟨h.c0, h.c1, h.c2, h.c3, h.c4, h.c5⟩
theorem lt_cell {w : World} {b i : Nat} {v : Value} (h : w.cell? ⟨b, i, none⟩ = some v) : b < w.heap.size := by
  unfold World.cell? at h
  rcases Nat.lt_or_ge b w.heap.size with h' | h'
  · exact h'
  · rw [show w.heap[b]? = none from Array.getElem?_eq_none h'] at h; cases h
theorem Bel.cell {a b : World} (h : Bel a b) {k i : Nat} {v : Value} (hc : a.cell? ⟨k, i, none⟩ = some v) : b.cell? ⟨k, i, none⟩ = some v := (Below.cell h (p := ⟨k, i, none⟩) (lt_cell hc)).trans hc
theorem N6.bel {w w' : World} {b : Nat} {x : C} {lv rv : Value} (h : N6 w b x lv rv) (hb : Bel w w') : N6 w' b x lv rv :=
  ⟨hb.cell h.1, hb.cell h.2.1, hb.cell h.2.2.1, hb.cell h.2.2.2.1, hb.cell h.2.2.2.2.1, hb.cell h.2.2.2.2.2⟩
/-- A cell in memory. -/
def N4 (w : World) (b : Nat) (x : C) : Prop := w.cell? ⟨b, 0, none⟩ = some (.string x.k) ∧ w.cell? ⟨b, 1, none⟩ = some (.int .u64 x.t) ∧ w.cell? ⟨b, 2, none⟩ = some (.bool x.d) ∧ w.cell? ⟨b, 3, none⟩ = some (.string x.v)
theorem N4.bel {w w' : World} {b : Nat} {x : C} (h : N4 w b x) (hb : Bel w w') : N4 w' b x := ⟨hb.cell h.1, hb.cell h.2.1, hb.cell h.2.2.1, hb.cell h.2.2.2⟩
theorem N4.of {w : World} {b : Nat} {x : C} {t : TypeId} (h : w.heap[b]? = some (.cells #[.string x.k, .int .u64 x.t, .bool x.d, .string x.v] t)) : N4 w b x := ⟨cell_of h, cell_of h, cell_of h, cell_of h⟩
end Go.Proofs.Ytkpallbnmckbaaa
