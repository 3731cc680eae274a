/- A region that draws its order, whose own operations read alone and whose callees leave what was there: one walk. -/
import Derived.Test.YtgghcfmpfneehabDoorValA
import Derived.BigQuiet
namespace Go.Proofs.YtgghcfmpfneehabDoor
open Go.RowKit
/-- A world in which all that was there stands. -/
structure BelBy (w : World) where
  W : World
  h : Bel w W
theorem BelBy.some (w : World) : Nonempty (BelBy w) := ⟨⟨w, Bel.refl _⟩⟩
theorem wp_region_bel {P : Program} {id : Nat} {Q : Exit → Act → World → Prop} {a : Act} {w : World} {l : List Oper} (hm : P.follows .mixedOrders = true) (hB : Region.lexB .any l.toArray = true)
    (h : wpQuiet P l.toArray (fun w' => ∃ p : BelBy w, w' = p.W) (fun a' => ∀ w', (∃ p : BelBy w, w' = p.W) → Q .normal a' w') l a) : (Code.region id l.toArray true).wp P Q a w :=
  wp_region_quiet (C := fun w' => ∃ p : BelBy w, w' = p.W) hm hB ⟨⟨w.drew, (Bel.refl _).drew⟩, rfl⟩ (by simpa using h)
theorem cell_bel {w : World} {k i : Nat} {v : Value} (h : w.cell? ⟨k, i, none⟩ = some v) (p : BelBy w) : p.W.cell? ⟨k, i, none⟩ = some v := p.h.cell h
theorem calls_by {P : Program} {f : FuncId} {args : Array Value} {w : World} {p : BelBy w} {v : Value}
    (h : Calls P f args p.W fun e w' => e = .returned v ∧ Bel p.W w') : Calls P f args p.W fun e w'' => e = .returned v ∧ ∃ p' : BelBy w, w'' = p'.W :=
  h.mono fun _ w' ⟨he, hb⟩ => ⟨he, ⟨w', p.h.trans hb⟩, rfl⟩
end Go.Proofs.YtgghcfmpfneehabDoor
