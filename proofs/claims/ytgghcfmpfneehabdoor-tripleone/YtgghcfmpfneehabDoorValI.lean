/- What the program's ReadText returns; for every text. -/
import Derived.Test.YtgghcfmpfneehabDoorValH
namespace Go.Proofs.YtgghcfmpfneehabDoor
open Go.RowKit
/-- The numbers of a value lie in their kinds. -/
def inR (n u : Int) : Prop := -9223372036854775808 ≤ n ∧ n < 9223372036854775808 ∧ 0 ≤ u ∧ u < 18446744073709551616
/-- The answer to the text l: the one value whose literal l is; or, if there is none, the fault. -/
def okT (l : List UInt8) (k : Int) (b : Bool) (n : Int) (s : ByteArray) (u e : Int) : Prop :=
  (e = 0 ∧ mayV k b n s u ∧ inR n u ∧ ltr k b n s u = l ∧ ∀ k' b' n' s' u', mayV k' b' n' s' u' → inR n' u' → ltr k' b' n' s' u' = l → k = k' ∧ b = b' ∧ n = n' ∧ s = s' ∧ u = u') ∨
  (e = 30 ∧ k = 0 ∧ b = false ∧ n = 0 ∧ s = ⟨#[]⟩ ∧ u = 0 ∧ ∀ k' b' n' s' u', mayV k' b' n' s' u' → inR n' u' → ltr k' b' n' s' u' ≠ l)
theorem okL.uniq {l : List UInt8} {k : Int} {b : Bool} {n : Int} {s : ByteArray} {u : Int} (h : okL l k b n s u) : ∀ k' b' n' s' u', mayV k' b' n' s' u' → inR n' u' → ltr k' b' n' s' u' = l → k = k' ∧ b = b' ∧ n = n' ∧ s = s' ∧ u = u' :=
  fun k' b' n' s' u' h1 h2 h3 => h.2.2.2.2.2 k' b' n' s' u' h1 h2.1 h2.2.1 h2.2.2.1 h2.2.2.2 h3
theorem okL.inR {l : List UInt8} {k : Int} {b : Bool} {n : Int} {s : ByteArray} {u : Int} (h : okL l k b n s u) : inR n u := ⟨h.1, h.2.1, h.2.2.1, h.2.2.2.1⟩
theorem okT_no {l : List UInt8} {k : Int} {b : Bool} {n : Int} {s : ByteArray} {u : Int} (h : okL l k b n s u) (hn : ¬ (mayV k b n s u ∧ ltr k b n s u = l)) : okT l 0 false 0 ⟨#[]⟩ 0 30 := by
  refine Or.inr ⟨rfl, rfl, rfl, rfl, rfl, rfl, ?_⟩
  intro k' b' n' s' u' h1 h2 h3
  obtain ⟨rfl, rfl, rfl, rfl, rfl⟩ := h.uniq k' b' n' s' u' h1 h2 h3
  exact hn ⟨h1, h3⟩
theorem res2_25 {fn : Func} (hr : fn.results = #[.cell 2 27, .tmp 3]) {W : World} {B : Nat} {cs : Array Value} (hg : W.heap[B]? = some (.cells cs 27)) (hs : (Tryd.prog.info? 27).map (·.size) = some cs.size) (tmps : Array Value) (x : Value) (hp : tmps.getD 2 undef = .pointer (some ⟨B, 0, none⟩)) (hx : tmps.getD 3 undef = x) :
    (results fn tmps).run Tryd.prog W = .ok (.tuple #[.agg cs, x]) W := by
  have hp' : tmps[2]?.getD undef = .pointer (some ⟨B, 0, none⟩) := by simpa using hp
  have hx' : tmps[3]?.getD undef = x := by simpa using hx
  simp [results, hr, hp', hx', asAddr, run_loadVar_row W B 27 27 cs (0, 0) _ hg Tryd.underlying27 rfl hs]
end Go.Proofs.YtgghcfmpfneehabDoor
