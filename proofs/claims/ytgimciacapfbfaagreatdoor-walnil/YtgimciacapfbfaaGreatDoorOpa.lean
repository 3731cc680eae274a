/- Rows of texts and of bools as arguments; what the rows' condition on the library's variables gives the walks, and a world that meets it. -/
import Derived.Test.YtgimciacapfbfaaGreatDoorRows
import Derived.Test.YtgimciacapfbfaaGreatDoorTie
import Derived.Test.YtgimciacapfbfaaGreatDoorCards
import Derived.Test.YtgimciacapfbfaaGreatDoorApd
import Derived.ProofKit
import Derived.LaidMore
import Derived.Lay
import Derived.OpenShut
import Derived.ShutString
import Derived.Lib.LaidTab
import Derived.SevenTiedAt
import Derived.Carry
import Derived.Stop.LaidErr
import Derived.Stop.Joined
import Derived.SizedLaws
namespace Go.Proofs.YtgimciacapfbfaaGreatDoor
open Go.ChangeShapes Go.WideShapes Go.ChangeAt Go.RowKit
theorem Bel.kept {a b : World} (h : Bel a b) : a.keptBut b (fun _ => False) := Below.frame h _
theorem own : ownKnob Tryz.prog.godebug = none := by kernel_rfl
theorem laidOut : laidOutB Tryz.prog = true := by kernel_rfl
theorem list_of {α : Type} {Q : Nat → α → Prop} : ∀ m, (∀ i, i < m → ∃ x, Q i x) → ∃ l : List α, l.length = m ∧ ∀ i (h : i < l.length), Q i l[i]
  | 0, _ => ⟨[], rfl, fun i h => absurd h (Nat.not_lt_zero _)⟩
  | m + 1, hq => by
    obtain ⟨l, hl, hi⟩ := list_of m (fun i h => hq i (by omega))
    obtain ⟨x, hx⟩ := hq m (by omega)
    refine ⟨l ++ [x], by simp [hl], fun i h => ?_⟩
    by_cases e : i < l.length
    · rw [List.getElem_append_left e]; exact hi i e
    · have : i = l.length := by simp at h; omega
      subst this
      rw [List.getElem_append_right (Nat.le_refl _)]
      simp [hl, hx]
section
variable {H : Type} {enc : TypeId × Value → H} {w : World} {base : Nat} {sp : Nat → Bool} {held : Bool}
theorem cells_get {a : Addr} {n : Nat} {cs : List Value} (h : w.cells? base a n = some cs) (j : Nat) (hj : j < n) : w.cell? (a.add j) = cs[j]? := by
  unfold World.cells? at h
  split at h
  · exact mapM_some_get h j j (by simp [hj])
  · cases h
theorem spot_none {a : Addr} {k : Nat} {cs : List Value} (h : w.cells? base (a.add 0) k = some cs) (hk : 0 < k) (hc : cs.length = k) : a.spot = none := by
  have h1 := cells_get h 0 hk
  cases hsp : a.spot with
  | none => rfl
  | some z =>
    have e : w.cell? ((a.add 0).add 0) = none := by
      unfold World.cell?
      split
      · rw [if_pos (by simp [Addr.add, hsp])]
      · rfl
    rw [e, List.getElem?_eq_getElem (by omega)] at h1
    cases h1
set_option maxRecDepth 100000 in
/-- A row of things of k cells each, as an argument. -/
theorem open_row {α : Type} {k t e : Nat} {f : α → List Value} {ok : α → Prop} (hk : 0 < k) (hf : ∀ x, (f x).length = k) (hu : Tryz.prog.underlying t = some (.slice e)) (hce : Tryz.prog.cellsOf e = k)
    (hop : ∀ (fuel : Nat) (cs : List Value) (y : DataW H × List MemPlace), cs.length = k → DataW.trod enc Tryz.prog w base sp held fuel e cs = some y → ∃ x, cs = f x ∧ ok x)
    {v : Value} {d : DataW H} {ps : List MemPlace} {r : Reach} {b0 : Nat} (hval : Value.okWide Tryz.prog w r b0 t v) (hd : DataW.Trod enc Tryz.prog w base sp held t v d ps) :
    ∃ (L : List α) (a : Option Addr) (cap g off : Nat), v = .slice a L.length cap ∧ (∀ x ∈ L, ok x) ∧ (L.length ≠ 0 → a = some ⟨g, off, none⟩) ∧ (L.length ≠ 0 → g < w.heap.size) ∧ ∀ j (h : j < L.length) c u, (f L[j])[c]? = some u → w.cell? ⟨g, off + j * k + c, none⟩ = some u := by
  obtain ⟨a0, len0, cap0, rfl⟩ := okWide_slice hu hval
  obtain ⟨fuel, hf0⟩ := hd
  rcases DataW.trod_slice hu hf0 with ⟨hcs, _⟩ | ⟨a, len, cap, elems, rest, n, _, hcs, _, _, hl, _, hlen, hel, _⟩
  · simp [Value.cells] at hcs
    obtain ⟨rfl, rfl, rfl⟩ := hcs
    exact ⟨[], none, 0, 0, 0, rfl, by simp, fun h => absurd rfl h, fun h => absurd rfl h, fun j h => by simp at h⟩
  · simp [Value.cells] at hcs
    obtain ⟨rfl, rfl, rfl⟩ := hcs
    obtain ⟨l, hll, hx⟩ := list_of (Q := fun i x => w.cells? base (a.add (i * k)) k = some (f x) ∧ ok x) len0 (fun i hi => by
      have h := hel i hi
      rw [hce] at h
      rw [List.getElem?_eq_getElem (by omega), Option.bind_eq_some_iff] at h
      obtain ⟨cs, h1, h2⟩ := h
      have hcl : cs.length = k := by
        have := h1
        unfold World.cells? at this
        split at this
        · have := mapM_some_length this
          simpa using this
        · cases this
      obtain ⟨x, rfl, hok⟩ := hop _ _ _ hcl h2
      exact ⟨x, h1, hok⟩)
    by_cases h0 : l.length = 0
    · refine ⟨l, some a, cap0, 0, 0, by rw [hll], fun x hm => ?_, fun h => absurd h0 h, fun h => absurd h0 h, fun j h => by omega⟩
      obtain ⟨i, hi, _⟩ := List.mem_iff_getElem.1 hm
      omega
    · have hb := World.cells?_block (hx 0 (by omega)).1 hk
      have h00 := (hx 0 (by omega)).1
      rw [Nat.zero_mul] at h00
      have hs : a.spot = none := spot_none h00 hk (hf _)
      have ea : ∀ z, a.add z = ⟨a.block, a.off + z, none⟩ := by
        intro z
        cases a
        simp only at hs
        subst hs
        rw [Addr.add_lit]
      refine ⟨l, some a, cap0, a.block, a.off, by rw [hll], fun x hm => ?_, fun _ => ?_, fun _ => ?_, fun j hj c u hu => ?_⟩
      · obtain ⟨i, hi, e⟩ := List.mem_iff_getElem.1 hm
        rw [← e]
        exact (hx i hi).2
      · cases a; simp_all
      · simpa [Addr.add] using hb
      · have hc : c < k := by have := (List.getElem?_eq_some_iff.1 hu).1; rw [hf] at this; exact this
        have h := cells_get (hx j hj).1 c hc
        rw [ea, Addr.add_lit] at h
        rw [h]
        exact hu
def cT (x : List UInt8) : List Value := [.string ⟨x.toArray⟩]
set_option maxRecDepth 100000 in
theorem open_strs {v : Value} {d : DataW H} {ps : List MemPlace} {r : Reach} {b0 : Nat} (hval : Value.okWide Tryz.prog w r b0 22 v) (hd : DataW.Trod enc Tryz.prog w base sp held 22 v d ps) :
    ∃ (A : List (List UInt8)) (a : Option Addr) (cap g off : Nat), v = .slice a A.length cap ∧ (∀ x ∈ A, x.length ≤ maxLen) ∧ (A.length ≠ 0 → a = some ⟨g, off, none⟩) ∧ (A.length ≠ 0 → g < w.heap.size) ∧ RowS w g off A := by
  obtain ⟨L, a, cap, g, off, h1, h4, h2, h5, h3⟩ := open_row (ok := fun x => x.length ≤ maxLen) (f := cT) (by decide) (fun _ => rfl) Tryz.underlying22 (by kernel_rfl) (fun fuel cs y hl h => by
    obtain ⟨s, e, _, ws⟩ := DataW.trod_string Tryz.underlying9 h
    refine ⟨s.data.toList, ?_, by simpa using ws⟩
    unfold cT
    exact e) hval hd
  refine ⟨L, a, cap, g, off, h1, h4, h2, h5, fun j hj => ?_⟩
  have := h3 j hj 0 (.string ⟨L[j].toArray⟩) rfl
  rw [Nat.mul_one, Nat.add_zero] at this
  exact this
def cB (x : Bool) : List Value := [.bool x]
/-- Bools as they lie in memory. -/
def RowB (W : World) (g off : Nat) (l : List Bool) : Prop := ∀ j (h : j < l.length), W.cell? ⟨g, off + j, none⟩ = some (.bool l[j])
set_option maxRecDepth 100000 in
theorem open_bools {v : Value} {d : DataW H} {ps : List MemPlace} {r : Reach} {b0 : Nat} (hval : Value.okWide Tryz.prog w r b0 23 v) (hd : DataW.Trod enc Tryz.prog w base sp held 23 v d ps) :
    ∃ (A : List Bool) (a : Option Addr) (cap g off : Nat), v = .slice a A.length cap ∧ (A.length ≠ 0 → a = some ⟨g, off, none⟩) ∧ (A.length ≠ 0 → g < w.heap.size) ∧ RowB w g off A := by
  obtain ⟨L, a, cap, g, off, h1, h4, h2, h5, h3⟩ := open_row (ok := fun _ => True) (f := cB) (by decide) (fun _ => rfl) Tryz.underlying23 (by kernel_rfl) (fun fuel cs y hl h => by
    obtain ⟨s, e, _⟩ := DataW.trod_bool Tryz.underlying4 h
    exact ⟨s, e, trivial⟩) hval hd
  refine ⟨L, a, cap, g, off, h1, h2, h5, fun j hj => ?_⟩
  have := h3 j hj 0 (.bool L[j]) rfl
  rw [Nat.mul_one, Nat.add_zero] at this
  exact this
end
/-- What the rows list. -/
def laid5 : List (String × DataW Unit) := Rows.walNilRow.laid
theorem door_met (os : Os) (args : Array Value) : laidMetH Tryz.prog laid5 ((World.laidAll Tryz.prog os laid5).forCall (fun _ _ => 0) ⟨#[], args, []⟩).memory := by
  rw [MakeChecks.laidMetH_plain _ _ _ (by kernel_rfl)]
  exact laidMet_laidAll _ (by kernel_rfl) (by kernel_rfl)
theorem gl_of_laid {W : World} (h : laidMetH Tryz.prog laid5 W) : Gl W := by
  rw [MakeChecks.laidMetH_plain _ _ _ (by kernel_rfl)] at h
  have h2 : laidMet Tryz.prog (("internal/strconv.uint64pow10", Lib.tabData .u64 Lib.pow10Tab) :: laid5.tail.tail.tail) W := h.tail.tail
  exact Lib.tabIs_of_head (g := 3) (t := 161) (e := 114) (n := 20) (by kernel_rfl) (by kernel_rfl) Tryz.underlying161 Tryz.underlying114 (by kernel_rfl) (by kernel_rfl) h2
end Go.Proofs.YtgimciacapfbfaaGreatDoor
