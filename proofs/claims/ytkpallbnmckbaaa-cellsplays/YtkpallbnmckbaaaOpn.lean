/- Cells and rows of cells as arguments, opened and shut. -/
import Derived.Test.YtkpallbnmckbaaaPut
import Derived.Test.YtkpallbnmckbaaaRows
import Derived.ProofKit
import Derived.OpenShut
import Derived.ShutString
import Derived.SizedLaws
import Derived.SevenTiedAt
namespace Go.Proofs.Ytkpallbnmckbaaa
open Go.ChangeShapes Go.WideShapes Go.ChangeAt Go.RowKit
open Go.ChangeMaps (open_string shut_string)
theorem Bel.kept {a b : World} (h : Bel a b) : a.keptBut b (fun _ => False) := Below.frame h _
theorem own : ownKnob Try.prog.godebug = none := by kernel_rfl
theorem laidOut : laidOutB Try.prog = true := by kernel_rfl
theorem list_of {α : Type} {Q : Nat → α → Prop} : ∀ m, (∀ i, i < m → ∃ x, Q i x) → ∃ l : List α, l.length = m ∧ ∀ i (h : i < l.length), Q i l[i]
  | 0, _ => ⟨[], rfl, fun i h => absurd h (Nat.not_lt_zero _)⟩
  | m + 1, hq => by
    obtain ⟨l, hl, hi⟩ := list_of m (fun i h => hq i (by omega))
    obtain ⟨x, hx⟩ := hq m (by omega)
    refine ⟨l ++ [x], by simp [hl], fun i h => ?_⟩
    by_cases e : i < l.length
    · rw [List.getElem_append_left e]; exact hi i e
    · have : i = l.length := by simp at h; omega
      subst this
      rw [List.getElem_append_right (Nat.le_refl _)]
      simp [hl, hx]
section
variable {H : Type} {enc : TypeId × Value → H} {w : World} {base : Nat} {sp : Nat → Bool} {held : Bool}
theorem cells_get {a : Addr} {n : Nat} {cs : List Value} (h : w.cells? base a n = some cs) (j : Nat) (hj : j < n) : w.cell? (a.add j) = cs[j]? := by
  unfold World.cells? at h
  split at h
  · exact mapM_some_get h j j (by simp [hj])
  · cases h
theorem spot_none {a : Addr} {k : Nat} {cs : List Value} (h : w.cells? base (a.add 0) k = some cs) (hk : 0 < k) (hc : cs.length = k) : a.spot = none := by
  have h1 := cells_get h 0 hk
  cases hsp : a.spot with
  | none => rfl
  | some z =>
    have e : w.cell? ((a.add 0).add 0) = none := by
      unfold World.cell?
      split
      · rw [if_pos (by simp [Addr.add, hsp])]
      · rfl
    rw [e, List.getElem?_eq_getElem (by omega)] at h1
    cases h1
set_option maxRecDepth 100000 in
/-- A row of things of k cells each, as an argument. -/
theorem open_row {α : Type} {k t e : Nat} {f : α → List Value} {ok : α → Prop} (hk : 0 < k) (hf : ∀ x, (f x).length = k) (hu : Try.prog.underlying t = some (.slice e)) (hce : Try.prog.cellsOf e = k)
    (hop : ∀ (fuel : Nat) (cs : List Value) (y : DataW H × List MemPlace), cs.length = k → DataW.trod enc Try.prog w base sp held fuel e cs = some y → ∃ x, cs = f x ∧ ok x)
    {v : Value} {d : DataW H} {ps : List MemPlace} {r : Reach} {b0 : Nat} (hval : Value.okWide Try.prog w r b0 t v) (hd : DataW.Trod enc Try.prog w base sp held t v d ps) :
    ∃ (L : List α) (a : Option Addr) (cap g off : Nat), v = .slice a L.length cap ∧ (∀ x ∈ L, ok x) ∧ (L.length ≠ 0 → a = some ⟨g, off, none⟩) ∧ (L.length ≠ 0 → g < w.heap.size) ∧ ∀ j (h : j < L.length) c u, (f L[j])[c]? = some u → w.cell? ⟨g, off + j * k + c, none⟩ = some u := by
  obtain ⟨a0, len0, cap0, rfl⟩ := okWide_slice hu hval
  obtain ⟨fuel, hf0⟩ := hd
  rcases DataW.trod_slice hu hf0 with ⟨hcs, _⟩ | ⟨a, len, cap, elems, rest, n, _, hcs, _, _, hl, _, hlen, hel, _⟩
  · simp [Value.cells] at hcs
    obtain ⟨rfl, rfl, rfl⟩ := hcs
    exact ⟨[], none, 0, 0, 0, rfl, by simp, fun h => absurd rfl h, fun h => absurd rfl h, fun j h => by simp at h⟩
  · simp [Value.cells] at hcs
    obtain ⟨rfl, rfl, rfl⟩ := hcs
    obtain ⟨l, hll, hx⟩ := list_of (Q := fun i x => w.cells? base (a.add (i * k)) k = some (f x) ∧ ok x) len0 (fun i hi => by
      have h := hel i hi
      rw [hce] at h
      rw [List.getElem?_eq_getElem (by omega), Option.bind_eq_some_iff] at h
      obtain ⟨cs, h1, h2⟩ := h
      have hcl : cs.length = k := by
        have := h1
        unfold World.cells? at this
        split at this
        · have := mapM_some_length this
          simpa using this
        · cases this
      obtain ⟨x, rfl, hok⟩ := hop _ _ _ hcl h2
      exact ⟨x, h1, hok⟩)
    by_cases h0 : l.length = 0
    · refine ⟨l, some a, cap0, 0, 0, by rw [hll], fun x hm => ?_, fun h => absurd h0 h, fun h => absurd h0 h, fun j h => by omega⟩
      obtain ⟨i, hi, _⟩ := List.mem_iff_getElem.1 hm
      omega
    · have hb := World.cells?_block (hx 0 (by omega)).1 hk
      have h00 := (hx 0 (by omega)).1
      rw [Nat.zero_mul] at h00
      have hs : a.spot = none := spot_none h00 hk (hf _)
      have ea : ∀ z, a.add z = ⟨a.block, a.off + z, none⟩ := by
        intro z
        cases a
        simp only at hs
        subst hs
        rw [Addr.add_lit]
      refine ⟨l, some a, cap0, a.block, a.off, by rw [hll], fun x hm => ?_, fun _ => ?_, fun _ => ?_, fun j hj c u hu => ?_⟩
      · obtain ⟨i, hi, e⟩ := List.mem_iff_getElem.1 hm
        rw [← e]
        exact (hx i hi).2
      · cases a; simp_all
      · simpa [Addr.add] using hb
      · have hc : c < k := by have := (List.getElem?_eq_some_iff.1 hu).1; rw [hf] at this; exact this
        have h := cells_get (hx j hj).1 c hc
        rw [ea, Addr.add_lit] at h
        rw [h]
        exact hu
/-- What a cell reads as. -/
def dC (x : C) : DataW H := .agg [.lit (.string x.k.data.toList), .lit (.int .u64 x.t), .lit (.bool x.d), .lit (.string x.v.data.toList)]
/-- A cell's time is a number of 64 bits, its texts are no longer than may be read. -/
def okC (x : C) : Prop := x.k.size ≤ maxLen ∧ (Lit.int .u64 x.t).wf = true ∧ x.v.size ≤ maxLen
set_option maxRecDepth 100000 in
theorem t_cell {fuel : Nat} {cl : List Value} {y : DataW H × List MemPlace} (hsz : cl.length = 4) (hf : DataW.trod enc Try.prog w base sp held fuel 38 cl = some y) :
    ∃ x : C, cl = enc4 x ∧ y = (dC x, []) ∧ okC x := by
  obtain ⟨xs, n0, _, hx, hl, hlen, hq⟩ := DataW.trod_struct Try.underlying38 hf
  have c27 : Try.prog.cellsOf 27 = 1 := by kernel_rfl
  have c4 : Try.prog.cellsOf 4 = 1 := by kernel_rfl
  have c9 : Try.prog.cellsOf 9 = 1 := by kernel_rfl
  match cl, hsz with
  | [a0, a1, a2, a3], _ =>
    match xs, hlen with
    | [y0, y1, y2, y3], _ =>
      have h0 : DataW.trod enc Try.prog w base sp held n0 9 (([a0, a1, a2, a3].drop 0).take (Try.prog.cellsOf 9)) = some y0 := hq 0 _ rfl
      rw [c9] at h0
      have h1 : DataW.trod enc Try.prog w base sp held n0 27 (([a0, a1, a2, a3].drop 1).take (Try.prog.cellsOf 27)) = some y1 := hq 1 _ rfl
      rw [c27] at h1
      have h2 : DataW.trod enc Try.prog w base sp held n0 4 (([a0, a1, a2, a3].drop 2).take (Try.prog.cellsOf 4)) = some y2 := hq 2 _ rfl
      rw [c4] at h2
      have h3 : DataW.trod enc Try.prog w base sp held n0 9 (([a0, a1, a2, a3].drop 3).take (Try.prog.cellsOf 9)) = some y3 := hq 3 _ rfl
      rw [c9] at h3
      obtain ⟨k, e0, rfl, w0⟩ := DataW.trod_string Try.underlying9 h0
      obtain ⟨t, e1, rfl, w1⟩ := DataW.trod_int Try.underlying27 h1
      obtain ⟨d, e2, rfl⟩ := DataW.trod_bool Try.underlying4 h2
      obtain ⟨v, e3, rfl, w3⟩ := DataW.trod_string Try.underlying9 h3
      simp at e0 e1 e2 e3
      subst e0 e1 e2 e3
      exact ⟨(k, t, d, v), rfl, by rw [hx]; rfl, w0, w1, w3⟩
set_option maxRecDepth 100000 in
theorem open_cell {r : Reach} {b0 : Nat} {v : Value} {d : DataW H} {ps : List MemPlace} (hval : Value.okWide Try.prog w r b0 38 v) (hd : DataW.Trod enc Try.prog w base sp held 38 v d ps) :
    ∃ x : C, v = vC x ∧ d = dC x ∧ ps = [] ∧ okC x := by
  obtain ⟨cs, rfl, hsz⟩ := okWide_struct Try.underlying38 hval
  obtain ⟨fuel, hf⟩ := hd
  have c38 : Try.prog.cellsOf 38 = 4 := by kernel_rfl
  rw [c38] at hsz
  obtain ⟨l⟩ := cs
  obtain ⟨x, e, hy, ok⟩ := t_cell (cl := l) (by simpa using hsz) hf
  simp only [Prod.mk.injEq] at hy
  subst e
  exact ⟨x, rfl, hy.1, hy.2, ok⟩
set_option maxRecDepth 100000 in
theorem shut_cell {x : C} (h : okC x) : DataW.Trod enc Try.prog w base sp held 38 (vC x) (dC x) [] := by
  obtain ⟨k, t, d, v⟩ := x
  obtain ⟨w0, w1, w3⟩ := h
  have c38 : Try.prog.cellsOf 38 = 4 := by kernel_rfl
  have c27 : Try.prog.cellsOf 27 = 1 := by kernel_rfl
  have c4 : Try.prog.cellsOf 4 = 1 := by kernel_rfl
  have c9 : Try.prog.cellsOf 9 = 1 := by kernel_rfl
  simp only [C.k, C.t, C.v] at w0 w1 w3
  refine ⟨2, ?_⟩
  have := trod_struct_mk (enc := enc) (w := w) (base := base) (spare := sp) (held := held) (n := 1) (cs := [.string k, .int .u64 t, .bool d, .string v]) (xs := [(.lit (.string k.data.toList), []), (.lit (.int .u64 t), []), (.lit (.bool d), []), (.lit (.string v.data.toList), [])]) Try.underlying38 (by rw [c38]; rfl)
    (by simp [c27, c4, c9, DataW.trod, Try.underlying27, Try.underlying4, Try.underlying9, w0, w1, w3])
  show DataW.trod enc Try.prog w base sp held 2 38 [.string k, .int .u64 t, .bool d, .string v] = some (.agg [.lit (.string k.data.toList), .lit (.int .u64 t), .lit (.bool d), .lit (.string v.data.toList)], [])
  simpa using this
set_option maxRecDepth 100000 in
theorem open_cells {v : Value} {d : DataW H} {ps : List MemPlace} {r : Reach} {b0 : Nat} (hval : Value.okWide Try.prog w r b0 25 v) (hd : DataW.Trod enc Try.prog w base sp held 25 v d ps) :
    ∃ (L : List C) (a : Option Addr) (cap g off : Nat), v = .slice a L.length cap ∧ (∀ x ∈ L, okC x) ∧ (L.length ≠ 0 → a = some ⟨g, off, none⟩) ∧ Row w g off L := by
  obtain ⟨L, a, cap, g, off, h1, h4, h2, h5, h3⟩ := open_row (k := 4) (ok := okC) (f := enc4) (by decide) (fun _ => rfl) Try.underlying25 (by kernel_rfl) (fun fuel cs y hl h => by obtain ⟨x, e, _, ok⟩ := t_cell hl h; exact ⟨x, e, ok⟩) hval hd
  exact ⟨L, a, cap, g, off, h1, h4, h2, fun j hj => ⟨h3 j hj 0 _ rfl, h3 j hj 1 _ rfl, h3 j hj 2 _ rfl, h3 j hj 3 _ rfl⟩⟩
end
end Go.Proofs.Ytkpallbnmckbaaa
