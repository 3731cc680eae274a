/- Rows of structs. -/
import Derived.Test.YtgofdkheffoilaaGreatDoorWld
namespace Go.Proofs.YtgofdkheffoilaaGreatDoor
open Go.RowKit Go.Maps
/-- What a row's elements are: their cells, their types. -/
structure El (α : Type) where
  enc : α → List Value
  k : Nat
  e : Nat
  t : Nat
  bytes : Nat
  z : Value
  hk : 0 < k
  len : ∀ x, (enc x).length = k
  one : ∀ x, ∀ u ∈ enc x, u.oneCell' = true
  ht : Tryz.prog.underlying t = some (.slice e)
  hi : (Tryz.prog.info? e).map (fun i => (i.zero, i.size, i.bytes)) = some (some z, k, bytes)
  hz : z.cells.size = k
  hb : bytes ≤ 1000
section
variable {α : Type} (E : El α)
theorem El.info : ∃ i, Tryz.prog.info? E.e = some i ∧ i.zero = some E.z ∧ i.size = E.k ∧ i.bytes = E.bytes := by
  obtain ⟨i, hi, hzz⟩ := Option.map_eq_some_iff.1 E.hi
  simp only [Prod.mk.injEq] at hzz
  exact ⟨i, hi, hzz.1, hzz.2.1, hzz.2.2⟩
/-- The cells of a row. -/
def El.fl (L : List α) : List Value := L.flatMap E.enc
theorem El.fl_len (L : List α) : (E.fl L).length = L.length * E.k := by
  induction L with
  | nil => simp [El.fl]
  | cons a L ih => unfold El.fl at *; rw [List.flatMap_cons, List.length_append, ih, List.length_cons, E.len, Nat.add_mul]; omega
theorem El.fl_app (L M : List α) : E.fl (L ++ M) = E.fl L ++ E.fl M := List.flatMap_append
theorem El.fl_one (x : α) : E.fl [x] = E.enc x := by simp [El.fl]
theorem El.fl_at (L : List α) (j c : Nat) (hj : j < L.length) (hc : c < E.k) : (E.fl L)[j * E.k + c]? = (E.enc L[j])[c]? := by
  induction L generalizing j with
  | nil => simp at hj
  | cons x L ih =>
    unfold El.fl
    rw [List.flatMap_cons]
    cases j with
    | zero =>
      rw [Nat.zero_mul, Nat.zero_add, List.getElem?_append_left (by rw [E.len]; exact hc)]
      rfl
    | succ j =>
      rw [List.getElem?_append_right (by rw [E.len, Nat.add_mul]; omega)]
      have := ih j (by simpa using hj)
      unfold El.fl at this
      rw [show (j + 1) * E.k + c - (E.enc x).length = j * E.k + c by rw [E.len, Nat.add_mul]; omega, this]
      rfl
theorem El.fl_cells (L : List α) : ∀ u ∈ E.fl L, u.oneCell' = true := by
  intro u hu
  obtain ⟨x, _, hx⟩ := List.mem_flatMap.1 hu
  exact E.one x u hx
/-- A row as it is read. -/
def El.R (W : World) (g off : Nat) (L : List α) : Prop := ∀ j (h : j < L.length) (c : Nat) (u : Value), (E.enc L[j])[c]? = some u → W.cell? ⟨g, off + j * E.k + c, none⟩ = some u
variable {E}
theorem El.R.bel {W W' : World} {g off : Nat} {L : List α} (h : E.R W g off L) (hb : Bel W W') : E.R W' g off L := fun j hj c u hu => hb.cell (h j hj c u hu)
theorem El.R.flat {W : World} {g off : Nat} {L : List α} (h : E.R W g off L) (t : Nat) (u : Value) (ht : (E.fl L)[t]? = some u) : W.cell? ⟨g, off + t, none⟩ = some u := by
  have hk := E.hk
  have htl : t < L.length * E.k := by have := (List.getElem?_eq_some_iff.1 ht).1; rw [E.fl_len] at this; exact this
  have hj : t / E.k < L.length := (Nat.div_lt_iff_lt_mul hk).2 htl
  have e : t = t / E.k * E.k + t % E.k := by rw [Nat.mul_comm]; exact (Nat.div_add_mod t E.k).symm
  rw [e, E.fl_at L _ _ hj (Nat.mod_lt _ hk)] at ht
  have := h (t / E.k) hj (t % E.k) u ht
  rw [Nat.add_assoc, ← e] at this
  exact this
theorem El.R.take {W : World} {g off : Nat} {L : List α} (h : E.R W g off L) (k : Nat) : E.R W g off (L.take k) := fun j hj c u hu => by
  have hj' : j < L.length := by simp at hj; omega
  rw [List.getElem_take] at hu
  exact h j hj' c u hu
theorem El.R.drop {W : World} {g off : Nat} {L : List α} (h : E.R W g off L) (k : Nat) : E.R W g (off + k * E.k) (L.drop k) := fun j hj c u hu => by
  have hj' : k + j < L.length := by simp at hj; omega
  rw [List.getElem_drop] at hu
  have := h (k + j) hj' c u hu
  rw [Nat.add_mul] at this
  rw [show off + k * E.k + j * E.k + c = off + (k * E.k + j * E.k) + c by omega]
  exact this
variable (E)
/-- A slice that owns its row. -/
def El.O (base : Nat) (W : World) (v : Value) (L : List α) : Prop := W.ownsRow base E.e E.k v L.length (E.fl L)
variable {E}
theorem El.O.nil (base : Nat) (W : World) : E.O base W (.slice none 0 0) [] := World.ownsRow_nil _ _ _ _
theorem El.O.lt {base : Nat} {W : World} {v : Value} {L : List α} (h : E.O base W v L) {k : Nat} (hk : v.ownBlock = some k) : base ≤ k ∧ k < W.heap.size := World.ownsRow.lt h k hk
theorem El.O.at {base : Nat} {W W' : World} {v : Value} {L : List α} (h : E.O base W v L) (hb : ∀ k, v.ownBlock = some k → W'.heap[k]? = W.heap[k]?) : E.O base W' v L := by
  refine ⟨h.1, ?_⟩
  rcases h.2 with h' | ⟨g, cap, cur, rfl, h1, h2, h3⟩
  · exact Or.inl h'
  · exact Or.inr ⟨g, cap, cur, rfl, h1, (hb g rfl).trans h2, h3⟩
theorem El.O.bel {base : Nat} {W W' : World} {v : Value} {L : List α} (h : E.O base W v L) (hb : Bel W W') : E.O base W' v L := h.at (fun k hk => hb.block k (h.lt hk).2)
theorem El.O.mono {base base' : Nat} {W : World} {v : Value} {L : List α} (h : E.O base W v L) (hb : base' ≤ base) : E.O base' W v L := by
  refine ⟨h.1, ?_⟩
  rcases h.2 with h' | ⟨g, cap, cur, rfl, h1, h2⟩
  · exact Or.inl h'
  · exact Or.inr ⟨g, cap, cur, rfl, Nat.le_trans hb h1, h2⟩
theorem El.O.row {base : Nat} {W : World} {g cap : Nat} {L : List α} (h : E.O base W (.slice (some ⟨g, 0, none⟩) L.length cap) L) : E.R W g 0 L := by
  intro j hj c u hu
  have hc : c < E.k := by have := (List.getElem?_eq_some_iff.1 hu).1; rw [E.len] at this; exact this
  have hjk : j * E.k + c < L.length * E.k := by
    have h1 : (j + 1) * E.k ≤ L.length * E.k := Nat.mul_le_mul_right _ hj
    rw [Nat.add_mul] at h1
    omega
  rw [Nat.zero_add]
  have := World.ownsRow.cellAt h (j * E.k + c) hjk
  rw [this, E.fl_at L j c hj hc]
  exact hu
theorem El.O.shape {base : Nat} {W : World} {v : Value} {L : List α} (h : E.O base W v L) : ∃ a cap g, v = .slice a L.length cap ∧ (L.length ≠ 0 → a = some ⟨g, 0, none⟩) ∧ E.R W g 0 L ∧ L.length ≤ cap := by
  rcases h.2 with ⟨rfl, h0⟩ | ⟨g, cap, cur, rfl, h1, h2, h3, h4⟩
  · exact ⟨none, 0, 0, by rw [h0], fun e => absurd h0 e, fun j hj => by omega, by omega⟩
  · exact ⟨some ⟨g, 0, none⟩, cap, g, rfl, fun _ => rfl, El.O.row h, h3⟩
/-- The row's block has the row's type. -/
theorem El.O.block {base : Nat} {W : World} {v : Value} {L : List α} (h : E.O base W v L) {k : Nat} (hk : v.ownBlock = some k) : ∃ c, W.heap[k]? = some (.cells c E.e) := by
  rcases h.2 with ⟨rfl, h0⟩ | ⟨g, cap, cur, rfl, h1, h2, h3⟩
  · simp [Value.ownBlock] at hk
  · cases hk; exact ⟨cur, h2⟩
/-- append of the elements of a row that lies in memory, of which there may be none. -/
theorem El.run_app (W : World) (base : Nat) (v : Value) (L M : List α) (h : E.O base W v L) (hbase : base ≤ W.heap.size) (a : Option Addr) (g off cap : Nat) (ha : M.length ≠ 0 → a = some ⟨g, off, none⟩) (hM : E.R W g off M) (hb : L.length + M.length ≤ 100000000000) (ty : TypeId) :
    ∃ v' w', (Builtin.append_ #[E.t, E.t] ty #[v, .slice a M.length cap]).run Tryz.prog W = .ok v' w' ∧ E.O base w' v' (L ++ M) ∧ W.grownBy w' v.ownBlock ∧ (∀ k, v'.ownBlock = some k → v.ownBlock = some k ∨ k = W.heap.size) := by
  obtain ⟨i0, hi, hz0, hz1, hz2⟩ := E.info
  by_cases h0 : M.length = 0
  · have hM0 : M = [] := List.eq_nil_of_length_eq_zero h0
    subst hM0
    obtain ⟨sb, sc, sl, rfl, hsl⟩ : ∃ sb sc sl, v = .slice sb sl sc ∧ sl ≤ sc := by
      rcases h.2 with ⟨rfl, h0⟩ | ⟨g, cap, cur, rfl, h1, h2, hn, h3⟩
      · exact ⟨none, 0, 0, rfl, Nat.le_refl _⟩
      · exact ⟨_, cap, _, rfl, hn⟩
    refine ⟨_, W, ?_, by simpa using h, ⟨rfl, rfl, rfl, Nat.le_refl _, fun _ _ _ => rfl⟩, fun k hk => Or.inl hk⟩
    refine run_append_nothing W E.t E.t ty E.e i0 E.ht hi sb sl sc hsl _ ⟨Or.inl ⟨E.e, E.ht⟩, fun w' => ?_, ?_, ?_, by simp, by simp⟩
    · cases a <;> simp [Builtin.lenOf]
    · cases a <;> simp [Builtin.firstCells, loadCells, loadCellsFrom]
    · cases a <;> simp [Builtin.firstCells, loadCells, loadCellsFrom]
  · obtain rfl := ha h0
    have hbb := E.hb
    obtain ⟨g', cap', w', hr, q1, q2, q3, _⟩ := run_append_lies (P := Tryz.prog) W E.t ty base E.e i0 E.z E.k E.bytes E.ht hi hz0 hz1 hz2 E.hz E.hk v L.length (E.fl L) h ⟨g, off, none⟩ M.length cap (E.fl M) (E.fl_len M) (fun t u ht => by rw [Addr.add_lit]; exact hM.flat t u ht) (E.fl_cells M) (by omega) (by unfold maxLen; omega) (by
      have h1 : (L.length + M.length) * E.bytes ≤ 100000000000 * 1000 := Nat.mul_le_mul hb hbb
      omega) hbase _ rfl
    refine ⟨_, w', hr, ?_, q2, fun k hk => ?_⟩
    · unfold El.O
      rw [E.fl_app, List.length_append]
      exact q1
    · cases hk
      exact q3
/-- append of one element that was just laid. -/
theorem El.run_app1 (W : World) (base : Nat) (v : Value) (L : List α) (h : E.O base W v L) (hbase : base ≤ W.heap.size) (x : α) (B c : Nat) (hB : W.heap[B]? = some (.cells (E.enc x).toArray E.e)) (hb : L.length + 1 ≤ 100000000000) (ty : TypeId) :
    ∃ g cap w', (Builtin.append_ #[E.t, E.t] ty #[v, .slice (some ⟨B, 0, none⟩) 1 c]).run Tryz.prog W = .ok (.slice (some ⟨g, 0, none⟩) (L.length + 1) cap) w' ∧ E.O base w' (.slice (some ⟨g, 0, none⟩) (L.length + 1) cap) (L ++ [x]) ∧ W.grownBy w' v.ownBlock ∧ (v.ownBlock = some g ∨ g = W.heap.size) := by
  obtain ⟨i0, hi, hz0, hz1, hz2⟩ := E.info
  have hbb := E.hb
  obtain ⟨g', cap', w', hr, q1, q2, q3, _⟩ := run_append_lies (P := Tryz.prog) W E.t ty base E.e i0 E.z E.k E.bytes E.ht hi hz0 hz1 hz2 E.hz E.hk v L.length (E.fl L) h ⟨B, 0, none⟩ 1 c (E.enc x) (by rw [E.len]; omega) (fun t u ht => by
    rw [Addr.add_lit, Nat.zero_add, cell_of hB]
    simpa using ht) (E.one x) (by omega) (by unfold maxLen; omega) (by
      have h1 : (L.length + 1) * E.bytes ≤ 100000000000 * 1000 := Nat.mul_le_mul hb hbb
      omega) hbase _ rfl
  refine ⟨g', cap', w', hr, ?_, q2, q3⟩
  unfold El.O
  rw [E.fl_app, List.length_append, E.fl_one]
  exact q1
end
end Go.Proofs.YtgofdkheffoilaaGreatDoor
