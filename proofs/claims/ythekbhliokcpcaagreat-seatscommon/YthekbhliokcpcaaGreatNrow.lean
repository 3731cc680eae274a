/- Rows of structs. Members and messages in memory. Numbers of members: isId, noneOrId, areIds, areMembers; Index, Contains. -/
import Derived.Test.YthekbhliokcpcaaGreatWld
namespace Go.Proofs.YthekbhliokcpcaaGreat
open Go.RowKit Go.Maps
/-- What a row's elements are: their cells, their types. -/
structure El (α : Type) where
  enc : α → List Value
  k : Nat
  e : Nat
  t : Nat
  bytes : Nat
  z : Value
  hk : 0 < k
  len : ∀ x, (enc x).length = k
  one : ∀ x, ∀ u ∈ enc x, u.oneCell' = true
  ht : Tryz.prog.underlying t = some (.slice e)
  hi : (Tryz.prog.info? e).map (fun i => (i.zero, i.size, i.bytes)) = some (some z, k, bytes)
  hz : z.cells.size = k
  hb : bytes ≤ 1000
section
variable {α : Type} (E : El α)
theorem El.info : ∃ i, Tryz.prog.info? E.e = some i ∧ i.zero = some E.z ∧ i.size = E.k ∧ i.bytes = E.bytes := by
  obtain ⟨i, hi, hzz⟩ := Option.map_eq_some_iff.1 E.hi
  simp only [Prod.mk.injEq] at hzz
  exact ⟨i, hi, hzz.1, hzz.2.1, hzz.2.2⟩
/-- The cells of a row. -/
def El.fl (L : List α) : List Value := L.flatMap E.enc
theorem El.fl_len (L : List α) : (E.fl L).length = L.length * E.k := by
  induction L with
  | nil => simp [El.fl]
  | cons a L ih => unfold El.fl at *; rw [List.flatMap_cons, List.length_append, ih, List.length_cons, E.len, Nat.add_mul]; omega
theorem El.fl_app (L M : List α) : E.fl (L ++ M) = E.fl L ++ E.fl M := List.flatMap_append
theorem El.fl_one (x : α) : E.fl [x] = E.enc x := by simp [El.fl]
theorem El.fl_at (L : List α) (j c : Nat) (hj : j < L.length) (hc : c < E.k) : (E.fl L)[j * E.k + c]? = (E.enc L[j])[c]? := by
  induction L generalizing j with
  | nil => simp at hj
  | cons x L ih =>
    unfold El.fl
    rw [List.flatMap_cons]
    cases j with
    | zero =>
      rw [Nat.zero_mul, Nat.zero_add, List.getElem?_append_left (by rw [E.len]; exact hc)]
      rfl
    | succ j =>
      rw [List.getElem?_append_right (by rw [E.len, Nat.add_mul]; omega)]
      have := ih j (by simpa using hj)
      unfold El.fl at this
      rw [show (j + 1) * E.k + c - (E.enc x).length = j * E.k + c by rw [E.len, Nat.add_mul]; omega, this]
      rfl
theorem El.fl_cells (L : List α) : ∀ u ∈ E.fl L, u.oneCell' = true := by
  intro u hu
  obtain ⟨x, _, hx⟩ := List.mem_flatMap.1 hu
  exact E.one x u hx
/-- A row as it is read. -/
def El.R (W : World) (g off : Nat) (L : List α) : Prop := ∀ j (h : j < L.length) (c : Nat) (u : Value), (E.enc L[j])[c]? = some u → W.cell? ⟨g, off + j * E.k + c, none⟩ = some u
variable {E}
theorem El.R.bel {W W' : World} {g off : Nat} {L : List α} (h : E.R W g off L) (hb : Bel W W') : E.R W' g off L := fun j hj c u hu => hb.cell (h j hj c u hu)
theorem El.R.flat {W : World} {g off : Nat} {L : List α} (h : E.R W g off L) (t : Nat) (u : Value) (ht : (E.fl L)[t]? = some u) : W.cell? ⟨g, off + t, none⟩ = some u := by
  have hk := E.hk
  have htl : t < L.length * E.k := by have := (List.getElem?_eq_some_iff.1 ht).1; rw [E.fl_len] at this; exact this
  have hj : t / E.k < L.length := (Nat.div_lt_iff_lt_mul hk).2 htl
  have e : t = t / E.k * E.k + t % E.k := by rw [Nat.mul_comm]; exact (Nat.div_add_mod t E.k).symm
  rw [e, E.fl_at L _ _ hj (Nat.mod_lt _ hk)] at ht
  have := h (t / E.k) hj (t % E.k) u ht
  rw [Nat.add_assoc, ← e] at this
  exact this
theorem El.R.take {W : World} {g off : Nat} {L : List α} (h : E.R W g off L) (k : Nat) : E.R W g off (L.take k) := fun j hj c u hu => by
  have hj' : j < L.length := by simp at hj; omega
  rw [List.getElem_take] at hu
  exact h j hj' c u hu
theorem El.R.drop {W : World} {g off : Nat} {L : List α} (h : E.R W g off L) (k : Nat) : E.R W g (off + k * E.k) (L.drop k) := fun j hj c u hu => by
  have hj' : k + j < L.length := by simp at hj; omega
  rw [List.getElem_drop] at hu
  have := h (k + j) hj' c u hu
  rw [Nat.add_mul] at this
  rw [show off + k * E.k + j * E.k + c = off + (k * E.k + j * E.k) + c by omega]
  exact this
variable (E)
/-- A slice that owns its row. -/
def El.O (base : Nat) (W : World) (v : Value) (L : List α) : Prop := W.ownsRow base E.e E.k v L.length (E.fl L)
variable {E}
theorem El.O.nil (base : Nat) (W : World) : E.O base W (.slice none 0 0) [] := World.ownsRow_nil _ _ _ _
theorem El.O.lt {base : Nat} {W : World} {v : Value} {L : List α} (h : E.O base W v L) {k : Nat} (hk : v.ownBlock = some k) : base ≤ k ∧ k < W.heap.size := World.ownsRow.lt h k hk
theorem El.O.at {base : Nat} {W W' : World} {v : Value} {L : List α} (h : E.O base W v L) (hb : ∀ k, v.ownBlock = some k → W'.heap[k]? = W.heap[k]?) : E.O base W' v L := by
  refine ⟨h.1, ?_⟩
  rcases h.2 with h' | ⟨g, cap, cur, rfl, h1, h2, h3⟩
  · exact Or.inl h'
  · exact Or.inr ⟨g, cap, cur, rfl, h1, (hb g rfl).trans h2, h3⟩
theorem El.O.bel {base : Nat} {W W' : World} {v : Value} {L : List α} (h : E.O base W v L) (hb : Bel W W') : E.O base W' v L := h.at (fun k hk => hb.block k (h.lt hk).2)
theorem El.O.mono {base base' : Nat} {W : World} {v : Value} {L : List α} (h : E.O base W v L) (hb : base' ≤ base) : E.O base' W v L := by
  refine ⟨h.1, ?_⟩
  rcases h.2 with h' | ⟨g, cap, cur, rfl, h1, h2⟩
  · exact Or.inl h'
  · exact Or.inr ⟨g, cap, cur, rfl, Nat.le_trans hb h1, h2⟩
theorem El.O.row {base : Nat} {W : World} {g cap : Nat} {L : List α} (h : E.O base W (.slice (some ⟨g, 0, none⟩) L.length cap) L) : E.R W g 0 L := by
  intro j hj c u hu
  have hc : c < E.k := by have := (List.getElem?_eq_some_iff.1 hu).1; rw [E.len] at this; exact this
  have hjk : j * E.k + c < L.length * E.k := by
    have h1 : (j + 1) * E.k ≤ L.length * E.k := Nat.mul_le_mul_right _ hj
    rw [Nat.add_mul] at h1
    omega
  rw [Nat.zero_add]
  have := World.ownsRow.cellAt h (j * E.k + c) hjk
  rw [this, E.fl_at L j c hj hc]
  exact hu
theorem El.O.shape {base : Nat} {W : World} {v : Value} {L : List α} (h : E.O base W v L) : ∃ a cap g, v = .slice a L.length cap ∧ (L.length ≠ 0 → a = some ⟨g, 0, none⟩) ∧ E.R W g 0 L ∧ L.length ≤ cap := by
  rcases h.2 with ⟨rfl, h0⟩ | ⟨g, cap, cur, rfl, h1, h2, h3, h4⟩
  · exact ⟨none, 0, 0, by rw [h0], fun e => absurd h0 e, fun j hj => by omega, by omega⟩
  · exact ⟨some ⟨g, 0, none⟩, cap, g, rfl, fun _ => rfl, El.O.row h, h3⟩
/-- The row's block has the row's type. -/
theorem El.O.block {base : Nat} {W : World} {v : Value} {L : List α} (h : E.O base W v L) {k : Nat} (hk : v.ownBlock = some k) : ∃ c, W.heap[k]? = some (.cells c E.e) := by
  rcases h.2 with ⟨rfl, h0⟩ | ⟨g, cap, cur, rfl, h1, h2, h3⟩
  · simp [Value.ownBlock] at hk
  · cases hk; exact ⟨cur, h2⟩
/-- append of the elements of a row that lies in memory, of which there may be none. -/
theorem El.run_app (W : World) (base : Nat) (v : Value) (L M : List α) (h : E.O base W v L) (hbase : base ≤ W.heap.size) (a : Option Addr) (g off cap : Nat) (ha : M.length ≠ 0 → a = some ⟨g, off, none⟩) (hM : E.R W g off M) (hb : L.length + M.length ≤ 100000000000) (ty : TypeId) :
    ∃ v' w', (Builtin.append_ #[E.t, E.t] ty #[v, .slice a M.length cap]).run Tryz.prog W = .ok v' w' ∧ E.O base w' v' (L ++ M) ∧ W.grownBy w' v.ownBlock ∧ (∀ k, v'.ownBlock = some k → v.ownBlock = some k ∨ k = W.heap.size) := by
  obtain ⟨i0, hi, hz0, hz1, hz2⟩ := E.info
  by_cases h0 : M.length = 0
  · have hM0 : M = [] := List.eq_nil_of_length_eq_zero h0
    subst hM0
    obtain ⟨sb, sc, sl, rfl, hsl⟩ : ∃ sb sc sl, v = .slice sb sl sc ∧ sl ≤ sc := by
      rcases h.2 with ⟨rfl, h0⟩ | ⟨g, cap, cur, rfl, h1, h2, hn, h3⟩
      · exact ⟨none, 0, 0, rfl, Nat.le_refl _⟩
      · exact ⟨_, cap, _, rfl, hn⟩
    refine ⟨_, W, ?_, by simpa using h, ⟨rfl, rfl, rfl, Nat.le_refl _, fun _ _ _ => rfl⟩, fun k hk => Or.inl hk⟩
    refine run_append_nothing W E.t E.t ty E.e i0 E.ht hi sb sl sc hsl _ ⟨Or.inl ⟨E.e, E.ht⟩, fun w' => ?_, ?_, ?_, by simp, by simp⟩
    · cases a <;> simp [Builtin.lenOf]
    · cases a <;> simp [Builtin.firstCells, loadCells, loadCellsFrom]
    · cases a <;> simp [Builtin.firstCells, loadCells, loadCellsFrom]
  · obtain rfl := ha h0
    have hbb := E.hb
    obtain ⟨g', cap', w', hr, q1, q2, q3, _⟩ := run_append_lies (P := Tryz.prog) W E.t ty base E.e i0 E.z E.k E.bytes E.ht hi hz0 hz1 hz2 E.hz E.hk v L.length (E.fl L) h ⟨g, off, none⟩ M.length cap (E.fl M) (E.fl_len M) (fun t u ht => by rw [Addr.add_lit]; exact hM.flat t u ht) (E.fl_cells M) (by omega) (by unfold maxLen; omega) (by
      have h1 : (L.length + M.length) * E.bytes ≤ 100000000000 * 1000 := Nat.mul_le_mul hb hbb
      omega) hbase _ rfl
    refine ⟨_, w', hr, ?_, q2, fun k hk => ?_⟩
    · unfold El.O
      rw [E.fl_app, List.length_append]
      exact q1
    · cases hk
      exact q3
/-- append of one element that was just laid. -/
theorem El.run_app1 (W : World) (base : Nat) (v : Value) (L : List α) (h : E.O base W v L) (hbase : base ≤ W.heap.size) (x : α) (B c : Nat) (hB : W.heap[B]? = some (.cells (E.enc x).toArray E.e)) (hb : L.length + 1 ≤ 100000000000) (ty : TypeId) :
    ∃ g cap w', (Builtin.append_ #[E.t, E.t] ty #[v, .slice (some ⟨B, 0, none⟩) 1 c]).run Tryz.prog W = .ok (.slice (some ⟨g, 0, none⟩) (L.length + 1) cap) w' ∧ E.O base w' (.slice (some ⟨g, 0, none⟩) (L.length + 1) cap) (L ++ [x]) ∧ W.grownBy w' v.ownBlock ∧ (v.ownBlock = some g ∨ g = W.heap.size) := by
  obtain ⟨i0, hi, hz0, hz1, hz2⟩ := E.info
  have hbb := E.hb
  obtain ⟨g', cap', w', hr, q1, q2, q3, _⟩ := run_append_lies (P := Tryz.prog) W E.t ty base E.e i0 E.z E.k E.bytes E.ht hi hz0 hz1 hz2 E.hz E.hk v L.length (E.fl L) h ⟨B, 0, none⟩ 1 c (E.enc x) (by rw [E.len]; omega) (fun t u ht => by
    rw [Addr.add_lit, Nat.zero_add, cell_of hB]
    simpa using ht) (E.one x) (by omega) (by unfold maxLen; omega) (by
      have h1 : (L.length + 1) * E.bytes ≤ 100000000000 * 1000 := Nat.mul_le_mul hb hbb
      omega) hbase _ rfl
  refine ⟨g', cap', w', hr, ?_, q2, q3⟩
  unfold El.O
  rw [E.fl_app, List.length_append, E.fl_one]
  exact q1
end
end Go.Proofs.YthekbhliokcpcaaGreat
namespace Go.Proofs.YthekbhliokcpcaaGreat
open Go.RowKit Go.Maps
/-- Rows of numbers. -/
def E3 : El Int := { enc := fun x => [.int .i64 x], k := 1, e := 3, t := 22, bytes := 8, z := .int .i64 0, hk := by decide, len := fun _ => rfl, one := fun x u hu => by simp at hu; rw [hu]; rfl, ht := Tryz.underlying22, hi := by kernel_rfl, hz := rfl, hb := by decide }
/-- Rows of entries. -/
def encE (x : PE) : List Value := [.int .u64 x.t, .int .u8 x.k, .string x.d, .slice none 0 0]
def E69 : El PE := { enc := encE, k := 4, e := 53, t := 27, bytes := 56, z := .agg #[.int .u64 0, .int .u8 0, .string ⟨#[]⟩, .slice none 0 0], hk := by decide, len := fun _ => rfl, one := fun x u hu => by simp [encE] at hu; rcases hu with rfl | rfl | rfl | rfl <;> rfl, ht := Tryz.underlying27, hi := by kernel_rfl, hz := rfl, hb := by decide }
/-- Rows of what a leader knows of the others. -/
def encF (x : Int × Int × Int) : List Value := [.int .i64 x.1, .int .u64 x.2.1, .int .u64 x.2.2]
def E65 : El (Int × Int × Int) := { enc := encF, k := 3, e := 79, t := 28, bytes := 24, z := .agg #[.int .i64 0, .int .u64 0, .int .u64 0], hk := by decide, len := fun _ => rfl, one := fun x u hu => by simp [encF] at hu; rcases hu with rfl | rfl | rfl <;> rfl, ht := Tryz.underlying28, hi := by kernel_rfl, hz := rfl, hb := by decide }
/-- Rows of messages. -/
def encM (m : PM) : List Value := [.int .u8 m.kind, .int .i64 m.frm, .int .i64 m.to, .int .u64 m.term, .int .u64 m.index, .int .u64 m.lterm, .int .u64 0, .int .u64 0, .bool m.ok, .slice none 0 0, .slice none 0 0, .string ⟨#[]⟩]
def E44 : El PM := { enc := encM, k := 12, e := 87, t := 47, bytes := 136, z := .agg #[.int .u8 0, .int .i64 0, .int .i64 0, .int .u64 0, .int .u64 0, .int .u64 0, .int .u64 0, .int .u64 0, .bool false, .slice none 0 0, .slice none 0 0, .string ⟨#[]⟩], hk := by decide, len := fun _ => rfl, one := fun x u hu => by simp [encM] at hu; rcases hu with rfl | rfl | rfl | rfl | rfl | rfl | rfl | rfl | rfl | rfl <;> rfl, ht := Tryz.underlying47, hi := by kernel_rfl, hz := rfl, hb := by decide }
/-- Where a member's lists lie. -/
structure Px where
  aM : Option Addr
  cM : Nat
  aB : Option Addr
  cB : Nat
  aL : Option Addr
  cL : Nat
  aV : Option Addr
  cV : Nat
  aF : Option Addr
  cF : Nat
  aR : Option Addr
  cR : Nat
/-- A member's cells. -/
def pc (n : Nat) (s : PP) (x : Px) : Array Value := #[.int .i64 s.id, .slice x.aM n x.cM, .int .u64 s.term, .int .i64 s.vote, .int .u8 s.role, .int .i64 s.lead, .int .u64 0, .int .u64 0, .slice x.aB n x.cB, .string ⟨#[]⟩, .slice x.aL s.log.length x.cL, .int .u64 s.commit, .int .i64 s.idle, .int .i64 s.wait, .slice x.aV s.votes.length x.cV, .slice x.aF s.fol.length x.cF, .int .u64 0, .slice x.aR 0 x.cR]
/-- A slice reads as this list. -/
def Sl {α : Type} (E : El α) (W : World) (a : Option Addr) (L : List α) : Prop := ∃ g off, (L.length ≠ 0 → a = some ⟨g, off, none⟩) ∧ E.R W g off L
section
variable {α : Type} {E : El α} {W W' : World} {a : Option Addr} {L : List α}
theorem Sl.bel (h : Sl E W a L) (hb : Bel W W') : Sl E W' a L := by
  obtain ⟨g, off, h1, h2⟩ := h
  exact ⟨g, off, h1, h2.bel hb⟩
theorem Sl.nil (E : El α) (W : World) (a : Option Addr) : Sl E W a [] := ⟨0, 0, fun h => absurd rfl h, fun j hj => by simp at hj⟩
theorem Sl.of {base n cap : Nat} (h : E.O base W (.slice a n cap) L) : Sl E W a L ∧ n = L.length ∧ L.length ≤ cap := by
  obtain ⟨a', c', g, e, h1, h2, h3⟩ := h.shape
  cases e
  exact ⟨⟨g, 0, h1, h2⟩, rfl, h3⟩
theorem Sl.below {B : Nat} (h : Sl E W a L) (hb : Below B W W') (hB : ∀ g off, a = some ⟨g, off, none⟩ → g < B) : Sl E W' a L := by
  obtain ⟨g, off, h1, h2⟩ := h
  refine ⟨g, off, h1, fun j hj c u hu => ?_⟩
  have := hB g off (h1 (by omega))
  exact (Below.cell hb this).trans (h2 j hj c u hu)
end
/-- A member as a value: its lists read as they are. -/
structure Pw (W : World) (n : Nat) (s : PP) (x : Px) : Prop where
  m : Sl E3 W x.aM (mem n)
  b : Sl E3 W x.aB (mem n)
  l : Sl E69 W x.aL s.log
  v : Sl E3 W x.aV s.votes
  f : Sl E65 W x.aF s.fol
theorem Pw.bel {W W' : World} {n : Nat} {s : PP} {x : Px} (h : Pw W n s x) (hb : Bel W W') : Pw W' n s x := ⟨h.m.bel hb, h.b.bel hb, h.l.bel hb, h.v.bel hb, h.f.bel hb⟩
end Go.Proofs.YthekbhliokcpcaaGreat
namespace Go.Proofs.YthekbhliokcpcaaGreat
open Go.RowKit Go.Maps
def idB (x : Int) : Bool := decide (1 ≤ x) && decide (x ≤ 64)
set_option maxRecDepth 100000 in
theorem isId_any (x : Int) (W : World) : Calls Tryz.prog 149 #[.int .i64 x] W fun e w' => e = .returned (.bool (idB x)) ∧ w' = W := by
  by_cases h1 : 1 ≤ x
  · by_cases h2 : x ≤ 64
    · rw [show idB x = true by simp [idB, h1, h2]]
      go_enter Tryz.func149, Tryz.ntmps149
      go_wp2_with fail
      go_ret
      exact ⟨rfl, rfl⟩
    · rw [show idB x = false by simp [idB, h2]]
      go_enter Tryz.func149, Tryz.ntmps149
      go_wp2_with fail
      go_ret
      exact ⟨rfl, rfl⟩
  · rw [show idB x = false by simp [idB, h1]]
    go_enter Tryz.func149, Tryz.ntmps149
    go_wp2_with fail
    go_ret
    exact ⟨rfl, rfl⟩
def noneB (x : Int) : Bool := (x == 0) || idB x
set_option maxRecDepth 100000 in
theorem none_any (x : Int) (W : World) : Calls Tryz.prog 150 #[.int .i64 x] W fun e w' => e = .returned (.bool (noneB x)) ∧ w' = W := by
  unfold noneB
  cases h : (x == 0) with
  | true =>
    go_enter Tryz.func150, Tryz.ntmps150
    go_wp2_with fail
    go_ret
    exact ⟨rfl, rfl⟩
  | false =>
    have HI := hide (isId_any x)
    go_enter Tryz.func150, Tryz.ntmps150
    go_wp2_with (first
      | (go_at_call 149; refine ((unhide HI) _).mono ?_; rintro e w9 ⟨rfl, hw9⟩; rw [hw9]; clear hw9))
    go_ret
    exact ⟨by simp, rfl⟩
/-- Rising from b on, each a member's number. -/
def aids : Int → List Int → Bool
  | _, [] => true
  | b, x :: l => (!decide (x ≤ b) && idB x) && aids x l
theorem E3_cell {W : World} {g off : Nat} {l : List Int} (h : E3.R W g off l) (j : Nat) (hj : j < l.length) : W.cell? ⟨g, off + j, none⟩ = some (.int .i64 l[j]) := by
  have := h j hj 0 _ rfl
  simpa [E3] using this
set_option maxRecDepth 100000 in
set_option maxHeartbeats 1000000 in
theorem areIds_any {W : World} {a : Option Addr} {l : List Int} (h : Sl E3 W a l) (cap : Nat) (hl : l.length ≤ 9000000000000000000) : Calls Tryz.prog 188 #[.slice a l.length cap] W fun e w' => e = .returned (.bool (aids 0 l)) ∧ w' = W := by
  obtain ⟨g, off, hg, hR⟩ := h
  generalize hn : l.length = n at *
  have HN := hide hn
  have HG := hide hg
  have HR := hide hR
  clear hn hg hR
  go_enter Tryz.func188, Tryz.ntmps188
  go_wp2_with fail
  go_loopw [3, 8] (fun vb vk wr => ∃ (k : Nat) (b : Int), k ≤ n ∧ vk = .int .i64 k ∧ vb = .int .i64 b ∧ wr = W ∧ Hid (aids 0 l = aids b (l.drop k))) (fun _ vk _ => n - (intOf vk).toNat)
  case atStart => exact ⟨0, 0, Nat.zero_le _, rfl, rfl, rfl, hide rfl⟩
  case round =>
    obtain ⟨k, b, hk, rfl, rfl, rfl, HE⟩ := hrel
    by_cases hlt : k < n
    · have hkl : k < l.length := by rw [unhide HN]; exact hlt
      obtain rfl := (unhide HG) (by omega)
      have hkn : (k : Int) < n := by omega
      have r0 := E3_cell (unhide HR) k hkl
      have HD : Hid (aids b (l.drop k) = ((!decide (l[k] ≤ b) && idB l[k]) && aids l[k] (l.drop (k + 1)))) := hide (by rw [List.drop_eq_getElem_cons hkl]; rfl)
      generalize l[k] = x at *
      have HI := hide (isId_any x)
      by_cases h1 : x ≤ b
      · have HF : Hid (aids 0 l = false) := hide (by rw [unhide HE, unhide HD]; simp [h1])
        go_wp2_with fail
        go_ret
        exact ⟨by rw [unhide HF]; rfl, rfl⟩
      · cases h2 : idB x with
        | true =>
          rw [h2] at HI
          have HF : Hid (aids 0 l = aids x (l.drop (k + 1))) := hide (by rw [unhide HE, unhide HD, h2]; simp [h1])
          go_wp2_with (first
            | (go_at_call 149; refine ((unhide HI) _).mono ?_; rintro e w9 ⟨rfl, hw9⟩; rw [hw9]; clear hw9))
          go_roundw
          case rel => exact ⟨k + 1, x, by omega, by go_num, rfl, by trivial, HF⟩
          case measure => simp [intOf]; omega
        | false =>
          rw [h2] at HI
          have HF : Hid (aids 0 l = false) := hide (by rw [unhide HE, unhide HD, h2]; simp)
          go_wp2_with (first
            | (go_at_call 149; refine ((unhide HI) _).mono ?_; rintro e w9 ⟨rfl, hw9⟩; rw [hw9]; clear hw9))
          go_ret
          exact ⟨by rw [unhide HF]; rfl, rfl⟩
    · obtain rfl : k = n := by omega
      have HF : Hid (aids 0 l = true) := hide (by rw [unhide HE, List.drop_of_length_le (by rw [unhide HN]; omega)]; rfl)
      go_wp2_with fail
      go_ret
      exact ⟨by rw [unhide HF]; rfl, rfl⟩
set_option maxRecDepth 100000 in
theorem areMem_any {W : World} {a : Option Addr} {l : List Int} (h : Sl E3 W a l) (cap : Nat) (hl : l.length ≤ 9000000000000000000) : Calls Tryz.prog 152 #[.slice a l.length cap] W fun e w' => e = .returned (.bool (decide (0 < l.length) && aids 0 l)) ∧ w' = W := by
  have HA := hide (areIds_any h cap hl)
  generalize l.length = n at *
  by_cases h0 : 0 < n
  · have h0' : 0 < (n : Int) := by omega
    go_enter Tryz.func152, Tryz.ntmps152
    go_wp2_with (first
      | (go_at_call 188; refine (unhide HA).mono ?_; rintro e w9 ⟨rfl, hw9⟩; rw [hw9]; clear hw9))
    go_ret
    exact ⟨by simp [h0], rfl⟩
  · have h0' : ¬ (0 < (n : Int)) := by omega
    go_enter Tryz.func152, Tryz.ntmps152
    go_wp2_with fail
    go_ret
    exact ⟨by simp, rfl⟩
/-- Where a number stands; -1: nowhere. -/
def idx (x : Int) : List Int → Int
  | [] => -1
  | y :: l => if x = y then 0 else if idx x l < 0 then -1 else idx x l + 1
theorem idx_mem (x : Int) : ∀ l : List Int, (0 ≤ idx x l ↔ x ∈ l) ∧ -1 ≤ idx x l
  | [] => by simp [idx]
  | y :: l => by
    have := idx_mem x l
    unfold idx
    by_cases h : x = y
    · simp [h]
    · rw [if_neg h]
      by_cases h2 : idx x l < 0
      · rw [if_pos h2]
        have : ¬ x ∈ l := fun hm => by have := this.1.2 hm; omega
        simp [h, this]
      · rw [if_neg h2]
        have h3 : x ∈ l := this.1.1 (by omega)
        simp [h3]
        omega
set_option maxRecDepth 100000 in
set_option maxHeartbeats 1000000 in
theorem index_any {W : World} {a : Option Addr} {l : List Int} (h : Sl E3 W a l) (cap : Nat) (x : Int) (hl : l.length ≤ 9000000000000000000) : Calls Tryz.prog 138 #[.slice a l.length cap, .int .i64 x] W fun e w' => ∃ i, e = .returned (.int .i64 i) ∧ (0 ≤ i ↔ x ∈ l) ∧ w' = W := by
  obtain ⟨g, off, hg, hR⟩ := h
  generalize hn : l.length = n at *
  have HN := hide hn
  have HG := hide hg
  have HR := hide hR
  clear hn hg hR
  go_enter Tryz.func138, Tryz.ntmps138
  go_wp2_with fail
  go_loopw [8] (fun vk wr => ∃ (k : Nat), k ≤ n ∧ vk = .int .i64 k ∧ wr = W ∧ Hid (x ∈ l ↔ x ∈ l.drop k)) (fun vk _ => n - (intOf vk).toNat)
  case atStart => exact ⟨0, Nat.zero_le _, rfl, rfl, hide (by simp)⟩
  case round =>
    obtain ⟨k, hk, rfl, rfl, HE⟩ := hrel
    by_cases hlt : k < n
    · have hkl : k < l.length := by rw [unhide HN]; exact hlt
      obtain rfl := (unhide HG) (by omega)
      have hkn : (k : Int) < n := by omega
      have r0 := E3_cell (unhide HR) k hkl
      have HD : Hid (x ∈ l.drop k ↔ x = l[k] ∨ x ∈ l.drop (k + 1)) := hide (by rw [List.drop_eq_getElem_cons hkl, List.mem_cons])
      generalize l[k] = y at *
      cases h1 : (x == y) with
      | true =>
        have HF : Hid (x ∈ l) := hide (by rw [unhide HE, unhide HD]; exact Or.inl (by simpa using h1))
        go_wp2_with fail
        go_ret
        exact ⟨_, rfl, ⟨fun _ => unhide HF, fun _ => by omega⟩, rfl⟩
      | false =>
        have HF : Hid (x ∈ l ↔ x ∈ l.drop (k + 1)) := hide (by rw [unhide HE, unhide HD]; simp at h1; simp [h1])
        go_wp2_with fail
        go_roundw
        case rel => exact ⟨k + 1, by omega, by go_num, by trivial, HF⟩
        case measure => simp [intOf]; omega
    · obtain rfl : k = n := by omega
      have HF : Hid (¬ x ∈ l) := hide (by rw [unhide HE, List.drop_of_length_le (by rw [unhide HN]; omega)]; simp)
      go_wp2_with fail
      go_ret
      exact ⟨_, rfl, ⟨fun h => absurd h (by decide), fun h => absurd h (unhide HF)⟩, rfl⟩
set_option maxRecDepth 100000 in
theorem contains_any {W : World} {a : Option Addr} {l : List Int} (h : Sl E3 W a l) (cap : Nat) (x : Int) (hl : l.length ≤ 9000000000000000000) : Calls Tryz.prog 82 #[.slice a l.length cap, .int .i64 x] W fun e w' => e = .returned (.bool (decide (x ∈ l))) ∧ w' = W := by
  have HA := hide (index_any h cap x hl)
  generalize l.length = n at *
  go_enter Tryz.func82, Tryz.ntmps82
  go_wp2_with (first
    | (go_at_call 138; refine (unhide HA).mono ?_; rintro e w9 ⟨i, rfl, hi, hw9⟩; rw [hw9]; clear hw9; have HI := hide hi; clear hi))
  all_goals
    go_ret
    refine ⟨?_, rfl⟩
    have := unhide HI
    congr 1
    congr 1
    first
      | (rw [decide_eq_decide]; exact this)
      | simp_all
end Go.Proofs.YthekbhliokcpcaaGreat
