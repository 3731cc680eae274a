/- Rows of structs. Members and messages in memory. Numbers of members: isId, noneOrId, areIds, areMembers; Index, Contains. The library's Clone, at numbers, entries, follows and reads; Equal at numbers. Last; mayEntry, mayEntries, mayNumbers, mayLog of members that may be. Structs in boxes: made, read -/
import Derived.Test.YthekbhliokcpcaaGreatT01
import Derived.Laws.Tables
import Derived.Laws.CopyRow
namespace Go.Proofs.YthekbhliokcpcaaGreat
open Go.RowKit Go.Maps
structure El (α : Type) where
 enc : α → List Value
 k : Nat
 e : Nat
 t : Nat
 bytes : Nat
 z : Value
 hk : 0 < k
 len : ∀ x, (enc x).length = k
 one : ∀ x, ∀ u ∈ enc x, u.oneCell' = true
 ht : Tryz.prog.underlying t = some (.slice e)
 hi : (Tryz.prog.info? e).map (fun i => (i.zero, i.size, i.bytes)) = some (some z, k, bytes)
 hz : z.cells.size = k
 hb : bytes ≤ 1000
section
variable {α : Type} (E : El α)
theorem El.info : ∃ i, Tryz.prog.info? E.e = some i ∧ i.zero = some E.z ∧ i.size = E.k ∧ i.bytes = E.bytes := by
 obtain ⟨i, hi, hzz⟩ := Option.map_eq_some_iff.1 E.hi
 simp only [Prod.mk.injEq] at hzz
 exact ⟨i, hi, hzz.1, hzz.2.1, hzz.2.2⟩
def El.fl (L : List α) : List Value := L.flatMap E.enc
theorem El.fl_len (L : List α) : (E.fl L).length = L.length * E.k := by
 induction L with
 | nil => simp [El.fl]
 | cons a L ih => unfold El.fl at *; rw [List.flatMap_cons, List.length_append, ih, List.length_cons, E.len, Nat.add_mul]; omega
theorem El.fl_app (L M : List α) : E.fl (L ++ M) = E.fl L ++ E.fl M := List.flatMap_append
theorem El.fl_one (x : α) : E.fl [x] = E.enc x := by simp [El.fl]
theorem El.fl_at (L : List α) (j c : Nat) (hj : j < L.length) (hc : c < E.k) : (E.fl L)[j * E.k + c]? = (E.enc L[j])[c]? := by
 induction L generalizing j with
 | nil => simp at hj
 | cons x L ih =>
  unfold El.fl
  rw [List.flatMap_cons]
  cases j with
  | zero =>
   rw [Nat.zero_mul, Nat.zero_add, List.getElem?_append_left (by rw [E.len]; exact hc)]
   rfl
  | succ j =>
   rw [List.getElem?_append_right (by rw [E.len, Nat.add_mul]; omega)]
   have := ih j (by simpa using hj)
   unfold El.fl at this
   rw [show (j + 1) * E.k + c - (E.enc x).length = j * E.k + c by rw [E.len, Nat.add_mul]; omega, this]
   rfl
theorem El.fl_cells (L : List α) : ∀ u ∈ E.fl L, u.oneCell' = true := by
 intro u hu
 obtain ⟨x, _, hx⟩ := List.mem_flatMap.1 hu
 exact E.one x u hx
def El.R (W : World) (g off : Nat) (L : List α) : Prop := ∀ j (h : j < L.length) (c : Nat) (u : Value), (E.enc L[j])[c]? = some u → W.cell? ⟨g, off + j * E.k + c, none⟩ = some u
variable {E}
theorem El.R.bel {W W' : World} {g off : Nat} {L : List α} (h : E.R W g off L) (hb : Bel W W') : E.R W' g off L := fun j hj c u hu => hb.cell (h j hj c u hu)
theorem El.R.flat {W : World} {g off : Nat} {L : List α} (h : E.R W g off L) (t : Nat) (u : Value) (ht : (E.fl L)[t]? = some u) : W.cell? ⟨g, off + t, none⟩ = some u := by
 have hk := E.hk
 have htl : t < L.length * E.k := by have := (List.getElem?_eq_some_iff.1 ht).1; rw [E.fl_len] at this; exact this
 have hj : t / E.k < L.length := (Nat.div_lt_iff_lt_mul hk).2 htl
 have e : t = t / E.k * E.k + t % E.k := by rw [Nat.mul_comm]; exact (Nat.div_add_mod t E.k).symm
 rw [e, E.fl_at L _ _ hj (Nat.mod_lt _ hk)] at ht
 have := h (t / E.k) hj (t % E.k) u ht
 rw [Nat.add_assoc, ← e] at this
 exact this
theorem El.R.take {W : World} {g off : Nat} {L : List α} (h : E.R W g off L) (k : Nat) : E.R W g off (L.take k) := fun j hj c u hu => by
 have hj' : j < L.length := by simp at hj; omega
 rw [List.getElem_take] at hu
 exact h j hj' c u hu
theorem El.R.drop {W : World} {g off : Nat} {L : List α} (h : E.R W g off L) (k : Nat) : E.R W g (off + k * E.k) (L.drop k) := fun j hj c u hu => by
 have hj' : k + j < L.length := by simp at hj; omega
 rw [List.getElem_drop] at hu
 have := h (k + j) hj' c u hu
 rw [Nat.add_mul] at this
 rw [show off + k * E.k + j * E.k + c = off + (k * E.k + j * E.k) + c by omega]
 exact this
variable (E)
def El.O (base : Nat) (W : World) (v : Value) (L : List α) : Prop := W.ownsRow base E.e E.k v L.length (E.fl L)
variable {E}
theorem El.O.nil (base : Nat) (W : World) : E.O base W (.slice none 0 0) [] := World.ownsRow_nil _ _ _ _
theorem El.O.lt {base : Nat} {W : World} {v : Value} {L : List α} (h : E.O base W v L) {k : Nat} (hk : v.ownBlock = some k) : base ≤ k ∧ k < W.heap.size := World.ownsRow.lt h k hk
theorem El.O.at {base : Nat} {W W' : World} {v : Value} {L : List α} (h : E.O base W v L) (hb : ∀ k, v.ownBlock = some k → W'.heap[k]? = W.heap[k]?) : E.O base W' v L := by
 refine ⟨h.1, ?_⟩
 rcases h.2 with h' | ⟨g, cap, cur, rfl, h1, h2, h3⟩
 ·exact Or.inl h'
 ·exact Or.inr ⟨g, cap, cur, rfl, h1, (hb g rfl).trans h2, h3⟩
theorem El.O.bel {base : Nat} {W W' : World} {v : Value} {L : List α} (h : E.O base W v L) (hb : Bel W W') : E.O base W' v L := h.at (fun k hk => hb.block k (h.lt hk).2)
theorem El.O.mono {base base' : Nat} {W : World} {v : Value} {L : List α} (h : E.O base W v L) (hb : base' ≤ base) : E.O base' W v L := by
 refine ⟨h.1, ?_⟩
 rcases h.2 with h' | ⟨g, cap, cur, rfl, h1, h2⟩
 ·exact Or.inl h'
 ·exact Or.inr ⟨g, cap, cur, rfl, Nat.le_trans hb h1, h2⟩
theorem El.O.row {base : Nat} {W : World} {g cap : Nat} {L : List α} (h : E.O base W (.slice (some ⟨g, 0, none⟩) L.length cap) L) : E.R W g 0 L := by
 intro j hj c u hu
 have hc : c < E.k := by have := (List.getElem?_eq_some_iff.1 hu).1; rw [E.len] at this; exact this
 have hjk : j * E.k + c < L.length * E.k := by
  have h1 : (j + 1) * E.k ≤ L.length * E.k := Nat.mul_le_mul_right _ hj
  rw [Nat.add_mul] at h1
  omega
 rw [Nat.zero_add]
 have := World.ownsRow.cellAt h (j * E.k + c) hjk
 rw [this, E.fl_at L j c hj hc]
 exact hu
theorem El.O.shape {base : Nat} {W : World} {v : Value} {L : List α} (h : E.O base W v L) : ∃ a cap g, v = .slice a L.length cap ∧ (L.length ≠ 0 → a = some ⟨g, 0, none⟩) ∧ E.R W g 0 L ∧ L.length ≤ cap := by
 rcases h.2 with ⟨rfl, h0⟩ | ⟨g, cap, cur, rfl, h1, h2, h3, h4⟩
 ·exact ⟨none, 0, 0, by rw [h0], fun e => absurd h0 e, fun j hj => by omega, by omega⟩
 ·exact ⟨some ⟨g, 0, none⟩, cap, g, rfl, fun _ => rfl, El.O.row h, h3⟩
theorem El.O.block {base : Nat} {W : World} {v : Value} {L : List α} (h : E.O base W v L) {k : Nat} (hk : v.ownBlock = some k) : ∃ c, W.heap[k]? = some (.cells c E.e) := by
 rcases h.2 with ⟨rfl, h0⟩ | ⟨g, cap, cur, rfl, h1, h2, h3⟩
 ·simp [Value.ownBlock] at hk
 ·cases hk; exact ⟨cur, h2⟩
theorem El.run_app (W : World) (base : Nat) (v : Value) (L M : List α) (h : E.O base W v L) (hbase : base ≤ W.heap.size) (a : Option Addr) (g off cap : Nat) (ha : M.length ≠ 0 → a = some ⟨g, off, none⟩) (hM : E.R W g off M) (hb : L.length + M.length ≤ 100000000000) (ty : TypeId) :
  ∃ v' w', (Builtin.append_ #[E.t, E.t] ty #[v, .slice a M.length cap]).run Tryz.prog W = .ok v' w' ∧ E.O base w' v' (L ++ M) ∧ W.grownBy w' v.ownBlock ∧ (∀ k, v'.ownBlock = some k → v.ownBlock = some k ∨ k = W.heap.size) := by
 obtain ⟨i0, hi, hz0, hz1, hz2⟩ := E.info
 by_cases h0 : M.length = 0
 ·have hM0 : M = [] := List.eq_nil_of_length_eq_zero h0
  subst hM0
  obtain ⟨sb, sc, sl, rfl, hsl⟩ : ∃ sb sc sl, v = .slice sb sl sc ∧ sl ≤ sc := by
   rcases h.2 with ⟨rfl, h0⟩ | ⟨g, cap, cur, rfl, h1, h2, hn, h3⟩
   ·exact ⟨none, 0, 0, rfl, Nat.le_refl _⟩
   ·exact ⟨_, cap, _, rfl, hn⟩
  refine ⟨_, W, ?_, by simpa using h, ⟨rfl, rfl, rfl, Nat.le_refl _, fun _ _ _ => rfl⟩, fun k hk => Or.inl hk⟩
  refine run_append_nothing W E.t E.t ty E.e i0 E.ht hi sb sl sc hsl _ ⟨Or.inl ⟨E.e, E.ht⟩, fun w' => ?_, ?_, ?_, by simp, by simp⟩
  ·cases a <;> simp [Builtin.lenOf]
  ·cases a <;> simp [Builtin.firstCells, loadCells, loadCellsFrom]
  ·cases a <;> simp [Builtin.firstCells, loadCells, loadCellsFrom]
 ·obtain rfl := ha h0
  have hbb := E.hb
  obtain ⟨g', cap', w', hr, q1, q2, q3, _⟩ := run_append_lies (P := Tryz.prog) W E.t ty base E.e i0 E.z E.k E.bytes E.ht hi hz0 hz1 hz2 E.hz E.hk v L.length (E.fl L) h ⟨g, off, none⟩ M.length cap (E.fl M) (E.fl_len M) (fun t u ht => by rw [Addr.add_lit]; exact hM.flat t u ht) (E.fl_cells M) (by omega) (by unfold maxLen; omega) (by
   have h1 : (L.length + M.length) * E.bytes ≤ 100000000000 * 1000 := Nat.mul_le_mul hb hbb
   omega) hbase _ rfl
  refine ⟨_, w', hr, ?_, q2, fun k hk => ?_⟩
  ·unfold El.O
   rw [E.fl_app, List.length_append]
   exact q1
  ·cases hk
   exact q3
theorem El.run_app1 (W : World) (base : Nat) (v : Value) (L : List α) (h : E.O base W v L) (hbase : base ≤ W.heap.size) (x : α) (B c : Nat) (hB : W.heap[B]? = some (.cells (E.enc x).toArray E.e)) (hb : L.length + 1 ≤ 100000000000) (ty : TypeId) :
  ∃ g cap w', (Builtin.append_ #[E.t, E.t] ty #[v, .slice (some ⟨B, 0, none⟩) 1 c]).run Tryz.prog W = .ok (.slice (some ⟨g, 0, none⟩) (L.length + 1) cap) w' ∧ E.O base w' (.slice (some ⟨g, 0, none⟩) (L.length + 1) cap) (L ++ [x]) ∧ W.grownBy w' v.ownBlock ∧ (v.ownBlock = some g ∨ g = W.heap.size) := by
 obtain ⟨i0, hi, hz0, hz1, hz2⟩ := E.info
 have hbb := E.hb
 obtain ⟨g', cap', w', hr, q1, q2, q3, _⟩ := run_append_lies (P := Tryz.prog) W E.t ty base E.e i0 E.z E.k E.bytes E.ht hi hz0 hz1 hz2 E.hz E.hk v L.length (E.fl L) h ⟨B, 0, none⟩ 1 c (E.enc x) (by rw [E.len]; omega) (fun t u ht => by
  rw [Addr.add_lit, Nat.zero_add, cell_of hB]
  simpa using ht) (E.one x) (by omega) (by unfold maxLen; omega) (by
   have h1 : (L.length + 1) * E.bytes ≤ 100000000000 * 1000 := Nat.mul_le_mul hb hbb
   omega) hbase _ rfl
 refine ⟨g', cap', w', hr, ?_, q2, q3⟩
 unfold El.O
 rw [E.fl_app, List.length_append, E.fl_one]
 exact q1
end
def E3 : El Int := { enc := fun x => [.int .i64 x], k := 1, e := 3, t := 22, bytes := 8, z := .int .i64 0, hk := by decide, len := fun _ => rfl, one := fun x u hu => by simp at hu; rw [hu]; rfl, ht := Tryz.underlying22, hi := by kernel_rfl, hz := rfl, hb := by decide }
def encF (x : Int × Int × Int) : List Value := [.int .i64 x.1, .int .u64 x.2.1, .int .u64 x.2.2]
def E65 : El (Int × Int × Int) := { enc := encF, k := 3, e := 79, t := 28, bytes := 24, z := .agg #[.int .i64 0, .int .u64 0, .int .u64 0], hk := by decide, len := fun _ => rfl, one := fun x u hu => by simp [encF] at hu; rcases hu with rfl | rfl | rfl <;> rfl, ht := Tryz.underlying28, hi := by kernel_rfl, hz := rfl, hb := by decide }
structure Px where
 aM : Option Addr
 cM : Nat
 aB : Option Addr
 cB : Nat
 aL : Option Addr
 cL : Nat
 aV : Option Addr
 cV : Nat
 aF : Option Addr
 cF : Nat
 aR : Option Addr
 cR : Nat
def Sl {α : Type} (E : El α) (W : World) (a : Option Addr) (L : List α) : Prop := ∃ g off, (L.length ≠ 0 → a = some ⟨g, off, none⟩) ∧ E.R W g off L
section
variable {α : Type} {E : El α} {W W' : World} {a : Option Addr} {L : List α}
theorem Sl.bel (h : Sl E W a L) (hb : Bel W W') : Sl E W' a L := by
 obtain ⟨g, off, h1, h2⟩ := h
 exact ⟨g, off, h1, h2.bel hb⟩
theorem Sl.nil (E : El α) (W : World) (a : Option Addr) : Sl E W a [] := ⟨0, 0, fun h => absurd rfl h, fun j hj => by simp at hj⟩
theorem Sl.of {base n cap : Nat} (h : E.O base W (.slice a n cap) L) : Sl E W a L ∧ n = L.length ∧ L.length ≤ cap := by
 obtain ⟨a', c', g, e, h1, h2, h3⟩ := h.shape
 cases e
 exact ⟨⟨g, 0, h1, h2⟩, rfl, h3⟩
end
def idB (x : Int) : Bool := decide (1 ≤ x) && decide (x ≤ 64)
set_option maxRecDepth 100000 in
theorem isId_any (x : Int) (W : World) : Calls Tryz.prog 149 #[.int .i64 x] W fun e w' => e = .returned (.bool (idB x)) ∧ w' = W := by
 by_cases h1 : 1 ≤ x
 ·by_cases h2 : x ≤ 64
  ·rw [show idB x = true by simp [idB, h1, h2]]
   go_enter Tryz.func149, Tryz.ntmps149
   go_wp2_with fail
   go_ret
   exact ⟨rfl, rfl⟩
  ·rw [show idB x = false by simp [idB, h2]]
   go_enter Tryz.func149, Tryz.ntmps149
   go_wp2_with fail
   go_ret
   exact ⟨rfl, rfl⟩
 ·rw [show idB x = false by simp [idB, h1]]
  go_enter Tryz.func149, Tryz.ntmps149
  go_wp2_with fail
  go_ret
  exact ⟨rfl, rfl⟩
def noneB (x : Int) : Bool := (x == 0) || idB x
set_option maxRecDepth 100000 in
theorem none_any (x : Int) (W : World) : Calls Tryz.prog 150 #[.int .i64 x] W fun e w' => e = .returned (.bool (noneB x)) ∧ w' = W := by
 unfold noneB
 cases h : (x == 0) with
 | true =>
  go_enter Tryz.func150, Tryz.ntmps150
  go_wp2_with fail
  go_ret
  exact ⟨rfl, rfl⟩
 | false =>
  have HI := jd (isId_any x)
  go_enter Tryz.func150, Tryz.ntmps150
  go_wp2_with (first
   | (go_at_call 149; refine ((ju HI) _).mono ?_; rintro e w9 ⟨rfl, hw9⟩; rw [hw9]; clear hw9))
  go_ret
  exact ⟨by simp, rfl⟩
def aids : Int → List Int → Bool
 | _, [] => true
 | b, x :: l => (!decide (x ≤ b) && idB x) && aids x l
theorem E3_cell {W : World} {g off : Nat} {l : List Int} (h : E3.R W g off l) (j : Nat) (hj : j < l.length) : W.cell? ⟨g, off + j, none⟩ = some (.int .i64 l[j]) := by
 have := h j hj 0 _ rfl
 simpa [E3] using this
set_option maxRecDepth 100000 in
set_option maxHeartbeats 1000000 in
theorem areIds_any {W : World} {a : Option Addr} {l : List Int} (h : Sl E3 W a l) (cap : Nat) (hl : l.length ≤ 9000000000000000000) : Calls Tryz.prog 188 #[.slice a l.length cap] W fun e w' => e = .returned (.bool (aids 0 l)) ∧ w' = W := by
 obtain ⟨g, off, hg, hR⟩ := h
 generalize hn : l.length = n at *
 have HN := jd hn
 have HG := jd hg
 have HR := jd hR
 clear hn hg hR
 go_enter Tryz.func188, Tryz.ntmps188
 go_wp2_with fail
 go_loopw [3, 8] (fun vb vk wr => ∃ (k : Nat) (b : Int), k ≤ n ∧ vk = .int .i64 k ∧ vb = .int .i64 b ∧ wr = W ∧ Hid (aids 0 l = aids b (l.drop k))) (fun _ vk _ => n - (intOf vk).toNat)
 case atStart => exact ⟨0, 0, Nat.zero_le _, rfl, rfl, rfl, jd rfl⟩
 case round =>
  obtain ⟨k, b, hk, rfl, rfl, rfl, HE⟩ := hrel
  by_cases hlt : k < n
  ·have hkl : k < l.length := by rw [ju HN]; exact hlt
   obtain rfl := (ju HG) (by omega)
   have hkn : (k : Int) < n := by omega
   have r0 := E3_cell (ju HR) k hkl
   have HD : Hid (aids b (l.drop k) = ((!decide (l[k] ≤ b) && idB l[k]) && aids l[k] (l.drop (k + 1)))) := jd (by rw [List.drop_eq_getElem_cons hkl]; rfl)
   generalize l[k] = x at *
   have HI := jd (isId_any x)
   by_cases h1 : x ≤ b
   ·have HF : Hid (aids 0 l = false) := jd (by rw [ju HE, ju HD]; simp [h1])
    go_wp2_with fail
    go_ret
    exact ⟨by rw [ju HF]; rfl, rfl⟩
   ·cases h2 : idB x with
    | true =>
     rw [h2] at HI
     have HF : Hid (aids 0 l = aids x (l.drop (k + 1))) := jd (by rw [ju HE, ju HD, h2]; simp [h1])
     go_wp2_with (first
      | (go_at_call 149; refine ((ju HI) _).mono ?_; rintro e w9 ⟨rfl, hw9⟩; rw [hw9]; clear hw9))
     go_roundw
     case rel => exact ⟨k + 1, x, by omega, by go_num, rfl, by trivial, HF⟩
     case measure => simp [intOf]; omega
    | false =>
     rw [h2] at HI
     have HF : Hid (aids 0 l = false) := jd (by rw [ju HE, ju HD, h2]; simp)
     go_wp2_with (first
      | (go_at_call 149; refine ((ju HI) _).mono ?_; rintro e w9 ⟨rfl, hw9⟩; rw [hw9]; clear hw9))
     go_ret
     exact ⟨by rw [ju HF]; rfl, rfl⟩
  ·obtain rfl : k = n := by omega
   have HF : Hid (aids 0 l = true) := jd (by rw [ju HE, List.drop_of_length_le (by rw [ju HN]; omega)]; rfl)
   go_wp2_with fail
   go_ret
   exact ⟨by rw [ju HF]; rfl, rfl⟩
set_option maxRecDepth 100000 in
theorem areMem_any {W : World} {a : Option Addr} {l : List Int} (h : Sl E3 W a l) (cap : Nat) (hl : l.length ≤ 9000000000000000000) : Calls Tryz.prog 152 #[.slice a l.length cap] W fun e w' => e = .returned (.bool (decide (0 < l.length) && aids 0 l)) ∧ w' = W := by
 have HA := jd (areIds_any h cap hl)
 generalize l.length = n at *
 by_cases h0 : 0 < n
 ·have h0' : 0 < (n : Int) := by omega
  go_enter Tryz.func152, Tryz.ntmps152
  go_wp2_with (first
   | (go_at_call 188; refine (ju HA).mono ?_; rintro e w9 ⟨rfl, hw9⟩; rw [hw9]; clear hw9))
  go_ret
  exact ⟨by simp [h0], rfl⟩
 ·have h0' : ¬ (0 < (n : Int)) := by omega
  go_enter Tryz.func152, Tryz.ntmps152
  go_wp2_with fail
  go_ret
  exact ⟨by simp, rfl⟩
set_option maxRecDepth 100000 in
set_option maxHeartbeats 1000000 in
theorem index_any {W : World} {a : Option Addr} {l : List Int} (h : Sl E3 W a l) (cap : Nat) (x : Int) (hl : l.length ≤ 9000000000000000000) : Calls Tryz.prog 138 #[.slice a l.length cap, .int .i64 x] W fun e w' => ∃ i, e = .returned (.int .i64 i) ∧ (0 ≤ i ↔ x ∈ l) ∧ w' = W := by
 obtain ⟨g, off, hg, hR⟩ := h
 generalize hn : l.length = n at *
 have HN := jd hn
 have HG := jd hg
 have HR := jd hR
 clear hn hg hR
 go_enter Tryz.func138, Tryz.ntmps138
 go_wp2_with fail
 go_loopw [8] (fun vk wr => ∃ (k : Nat), k ≤ n ∧ vk = .int .i64 k ∧ wr = W ∧ Hid (x ∈ l ↔ x ∈ l.drop k)) (fun vk _ => n - (intOf vk).toNat)
 case atStart => exact ⟨0, Nat.zero_le _, rfl, rfl, jd (by simp)⟩
 case round =>
  obtain ⟨k, hk, rfl, rfl, HE⟩ := hrel
  by_cases hlt : k < n
  ·have hkl : k < l.length := by rw [ju HN]; exact hlt
   obtain rfl := (ju HG) (by omega)
   have hkn : (k : Int) < n := by omega
   have r0 := E3_cell (ju HR) k hkl
   have HD : Hid (x ∈ l.drop k ↔ x = l[k] ∨ x ∈ l.drop (k + 1)) := jd (by rw [List.drop_eq_getElem_cons hkl, List.mem_cons])
   generalize l[k] = y at *
   cases h1 : (x == y) with
   | true =>
    have HF : Hid (x ∈ l) := jd (by rw [ju HE, ju HD]; exact Or.inl (by simpa using h1))
    go_wp2_with fail
    go_ret
    exact ⟨_, rfl, ⟨fun _ => ju HF, fun _ => by omega⟩, rfl⟩
   | false =>
    have HF : Hid (x ∈ l ↔ x ∈ l.drop (k + 1)) := jd (by rw [ju HE, ju HD]; simp at h1; simp [h1])
    go_wp2_with fail
    go_roundw
    case rel => exact ⟨k + 1, by omega, by go_num, by trivial, HF⟩
    case measure => simp [intOf]; omega
  ·obtain rfl : k = n := by omega
   have HF : Hid (¬ x ∈ l) := jd (by rw [ju HE, List.drop_of_length_le (by rw [ju HN]; omega)]; simp)
   go_wp2_with fail
   go_ret
   exact ⟨_, rfl, ⟨fun h => absurd h (by decide), fun h => absurd h (ju HF)⟩, rfl⟩
set_option maxRecDepth 100000 in
theorem contains_any {W : World} {a : Option Addr} {l : List Int} (h : Sl E3 W a l) (cap : Nat) (x : Int) (hl : l.length ≤ 9000000000000000000) : Calls Tryz.prog 82 #[.slice a l.length cap, .int .i64 x] W fun e w' => e = .returned (.bool (decide (x ∈ l))) ∧ w' = W := by
 have HA := jd (index_any h cap x hl)
 generalize l.length = n at *
 go_enter Tryz.func82, Tryz.ntmps82
 go_wp2_with (first
  | (go_at_call 138; refine (ju HA).mono ?_; rintro e w9 ⟨i, rfl, hi, hw9⟩; rw [hw9]; clear hw9; have HI := jd hi; clear hi))
 all_goals
  go_ret
  refine ⟨?_, rfl⟩
  have := ju HI
  congr 1
  congr 1
  first
   | (rw [decide_eq_decide]; exact this)
   | simp_all
theorem bel_grown {w A B : World} {row : Option Nat} (h : Bel w A) (hg : A.grownBy B row) (hr : ∀ k, row = some k → w.heap.size ≤ k) : Bel w B := Below.trans h ((Below.refl _ A).grown hg h.size hr)
theorem app_el {α : Type} {E : El α} {ops : Array Oper} {rest : List Oper} {o : Oper} {a : Act} {Q : Exit → Act → World → Prop} {W : World} {base : Nat} {v : Value} {L : List α} (N : List α) (h : E.O base W v L) (hbase : base ≤ W.heap.size) (ad : Option Addr) (n cap : Nat) (hn : N.length = n) (hN : Sl E W ad N) (hb : L.length + N.length ≤ 100000000000)
  (hgd : o.guard = none) (s y : Operand) (t : TypeId) (ht : t = E.t) (ho : o.op = .call { callee := .builtin .append, args := #[s, y], argTypes := #[t, t] }) (hs : a.eval s = v) (hy : a.eval y = .slice ad n cap)
  (hK : ∀ v' w', E.O base w' v' (L ++ N) → W.grownBy w' v.ownBlock → wpList Tryz.prog ops Q rest (a.put o.dst v') w') : wpList Tryz.prog ops Q (o :: rest) a W := by
 subst hn ht
 obtain ⟨g, off, ha, hR⟩ := hN
 refine wpList_plain hgd fun K hK' => ?_
 obtain ⟨v', w', hrun, r1, r2, r3⟩ := El.run_app (E := E) W base v L N h hbase ad g off cap ha hR hb o.type
 unfold Oper.wp execOp
 simp only [ho, resolve, invoke, builtin, Sem.run_bind, Sem.run_pure, Result.andThen_ok, List.map_toArray, List.map_cons, List.map_nil, hs, hy, hrun]
 exact hK' _ _ (hK v' w' r1 r2)
theorem El.O.made {α : Type} {E : El α} (W : World) : E.O W.heap.size (W.alloc (.cells #[] E.e)) (.slice (some ⟨W.heap.size, 0, none⟩) 0 0) [] := ⟨by simp [El.fl], Or.inr ⟨W.heap.size, 0, #[], rfl, Nat.le_refl _, at_new W _, Nat.le_refl _, Nat.zero_le _, by simp, by simp [El.fl]⟩⟩
theorem eql24 (ad : Option Addr) (n cap : Nat) (W : World) : (binOp BinOp.eql 22 (.slice ad n cap) (.slice none 0 0)).run Tryz.prog W = .ok (.bool ad.isNone) W := by
 simp only [binOp]
 simp [Op.equal, Op.maxDepth, Lib.run_equalIn_slice_nil W 9999 22 _ ad n cap 0 0 Tryz.underlying22]
set_option maxRecDepth 100000 in
set_option maxHeartbeats 1000000 in
theorem clone3 {W : World} {a : Option Addr} {n cap : Nat} {l : List Int} (hn : l.length = n) (hR : Sl E3 W a l) (hl : n ≤ 10000000000) : Calls Tryz.prog 99 #[.slice a n cap] W fun e w' => ∃ a' c', e = .returned (.slice a' n c') ∧ E3.O W.heap.size w' (.slice a' n c') l ∧ Bel W w' := by
 have HR := jd hR
 have HN := jd hn
 have HL := jd hl
 have hq := eql24 a n cap
 cases a with
 | none =>
  have h0 : l = [] := by
   obtain ⟨g, off, h1, _⟩ := hR
   cases l with
   | nil => rfl
   | cons x l => exact absurd (h1 (by simp)) (by simp)
  subst h0
  obtain rfl : n = 0 := by simpa using hn.symm
  clear hR hn hl
  go_enter Tryz.func99, Tryz.ntmps99
  go_wp2_with fail
  go_ret
  exact ⟨_, _, rfl, El.O.nil _ _, Bel.refl _⟩
 | some ad =>
  clear hR hn hl
  go_enter Tryz.func99, Tryz.ntmps99
  go_wp2_with (first
   | (at_builtin; refine app_el (E := E3) (L := []) l (El.O.made W) (by simp) (some ad) n cap (ju HN) ((ju HR).bel ((Bel.refl W).alloc _)) (by have := ju HL; have := ju HN; simp; omega) rfl _ _ 22 rfl rfl rfl rfl ?_; intro v' w' ho hg; rw [List.nil_append] at ho; obtain ⟨a', c', g', hv', _, _, _⟩ := ho.shape; rw [ju HN] at hv'; subst hv'; have HF := jd (aI ho (bel_grown ((Bel.refl W).alloc _) hg (fun z hz => by cases hz; exact Nat.le_refl _))); clear ho hg))
  go_ret
  exact ⟨_, _, rfl, (ju HF).1, (ju HF).2⟩
theorem eql29 (ad : Option Addr) (n cap : Nat) (W : World) : (binOp BinOp.eql 28 (.slice ad n cap) (.slice none 0 0)).run Tryz.prog W = .ok (.bool ad.isNone) W := by
 simp only [binOp]
 simp [Op.equal, Op.maxDepth, Lib.run_equalIn_slice_nil W 9999 28 _ ad n cap 0 0 Tryz.underlying28]
set_option maxRecDepth 100000 in
set_option maxHeartbeats 1000000 in
theorem clone65 {W : World} {a : Option Addr} {n cap : Nat} {l : List (Int × Int × Int)} (hn : l.length = n) (hR : Sl E65 W a l) (hl : n ≤ 10000000000) : Calls Tryz.prog 100 #[.slice a n cap] W fun e w' => ∃ a' c', e = .returned (.slice a' n c') ∧ E65.O W.heap.size w' (.slice a' n c') l ∧ Bel W w' := by
 have HR := jd hR
 have HN := jd hn
 have HL := jd hl
 have hq := eql29 a n cap
 cases a with
 | none =>
  have h0 : l = [] := by
   obtain ⟨g, off, h1, _⟩ := hR
   cases l with
   | nil => rfl
   | cons x l => exact absurd (h1 (by simp)) (by simp)
  subst h0
  obtain rfl : n = 0 := by simpa using hn.symm
  clear hR hn hl
  go_enter Tryz.func100, Tryz.ntmps100
  go_wp2_with fail
  go_ret
  exact ⟨_, _, rfl, El.O.nil _ _, Bel.refl _⟩
 | some ad =>
  clear hR hn hl
  go_enter Tryz.func100, Tryz.ntmps100
  go_wp2_with (first
   | (at_builtin; refine app_el (E := E65) (L := []) l (El.O.made W) (by simp) (some ad) n cap (ju HN) ((ju HR).bel ((Bel.refl W).alloc _)) (by have := ju HL; have := ju HN; simp; omega) rfl _ _ 28 rfl rfl rfl rfl ?_; intro v' w' ho hg; rw [List.nil_append] at ho; obtain ⟨a', c', g', hv', _, _, _⟩ := ho.shape; rw [ju HN] at hv'; subst hv'; have HF := jd (aI ho (bel_grown ((Bel.refl W).alloc _) hg (fun z hz => by cases hz; exact Nat.le_refl _))); clear ho hg))
  go_ret
  exact ⟨_, _, rfl, (ju HF).1, (ju HF).2⟩
set_option maxRecDepth 100000 in
set_option maxHeartbeats 1000000 in
theorem equal_any {W : World} {a b : Option Addr} {l k : List Int} (h : Sl E3 W a l) (h2 : Sl E3 W b k) (cap cap2 : Nat) (hl : l.length ≤ 9000000000000000000) : Calls Tryz.prog 113 #[.slice a l.length cap, .slice b k.length cap2] W fun e w' => e = .returned (.bool (decide (l = k))) ∧ Bel W w' := by
 by_cases hnm : l.length = k.length
 case neg =>
  have e : decide (l = k) = false := decide_eq_false (fun e => hnm (by rw [e]))
  rw [e]
  have hne : ((l.length : Int) == k.length) = false := by simp; omega
  clear h h2 hl hnm e
  generalize l.length = n at *
  generalize k.length = m at *
  go_enter Tryz.func113, Tryz.ntmps113
  go_wp2_with fail
  go_ret
  exact ⟨rfl, Bel.refl _⟩
 case pos =>
 rw [← hnm]
 obtain ⟨g, off, hg, hR⟩ := h
 obtain ⟨g2, off2, hg2, hR2⟩ := h2
 have hm : k.length = l.length := hnm.symm
 clear hnm
 generalize hn : l.length = n at *
 have HN := jd hn
 have HM := jd hm
 have HG := jd hg
 have HR := jd hR
 have HG2 := jd hg2
 have HR2 := jd hR2
 clear hn hg hR hm hg2 hR2
 go_enter Tryz.func113, Tryz.ntmps113
 go_wp2_with fail
 go_loopw [13] (fun vk wr => ∃ (i : Nat), i ≤ n ∧ vk = .int .i64 i ∧ Bel W wr ∧ Hid (l.take i = k.take i)) (fun vk _ => n - (intOf vk).toNat)
 case atStart => exact ⟨0, Nat.zero_le _, rfl, Bel.refl _, jd (by simp)⟩
 case round =>
  obtain ⟨i, hk, rfl, hb, HE⟩ := hrel
  by_cases hlt : i < n
  ·have hil : i < l.length := by rw [ju HN]; exact hlt
   have hik : i < k.length := by rw [ju HM]; exact hlt
   obtain rfl := (ju HG) (by omega)
   obtain rfl := (ju HG2) (by rw [ju HM]; omega)
   have hkn : (i : Int) < n := by omega
   have r0 := hb.cell (E3_cell (ju HR) i hil)
   have r1 := hb.cell (E3_cell (ju HR2) i hik)
   have HB := jd hb
   have HD : Hid (l[i] = k[i] → l.take (i + 1) = k.take (i + 1)) := jd (fun e => by rw [List.take_add_one, List.take_add_one, ju HE, List.getElem?_eq_getElem hil, List.getElem?_eq_getElem hik, e])
   have HD2 : Hid (l[i] ≠ k[i] → l ≠ k) := jd (fun e h => e (by simp [h]))
   generalize l[i] = x at *
   generalize k[i] = y at *
   clear hb
   cases h1 : (x == y) with
   | true =>
    go_wp2_with fail
    go_quiet (fail)
    go_wp2_with fail
    go_roundw
    case rel => exact ⟨i + 1, by omega, by go_num, (ju HB).drewN _, jd ((ju HD) (by simpa using h1))⟩
    case measure => simp [intOf]; omega
   | false =>
    have HF : Hid (decide (l = k) = false) := jd (decide_eq_false ((ju HD2) (by simpa using h1)))
    go_wp2_with fail
    go_quiet (fail)
    go_wp2_with fail
    go_ret
    exact ⟨by rw [ju HF]; rfl, (ju HB).drewN _⟩
  ·obtain rfl : i = n := by omega
   have HF : Hid (decide (l = k) = true) := jd (decide_eq_true (by
    have := ju HE
    rwa [List.take_of_length_le (by rw [ju HN]; omega), List.take_of_length_le (by rw [ju HM]; omega)] at this))
   have HB := jd hb
   clear hb
   go_wp2_with fail
   go_ret
   exact ⟨by rw [ju HF]; rfl, ju HB⟩
theorem wrapU {n : Int} (h0 : 0 ≤ n) (h1 : n < 18446744073709551616) : IntKind.u64.wrap n = n := by
 rw [IntKind.wrap_u64]
 omega
section
variable {ops : Array Oper} {rest : List Oper} {o : Oper} {a : Act} {Q : Exit → Act → World → Prop} {W : World}
theorem bx_box (hgd : o.guard = none) (t : TypeId) (x : Operand) (ho : o.op = .box t x) (cs : Array Value) (hx : a.eval x = .agg cs)
  (hK : ∀ b w', w'.heap[b]? = some (.cells cs t) → W.heap.size = b → Bel W w' → wpList Tryz.prog ops Q rest (a.put o.dst (.pointer (some ⟨b, 0, none⟩))) w') : wpList Tryz.prog ops Q (o :: rest) a W := by
 refine wpList_plain hgd fun K hK' => ?_
 unfold Oper.wp execOp
 simp only [ho, hx]
 simp [go_sem, Instr.box, newVar, Value.cells]
 exact hK' _ _ (hK _ _ (at_new W _) rfl ((Bel.refl W).alloc _))
theorem bx_new (hgd : o.guard = none) (t : TypeId) (ho : o.op = .alloc t) (cs : Array Value) (hz : ∀ w, (zeroValue t).run Tryz.prog w = .ok (.agg cs) w)
  (hK : ∀ b w', w'.heap[b]? = some (.cells cs t) → W.heap.size = b → Bel W w' → wpList Tryz.prog ops Q rest (a.put o.dst (.pointer (some ⟨b, 0, none⟩))) w') : wpList Tryz.prog ops Q (o :: rest) a W := by
 refine wpList_plain hgd fun K hK' => ?_
 unfold Oper.wp execOp
 simp only [ho]
 simp [go_sem, Instr.alloc, newVar, Value.cells, hz]
 exact hK' _ _ (hK _ _ (at_new W _) rfl ((Bel.refl W).alloc _))
theorem bx_ld (hgd : o.guard = none) (t : TypeId) (x : Operand) (ho : o.op = .load t x) (b : Nat) (hx : a.eval x = .pointer (some ⟨b, 0, none⟩)) (cs : Array Value) (fs : Array Field) (hg : W.heap[b]? = some (.cells cs t)) (hu : Tryz.prog.underlying t = some (.struct fs)) (hi : (Tryz.prog.info? t).map (·.size) = some cs.size)
  (h : wpList Tryz.prog ops Q rest (a.put o.dst (.agg cs)) W) : wpList Tryz.prog ops Q (o :: rest) a W := wpList_load_row hgd t x ho b hx t cs (0, 0) _ hg hu rfl hi h
theorem ch_row {W : World} {b : Nat} {c c' : Array Value} {t : TypeId} (h : W.heap[b]? = some (.cells c t)) : (W.setRow b c').heap[b]? = some (.cells c' t) ∧ Ch (fun k => k = b) W (W.setRow b c') := by
 refine ⟨setRow_heap W b c c' t (0, 0) h, rfl, rfl, rfl, ?_, fun k _ hk => ?_⟩
 ·simp [World.setRow]
 ·simp only [World.setRow]
  rw [Array.getElem?_modify, if_neg (fun e => hk e.symm)]
theorem bx_st (hgd : o.guard = none) (t : TypeId) (x y : Operand) (ho : o.op = .store t x y) (b : Nat) (cs old : Array Value) (hx : a.eval x = .pointer (some ⟨b, 0, none⟩)) (hy : a.eval y = .agg cs) (hg : W.heap[b]? = some (.cells old t)) (hi : (Tryz.prog.info? t).map (·.size) = some cs.size) (hold : old.size = cs.size) (h1 : cs.all (·.oneCell') = true)
  (hK : ∀ w', w'.heap[b]? = some (.cells cs t) → Ch (fun k => k = b) W w' → wpList Tryz.prog ops Q rest (a.put o.dst undef) w') : wpList Tryz.prog ops Q (o :: rest) a W :=
 wpList_store_row hgd t x y ho b cs hx hy t old hg hi hold h1 (hK _ (ch_row hg).1 (ch_row hg).2)
theorem bx_set (hgd : o.guard = none) (t : TypeId) (x y : Operand) (ho : o.op = .store t x y) (b i : Nat) (v : Value) (hx : a.eval x = .pointer (some ⟨b, i, none⟩)) (hy : a.eval y = v) (hv : v.cells = #[v]) (hv1 : v.oneCell' = true) (cs : Array Value) (ty : TypeId) (hg : W.heap[b]? = some (.cells cs ty)) (hi : (Tryz.prog.info? t).map (·.size) = some 1) (hlt : i < cs.size)
  (hK : ∀ w', w'.heap[b]? = some (.cells (cs.setIfInBounds i v) ty) → Ch (fun k => k = b) W w' → wpList Tryz.prog ops Q rest (a.put o.dst undef) w') : wpList Tryz.prog ops Q (o :: rest) a W := by
 refine wpList_plain hgd fun K hK' => ?_
 have hrun := run_storeCells_at (P := Tryz.prog) b i ty [v] 0 cs W hg (by simp; omega) (fun u hu => by simp at hu; rw [hu]; exact hv1)
 have e : (cs.toList.take (i + 0) ++ [v] ++ cs.toList.drop (i + 0 + [v].length)).toArray = cs.setIfInBounds i v := by
  apply Array.ext'
  simp only [Array.toList_setIfInBounds, Nat.add_zero, List.length_cons, List.length_nil, Nat.zero_add]
  rw [List.set_eq_take_append_cons_drop, if_pos (by simpa using hlt)]
  simp
 rw [e] at hrun
 unfold Oper.wp execOp
 cases hq : Tryz.prog.info? t with
 | none => rw [hq] at hi; simp at hi
 | some j =>
  have hs : j.size = 1 := by rw [hq] at hi; simpa using hi
  have hrun2 : (storeVar t ⟨b, i, none⟩ v).run Tryz.prog W = .ok () (W.setRow b (cs.setIfInBounds i v)) := by
   simp [storeVar, sizeOf, typeInfo, hq, hv, hs, hrun]
  simp only [ho, hx, hy, Instr.storeAt, Instr.sureAddr, Sem.run_bind, Sem.run_pure, Result.andThen_ok, hrun2]
  exact hK' _ _ (hK _ (ch_row hg).1 (ch_row hg).2)
end
theorem res1 {fn : Func} {p : Tmp} {t : TypeId} (hr : fn.results = #[.cell p t]) {W : World} {B : Nat} {cs : Array Value} {fs : Array Field} (hu : Tryz.prog.underlying t = some (.struct fs)) (hs : (Tryz.prog.info? t).map (·.size) = some cs.size) (hg : W.heap[B]? = some (.cells cs t)) (tmps : Array Value) (hp : tmps.getD p undef = .pointer (some ⟨B, 0, none⟩)) : (results fn tmps).run Tryz.prog W = .ok (.agg cs) W := by
 have hp' : tmps[p]?.getD undef = .pointer (some ⟨B, 0, none⟩) := by simpa using hp
 simp [results, hr, hp', asAddr, run_loadVar_row W B t t cs (0, 0) _ hg hu rfl hs]
theorem res2 {fn : Func} {p q : Tmp} {t : TypeId} (hr : fn.results = #[.cell p t, .tmp q]) {W : World} {B : Nat} {cs : Array Value} {fs : Array Field} (hu : Tryz.prog.underlying t = some (.struct fs)) (hs : (Tryz.prog.info? t).map (·.size) = some cs.size) (hg : W.heap[B]? = some (.cells cs t)) (tmps : Array Value) (x : Value) (hp : tmps.getD p undef = .pointer (some ⟨B, 0, none⟩)) (hx : tmps.getD q undef = x) : (results fn tmps).run Tryz.prog W = .ok (.tuple #[.agg cs, x]) W := by
 have hp' : tmps[p]?.getD undef = .pointer (some ⟨B, 0, none⟩) := by simpa using hp
 have hx' : tmps[q]?.getD undef = x := by simpa using hx
 simp [results, hr, hp', hx', asAddr, run_loadVar_row W B t t cs (0, 0) _ hg hu rfl hs]
theorem res3 {fn : Func} {p q r : Tmp} {t : TypeId} (hr : fn.results = #[.cell p t, .tmp q, .tmp r]) {W : World} {B : Nat} {cs : Array Value} {fs : Array Field} (hu : Tryz.prog.underlying t = some (.struct fs)) (hs : (Tryz.prog.info? t).map (·.size) = some cs.size) (hg : W.heap[B]? = some (.cells cs t)) (tmps : Array Value) (x y : Value) (hp : tmps.getD p undef = .pointer (some ⟨B, 0, none⟩)) (hx : tmps.getD q undef = x) (hy : tmps.getD r undef = y) : (results fn tmps).run Tryz.prog W = .ok (.tuple #[.agg cs, x, y]) W := by
 have hp' : tmps[p]?.getD undef = .pointer (some ⟨B, 0, none⟩) := by simpa using hp
 have hx' : tmps[q]?.getD undef = x := by simpa using hx
 have hy' : tmps[r]?.getD undef = y := by simpa using hy
 simp [results, hr, hp', hx', hy', asAddr, run_loadVar_row W B t t cs (0, 0) _ hg hu rfl hs]
theorem bel_off {w w2 w3 : World} {B : Nat} (h : Bel w w2) (hc : Ch (fun i => i = B) w2 w3) (hB : w.heap.size ≤ B) : Bel w w3 := ((h.ch (fun i => w.heap.size ≤ i)).trans hc (fun i hi => by rw [hi]; exact Or.inl hB)).below (Nat.le_refl _) (fun i hi => hi)
structure GE where
 t : Int
 k : Int
 d : ByteArray
 m : List Int
structure GA where
 a : Option Addr
 c : Nat
def encG (x : GE × GA) : List Value := [.int .u64 x.1.t, .int .u8 x.1.k, .string x.1.d, .slice x.2.a x.1.m.length x.2.c]
def EG : El (GE × GA) := { enc := encG, k := 4, e := 53, t := 27, bytes := 56, z := .agg #[.int .u64 0, .int .u8 0, .string ⟨#[]⟩, .slice none 0 0], hk := by decide, len := fun _ => rfl, one := fun x u hu => by simp [encG] at hu; rcases hu with rfl | rfl | rfl | rfl <;> rfl, ht := Tryz.underlying27, hi := by kernel_rfl, hz := rfl, hb := by decide }
theorem EG_cell {W : World} {g off : Nat} {l : List (GE × GA)} (h : EG.R W g off l) (j : Nat) (hj : j < l.length) : W.cell? ⟨g, off + j * 4, none⟩ = some (.int .u64 l[j].1.t) ∧ W.cell? ⟨g, off + j * 4 + 1, none⟩ = some (.int .u8 l[j].1.k) ∧ W.cell? ⟨g, off + j * 4 + 2, none⟩ = some (.string l[j].1.d) ∧ W.cell? ⟨g, off + j * 4 + 3, none⟩ = some (.slice l[j].2.a l[j].1.m.length l[j].2.c) := by
 have h0 := h j hj 0 _ rfl
 have h1 := h j hj 1 _ rfl
 have h2 := h j hj 2 _ rfl
 have h3 := h j hj 3 _ rfl
 exact ⟨by simpa [EG] using h0, by simpa [EG] using h1, by simpa [EG] using h2, by simpa [EG] using h3⟩
def Gm (W : World) (L : List (GE × GA)) : Prop := ∀ x ∈ L, Sl E3 W x.2.a x.1.m
theorem Gm.bel {W W' : World} {L : List (GE × GA)} (h : Gm W L) (hb : Bel W W') : Gm W' L := fun x hx => (h x hx).bel hb
def mayE (e : GE) : Bool := if e.k = 0 then decide (e.m.length = 0) else if e.k = 1 then decide (e.m.length = 0) && e.d.toList.isEmpty else if e.k = 2 then (decide (0 < e.m.length) && aids 0 e.m) && e.d.toList.isEmpty else false
set_option maxRecDepth 100000 in
set_option maxHeartbeats 1000000 in
theorem mayEntry_any {W : World} (x : GE × GA) (h : Sl E3 W x.2.a x.1.m) (hl : x.1.m.length ≤ 9000000000000000000) : Calls Tryz.prog 187 #[.agg (encG x).toArray] W fun e w' => e = .returned (.bool (mayE x.1)) ∧ Bel W w' := by
 have HM : Hid (∀ W', Bel W W' → Calls Tryz.prog 152 #[.slice x.2.a x.1.m.length x.2.c] W' fun e w' => e = .returned (.bool (decide (0 < x.1.m.length) && aids 0 x.1.m)) ∧ w' = W') := jd (fun W' hb => areMem_any (h.bel hb) x.2.c hl)
 obtain ⟨⟨t, k, d, m⟩, a, c⟩ := x
 unfold encG mayE
 simp only at HM ⊢
 clear h hl
 generalize aids 0 m = am at *
 generalize m.length = n at *
 by_cases h0 : k = 0
 ·subst h0
  rw [if_pos rfl]
  by_cases hn : n = 0
  ·subst hn
   go_enter Tryz.func187, Tryz.ntmps187
   go_wp2_with fail
   go_ret
   exact ⟨rfl, (Bel.refl W).alloc _⟩
  ·have hz : ((n : Int) == 0) = false := beq_eq_false_iff_ne.2 (by omega)
   rw [decide_eq_false hn]
   clear hn
   go_enter Tryz.func187, Tryz.ntmps187
   go_wp2_with fail
   go_ret
   exact ⟨rfl, (Bel.refl W).alloc _⟩
 ·have k0 : (k == 0) = false := beq_eq_false_iff_ne.2 h0
  rw [if_neg h0]
  by_cases h1 : k = 1
  ·subst h1
   rw [if_pos rfl]
   by_cases hn : n = 0
   ·subst hn
    go_enter Tryz.func187, Tryz.ntmps187
    go_wp2_with fail
    go_ret
    exact ⟨rfl, (Bel.refl W).alloc _⟩
   ·have hz : ((n : Int) == 0) = false := beq_eq_false_iff_ne.2 (by omega)
    rw [decide_eq_false hn]
    clear hn
    go_enter Tryz.func187, Tryz.ntmps187
    go_wp2_with fail
    go_ret
    exact ⟨rfl, (Bel.refl W).alloc _⟩
  ·have k1 : (k == 1) = false := beq_eq_false_iff_ne.2 h1
   rw [if_neg h1]
   by_cases h2 : k = 2
   ·subst h2
    rw [if_pos rfl]
    cases hq : (decide (0 < n) && am) with
    | true =>
     rw [hq] at HM
     clear hq h0 h1 k0 k1
     go_enter Tryz.func187, Tryz.ntmps187
     go_wp2_with (first
      | (go_at_call 152; refine ((ju HM) _ ((Bel.refl W).alloc _)).mono ?_; rintro e w9 ⟨rfl, hw9⟩; rw [hw9]; clear hw9))
     go_ret
     exact ⟨rfl, (Bel.refl W).alloc _⟩
    | false =>
     rw [hq] at HM
     clear hq h0 h1 k0 k1
     go_enter Tryz.func187, Tryz.ntmps187
     go_wp2_with (first
      | (go_at_call 152; refine ((ju HM) _ ((Bel.refl W).alloc _)).mono ?_; rintro e w9 ⟨rfl, hw9⟩; rw [hw9]; clear hw9))
     go_ret
     exact ⟨rfl, (Bel.refl W).alloc _⟩
   ·have k2 : (k == 2) = false := beq_eq_false_iff_ne.2 h2
    rw [if_neg h2]
    go_enter Tryz.func187, Tryz.ntmps187
    go_wp2_with fail
    go_ret
    exact ⟨rfl, (Bel.refl W).alloc _⟩
def mayEs (lo hi : Int) : List GE → Bool
 | [] => true
 | e :: l => (!(e.t == 0) && !decide (e.t < lo) && !decide (hi < e.t) && mayE e) && mayEs e.t hi l
set_option maxRecDepth 100000 in
set_option maxHeartbeats 2000000 in
theorem mayEntries_any {W : World} {a : Option Addr} {l : List (GE × GA)} (h : Sl EG W a l) (hm : Gm W l) (cap : Nat) (lo hi : Int) (hn : l.length ≤ 9000000000000000000) (hq : ∀ x ∈ l, x.1.m.length ≤ 9000000000000000000) : Calls Tryz.prog 151 #[.slice a l.length cap, .int .u64 lo, .int .u64 hi] W fun e w' => e = .returned (.bool (mayEs lo hi (l.map (·.1)))) ∧ Bel W w' := by
 obtain ⟨g, off, hg, hR⟩ := h
 generalize hn2 : l.length = n at *
 have HN := jd hn2
 have HG := jd hg
 have HR := jd hR
 have HM := jd hm
 have HQ := jd hq
 clear hn2 hg hR hm hq
 go_enter Tryz.func151, Tryz.ntmps151
 go_wp2_with fail
 go_loopw [1, 11] (fun vb vk wr => ∃ (k : Nat) (b : Int), k ≤ n ∧ vk = .int .i64 k ∧ vb = .int .u64 b ∧ Bel W wr ∧ Hid (mayEs lo hi (l.map (·.1)) = mayEs b hi ((l.drop k).map (·.1)))) (fun _ vk _ => n - (intOf vk).toNat)
 case atStart => exact ⟨0, lo, Nat.zero_le _, rfl, rfl, Bel.refl _, jd rfl⟩
 case round =>
  obtain ⟨k, b, hk, rfl, rfl, hb, HE⟩ := hrel
  by_cases hlt : k < n
  ·have hkl : k < l.length := by rw [ju HN]; exact hlt
   obtain rfl := (ju HG) (by omega)
   have hkn : (k : Int) < n := by omega
   obtain ⟨r0, r1, r2, r3⟩ := EG_cell (ju HR) k hkl
   have r0 := hb.cell r0
   have r1 := hb.cell r1
   have r2 := hb.cell r2
   have r3 := hb.cell r3
   have HC : Hid (∀ W', Bel W W' → Calls Tryz.prog 187 #[.agg (encG l[k]).toArray] W' fun e w' => e = .returned (.bool (mayE l[k].1)) ∧ Bel W' w') := jd (fun W' hb' => mayEntry_any l[k] (((ju HM) _ (List.getElem_mem hkl)).bel hb') ((ju HQ) _ (List.getElem_mem hkl)))
   have HD : Hid (mayEs b hi ((l.drop k).map (·.1)) = ((!(l[k].1.t == 0) && !decide (l[k].1.t < b) && !decide (hi < l[k].1.t) && mayE l[k].1) && mayEs l[k].1.t hi ((l.drop (k + 1)).map (·.1)))) := jd (by rw [List.drop_eq_getElem_cons hkl]; rfl)
   generalize l[k] = x at *
   obtain ⟨⟨t, kd, d, m⟩, ax, cx⟩ := x
   unfold encG at HC
   simp only at r0 r1 r2 r3 HC HD
   generalize mayE ⟨t, kd, d, m⟩ = me at *
   generalize m.length = nm at *
   have HB := jd hb
   clear hb
   by_cases h1 : t = 0
   ·have HF : Hid (mayEs lo hi (l.map (·.1)) = false) := jd (by rw [ju HE, ju HD, h1]; simp)
    subst h1
    go_wp2_with fail
    go_ret
    exact ⟨by rw [ju HF]; rfl, (ju HB).alloc _⟩
   ·have e1 : (t == 0) = false := beq_eq_false_iff_ne.2 h1
    by_cases h2 : t < b
    ·have HF : Hid (mayEs lo hi (l.map (·.1)) = false) := jd (by rw [ju HE, ju HD, decide_eq_true h2]; simp)
     go_wp2_with fail
     go_ret
     exact ⟨by rw [ju HF]; rfl, (ju HB).alloc _⟩
    ·by_cases h3 : hi < t
     ·have HF : Hid (mayEs lo hi (l.map (·.1)) = false) := jd (by rw [ju HE, ju HD, decide_eq_true h3]; simp)
      go_wp2_with fail
      go_ret
      exact ⟨by rw [ju HF]; rfl, (ju HB).alloc _⟩
     ·cases me with
      | true =>
       have HF : Hid (mayEs lo hi (l.map (·.1)) = mayEs t hi ((l.drop (k + 1)).map (·.1))) := jd (by rw [ju HE, ju HD, e1, decide_eq_false h2, decide_eq_false h3]; simp)
       go_wp2_with (first
        | (go_at_call 187; refine ((ju HC) _ ((ju HB).alloc _)).mono ?_; rintro e w9 ⟨rfl, hb9⟩; have HB9 := jd hb9; have c0 : w9.cell? ⟨wr.heap.size, 0, none⟩ = some (.int .u64 t) := cell_of (hb9.row (at_new wr _)); clear hb9))
       go_roundw
       case rel => exact ⟨k + 1, t, by omega, by go_num, rfl, ((ju HB).alloc _).trans (ju HB9), HF⟩
       case measure => simp [intOf]; omega
      | false =>
       have HF : Hid (mayEs lo hi (l.map (·.1)) = false) := jd (by rw [ju HE, ju HD]; simp)
       go_wp2_with (first
        | (go_at_call 187; refine ((ju HC) _ ((ju HB).alloc _)).mono ?_; rintro e w9 ⟨rfl, hb9⟩; have HB9 := jd hb9; clear hb9))
       go_ret
       exact ⟨by rw [ju HF]; rfl, ((ju HB).alloc _).trans (ju HB9)⟩
  ·obtain rfl : k = n := by omega
   have HF : Hid (mayEs lo hi (l.map (·.1)) = true) := jd (by rw [ju HE, List.drop_of_length_le (by rw [ju HN]; omega)]; rfl)
   have HB := jd hb
   clear hb
   go_wp2_with fail
   go_ret
   exact ⟨by rw [ju HF]; rfl, ju HB⟩
end Go.Proofs.YthekbhliokcpcaaGreat
