/- Rows of texts that grow. -/
import Derived.Test.YtbcgikkdhfbphaaNet
namespace Go.Proofs.Ytbcgikkdhfbphaa
open Go.RowKit Go.Maps
/-- A row of texts: l at off of block g, with room to cap. -/
def SR (w : World) (g off cap : Nat) (l : List ByteArray) : Prop :=
  ∃ cur, w.heap[g]? = some (.cells cur 9) ∧ off + cap ≤ cur.size ∧ l.length ≤ cap ∧ cap ≤ maxLen ∧ ∀ j (h : j < l.length), cur[off + j]? = some (.string l[j])
theorem SR.at {w w' : World} {g off cap : Nat} {l : List ByteArray} (h : SR w g off cap l) (e : w'.heap[g]? = w.heap[g]?) : SR w' g off cap l := by
  obtain ⟨cur, h1, h2⟩ := h
  exact ⟨cur, e.trans h1, h2⟩
theorem SR.lt {w : World} {g off cap : Nat} {l : List ByteArray} (h : SR w g off cap l) : g < w.heap.size := by
  obtain ⟨cur, h1, _⟩ := h
  exact lt_of_some h1
theorem SR.cell {w : World} {g off cap : Nat} {l : List ByteArray} (h : SR w g off cap l) {j : Nat} (hj : j < l.length) : w.cell? ⟨g, off + j, none⟩ = some (.string l[j]) := by
  obtain ⟨cur, h1, _, _, _, h5⟩ := h
  rw [cell_of h1]
  exact h5 j hj
def sv (l : List ByteArray) : List Value := l.map .string
theorem SR.flat {w : World} {g off cap : Nat} {l : List ByteArray} (h : SR w g off cap l) (j : Nat) (u : Value) (hj : (sv l)[j]? = some u) : w.cell? ⟨g, off + j, none⟩ = some u := by
  simp only [sv, List.getElem?_map, Option.map_eq_some_iff] at hj
  obtain ⟨t, ht, rfl⟩ := hj
  obtain ⟨hlt, rfl⟩ := List.getElem?_eq_some_iff.1 ht
  exact h.cell hlt
theorem Try.i9 : ∃ i, Try.prog.info? 9 = some i ∧ i.zero = some (.string ⟨#[]⟩) ∧ i.size = 1 ∧ i.bytes = 16 := by
  have h : (Try.prog.info? 9).map (fun i => (i.zero, i.size, i.bytes)) = some (some (.string ⟨#[]⟩), 1, 16) := by kernel_rfl
  obtain ⟨i, hi, hzz⟩ := Option.map_eq_some_iff.1 h
  simp only [Prod.mk.injEq] at hzz
  exact ⟨i, hi, hzz.1, hzz.2.1, hzz.2.2⟩
theorem SR.own {w : World} {base n : Nat} {v : Value} {l : List ByteArray} (h : w.ownsRow base 9 1 v n (sv l)) (h0 : 0 < n) : ∃ g cap, v = .slice (some ⟨g, 0, none⟩) n cap ∧ SR w g 0 cap l ∧ base ≤ g := by
  have hn : (sv l).length = n * 1 := h.1
  rw [sv, List.length_map, Nat.mul_one] at hn
  rcases h.2 with ⟨_, h'⟩ | ⟨g, cap, cur, rfl, h1, h2, h3, h4, h5, h6⟩
  · omega
  · refine ⟨g, cap, rfl, ⟨cur, h2, by omega, by omega, h4, fun j hj => ?_⟩, h1⟩
    have e : cur.toList[j]? = (sv l)[j]? := by
      rw [← h6, List.getElem?_take_of_lt (by omega)]
    rw [Nat.zero_add, ← Array.getElem?_toList, e]
    simp [sv, hj]
/-- What a list of a link is. -/
def LV (w : World) (v : Value) (l : List ByteArray) : Prop := (v = .slice none 0 0 ∧ l = []) ∨ ∃ g off cap, v = .slice (some ⟨g, off, none⟩) l.length cap ∧ SR w g off cap l
theorem LV.at {w w' : World} {v : Value} {l : List ByteArray} (h : LV w v l) (e : ∀ g, v.ownBlock = some g → w'.heap[g]? = w.heap[g]?) : LV w' v l := by
  rcases h with h | ⟨g, off, cap, rfl, h⟩
  · exact Or.inl h
  · exact Or.inr ⟨g, off, cap, rfl, h.at (e g rfl)⟩
/-- One text more. -/
theorem run_app1 (w : World) (v : Value) (l : List ByteArray) (hv : LV w v l) (ad : Addr) (hsp : ad.spot = none) (t : ByteArray) (c : Nat) (hc : w.cell? ad = some (.string t)) (hl : l.length ≤ 1000000) (ty : TypeId) :
    ∃ g off cap w', (Builtin.append_ #[87, 87] ty #[v, .slice (some ad) 1 c]).run Try.prog w = .ok (.slice (some ⟨g, off, none⟩) (l.length + 1) cap) w' ∧ SR w' g off cap (l ++ [t]) ∧ w.grownBy w' v.ownBlock ∧ (v.ownBlock = some g ∨ w.heap.size ≤ g) := by
  obtain ⟨i0, hi, hz0, hz1, hz2⟩ := Try.i9
  have hnews : ∀ j u, [Value.string t][j]? = some u → w.cell? (ad.add j) = some u := by
    intro j u hu
    obtain ⟨b, off, sp⟩ := ad
    simp only at hsp
    subst hsp
    rw [Addr.add_lit]
    rcases j with _ | j
    · simp at hu; subst hu; exact hc
    · simp at hu
  have h1 : ∀ u ∈ [Value.string t], u.oneCell' = true := by simp; rfl
  rcases hv with ⟨rfl, rfl⟩ | ⟨g, off, cap, rfl, hs⟩
  · obtain ⟨v', w', hrun, r1, r2, _⟩ := run_append_own (P := Try.prog) w w.heap.size 87 ty 9 i0 _ 1 16 Try.underlying87 hi hz0 hz1 hz2 rfl (by decide) (.slice none 0 0) 0 [] (World.ownsRow_nil w _ 9 1) ad 1 c [.string t] rfl hnews h1 (by unfold maxLen; omega) (by omega) (Nat.le_refl _)
    obtain ⟨g, cap, rfl, h2, h3⟩ := SR.own (l := [t]) r1 (by omega)
    exact ⟨g, 0, cap, w', hrun, h2, r2, Or.inr h3⟩
  · obtain ⟨cur, q1, q2, q3, q4, q5⟩ := hs
    by_cases hroom : l.length + 1 ≤ cap
    · have hcell : ∀ j, j < [Value.string t].length → (w.cell? ⟨g, off + l.length * i0.size + j, none⟩).isSome = true := by
        intro j hj
        rw [cell_of q1, hz1, Array.getElem?_eq_getElem (by simp at hj; omega)]
        rfl
      have hrun := run_append_room_cells (P := Try.prog) w 87 ty 9 i0 Try.underlying87 hi g off l.length cap ad 1 c [.string t] (by rw [hz1]; rfl) hnews h1 hroom hcell (fun j _ => free_row q1)
      refine ⟨g, off, cap, _, hrun, ?_, ?_, Or.inl rfl⟩
      · rw [hz1, Nat.mul_one]
        refine ⟨cur.setIfInBounds (off + l.length) (.string t), ?_, by simp; omega, by simp; omega, q4, fun j hj => ?_⟩
        · show (w.setCell ⟨g, off + l.length, none⟩ (.string t)).heap[g]? = _
          exact row_set q1
        · simp only [List.length_append, List.length_cons, List.length_nil] at hj
          by_cases e : j < l.length
          · rw [Array.getElem?_setIfInBounds_ne (by omega), q5 j e, List.getElem_append_left e]
          · obtain rfl : j = l.length := by omega
            rw [Array.getElem?_setIfInBounds_self_of_lt (by omega)]
            simp
      · rw [hz1, Nat.mul_one]
        have k : w.grownBy (w.setCell ⟨g, off + l.length, none⟩ (.string t)) (some g) := by
          rw [setCell_eq_setRow w g _ cur 9 (0, 0) _ q1]
          refine ⟨rfl, rfl, rfl, by simp [World.setRow], fun i hi hne => ?_⟩
          rw [← setCell_eq_setRow w g _ cur 9 (0, 0) _ q1, Below.heap_setCell _ _ _ _ (fun e => hne (by rw [e]))]
        exact k
    · obtain ⟨v', w', hrun, r1, r2⟩ := run_append_arg_grows (P := Try.prog) w 87 ty 9 i0 _ 1 16 Try.underlying87 hi hz0 hz1 hz2 rfl (by decide) ⟨g, off, none⟩ l.length cap (sv l) (by simp [sv]) (fun j u hu => by rw [Addr.add_lit]; exact SR.flat ⟨cur, q1, q2, q3, q4, q5⟩ j u hu) ad 1 c [.string t] rfl hnews (by omega) (by unfold maxLen; omega) (by omega)
      have e : sv l ++ [Value.string t] = sv (l ++ [t]) := by simp [sv]
      rw [e] at r1
      obtain ⟨g', cap', rfl, h2, h3⟩ := SR.own r1 (by omega)
      exact ⟨g', 0, cap', w', hrun, h2, r2.but _, Or.inr h3⟩
/-- A row's beginning, of no room, and what stands behind. -/
theorem run_app2 (w : World) (g off i c m : Nat) (a : Option Addr) (l1 l2 : List ByteArray) (h1 : SR w g off i l1) (hi1 : l1.length = i) (hm : l2.length = m) (h2 : m ≠ 0 → ∃ o c', a = some ⟨g, o, none⟩ ∧ SR w g o c' l2) (hl : i + m ≤ 1000000) (ty : TypeId) :
    ∃ g' off' cap' w', (Builtin.append_ #[87, 87] ty #[.slice (some ⟨g, off, none⟩) i i, .slice a m c]).run Try.prog w = .ok (.slice (some ⟨g', off', none⟩) (i + m) cap') w' ∧ SR w' g' off' cap' (l1 ++ l2) ∧ w.grownBy w' none ∧ (g' = g ∨ w.heap.size ≤ g') := by
  obtain ⟨i0, hi, hz0, hz1, hz2⟩ := Try.i9
  by_cases h0 : m = 0
  · subst h0
    obtain rfl : l2 = [] := List.eq_nil_of_length_eq_zero hm
    refine ⟨g, off, i, w, ?_, by simpa using h1, ⟨rfl, rfl, rfl, Nat.le_refl _, fun _ _ _ => rfl⟩, Or.inl rfl⟩
    refine run_append_nothing w 87 87 ty 9 i0 Try.underlying87 hi _ i i (Nat.le_refl _) _ ⟨Or.inl ⟨9, Try.underlying87⟩, fun w' => ?_, ?_, ?_, by simp, by simp⟩
    · cases a <;> simp [Builtin.lenOf]
    · cases a <;> simp [Builtin.firstCells, loadCells, loadCellsFrom]
    · cases a <;> simp [Builtin.firstCells, loadCells, loadCellsFrom]
  · obtain ⟨o, c', rfl, hs2⟩ := h2 h0
    obtain ⟨v', w', hrun, r1, r2⟩ := run_append_arg_grows (P := Try.prog) w 87 ty 9 i0 _ 1 16 Try.underlying87 hi hz0 hz1 hz2 rfl (by decide) ⟨g, off, none⟩ i i (sv l1) (by simp [sv, hi1]) (fun j u hu => by rw [Addr.add_lit]; exact h1.flat j u hu) ⟨g, o, none⟩ m c (sv l2) (by simp [sv, hm]) (fun j u hu => by rw [Addr.add_lit]; exact hs2.flat j u hu) (by omega) (by unfold maxLen; omega) (by omega)
    rw [show sv l1 ++ sv l2 = sv (l1 ++ l2) by simp [sv]] at r1
    obtain ⟨g', cap', rfl, h3, h4⟩ := SR.own r1 (by omega)
    exact ⟨g', 0, cap', w', hrun, h3, r2, Or.inr h4⟩
end Go.Proofs.Ytbcgikkdhfbphaa
