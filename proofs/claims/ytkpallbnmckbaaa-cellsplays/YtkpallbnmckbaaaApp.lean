/- Rows of cells that are built by append. -/
import Derived.Test.YtkpallbnmckbaaaAli
namespace Go.Proofs.Ytkpallbnmckbaaa
open Go.RowKit
/-- The values of a row of cells. -/
def fl (L : List C) : List Value := L.flatMap enc4
theorem fl_len (L : List C) : (fl L).length = L.length * 4 := by
  induction L with
  | nil => rfl
  | cons a L ih => unfold fl at *; rw [List.flatMap_cons, List.length_append, ih, List.length_cons]; simp [enc4]; omega
theorem fl_app (L M : List C) : fl (L ++ M) = fl L ++ fl M := List.flatMap_append
theorem fl_one (x : C) : fl [x] = enc4 x := by simp [fl]
theorem fl_at (L : List C) (j c : Nat) (hj : j < L.length) (hc : c < 4) : (fl L)[j * 4 + c]? = (enc4 L[j])[c]? := by
  induction L generalizing j with
  | nil => simp at hj
  | cons x L ih =>
    unfold fl
    rw [List.flatMap_cons]
    cases j with
    | zero =>
      rw [Nat.zero_mul, Nat.zero_add, List.getElem?_append_left (by simpa [enc4] using hc)]
      rfl
    | succ j =>
      rw [List.getElem?_append_right (by simp [enc4]; omega)]
      have := ih j (by simpa using hj)
      unfold fl at this
      rw [show (j + 1) * 4 + c - (enc4 x).length = j * 4 + c by simp [enc4]; omega, this]
      rfl
theorem fl_cells {L : List C} : ∀ u ∈ fl L, u.oneCell' = true := by
  intro u hu
  obtain ⟨x, _, hx⟩ := List.mem_flatMap.1 hu
  simp only [enc4, List.mem_cons, List.not_mem_nil, or_false] at hx
  rcases hx with rfl | rfl | rfl | rfl <;> rfl
theorem Row.flat {W : World} {g off : Nat} {L : List C} (h : Row W g off L) (t : Nat) (u : Value) (ht : (fl L)[t]? = some u) : W.cell? ⟨g, off + t, none⟩ = some u := by
  have htl : t < L.length * 4 := by have := (List.getElem?_eq_some_iff.1 ht).1; rw [fl_len] at this; exact this
  have hj : t / 4 < L.length := by omega
  have e : t = t / 4 * 4 + t % 4 := by omega
  rw [e, fl_at L _ _ hj (by omega)] at ht
  obtain ⟨h1, h2, h3, h4⟩ := h (t / 4) hj
  rw [e, ← Nat.add_assoc]
  have hm : t % 4 < 4 := by omega
  generalize t % 4 = c at *
  rcases c with _ | _ | _ | _ | c
  · simp [enc4] at ht; subst ht; exact h1
  · simp [enc4] at ht; subst ht; exact h2
  · simp [enc4] at ht; subst ht; exact h3
  · simp [enc4] at ht; subst ht; exact h4
  · omega
theorem Row.own {W : World} {base g n cap : Nat} {L : List C} (h : W.ownsRow base 38 4 (.slice (some ⟨g, 0, none⟩) n cap) n (fl L)) : Row W g 0 L := by
  have hn : (fl L).length = n * 4 := h.1
  rw [fl_len] at hn
  intro j hj
  have hc : ∀ c, c < 4 → W.cell? ⟨g, 0 + j * 4 + c, none⟩ = (enc4 L[j])[c]? := fun c hc => by rw [Nat.zero_add, h.cellAt (j * 4 + c) (by omega), fl_at L j c hj hc]
  exact ⟨hc 0 (by omega), hc 1 (by omega), hc 2 (by omega), hc 3 (by omega)⟩
theorem Try.i38 : ∃ i, Try.prog.info? 38 = some i ∧ i.zero = some (.agg #[.string ⟨#[]⟩, .int .u64 0, .bool false, .string ⟨#[]⟩]) ∧ i.size = 4 ∧ i.bytes = 48 := by
  have h : (Try.prog.info? 38).map (fun i => (i.zero, i.size, i.bytes)) = some (some (.agg #[.string ⟨#[]⟩, .int .u64 0, .bool false, .string ⟨#[]⟩]), 4, 48) := by kernel_rfl
  obtain ⟨i, hi, hzz⟩ := Option.map_eq_some_iff.1 h
  simp only [Prod.mk.injEq] at hzz
  exact ⟨i, hi, hzz.1, hzz.2.1, hzz.2.2⟩
/-- A slice that owns its row. -/
def OR (base : Nat) (W : World) (v : Value) (L : List C) : Prop := W.ownsRow base 38 4 v L.length (fl L)
theorem OR.nil (base : Nat) (W : World) : OR base W (.slice none 0 0) [] := World.ownsRow_nil _ _ _ _
theorem OR.lt {base : Nat} {W : World} {v : Value} {L : List C} (h : OR base W v L) {k : Nat} (hk : v.ownBlock = some k) : base ≤ k ∧ k < W.heap.size := World.ownsRow.lt h k hk
theorem OR.at {base : Nat} {W W' : World} {v : Value} {L : List C} (h : OR base W v L) (hb : ∀ k, v.ownBlock = some k → W'.heap[k]? = W.heap[k]?) : OR base W' v L := by
  refine ⟨h.1, ?_⟩
  rcases h.2 with h' | ⟨g, cap, cur, rfl, h1, h2, h3⟩
  · exact Or.inl h'
  · exact Or.inr ⟨g, cap, cur, rfl, h1, (hb g rfl).trans h2, h3⟩
theorem OR.bel {base : Nat} {W W' : World} {v : Value} {L : List C} (h : OR base W v L) (hb : Bel W W') : OR base W' v L := h.at (fun k hk => hb.block k (h.lt hk).2)
theorem OR.shape {base : Nat} {W : World} {v : Value} {L : List C} (h : OR base W v L) : ∃ a cap g, v = .slice a L.length cap ∧ (L.length ≠ 0 → a = some ⟨g, 0, none⟩) ∧ Row W g 0 L := by
  rcases h.2 with ⟨rfl, h0⟩ | ⟨g, cap, cur, rfl, h1, h2, h3⟩
  · refine ⟨none, 0, 0, by rw [h0], fun e => absurd h0 e, fun j hj => by omega⟩
  · exact ⟨some ⟨g, 0, none⟩, cap, g, rfl, fun _ => rfl, Row.own h⟩
/-- append of the cells of a row that lies in memory. -/
theorem app_row {ops : Array Oper} {rest : List Oper} {o : Oper} {a : Act} {Q : Exit → Act → World → Prop} {W : World} {base : Nat} {v : Value} {L M : List C} {ad : Addr} {cap : Nat} (h : OR base W v L) (hbase : base ≤ W.heap.size) (hM : Row W ad.block ad.off M) (hsp : ad.spot = none) (h0 : 0 < M.length) (hb : L.length + M.length ≤ 1000000)
    (hgd : o.guard = none) (s x : Operand) (ho : o.op = .call { callee := .builtin .append, args := #[s, x], argTypes := #[25, 25] }) (hs : a.eval s = v) (hx : a.eval x = .slice (some ad) M.length cap) (H : Nat) (hH : W.heap.size = H)
    (hK : ∀ g cap w', OR base w' (.slice (some ⟨g, 0, none⟩) (L.length + M.length) cap) (L ++ M) → W.grownBy w' v.ownBlock → (v.ownBlock = some g ∨ g = H) → wpList Try.prog ops Q rest (a.put o.dst (.slice (some ⟨g, 0, none⟩) (L.length + M.length) cap)) w') : wpList Try.prog ops Q (o :: rest) a W := by
  obtain ⟨i0, hi, hz0, hz1, hz2⟩ := Try.i38
  refine wpList_append_lies (P := Try.prog) _ hgd s x 25 ho base 38 i0 _ 4 48 Try.underlying25 hi hz0 hz1 hz2 rfl (by decide) v L.length (fl L) hs h ad M.length cap (fl M) hx (fl_len M) (fun t u ht => ?_) fl_cells h0 (by unfold maxLen; omega) (by omega) hbase H hH ?_
  · obtain ⟨b, off, sp⟩ := ad
    simp only at hsp
    subst hsp
    rw [Addr.add_lit]
    exact hM.flat t u ht
  · intro g cap w' hown hgrow hat _
    refine hK g cap w' ?_ hgrow hat
    unfold OR
    rw [fl_app, List.length_append]
    exact hown
theorem grown_bel {W w' : World} {row : Option Nat} {B : Nat} (hg : W.grownBy w' row) (hB : B ≤ W.heap.size) (hr : ∀ k, row = some k → B ≤ k) : Below B W w' := (Below.refl B W).grown hg hB hr
end Go.Proofs.Ytkpallbnmckbaaa
