/- A row of values as an argument, opened; the law ValueOrders, whatever its values are. -/
import Derived.Test.YtomnajoflcjnfaaDoorOpenVal
import Derived.Test.YtomnajoflcjnfaaDoorOrdK
import Derived.Test.YtomnajoflcjnfaaDoorOrdL
import Derived.Test.YtomnajoflcjnfaaDoorOrdM
namespace Go.Proofs.YtomnajoflcjnfaaDoor
open Go.ChangeShapes Go.WideShapes Go.ChangeAt Go.RowKit Go.Sort
theorem orders_law (k : Int) (b : Bool) (n : Int) (s : ByteArray) (u : Int) (k' : Int) (b' : Bool) (n' : Int) (s' : ByteArray) (u' : Int) (hu : 0 ≤ u) (hu' : 0 ≤ u') (l : List V) (v : Value) (w : World) (hr : RV w v l) (hU : ∀ x ∈ l, okU0 x) (hG : Gl w) :
    Calls Tryd.prog 5 #[ev k b n s u, ev k' b' n' s' u', v] w fun e w' => e = .returned (.bool true) ∧ Bel w w' := by
  by_cases h : mayV k b n s u
  · by_cases h' : mayV k' b' n' s' u'
    · exact orders_1 k b n s u k' b' n' s' u' h h' hu hu' l v w hr hU hG
    · exact orders_3 k b n s u k' b' n' s' u' h h' hu l v w hr hU hG
  · exact orders_2 k b n s u k' b' n' s' u' h l v w hr hU hG
theorem list_of {Q : Nat → V → Prop} : ∀ m, (∀ i, i < m → ∃ x, Q i x) → ∃ l : List V, l.length = m ∧ ∀ i (h : i < l.length), Q i l[i]
  | 0, _ => ⟨[], rfl, fun i h => absurd h (Nat.not_lt_zero _)⟩
  | m + 1, hq => by
    obtain ⟨l, hl, hi⟩ := list_of m (fun i h => hq i (by omega))
    obtain ⟨x, hx⟩ := hq m (by omega)
    refine ⟨l ++ [x], by simp [hl], fun i h => ?_⟩
    by_cases e : i < l.length
    · rw [List.getElem_append_left e]; exact hi i e
    · have : i = l.length := by simp at h; omega
      subst this
      rw [List.getElem_append_right (Nat.le_refl _)]
      simp [hl, hx]
section
variable {H : Type} {enc : TypeId × Value → H} {w : World} {base : Nat} {sp : Nat → Bool} {held : Bool}
set_option maxRecDepth 100000 in
theorem open_cells {n : Nat} {cs : List Value} {y : DataW H × List MemPlace} (hf : DataW.trod enc Tryd.prog w base sp held n 25 cs = some y) : ∃ x : V, cs = enc5 x ∧ okU0 x := by
  obtain ⟨xs, n, _, hx, hl, hlen, hq⟩ := DataW.trod_struct Tryd.underlying25 hf
  have c25 : Tryd.prog.cellsOf 25 = 5 := by kernel_rfl
  have c22 : Tryd.prog.cellsOf 22 = 1 := by kernel_rfl
  have c4 : Tryd.prog.cellsOf 4 = 1 := by kernel_rfl
  have c2 : Tryd.prog.cellsOf 2 = 1 := by kernel_rfl
  have c9 : Tryd.prog.cellsOf 9 = 1 := by kernel_rfl
  have c23 : Tryd.prog.cellsOf 23 = 1 := by kernel_rfl
  rw [c25] at hl
  match cs, hl with
  | [a0, a1, a2, a3, a4], _ =>
    match xs, hlen with
    | [y0, y1, y2, y3, y4], _ =>
      have h0 : DataW.trod enc Tryd.prog w base sp held n 22 (([a0, a1, a2, a3, a4].drop 0).take (Tryd.prog.cellsOf 22)) = some y0 := hq 0 _ rfl
      rw [c22] at h0
      have h1 : DataW.trod enc Tryd.prog w base sp held n 4 (([a0, a1, a2, a3, a4].drop 1).take (Tryd.prog.cellsOf 4)) = some y1 := hq 1 _ rfl
      rw [c4] at h1
      have h2 : DataW.trod enc Tryd.prog w base sp held n 2 (([a0, a1, a2, a3, a4].drop 2).take (Tryd.prog.cellsOf 2)) = some y2 := hq 2 _ rfl
      rw [c2] at h2
      have h3 : DataW.trod enc Tryd.prog w base sp held n 9 (([a0, a1, a2, a3, a4].drop 3).take (Tryd.prog.cellsOf 9)) = some y3 := hq 3 _ rfl
      rw [c9] at h3
      have h4 : DataW.trod enc Tryd.prog w base sp held n 23 (([a0, a1, a2, a3, a4].drop 4).take (Tryd.prog.cellsOf 23)) = some y4 := hq 4 _ rfl
      rw [c23] at h4
      obtain ⟨k, e0, _, w0⟩ := DataW.trod_int Tryd.underlying22 h0
      obtain ⟨b, e1, _⟩ := DataW.trod_bool Tryd.underlying4 h1
      obtain ⟨m, e2, _, w2⟩ := DataW.trod_int Tryd.underlying2 h2
      obtain ⟨s, e3, _, w3⟩ := DataW.trod_string Tryd.underlying9 h3
      obtain ⟨u, e4, _, w4⟩ := DataW.trod_int Tryd.underlying23 h4
      simp at e0 e1 e2 e3 e4
      subst e0 e1 e2 e3 e4
      exact ⟨(k, b, m, s, u), rfl, (bounds_u64 w4).1⟩
theorem cells_get {a : Addr} {n : Nat} {cs : List Value} (h : w.cells? base a n = some cs) (j : Nat) (hj : j < n) : w.cell? (a.add j) = cs[j]? := by
  unfold World.cells? at h
  split at h
  · exact mapM_some_get h j j (by simp [hj])
  · cases h
set_option maxRecDepth 100000 in
theorem open_vals {v : Value} {d : DataW H} {ps : List MemPlace} {r : Reach} {b0 : Nat} (hval : Value.okWide Tryd.prog w r b0 42 v) (hd : DataW.Trod enc Tryd.prog w base sp held 42 v d ps) : ∃ l : List V, RV w v l ∧ ∀ x ∈ l, okU0 x := by
  have c25 : Tryd.prog.cellsOf 25 = 5 := by kernel_rfl
  obtain ⟨a0, len0, cap0, rfl⟩ := okWide_slice Tryd.underlying42 hval
  obtain ⟨fuel, hf⟩ := hd
  rcases DataW.trod_slice Tryd.underlying42 hf with ⟨hcs, _⟩ | ⟨a, len, cap, elems, rest, n, _, hcs, _, _, hl, _, hlen, hel, _⟩
  · simp [Value.cells] at hcs
    obtain ⟨rfl, rfl, rfl⟩ := hcs
    exact ⟨[], ⟨none, 0, rfl, Nat.le_refl _, fun h => absurd rfl h⟩, by simp⟩
  · simp [Value.cells] at hcs
    obtain ⟨rfl, rfl, rfl⟩ := hcs
    obtain ⟨l, hll, hx⟩ := list_of (Q := fun i x => w.cells? base (a.add (i * 5)) 5 = some (enc5 x) ∧ okU0 x) len0 (fun i hi => by
      have h := hel i hi
      rw [c25] at h
      rw [List.getElem?_eq_getElem (by omega), Option.bind_eq_some_iff] at h
      obtain ⟨cs, h1, h2⟩ := h
      obtain ⟨x, rfl, hu⟩ := open_cells h2
      exact ⟨x, h1, hu⟩)
    refine ⟨l, ⟨some a, cap0, by rw [hll], by omega, fun hne => ?_⟩, fun x hm => ?_⟩
    · have h0 : 0 < l.length := by
        cases l with
        | nil => exact absurd rfl hne
        | cons => simp
      have hb := World.cells?_block (hx 0 h0).1 (by decide)
      have hs : a.spot = none := by
        have h := cells_get (hx 0 h0).1 0 (by decide)
        cases hsp : a.spot with
        | none => rfl
        | some z =>
          have e : w.cell? ((a.add (0 * 5)).add 0) = none := by
            unfold World.cell?
            split
            · rw [if_pos (by simp [Addr.add, hsp])]
            · rfl
          rw [e] at h
          simp [enc5] at h
      refine ⟨a.block, a.off, ?_, ?_, fun t y ht => ?_⟩
      · cases a; simp_all
      · simpa [Addr.add] using hb
      · have htl : t < l.length * 5 := by have := (List.getElem?_eq_some_iff.1 ht).1; rw [cel_len] at this; exact this
        have hj : t / 5 < l.length := by omega
        have h := cells_get (hx (t / 5) hj).1 (t % 5) (by omega)
        have e : t = t / 5 * 5 + t % 5 := by omega
        rw [e, cel_at l hj (by omega)] at ht
        rw [ht] at h
        have ea : (a.add (t / 5 * 5)).add (t % 5) = ⟨a.block, a.off + t, none⟩ := by
          cases a
          simp only at hs
          subst hs
          rw [Addr.add_lit, Addr.add_lit, Nat.add_assoc, ← e]
        rw [ea] at h
        exact h
    · obtain ⟨i, hi, e⟩ := List.mem_iff_getElem.1 hm
      rw [← e]
      exact (hx i hi).2
end
end Go.Proofs.YtomnajoflcjnfaaDoor
