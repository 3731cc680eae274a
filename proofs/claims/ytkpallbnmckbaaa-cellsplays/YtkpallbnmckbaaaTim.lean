/- CellsTime's walk. -/
import Derived.Test.YtkpallbnmckbaaaTri
namespace Go.Proofs.Ytkpallbnmckbaaa
open Go.RowKit
theorem may_good {x : C} (h : mayC x = 0) (ht : 0 ≤ x.t) : x.k ≠ ⟨#[]⟩ ∧ 0 < x.t := by
  unfold mayC at h
  split at h
  · cases h
  · split at h
    · cases h
    · rename_i h1 h2
      refine ⟨fun e => h2 (Or.inl (by rw [e]; rfl)), ?_⟩
      have : x.t ≠ 0 := fun e => h2 (Or.inr (Or.inl e))
      omega
theorem puts_good {l L : List C} (h : Good l) (hL : ∀ x ∈ L, mayC x = 0 ∧ 0 ≤ x.t) : Good (puts l L) := by
  induction L generalizing l with
  | nil => exact h
  | cons x r ih =>
    refine ih (l := ins x l) (fun y hy => ?_) (fun y hy => hL y (by simp [hy]))
    rcases ins_mem hy with rfl | hy
    · exact may_good (hL _ (by simp)).1 (hL _ (by simp)).2
    · exact h y hy
theorem putL_good {l L : List C} (h : Good l) (hL : ∀ x ∈ L, 0 ≤ x.t) : Good (putL l L) := by
  unfold putL
  cases hb : bad L with
  | none => exact puts_good h (fun x hx => ⟨bad_none.1 hb x hx, hL x hx⟩)
  | some _ => exact h
theorem putL_srt {l : List C} (h : Srt l) (L : List C) : Srt (putL l L) := by
  unfold putL
  split
  · exact puts_srt h L
  · exact h
theorem putL_len (l L : List C) : (putL l L).length ≤ l.length + L.length := by
  unfold putL
  split
  · exact puts_len l L
  · omega
theorem getP_put1 {l : List C} (hs : Srt l) (key : ByteArray) (t : Int) (c : C) (hc : t < c.t) : getP (putL l [c]) key t = getP l key t := by
  unfold putL
  split
  · exact getP_later hs key t c hc
  · rfl
/-- What Get answers: a cell and whether it is one. -/
def gC (o : Option C) : C := o.getD (⟨#[]⟩, 0, false, ⟨#[]⟩)
def gB (o : Option C) : Bool := o.isSome
theorem getV_eq (o : Option C) : getV o = .tuple #[vC (gC o), .bool (gB o)] := by cases o <;> rfl
/-- How the law stands. -/
structure Tm (w : World) (p a : Nat) (key : ByteArray) (t : Int) (o : Option C) (n : Nat) (W : World) : Prop where
  bel : Bel w W
  see : ∃ l, Cs W p l ∧ Good l ∧ l.length ≤ n ∧ getP l key t = o
  box : N4 W a (gC o)
  ne : a ≠ p
  lo : w.heap.size ≤ p
theorem Tm.next {w : World} {p a : Nat} {key : ByteArray} {t : Int} {o : Option C} {n : Nat} {W W' : World} (h : Tm w p a key t o n W) (hb : Bel W W') : Tm w p a key t o n W' := by
  obtain ⟨l, h1, h2, h3, h4⟩ := h.see
  exact ⟨h.bel.trans hb, ⟨l, h1.bel hb, h2, h3, h4⟩, h.box.bel hb, h.ne, h.lo⟩
theorem Tm.get {w : World} {p a : Nat} {key : ByteArray} {t : Int} {o : Option C} {n : Nat} {W : World} (h : Tm w p a key t o n W) : Calls Try.prog 13 #[.pointer (some ⟨p, 0, none⟩), .string key, .int .u64 t] W fun e w' => e = .returned (.tuple #[.agg #[.string (gC o).k, .int .u64 (gC o).t, .bool (gC o).d, .string (gC o).v], .bool (gB o)]) ∧ Bel W w' := by
  obtain ⟨l, h1, h2, h3, h4⟩ := h.see
  have := get_any key t h1
  rw [h4, getV_eq] at this
  exact this
theorem Tm.put {w : World} {p a : Nat} {key : ByteArray} {t : Int} {o : Option C} {n : Nat} {W : World} (h : Tm w p a key t o n W) (x : C) (hx : t < x.t) (h0 : 0 ≤ x.t) (hn : n ≤ 70000) (B : Nat) (hB : W.heap[B]? = some (.cells #[.string x.k, .int .u64 x.t, .bool x.d, .string x.v] 38)) :
    Calls Try.prog 9 #[.pointer (some ⟨p, 0, none⟩), .slice (some ⟨B, 0, none⟩) 1 1] W fun e w' => (∃ u1 u2, e = .returned (.tuple #[.int .i64 u1, .int .i64 u2])) ∧ Tm w p a key t o (n + 1) w' := by
  obtain ⟨l, h1, h2, h3, h4⟩ := h.see
  refine (put_any (cap := 1) (a := some ⟨B, 0, none⟩) h1 (Row.one hB) (fun _ => rfl) (by simp; omega)).mono ?_
  rintro e w' ⟨rfl, hc, hch⟩
  refine ⟨⟨_, _, rfl⟩, hch.after h.bel h.lo, ⟨_, hc, putL_good h2 (by simpa using h0), by have := putL_len l [x]; simp at this; omega, by rw [getP_put1 h1.srt key t x hx]; exact h4⟩, h.box.ch hch h.ne, h.ne, h.lo⟩
set_option maxRecDepth 100000 in
set_option maxHeartbeats 4000000 in
theorem time_big (v1 v2 : Value) (n1 n2 : Nat) (a1 a2 : Option Addr) (c1 c2 : Nat) (hv1 : v1 = .slice a1 n1 c1) (hv2 : v2 = .slice a2 n2 c2) (key : ByteArray) (t below : Int) (h : 60 < n1 ∨ 60 < n2) (w : World) :
    Calls Try.prog 5 #[v1, v2, .string key, .int .u64 t, .int .u64 below] w fun e w' => e = .returned (.bool true) ∧ Bel w w' := by
  subst hv1 hv2
  by_cases h1 : 60 < n1
  · have h1' : (60 : Int) < (n1 : Int) := by omega
    clear h
    go_enter Try.func5, Try.ntmps5
    go_wp2_with (go_at_call 8; refine (alive_any _).mono ?_; rintro e w1 ⟨rfl, hb1⟩)
    go_ret
    exact ⟨rfl, hb1⟩
  · have h2 : 60 < n2 := by omega
    have h1' : ¬ (60 : Int) < (n1 : Int) := by omega
    have h2' : (60 : Int) < (n2 : Int) := by omega
    clear h
    go_enter Try.func5, Try.ntmps5
    go_wp2_with (go_at_call 8; refine (alive_any _).mono ?_; rintro e w1 ⟨rfl, hb1⟩)
    go_ret
    exact ⟨rfl, hb1⟩
end Go.Proofs.Ytkpallbnmckbaaa
