/- Aids for the law ValueOrders. -/
import Derived.Test.YtomnajoflcjnfaaDoorOrdI
import Derived.Test.YtomnajoflcjnfaaDoorValJ
import Derived.Test.YtomnajoflcjnfaaDoorValK
import Derived.Deep.Upon
namespace Go.Proofs.YtomnajoflcjnfaaDoor
open Go.RowKit Go.Sort
theorem RV.five {W : World} {a : Option Addr} {n cap : Nat} {l : List V} (h : RV W (.slice a n cap) l) (hne : l ≠ []) : ∃ g off, a = some ⟨g, off, none⟩ ∧ ∀ W', Bel W W' → ∀ t u, (cel enc5 5 l)[t]? = some u → W'.cell? ⟨g, off + t, none⟩ = some u := by
  obtain ⟨a', cap', e, _, hn⟩ := h
  obtain ⟨g, off, ea, _, hc⟩ := hn hne
  injection e with e1 _ _
  exact ⟨g, off, e1.trans ea, fun W' hb t u ht => hb.cell (hc t u ht)⟩
theorem app_nil (a : Option Addr) (cap : Nat) (ty : TypeId) (W : World) : (Builtin.append_ #[42, 42] ty #[.slice none 0 0, .slice a 0 cap]).run Tryd.prog W = .ok (.slice none 0 0) W := by
  obtain ⟨i0, hi, hz0, hz1, hz2⟩ := Tryd.i25
  refine run_append_nothing W 42 42 ty 25 i0 Tryd.underlying42 hi none 0 0 (Nat.le_refl _) _ ⟨Or.inl ⟨25, Tryd.underlying42⟩, fun w' => ?_, ?_, ?_, by simp, by simp⟩
  · cases a <;> simp [Builtin.lenOf]
  · cases a <;> simp [Builtin.firstCells, loadCells, loadCellsFrom]
  · cases a <;> simp [Builtin.firstCells, loadCells, loadCellsFrom]
theorem bel_drewN {w W : World} (h : Bel w W) (q : Nat) : Bel w (W.drewN q) := ⟨h.os, h.tape, h.output, h.size, h.block⟩
theorem five_zero {W : World} {g o : Nat} {k : Int} {b : Bool} {n : Int} {s : ByteArray} {u : Int} (h : five W g (0 + o) k b n s u) : five W g o k b n s u := by rw [Nat.zero_add] at h; exact h
/-- Whether one of the first may not be. -/
def badB (l : List V) (i : Nat) (b : Bool) : Prop := b = true ↔ ∃ x ∈ l.take i, ¬ mayx x
theorem badB.start (l : List V) : badB l 0 false := ⟨fun e => (by cases e), fun ⟨x, hx, _⟩ => (by simp at hx)⟩
theorem badB.stay {l : List V} {i : Nat} (h : badB l i true) (hi : i < l.length) : badB l (i + 1) true := by
  obtain ⟨x, hx, hm⟩ := h.1 rfl
  exact ⟨fun _ => ⟨x, (takeV_next hi x).2 (Or.inl hx), hm⟩, fun _ => rfl⟩
theorem badB.good {l : List V} {i : Nat} (h : badB l i false) (hi : i < l.length) (hm : mayx l[i]) : badB l (i + 1) false := by
  refine ⟨fun e => (by cases e), ?_⟩
  rintro ⟨x, hx, hn⟩
  rcases (takeV_next hi x).1 hx with h1 | h1
  · exact h.2 ⟨x, h1, hn⟩
  · rw [h1] at hn; exact absurd hm hn
theorem badB.bad {l : List V} {i : Nat} (hi : i < l.length) (hm : ¬ mayx l[i]) : badB l (i + 1) true :=
  ⟨fun _ => ⟨l[i], (takeV_next hi _).2 (Or.inr rfl), hm⟩, fun _ => rfl⟩
theorem risV_len : ∀ (q q0 : List V), risV q → (∀ x ∈ q, x ∈ q0) → q.length ≤ q0.length
  | [], q0, _, _ => Nat.zero_le _
  | x :: q, q0, h, hm => by
    obtain ⟨h1, h2⟩ := List.pairwise_cons.1 h
    have hx := hm x (by simp)
    have h3 := risV_len q (@List.erase V instBEqOfDecidableEq q0 x) h2 (fun y hy => (@List.mem_erase_of_ne V instBEqOfDecidableEq _ _ _ _ (fun e => by rw [e] at hy; exact vlt_irr x (h1 x hy))).2 (hm y (by simp [hy])))
    rw [@List.length_erase_of_mem V instBEqOfDecidableEq _ _ _ hx] at h3
    have : 0 < q0.length := List.length_pos_of_mem hx
    simp; omega
/-- A value that came in: its uid is not below 0. -/
def okU0 (x : V) : Prop := 0 ≤ x.u
theorem app_own {ops : Array Oper} {rest : List Oper} {o : Oper} {a : Act} {Q : Exit → Act → World → Prop} {W : World} {l : List V} {g off cap : Nat} (hc : ∀ t u, (cel enc5 5 l)[t]? = some u → W.cell? ⟨g, off + t, none⟩ = some u) (hl : l.length ≤ 200) (hl0 : 0 < l.length)
    (hgd : o.guard = none) (s x : Operand) (ho : o.op = .call { callee := .builtin .append, args := #[s, x], argTypes := #[42, 42] }) (hs : a.eval s = .slice none 0 0) (hx : a.eval x = .slice (some ⟨g, off, none⟩) l.length cap)
    (hK : ∀ g' cap' w', w'.ownsRow W.heap.size 25 5 (.slice (some ⟨g', 0, none⟩) l.length cap') l.length (cel enc5 5 l) → Bel W w' → wpList Tryd.prog ops Q rest (a.put o.dst (.slice (some ⟨g', 0, none⟩) l.length cap')) w') : wpList Tryd.prog ops Q (o :: rest) a W := by
  obtain ⟨i0, hi, hz0, hz1, hz2⟩ := Tryd.i25
  refine wpList_append_lies (P := Tryd.prog) _ hgd s x 42 ho W.heap.size 25 i0 _ 5 40 Tryd.underlying42 hi hz0 hz1 hz2 rfl (by decide) (.slice none 0 0) 0 [] hs (World.ownsRow_nil _ _ _ _) ⟨g, off, none⟩ l.length cap (cel enc5 5 l) hx (cel_len l) (fun t u ht => by rw [Addr.add_lit]; exact hc t u ht) (cel_one l) hl0 (by unfold maxLen; omega) (by omega) (Nat.le_refl _) _ rfl ?_
  intro g' cap' w' hown hgrow _ _
  rw [Nat.zero_add, List.nil_append] at hown
  have hb : Bel W w' := ⟨hgrow.os, hgrow.tape, hgrow.output, hgrow.size, fun k hk => hgrow.block k hk (by simp [Value.ownBlock])⟩
  have := hK g' cap' w' hown hb
  rw [Nat.zero_add]
  exact this
theorem app_none {ops : Array Oper} {rest : List Oper} {o : Oper} {a : Act} {Q : Exit → Act → World → Prop} {W : World} {ad : Option Addr} {n cap : Nat} (hn : n = 0)
    (hgd : o.guard = none) (s x : Operand) (ho : o.op = .call { callee := .builtin .append, args := #[s, x], argTypes := #[42, 42] }) (hs : a.eval s = .slice none 0 0) (hx : a.eval x = .slice ad n cap)
    (hK : wpList Tryd.prog ops Q rest (a.put o.dst (.slice none 0 0)) W) : wpList Tryd.prog ops Q (o :: rest) a W :=
  wpList_plain hgd fun _ hKK => by
    subst hn
    have hr := app_nil ad cap o.type W
    unfold Oper.wp execOp
    simp only [ho, resolve, invoke, builtin, Sem.run_bind, Sem.run_pure, Result.andThen_ok, List.map_toArray, List.map_cons, List.map_nil, hs, hx, hr]
    exact hKK _ _ hK
end Go.Proofs.YtomnajoflcjnfaaDoor
