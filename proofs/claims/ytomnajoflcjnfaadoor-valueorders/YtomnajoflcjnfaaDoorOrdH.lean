/- Rows of values while the document's Sort puts a value in its place. -/
import Derived.Test.YtomnajoflcjnfaaDoorOrdG
import Derived.Deep.RegionHeld3
import Derived.BigQuiet
import Derived.Deep.QuietTactic
import Derived.Deep.AppendLies
namespace Go.Proofs.YtomnajoflcjnfaaDoor
open Go.RowKit Go.Sort
theorem run_storeV (g s : Nat) (x : V) (w : World) (hc : ∀ c, c < 5 → (w.cell? ⟨g, s + c, none⟩).isSome = true) (hf : ∀ c, c < 5 → w.frozen? ⟨g, s + c, none⟩ = false) :
    (storeVar 25 ⟨g, s, none⟩ (.agg (enc5 x).toArray)).run Tryd.prog w = .ok () (w.setCells g s (enc5 x)) := by
  have hst := run_storeCells_cells (P := Tryd.prog) g s (enc5 x) 0 w (by simpa [enc5_len] using hc) (by simpa [enc5_len] using hf) (enc5_one x)
  simp only [Nat.add_zero] at hst
  have hz := Tryd.sizeOf25 w
  simp only [storeVar, Sem.run_bind, hz, Result.andThen_ok, Value.cells]
  simp [hst, enc5_len]
theorem wpList_store_V {ops : Array Oper} {rest : List Oper} {o : Oper} {a : Act} {w : World} {Q : Exit → Act → World → Prop} (hgd : o.guard = none) (x y : Operand) (ho : o.op = .store 25 x y)
    (g s : Nat) (v : V) (hx : a.eval x = .pointer (some ⟨g, s, none⟩)) (hy : a.eval y = .agg (enc5 v).toArray) (hc : ∀ c, c < 5 → (w.cell? ⟨g, s + c, none⟩).isSome = true) (hf : ∀ c, c < 5 → w.frozen? ⟨g, s + c, none⟩ = false)
    (h : wpList Tryd.prog ops Q rest (a.put o.dst undef) (w.setCells g s (enc5 v))) : wpList Tryd.prog ops Q (o :: rest) a w :=
  wpList_plain hgd fun _ hK => by
    unfold Oper.wp execOp
    simp only [ho, hx, hy, Instr.storeAt, Instr.sureAddr, Sem.run_bind, Sem.run_pure, Result.andThen_ok, run_storeV g s v w hc hf]
    exact hK _ _ h
structure QO (w W : World) (v : Value) (out : List V) : Prop where
  own : W.ownsRow w.heap.size 25 5 v out.length (cel enc5 5 out)
  bel : Bel w W
theorem Bel.grow {w W : World} (h : Bel w W) (n : Nat) (os : Array Obj) : Bel w (grow (W.drewN n) os) := h.trans (Gr.bel ⟨n, os, rfl⟩)
theorem QO.grow {w W : World} {v : Value} {out : List V} (h : QO w W v out) (n : Nat) (os : Array Obj) : QO w (grow (W.drewN n) os) v out := ⟨Lib.ownsRow_grow h.own n os, h.bel.grow n os⟩
theorem QO.drewN {w W : World} {v : Value} {out : List V} (h : QO w W v out) (q : Nat) : QO w (W.drewN q) v out := ⟨h.own, ⟨h.bel.os, h.bel.tape, h.bel.output, h.bel.size, h.bel.block⟩⟩
/-- A row of N values, in its place. -/
structure QO2 (w W : World) (g N co : Nat) (xs : List V) : Prop where
  own : W.ownsRow w.heap.size 25 5 (.slice (some ⟨g, 0, none⟩) N co) N (cel enc5 5 xs)
  bel : Bel w W
  le : N ≤ co
theorem QO2.len {w W : World} {g N co : Nat} {xs : List V} (h : QO2 w W g N co xs) : xs.length = N := by
  have := h.own.1
  rw [cel_len] at this
  omega
theorem QO2.cell {w W : World} {g N co : Nat} {xs : List V} (h : QO2 w W g N co xs) {j c : Nat} {x : V} (hj : j < N) (hx : xs[j]? = some x) (hc : c < 5) {v : Value} (hv : (enc5 x)[c]? = some v) : W.cell? ⟨g, j * 5 + c, none⟩ = some v := by
  have hl := h.len
  rw [h.own.cellAt _ (by omega), cel_at xs (by omega) hc]
  rw [List.getElem?_eq_getElem (by omega)] at hx
  rw [Option.some.inj hx]
  exact hv
theorem QO2.there {w W : World} {g N co : Nat} {xs : List V} (h : QO2 w W g N co xs) {j : Nat} (hj : j < N) (c : Nat) (hc : c < 5) : (W.cell? ⟨g, j * 5 + c, none⟩).isSome = true := by
  have hl := h.len
  rw [h.own.cellAt _ (by omega), cel_at xs (by omega) hc, List.getElem?_eq_getElem (by rw [enc5_len]; exact hc)]
  rfl
theorem QO2.put {w W : World} {g N co : Nat} {xs : List V} (h : QO2 w W g N co xs) (j : Nat) (hj : j < N) (x : V) (ys : List V) (hy : xs.set j x = ys) : QO2 w (W.setCells g (j * 5) (enc5 x)) g N co ys := by
  have hg := (h.own.lt g rfl).1
  refine ⟨own_store enc5_len h.own j (by rw [h.len]; exact hj) x ys hy, ?_, h.le⟩
  have : ∀ (vs : List Value) (o : Nat) (W : World), Bel w W → Bel w (W.setCells g o vs) := by
    intro vs
    induction vs with
    | nil => intro o W hb; exact hb
    | cons v r ih => intro o W hb; exact ih (o + 1) _ (Below.setCell hb (show w.heap.size ≤ g from hg) v)
  exact this _ _ _ h.bel
theorem QO2.qo {w W : World} {g N co : Nat} {xs : List V} (h : QO2 w W g N co xs) : QO w W (.slice (some ⟨g, 0, none⟩) N co) xs := by
  have hl := h.len
  subst hl; exact ⟨h.own, h.bel⟩
theorem QO.nil (w : World) : QO w w (.slice none 0 0) [] := by
  refine ⟨?_, Below.refl _ _⟩
  have e : cel enc5 5 ([] : List V) = [] := by simp [cel, flatK]
  rw [e]
  exact World.ownsRow_nil _ _ _ _
theorem qo_push {ops : Array Oper} {rest : List Oper} {o : Oper} {a : Act} {Q : Exit → Act → World → Prop} {w W : World} {v : Value} {out : List V} (h : QO w W v out) (hb : out.length + 1 ≤ 1048577)
    (hgd : o.guard = none) (s x : Operand) (ho : o.op = .call { callee := .builtin .append, args := #[s, x], argTypes := #[42, 42] }) (hs : a.eval s = v) (hx : a.eval x = .slice (some ⟨W.heap.size, 0, none⟩) 1 1)
    (hK : ∀ g cap w', QO2 w w' g (out.length + 1) cap (shv out out.length) → wpList Tryd.prog ops Q rest (a.put o.dst (.slice (some ⟨g, 0, none⟩) (out.length + 1) cap)) w') : wpList Tryd.prog ops Q (o :: rest) a (W.alloc (.cells #[.int .u8 0, .bool false, .int .i64 0, .string ⟨#[]⟩, .int .u64 0] 25)) := by
  obtain ⟨i0, hi, hz0, hz1, hz2⟩ := Tryd.i25
  have hBW : w.heap.size ≤ W.heap.size := h.bel.size
  refine wpList_append_lies (P := Tryd.prog) _ hgd s x 42 ho w.heap.size 25 i0 _ 5 40 Tryd.underlying42 hi hz0 hz1 hz2 rfl (by decide) v out.length (cel enc5 5 out) hs (h.own.alloc _) ⟨W.heap.size, 0, none⟩ 1 1 (enc5 default) hx rfl (cells_new W _ 25) (enc5_one _) (by decide) (by unfold maxLen; omega) (by omega) (Nat.le_trans hBW (by simp)) _ rfl ?_
  intro g cap w' hown hgrow _ _
  refine hK g cap w' ⟨?_, (Below.alloc h.bel hBW _).grown hgrow (Nat.le_trans hBW (by simp)) (fun k hk => (h.own.lt k hk).1), ?_⟩
  · rw [shv_start, cel_push enc5_len (by decide)]
    exact hown
  · rcases hown.2 with ⟨e, _⟩ | ⟨_, _, _, e, _, _, hn, _⟩
    · cases e
    · injection e with _ _ e3; rw [e3]; exact hn
end Go.Proofs.YtomnajoflcjnfaaDoor
