/- The document's Lay. -/
import Derived.Test.YtkpallbnmckbaaaDca
import Derived.Test.YtkpallbnmckbaaaGrw
import Derived.Deep.Upon
namespace Go.Proofs.Ytkpallbnmckbaaa
open Go.RowKit
/-- A slice of cells: nil, or a row. -/
def SV (W : World) (v : Value) (L : List C) : Prop := (v = .slice none 0 0 ∧ L = []) ∨ ∃ g off cap, v = .slice (some ⟨g, off, none⟩) L.length cap ∧ Row W g off L ∧ L.length ≤ cap
theorem SV.rv {W : World} {v : Value} {L : List C} (h : SV W v L) : RV W v L := by
  rcases h with ⟨rfl, rfl⟩ | ⟨g, off, cap, rfl, h1, h2⟩
  · exact RV.nil W
  · exact ⟨_, cap, g, off, rfl, fun _ => rfl, h1, h2⟩
theorem SV.nil (W : World) : SV W (.slice none 0 0) [] := Or.inl ⟨rfl, rfl⟩
theorem SV.bel {W W' : World} {v : Value} {L : List C} (h : SV W v L) (hb : Bel W W') : SV W' v L := by
  rcases h with h | ⟨g, off, cap, h0, h1, h2⟩
  · exact Or.inl h
  · exact Or.inr ⟨g, off, cap, h0, h1.bel hb, h2⟩
theorem OR.sv {base : Nat} {W : World} {v : Value} {L : List C} (h : OR base W v L) : SV W v L := by
  rcases h.2 with ⟨rfl, h0⟩ | ⟨g, cap, cur, rfl, h1, h2, hn, h3⟩
  · exact Or.inl ⟨rfl, List.eq_nil_of_length_eq_zero h0⟩
  · exact Or.inr ⟨g, 0, cap, rfl, Row.own h, hn⟩
/-- append of the cells of a slice, of which there may be none. -/
theorem app_rv {ops : Array Oper} {rest : List Oper} {o : Oper} {a : Act} {Q : Exit → Act → World → Prop} {W : World} {base : Nat} {v u : Value} {L M : List C} (h : OR base W v L) (hbase : base ≤ W.heap.size) (hM : RV W u M) (hb : L.length + M.length ≤ 1000000)
    (hgd : o.guard = none) (s x : Operand) (ho : o.op = .call { callee := .builtin .append, args := #[s, x], argTypes := #[25, 25] }) (hs : a.eval s = v) (hx : a.eval x = u)
    (hK : ∀ v' w', OR base w' v' (L ++ M) → W.grownBy w' v.ownBlock → wpList Try.prog ops Q rest (a.put o.dst v') w') : wpList Try.prog ops Q (o :: rest) a W := by
  obtain ⟨ad, cap, g, off, rfl, ha, hr, hle⟩ := hM
  by_cases h0 : M.length = 0
  · obtain ⟨i0, hi, hz0, hz1, hz2⟩ := Try.i38
    have hM0 : M = [] := List.eq_nil_of_length_eq_zero h0
    subst hM0
    have hk := hK v W (by simpa using h) ⟨rfl, rfl, rfl, Nat.le_refl _, fun _ _ _ => rfl⟩
    rw [show ([] : List C).length = 0 from rfl] at hx
    obtain ⟨sb, sc, sl, rfl, hsl⟩ : ∃ sb sc sl, v = .slice sb sl sc ∧ sl ≤ sc := by
      rcases h.2 with ⟨rfl, h0⟩ | ⟨g, cap, cur, rfl, h1, h2, hn, h3⟩
      · exact ⟨none, 0, 0, rfl, Nat.le_refl _⟩
      · exact ⟨_, cap, _, rfl, hn⟩
    refine wpList_plain hgd fun _ hKK => ?_
    have hr : (Builtin.append_ #[25, 25] o.type #[.slice sb sl sc, .slice ad 0 cap]).run Try.prog W = .ok (.slice sb sl sc) W := by
      refine run_append_nothing W 25 25 o.type 38 i0 Try.underlying25 hi sb sl sc hsl _ ⟨Or.inl ⟨38, Try.underlying25⟩, fun w' => ?_, ?_, ?_, by simp, by simp⟩
      · cases ad <;> simp [Builtin.lenOf]
      · cases ad <;> simp [Builtin.firstCells, loadCells, loadCellsFrom]
      · cases ad <;> simp [Builtin.firstCells, loadCells, loadCellsFrom]
    unfold Oper.wp execOp
    simp only [ho, resolve, invoke, builtin, Sem.run_bind, Sem.run_pure, Result.andThen_ok, List.map_toArray, List.map_cons, List.map_nil, hs, hx, hr]
    exact hKK _ _ hk
  · obtain rfl := ha h0
    exact app_row (M := M) (ad := ⟨g, off, none⟩) (cap := cap) h hbase hr rfl (by omega) hb hgd s x ho hs hx _ rfl (fun g' cap' w' h1 h2 _ => hK _ _ h1 h2)
theorem RV.take {W : World} {g off cap : Nat} {L : List C} (h : Row W g off L) (hc : L.length ≤ cap) (k : Nat) (hk : k ≤ L.length) : RV W (.slice (some ⟨g, off, none⟩) k cap) (L.take k) := by
  have e : (L.take k).length = k := by simp; omega
  refine ⟨_, cap, g, off, by rw [e], fun _ => rfl, fun j hj => ?_, by omega⟩
  have := h j (by omega)
  simpa using this
theorem RV.drop {W : World} {g off cap : Nat} {L : List C} (h : Row W g off L) (hc : L.length ≤ cap) (k : Nat) (hk : k ≤ L.length) (a : Option Addr) (ha : (if cap = k then (some ⟨g, off, none⟩ : Option Addr) else some ⟨g, off + k * 4, none⟩) = a) : RV W (.slice a (L.length - k) (cap - k)) (L.drop k) := by
  have e : (L.drop k).length = L.length - k := by simp
  refine ⟨a, cap - k, g, off + k * 4, by rw [e], fun h0 => ?_, fun j hj => ?_, by omega⟩
  · rw [← ha, if_neg (by omega)]
  · have := h (k + j) (by omega)
    simp only [List.getElem_drop]
    rw [show off + k * 4 + j * 4 = off + (k + j) * 4 by omega]
    exact this
theorem ins_at {c : C} {L r : List C} (k : Nat) (h : ∀ i (_ : i < k) (h : i < L.length), cmpC L[i] c < 0) (hr : ins c (L.drop k) = c :: r) : ins c L = L.take k ++ [c] ++ r := by
  conv => lhs; rw [← List.take_append_drop k L]
  rw [ins_app, hr, List.append_assoc]; · rfl
  intro y hy
  obtain ⟨i, hi, rfl⟩ := List.mem_iff_getElem.1 hy
  have hi' : i < k ∧ i < L.length := by simpa [Nat.lt_min] using hi
  simpa using h i hi'.1 hi'.2
theorem ins_end {c : C} {L : List C} : ins c (L.drop L.length) = c :: L.drop L.length := by simp [ins]
theorem ins_eq {c : C} {L : List C} {k : Nat} (hk : k < L.length) (h : cmpC L[k] c = 0) : ins c (L.drop k) = c :: L.drop (k + 1) := by
  rw [List.drop_eq_getElem_cons hk]; simp [ins, h]
theorem ins_gt {c : C} {L : List C} {k : Nat} (hk : k < L.length) (h : ¬ cmpC L[k] c < 0) (h' : cmpC L[k] c ≠ 0) : ins c (L.drop k) = c :: L.drop k := by
  rw [List.drop_eq_getElem_cons hk]; simp [ins, h, h']
theorem N4.row {W : World} {g off j : Nat} {L : List C} (h : Row W g off L) (hj : j < L.length) : (∀ p : BelBy W, p.W.cell? ⟨g, off + j * 4, none⟩ = some (.string L[j].k)) ∧ (∀ p : BelBy W, p.W.cell? ⟨g, off + j * 4 + 1, none⟩ = some (.int .u64 L[j].t)) ∧ (∀ p : BelBy W, p.W.cell? ⟨g, off + j * 4 + 2, none⟩ = some (.bool L[j].d)) ∧ (∀ p : BelBy W, p.W.cell? ⟨g, off + j * 4 + 3, none⟩ = some (.string L[j].v)) :=
  ⟨fun p => p.h.cell (h j hj).1, fun p => p.h.cell (h j hj).2.1, fun p => p.h.cell (h j hj).2.2.1, fun p => p.h.cell (h j hj).2.2.2⟩
theorem dcmpv (a b : C) (z : Int) (h : cmpC a b = z) (w : World) : Calls Try.prog 22 #[.agg #[.string a.k, .int .u64 a.t, .bool a.d, .string a.v], .agg #[.string b.k, .int .u64 b.t, .bool b.d, .string b.v]] w fun e w' => e = .returned (.int .i64 z) ∧ Bel w w' := by
  subst h
  exact dcmp_any _ _ _ _ _ _ _ _ w
end Go.Proofs.Ytkpallbnmckbaaa
