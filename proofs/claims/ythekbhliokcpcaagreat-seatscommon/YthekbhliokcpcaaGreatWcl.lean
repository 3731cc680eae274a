/- Clone of numbers, however long the list. -/
import Derived.Test.YthekbhliokcpcaaGreatNclo
namespace Go.Proofs.YthekbhliokcpcaaGreat
open Go.RowKit Go.Maps
/-- append of the elements of a row that lies in memory, of which there may be none. -/
theorem El.run_appw {α : Type} {E : El α} (W : World) (base : Nat) (v : Value) (L M : List α) (h : E.O base W v L) (hbase : base ≤ W.heap.size) (a : Option Addr) (g off cap : Nat) (ha : M.length ≠ 0 → a = some ⟨g, off, none⟩) (hM : E.R W g off M) (hb : L.length + M.length ≤ 17592186044416) (hb8 : E.bytes ≤ 8) (ty : TypeId) :
    ∃ v' w', (Builtin.append_ #[E.t, E.t] ty #[v, .slice a M.length cap]).run Tryz.prog W = .ok v' w' ∧ E.O base w' v' (L ++ M) ∧ W.grownBy w' v.ownBlock ∧ (∀ k, v'.ownBlock = some k → v.ownBlock = some k ∨ k = W.heap.size) := by
  obtain ⟨i0, hi, hz0, hz1, hz2⟩ := E.info
  by_cases h0 : M.length = 0
  · have hM0 : M = [] := List.eq_nil_of_length_eq_zero h0
    subst hM0
    obtain ⟨sb, sc, sl, rfl, hsl⟩ : ∃ sb sc sl, v = .slice sb sl sc ∧ sl ≤ sc := by
      rcases h.2 with ⟨rfl, h0⟩ | ⟨g, cap, cur, rfl, h1, h2, hn, h3⟩
      · exact ⟨none, 0, 0, rfl, Nat.le_refl _⟩
      · exact ⟨_, cap, _, rfl, hn⟩
    refine ⟨_, W, ?_, by simpa using h, ⟨rfl, rfl, rfl, Nat.le_refl _, fun _ _ _ => rfl⟩, fun k hk => Or.inl hk⟩
    refine run_append_nothing W E.t E.t ty E.e i0 E.ht hi sb sl sc hsl _ ⟨Or.inl ⟨E.e, E.ht⟩, fun w' => ?_, ?_, ?_, by simp, by simp⟩
    · cases a <;> simp [Builtin.lenOf]
    · cases a <;> simp [Builtin.firstCells, loadCells, loadCellsFrom]
    · cases a <;> simp [Builtin.firstCells, loadCells, loadCellsFrom]
  · obtain rfl := ha h0
    have hbb := E.hb
    obtain ⟨g', cap', w', hr, q1, q2, q3, _⟩ := run_append_lies (P := Tryz.prog) W E.t ty base E.e i0 E.z E.k E.bytes E.ht hi hz0 hz1 hz2 E.hz E.hk v L.length (E.fl L) h ⟨g, off, none⟩ M.length cap (E.fl M) (E.fl_len M) (fun t u ht => by rw [Addr.add_lit]; exact hM.flat t u ht) (E.fl_cells M) (by omega) (by unfold maxLen; omega) (by
      have h1 : (L.length + M.length) * E.bytes ≤ 17592186044416 * 8 := Nat.mul_le_mul hb hb8
      omega) hbase _ rfl
    refine ⟨_, w', hr, ?_, q2, fun k hk => ?_⟩
    · unfold El.O
      rw [E.fl_app, List.length_append]
      exact q1
    · cases hk
      exact q3
/-- append of a row to another one. -/
theorem app_elw {α : Type} {E : El α} {ops : Array Oper} {rest : List Oper} {o : Oper} {a : Act} {Q : Exit → Act → World → Prop} {W : World} {base : Nat} {v : Value} {L : List α} (N : List α) (h : E.O base W v L) (hbase : base ≤ W.heap.size) (ad : Option Addr) (n cap : Nat) (hn : N.length = n) (hN : Sl E W ad N) (hb : L.length + N.length ≤ 17592186044416) (hb8 : E.bytes ≤ 8)
    (hgd : o.guard = none) (s y : Operand) (t : TypeId) (ht : t = E.t) (ho : o.op = .call { callee := .builtin .append, args := #[s, y], argTypes := #[t, t] }) (hs : a.eval s = v) (hy : a.eval y = .slice ad n cap)
    (hK : ∀ v' w', E.O base w' v' (L ++ N) → W.grownBy w' v.ownBlock → wpList Tryz.prog ops Q rest (a.put o.dst v') w') : wpList Tryz.prog ops Q (o :: rest) a W := by
  subst hn ht
  obtain ⟨g, off, ha, hR⟩ := hN
  refine wpList_plain hgd fun K hK' => ?_
  obtain ⟨v', w', hrun, r1, r2, r3⟩ := El.run_appw (E := E) W base v L N h hbase ad g off cap ha hR hb hb8 o.type
  unfold Oper.wp execOp
  simp only [ho, resolve, invoke, builtin, Sem.run_bind, Sem.run_pure, Result.andThen_ok, List.map_toArray, List.map_cons, List.map_nil, hs, hy, hrun]
  exact hK' _ _ (hK v' w' r1 r2)
set_option maxRecDepth 100000 in
set_option maxHeartbeats 1000000 in
theorem clone3w {W : World} {a : Option Addr} {n cap : Nat} {l : List Int} (hn : l.length = n) (hR : Sl E3 W a l) (hl : n ≤ 17592186044416) : Calls Tryz.prog 99 #[.slice a n cap] W fun e w' => ∃ a' c', e = .returned (.slice a' n c') ∧ E3.O W.heap.size w' (.slice a' n c') l ∧ Bel W w' := by
  have HR := hide hR
  have HN := hide hn
  have HL := hide hl
  have hq := eql24 a n cap
  cases a with
  | none =>
    have h0 : l = [] := by
      obtain ⟨g, off, h1, _⟩ := hR
      cases l with
      | nil => rfl
      | cons x l => exact absurd (h1 (by simp)) (by simp)
    subst h0
    obtain rfl : n = 0 := by simpa using hn.symm
    clear hR hn hl
    go_enter Tryz.func99, Tryz.ntmps99
    go_wp2_with fail
    go_ret
    exact ⟨_, _, rfl, El.O.nil _ _, Bel.refl _⟩
  | some ad =>
    clear hR hn hl
    go_enter Tryz.func99, Tryz.ntmps99
    go_wp2_with (first
      | (at_builtin; refine app_elw (E := E3) (L := []) l (El.O.made W) (by simp) (some ad) n cap (unhide HN) ((unhide HR).bel ((Bel.refl W).alloc _)) (by have := unhide HL; have := unhide HN; simp; omega) (by decide) rfl _ _ 22 rfl rfl rfl rfl ?_; intro v' w' ho hg; rw [List.nil_append] at ho; obtain ⟨a', c', g', hv', _, _, _⟩ := ho.shape; rw [unhide HN] at hv'; subst hv'; have HF := hide (And.intro ho (bel_grown ((Bel.refl W).alloc _) hg (fun z hz => by cases hz; exact Nat.le_refl _))); clear ho hg))
    go_ret
    exact ⟨_, _, rfl, (unhide HF).1, (unhide HF).2⟩
end Go.Proofs.YthekbhliokcpcaaGreat
