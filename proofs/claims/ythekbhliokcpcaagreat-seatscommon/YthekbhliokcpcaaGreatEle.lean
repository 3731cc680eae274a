/- Elements of rows of structs: read and written whole. -/
import Derived.Test.YthekbhliokcpcaaGreatNclo
import Derived.Deep.MidRow
import Derived.Great.BuildSlice
namespace Go.Proofs.YthekbhliokcpcaaGreat
open Go.RowKit Go.Maps
/-- A list with others laid over it from s on. -/
def setL (F : List Value) (s : Nat) : List Value → List Value
  | [] => F
  | v :: r => setL (F.set s v) (s + 1) r
theorem setL_eq : ∀ (vs F : List Value) (s : Nat), s + vs.length ≤ F.length → setL F s vs = F.take s ++ vs ++ F.drop (s + vs.length)
  | [], F, s, h => by simp [setL]
  | v :: r, F, s, h => by
    simp only [List.length_cons] at h
    rw [setL, setL_eq r (F.set s v) (s + 1) (by simp; omega)]
    have e1 : (F.set s v).take (s + 1) = F.take s ++ [v] := by
      rw [List.take_set, List.set_eq_take_append_cons_drop, if_pos (by simp; omega)]
      simp [List.take_take, Nat.min_eq_left (Nat.le_succ s)]
    have e2 : (F.set s v).drop (s + 1 + r.length) = F.drop (s + (v :: r).length) := by
      rw [List.drop_set_of_lt (by omega)]
      simp only [List.length_cons]
      congr 1
      omega
    rw [e1, e2]
    simp
theorem own_setCells {k B g n cap : Nat} {e : TypeId} : ∀ (vs : List Value) (s : Nat) (F : List Value) (W : World), W.ownsRow B e k (.slice (some ⟨g, 0, none⟩) n cap) n F → (W.setCells g s vs).ownsRow B e k (.slice (some ⟨g, 0, none⟩) n cap) n (setL F s vs)
  | [], _, _, _, h => h
  | v :: r, s, F, W, h => by
    have h1 := (h.stored s v).1
    rw [World.setCells, setL]
    exact own_setCells r (s + 1) _ _ h1
theorem ch_setCells (g : Nat) : ∀ (vs : List Value) (s : Nat) (W : World), Ch (fun k => k = g) W (W.setCells g s vs)
  | [], _, W => Ch.refl _ W
  | v :: r, s, W => by
    rw [World.setCells]
    exact (Ch.set (ad := ⟨g, s, none⟩) (Ch.refl (fun k => k = g) W) (Or.inl rfl) v).trans (ch_setCells g r (s + 1) _) (fun i hi => Or.inl hi)
section
variable {α : Type} {E : El α}
theorem El.fl_set (L : List α) (i : Nat) (hi : i < L.length) (x : α) : setL (E.fl L) (i * E.k) (E.enc x) = E.fl (L.set i x) := by
  have hle : i * E.k + E.k ≤ L.length * E.k := by
    have := Nat.mul_le_mul_right E.k hi
    rw [Nat.succ_mul] at this
    exact this
  have e0 : L = L.take i ++ L[i] :: L.drop (i + 1) := by rw [← List.drop_eq_getElem_cons hi, List.take_append_drop]
  have hF : E.fl L = E.fl (L.take i) ++ (E.enc L[i] ++ E.fl (L.drop (i + 1))) := by
    have := congrArg E.fl e0
    rw [El.fl_app, show L[i] :: L.drop (i + 1) = [L[i]] ++ L.drop (i + 1) from rfl, El.fl_app, El.fl_one] at this
    exact this
  have hl : (E.fl (L.take i)).length = i * E.k := by rw [E.fl_len, List.length_take, Nat.min_eq_left (Nat.le_of_lt hi)]
  rw [setL_eq _ _ _ (by rw [E.fl_len, E.len]; exact hle)]
  have hS : E.fl (L.set i x) = E.fl (L.take i) ++ (E.enc x ++ E.fl (L.drop (i + 1))) := by
    rw [List.set_eq_take_append_cons_drop, if_pos hi, El.fl_app, show x :: L.drop (i + 1) = [x] ++ L.drop (i + 1) from rfl, El.fl_app, El.fl_one]
  rw [hS, hF, List.take_left' hl, E.len, ← hl, ← E.len L[i], ← List.length_append, ← List.append_assoc (E.fl (L.take i)) (E.enc L[i]), List.drop_left]
  simp
theorem El.O.put {base : Nat} {W : World} {g cap : Nat} {L : List α} {m : Nat} (h : E.O base W (.slice (some ⟨g, 0, none⟩) m cap) L) (i : Nat) (hi : i < L.length) (x : α) : E.O base (W.setCells g (i * E.k) (E.enc x)) (.slice (some ⟨g, 0, none⟩) m cap) (L.set i x) := by
  have hm : m = L.length := by
    obtain ⟨a', c', g', e, _⟩ := h.shape
    injection e with _ e2
  subst hm
  have := own_setCells (E.enc x) (i * E.k) _ W h
  rw [El.fl_set L i hi x] at this
  unfold El.O
  rw [List.length_set]
  exact this
theorem El.O.range {base : Nat} {W : World} {g cap m : Nat} {L : List α} (h : E.O base W (.slice (some ⟨g, 0, none⟩) m cap) L) (i : Nat) (hi : i < L.length) : W.rangeAt g (i * E.k) (E.enc L[i]) := by
  have hm : m = L.length := by
    obtain ⟨a', c', g', e, _⟩ := h.shape
    injection e with _ e2
  subst hm
  intro j v hv
  have := h.row i hi j v hv
  rwa [Nat.zero_add] at this
theorem El.O.there {base : Nat} {W : World} {g cap m : Nat} {L : List α} (h : E.O base W (.slice (some ⟨g, 0, none⟩) m cap) L) (i : Nat) (hi : i < L.length) : W.there g (i * E.k) E.k := by
  have hm : m = L.length := by
    obtain ⟨a', c', g', e, _⟩ := h.shape
    injection e with _ e2
  subst hm
  intro j hj
  refine ⟨?_, World.ownsRow.frozenAt h _⟩
  have hj' : j < (E.enc L[i]).length := by rw [E.len]; exact hj
  rw [h.range i hi j _ (List.getElem?_eq_getElem hj')]
  rfl
variable {ops : Array Oper} {rest : List Oper} {o : Oper} {a : Act} {Q : Exit → Act → World → Prop} {W : World}
/-- An element is read. -/
theorem el_ld (hgd : o.guard = none) (x : Operand) (ho : o.op = .load E.e x) (g i : Nat) (hx : a.eval x = .pointer (some ⟨g, i * E.k, none⟩)) {base cap m : Nat} {L : List α} (h : E.O base W (.slice (some ⟨g, 0, none⟩) m cap) L) (hi : i < L.length) {fs : Array Field} (hu : Tryz.prog.underlying E.e = some (.struct fs)) (cs : Array Value) (hcs : E.enc L[i] = cs.toList)
    (hK : wpList Tryz.prog ops Q rest (a.put o.dst (.agg cs)) W) : wpList Tryz.prog ops Q (o :: rest) a W := by
  obtain ⟨i0, hi0, _, hz1, _⟩ := E.info
  refine wpList_load_mid hgd E.e x ho g (i * E.k) hx cs.toList _ (by rw [← hcs]; exact h.range i hi) hu rfl ?_ ?_
  · rw [hi0, ← hcs, E.len]; simp [hz1]
  · simpa using hK
/-- An element is written. -/
theorem el_st (hgd : o.guard = none) (x y : Operand) (ho : o.op = .store E.e x y) (g i : Nat) (hx : a.eval x = .pointer (some ⟨g, i * E.k, none⟩)) (cs : Array Value) (hy : a.eval y = .agg cs) (u : α) (hcs : E.enc u = cs.toList) {base cap m : Nat} {L : List α} (h : E.O base W (.slice (some ⟨g, 0, none⟩) m cap) L) (hi : i < L.length)
    (hK : ∀ w', E.O base w' (.slice (some ⟨g, 0, none⟩) m cap) (L.set i u) → Ch (fun k => k = g) W w' → wpList Tryz.prog ops Q rest (a.put o.dst undef) w') : wpList Tryz.prog ops Q (o :: rest) a W := by
  obtain ⟨i0, hi0, _, hz1, _⟩ := E.info
  have hsz : cs.size = E.k := by rw [← E.len u, hcs]; simp
  refine wpList_store_mid hgd E.e x y ho g (i * E.k) cs hx hy (by rw [hsz]; exact h.there i hi) (by rw [hi0, hsz]; simp [hz1]) ?_ ?_
  · rw [Array.all_eq_true_iff_forall_mem]
    intro v hv
    exact E.one u v (by rw [hcs]; simpa using hv)
  · rw [← hcs]
    exact hK _ (h.put i hi u) (ch_setCells _ _ _ _)
/-- The same as an execution. -/
theorem el_ld_run (x : Operand) (ho : o.op = .load E.e x) (g i : Nat) (hx : a.eval x = .pointer (some ⟨g, i * E.k, none⟩)) {base cap m : Nat} {L : List α} (h : E.O base W (.slice (some ⟨g, 0, none⟩) m cap) L) (hi : i < L.length) {fs : Array Field} (hu : Tryz.prog.underlying E.e = some (.struct fs)) (cs : Array Value) (hcs : E.enc L[i] = cs.toList) : (execOp a.eval o).run Tryz.prog W = .ok (.value (.agg cs)) W := by
  obtain ⟨i0, hi0, _, hz1, _⟩ := E.info
  unfold execOp
  have := run_loadVar_mid (P := Tryz.prog) W g (i * E.k) E.e cs.toList _ (by rw [← hcs]; exact h.range i hi) hu rfl (by rw [hi0, ← hcs, E.len]; simp [hz1])
  simp only [ho, hx, Instr.loadAt, Instr.sureAddr, Sem.run_bind, Sem.run_pure, Result.andThen_ok, this]
theorem el_st_run (x y : Operand) (ho : o.op = .store E.e x y) (g i : Nat) (hx : a.eval x = .pointer (some ⟨g, i * E.k, none⟩)) (cs : Array Value) (hy : a.eval y = .agg cs) (u : α) (hcs : E.enc u = cs.toList) {base cap m : Nat} {L : List α} (h : E.O base W (.slice (some ⟨g, 0, none⟩) m cap) L) (hi : i < L.length) : (execOp a.eval o).run Tryz.prog W = .ok .skip (W.setCells g (i * E.k) (E.enc u)) := by
  obtain ⟨i0, hi0, _, hz1, _⟩ := E.info
  have hsz : cs.size = E.k := by rw [← E.len u, hcs]; simp
  have h1 : cs.all (·.oneCell') = true := by
    rw [Array.all_eq_true_iff_forall_mem]
    intro v hv
    exact E.one u v (by rw [hcs]; simpa using hv)
  have := run_storeVar_mid (P := Tryz.prog) W g (i * E.k) E.e cs (by rw [hsz]; exact h.there i hi) (by rw [hi0, hsz]; simp [hz1]) h1
  unfold execOp
  simp only [ho, hx, hy, Instr.storeAt, Instr.sureAddr, Sem.run_bind, Sem.run_pure, Result.andThen_ok, this]
  rw [hcs]
end
/-! ### A row of one struct, written out -/
theorem fold_set : ∀ (l : List Value) (s : Nat) (A : Array Value), (l.zipIdx s).foldl (fun cs p => cs.setIfInBounds (0 + p.2) p.1) A = (setL A.toList s l).toArray
  | [], s, A => by simp [setL]
  | v :: l, s, A => by
    rw [List.zipIdx_cons, List.foldl_cons, fold_set l (s + 1), setL]
    simp
theorem fill_one (cs : Array Value) (k : Nat) (zc : Array Value) (hcs : cs.size = k) : Instr.fill (fun i => some (i * k, k)) ((Array.range (1 * k)).map (zc[· % zc.size]!)) [(0, .agg cs)] = some cs := by
  generalize hA : (Array.range (1 * k)).map (zc[· % zc.size]!) = A
  have hs : A.size = k := by rw [← hA]; simp
  clear hA
  have e1 : (Value.agg cs).cells = cs := rfl
  simp only [Instr.fill, e1, Nat.zero_mul]
  rw [if_neg (by simp; omega)]
  have e2 : cs.zipIdx.foldl (fun cs x => cs.setIfInBounds (0 + x.2) x.1) A = cs := by
    rw [← Array.foldl_toList, Array.toList_zipIdx, fold_set, setL_eq _ _ _ (by simp; omega)]
    apply Array.ext'
    simp
    omega
  exact congrArg some e2
theorem run_one {α : Type} (E : El α) (W : World) (cs : Array Value) (hcs : cs.size = E.k) (hsm : ¬ 1 * E.k > 2 ^ 24) : (Instr.buildSlice E.t 1 #[(0, .agg cs)]).run Tryz.prog W = .ok (.slice (some ⟨W.heap.size, 0, none⟩) 1 1) (W.alloc (.cells cs E.e)) := by
  obtain ⟨i0, hi, hz0, hz1, _⟩ := E.info
  have hk := E.hk
  refine run_buildSlice W E.t E.e 1 _ cs i0 E.z E.ht hi hz0 ?_ ?_ ?_
  · rw [hz1]; exact hsm
  · rw [hz1, Nat.one_mul]; exact Nat.ne_of_gt hk
  · rw [hz1]
    exact fill_one cs E.k E.z.cells hcs
section
variable {α : Type} {E : El α} {ops : Array Oper} {rest : List Oper} {o : Oper} {a : Act} {Q : Exit → Act → World → Prop} {W : World}
theorem el_one (E : El α) (cs : Array Value) (hcs : cs.size = E.k) (hsm : ¬ 1 * E.k > 2 ^ 24) (x : Operand) (hgd : o.guard = none) (ho : o.op = .buildSlice E.t 1 #[(0, x)]) (hx : a.eval x = .agg cs)
    (hK : wpList Tryz.prog ops Q rest (a.put o.dst (.slice (some ⟨W.heap.size, 0, none⟩) 1 1)) (W.alloc (.cells cs E.e))) : wpList Tryz.prog ops Q (o :: rest) a W := by
  refine wpList_plain hgd fun K hK' => ?_
  unfold Oper.wp execOp
  simp only [ho, List.map_toArray, List.map_cons, List.map_nil, hx, Sem.run_bind, run_one E W cs hcs hsm, Result.andThen_ok]
  exact hK' _ _ hK
end
end Go.Proofs.YthekbhliokcpcaaGreat
