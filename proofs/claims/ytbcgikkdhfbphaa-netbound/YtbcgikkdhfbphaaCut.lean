/- A message less. -/
import Derived.Test.YtbcgikkdhfbphaaSnd
namespace Go.Proofs.Ytbcgikkdhfbphaa
open Go.RowKit Go.Maps
/-- What becomes of a net whose link's list is another one, and whose count is laid somewhere on the way. -/
theorem Cn.relink2 {w w4 : World} {p bm cm bl n m : Nat} {f : Int × Int → Option Value} {s : PN} {M : Nat → Prop} (h : Cn w p bm cm bl n f s M) (hlt : ∀ i, M i → i < w.heap.size) (x : Int × Int) (L' : List Pk) (r : Option Value)
    (hch : Ch (fun i => i = p ∨ i = bl ∨ ((f x).getD (.slice none 0 0)).ownBlock = some i) w w4)
    (hrow4 : w4.heap[p]? = some (.cells #[.slice (some ⟨bm, 0, none⟩) s.ms.length cm, .map (some bl), .int .i64 L'.length] 70))
    (hmg : Mg 86 lk w4 bl m (upd f x r))
    (hq : ∀ y, y ≠ x → qs L' y.1 y.2 = qs s.L y.1 y.2)
    (hr : (r = none ∧ qs L' x.1 x.2 = []) ∨ ∃ g off cap, r = some (.slice (some ⟨g, off, none⟩) (qs L' x.1 x.2).length cap) ∧ SR w4 g off cap (qs L' x.1 x.2) ∧ qs L' x.1 x.2 ≠ [] ∧ (((f x).getD (.slice none 0 0)).ownBlock = some g ∨ w.heap.size ≤ g)) :
    ∃ M', Cn w4 p bm cm bl m (upd f x r) ⟨s.ms, L'⟩ M' ∧ (∀ i, M' i → M i ∨ w.heap.size ≤ i) ∧ (∀ i, M' i → i < w4.heap.size) ∧ (∀ i, M i → M' i) ∧ Ch M w w4 := by
  have hVM : ∀ i, ((f x).getD (.slice none 0 0)).ownBlock = some i → M i ∧ ∃ c, w.heap[i]? = some (.cells c 9) := by
    intro i hi
    cases hf : f x with
    | none => rw [hf] at hi; cases hi
    | some v =>
      rw [hf] at hi
      obtain ⟨g, off, cap, rfl, q1, q2, q3⟩ := h.yes x v hf
      cases hi
      obtain ⟨c, q1, _⟩ := q1
      exact ⟨q3, c, q1⟩
  obtain ⟨cur, hr0, _⟩ := h.mr
  have hpc : ∀ i c, w.heap[i]? = some (.cells c 9) → p ≠ i ∧ bm ≠ i := fun i c hc => ⟨fun e => (by have := h.row; rw [e, hc] at this; cases this), fun e => (by rw [e, hc] at hr0; cases hr0)⟩
  have hpb : p ≠ bm := fun e => by have := h.row; rw [e, hr0] at this; cases this
  have hb4 : w4.heap[bm]? = w.heap[bm]? := hch.block bm (hlt bm h.mm) (fun h' => h'.elim (fun e => hpb e.symm) (fun h' => h'.elim (fun e => h.mg.ne_row hr0 e.symm) (fun e => by obtain ⟨_, c, hc⟩ := hVM bm e; exact (hpc bm c hc).2 rfl)))
  have hch4 : Ch M w w4 := by
    refine hch.mono (fun i hi => ?_)
    rcases hi with rfl | rfl | hi
    · exact h.mp
    · exact h.ml
    · exact (hVM i hi).1
  refine ⟨fun i => M i ∨ (w.heap.size ≤ i ∧ i < w4.heap.size), ⟨?_, h.le, h.mr.at hb4, hmg, ?_, ?_, ?_, Or.inl h.mp, Or.inl h.mm, Or.inl h.ml⟩, fun i hi => or_to hi id (fun h => h.1), fun i hi => hi.elim (fun h => Nat.lt_of_lt_of_le (hlt i h) hch4.size) (fun h => h.2), fun i hi => Or.inl hi, hch4⟩
  · exact hrow4
  · intro y hy
    by_cases e : y = x
    · subst e
      rw [upd_same] at hy
      rcases hr with ⟨_, h'⟩ | ⟨g, off, cap, h', _⟩
      · exact h'
      · rw [hy] at h'; cases h'
    · rw [upd_ne f _ e] at hy
      show qs L' y.1 y.2 = []
      rw [hq y e]
      exact h.no y hy
  · intro y v hy
    by_cases e : y = x
    · subst e
      rw [upd_same] at hy
      rcases hr with ⟨h', _⟩ | ⟨g, off, cap, h', q1, q2, q3⟩
      · rw [hy] at h'; cases h'
      · rw [hy] at h'
        cases h'
        refine ⟨g, off, cap, rfl, q1, q2, ?_⟩
        rcases q3 with q3 | q3
        · exact Or.inl (hVM g q3).1
        · exact Or.inr ⟨q3, q1.lt⟩
    · rw [upd_ne f _ e] at hy
      obtain ⟨g, off, cap, rfl, q1, q2, q3⟩ := h.yes y v hy
      have hq1 := q1
      obtain ⟨c, hc, _⟩ := hq1
      have hg3 : w4.heap[g]? = w.heap[g]? := hch.block g q1.lt (fun h' => h'.elim (fun e' => (hpc g c hc).1 e'.symm) (fun h' => h'.elim (fun e' => h.mg.ne_row hc e'.symm) (fun e' => by
        cases hf : f x with
        | none => rw [hf] at e'; cases e'
        | some u =>
          rw [hf] at e'
          exact e (h.ap y x _ u g hy hf rfl e'))))
      refine ⟨g, off, cap, ?_, ?_, ?_, Or.inl q3⟩
      · show _ = Value.slice _ (qs L' y.1 y.2).length _
        rw [hq y e]
      · show SR w4 g off cap (qs L' y.1 y.2)
        rw [hq y e]
        exact q1.at hg3
      · show qs L' y.1 y.2 ≠ []
        rw [hq y e]
        exact q2
  · have key : ∀ y v g, y ≠ x → f y = some v → v.ownBlock = some g → ∀ u, r = some u → u.ownBlock = some g → False := by
      intro y v g hyx hy hv u hu hug
      rcases hr with ⟨h', _⟩ | ⟨g', off, cap, h', q1, q2, q3⟩
      · rw [hu] at h'; cases h'
      · rw [hu] at h'
        cases h'
        cases hug
        obtain ⟨g2, off2, cap2, rfl, k1, k2, k3⟩ := h.yes y v hy
        cases hv
        rcases q3 with q3 | q3
        · cases hf : f x with
          | none => rw [hf] at q3; cases q3
          | some u =>
            rw [hf] at q3
            exact hyx (h.ap y x _ u _ hy hf rfl q3)
        · have := k1.lt
          omega
    intro y z v u g hy hz hv hu
    by_cases e1 : y = x
    · subst e1
      by_cases e2 : z = y
      · exact e2.symm
      · rw [upd_same] at hy
        rw [upd_ne f _ e2] at hz
        exact (key z u g e2 hz hu v hy hv).elim
    · rw [upd_ne f _ e1] at hy
      by_cases e2 : z = x
      · subst e2
        rw [upd_same] at hz
        exact (key y v g e1 hy hv u hz hu).elim
      · rw [upd_ne f _ e2] at hz
        exact h.ap y z v u g hy hz hv hu
theorem SR.set {w : World} {g off cap : Nat} {l : List ByteArray} (h : SR w g off cap l) {i : Nat} (hi : i < l.length) (t : ByteArray) : SR (w.setCell ⟨g, off + i, none⟩ (.string t)) g off cap (l.set i t) := by
  obtain ⟨cur, h1, h2, h3, h4, h5⟩ := h
  refine ⟨_, row_set h1, by simpa using h2, by simpa using h3, h4, fun j hj => ?_⟩
  have hj' : j < l.length := by simpa using hj
  rw [List.getElem_set]
  by_cases e : i = j
  · subst e
    rw [if_pos rfl, Array.getElem?_setIfInBounds_self_of_lt (by omega)]
  · rw [if_neg e, Array.getElem?_setIfInBounds_ne (by omega)]
    exact h5 j hj'
theorem SR.take {w : World} {g off cap : Nat} {l : List ByteArray} (h : SR w g off cap l) {k : Nat} (hk : k ≤ l.length) : SR w g off k (l.take k) := by
  obtain ⟨cur, h1, h2, h3, h4, h5⟩ := h
  refine ⟨cur, h1, by omega, by simp; omega, by omega, fun j hj => ?_⟩
  have hj' : j < l.length := by simp at hj; omega
  rw [List.getElem_take]
  exact h5 j hj'
theorem SR.drop {w : World} {g off cap : Nat} {l : List ByteArray} (h : SR w g off cap l) {k : Nat} (hk : k ≤ l.length) : SR w g (off + k) (cap - k) (l.drop k) := by
  obtain ⟨cur, h1, h2, h3, h4, h5⟩ := h
  refine ⟨cur, h1, by omega, by simp; omega, by omega, fun j hj => ?_⟩
  have hj' : k + j < l.length := by simp at hj; omega
  rw [List.getElem_drop, Nat.add_assoc]
  exact h5 (k + j) hj'
/-- Without the i-th message of a link. -/
def PN.cut (s : PN) (a b : Int) (i : Nat) : PN := ⟨s.ms, rem s.L a b i⟩
theorem Cn.there {w : World} {p bm cm bl n : Nat} {f : Int × Int → Option Value} {s : PN} {M : Nat → Prop} (h : Cn w p bm cm bl n f s M) (x : Int × Int) (hx : (qs s.L x.1 x.2).length ≠ 0) : ∃ g off cap, f x = some (.slice (some ⟨g, off, none⟩) (qs s.L x.1 x.2).length cap) ∧ SR w g off cap (qs s.L x.1 x.2) := by
  cases hf : f x with
  | none => rw [h.no x hf] at hx; exact absurd rfl hx
  | some v =>
    obtain ⟨g, off, cap, rfl, h1, _, _⟩ := h.yes x v hf
    exact ⟨g, off, cap, rfl, h1⟩
/-- A net in the midst of cut: its count is laid already. -/
structure Cx (W W2 : World) (p bm cm bl n kb : Nat) (f : Int × Int → Option Value) (N : Nat) (a b fl : Int) (g off cap : Nat) (q : List ByteArray) : Prop where
  row : W2.heap[p]? = some (.cells #[.slice (some ⟨bm, 0, none⟩) N cm, .map (some bl), .int .i64 fl] 70)
  mg : Mg 86 lk W2 bl n f
  sr : SR W2 g off cap q
  ch : Ch (fun i => i = p ∨ i = bl ∨ i = g) W W2
  key : W2.heap[kb]? = some (.cells #[.int .i64 a, .int .i64 b] 86)
theorem Cx.at {W W2 W3 : World} {p bm cm bl n kb : Nat} {f : Int × Int → Option Value} {N : Nat} {a b fl : Int} {g off cap : Nat} {q : List ByteArray} (h : Cx W W2 p bm cm bl n kb f N a b fl g off cap q) (c : Bel W2 W3) : Cx W W3 p bm cm bl n kb f N a b fl g off cap q :=
  ⟨c.row h.row, h.mg.bel c, h.sr.at (c.block _ h.sr.lt), h.ch.bel c, c.row h.key⟩
theorem Cx.set {W W2 : World} {p bm cm bl n kb : Nat} {f : Int × Int → Option Value} {N : Nat} {a b fl : Int} {g off cap : Nat} {q : List ByteArray} (h : Cx W W2 p bm cm bl n kb f N a b fl g off cap q) {i : Nat} (hi : i < q.length) (t : ByteArray) : Cx W (W2.setCell ⟨g, off + i, none⟩ (.string t)) p bm cm bl n kb f N a b fl g off cap (q.set i t) := by
  have hsr := h.sr
  obtain ⟨c, hc, _⟩ := hsr
  have ho : ∀ j, j ≠ g → (W2.setCell ⟨g, off + i, none⟩ (.string t)).heap[j]? = W2.heap[j]? := fun j hj => Below.heap_setCell _ _ _ _ (fun e => hj e)
  refine ⟨(ho p (fun e => ?_)).trans h.row, h.mg.at (ho bl (h.mg.ne_row hc)), h.sr.set hi t, h.ch.set (Or.inl (Or.inr (Or.inr rfl))) _, (ho kb (fun e => ?_)).trans h.key⟩
  · have := h.row; rw [e, hc] at this; cases this
  · have := h.key; rw [e, hc] at this; cases this
theorem Cx.start {W : World} {p bm cm bl n kb : Nat} {f : Int × Int → Option Value} {s : PN} {M : Nat → Prop} {a b : Int} {g off cap : Nat} {q : List ByteArray} (h1 : Cn W p bm cm bl n f s M) (hs : SR W g off cap q) (hk : W.heap[kb]? = some (.cells #[.int .i64 a, .int .i64 b] 86)) (fl : Int) : Cx W (W.setCell ⟨p, 2, none⟩ (.int .i64 fl)) p bm cm bl n kb f s.ms.length a b fl g off cap q := by
  have ho : ∀ j, j ≠ p → (W.setCell ⟨p, 2, none⟩ (.int .i64 fl)).heap[j]? = W.heap[j]? := fun j hj => Below.heap_setCell _ _ _ _ (fun e => hj e)
  have hs' := hs
  obtain ⟨c, hc, _⟩ := hs'
  refine ⟨by rw [row_set h1.row]; simp, h1.mg.at (ho bl (h1.mg.ne_row h1.row)), hs.at (ho g (fun e => ?_)), (Ch.refl _ W).set (Or.inl (Or.inl rfl)) _, (ho kb (fun e => ?_)).trans hk⟩
  · rw [e, h1.row] at hc; cases hc
  · rw [e, h1.row] at hk; cases hk
/-- The end of cut: the map's entry is another one, or gone. -/
theorem Cx.fin {C : Nat} {w W W5 : World} {p bm cm bl n m : Nat} {f : Int × Int → Option Value} {s : PN} {M : Nat → Prop} {a b : Int} {g off cap k : Nat} (HN : Nt C W p s M) (h1 : Cn W p bm cm bl n f s M) (hB : Bel w W) (hk : k < (qs s.L a b).length) (hf : f (a, b) = some (.slice (some ⟨g, off, none⟩) (qs s.L a b).length cap))
    (hch : Ch (fun i => i = p ∨ i = bl ∨ i = g) W W5) (hrow : W5.heap[p]? = some (.cells #[.slice (some ⟨bm, 0, none⟩) s.ms.length cm, .map (some bl), .int .i64 ((s.L.length : Int) - 1)] 70)) (hm : m ≤ C + 1) (r : Option Value) (hmg : Mg 86 lk W5 bl m (upd f (a, b) r))
    (hr : (r = none ∧ (qs s.L a b).eraseIdx k = []) ∨ ∃ g' off' cap', r = some (.slice (some ⟨g', off', none⟩) ((qs s.L a b).eraseIdx k).length cap') ∧ SR W5 g' off' cap' ((qs s.L a b).eraseIdx k) ∧ (qs s.L a b).eraseIdx k ≠ [] ∧ (g' = g ∨ W.heap.size ≤ g')) :
    Aft (C + 1) w p M (s.cut a b k) W5 := by
  have hl := rem_len s.L a b k hk
  have hq : qs (rem s.L a b k) a b = (qs s.L a b).eraseIdx k := qs_rem _ _ _ _
  have hV : ((f (a, b)).getD (.slice none 0 0)).ownBlock = some g := by rw [hf]; rfl
  obtain ⟨M', k1, k2, k3, k4, k5⟩ := h1.relink2 (w4 := W5) HN.ltM (a, b) (rem s.L a b k) r (hch.mono (fun i hi => or_to hi id (fun h => or_to h id (fun h => by rw [hV, h])))) (by rw [hrow, show ((rem s.L a b k).length : Int) = (s.L.length : Int) - 1 by omega]) hmg
    (fun y hy => qs_rem_ne _ _ (fun e => hy (Prod.ext e.1.symm e.2.symm)))
    (by
      show (r = none ∧ qs (rem s.L a b k) a b = []) ∨ ∃ g off cap, r = some (.slice (some ⟨g, off, none⟩) (qs (rem s.L a b k) a b).length cap) ∧ SR W5 g off cap (qs (rem s.L a b k) a b) ∧ qs (rem s.L a b k) a b ≠ [] ∧ _
      rw [hq]
      rcases hr with h' | ⟨g', off', cap', q1, q2, q3, q4⟩
      · exact Or.inl h'
      · refine Or.inr ⟨g', off', cap', q1, q2, q3, ?_⟩
        rcases q4 with q4 | q4
        · rw [hV, q4]; exact Or.inl rfl
        · exact Or.inr q4)
  refine ⟨M', ⟨⟨bm, cm, bl, m, _, k1, hm⟩, k3, HN.one, HN.few, fun x hx => ?_, by simp only [PN.cut]; have := HN.len; omega⟩, fun i hi => or_to (k2 i hi) id (fun h => Nat.le_trans hB.size h), (hB.ch M).trans k5 (fun i hi => Or.inl hi)⟩
  have : ∀ (L : List Pk) i, ∀ x ∈ rem L a b i, x ∈ L := by
    intro L
    induction L with
    | nil => intro i x hx; simp [rem] at hx
    | cons p L ih =>
      intro i x hx
      simp only [rem] at hx
      split at hx
      · cases i with
        | zero => exact List.mem_cons_of_mem _ hx
        | succ i =>
          rcases List.mem_cons.1 hx with rfl | hx
          · exact List.mem_cons_self
          · exact List.mem_cons_of_mem _ (ih i x hx)
      · rcases List.mem_cons.1 hx with rfl | hx
        · exact List.mem_cons_self
        · exact List.mem_cons_of_mem _ (ih i x hx)
  exact HN.may x (this s.L k x hx)
/-- append of what stands behind, as a step of a region that draws. -/
theorem step_app2 {ops : Array Oper} {o : Oper} {a : Act} {w : World} {K : Act → World → Prop} {Q : Exit → Act → World → Prop} {E : Prop} (hgd : o.guard = none) (s x : Operand)
    (ho : o.op = .call { callee := .builtin .append, args := #[s, x], argTypes := #[87, 87] }) (g off i c m : Nat) (ad : Option Addr) (l1 l2 : List ByteArray) (h1 : SR w g off i l1) (hi1 : l1.length = i) (hm : l2.length = m) (h2 : m ≠ 0 → ∃ o c', ad = some ⟨g, o, none⟩ ∧ SR w g o c' l2) (hl : i + m ≤ 1000000)
    (hs : a.eval s = .slice (some ⟨g, off, none⟩) i i) (hx : a.eval x = .slice ad m c)
    (h : ∀ g' off' cap' w', SR w' g' off' cap' (l1 ++ l2) → w.grownBy w' none → (g' = g ∨ w.heap.size ≤ g') → K (a.put o.dst (.slice (some ⟨g', off', none⟩) (i + m) cap')) w') :
    if Region.wanted o (yielded ops a.tmps) = true then Oper.wp Try.prog o a w K Q else E := by
  have hw : Region.wanted o (yielded ops a.tmps) = true := by simp [Region.wanted, hgd]
  rw [if_pos hw]
  obtain ⟨g', off', cap', w', hr, q1, q2, q3⟩ := run_app2 w g off i c m ad l1 l2 h1 hi1 hm h2 hl o.type
  unfold Oper.wp execOp
  simp only [ho, resolve, invoke, builtin, Sem.run_bind, Sem.run_pure, Result.andThen_ok, List.map_toArray, List.map_cons, List.map_nil, hs, hx, hr]
  exact h g' off' cap' w' q1 q2 q3
theorem bel_of_grown {w w' : World} (h : w.grownBy w' none) : Bel w w' := ⟨h.os, h.tape, h.output, h.size, fun i hi => h.block i hi (by simp)⟩
theorem er_take (q : List ByteArray) (k : Nat) (t : ByteArray) : (q.set k t).take k ++ (q.set k t).drop (k + 1) = q.eraseIdx k := by
  rw [List.eraseIdx_eq_take_drop_succ]
  congr 1
  · rw [List.take_set_of_le (Nat.le_refl _)]
  · rw [List.drop_set_of_lt (by omega)]
/-- delete, as a step of a region that draws. -/
theorem step_dele {ops : Array Oper} {o : Oper} {a : Act} {w : World} {K : Act → World → Prop} {Q : Exit → Act → World → Prop} {E : Prop} (hgd : o.guard = none) (m x : Operand)
    (ho : o.op = Op.call { callee := Callee.builtin Builtin.delete, args := #[m, x], argTypes := #[68, 86] }) (b n : Nat) (f : Int × Int → Option Value) (y : Int × Int) (h : Mg 86 lk w b n f) (hy : KeyOK 86 (lk y))
    (hm : a.eval m = .map (some b)) (hx : a.eval x = lk y)
    (hK : ∀ w', Mg 86 lk w' b n (upd f y none) → w.mapTurned w' b → K (a.put o.dst (.tuple #[])) w') :
    if Region.wanted o (yielded ops a.tmps) = true then Oper.wp Try.prog o a w K Q else E := by
  have hw : Region.wanted o (yielded ops a.tmps) = true := by simp [Region.wanted, hgd]
  rw [if_pos hw]
  obtain ⟨w', hr, h1, h2⟩ := h.dele (Keyed.of_law K86) lk_inj Try.underlying68 hy o.type
  unfold Oper.wp execOp
  simp only [ho, resolve, invoke, builtin, Sem.run_bind, Sem.run_pure, Result.andThen_ok, List.map_toArray, List.map_cons, List.map_nil, hm, hx, hr]
  exact hK w' h1 h2
set_option maxRecDepth 100000 in
set_option maxHeartbeats 1000000 in
theorem cut_yes {C : Nat} {w : World} {p : Nat} {s : PN} {M : Nat → Prop} (h : Nt C w p s M) (hC : C ≤ 900000) {a b : Int} (ha : s.may a) (hb : s.may b) {k : Nat} (hk : k < (qs s.L a b).length) : Calls Try.prog 45 #[.pointer (some ⟨p, 0, none⟩), .agg #[.int .i64 a, .int .i64 b], .int .i64 k] w fun e w' => e = .returned (.tuple #[]) ∧ Aft (C + 1) w p M (s.cut a b k) w' := by
  have hbel : Bel w (w.alloc (.cells #[.int .i64 a, .int .i64 b] 86)) := (Bel.refl w).alloc (.cells #[.int .i64 a, .int .i64 b] 86)
  have hkk := at_new w (.cells #[.int .i64 a, .int .i64 b] 86)
  have HN := hide (h.bel hbel)
  have HB := hide hbel
  generalize hW : w.alloc (.cells #[.int .i64 a, .int .i64 b] 86) = W at *
  obtain ⟨bm, cm, bl, n, f, h1, h2⟩ := (unhide HN).co
  have c1 : W.cell? ⟨p, 1, none⟩ = some (.map (some bl)) := cell_of h1.row
  have c2 : W.cell? ⟨p, 2, none⟩ = some (.int .i64 s.L.length) := cell_of h1.row
  have cf : W.frozen? ⟨p, 2, none⟩ = false := free_row h1.row
  have hLq := qs_len s.L a b
  have hLm := h.len
  obtain ⟨g, off, cap, hf, hsr⟩ := h1.there (a, b) (by show (qs s.L a b).length ≠ 0; omega)
  generalize hfl : (s.L.length : Int) = fl at *
  have hf1 : 1 ≤ fl := by omega
  have hf2 : fl ≤ 16384 := by omega
  have hfw : IntKind.i64.wrap (fl - 1) = fl - 1 := wrapI (by omega) (by omega)
  have hkey := (unhide HN).key ha hb
  have X2 := Cx.start h1 hsr hkk (fl - 1)
  have HX2 := hide X2
  have H1 := hide h1
  have HF := hide hf
  have hcapL : (qs s.L a b).length ≤ cap := by obtain ⟨_, _, _, h3, _⟩ := hsr; exact h3
  have hcapM : cap ≤ 9223372036854775807 := by obtain ⟨_, _, _, _, h3, _⟩ := hsr; unfold maxLen at h3; omega
  generalize hW2 : W.setCell ⟨p, 2, none⟩ (.int .i64 (fl - 1)) = W2 at *
  have c1q : ∀ q : BelBy W2, q.W.cell? ⟨p, 1, none⟩ = some (.map (some bl)) := fun q => cell_of (X2.at q.h).row
  have k0q : ∀ q : BelBy W2, q.W.cell? ⟨w.heap.size, 0, none⟩ = some (.int .i64 a) := fun q => cell_of (X2.at q.h).key
  have k1q : ∀ q : BelBy W2, q.W.cell? ⟨w.heap.size, 1, none⟩ = some (.int .i64 b) := fun q => cell_of (X2.at q.h).key
  have lkq : ∀ q : BelBy W2, (Instr.lookup 68 (.map (some bl)) (.agg #[.int .i64 a, .int .i64 b]) false).run Try.prog q.W = .ok (.slice (some ⟨g, off, none⟩) (qs s.L a b).length cap) q.W := fun q => by
    have := (X2.at q.h).mg.look (Keyed.of_law K86) Try.underlying68 (zero87 q.W) hkey
    rw [hf] at this
    exact this
  have hnb := BelBy.some W2
  have HKEY := hide hkey
  have Hfl := hide hfl
  have HLm := hide hLm
  have HLq := hide hLq
  generalize hN : (qs s.L a b).length = N at *
  have HNN := hide hN
  have HK := hide hk
  have hkN : (k : Int) < N := by omega
  clear X2 h1 hf hkk hsr hbel h hkey hfl hLm hLq hN ha hb
  go_enter Try.func45, Try.ntmps45
  go_wp2_with fail
  refine wp_region_bel Try.follows (by kernel_rfl) ?_
  repeat (go_big_quiet_step (fail))
  refine wpQuiet_nil ?_
  rintro w5 ⟨q, rfl⟩
  have X3 := (unhide HX2).at q.h
  generalize q.W = W3 at X3 ⊢
  have hkq : k < (qs s.L a b).length := by rw [unhide HNN]; exact hk
  have s0 : W3.cell? ⟨g, off + k, none⟩ = some (.string (qs s.L a b)[k]) := X3.sr.cell hkq
  have s1 : W3.frozen? ⟨g, off + k, none⟩ = false := by obtain ⟨_, hc, _⟩ := X3.sr; exact free_row hc
  generalize (qs s.L a b)[k] = tk at s0
  have X4 := X3.set hkq ⟨#[]⟩
  have HX4 := hide X4
  clear X3 c1q k0q k1q lkq hnb HX2 hkq
  generalize hW4 : W3.setCell ⟨g, off + k, none⟩ (.string ⟨#[]⟩) = W4 at *
  have c1 : W4.cell? ⟨p, 1, none⟩ = some (.map (some bl)) := cell_of X4.row
  have k0 : W4.cell? ⟨w.heap.size, 0, none⟩ = some (.int .i64 a) := cell_of X4.key
  have k1 : W4.cell? ⟨w.heap.size, 1, none⟩ = some (.int .i64 b) := cell_of X4.key
  have hchd : Hid (Ch (fun i => i = p ∨ i = bl ∨ i = g) W W4.drew) := hide (X4.ch.bel (Bel.refl W4).drew)
  have hXd := hide (X4.at (Bel.refl W4).drew)
  clear X4 c2 cf
  by_cases hone : N = 1
  · have hone' : (N : Int) = 1 := by omega
    go_wp2_with fail
    go_region_law (first
      | (refine step_dele rfl _ _ rfl bl n f (a, b) (unhide hXd).mg (unhide HKEY) (by simp [Act.eval]) (by simp [Act.eval, lk]) ?_; intro w5 hmg5 ht5))
    all_goals
      have HFIN := hide (Cx.fin (unhide HN) (unhide H1) (unhide HB) (k := k) (by rw [unhide HNN]; exact unhide HK) (by rw [unhide HNN]; exact unhide HF) ((unhide hchd).turned ht5 (Or.inl (Or.inr (Or.inl rfl)))) (by rw [unhide Hfl]; exact turned_row ht5 (unhide hXd).row) (by omega) none hmg5 (Or.inl ⟨rfl, by
        apply List.eq_nil_of_length_eq_zero
        rw [List.length_eraseIdx_of_lt (by rw [unhide HNN]; exact unhide HK), unhide HNN]
        omega⟩))
      clear hmg5 ht5
      go_wp2_with fail
      go_end0
      exact ⟨rfl, unhide HFIN⟩
  · by_cases hk0 : k = 0
    · have HK0 := hide hk0
      have hz : ((k : Int) == 0) = true := by simp [hk0]
      clear hk0
      have h1N : (1 : Int) < N := by omega
      have h1c : (1 : Int) < cap := by omega
      obtain ⟨w5, hU, hmg5, ht5⟩ := (unhide hXd).mg.store (Keyed.of_law K86) lk_inj Try.underlying68 (by omega) (x := (a, b)) (unhide HKEY) (.slice (some ⟨g, off + 1, none⟩) (N - 1) (cap - 1))
      have HU := hide (And.intro hmg5 ht5)
      simp only [lk] at hU
      clear hmg5 ht5
      have hone2 : ((N : Int) == 1) = false := by simp; omega
      go_wp2_with fail
      go_region
      have hqk : 0 < (qs s.L a b).length := by rw [unhide HNN]; omega
      have hle : ((qs s.L a b).eraseIdx k).length = N - 1 := by rw [List.length_eraseIdx_of_lt (by rw [unhide HNN]; exact unhide HK), unhide HNN]
      have hsr5 : SR w5 g (off + 1) (cap - 1) ((qs s.L a b).eraseIdx k) := by
        have h5 := (unhide hXd).sr.drop (k := 1) (by rw [List.length_set, unhide HNN]; omega)
        have e : ((qs s.L a b).set k ⟨#[]⟩).drop 1 = (qs s.L a b).eraseIdx k := by
          have := er_take (qs s.L a b) k ⟨#[]⟩
          rw [unhide HK0] at this ⊢
          exact this
        rw [e] at h5
        obtain ⟨c, q1, q2⟩ := h5
        exact ⟨c, turned_row (unhide HU).2 q1, q2⟩
      have HFIN := hide (Cx.fin (unhide HN) (unhide H1) (unhide HB) (k := k) (by rw [unhide HNN]; exact unhide HK) (by rw [unhide HNN]; exact unhide HF) ((unhide hchd).turned (unhide HU).2 (Or.inl (Or.inr (Or.inl rfl)))) (by rw [unhide Hfl]; exact turned_row (unhide HU).2 (unhide hXd).row) (by omega) _ (unhide HU).1 (Or.inr ⟨g, off + 1, cap - 1, by rw [hle], hsr5, fun e => by rw [e] at hle; simp at hle; omega, Or.inl rfl⟩))
      clear hsr5 hle hqk
      go_wp2_with fail
      go_end0
      exact ⟨rfl, unhide HFIN⟩
    · have hz : ((k : Int) == 0) = false := by simp; omega
      have hone2 : ((N : Int) == 1) = false := by simp; omega
      have hkw : IntKind.i64.wrap ((k : Int) + 1) = (k : Int) + 1 := wrapI (by omega) (by omega)
      have hkc : (k : Int) ≤ cap := by omega
      have hkN1 : (k : Int) + 1 ≤ N := by omega
      have hkc1 : (k : Int) + 1 ≤ cap := by omega
      have HQ : Hid (N ≤ 1000000) := hide (by have := unhide HLq; have := unhide HLm; omega)
      have h0k1 : (0 : Int) ≤ (k : Int) + 1 := by omega
      have C1d : Hid (W4.drew.cell? ⟨p, 1, none⟩ = some (.map (some bl))) := hide c1
      have K0d : Hid (W4.drew.cell? ⟨w.heap.size, 0, none⟩ = some (.int .i64 a)) := hide k0
      have K1d : Hid (W4.drew.cell? ⟨w.heap.size, 1, none⟩ = some (.int .i64 b)) := hide k1
      have A1 := hide ((unhide hXd).sr.take (k := k) (by rw [List.length_set, unhide HNN]; omega))
      have A2 : Hid ((((qs s.L a b).set k ⟨#[]⟩).take k).length = k) := hide (by rw [List.length_take, List.length_set, unhide HNN]; omega)
      have A3 : Hid ((((qs s.L a b).set k ⟨#[]⟩).drop (k + 1)).length = N - (k + 1)) := hide (by rw [List.length_drop, List.length_set, unhide HNN])
      have A4 : Hid (N - (k + 1) ≠ 0 → ∃ o c', (if cap = k + 1 then (some ⟨g, off, none⟩ : Option Addr) else some ⟨g, off + (k + 1), none⟩) = some ⟨g, o, none⟩ ∧ SR W4.drew g o c' (((qs s.L a b).set k ⟨#[]⟩).drop (k + 1))) := hide (fun hne => ⟨off + (k + 1), cap - (k + 1), if_neg (by omega), (unhide hXd).sr.drop (by rw [List.length_set, unhide HNN]; omega)⟩)
      have A5 : Hid (k + (N - (k + 1)) ≤ 1000000) := hide (by have := unhide HQ; omega)
      have HST : Hid (∀ w' v, W4.drew.grownBy w' none → ∃ w6, (Instr.mapUpdate 68 (.map (some bl)) (.agg #[.int .i64 a, .int .i64 b]) v).run Try.prog w' = .ok () w6 ∧ Mg 86 lk w6 bl (n + 1) (upd f (a, b) (some v)) ∧ w'.mapTurned w6 bl) := hide (fun w' v hg => ((unhide hXd).mg.at (hg.block bl (unhide hXd).mg.lt (by simp))).store (Keyed.of_law K86) lk_inj Try.underlying68 (by omega) (x := (a, b)) (unhide HKEY) v)
      go_wp2_with fail
      go_region_law (first
        | (refine step_app2 rfl _ _ rfl g off k (cap - (k + 1)) (N - (k + 1)) _ _ _ (unhide A1) (unhide A2) (unhide A3) (unhide A4) (unhide A5) (by simp [Act.eval, Act.put]) (by simp [Act.eval, Act.put]) ?_; intro g' off' cap' w' hs5 hg5 hat5; obtain ⟨w6, hU, hmg6, ht6⟩ := (unhide HST) w' (.slice (some ⟨g', off', none⟩) (k + (N - (k + 1))) cap') hg5; have c1w := (bel_of_grown hg5).cell (unhide C1d); have k0w := (bel_of_grown hg5).cell (unhide K0d); have k1w := (bel_of_grown hg5).cell (unhide K1d)))
      all_goals
        rw [er_take] at hs5
        have hle : ((qs s.L a b).eraseIdx k).length = N - 1 := by rw [List.length_eraseIdx_of_lt (by rw [unhide HNN]; exact unhide HK), unhide HNN]
        have hsr6 : SR w6 g' off' cap' ((qs s.L a b).eraseIdx k) := by
          obtain ⟨c, q1, q2⟩ := hs5
          exact ⟨c, turned_row ht6 q1, q2⟩
        have hch6 : Ch (fun i => i = p ∨ i = bl ∨ i = g) W w6 := ((unhide hchd).grown hg5 (fun i hi => by cases hi)).turned ht6 (Or.inl (Or.inr (Or.inl rfl)))
        have hrw6 := turned_row ht6 ((hg5.block p (lt_of_some (unhide hXd).row) (by simp)).trans (unhide hXd).row)
        have hlc : W.heap.size ≤ W4.drew.heap.size := (unhide hchd).size
        have HFIN := hide (Cx.fin (unhide HN) (unhide H1) (unhide HB) (k := k) (by rw [unhide HNN]; exact unhide HK) (by rw [unhide HNN]; exact unhide HF) hch6 (by rw [unhide Hfl]; exact hrw6) (by omega) _ hmg6 (Or.inr ⟨g', off', cap', by rw [hle, show k + (N - (k + 1)) = N - 1 by omega], hsr6, fun e => by rw [e] at hle; simp at hle; omega, or_to hat5 id (fun h => Nat.le_trans hlc h)⟩))
        clear hsr6 hle hs5 hch6 hrw6 hlc hmg6 ht6 hat5 hU A4
        generalize (if cap = k + 1 then (some ⟨g, off, none⟩ : Option Addr) else some ⟨g, off + (k + 1), none⟩) = adx
        go_wp2_with fail
        go_end0
        exact ⟨rfl, unhide HFIN⟩
end Go.Proofs.Ytbcgikkdhfbphaa
