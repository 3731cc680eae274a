/- Structs in boxes: made, read whole, written whole or a field, handed back. -/
import Derived.Test.YtgofdkheffoilaaGreatClo
import Derived.Laws.Tables
import Derived.Laws.CopyRow
namespace Go.Proofs.YtgofdkheffoilaaGreat
open Go.RowKit Go.Maps
section
variable {ops : Array Oper} {rest : List Oper} {o : Oper} {a : Act} {Q : Exit → Act → World → Prop} {W : World}
theorem bx_box (hgd : o.guard = none) (t : TypeId) (x : Operand) (ho : o.op = .box t x) (cs : Array Value) (hx : a.eval x = .agg cs)
    (hK : ∀ b w', w'.heap[b]? = some (.cells cs t) → W.heap.size = b → Bel W w' → wpList Tryz.prog ops Q rest (a.put o.dst (.pointer (some ⟨b, 0, none⟩))) w') : wpList Tryz.prog ops Q (o :: rest) a W := by
  refine wpList_plain hgd fun K hK' => ?_
  unfold Oper.wp execOp
  simp only [ho, hx]
  simp [go_sem, Instr.box, newVar, Value.cells]
  exact hK' _ _ (hK _ _ (at_new W _) rfl ((Bel.refl W).alloc _))
theorem bx_new (hgd : o.guard = none) (t : TypeId) (ho : o.op = .alloc t) (cs : Array Value) (hz : ∀ w, (zeroValue t).run Tryz.prog w = .ok (.agg cs) w)
    (hK : ∀ b w', w'.heap[b]? = some (.cells cs t) → W.heap.size = b → Bel W w' → wpList Tryz.prog ops Q rest (a.put o.dst (.pointer (some ⟨b, 0, none⟩))) w') : wpList Tryz.prog ops Q (o :: rest) a W := by
  refine wpList_plain hgd fun K hK' => ?_
  unfold Oper.wp execOp
  simp only [ho]
  simp [go_sem, Instr.alloc, newVar, Value.cells, hz]
  exact hK' _ _ (hK _ _ (at_new W _) rfl ((Bel.refl W).alloc _))
theorem bx_ld (hgd : o.guard = none) (t : TypeId) (x : Operand) (ho : o.op = .load t x) (b : Nat) (hx : a.eval x = .pointer (some ⟨b, 0, none⟩)) (cs : Array Value) (fs : Array Field) (hg : W.heap[b]? = some (.cells cs t)) (hu : Tryz.prog.underlying t = some (.struct fs)) (hi : (Tryz.prog.info? t).map (·.size) = some cs.size)
    (h : wpList Tryz.prog ops Q rest (a.put o.dst (.agg cs)) W) : wpList Tryz.prog ops Q (o :: rest) a W := wpList_load_row hgd t x ho b hx t cs (0, 0) _ hg hu rfl hi h
theorem ch_row {W : World} {b : Nat} {c c' : Array Value} {t : TypeId} (h : W.heap[b]? = some (.cells c t)) : (W.setRow b c').heap[b]? = some (.cells c' t) ∧ Ch (fun k => k = b) W (W.setRow b c') := by
  refine ⟨setRow_heap W b c c' t (0, 0) h, rfl, rfl, rfl, ?_, fun k _ hk => ?_⟩
  · simp [World.setRow]
  · simp only [World.setRow]
    rw [Array.getElem?_modify, if_neg (fun e => hk e.symm)]
theorem bx_st (hgd : o.guard = none) (t : TypeId) (x y : Operand) (ho : o.op = .store t x y) (b : Nat) (cs old : Array Value) (hx : a.eval x = .pointer (some ⟨b, 0, none⟩)) (hy : a.eval y = .agg cs) (hg : W.heap[b]? = some (.cells old t)) (hi : (Tryz.prog.info? t).map (·.size) = some cs.size) (hold : old.size = cs.size) (h1 : cs.all (·.oneCell') = true)
    (hK : ∀ w', w'.heap[b]? = some (.cells cs t) → Ch (fun k => k = b) W w' → wpList Tryz.prog ops Q rest (a.put o.dst undef) w') : wpList Tryz.prog ops Q (o :: rest) a W :=
  wpList_store_row hgd t x y ho b cs hx hy t old hg hi hold h1 (hK _ (ch_row hg).1 (ch_row hg).2)
theorem bx_set (hgd : o.guard = none) (t : TypeId) (x y : Operand) (ho : o.op = .store t x y) (b i : Nat) (v : Value) (hx : a.eval x = .pointer (some ⟨b, i, none⟩)) (hy : a.eval y = v) (hv : v.cells = #[v]) (hv1 : v.oneCell' = true) (cs : Array Value) (ty : TypeId) (hg : W.heap[b]? = some (.cells cs ty)) (hi : (Tryz.prog.info? t).map (·.size) = some 1) (hlt : i < cs.size)
    (hK : ∀ w', w'.heap[b]? = some (.cells (cs.setIfInBounds i v) ty) → Ch (fun k => k = b) W w' → wpList Tryz.prog ops Q rest (a.put o.dst undef) w') : wpList Tryz.prog ops Q (o :: rest) a W := by
  refine wpList_plain hgd fun K hK' => ?_
  have hrun := run_storeCells_at (P := Tryz.prog) b i ty [v] 0 cs W hg (by simp; omega) (fun u hu => by simp at hu; rw [hu]; exact hv1)
  have e : (cs.toList.take (i + 0) ++ [v] ++ cs.toList.drop (i + 0 + [v].length)).toArray = cs.setIfInBounds i v := by
    apply Array.ext'
    simp only [Array.toList_setIfInBounds, Nat.add_zero, List.length_cons, List.length_nil, Nat.zero_add]
    rw [List.set_eq_take_append_cons_drop, if_pos (by simpa using hlt)]
    simp
  rw [e] at hrun
  unfold Oper.wp execOp
  cases hq : Tryz.prog.info? t with
  | none => rw [hq] at hi; simp at hi
  | some j =>
    have hs : j.size = 1 := by rw [hq] at hi; simpa using hi
    have hrun2 : (storeVar t ⟨b, i, none⟩ v).run Tryz.prog W = .ok () (W.setRow b (cs.setIfInBounds i v)) := by
      simp [storeVar, sizeOf, typeInfo, hq, hv, hs, hrun]
    simp only [ho, hx, hy, Instr.storeAt, Instr.sureAddr, Sem.run_bind, Sem.run_pure, Result.andThen_ok, hrun2]
    exact hK' _ _ (hK _ (ch_row hg).1 (ch_row hg).2)
end
theorem res1 {fn : Func} {p : Tmp} {t : TypeId} (hr : fn.results = #[.cell p t]) {W : World} {B : Nat} {cs : Array Value} {fs : Array Field} (hu : Tryz.prog.underlying t = some (.struct fs)) (hs : (Tryz.prog.info? t).map (·.size) = some cs.size) (hg : W.heap[B]? = some (.cells cs t)) (tmps : Array Value) (hp : tmps.getD p undef = .pointer (some ⟨B, 0, none⟩)) : (results fn tmps).run Tryz.prog W = .ok (.agg cs) W := by
  have hp' : tmps[p]?.getD undef = .pointer (some ⟨B, 0, none⟩) := by simpa using hp
  simp [results, hr, hp', asAddr, run_loadVar_row W B t t cs (0, 0) _ hg hu rfl hs]
theorem res2 {fn : Func} {p q : Tmp} {t : TypeId} (hr : fn.results = #[.cell p t, .tmp q]) {W : World} {B : Nat} {cs : Array Value} {fs : Array Field} (hu : Tryz.prog.underlying t = some (.struct fs)) (hs : (Tryz.prog.info? t).map (·.size) = some cs.size) (hg : W.heap[B]? = some (.cells cs t)) (tmps : Array Value) (x : Value) (hp : tmps.getD p undef = .pointer (some ⟨B, 0, none⟩)) (hx : tmps.getD q undef = x) : (results fn tmps).run Tryz.prog W = .ok (.tuple #[.agg cs, x]) W := by
  have hp' : tmps[p]?.getD undef = .pointer (some ⟨B, 0, none⟩) := by simpa using hp
  have hx' : tmps[q]?.getD undef = x := by simpa using hx
  simp [results, hr, hp', hx', asAddr, run_loadVar_row W B t t cs (0, 0) _ hg hu rfl hs]
theorem res3 {fn : Func} {p q r : Tmp} {t : TypeId} (hr : fn.results = #[.cell p t, .tmp q, .tmp r]) {W : World} {B : Nat} {cs : Array Value} {fs : Array Field} (hu : Tryz.prog.underlying t = some (.struct fs)) (hs : (Tryz.prog.info? t).map (·.size) = some cs.size) (hg : W.heap[B]? = some (.cells cs t)) (tmps : Array Value) (x y : Value) (hp : tmps.getD p undef = .pointer (some ⟨B, 0, none⟩)) (hx : tmps.getD q undef = x) (hy : tmps.getD r undef = y) : (results fn tmps).run Tryz.prog W = .ok (.tuple #[.agg cs, x, y]) W := by
  have hp' : tmps[p]?.getD undef = .pointer (some ⟨B, 0, none⟩) := by simpa using hp
  have hx' : tmps[q]?.getD undef = x := by simpa using hx
  have hy' : tmps[r]?.getD undef = y := by simpa using hy
  simp [results, hr, hp', hx', hy', asAddr, run_loadVar_row W B t t cs (0, 0) _ hg hu rfl hs]
/-! ### members in boxes -/
theorem bel_off {w w2 w3 : World} {B : Nat} (h : Bel w w2) (hc : Ch (fun i => i = B) w2 w3) (hB : w.heap.size ≤ B) : Bel w w3 := ((h.ch (fun i => w.heap.size ≤ i)).trans hc (fun i hi => by rw [hi]; exact Or.inl hB)).below (Nat.le_refl _) (fun i hi => hi)
theorem pc_size (n : Nat) (s : PP) (x : Px) : (pc n s x).size = 18 := rfl
theorem pc_one (n : Nat) (s : PP) (x : Px) : (pc n s x).all (·.oneCell') = true := by simp [pc, Value.oneCell']
theorem Tryz.size32 (n : Nat) (s : PP) (x : Px) : (Tryz.prog.info? 45).map (·.size) = some (pc n s x).size := by rw [pc_size]; kernel_rfl
/-- Block b holds this member. -/
structure Bx (W : World) (b n : Nat) (s : PP) (x : Px) : Prop where
  c0 : W.cell? ⟨b, 0, none⟩ = some (.int .i64 s.id)
  c1 : W.cell? ⟨b, 1, none⟩ = some (.slice x.aM n x.cM)
  c2 : W.cell? ⟨b, 2, none⟩ = some (.int .u64 s.term)
  c3 : W.cell? ⟨b, 3, none⟩ = some (.int .i64 s.vote)
  c4 : W.cell? ⟨b, 4, none⟩ = some (.int .u8 s.role)
  c5 : W.cell? ⟨b, 5, none⟩ = some (.int .i64 s.lead)
  c6 : W.cell? ⟨b, 6, none⟩ = some (.int .u64 0)
  c7 : W.cell? ⟨b, 7, none⟩ = some (.int .u64 0)
  c8 : W.cell? ⟨b, 8, none⟩ = some (.slice x.aB n x.cB)
  c9 : W.cell? ⟨b, 9, none⟩ = some (.string ⟨#[]⟩)
  c10 : W.cell? ⟨b, 10, none⟩ = some (.slice x.aL s.log.length x.cL)
  c11 : W.cell? ⟨b, 11, none⟩ = some (.int .u64 s.commit)
  c12 : W.cell? ⟨b, 12, none⟩ = some (.int .i64 s.idle)
  c13 : W.cell? ⟨b, 13, none⟩ = some (.int .i64 s.wait)
  c14 : W.cell? ⟨b, 14, none⟩ = some (.slice x.aV s.votes.length x.cV)
  c15 : W.cell? ⟨b, 15, none⟩ = some (.slice x.aF s.fol.length x.cF)
  c16 : W.cell? ⟨b, 16, none⟩ = some (.int .u64 0)
  c17 : W.cell? ⟨b, 17, none⟩ = some (.slice x.aR 0 x.cR)
theorem Bx.of {W : World} {b n : Nat} {s : PP} {x : Px} (h : W.heap[b]? = some (.cells (pc n s x) 45)) : Bx W b n s x :=
  ⟨(cell_of h).trans rfl, (cell_of h).trans rfl, (cell_of h).trans rfl, (cell_of h).trans rfl, (cell_of h).trans rfl, (cell_of h).trans rfl, (cell_of h).trans rfl, (cell_of h).trans rfl, (cell_of h).trans rfl, (cell_of h).trans rfl, (cell_of h).trans rfl, (cell_of h).trans rfl, (cell_of h).trans rfl, (cell_of h).trans rfl, (cell_of h).trans rfl, (cell_of h).trans rfl, (cell_of h).trans rfl, (cell_of h).trans rfl⟩
end Go.Proofs.YtgofdkheffoilaaGreat
