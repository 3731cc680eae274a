/- Operations of regions that draw their order, one by one. -/
import Derived.Test.YthipgcojbhcdgaaVsp
namespace Go.Proofs.Ythipgcojbhcdgaa
open Go.RowKit Go.Maps Go.Sort
section
variable {o : Oper} {a : Act} {w : World}
set_option maxRecDepth 100000 in
theorem ix25_run (x y : Operand) (ho : o.op = .indexAddr 25 x y) (g q j c : Nat) (hx : a.eval x = .slice (some ⟨g, 0, none⟩) j c) (hy : a.eval y = .int .i64 (q : Int)) (hq : q < j) : (execOp a.eval o).run Try.prog w = .ok (.value (.pointer (some ⟨g, q * 18, none⟩))) w := by
  have hq' : (q : Int) < j := by omega
  unfold execOp
  simp only [ho, hx, hy]
  go_simp
set_option maxRecDepth 100000 in
theorem fa32_run (x : Operand) (ho : o.op = .fieldAddr 32 x 2) (g i : Nat) (hx : a.eval x = .pointer (some ⟨g, i, none⟩)) : (execOp a.eval o).run Try.prog w = .ok (.value (.pointer (some ⟨g, i + 2, none⟩))) w := by
  unfold execOp
  simp only [ho, hx]
  go_simp
set_option maxRecDepth 100000 in
theorem ld26_run (x : Operand) (ho : o.op = .load 26 x) (g i : Nat) (hx : a.eval x = .pointer (some ⟨g, i, none⟩)) (t : Int) (hc : w.cell? ⟨g, i, none⟩ = some (.int .u64 t)) : (execOp a.eval o).run Try.prog w = .ok (.value (.int .u64 t)) w := by
  unfold execOp
  simp only [ho, hx]
  go_simp
set_option maxRecDepth 100000 in
theorem and1_run (x : Operand) (ho : o.op = .binOp .and 3 x (.const (.int .i64 1)) 3) (m e : Int) (hx : a.eval x = .int .i64 m) (he : bits .and .i64 m 1 = e) : (execOp a.eval o).run Try.prog w = .ok (.value (.int .i64 e)) w := by
  unfold execOp
  simp only [ho, hx]
  go_simp
set_option maxRecDepth 100000 in
theorem cv_run (x : Operand) (ho : o.op = .convert 3 26 x) (e : Int) (hx : a.eval x = .int .i64 e) (h0 : 0 ≤ e) (h1 : e < 18446744073709551616) : (execOp a.eval o).run Try.prog w = .ok (.value (.int .u64 e)) w := by
  have hw := wrapU h0 h1
  unfold execOp
  simp only [ho, hx]
  go_simp
set_option maxRecDepth 100000 in
theorem ad26_run (x y : Operand) (ho : o.op = .binOp .add 26 x y 26) (s e : Int) (hx : a.eval x = .int .u64 s) (hy : a.eval y = .int .u64 e) (h0 : 0 ≤ s + e) (h1 : s + e < 18446744073709551616) : (execOp a.eval o).run Try.prog w = .ok (.value (.int .u64 (s + e))) w := by
  have hw := wrapU h0 h1
  unfold execOp
  simp only [ho, hx, hy]
  go_simp
set_option maxRecDepth 100000 in
theorem ad3_run (x : Operand) (ho : o.op = .binOp .add 3 x (.const (.int .i64 1)) 3) (r : Nat) (hx : a.eval x = .int .i64 (r : Int)) (hr : r < 1000000) : (execOp a.eval o).run Try.prog w = .ok (.value (.int .i64 ((r + 1 : Nat) : Int))) w := by
  have hw := wrapI (n := (r : Int) + 1) (by omega) (by omega)
  unfold execOp
  simp only [ho, hx]
  go_simp
theorem ldm_run (x : Operand) (ho : o.op = .load 44 x) (b : Nat) (hx : a.eval x = .pointer (some ⟨b, 0, none⟩)) (m : PM) (hg : w.heap[b]? = some (.cells (mc m) 44)) : (execOp a.eval o).run Try.prog w = .ok (.value (.agg (mc m))) w := by
  unfold execOp
  simp only [ho, hx, Instr.loadAt, Instr.sureAddr, Sem.run_bind, Sem.run_pure, Result.andThen_ok, run_loadVar_row w b 44 44 _ (0, 0) _ hg Try.underlying44 rfl (Try.size44 m)]
/-- append of messages. -/
theorem elm_app_run {base : Nat} {v : Value} {way N : List PM} (h : E44.O base w v way) (hbase : base ≤ w.heap.size) (ad : Option Addr) (n cap : Nat) (hN : Sl E44 w ad N) (hn : N.length = n) (hb : way.length + N.length ≤ 100000000000) (x y : Operand) (ho : o.op = .call { callee := .builtin .append, args := #[x, y], argTypes := #[37, 37] }) (hs : a.eval x = v) (hy : a.eval y = .slice ad n cap) : ∃ v' w', (execOp a.eval o).run Try.prog w = .ok (.value v') w' ∧ E44.O base w' v' (way ++ N) ∧ w.grownBy w' v.ownBlock ∧ (∀ k, v'.ownBlock = some k → v.ownBlock = some k ∨ k = w.heap.size) := by
  subst hn
  obtain ⟨g, off, ha, hR⟩ := hN
  obtain ⟨v', w', hrun, r1, r2, r3⟩ := El.run_app (E := E44) w base v way N h hbase ad g off cap ha hR hb o.type
  refine ⟨v', w', ?_, r1, r2, r3⟩
  have hrun' : (Builtin.append_ #[37, 37] o.type #[v, .slice ad N.length cap]).run Try.prog w = .ok v' w' := hrun
  unfold execOp
  simp only [ho, resolve, invoke, builtin, Sem.run_bind, Sem.run_pure, Result.andThen_ok, List.map_toArray, List.map_cons, List.map_nil, hs, hy, hrun']
/-- What stands ahead of one message, and behind it. -/
theorem E44_parts {base gW cW : Nat} {way : List PM} (h : E44.O base w (.slice (some ⟨gW, 0, none⟩) way.length cW) way) (r : Nat) (hr : r < way.length) : Sl E44 w (some ⟨gW, 0, none⟩) (way.take r) ∧ Sl E44 w (if cW = r + 1 then some ⟨gW, 0, none⟩ else some ⟨gW, (r + 1) * 12, none⟩) (way.drop (r + 1)) ∧ way.length ≤ cW := by
  have hc := (Sl.of h).2.2
  refine ⟨⟨gW, 0, fun _ => rfl, h.row.take r⟩, ?_, hc⟩
  by_cases e : cW = r + 1
  · rw [List.drop_of_length_le (by omega)]
    exact Sl.nil _ _ _
  · rw [if_neg e]
    refine ⟨gW, (r + 1) * 12, fun _ => rfl, ?_⟩
    have := h.row.drop (r + 1)
    rw [Nat.zero_add] at this
    exact this
set_option maxRecDepth 100000 in
theorem sl_lo_run (x y : Operand) (ho : o.op = .slice 37 x none (some y) none) (g m c r : Nat) (hx : a.eval x = .slice (some ⟨g, 0, none⟩) m c) (hy : a.eval y = .int .i64 (r : Int)) (hr : r ≤ c) : (execOp a.eval o).run Try.prog w = .ok (.value (.slice (some ⟨g, 0, none⟩) r c)) w := by
  have hr' : (r : Int) ≤ c := by omega
  unfold execOp
  simp only [ho, hx, Option.map_some, Option.map_none, hy]
  go_simp
set_option maxRecDepth 100000 in
theorem sl_hi_run (x y : Operand) (ho : o.op = .slice 37 x (some y) none none) (g m c r : Nat) (hx : a.eval x = .slice (some ⟨g, 0, none⟩) m c) (hy : a.eval y = .int .i64 (r : Int)) (hr : r ≤ m) (hm : m ≤ c) : (execOp a.eval o).run Try.prog w = .ok (.value (.slice (if c = r then some ⟨g, 0, none⟩ else some ⟨g, r * 12, none⟩) (m - r) (c - r))) w := by
  have hr' : (r : Int) ≤ m := by omega
  have hm' : (m : Int) ≤ c := by omega
  have hrc : (r : Int) ≤ c := by omega
  unfold execOp
  simp only [ho, hx, Option.map_some, Option.map_none, hy]
  go_simp
end
section
variable {ops : Array Oper} {Q : Exit → Act → World → Prop} {md : Region.Mode} {S : World → Prop} {i j : Nat} {o o' : Oper} {fuel : Nat} {listed : Array Bool} {a : Act} {w : World}
/-- Either of two reads may come up. -/
theorem any_twoV {vi vj : Value} (hr : Region.ready md ops listed = [i, j]) (hi : ops[i]? = some o) (hj : ops[j]? = some o') (hwi : Region.wanted o (yielded ops a.tmps) = true) (hwj : Region.wanted o' (yielded ops a.tmps) = true) (hi2 : (execOp a.eval o).run Try.prog w = .ok (.value vi) w) (hj2 : (execOp a.eval o').run Try.prog w = .ok (.value vj) w)
    (hKi : S w ∧ wpAnyH Try.prog md ops Q S fuel (listed.setIfInBounds i true) (a.put o.dst vi) w) (hKj : S w ∧ wpAnyH Try.prog md ops Q S fuel (listed.setIfInBounds j true) (a.put o'.dst vj) w) : wpAnyH Try.prog md ops Q S (fuel + 1) listed a w := by
  refine wpAnyH_all hr (by simp) (fun k hk => ?_)
  rcases List.mem_cons.1 hk with rfl | hk
  · unfold wpOp
    simp only [hi, hwi, if_true, Oper.wp, hi2, Oper.upon_value]
    exact .inl hKi
  · rw [List.mem_singleton.1 hk]
    unfold wpOp
    simp only [hj, hwj, if_true, Oper.wp, hj2, Oper.upon_value]
    exact .inl hKj
end
section
variable {W w : World} {n k gP cP bM : Nat} {vW : Value} {L : List (PP × Px)} {way : List PM} {ld : Int → Int} {V : Int → Int → Int}
/-- A message that was under way, and is taken off it by now. -/
theorem take_st2 (h : Vs W n k gP cP bM vW L way ld V w) (hn : n ≤ 64) (hk : k ≤ 200) {q : Nat} (hq : q < L.length) {s0 : PP} {z0 : Px} (e : L[q] = (s0, z0)) {m : PM} (hmo : MOk n k k m) (htl : m.kind = 2 → m.ok = true → V m.frm m.term = m.to) (hto : m.to = s0.id) : Calls Try.prog 8 #[.agg (pc n s0 z0), .agg (mc m)] w fun e w' => ∃ s1 x1 aO mO cO out, e = .returned (.tuple #[.agg (pc n s1 x1), .slice aO mO cO, .int .i64 0]) ∧ Std n k V s0 w s1 x1 (.slice aO mO cO) out w' := by
  have hok := (h.ok q hq).1
  have hld := h.led hq
  have hpf := h.pf _ (List.getElem_mem hq)
  rw [e] at hok hld hpf
  have hN := take_nxt hok hmo hto hld.1 hld.2 (fun h1 h2 => by rw [htl h1 h2, hto])
  refine (take_any hpf.pq hok hmo hto hn (by omega) (by omega)).mono (fun _ _ ⟨x1, aA, cA, he, hp, ho, hb⟩ => ⟨_, x1, aA, _, cA, _, he, ⟨hN.ok.mono (Nat.le_succ _) (Nat.le_refl _), hN.id, hN.up, hN.keep, fun x hx => (hN.snt x hx).mono (Nat.le_succ _) (Nat.le_refl _), hN.told, hN.cnd, hN.led⟩, hp, ho, ?_, hb⟩)
  exact Nat.le_trans (take_len _ _ _) (by decide)
end
end Go.Proofs.Ythipgcojbhcdgaa
