/- What a step of a member makes of it: the three calls in one form. -/
import Derived.Test.YthipgcojbhcdgaaVst
namespace Go.Proofs.Ythipgcojbhcdgaa
open Go.RowKit Go.Maps Go.Sort
/-- What a call has made of a member, and what it sends. -/
structure Std (n k : Nat) (V : Int → Int → Int) (s0 : PP) (W : World) (s1 : PP) (x1 : Px) (vO : Value) (out : List PM) (w' : World) : Prop where
  nxt : Nxt n (k + 1) (k + 1) V s0 s1 out
  pf : Pf W.heap.size w' n s1 x1
  oo : E44.O W.heap.size w' vO out
  ol : out.length ≤ 64
  bel : Bel W w'
theorem oth_len (n : Nat) (i : Int) : (oth n i).length ≤ n := Nat.le_trans (List.length_filter_le _ _) (by rw [mem_len]; exact Nat.le_refl _)
theorem tick_len (n : Nat) (s : PP) (d : Int) : (s.tick n d).2.length ≤ n := by
  unfold PP.tick
  split
  · exact Nat.zero_le _
  · split
    · exact Nat.zero_le _
    · show ((oth n _).map _).length ≤ n
      rw [List.length_map]
      exact oth_len n _
theorem take_len (n : Nat) (s : PP) (m : PM) : (s.take n m).2.length ≤ 1 := by
  unfold PP.take
  generalize (if s.term < m.term then s.down m.term else s) = u
  unfold PP.take1
  split
  · split <;> exact Nat.le_refl _
  · split <;> exact Nat.zero_le _
section
variable {W w : World} {n k gP cP bM : Nat} {vW : Value} {L : List (PP × Px)} {way : List PM} {ld : Int → Int} {V : Int → Int → Int}
theorem Vs.led (h : Vs W n k gP cP bM vW L way ld V w) {q : Nat} (hq : q < L.length) : (L[q].1.role = 2 → Won n V L[q].1.term L[q].1.id) ∧ (L[q].1.role = 1 → ∀ x ∈ L[q].1.votes, V x L[q].1.term = L[q].1.id) := by
  have hq' : q < (L.map (·.1)).length := by simpa using hq
  have hg : (L.map (·.1))[q] = L[q].1 := by simp
  have h1 := h.inv.led q hq'
  have h2 := h.inv.cnd q hq'
  rw [hg] at h1 h2
  rw [(h.ok q hq).2]
  exact ⟨h1, h2⟩
theorem tick_st (h : Vs W n k gP cP bM vW L way ld V w) (hn : n ≤ 64) (hk : k ≤ 200) {q : Nat} (hq : q < L.length) {s0 : PP} {z0 : Px} (e : L[q] = (s0, z0)) (d : Int) (hd : 0 ≤ d) : Calls Try.prog 7 #[.agg (pc n s0 z0), .int .i64 d] w fun e w' => ∃ s1 x1 aO mO cO out, e = .returned (.tuple #[.agg (pc n s1 x1), .slice aO mO cO, .int .i64 0]) ∧ Std n k V s0 w s1 x1 (.slice aO mO cO) out w' := by
  have hok := (h.ok q hq).1
  have hld := h.led hq
  have hpf := h.pf _ (List.getElem_mem hq)
  rw [e] at hok hld hpf
  refine (tick_any hpf.pq hok hn (by omega) (by omega) d hd).mono (fun _ _ ⟨x1, aA, cA, he, hp, ho, hb⟩ => ⟨_, x1, aA, _, cA, _, he, ?_, hp, ho, ?_, hb⟩)
  · exact tick_nxt hok d hld.1 hld.2
  · exact Nat.le_trans (tick_len _ _ _) hn
theorem take_st (h : Vs W n k gP cP bM vW L way ld V w) (hn : n ≤ 64) (hk : k ≤ 200) {q : Nat} (hq : q < L.length) {s0 : PP} {z0 : Px} (e : L[q] = (s0, z0)) {m : PM} (hm : m ∈ way) (hto : m.to = s0.id) : Calls Try.prog 8 #[.agg (pc n s0 z0), .agg (mc m)] w fun e w' => ∃ s1 x1 aO mO cO out, e = .returned (.tuple #[.agg (pc n s1 x1), .slice aO mO cO, .int .i64 0]) ∧ Std n k V s0 w s1 x1 (.slice aO mO cO) out w' := by
  have hok := (h.ok q hq).1
  have hld := h.led hq
  have hpf := h.pf _ (List.getElem_mem hq)
  rw [e] at hok hld hpf
  have hmo := h.inv.msg m hm
  have hN := take_nxt hok hmo hto hld.1 hld.2 (fun h1 h2 => by rw [h.inv.told m hm h1 h2, hto])
  refine (take_any hpf.pq hok hmo hto hn (by omega) (by omega)).mono (fun _ _ ⟨x1, aA, cA, he, hp, ho, hb⟩ => ⟨_, x1, aA, _, cA, _, he, ⟨hN.ok.mono (Nat.le_succ _) (Nat.le_refl _), hN.id, hN.up, hN.keep, fun x hx => (hN.snt x hx).mono (Nat.le_succ _) (Nat.le_refl _), hN.told, hN.cnd, hN.led⟩, hp, ho, ?_, hb⟩)
  exact Nat.le_trans (take_len _ _ _) (by decide)
theorem down_st (h : Vs W n k gP cP bM vW L way ld V w) (hn : n ≤ 64) (hk : k ≤ 200) {q : Nat} (hq : q < L.length) {s0 : PP} {z0 : Px} (e : L[q] = (s0, z0)) (t : Int) (ht : t ≤ s0.term + 1) : Calls Try.prog 9 #[.agg (pc n s0 z0), .int .u64 t] w fun e w' => ∃ s1 x1, e = .returned (.tuple #[.agg (pc n s1 x1), .int .i64 0]) ∧ Std n k V s0 w s1 x1 (.slice none 0 0) [] w' := by
  have hok := (h.ok q hq).1
  have hpf := h.pf _ (List.getElem_mem hq)
  rw [e] at hok hpf
  have h1 : s0.term ≤ k := hok.tT
  refine (down_any hpf.pq hok hn (by omega) (by omega) t (by omega)).mono (fun _ _ ⟨x1, he, hp, hb⟩ => ⟨_, x1, he, ?_, hp, El.O.nil _ _, Nat.zero_le _, hb⟩)
  exact down_nxt (hok.mono (Nat.le_succ _) (Nat.le_succ _)) (Or.inr (by omega))
end
/-- How it stands where the ways through the switch meet. -/
structure Vx (W : World) (n k gP cP bM b q : Nat) (vW : Value) (L : List (PP × Px)) (way : List PM) (ld : Int → Int) (V : Int → Int → Int) (vO : Value) (out : List PM) (s0 : PP) (z0 : Px) (w : World) : Prop where
  vm : Vm W n k gP cP bM vW L way ld V vO out w
  hq : q < L.length
  up : s0.term ≤ L[q].1.term
  keep : L[q].1.term = s0.term → s0.vote ≠ 0 → L[q].1.vote = s0.vote
  row : w.heap[b]? = some (.cells (pc n s0 z0) 32)
theorem Vx.mk0 {W w w1 w2 : World} {n k gP cP bM b q : Nat} {vW vO : Value} {L : List (PP × Px)} {way : List PM} {ld : Int → Int} {V : Int → Int → Int} {s0 s1 : PP} {z0 x1 : Px} {out : List PM} (h : Vs W n k gP cP bM vW L way ld V w) (hq : q < L.length) (e : L[q] = (s0, z0)) (hs : Std n k V s0 w s1 x1 vO out w1) (ho : (E32 n).O W.heap.size w2 (.slice (some ⟨gP, 0, none⟩) n cP) (L.set q (s1, x1))) (hc : Ch (fun j => j = gP) w1 w2) (hb : w.heap[b]? = some (.cells (pc n s0 z0) 32)) (hne : b ≠ gP) : ∃ V', Vx W n k gP cP bM b q vW (L.set q (s1, x1)) way ld V' vO out s0 z0 w2 := by
  have hN := hs.nxt
  have e1 : L[q].1 = s0 := by rw [e]
  refine ⟨_, h.put hs.bel hq hs.pf ho hc hs.oo hs.ol (by rw [e1]; exact hN), by simpa using hq, ?_, ?_, hc.row (hs.bel.row hb) hne⟩
  · simp only [List.getElem_set_self]; exact hN.up
  · simp only [List.getElem_set_self]; exact hN.keep
theorem Vx.next {W w w' : World} {n k gP cP bM b q : Nat} {vW vO : Value} {L : List (PP × Px)} {way out : List PM} {ld : Int → Int} {V : Int → Int → Int} {s0 : PP} {z0 : Px} (h : Vx W n k gP cP bM b q vW L way ld V vO out s0 z0 w) (hb : Bel w w') : Vx W n k gP cP bM b q vW L way ld V vO out s0 z0 w' := ⟨h.vm.next hb, h.hq, h.up, h.keep, hb.row h.row⟩
section
variable {ops : Array Oper} {rest : List Oper} {o : Oper} {a : Act} {Q : Exit → Act → World → Prop} {W : World}
/-- A whole member is read, where a guard lets it. -/
theorem bxp_ldW (x : Operand) (b : Nat) (n : Nat) (s : PP) (z : Px) (hg : W.heap[b]? = some (.cells (pc n s z) 32)) (ho : o.op = .load 32 x) (hw : Region.wanted o (yielded ops a.tmps) = true) (hx : a.eval x = .pointer (some ⟨b, 0, none⟩))
    (h : wpList Try.prog ops Q rest (a.put o.dst (.agg (pc n s z))) W) : wpList Try.prog ops Q (o :: rest) a W := bx_ldG hw 32 x ho b hx (pc n s z) _ hg Try.underlying32 (Try.size32 _ _ _) h
theorem bxm_new (hgd : o.guard = none) (ho : o.op = .alloc 44)
    (hK : ∀ b w', w'.heap[b]? = some (.cells (mc ⟨0, 0, 0, 0, 0, 0, false⟩) 44) → W.heap.size = b → Bel W w' → wpList Try.prog ops Q rest (a.put o.dst (.pointer (some ⟨b, 0, none⟩))) w') : wpList Try.prog ops Q (o :: rest) a W := bx_new hgd 44 ho _ Try.zero44 hK
theorem bxm_st (x y : Operand) (b : Nat) (m : PM) {m2 : PM} (hg : W.heap[b]? = some (.cells (mc m2) 44)) (hgd : o.guard = none) (ho : o.op = .store 44 x y) (hx : a.eval x = .pointer (some ⟨b, 0, none⟩)) (hy : a.eval y = .agg (mc m))
    (hK : ∀ w', w'.heap[b]? = some (.cells (mc m) 44) → Ch (fun k => k = b) W w' → wpList Try.prog ops Q rest (a.put o.dst undef) w') : wpList Try.prog ops Q (o :: rest) a W := bx_st hgd 44 x y ho b (mc m) _ hx hy hg (Try.size44 _) rfl (mc_one _) hK
end
section
variable {W w w' : World} {n k gP cP bM b q : Nat} {vW vO : Value} {L : List (PP × Px)} {way out : List PM} {ld : Int → Int} {V : Int → Int → Int} {s0 : PP} {z0 : Px}
theorem Vx.may (h : Vx W n k gP cP bM b q vW L way ld V vO out s0 z0 w) (hn : n ≤ 64) (hk : k ≤ 200) {s1 : PP} {x1 : Px} (e : L[q]'h.hq = (s1, x1)) : Calls Try.prog 10 #[.agg (pc n s1 x1)] w fun e w' => e = .returned (.int .i64 0) ∧ Bel w w' := by
  have hok := (h.vm.ok q h.hq).1
  have hpf := h.vm.pf _ (List.getElem_mem h.hq)
  rw [e] at hok hpf
  exact may_ok hpf.pq.pw hok hn (by omega) (by omega) hpf.pq.cap
/-- A box beside them is written. -/
theorem Vs.boxed (h : Vs W n k gP cP bM vW L way ld V w) {c : Array Value} (hr : w.heap[b]? = some (.cells c 32)) (hne : b ≠ gP) (hb : W.heap.size ≤ b) (hc : Ch (fun j => j = b) w w') : Vs W n k gP cP bM vW L way ld V w' := by
  obtain ⟨es, cl, hm⟩ := h.map.isMap
  exact ⟨h.inv, h.row.at (fun j hj => hc.block j (h.row.lt hj).2 (fun e => by cases hj; exact hne e.symm)), fun q hq => (h.pf q hq).box hr hc, h.wo.box hr (show (44 : Nat) ≠ 32 by decide) hc, h.wl, h.map.at (hc.block bM (lt_of_some hm) (fun e => by rw [e, hr] at hm; cases hm)), bel_off h.bel hc hb, h.bm⟩
end
section
variable {ops : Array Oper} {rest : List Oper} {o : Oper} {a : Act} {Q : Exit → Act → World → Prop} {W : World}
/-- What was sent is put behind what is under way. -/
theorem elm_app {base : Nat} {v : Value} {way out : List PM} {aO : Option Addr} {mO cO : Nat} (h : E44.O base W v way) (hbase : base ≤ W.heap.size) (hO : E44.O 0 W (.slice aO mO cO) out) (hol : out.length ≤ 64) (hwl : way.length ≤ 300) (x y : Operand) (hgd : o.guard = none) (ho : o.op = .call { callee := .builtin .append, args := #[x, y], argTypes := #[37, 37] }) (hs : a.eval x = v) (hy : a.eval y = .slice aO mO cO)
    (hK : ∀ v' w', E44.O base w' v' (way ++ out) → W.grownBy w' v.ownBlock → wpList Try.prog ops Q rest (a.put o.dst v') w') : wpList Try.prog ops Q (o :: rest) a W := by
  obtain ⟨h1, h2, h3⟩ := Sl.of hO
  exact app_el (E := E44) out h hbase aO mO cO h2.symm h1 (by omega) hgd x y 37 rfl ho hs hy hK
end
end Go.Proofs.Ythipgcojbhcdgaa
