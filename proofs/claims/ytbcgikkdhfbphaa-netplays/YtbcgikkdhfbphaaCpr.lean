/- The document's Copy: a region that draws its order, by what is kept in each. -/
import Derived.Test.YtbcgikkdhfbphaaPly
import Derived.Test.YtbcgikkdhfbphaaCln
import Derived.OrdersHeld
namespace Go.Proofs.Ytbcgikkdhfbphaa
open Go.RowKit Go.Maps
section
variable {P : Program} {ops : Array Oper} {Q : Exit → Act → World → Prop} {md : Region.Mode}
/-- How many have not come up. -/
def left (listed : Array Bool) : Nat := listed.toList.count false
theorem left_set : ∀ (l : List Bool) (i : Nat), l[i]? = some false → (l.set i true).count false + 1 = l.count false
  | [], i, h => by simp at h
  | b :: l, 0, h => by
    simp at h
    subst h
    simp
  | b :: l, i + 1, h => by
    have := left_set l i (by simpa using h)
    cases b <;> simp <;> omega
/-- Whatever order is picked: what holds of what has come up, the temporaries and the world, and is kept by each that may come up. -/
theorem wpAny_inv (I : Array Bool → Act → World → Prop) (hstep : ∀ (listed : Array Bool) (a : Act) (w : World) (i : Nat), I listed a w → i ∈ Region.ready md ops listed → wpOp P ops Q i (I (listed.setIfInBounds i true)) a w) (hend : ∀ (listed : Array Bool) (a : Act) (w : World), I listed a w → Region.ready md ops listed = [] → Q .normal a w) :
    ∀ (fuel : Nat) (listed : Array Bool) (a : Act) (w : World), left listed ≤ fuel → I listed a w → wpAny P md ops Q fuel listed a w
  | 0, listed, a, w, hf, h => by
    have h0 : Region.ready md ops listed = [] := by
      rw [List.eq_nil_iff_forall_not_mem]
      intro i hi
      have hu := (mem_ready.1 hi).1
      have hl : listed.toList[i]? = some false := by
        cases hq : listed[i]? with
        | none => rw [Array.getD_eq_getD_getElem?, hq] at hu; cases hu
        | some b => rw [Array.getD_eq_getD_getElem?, hq] at hu; rw [Array.getElem?_toList, hq]; exact congrArg some hu
      have := left_set _ _ hl
      unfold left at hf
      omega
    exact ⟨h0, hend _ _ _ h h0⟩
  | fuel + 1, listed, a, w, hf, h => by
    refine ⟨fun h0 => hend _ _ _ h h0, fun i hi => wpOp_mono (fun a' w' h' => wpAny_inv I hstep hend fuel _ a' w' ?_ h') (hstep listed a w i h hi)⟩
    have hu := (mem_ready.1 hi).1
    have hl : listed.toList[i]? = some false := by
      cases hq : listed[i]? with
      | none => rw [Array.getD_eq_getD_getElem?, hq] at hu; cases hu
      | some b => rw [Array.getD_eq_getD_getElem?, hq] at hu; rw [Array.getElem?_toList, hq]; exact congrArg some hu
    have := left_set _ _ hl
    unfold left at *
    rw [Array.toList_setIfInBounds]
    omega
end
/-- Rows of truths. -/
def E4 : El Bool := { enc := fun x => [.bool x], k := 1, e := 4, t := 71, bytes := 1, z := .bool false, hk := by decide, len := fun _ => rfl, one := fun x u hu => by simp at hu; rw [hu]; rfl, ht := Try.underlying71, hi := by kernel_rfl, hz := rfl, hb := by decide }
/-- Rows of states. -/
def E22 : El Int := { enc := fun x => [.int .u64 x], k := 1, e := 22, t := 72, bytes := 8, z := .int .u64 0, hk := by decide, len := fun _ => rfl, one := fun x u hu => by simp at hu; rw [hu]; rfl, ht := Try.underlying72, hi := by kernel_rfl, hz := rfl, hb := by decide }
/-- A row of nothing that was made behind w. -/
structure Em (w W : World) (H : Nat) (e : TypeId) : Prop where
  ge : w.heap.size ≤ H
  row : W.heap[H]? = some (.cells #[] e)
theorem Em.new {w W : World} {H : Nat} {e : TypeId} (hs : w.heap.size ≤ W.heap.size) (hH : W.heap.size = H) : Em w (W.alloc (.cells #[] e)) H e := by
  subst hH
  exact ⟨hs, at_new W _⟩
theorem Em.alloc {w W : World} {H : Nat} {e : TypeId} {o : Obj} (h : Em w W H e) : Em w (W.alloc o) H e := ⟨h.ge, ((Bel.refl W).alloc o).row h.row⟩
theorem Em.drew {w W : World} {H : Nat} {e : TypeId} (h : Em w W H e) : Em w W.drew H e := ⟨h.ge, h.row⟩
theorem cell_dr {w : World} {p i : Nat} {v : Value} (h : w.cell? ⟨p, i, none⟩ = some v) : w.drew.cell? ⟨p, i, none⟩ = some v := h
theorem cell_al {w : World} {p i : Nat} {v : Value} {o : Obj} (h : w.cell? ⟨p, i, none⟩ = some v) : (w.alloc o).cell? ⟨p, i, none⟩ = some v := ((Bel.refl w).alloc o).cell h
theorem Em.own {α : Type} {E : El α} {w W : World} {H : Nat} (h : Em w W H E.e) : E.O w.heap.size W (.slice (some ⟨H, 0, none⟩) 0 0) [] := ⟨by simp [El.fl], Or.inr ⟨H, 0, #[], rfl, h.ge, h.row, Nat.le_refl _, Nat.zero_le _, by simp, by simp [El.fl]⟩⟩
/-- What an append to a row of one type keeps of rows of other types. -/
structure Kq (w W w' : World) (e : Nat) : Prop where
  em : ∀ (H2 : Nat) (e2 : Nat), e2 ≠ e → Em w W H2 e2 → Em w w' H2 e2
  ow : ∀ {β : Type} (E2 : El β) (v2 : Value) (L2 : List β), E2.e ≠ e → E2.O w.heap.size W v2 L2 → E2.O w.heap.size w' v2 L2
  bel : Bel w w'
section
variable {ops : Array Oper} {Q : Exit → Act → World → Prop} {o : Oper} {a : Act} {w : World} {i : Nat} {K : Act → World → Prop}
/-- An operation that yields a value. -/
theorem op_val {v : Value} {w' : World} (hi : ops[i]? = some o) (hg : o.guard = none) (hrun : (execOp a.eval o).run Try.prog w = .ok (.value v) w') (hK : K (a.put o.dst v) w') : wpOp Try.prog ops Q i K a w := by
  unfold wpOp
  have hw : Region.wanted o (yielded ops a.tmps) = true := by simp [Region.wanted, hg]
  simp only [hi, hw, if_true, Oper.wp, hrun, Oper.upon_value]
  exact Or.inl hK
set_option maxRecDepth 100000 in
theorem r_move (x : Operand) (ho : o.op = .move x) (v : Value) (hx : a.eval x = v) : (execOp a.eval o).run Try.prog w = .ok (.value v) w := by
  unfold execOp
  simp only [ho, hx]
  go_simp
set_option maxRecDepth 100000 in
theorem r_nil (x : Operand) (ho : o.op = .nilCheck x) (q : Nat) (hx : a.eval x = .pointer (some ⟨q, 0, none⟩)) : (execOp a.eval o).run Try.prog w = .ok (.value (.pointer (some ⟨q, 0, none⟩))) w := by
  unfold execOp
  simp only [ho, hx]
  go_simp
set_option maxRecDepth 100000 in
theorem r_fa (x : Operand) (k : Nat) (hk : k < 5) (ho : o.op = .fieldAddr 74 x k) (q : Nat) (hx : a.eval x = .pointer (some ⟨q, 0, none⟩)) : (execOp a.eval o).run Try.prog w = .ok (.value (.pointer (some ⟨q, k, none⟩))) w := by
  unfold execOp
  simp only [ho, hx]
  rcases (show k = 0 ∨ k = 1 ∨ k = 2 ∨ k = 3 ∨ k = 4 by omega) with rfl | rfl | rfl | rfl | rfl <;> go_simp
set_option maxRecDepth 100000 in
theorem r_ld (t : TypeId) (ht : t = 3 ∨ t = 53 ∨ t = 71 ∨ t = 32 ∨ t = 72) (x : Operand) (ho : o.op = .load t x) (q k : Nat) (hx : a.eval x = .pointer (some ⟨q, k, none⟩)) (v : Value) (hv : (∃ n : Int, v = .int .i64 n) ∨ ∃ ad n c, v = .slice ad n c) (hc : w.cell? ⟨q, k, none⟩ = some v) : (execOp a.eval o).run Try.prog w = .ok (.value v) w := by
  unfold execOp
  simp only [ho, hx]
  rcases hv with ⟨n, rfl⟩ | ⟨ad, n, c, rfl⟩ <;> rcases ht with rfl | rfl | rfl | rfl | rfl <;> go_simp
set_option maxRecDepth 100000 in
theorem r_mk (t e : TypeId) (hx : (t = 53 ∧ e = 46) ∨ (t = 71 ∧ e = 4) ∨ (t = 32 ∧ e = 3) ∨ (t = 72 ∧ e = 22)) (ho : o.op = .buildSlice t 0 #[]) : (execOp a.eval o).run Try.prog w = .ok (.value (.slice (some ⟨w.heap.size, 0, none⟩) 0 0)) (w.alloc (.cells #[] e)) := by
  unfold execOp
  simp only [ho]
  rcases hx with ⟨rfl, rfl⟩ | ⟨rfl, rfl⟩ | ⟨rfl, rfl⟩ | ⟨rfl, rfl⟩ <;> go_simp
theorem r_app {α : Type} (E : El α) {W : World} (s x : Operand) (t : TypeId) (ht : t = E.t) (ho : o.op = .call { callee := .builtin .append, args := #[s, x], argTypes := #[t, t] }) (H : Nat) (hs : a.eval s = .slice (some ⟨H, 0, none⟩) 0 0) (hE : Em W w H E.e) (hb : Bel W w) (L : List α) (ad : Option Addr) (g n cap : Nat) (hx : a.eval x = .slice ad n cap) (hn : L.length = n) (ha : n ≠ 0 → ad = some ⟨g, 0, none⟩) (hR : E.R W g 0 L) (hl : n ≤ 100000) :
    ∃ ad' cap' w', (execOp a.eval o).run Try.prog w = .ok (.value (.slice ad' n cap')) w' ∧ E.O W.heap.size w' (.slice ad' n cap') L ∧ Kq W w w' E.e := by
  subst ht hn
  obtain ⟨v', w', hrun, r1, r2, r3⟩ := El.run_app (E := E) w W.heap.size (.slice (some ⟨H, 0, none⟩) 0 0) [] L hE.own hb.size ad g 0 cap ha (hR.bel hb) (by simp; omega) o.type
  rw [List.nil_append] at r1
  obtain ⟨a', c', g', hv', _, _, _⟩ := r1.shape
  subst hv'
  refine ⟨a', c', w', ?_, r1, ⟨fun H2 e2 hne h2 => ⟨h2.ge, ?_⟩, fun {β} E2 v2 L2 hne h2 => h2.at (fun k hk => ?_), bel_grown hb r2 (fun z hz => by cases hz; exact hE.ge)⟩⟩
  · unfold execOp
    simp only [ho, resolve, invoke, builtin, Sem.run_bind, Sem.run_pure, Result.andThen_ok, List.map_toArray, List.map_cons, List.map_nil, hs, hx, hrun]
  · have hH : H2 ≠ H := fun e => by have := h2.row; rw [e, hE.row] at this; injection (Option.some.inj this) with _ h3; exact hne h3.symm
    rw [r2.block H2 (lt_of_some h2.row) (by simpa [Value.ownBlock] using fun e => hH e)]
    exact h2.row
  · obtain ⟨c2, hc2⟩ := h2.block hk
    have hH : k ≠ H := fun e => by rw [e, hE.row] at hc2; injection (Option.some.inj hc2) with _ h3; exact hne h3.symm
    exact r2.block k (lt_of_some hc2) (by simpa [Value.ownBlock] using fun e => hH e)
set_option maxRecDepth 100000 in
theorem r_build (x0 x1 x2 x3 x4 : Operand) (ho : o.op = .build 74 #[(0, x0), (1, x1), (2, x2), (3, x3), (4, x4)]) (n : Int) (a1 a2 a3 a4 : Option Addr) (n1 n2 n3 n4 c1 c2 c3 c4 : Nat) (h0 : a.eval x0 = .int .i64 n) (h1 : a.eval x1 = .slice a1 n1 c1) (h2 : a.eval x2 = .slice a2 n2 c2) (h3 : a.eval x3 = .slice a3 n3 c3) (h4 : a.eval x4 = .slice a4 n4 c4) : (execOp a.eval o).run Try.prog w = .ok (.value (.agg #[.int .i64 n, .slice a1 n1 c1, .slice a2 n2 c2, .slice a3 n3 c3, .slice a4 n4 c4])) w := by
  unfold execOp
  simp only [ho, List.map_toArray, List.map_cons, List.map_nil, h0, h1, h2, h3, h4]
  go_simp
set_option maxRecDepth 100000 in
theorem r_box (x : Operand) (ho : o.op = .box 74 x) (cs : Array Value) (hx : a.eval x = .agg cs) : (execOp a.eval o).run Try.prog w = .ok (.value (.pointer (some ⟨w.heap.size, 0, none⟩))) (w.alloc (.cells cs 74)) := by
  unfold execOp
  simp only [ho, hx]
  simp [go_sem, Instr.box, newVar, Value.cells]
theorem r_asg (x : Operand) (ho : o.op = .assign x) (v : Value) (hx : a.eval x = v) : (execOp a.eval o).run Try.prog w = .ok (.value v) w := by
  unfold execOp
  simp only [ho, hx]
  go_simp
end
end Go.Proofs.Ytbcgikkdhfbphaa
