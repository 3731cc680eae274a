/- grants, answerAsk. -/
import Derived.Test.YthipgcojbhcdgaaTic
import Derived.Test.YthipgcojbhcdgaaMsg
namespace Go.Proofs.Ythipgcojbhcdgaa
open Go.RowKit Go.Maps Go.Sort
/-- A whole struct is read; what operation it is is asked first. -/
theorem bx_ldH {ops : Array Oper} {rest : List Oper} {o : Oper} {a : Act} {Q : Exit → Act → World → Prop} {W : World} (t : TypeId) (x : Operand) (ho : o.op = .load t x) (b : Nat) (hx : a.eval x = .pointer (some ⟨b, 0, none⟩)) (hw : Region.wanted o (yielded ops a.tmps) = true) (cs : Array Value) (fs : Array Field) (hg : W.heap[b]? = some (.cells cs t)) (hu : Try.prog.underlying t = some (.struct fs)) (hi : (Try.prog.info? t).map (·.size) = some cs.size)
    (h : wpList Try.prog ops Q rest (a.put o.dst (.agg cs)) W) : wpList Try.prog ops Q (o :: rest) a W := bx_ldG hw t x ho b hx cs fs hg hu hi h
/-- A struct is boxed; what operation it is is asked first. -/
theorem bx_boxH {ops : Array Oper} {rest : List Oper} {o : Oper} {a : Act} {Q : Exit → Act → World → Prop} {W : World} (t : TypeId) (x : Operand) (ho : o.op = .box t x) (hgd : o.guard = none) (cs : Array Value) (hx : a.eval x = .agg cs)
    (h : ∀ b w', w'.heap[b]? = some (.cells cs t) → W.heap.size = b → Bel W w' → wpList Try.prog ops Q rest (a.put o.dst (.pointer (some ⟨b, 0, none⟩))) w') : wpList Try.prog ops Q (o :: rest) a W := bx_box hgd t x ho cs hx h
set_option maxRecDepth 100000 in
set_option maxHeartbeats 4000000 in
theorem grants_any {W : World} {n : Nat} {s : PP} {x : Px} {m : PM} (h : Sl E69 W x.aL s.log) (hl : s.log.length ≤ 1000000) : Calls Try.prog 67 #[.agg (pc n s x), .agg (mc m)] W fun e w' => e = .returned (.bool (s.grants m)) ∧ Bel W w' := by
  have H1 : Hid (∀ W', Bel W W' → Calls Try.prog 28 #[.agg (pc n s x)] W' fun e w' => e = .returned (.tuple #[.int .u64 s.lastI, .int .u64 s.lastT]) ∧ Bel W' w') := hide (fun W' hb => last_any (h.bel hb) hl)
  clear h hl
  have hX : ∃ gr : Bool, s.grants m = gr ∧ ((decide (s.lastT < m.lterm) = false ∧ (m.lterm == s.lastT) = false ∧ gr = false) ∨ (decide (s.lastT < m.lterm) = false ∧ (m.lterm == s.lastT) = true ∧ decide (s.lastI ≤ m.index) = false ∧ gr = false) ∨ (((decide (s.lastT < m.lterm) = true) ∨ (decide (s.lastT < m.lterm) = false ∧ (m.lterm == s.lastT) = true ∧ decide (s.lastI ≤ m.index) = true)) ∧ (((m.term == s.term) = false ∧ gr = false) ∨ ((m.term == s.term) = true ∧ (s.role == 0) = false ∧ gr = false) ∨ ((m.term == s.term) = true ∧ (s.role == 0) = true ∧ (s.vote == 0) = true ∧ gr = true) ∨ ((m.term == s.term) = true ∧ (s.role == 0) = true ∧ (s.vote == 0) = false ∧ (s.vote == m.frm) = true ∧ gr = true) ∨ ((m.term == s.term) = true ∧ (s.role == 0) = true ∧ (s.vote == 0) = false ∧ (s.vote == m.frm) = false ∧ gr = false)))) := by
    refine ⟨_, rfl, ?_⟩
    unfold PP.grants
    cases decide (s.lastT < m.lterm) <;> cases (m.lterm == s.lastT) <;> cases decide (s.lastI ≤ m.index) <;> cases (m.term == s.term) <;> cases (s.role == 0) <;> cases (s.vote == 0) <;> cases (s.vote == m.frm) <;> simp
  obtain ⟨gr, hg, hx⟩ := hX
  rw [hg]
  clear hg
  generalize s.lastI = I at *
  generalize s.lastT = tT at *
  rcases hx with ⟨c1, c2, rfl⟩ | ⟨c1, c2, c3, rfl⟩ | ⟨c1 | ⟨c1, c2, c3⟩, ⟨c4, rfl⟩ | ⟨c4, c5, rfl⟩ | ⟨c4, c5, c6, rfl⟩ | ⟨c4, c5, c6, c7, rfl⟩ | ⟨c4, c5, c6, c7, rfl⟩⟩
  all_goals
    go_enter Try.func67, Try.ntmps67
    go_wp2_with (first
      | go_skip
      | go_guarded
      | (refine bx_boxH 32 (.tmp 0) (by exact rfl) (by exact rfl) (pc n s x) (by exact rfl) ?_; intro b w0 hr0 hs0 hb0; have HR0 := hide hr0; have HB0 := hide hb0; clear hr0 hs0 hb0)
      | (refine bx_boxH 44 (.tmp 1) (by exact rfl) (by exact rfl) (mc m) (by exact rfl) ?_; intro b3 w1 hr1 hs1 hb1; have HM0 := hide hr1; replace HR0 := hide (hb1.row (unhide HR0)); replace HB0 := hide ((unhide HB0).trans hb1); clear hr1 hs1 hb1)
      | (refine bx_ldH 32 (.tmp 2) (by exact rfl) b (by exact rfl) (by exact rfl) (pc n s x) _ (unhide HR0) Try.underlying32 (Try.size32 _ _ _) ?_)
      | (go_at_call 28; refine ((unhide H1) _ (unhide HB0)).mono ?_; rintro e w2 ⟨rfl, hb2⟩; have y2 := (Bx.of (hb2.row (unhide HR0))).c2; have y3 := (Bx.of (hb2.row (unhide HR0))).c3; have y4 := (Bx.of (hb2.row (unhide HR0))).c4; have m1 := (Bm.of (hb2.row (unhide HM0))).c1; have m3 := (Bm.of (hb2.row (unhide HM0))).c3; have m4 := (Bm.of (hb2.row (unhide HM0))).c4; have m5 := (Bm.of (hb2.row (unhide HM0))).c5; replace HB0 := hide ((unhide HB0).trans hb2); clear hb2))
    go_ret
    exact ⟨rfl, unhide HB0⟩
end Go.Proofs.Ythipgcojbhcdgaa
