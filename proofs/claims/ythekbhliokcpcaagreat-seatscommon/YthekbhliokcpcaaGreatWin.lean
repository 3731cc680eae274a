/- winIfMost. -/
import Derived.Test.YthekbhliokcpcaaGreatNfld
namespace Go.Proofs.YthekbhliokcpcaaGreat
open Go.RowKit Go.Maps Go.Sort
/-- append of one thing that was just laid. -/
theorem app1_el {α : Type} {E : El α} {ops : Array Oper} {rest : List Oper} {o : Oper} {a : Act} {Q : Exit → Act → World → Prop} {W : World} {base : Nat} {v : Value} {L : List α} (x : α) (L' : List α) (hL : L' = L ++ [x]) (h : E.O base W v L) (hbase : base ≤ W.heap.size) (B c : Nat) (hB : W.heap[B]? = some (.cells (E.enc x).toArray E.e)) (hb : L.length + 1 ≤ 100000000000)
    (hgd : o.guard = none) (s y : Operand) (t : TypeId) (ht : t = E.t) (ho : o.op = .call { callee := .builtin .append, args := #[s, y], argTypes := #[t, t] }) (hs : a.eval s = v) (hy : a.eval y = .slice (some ⟨B, 0, none⟩) 1 c)
    (hK : ∀ g cap w', E.O base w' (.slice (some ⟨g, 0, none⟩) L'.length cap) L' → W.grownBy w' v.ownBlock → (v.ownBlock = some g ∨ g = W.heap.size) → wpList Tryz.prog ops Q rest (a.put o.dst (.slice (some ⟨g, 0, none⟩) L'.length cap)) w') : wpList Tryz.prog ops Q (o :: rest) a W := by
  subst ht
  refine wpList_plain hgd fun K hK' => ?_
  obtain ⟨g, cap, w', hrun, r1, r2, r3⟩ := El.run_app1 (E := E) W base v L h hbase x B c hB hb o.type
  unfold Oper.wp execOp
  simp only [ho, resolve, invoke, builtin, Sem.run_bind, Sem.run_pure, Result.andThen_ok, List.map_toArray, List.map_cons, List.map_nil, hs, hy, hrun]
  have e : L'.length = L.length + 1 := by rw [hL]; simp
  rw [← e, ← hL] at r1
  rw [← e]
  exact hK' _ _ (hK g cap w' r1 r2 r3)
/-- A row of another type is none of those that an append writes. -/
theorem El.O.grown {α β : Type} {E : El α} {F : El β} {base base2 : Nat} {W w' : World} {v v2 : Value} {L : List α} {L2 : List β} (h : E.O base W v L) (h2 : F.O base2 W v2 L2) (hg : W.grownBy w' v2.ownBlock) (ht : E.e ≠ F.e) : E.O base w' v L :=
  h.at (fun k hk => hg.block k (h.lt hk).2 (fun e => by
    obtain ⟨c1, hc1⟩ := h.block hk
    obtain ⟨c2, hc2⟩ := h2.block e.symm
    rw [hc1] at hc2
    injection (Option.some.inj hc2) with _ h3
    exact ht h3))
theorem row_grown {β : Type} {F : El β} {base2 : Nat} {W w' : World} {v2 : Value} {L2 : List β} {b : Nat} {c : Array Value} {t : Nat} (h : W.heap[b]? = some (.cells c t)) (h2 : F.O base2 W v2 L2) (hg : W.grownBy w' v2.ownBlock) (ht : t ≠ F.e) : w'.heap[b]? = some (.cells c t) := by
  rw [hg.block b (lt_of_some h) (fun e => by
    obtain ⟨c2, hc2⟩ := h2.block e.symm
    rw [h] at hc2
    injection (Option.some.inj hc2) with _ h3
    exact ht h3)]
  exact h
/-- Where a member's lists lie: in blocks of K, or behind W. -/
def Cq (K : Nat → Prop) (W : World) (s : PP) (x : Px) : Prop := (∀ k, (Value.slice x.aL s.log.length x.cL).ownBlock = some k → K k ∨ W.heap.size ≤ k) ∧ (∀ k, (Value.slice x.aF s.fol.length x.cF).ownBlock = some k → K k ∨ W.heap.size ≤ k) ∧ ∀ k, (Value.slice x.aV s.votes.length x.cV).ownBlock = some k → K k ∨ W.heap.size ≤ k
/-- The blocks of a member's lists that may be written. -/
def Kx (s : PP) (x : Px) (k : Nat) : Prop := (Value.slice x.aL s.log.length x.cL).ownBlock = some k ∨ (Value.slice x.aF s.fol.length x.cF).ownBlock = some k ∨ (Value.slice x.aV s.votes.length x.cV).ownBlock = some k
theorem Kx.cq (W : World) (s : PP) (x : Px) : Cq (Kx s x) W s x := ⟨fun _ h => Or.inl (Or.inl h), fun _ h => Or.inl (Or.inr (Or.inl h)), fun _ h => Or.inl (Or.inr (Or.inr h))⟩
/-- How a member in its box stands while it is changed. -/
structure Wz (base : Nat) (K : Nat → Prop) (W w : World) (b b2 n : Nat) (s : PP) (x : Px) : Prop where
  row : w.heap[b]? = some (.cells (pc n s x) 31)
  pf : Pf base w n s x
  bel : Ch K W w
  row2 : ∃ s2 x2 n2, w.heap[b2]? = some (.cells (pc n2 s2 x2) 31)
  ge : W.heap.size ≤ b
  ge2 : W.heap.size ≤ b2
  ne : b2 ≠ b
  hw : base ≤ W.heap.size
  cq : Cq K W s x
/-- The same, with rows that are not yet written down. -/
structure Wy (base : Nat) (K : Nat → Prop) (W w : World) (b b2 n : Nat) (s : PP) (x : Px) : Prop where
  row : w.heap[b]? = some (.cells (pc n s x) 31)
  m : E3.O base w (.slice x.aM n x.cM) (mem n)
  mb : E3.O base w (.slice x.aB n x.cB) (mem n)
  dv : ∀ k j, (Value.slice x.aV s.votes.length x.cV).ownBlock = some k → (Value.slice x.aM n x.cM).ownBlock = some j ∨ (Value.slice x.aB n x.cB).ownBlock = some j → j < k
  bel : Ch K W w
  row2 : ∃ s2 x2 n2, w.heap[b2]? = some (.cells (pc n2 s2 x2) 31)
  ge : W.heap.size ≤ b
  ge2 : W.heap.size ≤ b2
  ne : b2 ≠ b
  hw : base ≤ W.heap.size
  cq : Cq K W s x
section
variable {base : Nat} {K : Nat → Prop} {W w w' : World} {b b2 n : Nat} {s s' : PP} {x x' : Px}
theorem ch_off (h : Ch K W w) (hc : Ch (fun i => i = b) w w') (hb : W.heap.size ≤ b) : Ch K W w' := h.trans hc (fun i hi => by rw [hi]; exact Or.inr hb)
theorem Wz.set (h : Wz base K W w b b2 n s x) (h1 : w'.heap[b]? = some (.cells (pc n s' x') 31)) (hc : Ch (fun i => i = b) w w') (hp : Pf base w' n s' x') (hq : Cq K W s' x') : Wz base K W w' b b2 n s' x' := by
  obtain ⟨s2, x2, n2, h2⟩ := h.row2
  exact ⟨h1, hp, ch_off h.bel hc h.ge, ⟨s2, x2, n2, hc.row h2 h.ne⟩, h.ge, h.ge2, h.ne, h.hw, hq⟩
theorem Wz.next (h : Wz base K W w b b2 n s x) (hb : Bel w w') : Wz base K W w' b b2 n s x := by
  obtain ⟨s2, x2, n2, h2⟩ := h.row2
  exact ⟨hb.row h.row, h.pf.bel hb, h.bel.bel hb, ⟨s2, x2, n2, hb.row h2⟩, h.ge, h.ge2, h.ne, h.hw, h.cq⟩
theorem Wz.appL (h : Wz base K W w b b2 n s x) (hg : w.grownBy w' (Value.slice x.aL s.log.length x.cL).ownBlock) : Wy base K W w' b b2 n s x ∧ E3.O base w' (.slice x.aV s.votes.length x.cV) s.votes ∧ E65.O base w' (.slice x.aF s.fol.length x.cF) s.fol := by
  obtain ⟨s2, x2, n2, h2⟩ := h.row2
  refine ⟨⟨row_grown h.row h.pf.l hg (by decide), h.pf.m.grown h.pf.l hg (by decide), h.pf.b.grown h.pf.l hg (by decide), h.pf.dv, h.bel.grown hg h.cq.1, ⟨s2, x2, n2, row_grown h2 h.pf.l hg (by decide)⟩, h.ge, h.ge2, h.ne, h.hw, h.cq⟩, h.pf.v.grown h.pf.l hg (by decide), h.pf.f.grown h.pf.l hg (by decide)⟩
theorem Wz.appF (h : Wz base K W w b b2 n s x) (hg : w.grownBy w' (Value.slice x.aF s.fol.length x.cF).ownBlock) : Wy base K W w' b b2 n s x ∧ E3.O base w' (.slice x.aV s.votes.length x.cV) s.votes ∧ E69.O base w' (.slice x.aL s.log.length x.cL) s.log := by
  obtain ⟨s2, x2, n2, h2⟩ := h.row2
  refine ⟨⟨row_grown h.row h.pf.f hg (by decide), h.pf.m.grown h.pf.f hg (by decide), h.pf.b.grown h.pf.f hg (by decide), h.pf.dv, h.bel.grown hg h.cq.2.1, ⟨s2, x2, n2, row_grown h2 h.pf.f hg (by decide)⟩, h.ge, h.ge2, h.ne, h.hw, h.cq⟩, h.pf.v.grown h.pf.f hg (by decide), h.pf.l.grown h.pf.f hg (by decide)⟩
theorem Wz.appV (h : Wz base K W w b b2 n s x) (hg : w.grownBy w' (Value.slice x.aV s.votes.length x.cV).ownBlock) : Wy base K W w' b b2 n s x ∧ E65.O base w' (.slice x.aF s.fol.length x.cF) s.fol ∧ E69.O base w' (.slice x.aL s.log.length x.cL) s.log := by
  obtain ⟨s2, x2, n2, h2⟩ := h.row2
  refine ⟨⟨row_grown h.row h.pf.v hg (by decide), h.pf.m.at (fun k hk => hg.block k (h.pf.m.lt hk).2 (fun e => absurd (h.pf.dv _ _ e.symm (Or.inl hk)) (by omega))), h.pf.b.at (fun k hk => hg.block k (h.pf.b.lt hk).2 (fun e => absurd (h.pf.dv _ _ e.symm (Or.inr hk)) (by omega))), h.pf.dv, h.bel.grown hg h.cq.2.2, ⟨s2, x2, n2, row_grown h2 h.pf.v hg (by decide)⟩, h.ge, h.ge2, h.ne, h.hw, h.cq⟩, h.pf.f.grown h.pf.v hg (by decide), h.pf.l.grown h.pf.v hg (by decide)⟩
theorem Wy.next (h : Wy base K W w b b2 n s x) (hb : Bel w w') : Wy base K W w' b b2 n s x := by
  obtain ⟨s2, x2, n2, h2⟩ := h.row2
  exact ⟨hb.row h.row, h.m.bel hb, h.mb.bel hb, h.dv, h.bel.bel hb, ⟨s2, x2, n2, hb.row h2⟩, h.ge, h.ge2, h.ne, h.hw, h.cq⟩
theorem Wy.set (h : Wy base K W w b b2 n s x) (h1 : w'.heap[b]? = some (.cells (pc n s' x') 31)) (hc : Ch (fun i => i = b) w w') (hp : Pf base w' n s' x') (hq : Cq K W s' x') : Wz base K W w' b b2 n s' x' := by
  obtain ⟨s2, x2, n2, h2⟩ := h.row2
  exact ⟨h1, hp, ch_off h.bel hc h.ge, ⟨s2, x2, n2, hc.row h2 h.ne⟩, h.ge, h.ge2, h.ne, h.hw, hq⟩
/-- Where a row lies that was appended to. -/
theorem cq_app {v : Value} {g : Nat} (hv : ∀ k, v.ownBlock = some k → K k ∨ W.heap.size ≤ k) (h : Ch K W w) (hat : v.ownBlock = some g ∨ g = w.heap.size) {n c : Nat} : ∀ k, (Value.slice (some ⟨g, 0, none⟩) n c).ownBlock = some k → K k ∨ W.heap.size ≤ k := by
  intro k hk
  cases hk
  rcases hat with e | e
  · exact hv _ e
  · rw [e]; exact Or.inr h.size
end
set_option maxRecDepth 100000 in
set_option maxHeartbeats 1000000 in
theorem others_own {W : World} {n : Nat} {s : PP} {x : Px} (h : Sl E3 W x.aM (mem n)) (hn : n ≤ 64) (h1 : 1 ≤ n) : Calls Tryz.prog 169 #[.agg (pc n s x)] W fun e w' => ∃ a' c', e = .returned (.slice a' (oth n s.id).length c') ∧ E3.O W.heap.size w' (.slice a' (oth n s.id).length c') (oth n s.id) ∧ Bel W w' := by
  have HC : Hid (∀ w1, Bel W w1 → Calls Tryz.prog 99 #[.slice x.aM n x.cM] w1 fun e w' => ∃ a' c', e = .returned (.slice a' n c') ∧ E3.O w1.heap.size w' (.slice a' n c') (mem n) ∧ Bel w1 w') := hide (fun w1 hb => clone3 (mem_len n) (h.bel hb) (by omega))
  clear h
  go_enter Tryz.func169, Tryz.ntmps169
  go_wp2_with (first
    | (refine bx_box rfl 31 _ rfl (pc n s x) rfl ?_; intro b w0 hr0 hs0 hb0; obtain ⟨y0, y1, y2, y3, y4, y5, y6, y7, y8, y9, y10, y11, y12, y13, y14, y15, y16, y17⟩ := Bx.of hr0; have HR0 := hide hr0; have HB0 := hide hb0; clear hr0 hs0 hb0)
    | (go_at_call 99; refine ((unhide HC) _ (unhide HB0)).mono ?_; rintro e w1 ⟨a1, c1, rfl, ho1, hb1⟩; have HO1 := hide (And.intro ho1 hb1); have HR1 := hide (hb1.row (unhide HR0)); clear ho1 hb1))
  obtain ⟨g, rfl⟩ : ∃ g, a1 = some ⟨g, 0, none⟩ := by
    obtain ⟨a', c', g', e, hh, _⟩ := (unhide HO1).1.shape
    injection e with e1
    exact ⟨g', e1.trans (hh (by rw [mem_len]; omega))⟩
  refine (delete_any (unhide HR1) rfl (unhide HO1).1 (mem_len n) (by omega)).mono ?_
  rintro e w2 ⟨rfl, ho2, hc2⟩
  have HF := hide (And.intro (ho2.mono (unhide HB0).size) (bel_off ((unhide HB0).trans (unhide HO1).2) hc2 (Nat.le_trans (unhide HB0).size ((unhide HO1).1.lt (k := g) rfl).1)))
  clear ho2 hc2
  go_wp2_with fail
  go_ret
  exact ⟨_, _, rfl, (unhide HF).1, (unhide HF).2⟩
/-- How winIfMost's loop stands. -/
def WinR (base : Nat) (W : World) (b b2 n : Nat) (s : PP) (x : Px) (L' : List PE) (no : Nat) (a6 : Option Addr) (c6 g cap : Nat) (vk : Value) (wr : World) : Prop := ∃ (k : Nat) (aF : Option Addr) (cF : Nat) (F : List (Int × Int × Int)), k ≤ no ∧ vk = .int .i64 k ∧ Hid (F = ((oth n s.id).take k).map fun i => (i, (L'.length : Int), (0 : Int))) ∧ Hid (Wz base (Kx s x) W wr b b2 n { s with role := 2, lead := s.id, votes := [], idle := 2, log := L', fol := F } { x with aL := some ⟨g, 0, none⟩, cL := cap, aV := none, cV := 0, aF := aF, cF := cF } ∧ E3.O 0 wr (.slice a6 no c6) (oth n s.id))
set_option maxRecDepth 100000 in
set_option maxHeartbeats 2000000 in
theorem win_any {base : Nat} {W : World} {n : Nat} {s : PP} {x : Px} (h : Pf base W n s x) (hB : base ≤ W.heap.size) (hn : n ≤ 64) (h1 : 1 ≤ n) (hl : s.log.length ≤ 999999) (hr : Ris s.votes) (hm : ∀ y ∈ s.votes, 1 ≤ y ∧ y ≤ n) (hf : s.fol = []) : Calls Tryz.prog 170 #[.agg (pc n s x)] W fun e w' => ∃ x', e = .returned (.agg (pc n (s.winIf n) x')) ∧ Pf base w' n (s.winIf n) x' ∧ Ch (Kx s x) W w' := by
  have hvl : s.votes.length ≤ n := ris_le n s.votes hr.nodup hm
  have HM : Hid (∀ W', Bel W W' → Calls Tryz.prog 18 #[.slice x.aM n x.cM, .slice x.aV s.votes.length x.cV] W' fun e w' => e = .returned (.bool (maj n s.votes)) ∧ Bel W' w') := hide (fun W' hb => by
    have := majority_any (cap := x.cM) (cap2 := x.cV) (h.pw.m.bel hb) (h.pw.v.bel hb) (by rw [mem_len]; omega) (by omega) (mem_ris n) (fun _ => Iff.rfl) hr (fun _ => Iff.rfl) (by rw [mem_len]; omega) (by omega)
    rw [mem_len, List.countP_eq_length.2 (fun y hy => decide_eq_true (mem_iff.2 (hm y hy)))] at this
    exact this)
  have HP := hide h
  have HBS := hide hB
  cases hmj : maj n s.votes with
  | false =>
    rw [hmj] at HM
    have HW : Hid (s.winIf n = s) := hide (by unfold PP.winIf; rw [hmj]; rfl)
    clear h hB hn h1 hl hr hm hf hvl hmj
    go_enter Tryz.func170, Tryz.ntmps170
    go_wp2_with (first
      | (refine bx_box rfl 31 _ rfl (pc n s x) rfl ?_; intro b w0 hr0 hs0 hb0; have HR0 := hide hr0; have HB0 := hide (And.intro hb0 hs0); clear hr0 hs0 hb0)
      | (refine bx_new rfl 31 rfl _ Tryz.zero32 ?_; intro b2 w1 hr1 hs1 hb1; have y0 := (Bx.of (hb1.row (unhide HR0))).c0; have y1 := (Bx.of (hb1.row (unhide HR0))).c1; have y2 := (Bx.of (hb1.row (unhide HR0))).c2; have y14 := (Bx.of (hb1.row (unhide HR0))).c14; have HBW := hide ((unhide HB0).1.trans hb1); have HZ : Hid (Wz base (Kx s x) W w1 b b2 n s x) := hide ⟨hb1.row (unhide HR0), (unhide HP).bel ((unhide HB0).1.trans hb1), ((unhide HB0).1.trans hb1).ch _, ⟨_, _, _, hr1⟩, by have := (unhide HB0).2; omega, by have := (unhide HB0).1.size; omega, fun e => by have := lt_of_some (unhide HR0); omega, unhide HBS, Kx.cq W s x⟩; clear hr1 hs1 hb1)
      | (go_at_call 18; refine ((unhide HM) _ (unhide HBW)).mono ?_; rintro e w2 ⟨rfl, hb2⟩; replace HZ := hide ((unhide HZ).next hb2); clear hb2)
      | (refine bx_ldG rfl 31 _ rfl b rfl _ _ (unhide HZ).row Tryz.underlying31 (Tryz.size32 _ _ _) ?_)
      | (obtain ⟨s2, x2, n2, h2⟩ := (unhide HZ).row2; refine bx_st rfl 31 _ _ rfl b2 _ _ rfl rfl h2 (Tryz.size32 _ _ _) rfl (pc_one _ _ _) ?_; intro w9 hr9 hc9; have HR9 := hide (And.intro hr9 (And.intro (ch_off (unhide HZ).bel hc9 (unhide HZ).ge2) ((unhide HZ).pf.box h2 hc9))); clear hr9 hc9 h2))
    rw [unhide HW]
    refine bodyPost_ret (res1 (p := 2) rfl Tryz.underlying31 (Tryz.size32 _ _ _) (unhide HR9).1 _ rfl) rfl ⟨_, rfl, (unhide HR9).2.2, (unhide HR9).2.1⟩
  | true =>
    rw [hmj] at HM
    have HW : Hid (s.winIf n = s.win n) := hide (by unfold PP.winIf; rw [hmj]; rfl)
    obtain ⟨L', hL'⟩ : ∃ L', L' = s.log ++ [noop s.term] := ⟨_, rfl⟩
    have HL' := hide hL'
    have hlen : L'.length = s.log.length + 1 := by rw [hL']; simp
    have HLen : Hid (L'.length = s.log.length + 1 ∧ L'.length ≤ 1000000) := hide ⟨hlen, by omega⟩
    have HF0 := hide hf
    have HNN := hide (And.intro hn h1)
    clear h hB hn h1 hl hr hm hf hvl hmj hlen hL'
    go_enter Tryz.func170, Tryz.ntmps170
    go_wp2_with (first
      | (refine bx_box rfl 31 _ rfl (pc n s x) rfl ?_; intro b w0 hr0 hs0 hb0; have HR0 := hide hr0; have HB0 := hide (And.intro hb0 hs0); clear hr0 hs0 hb0)
      | (refine bx_new rfl 31 rfl _ Tryz.zero32 ?_; intro b2 w1 hr1 hs1 hb1; have y0 := (Bx.of (hb1.row (unhide HR0))).c0; have y1 := (Bx.of (hb1.row (unhide HR0))).c1; have y2 := (Bx.of (hb1.row (unhide HR0))).c2; have y14 := (Bx.of (hb1.row (unhide HR0))).c14; have HBW := hide ((unhide HB0).1.trans hb1); have HZ : Hid (Wz base (Kx s x) W w1 b b2 n s x) := hide ⟨hb1.row (unhide HR0), (unhide HP).bel ((unhide HB0).1.trans hb1), ((unhide HB0).1.trans hb1).ch _, ⟨_, _, _, hr1⟩, by have := (unhide HB0).2; omega, by have := (unhide HB0).1.size; omega, fun e => by have := lt_of_some (unhide HR0); omega, unhide HBS, Kx.cq W s x⟩; clear hr1 hs1 hb1)
      | (go_at_call 18; refine ((unhide HM) _ (unhide HBW)).mono ?_; rintro e w2 ⟨rfl, hb2⟩; have y0 := (Bx.of ((unhide HZ).next hb2).row).c0; replace HZ := hide ((unhide HZ).next hb2); clear hb2)
      | (refine fl_term rfl _ _ rfl b _ rfl rfl (unhide HZ).row ?_; intro w3 hr3 hc3; have y0 := (Bx.of hr3).c0; have y1 := (Bx.of hr3).c1; have y2 := (Bx.of hr3).c2; have y10 := (Bx.of hr3).c10; have y15 := (Bx.of hr3).c15; replace HZ := hide ((unhide HZ).set hr3 hc3 (by have p := (unhide HZ).pf.box (unhide HZ).row hc3; exact ⟨p.m, p.b, p.l, p.v, p.f, p.dv⟩) (unhide HZ).cq); clear hr3 hc3)
      | (refine fl_vote rfl _ _ rfl b _ rfl rfl (unhide HZ).row ?_; intro w3 hr3 hc3; have y0 := (Bx.of hr3).c0; have y1 := (Bx.of hr3).c1; have y2 := (Bx.of hr3).c2; have y10 := (Bx.of hr3).c10; have y15 := (Bx.of hr3).c15; replace HZ := hide ((unhide HZ).set hr3 hc3 (by have p := (unhide HZ).pf.box (unhide HZ).row hc3; exact ⟨p.m, p.b, p.l, p.v, p.f, p.dv⟩) (unhide HZ).cq); clear hr3 hc3)
      | (refine fl_role rfl _ _ rfl b _ rfl rfl (unhide HZ).row ?_; intro w3 hr3 hc3; have y0 := (Bx.of hr3).c0; have y1 := (Bx.of hr3).c1; have y2 := (Bx.of hr3).c2; have y10 := (Bx.of hr3).c10; have y15 := (Bx.of hr3).c15; replace HZ := hide ((unhide HZ).set hr3 hc3 (by have p := (unhide HZ).pf.box (unhide HZ).row hc3; exact ⟨p.m, p.b, p.l, p.v, p.f, p.dv⟩) (unhide HZ).cq); clear hr3 hc3)
      | (refine fl_lead rfl _ _ rfl b _ rfl rfl (unhide HZ).row ?_; intro w3 hr3 hc3; have y0 := (Bx.of hr3).c0; have y1 := (Bx.of hr3).c1; have y2 := (Bx.of hr3).c2; have y10 := (Bx.of hr3).c10; have y15 := (Bx.of hr3).c15; replace HZ := hide ((unhide HZ).set hr3 hc3 (by have p := (unhide HZ).pf.box (unhide HZ).row hc3; exact ⟨p.m, p.b, p.l, p.v, p.f, p.dv⟩) (unhide HZ).cq); clear hr3 hc3)
      | (refine fl_idle rfl _ _ rfl b _ rfl rfl (unhide HZ).row ?_; intro w3 hr3 hc3; have y0 := (Bx.of hr3).c0; have y1 := (Bx.of hr3).c1; have y2 := (Bx.of hr3).c2; have y10 := (Bx.of hr3).c10; have y15 := (Bx.of hr3).c15; replace HZ := hide ((unhide HZ).set hr3 hc3 (by have p := (unhide HZ).pf.box (unhide HZ).row hc3; exact ⟨p.m, p.b, p.l, p.v, p.f, p.dv⟩) (unhide HZ).cq); clear hr3 hc3)
      | (refine fl_wait rfl _ _ rfl b _ rfl rfl (unhide HZ).row ?_; intro w3 hr3 hc3; have y0 := (Bx.of hr3).c0; have y1 := (Bx.of hr3).c1; have y2 := (Bx.of hr3).c2; have y10 := (Bx.of hr3).c10; have y15 := (Bx.of hr3).c15; replace HZ := hide ((unhide HZ).set hr3 hc3 (by have p := (unhide HZ).pf.box (unhide HZ).row hc3; exact ⟨p.m, p.b, p.l, p.v, p.f, p.dv⟩) (unhide HZ).cq); clear hr3 hc3)
      | (refine fl_votes rfl _ _ rfl b none [] 0 rfl rfl (unhide HZ).row ?_; intro w3 hr3 hc3; have y0 := (Bx.of hr3).c0; have y1 := (Bx.of hr3).c1; have y2 := (Bx.of hr3).c2; have y10 := (Bx.of hr3).c10; have y15 := (Bx.of hr3).c15; replace HZ := hide ((unhide HZ).set hr3 hc3 (by have p := (unhide HZ).pf.box (unhide HZ).row hc3; exact ⟨p.m, p.b, p.l, El.O.nil _ _, p.f, fun k j hk => by cases hk⟩) ⟨(unhide HZ).cq.1, (unhide HZ).cq.2.1, fun k hk => by cases hk⟩); clear hr3 hc3)
      | (at_builtin; refine app1_el (E := E69) (noop s.term) L' (unhide HL') ((unhide HZ).pf.l.bel ((Bel.refl _).alloc _)) (Nat.le_trans (unhide HZ).hw (Nat.le_trans (unhide HZ).bel.size ((Bel.refl _).alloc _).size)) _ _ (at_new _ _) (by have := (unhide HLen); omega) rfl _ _ 27 rfl rfl rfl rfl ?_; intro g cap w4 ho4 hg4 hat4; have q4 := ((unhide HZ).next ((Bel.refl _).alloc _)).appL hg4; have HCL := hide (cq_app (n := L'.length) (c := cap) (unhide HZ).cq.1 ((unhide HZ).next ((Bel.refl _).alloc _)).bel hat4); have HY := hide (And.intro q4 ho4); clear q4 ho4 hg4 hat4)
      | (refine fl_log rfl _ _ rfl b _ L' _ rfl rfl (unhide HY).1.1.row ?_; intro w3 hr3 hc3; have y0 := (Bx.of hr3).c0; have y1 := (Bx.of hr3).c1; have y2 := (Bx.of hr3).c2; have y10 := (Bx.of hr3).c10; have y15 := (Bx.of hr3).c15;  replace HZ := hide ((unhide HY).1.1.set hr3 hc3 ⟨(unhide HY).1.1.m.box (unhide HY).1.1.row (by decide) hc3, (unhide HY).1.1.mb.box (unhide HY).1.1.row (by decide) hc3, (unhide HY).2.box (unhide HY).1.1.row (by decide) hc3, (unhide HY).1.2.1.box (unhide HY).1.1.row (by decide) hc3, (unhide HY).1.2.2.box (unhide HY).1.1.row (by decide) hc3, (unhide HY).1.1.dv⟩ ⟨unhide HCL, (unhide HY).1.1.cq.2.1, (unhide HY).1.1.cq.2.2⟩); clear hr3 hc3 HY)
      | (go_at_call 79; refine (last_any (unhide HZ).pf.pw.l (unhide HLen).2).mono ?_; rintro e w5 ⟨he5, hb5⟩; obtain ⟨tT, hT5⟩ : ∃ tT, e = .returned (.tuple #[.int .u64 (L'.length : Int), .int .u64 tT]) := ⟨_, he5⟩; clear he5; subst hT5; replace HZ := hide ((unhide HZ).next hb5); clear hb5)
      | (go_at_call 169; refine (others_own (unhide HZ).pf.pw.m (unhide HNN).1 (unhide HNN).2).mono ?_; rintro e w6 ⟨a6, c6, rfl, hs6, hb6⟩; have HS6 := hide (hs6.mono (Nat.zero_le _)); replace HZ := hide ((unhide HZ).next hb6); clear hb6 hs6)
      | (refine bx_ldG rfl 31 _ rfl b rfl _ _ (unhide HZ).row Tryz.underlying31 (Tryz.size32 _ _ _) ?_))
    clear y0 y1 y2 y10 y15 y14
    have HW2 : Hid (s.win n = { s with role := 2, lead := s.id, votes := [], idle := 2, log := L', fol := (oth n s.id).map fun i => (i, (L'.length : Int), (0 : Int)) }) := hide (by unfold PP.win; rw [← unhide HL', show ((s.log.length : Int) + 1) = (L'.length : Int) by have := (unhide HLen).1; omega])
    generalize hno : (oth n s.id).length = no at *
    have hno64 : no ≤ 64 := by rw [← hno]; exact Nat.le_trans (List.length_filter_le _ _) (by rw [mem_len]; exact (unhide HNN).1)
    go_loopw [36] (WinR base W b b2 n s x L' no a6 c6 g cap) (fun vk _ => no - (intOf vk).toNat)
    case atStart =>
      refine ⟨0, x.aF, x.cF, [], Nat.zero_le _, rfl, hide rfl, hide ⟨?_, unhide HS6⟩⟩
      have := unhide HZ
      rw [unhide HF0] at this
      exact this
    case round =>
      obtain ⟨k, aF, cF, F, hk, rfl, HFk, HZr⟩ := hrel
      have z15 : wr.cell? ⟨b, 15, none⟩ = some (.slice aF F.length cF) := (Bx.of (unhide HZr).1.row).c15
      by_cases hlt : k < no
      · have hkn : (k : Int) < no := by omega
        have hkl : k < (oth n s.id).length := by rw [hno]; exact hlt
        obtain ⟨g6, rfl⟩ : ∃ g6, a6 = some ⟨g6, 0, none⟩ := by
          obtain ⟨a', c', g', e, hh, _⟩ := (unhide HZr).2.shape
          injection e with e1
          exact ⟨g', e1.trans (hh (by omega))⟩
        have hR6 : E3.R wr g6 0 (oth n s.id) := by have := (unhide HZr).2; rw [← hno] at this; exact this.row
        have r0 := E3_cell hR6 k hkl
        rw [Nat.zero_add] at r0
        obtain ⟨F', hF'⟩ : ∃ F', F' = F ++ [((oth n s.id)[k], (L'.length : Int), (0 : Int))] := ⟨_, rfl⟩
        have HF2 : Hid (F' = ((oth n s.id).take (k + 1)).map fun i => (i, (L'.length : Int), (0 : Int))) := hide (by
          rw [hF', unhide HFk, List.take_add_one, List.getElem?_eq_getElem hkl, List.map_append]; rfl)
        have HF' := hide hF'
        have hFl : F.length ≤ 64 := by rw [unhide HFk]; simp; omega
        generalize (oth n s.id)[k] = id at *
        clear hF' hR6
        go_wp2_with (first
          | (at_builtin; refine app1_el (E := E65) (id, (L'.length : Int), (0 : Int)) F' (unhide HF') ((unhide HZr).1.pf.f.bel ((Bel.refl _).alloc _)) (Nat.le_trans (unhide HZr).1.hw (Nat.le_trans (unhide HZr).1.bel.size ((Bel.refl _).alloc _).size)) _ _ (at_new _ _) (by omega) rfl _ _ 28 rfl rfl rfl rfl ?_; intro gF capF w4 ho4 hg4 hat4; have q4 := ((unhide HZr).1.next ((Bel.refl _).alloc _)).appF hg4; have HCF := hide (cq_app (n := F'.length) (c := capF) (unhide HZr).1.cq.2.1 ((unhide HZr).1.next ((Bel.refl _).alloc _)).bel hat4); have o6 := ((unhide HZr).2.bel ((Bel.refl wr).alloc _)).grown ((unhide HZr).1.pf.f.bel ((Bel.refl wr).alloc _)) hg4 (by decide); have HY := hide (And.intro q4 (And.intro ho4 o6)); clear q4 ho4 hg4 o6 hat4)
          | (refine fl_fol rfl _ _ rfl b _ F' _ rfl rfl (unhide HY).1.1.row ?_; intro w7 hr7 hc7; have HZ7 : Hid (Wz base (Kx s x) W w7 b b2 n { s with role := 2, lead := s.id, votes := [], idle := 2, log := L', fol := F' } { x with aL := some ⟨g, 0, none⟩, cL := cap, aV := none, cV := 0, aF := some ⟨gF, 0, none⟩, cF := capF } ∧ E3.O 0 w7 (.slice (some ⟨g6, 0, none⟩) no c6) (oth n s.id)) := hide ⟨(unhide HY).1.1.set hr7 hc7 ⟨(unhide HY).1.1.m.box (unhide HY).1.1.row (by decide) hc7, (unhide HY).1.1.mb.box (unhide HY).1.1.row (by decide) hc7, (unhide HY).1.2.2.box (unhide HY).1.1.row (by decide) hc7, (unhide HY).1.2.1.box (unhide HY).1.1.row (by decide) hc7, (unhide HY).2.1.box (unhide HY).1.1.row (by decide) hc7, (unhide HY).1.1.dv⟩ ⟨(unhide HY).1.1.cq.1, unhide HCF, (unhide HY).1.1.cq.2.2⟩, (unhide HY).2.2.box (unhide HY).1.1.row (by decide) hc7⟩; clear hr7 hc7 HY))
        go_roundw
        case rel =>
          have hfin : ∀ v : Value, v = .int .i64 ((k + 1 : Nat) : Int) → WinR base W b b2 n s x L' no (some ⟨g6, 0, none⟩) c6 g cap v w7 := fun v hv => ⟨k + 1, _, _, F', by omega, hv, HF2, HZ7⟩
          first
            | exact hfin _ (by go_num)
            | ((repeat apply Exists.intro); exact ⟨hfin _ (by go_num), rfl⟩)
        case measure => simp [intOf]; omega
      · obtain rfl : k = no := by omega
        have hFF : F = (oth n s.id).map fun i => (i, (L'.length : Int), (0 : Int)) := by rw [unhide HFk, List.take_of_length_le (by omega)]
        have HZ := hide (unhide HZr).1
        have HEE : Hid (s.winIf n = { s with role := 2, lead := s.id, votes := [], idle := 2, log := L', fol := F }) := hide (by rw [unhide HW, unhide HW2, hFF])
        clear hFF z15
        go_wp2_with (first
          | (refine bx_ldG rfl 31 _ rfl b rfl _ _ (unhide HZ).row Tryz.underlying31 (Tryz.size32 _ _ _) ?_)
          | (obtain ⟨s2, x2, n2, h2⟩ := (unhide HZ).row2; refine bx_st rfl 31 _ _ rfl b2 _ _ rfl rfl h2 (Tryz.size32 _ _ _) rfl (pc_one _ _ _) ?_; intro w9 hr9 hc9; have HR9 := hide (And.intro hr9 (And.intro (ch_off (unhide HZ).bel hc9 (unhide HZ).ge2) ((unhide HZ).pf.box h2 hc9))); clear hr9 hc9 h2))
        rw [unhide HEE]
        refine bodyPost_ret (res1 (p := 2) rfl Tryz.underlying31 (Tryz.size32 _ _ _) (unhide HR9).1 _ rfl) rfl ⟨_, rfl, (unhide HR9).2.2, (unhide HR9).2.1⟩
end Go.Proofs.YthekbhliokcpcaaGreat
