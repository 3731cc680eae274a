/- A member of any kind in its box, its lists its own: how it is changed. winIfMost of any member. Messages in general. grants, of any member. A list of one message: what a member answers to a leader's snapshot. -/
import Derived.Test.YthekbhliokcpcaaGreatT12
import Derived.Test.YthekbhliokcpcaaGreatT03
import Derived.Test.YthekbhliokcpcaaGreatT06
namespace Go.Proofs.YthekbhliokcpcaaGreat
open Go.RowKit Go.Maps Go.Sort
def Kp (W w : World) : Prop := ∀ (k : Nat) (c : Array Value) (t : Nat), W.heap[k]? = some (.cells c t) → t ≠ 53 ∧ t ≠ 79 ∧ t ≠ 3 → w.heap[k]? = some (.cells c t)
theorem Kp.refl (W : World) : Kp W W := fun _ _ _ h _ => h
theorem Kp.trans {a b c : World} (h : Kp a b) (h' : Kp b c) : Kp a c := fun k r t q h1 => h' k r t (h k r t q h1) h1
theorem Kp.bel {a b c : World} (h : Kp a b) (hb : Bel b c) : Kp a c := fun k r t q h1 => hb.row (h k r t q h1)
theorem Kp.off {a b c : World} {j : Nat} (h : Kp a b) (hc : Ch (fun i => i = j) b c) (hj : a.heap.size ≤ j) : Kp a c := fun k r t q h1 => hc.row (h k r t q h1) (fun e => by have := lt_of_some q; omega)
theorem Kp.grew {β : Type} {F : El β} {base2 : Nat} {a b c : World} {v2 : Value} {L2 : List β} (h : Kp a b) (h2 : F.O base2 b v2 L2) (hg : b.grownBy c v2.ownBlock) (hF : F.e = 53 ∨ F.e = 79 ∨ F.e = 3) : Kp a c := fun k r t q h1 => row_grown (h k r t q h1) h2 hg (fun e => by rcases hF with e' | e' | e'; exact h1.1 (e.trans e'); exact h1.2.1 (e.trans e'); exact h1.2.2 (e.trans e'))
theorem El.O.kp {α : Type} {E : El α} {base : Nat} {W w : World} {v : Value} {L : List α} (h : E.O base W v L) (hk : Kp W w) (h1 : E.e ≠ 53 ∧ E.e ≠ 79 ∧ E.e ≠ 3) : E.O base w v L := h.at (fun k hk' => by
 obtain ⟨c, hc⟩ := h.block hk'
 rw [hc]; exact hk k c _ hc h1)
structure Wg (base : Nat) (W w : World) (b b2 : Nat) (s : GP) (x : Px) : Prop where
 row : w.heap[b]? = some (.cells (gc s x) 31)
 pg : Pg base w s x
 bel : Below base W w
 row2 : ∃ s2 x2, w.heap[b2]? = some (.cells (gc s2 x2) 31)
 ge : W.heap.size ≤ b
 ge2 : W.heap.size ≤ b2
 ne : b2 ≠ b
 hB : base ≤ W.heap.size
 hs : W.heap.size ≤ w.heap.size
 kp : Kp W w
theorem Wg.hw {base : Nat} {W w : World} {b b2 : Nat} {s : GP} {x : Px} (h : Wg base W w b b2 s x) : base ≤ w.heap.size := Nat.le_trans h.hB h.hs
theorem Below.ofBel {base : Nat} {a b c : World} (h : Below base a b) (hb : Bel b c) (hs : base ≤ b.heap.size) : Below base a c := Below.trans h (Below.mono hb hs)
theorem Below.offCh {base k : Nat} {a b c : World} (h : Below base a b) (hc : Ch (fun i => i = k) b c) (hs : base ≤ b.heap.size) (hk : base ≤ k) : Below base a c := Below.trans h (hc.below hs (fun i hi => by rw [hi]; exact hk))
theorem Below.grew {base : Nat} {a b c : World} {r : Option Nat} (h : Below base a b) (hg : b.grownBy c r) (hs : base ≤ b.heap.size) (hr : ∀ k, r = some k → base ≤ k) : Below base a c := Below.trans h ((Below.refl _ b).grown hg hs hr)
section
variable {base : Nat} {W w w' w2 : World} {b b2 : Nat} {s s' : GP} {x x' : Px}
theorem Wg.next (h : Wg base W w b b2 s x) (hb : Bel w w') : Wg base W w' b b2 s x := by
 obtain ⟨s2, x2, h2⟩ := h.row2
 exact ⟨hb.row h.row, h.pg.bel hb, Below.ofBel h.bel hb h.hw, ⟨s2, x2, hb.row h2⟩, h.ge, h.ge2, h.ne, h.hB, Nat.le_trans h.hs hb.size, h.kp.bel hb⟩
theorem Wg.set (h : Wg base W w b b2 s x) (h1 : w'.heap[b]? = some (.cells (gc s' x') 31)) (hc : Ch (fun i => i = b) w w') (hp : Pg base w s x → Pg base w s' x') : Wg base W w' b b2 s' x' := by
 obtain ⟨s2, x2, h2⟩ := h.row2
 exact ⟨h1, (hp h.pg).box h.row hc, Below.offCh h.bel hc h.hw (Nat.le_trans h.hB h.ge), ⟨s2, x2, hc.row h2 h.ne⟩, h.ge, h.ge2, h.ne, h.hB, Nat.le_trans h.hs hc.size, h.kp.off hc h.ge⟩
theorem Wg.out (h : Wg base W w b b2 s x) (h2 : w.heap[b2]? = some (.cells (gc s' x') 31)) (hc : Ch (fun i => i = b2) w w') : Pg base w' s x ∧ Below base W w' ∧ Kp W w' := ⟨h.pg.box h2 hc, Below.offCh h.bel hc h.hw (Nat.le_trans h.hB h.ge2), h.kp.off hc h.ge2⟩
theorem Wg.logd {LG : List (GE × GA)} {e : GE} {y : GA} {g cap : Nat} {l' : List GE} (h : Wg base W w b b2 s x) (hl' : l' = s.log ++ [e]) (hl : Ll base w x.aL x.cL s.log LG) (hy : E3.O base w (.slice y.a e.m.length y.c) e.m) (hO : EG.O base w' (.slice (some ⟨g, 0, none⟩) l'.length cap) (LG ++ [(e, y)])) (hG : w.grownBy w' (Value.slice x.aL s.log.length x.cL).ownBlock) (hr : w2.heap[b]? = some (.cells (gc { s with log := l' } { x with aL := some ⟨g, 0, none⟩, cL := cap }) 31)) (hc : Ch (fun k => k = b) w' w2) : Wg base W w2 b b2 { s with log := l' } { x with aL := some ⟨g, 0, none⟩, cL := cap } := by
 have hrow := row_grown h.row hl.row hG (by decide)
 obtain ⟨s2, x2, hr2⟩ := h.row2
 have hbel : Below base W w' := Below.grew h.bel hG h.hw (fun k hk => (hl.row.lt hk).1)
 refine ⟨hr, ⟨(h.pg.m.grown hl.row hG (by decide)).box hrow (by decide) hc, (h.pg.b.grown hl.row hG (by decide)).box hrow (by decide) hc, ⟨LG ++ [(e, y)], ?_, hO.box hrow (by decide) hc, ?_⟩, (h.pg.v.grown hl.row hG (by decide)).box hrow (by decide) hc, (h.pg.f.grown hl.row hG (by decide)).box hrow (by decide) hc, ?_, h.pg.dv⟩, Below.offCh hbel hc (Nat.le_trans h.hw hG.size) (Nat.le_trans h.hB h.ge), ⟨s2, x2, hc.row (row_grown hr2 hl.row hG (by decide)) h.ne⟩, h.ge, h.ge2, h.ne, h.hB, Nat.le_trans h.hs (Nat.le_trans hG.size hc.size), (h.kp.grew hl.row hG (Or.inl rfl)).off hc h.ge⟩
 ·rw [List.map_append, hl.map, hl']; rfl
 ·intro z hz
  rcases List.mem_append.1 hz with h9 | h9
  ·exact ((hl.own z h9).grown hl.row hG (by decide)).box hrow (by decide) hc
  ·rw [List.mem_singleton.1 h9]
   exact (hy.grown hl.row hG (by decide)).box hrow (by decide) hc
 ·obtain ⟨LR, q1, q2, q3⟩ := h.pg.r
  exact ⟨LR, q1, (q2.grown hl.row hG (by decide)).box hrow (by decide) hc, fun z hz => ((q3 z hz).grown hl.row hG (by decide)).box hrow (by decide) hc⟩
theorem Wg.fold {g cap : Nat} {F' : List (Int × Int × Int)} (h : Wg base W w b b2 s x) (hO : E65.O base w' (.slice (some ⟨g, 0, none⟩) F'.length cap) F') (hG : w.grownBy w' (Value.slice x.aF s.fol.length x.cF).ownBlock) (hr : w2.heap[b]? = some (.cells (gc { s with fol := F' } { x with aF := some ⟨g, 0, none⟩, cF := cap }) 31)) (hc : Ch (fun k => k = b) w' w2) : Wg base W w2 b b2 { s with fol := F' } { x with aF := some ⟨g, 0, none⟩, cF := cap } := by
 have hrow := row_grown h.row h.pg.f hG (by decide)
 obtain ⟨s2, x2, hr2⟩ := h.row2
 have hbel : Below base W w' := Below.grew h.bel hG h.hw (fun k hk => (h.pg.f.lt hk).1)
 refine ⟨hr, ⟨(h.pg.m.grown h.pg.f hG (by decide)).box hrow (by decide) hc, (h.pg.b.grown h.pg.f hG (by decide)).box hrow (by decide) hc, ?_, (h.pg.v.grown h.pg.f hG (by decide)).box hrow (by decide) hc, hO.box hrow (by decide) hc, ?_, h.pg.dv⟩, Below.offCh hbel hc (Nat.le_trans h.hw hG.size) (Nat.le_trans h.hB h.ge), ⟨s2, x2, hc.row (row_grown hr2 h.pg.f hG (by decide)) h.ne⟩, h.ge, h.ge2, h.ne, h.hB, Nat.le_trans h.hs (Nat.le_trans hG.size hc.size), (h.kp.grew h.pg.f hG (Or.inr (Or.inl rfl))).off hc h.ge⟩
 ·obtain ⟨LG, hl⟩ := h.pg.l
  exact ⟨LG, hl.map, (hl.row.grown h.pg.f hG (by decide)).box hrow (by decide) hc, fun z hz => ((hl.own z hz).grown h.pg.f hG (by decide)).box hrow (by decide) hc⟩
 ·obtain ⟨LR, q1, q2, q3⟩ := h.pg.r
  exact ⟨LR, q1, (q2.grown h.pg.f hG (by decide)).box hrow (by decide) hc, fun z hz => ((q3 z hz).grown h.pg.f hG (by decide)).box hrow (by decide) hc⟩
end
theorem app_ll {ops : Array Oper} {rest : List Oper} {o : Oper} {a : Act} {Q : Exit → Act → World → Prop} {W : World} {base : Nat} {aL : Option Addr} {cL : Nat} {l : List GE} {LG : List (GE × GA)} (e : GE) (y : GA) (l' : List GE) (hl' : l' = l ++ [e]) (hl : Ll base W aL cL l LG) (hbase : base ≤ W.heap.size) (B c : Nat) (hB : W.heap[B]? = some (.cells (encG (e, y)).toArray 53)) (hb : l.length + 1 ≤ 100000000000)
  (hgd : o.guard = none) (p q : Operand) (t : TypeId) (ht : t = 27) (ho : o.op = .call { callee := .builtin .append, args := #[p, q], argTypes := #[t, t] }) (hs : a.eval p = .slice aL l.length cL) (hq : a.eval q = .slice (some ⟨B, 0, none⟩) 1 c)
  (hK : ∀ g cap w', EG.O base w' (.slice (some ⟨g, 0, none⟩) l'.length cap) (LG ++ [(e, y)]) → W.grownBy w' (Value.slice aL l.length cL).ownBlock → wpList Tryz.prog ops Q rest (a.put o.dst (.slice (some ⟨g, 0, none⟩) l'.length cap)) w') : wpList Tryz.prog ops Q (o :: rest) a W := by
 have hLG : LG.length = l.length := by rw [← hl.map, List.length_map]
 have hlen : l'.length = (LG ++ [(e, y)]).length := by rw [hl', List.length_append, List.length_append, hLG]; rfl
 rw [← hLG] at hs hK hb
 rw [hlen] at hK
 exact app1_el (E := EG) (e, y) (LG ++ [(e, y)]) rfl (by rw [hLG]; exact hl.row) hbase B c hB hb hgd p q t ht ho hs hq (fun g cap w' h1 h2 _ => hK g cap w' h1 h2)
set_option maxRecDepth 100000 in
set_option maxHeartbeats 1000000 in
theorem othersO_g {W : World} {s : GP} {x : Px} (h : Sl E3 W x.aM s.M) (hn : s.M.length ≤ 1000000) (h1 : 1 ≤ s.M.length) : Calls Tryz.prog 169 #[.agg (gc s x)] W fun e w' => ∃ a' c', e = .returned (.slice a' (othG s).length c') ∧ E3.O W.heap.size w' (.slice a' (othG s).length c') (othG s) ∧ Bel W w' := by
 have HC : Hid (∀ w1, Bel W w1 → Calls Tryz.prog 99 #[.slice x.aM s.M.length x.cM] w1 fun e w' => ∃ a' c', e = .returned (.slice a' s.M.length c') ∧ E3.O w1.heap.size w' (.slice a' s.M.length c') s.M ∧ Bel w1 w') := jd (fun w1 hb => clone3w rfl (h.bel hb) (by omega))
 clear h
 go_enter Tryz.func169, Tryz.ntmps169
 go_wp2_with (first
  | (refine bx_boxK 31 (.tmp 0) (by exact rfl) (by exact rfl) (gc s x) (by exact rfl) ?_; intro b w0 hr0 hs0 hb0; have y1 := (Bg.of hr0).c1; have HR0 := jd hr0; have HB0 := jd hb0; clear hr0 hs0 hb0)
  | (go_at_call 99; refine ((ju HC) _ (ju HB0)).mono ?_; rintro e w1 ⟨a1, c1, rfl, ho1, hb1⟩; have HO1 := jd (aI ho1 hb1); have HR1 := jd (hb1.row (ju HR0)); clear ho1 hb1))
 obtain ⟨g, rfl⟩ : ∃ g, a1 = some ⟨g, 0, none⟩ := by
  obtain ⟨a', c', g', e, hh, _⟩ := (ju HO1).1.shape
  injection e with e1
  exact ⟨g', e1.trans (hh (by omega))⟩
 refine (delete_any (id := s.id) (ju HR1) rfl (ju HO1).1 rfl (by omega)).mono ?_
 rintro e w2 ⟨rfl, ho2, hc2⟩
 have HF := jd (aI (ho2.mono (ju HB0).size) (bel_off ((ju HB0).trans (ju HO1).2) hc2 (Nat.le_trans (ju HB0).size ((ju HO1).1.lt (k := g) rfl).1)))
 clear ho2 hc2
 go_wp2_with fail
 go_ret
 first | exact ⟨_, _, rfl, (ju HF).1, (ju HF).2⟩ | exact ⟨_, ⟨_, rfl⟩, (ju HF).1, (ju HF).2⟩
def noopG (t : Int) : GE := ⟨t, 1, ⟨#[]⟩, []⟩
def GP.maj (s : GP) : Bool := decide (s.M.length / 2 < s.votes.countP (fun x => decide (x ∈ s.M)))
def GP.win (s : GP) : GP := { s with role := 2, lead := s.id, votes := [], idle := 2, log := s.log ++ [noopG s.term], fol := (othG s).map fun i => (i, s.lastI + 1, (0 : Int)) }
def GP.winIf (s : GP) : GP := if s.maj then s.win else s
section
variable {base : Nat} {W w w' : World} {b b2 : Nat} {s : GP} {x : Px}
def Lq (base : Nat) (W w' : World) (b b2 : Nat) (s : GP) (x : Px) (l' : List GE) (g cap : Nat) : Prop := w'.heap[b]? = some (.cells (gc s x) 31) ∧ ∀ w2, w2.heap[b]? = some (.cells (gc { s with log := l' } { x with aL := some ⟨g, 0, none⟩, cL := cap }) 31) → Ch (fun k => k = b) w' w2 → Wg base W w2 b b2 { s with log := l' } { x with aL := some ⟨g, 0, none⟩, cL := cap }
theorem Wg.lq {LG : List (GE × GA)} {e : GE} {y : GA} {g cap : Nat} {l' : List GE} {o : Obj} (h : Wg base W w b b2 s x) (hl' : l' = s.log ++ [e]) (hl : Ll base w x.aL x.cL s.log LG) (hy : E3.O base w (.slice y.a e.m.length y.c) e.m) (hO : EG.O base w' (.slice (some ⟨g, 0, none⟩) l'.length cap) (LG ++ [(e, y)])) (hG : (w.alloc o).grownBy w' (Value.slice x.aL s.log.length x.cL).ownBlock) : Lq base W w' b b2 s x l' g cap := by
 have hb := (Bel.refl w).alloc o
 exact ⟨row_grown (hb.row h.row) (hl.bel hb).row hG (by decide), fun w2 hr hc => (h.next hb).logd hl' (hl.bel hb) (hy.bel hb) hO hG hr hc⟩
def Fq (base : Nat) (W w' : World) (b b2 : Nat) (s : GP) (x : Px) (l' : List (Int × Int × Int)) (g cap : Nat) : Prop := w'.heap[b]? = some (.cells (gc s x) 31) ∧ ∀ w2, w2.heap[b]? = some (.cells (gc { s with fol := l' } { x with aF := some ⟨g, 0, none⟩, cF := cap }) 31) → Ch (fun k => k = b) w' w2 → Wg base W w2 b b2 { s with fol := l' } { x with aF := some ⟨g, 0, none⟩, cF := cap }
theorem Wg.fq {g cap : Nat} {l' : List (Int × Int × Int)} {o : Obj} (h : Wg base W w b b2 s x) (hO : E65.O base w' (.slice (some ⟨g, 0, none⟩) l'.length cap) l') (hG : (w.alloc o).grownBy w' (Value.slice x.aF s.fol.length x.cF).ownBlock) : Fq base W w' b b2 s x l' g cap := by
 have hb := (Bel.refl w).alloc o
 exact ⟨row_grown (hb.row h.row) (h.pg.f.bel hb) hG (by decide), fun w2 hr hc => (h.next hb).fold hO hG hr hc⟩
end
def WrG (base : Nat) (W : World) (b b2 : Nat) (s : GP) (x : Px) (L' : List GE) (nx : Int) (no : Nat) (a6 : Option Addr) (c6 g cap : Nat) (vk : Value) (wr : World) : Prop := ∃ (k : Nat) (aF : Option Addr) (cF : Nat) (F : List (Int × Int × Int)), k ≤ no ∧ vk = .int .i64 k ∧ Hid (F = ((othG s).take k).map fun i => (i, nx, (0 : Int))) ∧ Hid (Wg base W wr b b2 { s with role := 2, lead := s.id, votes := [], idle := 2, log := L', fol := F } { x with aL := some ⟨g, 0, none⟩, cL := cap, aV := none, cV := 0, aF := aF, cF := cF } ∧ E3.O 0 wr (.slice a6 no c6) (othG s))
set_option maxRecDepth 100000 in
set_option maxHeartbeats 4000000 in
theorem win_g {base : Nat} {W : World} {s : GP} {x : Px} (h : Pg base W s x) (hB : base ≤ W.heap.size) (hn : s.M.length ≤ 64) (h1 : 1 ≤ s.M.length) (h0 : 0 ≤ s.base) (h62 : s.base ≤ 4611686018427387904) (hl : s.log.length ≤ 99999) (hM : Ris s.M) (hr : Ris s.votes) (hv : s.votes.length ≤ 64) (hf : s.fol = []) : Calls Tryz.prog 170 #[.agg (gc s x)] W fun e w' => ∃ x', e = .returned (.agg (gc s.winIf x')) ∧ Pg base w' s.winIf x' ∧ Below base W w' ∧ Kp W w' := by
 have HM : Hid (∀ W', Bel W W' → Calls Tryz.prog 18 #[.slice x.aM s.M.length x.cM, .slice x.aV s.votes.length x.cV] W' fun e w' => e = .returned (.bool s.maj) ∧ Bel W' w') := jd (fun W' hb =>
  majority_any (cap := x.cM) (cap2 := x.cV) ((Sl.of (h.m.bel hb)).1) ((Sl.of (h.v.bel hb)).1) (by omega) (by omega) hM (fun _ => Iff.rfl) hr (fun _ => Iff.rfl) (by omega) (by omega))
 have HP := jd h
 have HBS := jd hB
 cases hmj : s.maj with
 | false =>
  rw [hmj] at HM
  have HW : Hid (s.winIf = s) := jd (by unfold GP.winIf; rw [hmj]; rfl)
  clear h hB hn h1 h0 h62 hl hM hr hv hf hmj
  go_enter Tryz.func170, Tryz.ntmps170
  go_wp2_with (first
   | (refine bx_boxK 31 (.tmp 0) (by exact rfl) (by exact rfl) (gc s x) (by exact rfl) ?_; intro b w0 hr0 hs0 hb0; have HR0 := jd hr0; have HB0 := jd (aI hb0 hs0); clear hr0 hs0 hb0)
   | (refine bx_new rfl 31 rfl _ Tryz.zeroP ?_; intro b2 w1 hr1 hs1 hb1; have y0 := (Bg.of (hb1.row (ju HR0))).c0; have y1 := (Bg.of (hb1.row (ju HR0))).c1; have y2 := (Bg.of (hb1.row (ju HR0))).c2; have y14 := (Bg.of (hb1.row (ju HR0))).c14; have HBW := jd ((ju HB0).1.trans hb1); have HZ : Hid (Wg base W w1 b b2 s x) := jd ⟨hb1.row (ju HR0), (ju HP).bel ((ju HB0).1.trans hb1), Below.ofBel (Below.refl _ _) ((ju HB0).1.trans hb1) (ju HBS), ⟨_, _, hr1⟩, by have := (ju HB0).2; omega, by have := (ju HB0).1.size; omega, fun e => by have := lt_of_some (ju HR0); omega, ju HBS, ((ju HB0).1.trans hb1).size, (Kp.refl W).bel ((ju HB0).1.trans hb1)⟩; clear hr1 hs1 hb1)
   | (go_at_call 18; refine ((ju HM) _ (ju HBW)).mono ?_; rintro e w2 ⟨rfl, hb2⟩; replace HZ := jd ((ju HZ).next hb2); clear hb2)
   | (refine bx_ldK 31 (.tmp 1) (by exact rfl) b (by exact rfl) (by exact rfl) (gc s x) _ (ju HZ).row u31 (zP _ _) ?_)
   | (obtain ⟨s2, x2, h2⟩ := (ju HZ).row2; refine bx_st rfl 31 (.tmp 2) _ rfl b2 (gc s x) _ rfl rfl h2 (zP _ _) rfl (gc_one _ _) ?_; intro w9 hr9 hc9; have HR9 := jd (aI hr9 ((ju HZ).out h2 hc9)); clear hr9 hc9 h2))
  rw [ju HW]
  refine bodyPost_ret (res1 (p := 2) rfl u31 (zP _ _) (ju HR9).1 _ rfl) rfl ⟨_, rfl, (ju HR9).2.1, (ju HR9).2.2⟩
 | true =>
  rw [hmj] at HM
  have HW : Hid (s.winIf = s.win) := jd (by unfold GP.winIf; rw [hmj]; rfl)
  obtain ⟨L', hL'⟩ : ∃ L', L' = s.log ++ [noopG s.term] := ⟨_, rfl⟩
  have HL' := jd hL'
  have hlen : L'.length = s.log.length + 1 := by rw [hL']; simp
  have HLen : Hid (s.log.length + 1 ≤ 100000000000) := jd (by omega)
  have HF0 := jd hf
  obtain ⟨nx, hnx⟩ : ∃ nx, nx = s.lastI + 1 := ⟨_, rfl⟩
  have HNX := jd hnx
  have HO : Hid (∀ w1 x1 F, Sl E3 w1 x1.aM s.M → Calls Tryz.prog 169 #[.agg (gc { s with role := 2, lead := s.id, votes := [], idle := 2, log := L', fol := F } x1)] w1 fun e w' => ∃ a' c', e = .returned (.slice a' (othG s).length c') ∧ E3.O w1.heap.size w' (.slice a' (othG s).length c') (othG s) ∧ Bel w1 w') := jd (fun w1 x1 F hs => othersO_g (s := { s with role := 2, lead := s.id, votes := [], idle := 2, log := L', fol := F }) hs (by show s.M.length ≤ _; omega) h1)
  have HLA : Hid (∀ w1 x1 F, SlG w1 x1.aL L' → Calls Tryz.prog 79 #[.agg (gc { s with role := 2, lead := s.id, votes := [], idle := 2, log := L', fol := F } x1)] w1 fun e w' => ∃ t, e = .returned (.tuple #[.int .u64 nx, .int .u64 t]) ∧ Bel w1 w') := jd (fun w1 x1 F hs => by
   have q := last_g (s := { s with role := 2, lead := s.id, votes := [], idle := 2, log := L', fol := F }) (x := x1) hs h0 h62 (by show L'.length ≤ _; omega)
   rw [show ({ s with role := 2, lead := s.id, votes := [], idle := 2, log := L', fol := F } : GP).lastI = nx by rw [hnx]; unfold GP.lastI; show s.base + (L'.length : Int) = _; omega] at q
   exact q.mono (fun e w' k => ⟨_, k.1, k.2⟩))
  have HON : Hid ((othG s).length ≤ 64) := jd (Nat.le_trans (List.length_filter_le _ _) hn)
  clear h hB hn h1 h0 h62 hl hM hr hv hf hmj hlen hL' hnx
  go_enter Tryz.func170, Tryz.ntmps170
  go_wp2_with (first
   | (refine bx_boxK 31 (.tmp 0) (by exact rfl) (by exact rfl) (gc s x) (by exact rfl) ?_; intro b w0 hr0 hs0 hb0; have HR0 := jd hr0; have HB0 := jd (aI hb0 hs0); clear hr0 hs0 hb0)
   | (refine bx_new rfl 31 rfl _ Tryz.zeroP ?_; intro b2 w1 hr1 hs1 hb1; have y0 := (Bg.of (hb1.row (ju HR0))).c0; have y1 := (Bg.of (hb1.row (ju HR0))).c1; have y2 := (Bg.of (hb1.row (ju HR0))).c2; have y14 := (Bg.of (hb1.row (ju HR0))).c14; have HBW := jd ((ju HB0).1.trans hb1); have HZ : Hid (Wg base W w1 b b2 s x) := jd ⟨hb1.row (ju HR0), (ju HP).bel ((ju HB0).1.trans hb1), Below.ofBel (Below.refl _ _) ((ju HB0).1.trans hb1) (ju HBS), ⟨_, _, hr1⟩, by have := (ju HB0).2; omega, by have := (ju HB0).1.size; omega, fun e => by have := lt_of_some (ju HR0); omega, ju HBS, ((ju HB0).1.trans hb1).size, (Kp.refl W).bel ((ju HB0).1.trans hb1)⟩; clear hr1 hs1 hb1)
   | (go_at_call 18; refine ((ju HM) _ (ju HBW)).mono ?_; rintro e w2 ⟨rfl, hb2⟩; have y0 := (Bg.of ((ju HZ).next hb2).row).c0; replace HZ := jd ((ju HZ).next hb2); clear hb2)
   | (refine gl_role rfl _ _ rfl b _ rfl rfl (ju HZ).row ?_; intro w3 hr3 hc3; have y0 := (Bg.of hr3).c0; have y1 := (Bg.of hr3).c1; have y2 := (Bg.of hr3).c2; have y10 := (Bg.of hr3).c10; have y15 := (Bg.of hr3).c15; replace HZ := jd ((ju HZ).set hr3 hc3 (fun p => ⟨p.m, p.b, p.l, p.v, p.f, p.r, p.dv⟩)); clear hr3 hc3)
   | (refine gl_lead rfl _ _ rfl b _ rfl rfl (ju HZ).row ?_; intro w3 hr3 hc3; have y0 := (Bg.of hr3).c0; have y1 := (Bg.of hr3).c1; have y2 := (Bg.of hr3).c2; have y10 := (Bg.of hr3).c10; have y15 := (Bg.of hr3).c15; replace HZ := jd ((ju HZ).set hr3 hc3 (fun p => ⟨p.m, p.b, p.l, p.v, p.f, p.r, p.dv⟩)); clear hr3 hc3)
   | (refine gl_idle rfl _ _ rfl b _ rfl rfl (ju HZ).row ?_; intro w3 hr3 hc3; have y0 := (Bg.of hr3).c0; have y1 := (Bg.of hr3).c1; have y2 := (Bg.of hr3).c2; have y10 := (Bg.of hr3).c10; have y15 := (Bg.of hr3).c15; replace HZ := jd ((ju HZ).set hr3 hc3 (fun p => ⟨p.m, p.b, p.l, p.v, p.f, p.r, p.dv⟩)); clear hr3 hc3)
   | (refine gl_votes rfl _ _ rfl b none [] 0 rfl rfl (ju HZ).row ?_; intro w3 hr3 hc3; have y0 := (Bg.of hr3).c0; have y1 := (Bg.of hr3).c1; have y2 := (Bg.of hr3).c2; have y10 := (Bg.of hr3).c10; have y15 := (Bg.of hr3).c15; replace HZ := jd ((ju HZ).set hr3 hc3 (fun p => ⟨p.m, p.b, p.l, El.O.nil _ _, p.f, p.r, fun k j hk => by cases hk⟩)); clear hr3 hc3)
   | (at_builtin; obtain ⟨LG, hlg⟩ := (ju HZ).pg.l; refine app_ll (noopG s.term) ⟨none, 0⟩ L' (ju HL') (hlg.bel ((Bel.refl _).alloc _)) (Nat.le_trans (ju HZ).hw ((Bel.refl _).alloc _).size) _ _ (at_new _ _) (ju HLen) rfl _ _ 27 rfl rfl rfl rfl ?_; intro g cap w4 ho4 hg4; have HY := jd ((ju HZ).lq (ju HL') hlg (El.O.nil _ _) ho4 hg4); clear hlg ho4 hg4)
   | (refine gl_log rfl _ _ rfl b _ L' _ rfl rfl (ju HY).1 ?_; intro w3 hr3 hc3; have y0 := (Bg.of hr3).c0; have y1 := (Bg.of hr3).c1; have y2 := (Bg.of hr3).c2; have y10 := (Bg.of hr3).c10; have y15 := (Bg.of hr3).c15; replace HZ := jd ((ju HY).2 _ hr3 hc3); clear hr3 hc3 HY)
   | (go_at_call 79; refine ((ju HLA) _ _ _ (ju HZ).pg.gp.l).mono ?_; rintro e w5 ⟨tT, rfl, hb5⟩; replace HZ := jd ((ju HZ).next hb5); clear hb5)
   | (go_at_call 169; refine ((ju HO) _ _ _ (ju HZ).pg.gp.m).mono ?_; rintro e w6 ⟨a6, c6, rfl, hs6, hb6⟩; have HS6 := jd (hs6.mono (Nat.zero_le _)); replace HZ := jd ((ju HZ).next hb6); clear hb6 hs6)
   | (refine bx_ldK 31 (.tmp 1) (by exact rfl) b (by exact rfl) (by exact rfl) _ _ (ju HZ).row u31 (zP _ _) ?_))
  clear y0 y1 y2 y10 y15 y14
  have HW2 : Hid (s.win = { s with role := 2, lead := s.id, votes := [], idle := 2, log := L', fol := (othG s).map fun i => (i, nx, (0 : Int)) }) := jd (by unfold GP.win; rw [← ju HL', ju HNX])
  generalize hno : (othG s).length = no at *
  have hno64 : no ≤ 64 := ju HON
  go_loopw [36] (WrG base W b b2 s x L' nx no a6 c6 g cap) (fun vk _ => no - (intOf vk).toNat)
  case atStart =>
   refine ⟨0, x.aF, x.cF, [], Nat.zero_le _, rfl, jd rfl, jd ⟨?_, ju HS6⟩⟩
   have := ju HZ
   rw [ju HF0] at this
   exact this
  case round =>
   obtain ⟨k, aF, cF, F, hk, rfl, HFk, HZr⟩ := hrel
   have z15 : wr.cell? ⟨b, 15, none⟩ = some (.slice aF F.length cF) := (Bg.of (ju HZr).1.row).c15
   by_cases hlt : k < no
   ·have hkn : (k : Int) < no := by omega
    have hkl : k < (othG s).length := by rw [hno]; exact hlt
    obtain ⟨g6, rfl⟩ : ∃ g6, a6 = some ⟨g6, 0, none⟩ := by
     obtain ⟨a', c', g', e, hh, _⟩ := (ju HZr).2.shape
     injection e with e1
     exact ⟨g', e1.trans (hh (by omega))⟩
    have hR6 : E3.R wr g6 0 (othG s) := by have := (ju HZr).2; rw [← hno] at this; exact this.row
    have r0 := E3_cell hR6 k hkl
    rw [Nat.zero_add] at r0
    obtain ⟨F', hF'⟩ : ∃ F', F' = F ++ [((othG s)[k], nx, (0 : Int))] := ⟨_, rfl⟩
    have HF2 : Hid (F' = ((othG s).take (k + 1)).map fun i => (i, nx, (0 : Int))) := jd (by
     rw [hF', ju HFk, List.take_add_one, List.getElem?_eq_getElem hkl, List.map_append]; rfl)
    have HF' := jd hF'
    have hFl : F.length ≤ 64 := by rw [ju HFk]; simp; omega
    generalize (othG s)[k] = id at *
    clear hF' hR6
    go_wp2_with (first
     | (at_builtin; refine app1_el (E := E65) (id, nx, (0 : Int)) F' (ju HF') ((ju HZr).1.pg.f.bel ((Bel.refl _).alloc _)) (Nat.le_trans (ju HZr).1.hw ((Bel.refl _).alloc _).size) _ _ (at_new _ _) (by show F.length + 1 ≤ _; omega) rfl _ _ 28 rfl rfl rfl rfl ?_; intro gF capF w4 ho4 hg4 hat4; have o6 := ((ju HZr).2.bel ((Bel.refl wr).alloc _)).grown ((ju HZr).1.pg.f.bel ((Bel.refl wr).alloc _)) hg4 (by decide); have HY := jd (aI ((ju HZr).1.fq ho4 hg4) o6); clear ho4 hg4 o6 hat4)
     | (refine gl_fol rfl _ _ rfl b _ F' _ rfl rfl (ju HY).1.1 ?_; intro w7 hr7 hc7; have HZ7 : Hid (Wg base W w7 b b2 { s with role := 2, lead := s.id, votes := [], idle := 2, log := L', fol := F' } { x with aL := some ⟨g, 0, none⟩, cL := cap, aV := none, cV := 0, aF := some ⟨gF, 0, none⟩, cF := capF } ∧ E3.O 0 w7 (.slice (some ⟨g6, 0, none⟩) no c6) (othG s)) := jd ⟨(ju HY).1.2 _ hr7 hc7, (ju HY).2.box (ju HY).1.1 (by decide) hc7⟩; clear hr7 hc7 HY))
    go_roundw
    case rel =>
     have hfin : ∀ v : Value, v = .int .i64 ((k + 1 : Nat) : Int) → WrG base W b b2 s x L' nx no (some ⟨g6, 0, none⟩) c6 g cap v w7 := fun v hv => ⟨k + 1, _, _, F', by omega, hv, HF2, HZ7⟩
     first
      | exact hfin _ (by go_num)
      | ((repeat apply Exists.intro); exact ⟨hfin _ (by go_num), rfl⟩)
    case measure => simp [intOf]; omega
   ·obtain rfl : k = no := by omega
    have hFF : F = (othG s).map fun i => (i, nx, (0 : Int)) := by rw [ju HFk, List.take_of_length_le (by omega)]
    have HZ := jd (ju HZr).1
    have HEE : Hid (s.winIf = { s with role := 2, lead := s.id, votes := [], idle := 2, log := L', fol := F }) := jd (by rw [ju HW, ju HW2, hFF])
    clear hFF z15
    go_wp2_with (first
     | (refine bx_ldK 31 (.tmp 1) (by exact rfl) b (by exact rfl) (by exact rfl) _ _ (ju HZ).row u31 (zP _ _) ?_)
     | (obtain ⟨s2, x2, h2⟩ := (ju HZ).row2; refine bx_st rfl 31 (.tmp 2) _ rfl b2 _ _ rfl rfl h2 (zP _ _) rfl (gc_one _ _) ?_; intro w9 hr9 hc9; have HR9 := jd (aI hr9 ((ju HZ).out h2 hc9)); clear hr9 hc9 h2))
    rw [ju HEE]
    refine bodyPost_ret (res1 (p := 2) rfl u31 (zP _ _) (ju HR9).1 _ rfl) rfl ⟨_, rfl, (ju HR9).2.1, (ju HR9).2.2⟩
end Go.Proofs.YthekbhliokcpcaaGreat
namespace Go.Proofs.YthekbhliokcpcaaGreat
open Go.RowKit Go.Maps
structure GM where
 kind : Int
 frm : Int
 to : Int
 term : Int
 index : Int
 lterm : Int
 commit : Int
 round : Int
 ok : Bool
 ents : List GE
 mem : List Int
 snap : ByteArray
structure GX where
 ea : Option Addr
 ec : Nat
 ls : List (GE × GA)
 ma : Option Addr
 mc : Nat
def mg (m : GM) (x : GX) : Array Value := #[.int .u8 m.kind, .int .i64 m.frm, .int .i64 m.to, .int .u64 m.term, .int .u64 m.index, .int .u64 m.lterm, .int .u64 m.commit, .int .u64 m.round, .bool m.ok, .slice x.ea m.ents.length x.ec, .slice x.ma m.mem.length x.mc, .string m.snap]
structure Gw (W : World) (m : GM) (x : GX) : Prop where
 e : x.ls.map (·.1) = m.ents
 l : Sl EG W x.ea x.ls
 g : Gm W x.ls
 m : Sl E3 W x.ma m.mem
theorem Gw.bel {W W' : World} {m : GM} {x : GX} (h : Gw W m x) (hb : Bel W W') : Gw W' m x := ⟨h.e, h.l.bel hb, h.g.bel hb, h.m.bel hb⟩
theorem mg_one (m : GM) (x : GX) : (mg m x).all (·.oneCell') = true := by simp [mg, Value.oneCell']
theorem szM (m : GM) (x : GX) : (Tryz.prog.info? 87).map (·.size) = some (mg m x).size := by
 rw [show (mg m x).size = 12 from rfl]; kernel_rfl
def gz : GM := ⟨0, 0, 0, 0, 0, 0, 0, 0, false, [], [], ⟨#[]⟩⟩
def gzx : GX := ⟨none, 0, [], none, 0⟩
theorem zeroM (w : World) : (zeroValue 87).run Tryz.prog w = .ok (.agg (mg gz gzx)) w := by
 unfold mg gz gzx
 go_simp
structure Mb2 (W : World) (b : Nat) (m : GM) (x : GX) : Prop where
 c0 : W.cell? ⟨b, 0, none⟩ = some (.int .u8 m.kind)
 c1 : W.cell? ⟨b, 1, none⟩ = some (.int .i64 m.frm)
 c2 : W.cell? ⟨b, 2, none⟩ = some (.int .i64 m.to)
 c3 : W.cell? ⟨b, 3, none⟩ = some (.int .u64 m.term)
 c4 : W.cell? ⟨b, 4, none⟩ = some (.int .u64 m.index)
 c5 : W.cell? ⟨b, 5, none⟩ = some (.int .u64 m.lterm)
 c6 : W.cell? ⟨b, 6, none⟩ = some (.int .u64 m.commit)
 c7 : W.cell? ⟨b, 7, none⟩ = some (.int .u64 m.round)
 c8 : W.cell? ⟨b, 8, none⟩ = some (.bool m.ok)
 c9 : W.cell? ⟨b, 9, none⟩ = some (.slice x.ea m.ents.length x.ec)
 c10 : W.cell? ⟨b, 10, none⟩ = some (.slice x.ma m.mem.length x.mc)
 c11 : W.cell? ⟨b, 11, none⟩ = some (.string m.snap)
theorem Mb2.of {W : World} {b : Nat} {m : GM} {x : GX} (h : W.heap[b]? = some (.cells (mg m x) 87)) : Mb2 W b m x := ⟨cell_of h, cell_of h, cell_of h, cell_of h, cell_of h, cell_of h, cell_of h, cell_of h, cell_of h, cell_of h, cell_of h, cell_of h⟩
end Go.Proofs.YthekbhliokcpcaaGreat
namespace Go.Proofs.YthekbhliokcpcaaGreat
open Go.RowKit Go.Maps Go.Sort
def GP.grants (s : GP) (m : GM) : Bool := (decide (s.lastT < m.lterm) || (m.lterm == s.lastT && decide (s.lastI ≤ m.index))) && m.term == s.term && s.role == 0 && (s.vote == 0 || s.vote == m.frm)
set_option maxRecDepth 100000 in
set_option maxHeartbeats 4000000 in
theorem grants_g {W : World} {s : GP} {x : Px} {m : GM} {y : GX} (h : SlG W x.aL s.log) (h0 : 0 ≤ s.base) (h1 : s.base ≤ 4611686018427387904) (hl : s.log.length ≤ 1000000) : Calls Tryz.prog 245 #[.agg (gc s x), .agg (mg m y)] W fun e w' => e = .returned (.bool (s.grants m)) ∧ Bel W w' := by
 have H1 : Hid (∀ W', Bel W W' → Calls Tryz.prog 79 #[.agg (gc s x)] W' fun e w' => e = .returned (.tuple #[.int .u64 s.lastI, .int .u64 s.lastT]) ∧ Bel W' w') := jd (fun W' hb => last_g (h.bel hb) h0 h1 hl)
 clear h h0 h1 hl
 have hX : ∃ gr : Bool, s.grants m = gr ∧ ((decide (s.lastT < m.lterm) = false ∧ (m.lterm == s.lastT) = false ∧ gr = false) ∨ (decide (s.lastT < m.lterm) = false ∧ (m.lterm == s.lastT) = true ∧ decide (s.lastI ≤ m.index) = false ∧ gr = false) ∨ (((decide (s.lastT < m.lterm) = true) ∨ (decide (s.lastT < m.lterm) = false ∧ (m.lterm == s.lastT) = true ∧ decide (s.lastI ≤ m.index) = true)) ∧ (((m.term == s.term) = false ∧ gr = false) ∨ ((m.term == s.term) = true ∧ (s.role == 0) = false ∧ gr = false) ∨ ((m.term == s.term) = true ∧ (s.role == 0) = true ∧ (s.vote == 0) = true ∧ gr = true) ∨ ((m.term == s.term) = true ∧ (s.role == 0) = true ∧ (s.vote == 0) = false ∧ (s.vote == m.frm) = true ∧ gr = true) ∨ ((m.term == s.term) = true ∧ (s.role == 0) = true ∧ (s.vote == 0) = false ∧ (s.vote == m.frm) = false ∧ gr = false)))) := by
  refine ⟨_, rfl, ?_⟩
  unfold GP.grants
  cases decide (s.lastT < m.lterm) <;> cases (m.lterm == s.lastT) <;> cases decide (s.lastI ≤ m.index) <;> cases (m.term == s.term) <;> cases (s.role == 0) <;> cases (s.vote == 0) <;> cases (s.vote == m.frm) <;> simp
 obtain ⟨gr, hg, hx⟩ := hX
 rw [hg]
 clear hg
 generalize s.lastI = I at *
 generalize s.lastT = tT at *
 rcases hx with ⟨c1, c2, rfl⟩ | ⟨c1, c2, c3, rfl⟩ | ⟨c1 | ⟨c1, c2, c3⟩, ⟨c4, rfl⟩ | ⟨c4, c5, rfl⟩ | ⟨c4, c5, c6, rfl⟩ | ⟨c4, c5, c6, c7, rfl⟩ | ⟨c4, c5, c6, c7, rfl⟩⟩
 all_goals
  go_enter Tryz.func245, Tryz.ntmps245
  go_wp2_with (first
   | go_skip
   | go_guarded
   | (refine bx_boxK 31 (.tmp 0) (by exact rfl) (by exact rfl) (gc s x) (by exact rfl) ?_; intro b w0 hr0 hs0 hb0; have HR0 := jd hr0; have HB0 := jd hb0; clear hr0 hs0 hb0)
   | (refine bx_boxK 87 (.tmp 1) (by exact rfl) (by exact rfl) (mg m y) (by exact rfl) ?_; intro b3 w1 hr1 hs1 hb1; have HM0 := jd hr1; replace HR0 := jd (hb1.row (ju HR0)); replace HB0 := jd ((ju HB0).trans hb1); clear hr1 hs1 hb1)
   | (refine bx_ldK 31 (.tmp 2) (by exact rfl) b (by exact rfl) (by exact rfl) (gc s x) _ (ju HR0) u31 (zP _ _) ?_)
   | (go_at_call 79; refine ((ju H1) _ (ju HB0)).mono ?_; rintro e w2 ⟨rfl, hb2⟩; have y2 := (Bg.of (hb2.row (ju HR0))).c2; have y3 := (Bg.of (hb2.row (ju HR0))).c3; have y4 := (Bg.of (hb2.row (ju HR0))).c4; have m1 := (Mb2.of (hb2.row (ju HM0))).c1; have m3 := (Mb2.of (hb2.row (ju HM0))).c3; have m4 := (Mb2.of (hb2.row (ju HM0))).c4; have m5 := (Mb2.of (hb2.row (ju HM0))).c5; replace HB0 := jd ((ju HB0).trans hb2); clear hb2))
  go_ret
  exact ⟨rfl, ju HB0⟩
def EMg : El (GM × GX) := { enc := fun y => (mg y.1 y.2).toList, k := 12, e := 87, t := 47, bytes := 136, z := .agg (mg gz gzx), hk := by decide, len := fun _ => rfl, one := fun x u hu => by simp [mg] at hu; rcases hu with rfl | rfl | rfl | rfl | rfl | rfl | rfl | rfl | rfl | rfl | rfl | rfl <;> rfl, ht := Tryz.underlying47, hi := by unfold mg gz gzx; kernel_rfl, hz := rfl, hb := by decide }
theorem El.O.one {α : Type} {E : El α} (W : World) (x : α) : E.O W.heap.size (W.alloc (.cells (E.enc x).toArray E.e)) (.slice (some ⟨W.heap.size, 0, none⟩) 1 1) [x] := by
 have hk := E.len x
 refine ⟨by simp [El.fl, hk], Or.inr ⟨W.heap.size, 1, (E.enc x).toArray, rfl, Nat.le_refl _, at_new W _, Nat.le_refl _, by unfold maxLen; omega, by simp [hk], by show List.take ([x].length * E.k) (E.enc x).toArray.toList = E.fl [x]; simp [El.fl, ← hk]⟩⟩
def GP.heard (s : GP) (to : Int) (ok : Bool) (i r : Int) : GM := ⟨4, s.id, to, s.term, i, 0, 0, r, ok, [], [], ⟨#[]⟩⟩
set_option maxRecDepth 100000 in
set_option maxHeartbeats 2000000 in
theorem heard_g {W : World} {s : GP} {x : Px} (to : Int) (ok : Bool) (i r : Int) : Calls Tryz.prog 181 #[.agg (gc s x), .int .i64 to, .bool ok, .int .u64 i, .int .u64 r] W fun e w' => ∃ a, e = .returned (.slice a 1 1) ∧ EMg.O W.heap.size w' (.slice a 1 1) [(s.heard to ok i r, gzx)] ∧ Bel W w' := by
 go_enter Tryz.func181, Tryz.ntmps181
 go_wp2_with (first
  | (refine bx_boxK 31 (.tmp 0) (by exact rfl) (by exact rfl) (gc s x) (by exact rfl) ?_; intro b w0 hr0 hs0 hb0; have y0 := (Bg.of hr0).c0; have y2 := (Bg.of hr0).c2; have HB0 := jd hb0; clear hr0 hs0 hb0)
  | (refine el_one EMg (mg (s.heard to ok i r) gzx) rfl (by show ¬ 1 * 12 > 2 ^ 24; decide) _ rfl rfl rfl ?_))
 go_ret
 exact ⟨_, rfl, (El.O.one (E := EMg) w0 (s.heard to ok i r, gzx)).mono (ju HB0).size, (ju HB0).alloc _⟩
end Go.Proofs.YthekbhliokcpcaaGreat
