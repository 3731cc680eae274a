/- How a group stands in memory, while it is played. -/
import Derived.Test.YthipgcojbhcdgaaAli
import Derived.Test.YthipgcojbhcdgaaEle
namespace Go.Proofs.Ythipgcojbhcdgaa
open Go.RowKit Go.Maps Go.Sort
/-- Terms as keys. -/
def mkT (t : Int) : Value := .int .u64 t
def ldF (ld : Int → Int) : Int → Option Value := fun t => if ld t = 0 then none else some (.int .i64 (ld t))
theorem key26 : Keyed Try.prog 26 := int_keyed Try.underlying26
theorem keyT {t : Int} (h0 : 0 ≤ t) (h1 : t < 18446744073709551616) : KeyOK 26 (mkT t) := by
  refine ⟨.int .u64 t, ?_⟩
  unfold mkT
  exact keyOf_int_mk Try.underlying26 (by simp [Lit.wf, IntKind.min, IntKind.max, IntKind.bits, IntKind.signed]; omega)
structure Vs (W : World) (n k gP cP bM : Nat) (vW : Value) (L : List (PP × Px)) (way : List PM) (ld : Int → Int) (V : Int → Int → Int) (w : World) : Prop where
  inv : Inv n k k (L.map (·.1)) way ld V
  row : (E32 n).O W.heap.size w (.slice (some ⟨gP, 0, none⟩) n cP) L
  pf : ∀ q ∈ L, Pf 0 w n q.1 q.2
  wo : E44.O W.heap.size w vW way
  wl : way.length ≤ 300
  map : Mg 26 mkT w bM k (ldF ld)
  bel : Bel W w
  bm : W.heap.size ≤ bM
/-- Behind a step of one of them, with what it sent. -/
structure Vm (W : World) (n k gP cP bM : Nat) (vW : Value) (L : List (PP × Px)) (way : List PM) (ld : Int → Int) (V : Int → Int → Int) (vO : Value) (out : List PM) (w : World) : Prop where
  inv : Inv n (k + 1) (k + 1) (L.map (·.1)) (way ++ out) ld V
  row : (E32 n).O W.heap.size w (.slice (some ⟨gP, 0, none⟩) n cP) L
  pf : ∀ q ∈ L, Pf 0 w n q.1 q.2
  wo : E44.O W.heap.size w vW way
  wl : way.length ≤ 300
  map : Mg 26 mkT w bM k (ldF ld)
  bel : Bel W w
  oo : E44.O 0 w vO out
  ol : out.length ≤ 64
  bm : W.heap.size ≤ bM
/-- The same, once the round's number is the next one. -/
structure Ve (W : World) (n k gP cP bM : Nat) (vW : Value) (L : List (PP × Px)) (way : List PM) (ld : Int → Int) (V : Int → Int → Int) (vO : Value) (out : List PM) (w : World) : Prop where
  inv : Inv n k k (L.map (·.1)) (way ++ out) ld V
  row : (E32 n).O W.heap.size w (.slice (some ⟨gP, 0, none⟩) n cP) L
  pf : ∀ q ∈ L, Pf 0 w n q.1 q.2
  wo : E44.O W.heap.size w vW way
  wl : way.length ≤ 300
  map : Mg 26 mkT w bM k (ldF ld)
  bel : Bel W w
  oo : E44.O 0 w vO out
  ol : out.length ≤ 64
  bm : W.heap.size ≤ bM
theorem ev_same (a : Act) (d : Nat) (v : Value) (h : d < a.tmps.size) : (a.put (some d) v).eval (.tmp d) = v := by
  unfold Act.put Act.eval
  simp [h]
theorem ev_ne (a : Act) (d j : Nat) (v : Value) (h : d ≠ j) : (a.put (some d) v).eval (.tmp j) = a.eval (.tmp j) := by
  unfold Act.put Act.eval
  simp [Array.getElem?_setIfInBounds_ne h]
theorem Bel.sz {a b : World} (h : Bel a b) : a.heap.size ≤ b.heap.size := h.size
theorem zero3 (w : World) : (zeroValue 3).run Try.prog w = .ok (.int .i64 0) w := by go_simp
theorem Ch.below' {w w' W : World} (h : Ch (fun i => W.heap.size ≤ i) w w') (hb : Bel W w) : Bel W w' := ((hb.ch (fun i => W.heap.size ≤ i)).trans h (fun _ hi => Or.inl hi)).below (Nat.le_refl _) (fun _ hi => hi)
section
variable {W w w' : World} {n k gP cP bM : Nat} {vW vO : Value} {L : List (PP × Px)} {way out : List PM} {ld : Int → Int} {V : Int → Int → Int}
theorem Vs.next (h : Vs W n k gP cP bM vW L way ld V w) (hb : Bel w w') : Vs W n k gP cP bM vW L way ld V w' := ⟨h.inv, h.row.bel hb, fun q hq => (h.pf q hq).bel hb, h.wo.bel hb, h.wl, h.map.bel hb, h.bel.trans hb, h.bm⟩
theorem Vm.next (h : Vm W n k gP cP bM vW L way ld V vO out w) (hb : Bel w w') : Vm W n k gP cP bM vW L way ld V vO out w' := ⟨h.inv, h.row.bel hb, fun q hq => (h.pf q hq).bel hb, h.wo.bel hb, h.wl, h.map.bel hb, h.bel.trans hb, h.oo.bel hb, h.ol, h.bm⟩
theorem Vs.len (h : Vs W n k gP cP bM vW L way ld V w) : L.length = n := by have := h.inv.len; simpa using this
theorem Vm.len (h : Vm W n k gP cP bM vW L way ld V vO out w) : L.length = n := by have := h.inv.len; simpa using this
theorem Vs.ok (h : Vs W n k gP cP bM vW L way ld V w) (i : Nat) (hi : i < L.length) : Ok n k k L[i].1 ∧ L[i].1.id = (i : Int) + 1 := by
  have := h.inv.ok i (by simpa using hi)
  simpa using this
theorem Vm.ok (h : Vm W n k gP cP bM vW L way ld V vO out w) (i : Nat) (hi : i < L.length) : Ok n (k + 1) (k + 1) L[i].1 ∧ L[i].1.id = (i : Int) + 1 := by
  have := h.inv.ok i (by simpa using hi)
  simpa using this
theorem Pf.base {b b' : Nat} {s : PP} {x : Px} (h : Pf b w n s x) (hb : b' ≤ b) : Pf b' w n s x := ⟨h.m.mono hb, h.b.mono hb, h.l.mono hb, h.v.mono hb, h.f.mono hb, h.dv⟩
/-- A row of cells is no map. -/
theorem El.O.turned {α : Type} {E : El α} {base : Nat} {v : Value} {M : List α} (h : E.O base w v M) {b : Nat} {es : _} {cl : _} (hm : w.heap[b]? = some (.map es cl)) (ht : w.mapTurned w' b) : E.O base w' v M :=
  h.at (fun j hj => ht.grown.block j (h.lt hj).2 (fun e => by
    obtain ⟨c, hc⟩ := h.block hj
    cases e
    rw [hm] at hc
    cases hc))
theorem Pf.turned {s : PP} {x : Px} {base : Nat} (h : Pf base w n s x) {b : Nat} {es : _} {cl : _} (hm : w.heap[b]? = some (.map es cl)) (ht : w.mapTurned w' b) : Pf base w' n s x := ⟨h.m.turned hm ht, h.b.turned hm ht, h.l.turned hm ht, h.v.turned hm ht, h.f.turned hm ht, h.dv⟩
theorem Pf.grown44 {s : PP} {x : Px} {base b2 : Nat} {v2 : Value} {M : List PM} (h : Pf base w n s x) (h2 : E44.O b2 w v2 M) (hg : w.grownBy w' v2.ownBlock) : Pf base w' n s x := ⟨h.m.grown h2 hg (by decide), h.b.grown h2 hg (by decide), h.l.grown h2 hg (by decide), h.v.grown h2 hg (by decide), h.f.grown h2 hg (by decide), h.dv⟩
/-- A member has made its step: it is put in its place. -/
theorem Vs.put (h : Vs W n k gP cP bM vW L way ld V w) {w1 w2 : World} (hb : Bel w w1) {i b : Nat} (hi : i < L.length) {s' : PP} {x' : Px} (hp : Pf b w1 n s' x') (ho : (E32 n).O W.heap.size w2 (.slice (some ⟨gP, 0, none⟩) n cP) (L.set i (s', x'))) (hc : Ch (fun j => j = gP) w1 w2) {b2 : Nat} (hO : E44.O b2 w1 vO out) (hol : out.length ≤ 64) (hN : Nxt n (k + 1) (k + 1) V L[i].1 s' out) :
    Vm W n k gP cP bM vW (L.set i (s', x')) way ld (ghost V L[i].1 s') vO out w2 := by
  have h1 := h.next hb
  have hgp : (Value.slice (some ⟨gP, 0, none⟩) n cP).ownBlock = some gP := rfl
  obtain ⟨cur, hcur⟩ := h1.row.block hgp
  have hlow := (h1.row.lt hgp).1
  have hi' : i < (L.map (·.1)).length := by simpa using hi
  have hg : (L.map (·.1))[i] = L[i].1 := by simp
  refine ⟨?_, ho, fun q hq => ?_, h1.wo.box hcur (show (44 : Nat) ≠ 32 by decide) hc, h.wl, ?_, bel_off h1.bel hc hlow, (hO.mono (Nat.zero_le _)).box hcur (show (44 : Nat) ≠ 32 by decide) hc, hol, h.bm⟩
  · have := h.inv.step hi' (s' := s') (out := out) (way' := way ++ out) (by rw [hg]; exact hN) (Nat.le_succ _) (Nat.le_succ _) (fun m hm => List.mem_append.1 hm)
    rw [hg] at this
    rw [List.map_set]
    exact this
  · rcases List.mem_or_eq_of_mem_set hq with hq | rfl
    · exact (h1.pf q hq).box hcur hc
    · exact (hp.base (Nat.zero_le _)).box hcur hc
  · obtain ⟨es, cl, hm⟩ := h1.map.isMap
    exact h1.map.at (hc.block bM (lt_of_some hm) (fun e => by rw [e, hcur] at hm; cases hm))
/-- Who leads is noted. -/
theorem Vm.noted (h : Vm W n k gP cP bM vW L way ld V vO out w) (hk : k ≤ 1000) {i : Nat} (hi : i < L.length) (hr : L[i].1.role = 2) : (ld L[i].1.term = 0 ∨ ld L[i].1.term = L[i].1.id) ∧ ∃ w' ld', (Instr.mapUpdate 36 (.map (some bM)) (mkT L[i].1.term) (.int .i64 L[i].1.id)).run Try.prog w = .ok () w' ∧ Ve W n (k + 1) gP cP bM vW L way ld' V vO out w' := by
  have hi' : i < (L.map (·.1)).length := by simpa using hi
  have hg : (L.map (·.1))[i] = L[i].1 := by simp
  obtain ⟨hn1, hn2⟩ := h.inv.note hi' (by rw [hg]; exact hr)
  rw [hg] at hn1 hn2
  obtain ⟨hok, hid⟩ := h.ok i hi
  have h0 := hok.t0
  have h1 := hok.tT
  obtain ⟨w', r1, r2, r3⟩ := h.map.store key26 (fun x y e => by unfold mkT at e; injection e) Try.underlying36 (by omega) (x := L[i].1.term) (keyT h0 (by omega)) (.int .i64 L[i].1.id)
  obtain ⟨es, cl, hm⟩ := h.map.isMap
  have hch : Ch (fun j => j = bM) w w' := (Ch.refl (fun j => j = bM) w).turned r3 (Or.inl rfl)
  refine ⟨hn1, w', _, r1, hn2, h.row.turned hm r3, fun q hq => (h.pf q hq).turned hm r3, h.wo.turned hm r3, h.wl, ?_, bel_off h.bel hch h.bm, h.oo.turned hm r3, h.ol, h.bm⟩
  have e : upd (ldF ld) L[i].1.term (some (.int .i64 L[i].1.id)) = ldF (fun t => if t = L[i].1.term then L[i].1.id else ld t) := by
    funext t
    unfold upd ldF
    have := hok.id1
    by_cases e : t = L[i].1.term
    · simp only [e, if_true]
      rw [if_neg (by omega)]
    · simp only [e, if_false]
  rw [← e]
  exact r2
theorem Vm.look (h : Vm W n k gP cP bM vW L way ld V vO out w) {t : Int} (h0 : 0 ≤ t) (h1 : t < 18446744073709551616) : (Instr.lookup 36 (.map (some bM)) (.int .u64 t) false).run Try.prog w = .ok (.int .i64 (ld t)) w := by
  have := h.map.look key26 Try.underlying36 (zero3 w) (x := t) (keyT h0 h1)
  unfold ldF at this
  by_cases e : ld t = 0
  · simp only [e, if_true] at this
    rw [e]
    exact this
  · simp only [e, if_false] at this
    exact this
theorem Vm.ve (h : Vm W n k gP cP bM vW L way ld V vO out w) : Ve W n (k + 1) gP cP bM vW L way ld V vO out w := ⟨h.inv, h.row, h.pf, h.wo, h.wl, h.map.mono (Nat.le_succ _), h.bel, h.oo, h.ol, h.bm⟩
theorem Ve.next (h : Ve W n k gP cP bM vW L way ld V vO out w) (hb : Bel w w') : Ve W n k gP cP bM vW L way ld V vO out w' := ⟨h.inv, h.row.bel hb, fun q hq => (h.pf q hq).bel hb, h.wo.bel hb, h.wl, h.map.bel hb, h.bel.trans hb, h.oo.bel hb, h.ol, h.bm⟩
/-- What was sent is on its way. -/
theorem Ve.join (h : Ve W n k gP cP bM vW L way ld V vO out w) (hw : way.length ≤ 200) {v' : Value} (ho : E44.O W.heap.size w' v' (way ++ out)) (hg : w.grownBy w' vW.ownBlock) : Vs W n k gP cP bM v' L (way ++ out) ld V w' := by
  obtain ⟨es, cl, hm⟩ := h.map.isMap
  refine ⟨h.inv, h.row.grown h.wo hg (show (32 : Nat) ≠ 44 by decide), fun q hq => (h.pf q hq).grown44 h.wo hg, ho, ?_, h.map.at (hg.block bM (lt_of_some hm) (fun e => ?_)), ?_, h.bm⟩
  · have := h.ol
    rw [List.length_append]; omega
  · obtain ⟨c, hc⟩ := h.wo.block e.symm
    rw [hm] at hc
    cases hc
  · exact ((Ch.refl (fun i => W.heap.size ≤ i) w).grown hg (fun i hi => Or.inl (h.wo.lt hi).1)).below' h.bel
/-- It is not. -/
theorem Ve.skip (h : Ve W n k gP cP bM vW L way ld V vO out w) : Vs W n k gP cP bM vW L way ld V w := ⟨h.inv.lose (fun _ hm => List.mem_append_left _ hm), h.row, h.pf, h.wo, h.wl, h.map, h.bel, h.bm⟩
/-- Nothing is done. -/
theorem Vs.idle (h : Vs W n k gP cP bM vW L way ld V w) : Vs W n (k + 1) gP cP bM vW L way ld V w := ⟨h.inv.mono (Nat.le_succ _) (Nat.le_succ _), h.row, h.pf, h.wo, h.wl, h.map.mono (Nat.le_succ _), h.bel, h.bm⟩
/-- A message is gone. -/
theorem Vs.lost (h : Vs W n k gP cP bM vW L way ld V w) {v' : Value} {way' : List PM} (hs : ∀ m ∈ way', m ∈ way) (hl : way'.length ≤ 300) (hb : Bel w w') (ho : E44.O W.heap.size w' v' way') : Vs W n k gP cP bM v' L way' ld V w' := by
  have h1 := h.next hb
  exact ⟨h.inv.lose hs, h1.row, h1.pf, ho, hl, h1.map, h1.bel, h1.bm⟩
end
/-! ### The laws of boxes and rows, so that they fail at once where they do not fit -/
section
variable {ops : Array Oper} {rest : List Oper} {o : Oper} {a : Act} {Q : Exit → Act → World → Prop} {W : World} {n : Nat} {s : PP} {z : Px}
theorem bxp_st (x y : Operand) (b : Nat) (n : Nat) (s : PP) (z : Px) {n2 : Nat} {s2 : PP} {z2 : Px} (hg : W.heap[b]? = some (.cells (pc n2 s2 z2) 32)) (hgd : o.guard = none) (ho : o.op = .store 32 x y) (hx : a.eval x = .pointer (some ⟨b, 0, none⟩)) (hy : a.eval y = .agg (pc n s z))
    (hK : ∀ w', w'.heap[b]? = some (.cells (pc n s z) 32) → Ch (fun k => k = b) W w' → wpList Try.prog ops Q rest (a.put o.dst undef) w') : wpList Try.prog ops Q (o :: rest) a W := bx_st hgd 32 x y ho b (pc n s z) _ hx hy hg (Try.size32 _ _ _) rfl (pc_one _ _ _) hK
theorem bxp_ld (x : Operand) (b : Nat) (n : Nat) (s : PP) (z : Px) (hg : W.heap[b]? = some (.cells (pc n s z) 32)) (hgd : o.guard = none) (ho : o.op = .load 32 x) (hx : a.eval x = .pointer (some ⟨b, 0, none⟩))
    (h : wpList Try.prog ops Q rest (a.put o.dst (.agg (pc n s z))) W) : wpList Try.prog ops Q (o :: rest) a W := bx_ld hgd 32 x ho b hx (pc n s z) _ hg Try.underlying32 (Try.size32 _ _ _) h
theorem bxp_new (hgd : o.guard = none) (ho : o.op = .alloc 32)
    (hK : ∀ b w', w'.heap[b]? = some (.cells (pc 0 ⟨0, 0, 0, 0, 0, 0, 0, [], [], [], 0⟩ ⟨none, 0, none, 0, none, 0, none, 0, none, 0, none, 0⟩) 32) → W.heap.size = b → Bel W w' → wpList Try.prog ops Q rest (a.put o.dst (.pointer (some ⟨b, 0, none⟩))) w') : wpList Try.prog ops Q (o :: rest) a W := bx_new hgd 32 ho _ Try.zero32 hK
theorem elp_ld (x : Operand) (g i : Nat) {base cap m : Nat} {L : List (PP × Px)} (h : (E32 n).O base W (.slice (some ⟨g, 0, none⟩) m cap) L) (hi : i < L.length) (hgd : o.guard = none) (ho : o.op = .load 32 x) (hx : a.eval x = .pointer (some ⟨g, i * 18, none⟩))
    (hK : wpList Try.prog ops Q rest (a.put o.dst (.agg (pc n L[i].1 L[i].2))) W) : wpList Try.prog ops Q (o :: rest) a W := el_ld hgd x ho g i hx h hi Try.underlying32 _ rfl hK
theorem elp_st (x y : Operand) (g i : Nat) (s : PP) (z : Px) {base cap m : Nat} {L : List (PP × Px)} (h : (E32 n).O base W (.slice (some ⟨g, 0, none⟩) m cap) L) (hi : i < L.length) (hgd : o.guard = none) (ho : o.op = .store 32 x y) (hx : a.eval x = .pointer (some ⟨g, i * 18, none⟩)) (hy : a.eval y = .agg (pc n s z))
    (hK : ∀ w', (E32 n).O base w' (.slice (some ⟨g, 0, none⟩) m cap) (L.set i (s, z)) → Ch (fun k => k = g) W w' → wpList Try.prog ops Q rest (a.put o.dst undef) w') : wpList Try.prog ops Q (o :: rest) a W := el_st hgd x y ho g i hx _ hy (s, z) rfl h hi hK
theorem elm_ld (x : Operand) (g i : Nat) {base cap m : Nat} {L : List PM} (h : E44.O base W (.slice (some ⟨g, 0, none⟩) m cap) L) (hi : i < L.length) (hgd : o.guard = none) (ho : o.op = .load 44 x) (hx : a.eval x = .pointer (some ⟨g, i * 12, none⟩))
    (hK : wpList Try.prog ops Q rest (a.put o.dst (.agg (mc L[i]))) W) : wpList Try.prog ops Q (o :: rest) a W := el_ld hgd x ho g i hx h hi Try.underlying44 _ rfl hK
end
section
variable {ops : Array Oper} {rest : List Oper} {o : Oper} {a : Act} {Q : Exit → Act → World → Prop} {W : World} {n : Nat}
theorem elp_one (n : Nat) (s : PP) (z : Px) (x : Operand) (hgd : o.guard = none) (ho : o.op = .buildSlice 25 1 #[(0, x)]) (hx : a.eval x = .agg (pc n s z))
    (hK : ∀ B w', w'.heap[B]? = some (.cells (pc n s z) 32) → Bel W w' → wpList Try.prog ops Q rest (a.put o.dst (.slice (some ⟨B, 0, none⟩) 1 1)) w') : wpList Try.prog ops Q (o :: rest) a W :=
  el_one (E32 n) (pc n s z) rfl (by show ¬ 1 * 18 > 2 ^ 24; decide) x hgd ho hx (hK _ _ (at_new W _) ((Bel.refl W).alloc _))
/-- One member more. -/
theorem elp_app (s : PP) (z : Px) {base : Nat} {v : Value} {L : List (PP × Px)} (h : (E32 n).O base W v L) (hbase : base ≤ W.heap.size) (B : Nat) (hB : W.heap[B]? = some (.cells (pc n s z) 32)) (hb : L.length + 1 ≤ 100000000000) (x y : Operand) (hgd : o.guard = none) (ho : o.op = .call { callee := .builtin .append, args := #[x, y], argTypes := #[25, 25] }) (hs : a.eval x = v) (hy : a.eval y = .slice (some ⟨B, 0, none⟩) 1 1)
    (hK : ∀ g cap w', (E32 n).O base w' (.slice (some ⟨g, 0, none⟩) (L ++ [(s, z)]).length cap) (L ++ [(s, z)]) → W.grownBy w' v.ownBlock → wpList Try.prog ops Q rest (a.put o.dst (.slice (some ⟨g, 0, none⟩) (L.length + 1) cap)) w') : wpList Try.prog ops Q (o :: rest) a W :=
  app1_el (E := E32 n) (s, z) (L ++ [(s, z)]) rfl h hbase B 1 hB hb hgd x y 25 rfl ho hs hy (fun g cap w' h1 h2 _ => by
    have := hK g cap w' h1 h2
    rwa [show L.length + 1 = (L ++ [(s, z)]).length by simp] at this)
theorem Pf.grown32 {m : Nat} {s : PP} {x : Px} {base b2 : Nat} {v2 : Value} {M : List (PP × Px)} {w w' : World} (h : Pf base w m s x) (h2 : (E32 n).O b2 w v2 M) (hg : w.grownBy w' v2.ownBlock) : Pf base w' m s x := ⟨h.m.grown h2 hg (show (3 : Nat) ≠ 32 by decide), h.b.grown h2 hg (show (3 : Nat) ≠ 32 by decide), h.l.grown h2 hg (show (68 : Nat) ≠ 32 by decide), h.v.grown h2 hg (show (3 : Nat) ≠ 32 by decide), h.f.grown h2 hg (show (73 : Nat) ≠ 32 by decide), h.dv⟩
end
end Go.Proofs.Ythipgcojbhcdgaa
