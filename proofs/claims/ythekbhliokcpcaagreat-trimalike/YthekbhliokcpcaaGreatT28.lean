/- A group of any members in memory, while it is played. Lists and messages, as the document holds them against each other. A message is the same as itself, wherever its lists lie: the document's SameMsg. small, of the law of trimmed logs. The law's Entry of any member. -/
import Derived.Test.YthekbhliokcpcaaGreatT27
import Derived.Test.YthekbhliokcpcaaGreatT25
import Derived.Test.YthekbhliokcpcaaGreatT13
import Derived.Test.YthekbhliokcpcaaGreatT06
namespace Go.Proofs.YthekbhliokcpcaaGreat
open Go.RowKit Go.Maps Go.Sort
def EPg : El (GP × Px) := { enc := fun y => (gc y.1 y.2).toList, k := 18, e := 31, t := 46, bytes := 248, z := .agg (gc g0 y0), hk := by decide, len := fun _ => rfl, one := fun y u hu => by have := gc_one y.1 y.2; rw [Array.all_eq_true_iff_forall_mem] at this; exact this u (by simpa using hu), ht := Tryz.underlying46, hi := by kernel_rfl, hz := rfl, hb := by decide }
def mkT (t : Int) : Value := .int .u64 t
def ldF (ld : Int → Int) : Int → Option Value := fun t => if ld t = 0 then none else some (.int .i64 (ld t))
theorem key25 : Keyed Tryz.prog 25 := int_keyed Tryz.underlying25
theorem keyT {t : Int} (h0 : 0 ≤ t) (h1 : t < 18446744073709551616) : KeyOK 25 (mkT t) := by
 refine ⟨.int .u64 t, ?_⟩
 unfold mkT
 exact keyOf_int_mk Tryz.underlying25 (by simp [Lit.wf, IntKind.min, IntKind.max, IntKind.bits, IntKind.signed]; omega)
def Kq (d : Option Nat) (w w' : World) : Prop := ∀ (g : Nat) (c : Array Value) (t : TypeId) (fr : Nat × Nat), w.heap[g]? = some (.cells c t fr) → (t = 3 ∨ t = 53 ∨ t = 79 ∨ t = ER.e) → (t = 53 → d ≠ some g) → w'.heap[g]? = w.heap[g]?
def Ap (v : Value) (a : Option Addr) (n : Nat) : Prop := n ≠ 0 → ∀ ad, a = some ad → v.ownBlock ≠ some ad.block
section
variable {w w1 w' : World} {d : Option Nat}
theorem Kq.trans (h : Kq d w w1) (k : Kq d w1 w') : Kq d w w' := fun g c t fr hg ht hd => by
 have h1 := h g c t fr hg ht hd
 rw [← h1]
 exact k g c t fr (h1.trans hg) ht hd
theorem Kq.ch {b : Nat} {cs : Array Value} {t0 : TypeId} (hr : w.heap[b]? = some (.cells cs t0)) (h0 : t0 ≠ 3 ∧ t0 ≠ 53 ∧ t0 ≠ 79 ∧ t0 ≠ ER.e) (hc : Ch (fun k => k = b) w w') : Kq d w w' := fun g c t fr hg ht _ => hc.block g (lt_of_some hg) (fun e => by
 rw [e, hr] at hg
 injection (Option.some.inj hg) with _ h3
 subst h3
 rcases ht with h | h | h | h
 ·exact h0.1 h
 ·exact h0.2.1 h
 ·exact h0.2.2.1 h
 ·exact h0.2.2.2 h)
theorem Kq.grown {α : Type} {E : El α} {base : Nat} {v : Value} {L : List α} (h : E.O base w v L) (h0 : E.e ≠ 3 ∧ E.e ≠ 53 ∧ E.e ≠ 79 ∧ E.e ≠ ER.e) (hg : w.grownBy w' v.ownBlock) : Kq d w w' := fun g c t fr hgr ht _ => hg.block g (lt_of_some hgr) (fun e => by
 obtain ⟨c2, hc2⟩ := h.block e.symm
 rw [hgr] at hc2
 injection (Option.some.inj hc2) with _ h3
 subst h3
 rcases ht with h | h | h | h
 ·exact h0.1 h
 ·exact h0.2.1 h
 ·exact h0.2.2.1 h
 ·exact h0.2.2.2 h)
theorem Kq.grownD {base : Nat} {v : Value} {L : List (GE × GA)} (h : EG.O base w v L) (hg : w.grownBy w' v.ownBlock) : Kq v.ownBlock w w' := fun g c t fr hgr ht hd => hg.block g (lt_of_some hgr) (fun e => by
 obtain ⟨c2, hc2⟩ := h.block e.symm
 rw [hgr] at hc2
 injection (Option.some.inj hc2) with _ h3
 exact hd h3 e.symm)
theorem Kq.turned {b : Nat} {es : _} {cl : _} (hm : w.heap[b]? = some (.map es cl)) (ht : w.mapTurned w' b) : Kq d w w' := fun g c t fr hgr _ _ => ht.grown.block g (lt_of_some hgr) (fun e => by
 cases e
 rw [hm] at hgr
 cases hgr)
theorem SlT.kq {α : Type} {E : El α} {a : Option Addr} {L : List α} (h : SlT E w a L) (hk : Kq d w w') (ht : E.e = 3 ∨ E.e = 53 ∨ E.e = 79 ∨ E.e = ER.e) (hd : E.e = 53 → L.length ≠ 0 → ∀ ad, a = some ad → d ≠ some ad.block) : SlT E w' a L := by
 obtain ⟨⟨g, off, ha, hR⟩, hT⟩ := h
 by_cases h0 : L.length = 0
 ·exact ⟨⟨g, off, fun h => absurd h0 h, fun j hj => by omega⟩, fun g' off' h => absurd h0 h⟩
 ·have e := ha h0
  obtain ⟨c, fr, hgr⟩ := hT g off h0 e
  have hge : w'.heap[g]? = w.heap[g]? := hk g c _ fr hgr ht (fun h9 => hd h9 h0 _ e)
  refine ⟨⟨g, off, ha, fun j hj cc u hu => ?_⟩, fun g' off' _ h' => ?_⟩
  ·have := hR j hj cc u hu
   simp only [World.cell?, hge] at this ⊢
   exact this
  ·rw [e] at h'
   injection h' with h'
   injection h' with h1 _ _
   subst h1
   exact ⟨c, fr, by rw [hge]; exact hgr⟩
theorem SlT.kq3 {a : Option Addr} {L : List Int} (h : SlT E3 w a L) (hk : Kq d w w') : SlT E3 w' a L := h.kq hk (Or.inl rfl) (fun h => absurd h (by decide))
theorem SlGT.kq {a : Option Addr} {l : List GE} {v : Value} (h : SlGT w a l) (hk : Kq v.ownBlock w w') (ha : Ap v a l.length) : SlGT w' a l := by
 obtain ⟨L, q1, q2, q3⟩ := h
 refine ⟨L, q1, q2.kq hk (Or.inr (Or.inl rfl)) (fun _ h0 => ha (by rw [← q1, List.length_map]; exact h0)), fun y hy => (q3 y hy).kq3 hk⟩
theorem SlRT.kq {a : Option Addr} {l : List GR} (h : SlRT w a l) (hk : Kq d w w') : SlRT w' a l := by
 obtain ⟨L, q1, q2, q3⟩ := h
 exact ⟨L, q1, q2.kq hk (Or.inr (Or.inr (Or.inr rfl))) (fun h => absurd h (by decide)), fun y hy => (q3 y hy).kq3 hk⟩
theorem Gt.kq {s : GP} {x : Px} {v : Value} (h : Gt w s x) (hk : Kq v.ownBlock w w') (ha : Ap v x.aL s.log.length) : Gt w' s x := ⟨h.m.kq3 hk, h.b.kq3 hk, h.l.kq hk ha, h.v.kq3 hk, h.f.kq hk (Or.inr (Or.inr (Or.inl rfl))) (fun h => absurd h (by decide)), h.r.kq hk⟩
theorem GwT.kq {m : GM} {x : GX} {v : Value} (h : GwT w m x) (hk : Kq v.ownBlock w w') (ha : Ap v x.ea m.ents.length) : GwT w' m x := ⟨h.e, h.l.kq hk (Or.inr (Or.inl rfl)) (fun _ h0 => ha (by rw [← h.e, List.length_map]; exact h0)), fun y hy => (h.g y hy).kq3 hk, h.m.kq3 hk⟩
theorem Ap.new {base : Nat} {v : Value} {D : List (GE × GA)} {a : Option Addr} {n : Nat} (h : EG.O base w v D) (hn : Nw w.heap.size a n) : Ap v a n := fun h0 ad e hv => by
 have h1 := hn h0 ad e
 have h2 := (h.lt hv).2
 omega
end
def grp (n gP cP bM : Nat) (vW vD : Value) : Array Value := #[.slice (some ⟨gP, 0, none⟩) n cP, vW, vD, .map (some bM)]
structure Gs (W : World) (n b gP cP bM km : Nat) (vW vD : Value) (L : List (GP × Px)) (Q : List (GM × GX)) (D : List (GE × GA)) (ld : Int → Int) (w : World) : Prop where
 box : w.heap[b]? = some (.cells (grp n gP cP bM vW vD) 50)
 row : EPg.O W.heap.size w (.slice (some ⟨gP, 0, none⟩) n cP) L
 gt : ∀ q ∈ L, Gt w q.1 q.2 ∧ q.1.log.length ≤ q.2.cL ∧ Ap vD q.2.aL q.1.log.length
 wo : EMg.O W.heap.size w vW Q
 we : ∀ q ∈ Q, GwT w q.1 q.2 ∧ q.1.ents.length ≤ q.2.ec ∧ Ap vD q.2.ea q.1.ents.length
 dO : EG.O W.heap.size w vD D
 dm : ∀ y ∈ D, SlT E3 w y.2.a y.1.m
 map : Mg 25 mkT w bM km (ldF ld)
 bel : Bel W w
 ge : W.heap.size ≤ b
 gm : W.heap.size ≤ bM
section
variable {W w w' w1 w2 : World} {n b gP cP bM km : Nat} {vW vD vW' vD' : Value} {L : List (GP × Px)} {Q Q' O : List (GM × GX)} {D D' : List (GE × GA)} {ld : Int → Int}
theorem Gs.len (h : Gs W n b gP cP bM km vW vD L Q D ld w) : L.length = n := by
 obtain ⟨a, c, g, e, _⟩ := h.row.shape
 injection e with _ e2
 exact e2.symm
theorem Gs.next (h : Gs W n b gP cP bM km vW vD L Q D ld w) (hb : Bel w w') : Gs W n b gP cP bM km vW vD L Q D ld w' :=
 ⟨hb.row h.box, h.row.bel hb, fun q hq => ⟨(h.gt q hq).1.bel hb, (h.gt q hq).2⟩, h.wo.bel hb, fun q hq => ⟨(h.we q hq).1.bel hb, (h.we q hq).2⟩, h.dO.bel hb, fun y hy => (h.dm y hy).bel hb, h.map.bel hb, h.bel.trans hb, h.ge, h.gm⟩
theorem Gs.at (h : Gs W n b gP cP bM km vW vD L Q D ld w) {k : Nat} (hk : k < L.length) {s : GP} {x : Px} (e : L[k] = (s, x)) (c : Nat) (v : Value) (hv : (gc s x)[c]? = some v) : w.cell? ⟨gP, k * 18 + c, none⟩ = some v := by
 have := h.row.range k hk c v (by rw [e]; simpa [EPg] using hv)
 exact this
theorem Gs.put (h : Gs W n b gP cP bM km vW vD L Q D ld w) (hb : Bel w w1) {i : Nat} {s' : GP} {x' : Px} (hp : Gt w1 s' x') (hl : Lc w.heap.size x' s'.log.length) (ho : EPg.O W.heap.size w2 (.slice (some ⟨gP, 0, none⟩) n cP) (L.set i (s', x'))) (hc : Ch (fun j => j = gP) w1 w2) : Gs W n b gP cP bM km vW vD (L.set i (s', x')) Q D ld w2 := by
 have h1 := h.next hb
 obtain ⟨cur, hcur⟩ := h1.row.block (k := gP) rfl
 have hlow := (h1.row.lt (k := gP) rfl).1
 have hcur : w1.heap[gP]? = some (.cells cur 31) := hcur
 have hk : ∀ d, Kq d w1 w2 := fun d => Kq.ch hcur (by decide) hc
 refine ⟨hc.row h1.box (ne_kindG h1.box hcur (by decide)), ho, fun q hq => ?_, h1.wo.box hcur (by decide) hc, fun q hq => ⟨(h1.we q hq).1.kq (hk _) (h1.we q hq).2.2, (h1.we q hq).2⟩, h1.dO.box hcur (by decide) hc, fun y hy => (h1.dm y hy).kq3 (hk none), h1.map.at (hc.block bM h1.map.lt (h1.map.ne_row hcur)), bel_off h1.bel hc hlow, h.ge, h.gm⟩
 rcases List.mem_or_eq_of_mem_set hq with hq | rfl
 ·exact ⟨(h1.gt q hq).1.kq (hk _) (h1.gt q hq).2.2, (h1.gt q hq).2⟩
 ·have ha : Ap vD x'.aL s'.log.length := Ap.new h.dO hl.2
  exact ⟨hp.kq (hk _) ha, hl.1, ha⟩
theorem Gs.setW (h : Gs W n b gP cP bM km vW vD L Q D ld w) (hO : EMg.O W.heap.size w vW' Q') (he : ∀ q ∈ Q', q ∈ Q) (hr : w'.heap[b]? = some (.cells (grp n gP cP bM vW' vD) 50)) (hc : Ch (fun k => k = b) w w') : Gs W n b gP cP bM km vW' vD L Q' D ld w' := by
 have hk : ∀ d, Kq d w w' := fun d => Kq.ch h.box (by decide) hc
 exact ⟨hr, h.row.box h.box (by decide) hc, fun q hq => ⟨(h.gt q hq).1.kq (hk _) (h.gt q hq).2.2, (h.gt q hq).2⟩, hO.box h.box (by decide) hc, fun q hq => ⟨(h.we q (he q hq)).1.kq (hk _) (h.we q (he q hq)).2.2, (h.we q (he q hq)).2⟩, h.dO.box h.box (by decide) hc, fun y hy => (h.dm y hy).kq3 (hk none), h.map.at (hc.block bM h.map.lt (h.map.ne_row h.box)), bel_off h.bel hc h.ge, h.ge, h.gm⟩
theorem Gs.joinW (h : Gs W n b gP cP bM km vW vD L Q D ld w) (he : ∀ q ∈ O, GwT w q.1 q.2 ∧ q.1.ents.length ≤ q.2.ec ∧ Ap vD q.2.ea q.1.ents.length) (hO : EMg.O W.heap.size w1 vW' (Q ++ O)) (hg : w.grownBy w1 vW.ownBlock) (hr : w2.heap[b]? = some (.cells (grp n gP cP bM vW' vD) 50)) (hc : Ch (fun k => k = b) w1 w2) : Gs W n b gP cP bM km vW' vD L (Q ++ O) D ld w2 := by
 have hbx := row_grown h.box h.wo hg (by decide)
 have hk : ∀ d, Kq d w w2 := fun d => (Kq.grown h.wo (by decide) hg).trans (Kq.ch hbx (by decide) hc)
 have hbm : w1.heap[bM]? = w.heap[bM]? := hg.block bM h.map.lt (fun e => by
  obtain ⟨c2, hc2⟩ := h.wo.block e.symm
  exact (h.map.ne_row hc2) rfl)
 have hm1 := h.map.at hbm
 refine ⟨hr, (h.row.grown h.wo hg (by decide)).box hbx (by decide) hc, fun q hq => ⟨(h.gt q hq).1.kq (hk _) (h.gt q hq).2.2, (h.gt q hq).2⟩, hO.box hbx (by decide) hc, fun q hq => ?_, (h.dO.grown h.wo hg (by decide)).box hbx (by decide) hc, fun y hy => (h.dm y hy).kq3 (hk none), hm1.at (hc.block bM hm1.lt (hm1.ne_row hbx)), ?_, h.ge, h.gm⟩
 ·rcases List.mem_append.1 hq with hq | hq
  ·exact ⟨(h.we q hq).1.kq (hk _) (h.we q hq).2.2, (h.we q hq).2⟩
  ·exact ⟨(he q hq).1.kq (hk _) (he q hq).2.2, (he q hq).2⟩
 ·have h1 : Bel W w1 := ((h.bel.ch (fun i => W.heap.size ≤ i)).grown hg (fun k hk => Or.inl (h.wo.lt hk).1)).below (Nat.le_refl _) (fun _ hi => hi)
  exact bel_off h1 hc h.ge
theorem Gs.joinD (h : Gs W n b gP cP bM km vW vD L Q D ld w) (hO : EG.O W.heap.size w1 vD' D') (hm : ∀ y ∈ D', SlT E3 w y.2.a y.1.m) (hg : w.grownBy w1 vD.ownBlock) (hat : ∀ k, vD'.ownBlock = some k → vD.ownBlock = some k ∨ w.heap.size ≤ k) (hr : w2.heap[b]? = some (.cells (grp n gP cP bM vW vD') 50)) (hc : Ch (fun k => k = b) w1 w2) : Gs W n b gP cP bM km vW vD' L Q D' ld w2 := by
 have hbx := row_grown h.box h.dO hg (by decide)
 have hk : Kq vD.ownBlock w w2 := (Kq.grownD h.dO hg).trans (Kq.ch hbx (by decide) hc)
 have hbm : w1.heap[bM]? = w.heap[bM]? := hg.block bM h.map.lt (fun e => by
  obtain ⟨c2, hc2⟩ := h.dO.block e.symm
  exact (h.map.ne_row hc2) rfl)
 have hm1 := h.map.at hbm
 have hap : ∀ {α : Type} {E : El α} {a : Option Addr} {M : List α}, SlT E w a M → Ap vD a M.length → Ap vD' a M.length := fun {α E a M} hs ha h0 ad e hx => by
  rcases hat _ hx with h1 | h1
  ·exact ha h0 ad e h1
  ·obtain ⟨g, off, q1, _⟩ := hs.1
   have e1 := q1 h0
   rw [e] at e1
   injection e1 with e1
   obtain ⟨c, fr, hgr⟩ := hs.2 g off h0 (by rw [e, e1])
   have := lt_of_some hgr
   rw [e1] at h1
   simp only at h1
   omega
 refine ⟨hr, (h.row.grown h.dO hg (by decide)).box hbx (by decide) hc, fun q hq => ?_, (h.wo.grown h.dO hg (by decide)).box hbx (by decide) hc, fun q hq => ?_, hO.box hbx (by decide) hc, fun y hy => (hm y hy).kq3 hk, hm1.at (hc.block bM hm1.lt (hm1.ne_row hbx)), ?_, h.ge, h.gm⟩
 ·have p := h.gt q hq
  refine ⟨p.1.kq hk p.2.2, p.2.1, ?_⟩
  obtain ⟨LL, q1, q2, _⟩ := p.1.l
  have e : LL.length = q.1.log.length := by rw [← q1, List.length_map]
  rw [← e]
  exact hap q2 (by rw [e]; exact p.2.2)
 ·have p := h.we q hq
  refine ⟨p.1.kq hk p.2.2, p.2.1, ?_⟩
  have e : q.2.ls.length = q.1.ents.length := by rw [← p.1.e, List.length_map]
  rw [← e]
  exact hap p.1.l (by rw [e]; exact p.2.2)
 ·have h1 : Bel W w1 := ((h.bel.ch (fun i => W.heap.size ≤ i)).grown hg (fun k hk => Or.inl (h.dO.lt hk).1)).below (Nat.le_refl _) (fun _ hi => hi)
  exact bel_off h1 hc h.ge
theorem Gs.noted (h : Gs W n b gP cP bM km vW vD L Q D ld w) {ld' : Int → Int} {km' : Nat} (hm : Mg 25 mkT w' bM km' (ldF ld')) (ht : w.mapTurned w' bM) : Gs W n b gP cP bM km' vW vD L Q D ld' w' := by
 obtain ⟨es, cl, hmm⟩ := h.map.isMap
 have hk : ∀ d, Kq d w w' := fun d => Kq.turned hmm ht
 have hc : Ch (fun k => k = bM) w w' := (Ch.refl (fun k => k = bM) w).turned ht (Or.inl rfl)
 have off : ∀ {α : Type} {E : El α} {base : Nat} {v : Value} {M : List α}, E.O base w v M → E.O base w' v M := fun {α E base v M} ho => ho.at (fun j hj => hc.block j (ho.lt hj).2 (fun e => by
  obtain ⟨c, hcc⟩ := ho.block hj
  rw [e, hmm] at hcc
  cases hcc))
 exact ⟨hc.row h.box (fun e => by have := h.box; rw [e, hmm] at this; cases this), off h.row, fun q hq => ⟨(h.gt q hq).1.kq (hk _) (h.gt q hq).2.2, (h.gt q hq).2⟩, off h.wo, fun q hq => ⟨(h.we q hq).1.kq (hk _) (h.we q hq).2.2, (h.we q hq).2⟩, off h.dO, fun y hy => (h.dm y hy).kq3 (hk none), hm, bel_off h.bel hc h.gm, h.ge, h.gm⟩
theorem Gs.c0 (h : Gs W n b gP cP bM km vW vD L Q D ld w) : w.cell? ⟨b, 0, none⟩ = some (.slice (some ⟨gP, 0, none⟩) n cP) := (cell_of h.box).trans rfl
theorem Gs.c1 (h : Gs W n b gP cP bM km vW vD L Q D ld w) : w.cell? ⟨b, 1, none⟩ = some vW := (cell_of h.box).trans rfl
theorem Gs.c2 (h : Gs W n b gP cP bM km vW vD L Q D ld w) : w.cell? ⟨b, 2, none⟩ = some vD := (cell_of h.box).trans rfl
theorem Gs.c3 (h : Gs W n b gP cP bM km vW vD L Q D ld w) : w.cell? ⟨b, 3, none⟩ = some (.map (some bM)) := (cell_of h.box).trans rfl
end
end Go.Proofs.YthekbhliokcpcaaGreat
namespace Go.Proofs.YthekbhliokcpcaaGreat
open Go.RowKit Go.Maps
set_option maxRecDepth 100000 in
set_option maxHeartbeats 2000000 in
theorem sameInts_any {W : World} {a b : Option Addr} {l k : List Int} (h : Sl E3 W a l) (h2 : Sl E3 W b k) (cap cap2 : Nat) (hl : l.length ≤ 9000000000000000000) : Calls Tryz.prog 26 #[.slice a l.length cap, .slice b k.length cap2] W fun e w' => e = .returned (.bool (decide (l = k))) ∧ ∃ m, w' = W.drewN m := by
 by_cases hd : l.length = k.length
 ·obtain ⟨g, off, hg, hR⟩ := h
  obtain ⟨g2, off2, hg2, hR2⟩ := h2
  have HM : Hid (k.length = l.length) := jd hd.symm
  rw [← hd]
  generalize hn : l.length = n at *
  have HN := jd hn
  have HG := jd hg
  have HR := jd hR
  have HG2 := jd hg2
  have HR2 := jd hR2
  clear hn hg hR hg2 hR2 hd
  go_enter Tryz.func26, Tryz.ntmps26
  go_wp2_with fail
  go_loopw [5] (fun vk wr => ∃ i j : Nat, i ≤ n ∧ vk = .int .i64 i ∧ wr = W.drewN j ∧ Hid (l.take i = k.take i)) (fun vk _ => n - (intOf vk).toNat)
  case atStart => exact ⟨0, 0, Nat.zero_le _, rfl, rfl, jd (by simp)⟩
  case round =>
   obtain ⟨i, j, hi, rfl, hwr, HE⟩ := hrel
   have HW : Hid (∃ m, wr = W.drewN m) := jd ⟨j, hwr⟩
   have HBl : Hid (Bel W wr) := jd (by rw [hwr]; exact (Bel.refl W).drewN _)
   have HNx : Hid (∀ q, ∃ m, wr.drewN q = W.drewN m) := jd (fun q => ⟨j + q, by rw [hwr, World.drewN_drewN]⟩)
   clear hwr
   by_cases hlt : i < n
   ·have hil : i < l.length := by rw [ju HN]; exact hlt
    have hik : i < k.length := by rw [ju HM]; exact hlt
    obtain rfl := (ju HG) (by omega)
    obtain rfl := (ju HG2) (by rw [ju HM]; omega)
    have hkn : (i : Int) < n := by omega
    have r0 := (ju HBl).cell (E3_cell (ju HR) i hil)
    have r1 := (ju HBl).cell (E3_cell (ju HR2) i hik)
    have HD : Hid (l[i] = k[i] → l.take (i + 1) = k.take (i + 1)) := jd (fun e => by rw [List.take_add_one, List.take_add_one, ju HE, List.getElem?_eq_getElem hil, List.getElem?_eq_getElem hik, e])
    have HD2 : Hid (l[i] ≠ k[i] → l ≠ k) := jd (fun e h => e (by simp [h]))
    generalize l[i] = x at *
    generalize k[i] = y at *
    cases h1 : (x == y) with
    | true =>
     go_wp2_with fail
     go_quiet (fail)
     go_wp2_with fail
     go_roundw
     case rel =>
      obtain ⟨j2, hj2⟩ := (ju HNx) _
      exact ⟨i + 1, j2, by omega, by go_num, hj2, jd ((ju HD) (by simpa using h1))⟩
     case measure => simp [intOf]; omega
    | false =>
     have HF : Hid (decide (l = k) = false) := jd (decide_eq_false ((ju HD2) (by simpa using h1)))
     go_wp2_with fail
     go_quiet (fail)
     go_wp2_with fail
     go_ret
     exact ⟨by rw [ju HF]; rfl, (ju HNx) _⟩
   ·obtain rfl : i = n := by omega
    have HF : Hid (decide (l = k) = true) := jd (decide_eq_true (by
     have := ju HE
     rwa [List.take_of_length_le (by rw [ju HN]; omega), List.take_of_length_le (by rw [ju HM]; omega)] at this))
    go_wp2_with fail
    go_ret
    exact ⟨by rw [ju HF]; rfl, ju HW⟩
 ·have e1 : decide (l = k) = false := decide_eq_false (fun e => hd (by rw [e]))
  have e2 : ((l.length : Int) == (k.length : Int)) = false := by simp; omega
  rw [e1]
  generalize l.length = n at *
  generalize k.length = n2 at *
  clear h h2 e1
  go_enter Tryz.func26, Tryz.ntmps26
  go_wp2_with fail
  go_ret
  exact ⟨rfl, 0, rfl⟩
set_option maxRecDepth 100000 in
set_option maxHeartbeats 4000000 in
theorem sameEnts_yes {W : World} {a b : Option Addr} {l k : List (GE × GA)} (h : Sl EG W a l) (h2 : Sl EG W b k) (hm : Gm W l) (hm2 : Gm W k) (he : l.map (·.1) = k.map (·.1)) (cap cap2 : Nat) (hl : l.length ≤ 9000000000000000000) (hq : ∀ x ∈ l, x.1.m.length ≤ 9000000000000000000) : Calls Tryz.prog 27 #[.slice a l.length cap, .slice b l.length cap2] W fun e w' => e = .returned (.bool true) ∧ ∃ m, w' = W.drewN m := by
 have hd : l.length = k.length := by have := congrArg List.length he; simpa using this
 obtain ⟨g, off, hg, hR⟩ := h
 obtain ⟨g2, off2, hg2, hR2⟩ := h2
 have HM : Hid (k.length = l.length) := jd hd.symm
 have HI : Hid (∀ (i : Nat) (h1 : i < l.length) (h2 : i < k.length) W', Bel W W' → Calls Tryz.prog 26 #[.slice l[i].2.a l[i].1.m.length l[i].2.c, .slice k[i].2.a l[i].1.m.length k[i].2.c] W' fun e w' => e = .returned (.bool true) ∧ ∃ m, w' = W'.drewN m) := jd (fun i h1 h2 W' hb => by
  have e9 : l[i].1 = k[i].1 := by
   have z2 : (l.map (·.1))[i]? = (k.map (·.1))[i]? := congrArg (fun l => l[i]?) he
   rw [List.getElem?_map, List.getElem?_map, List.getElem?_eq_getElem h1, List.getElem?_eq_getElem h2] at z2
   exact Option.some.inj z2
  have z := sameInts_any ((hm l[i] (List.getElem_mem h1)).bel hb) ((hm2 k[i] (List.getElem_mem h2)).bel hb) l[i].2.c k[i].2.c (hq _ (List.getElem_mem h1))
  rw [decide_eq_true (congrArg GE.m e9), ← congrArg (fun q => q.m.length) e9] at z
  exact z)
 have HEq : Hid (∀ (i : Nat) (h1 : i < l.length) (h2 : i < k.length), k[i].1 = l[i].1) := jd (fun i h1 h2 => by
  have z2 : (l.map (·.1))[i]? = (k.map (·.1))[i]? := congrArg (fun l => l[i]?) he
  rw [List.getElem?_map, List.getElem?_map, List.getElem?_eq_getElem h1, List.getElem?_eq_getElem h2] at z2
  exact (Option.some.inj z2).symm)
 obtain ⟨n, hn⟩ : ∃ n, l.length = n := ⟨_, rfl⟩
 have HN := jd hn
 rw [hn]
 rw [hn] at hl
 have HG := jd hg
 have HR := jd hR
 have HG2 := jd hg2
 have HR2 := jd hR2
 clear hn hg hR hg2 hR2 hd he hm hm2 hq
 go_enter Tryz.func27, Tryz.ntmps27
 go_wp2_with fail
 go_loopw [5] (fun vk wr => ∃ i j : Nat, i ≤ n ∧ vk = .int .i64 i ∧ wr = W.drewN j) (fun vk _ => n - (intOf vk).toNat)
 case atStart => exact ⟨0, 0, Nat.zero_le _, rfl, rfl⟩
 case round =>
  obtain ⟨i, j, hi, rfl, hwr⟩ := hrel
  have HW : Hid (∃ m, wr = W.drewN m) := jd ⟨j, hwr⟩
  have HBl : Hid (Bel W wr) := jd (by rw [hwr]; exact (Bel.refl W).drewN _)
  have HNx : Hid (∀ q, ∃ m, wr.drewN q = W.drewN m) := jd (fun q => ⟨j + q, by rw [hwr, World.drewN_drewN]⟩)
  clear hwr
  by_cases hlt : i < n
  ·have hil : i < l.length := by rw [ju HN]; exact hlt
   have hik : i < k.length := by rw [ju HM, ju HN]; exact hlt
   obtain rfl := (ju HG) (by omega)
   obtain rfl := (ju HG2) (by omega)
   have hkn : (i : Int) < n := by omega
   obtain ⟨r0, r1, r2, r3⟩ := EG_cell (ju HR) i hil
   obtain ⟨t0, t1, t2, t3⟩ := EG_cell (ju HR2) i hik
   have r0 := (ju HBl).cell r0
   have r1 := (ju HBl).cell r1
   have r2 := (ju HBl).cell r2
   have r3 := (ju HBl).cell r3
   have t0 := (ju HBl).cell t0
   have t1 := (ju HBl).cell t1
   have t2 := (ju HBl).cell t2
   have t3 := (ju HBl).cell t3
   rw [(ju HEq) i hil hik] at t0 t1 t2 t3
   have HIx : Hid (∀ q, Calls Tryz.prog 26 #[.slice l[i].2.a l[i].1.m.length l[i].2.c, .slice k[i].2.a l[i].1.m.length k[i].2.c] (wr.drewN q) fun e w' => e = .returned (.bool true) ∧ ∃ m, w' = (wr.drewN q).drewN m) := jd (fun q => (ju HI) i hil hik _ ((ju HBl).drewN q))
   generalize l[i] = x at *
   generalize k[i] = y at *
   obtain ⟨⟨t, kd, d, m⟩, ax, cx⟩ := x
   obtain ⟨y1, ay, cy⟩ := y
   simp only at r0 r1 r2 r3 t0 t1 t2 t3 HIx
   generalize m.length = nm at *
   clear HI HEq
   go_wp2_with fail
   go_quiet ((go_at_call 26; refine Calls.quiet_of ((ju HIx) _)))
   go_wp2_with fail
   go_roundw
   case rel =>
    obtain ⟨j2, hj2⟩ := (ju HNx) _
    exact ⟨i + 1, j2, by omega, by go_num, hj2⟩
   case measure => simp [intOf]; omega
  ·obtain rfl : i = n := by omega
   go_wp2_with fail
   go_ret
   exact ⟨rfl, ju HW⟩
theorem bel_of_drew {w w' : World} {q : Nat} (h : w' = w.drewN q) : Bel w w' := by rw [h]; exact (Bel.refl w).drewN q
end Go.Proofs.YthekbhliokcpcaaGreat
namespace Go.Proofs.YthekbhliokcpcaaGreat
open Go.RowKit Go.Maps Go.Sort
section
variable {W : World} {s : GP} {x : Px}
set_option maxRecDepth 100000 in
set_option maxHeartbeats 4000000 in
theorem entry_yes {g off : Nat} (ha : x.aL = some ⟨g, off, none⟩) (h0 : 0 ≤ s.base ∧ s.base ≤ 1000000) (hl : s.log.length ≤ 1000000) (hc : s.log.length ≤ x.cL) (k : Nat) (hk : k < s.log.length) (i : Int) (hi : i - s.base - 1 = k) : Calls Tryz.prog 80 #[.agg (gc s x), .int .i64 i] W fun e w' => e = .returned (.tuple #[.slice (some ⟨g, off + k * 4, none⟩) 1 (x.cL - k), .bool true]) ∧ Bel W w' := by
 have hw1 : IntKind.i64.wrap s.base = s.base := wrapI (by omega) (by omega)
 have hw2 : IntKind.i64.wrap (i - s.base) = i - s.base := wrapI (by omega) (by omega)
 have hw3 : IntKind.i64.wrap (i - s.base - 1) = (k : Int) := by rw [wrapI (by omega) (by omega)]; exact hi
 have hw4 : IntKind.i64.wrap ((k : Int) + 1) = (k : Int) + 1 := wrapI (by omega) (by omega)
 have hk0 : ¬ (k : Int) < 0 := by omega
 have hkn : ¬ (s.log.length : Int) ≤ (k : Int) := by omega
 have HA := jd ha
 have hkc : k + 1 ≤ x.cL := by omega
 have hkc' : (k : Int) + 1 ≤ x.cL := by omega
 generalize hno : s.log.length = no at *
 go_enter Tryz.func80, Tryz.ntmps80
 go_wp2_with (first
  | (refine bx_boxK 31 (.tmp 0) (by exact rfl) (by exact rfl) (gc s x) (by exact rfl) ?_; intro b w0 hr0 hs0 hb0; have HB0 := jd hb0; have y6 := (Bg.of hr0).c6; have y10 := (Bg.of hr0).c10; rw [ju HA, hno] at y10; clear hr0 hs0 hb0)
  | go_guarded)
 refine bodyPost_ret (results_tmp2 rfl _ _ _) rfl ?_
 exact ⟨rfl, ju HB0⟩
set_option maxRecDepth 100000 in
set_option maxHeartbeats 4000000 in
theorem entry_no (h0 : 0 ≤ s.base ∧ s.base ≤ 1000000) (_hl : s.log.length ≤ 1000000) (i : Int) (hi : 0 ≤ i ∧ i ≤ 2000000) (hn : i - s.base - 1 < 0 ∨ (s.log.length : Int) ≤ i - s.base - 1) : Calls Tryz.prog 80 #[.agg (gc s x), .int .i64 i] W fun e w' => e = .returned (.tuple #[.slice none 0 0, .bool false]) ∧ Bel W w' := by
 have hw1 : IntKind.i64.wrap s.base = s.base := wrapI (by omega) (by omega)
 have hw2 : IntKind.i64.wrap (i - s.base) = i - s.base := wrapI (by omega) (by omega)
 have hw3 : IntKind.i64.wrap (i - s.base - 1) = i - s.base - 1 := wrapI (by omega) (by omega)
 obtain ⟨k, hk⟩ : ∃ k : Int, i - s.base - 1 = k := ⟨_, rfl⟩
 rw [hk] at hw3 hn
 generalize hno : s.log.length = no at *
 by_cases c : k < 0
 ·clear hn
  go_enter Tryz.func80, Tryz.ntmps80
  go_wp2_with (first
   | (refine bx_boxK 31 (.tmp 0) (by exact rfl) (by exact rfl) (gc s x) (by exact rfl) ?_; intro b w0 hr0 hs0 hb0; have HB0 := jd hb0; have y6 := (Bg.of hr0).c6; have y10 := (Bg.of hr0).c10; rw [hno] at y10; clear hr0 hs0 hb0)
   | go_guarded)
  refine bodyPost_ret (results_tmp2 rfl _ _ _) rfl ?_
  exact ⟨rfl, ju HB0⟩
 ·have hn : (no : Int) ≤ k := hn.resolve_left c
  go_enter Tryz.func80, Tryz.ntmps80
  go_wp2_with (first
   | (refine bx_boxK 31 (.tmp 0) (by exact rfl) (by exact rfl) (gc s x) (by exact rfl) ?_; intro b w0 hr0 hs0 hb0; have HB0 := jd hb0; have y6 := (Bg.of hr0).c6; have y10 := (Bg.of hr0).c10; rw [hno] at y10; clear hr0 hs0 hb0)
   | go_guarded)
  refine bodyPost_ret (results_tmp2 rfl _ _ _) rfl ?_
  exact ⟨rfl, ju HB0⟩
end
end Go.Proofs.YthekbhliokcpcaaGreat
