/- Members and messages of a group: they may be, and their sizes are known. The calls of a group's law, over a group of any members. A group of any members begins. Begin of the law of logs cut off behind a snapshot. -/
import Derived.Test.YthekbhliokcpcaaGreatT33
import Derived.Test.YthekbhliokcpcaaGreatT14
namespace Go.Proofs.YthekbhliokcpcaaGreat
section
variable {ld : Int → Int} {n T G k : Nat} {σ : Nat → ByteArray} {ps : List PP} {gw : List QM} {dn : List PE} {b : Nat} {s : PP} {q : QM} {o : GM}
theorem idB_of {i : Int} (hn : n ≤ 64) (h : 1 ≤ i ∧ i ≤ n) : idB i = true := by
 unfold idB
 simp
 omega
theorem oth_lenn (id : Int) : (oth n id).length ≤ n := by
 unfold oth
 refine Nat.le_trans (List.length_filter_le _ _) ?_
 unfold mem
 simp
theorem fol_bds (h : Ok n T G s) : s.fol.length ≤ n ∧ ∀ f ∈ s.fol, 1 ≤ f.2.1 ∧ f.2.1 ≤ s.log.length + 1 ∧ f.2.2 < f.2.1 ∧ 0 ≤ f.2.2 := by
 rcases h.role with h' | h' | h'
 ·rw [h'.2.2]; exact ⟨Nat.zero_le _, fun f hf => by cases hf⟩
 ·rw [h'.2.2.2.2]; exact ⟨Nat.zero_le _, fun f hf => by cases hf⟩
 ·refine ⟨?_, h'.2.2.2.2.2.2⟩
  have := oth_lenn (n := n) s.id
  rw [← h'.2.2.2.2.2.1, List.length_map] at this
  exact this
theorem ris_len : ∀ (l : List Int) (c : Int), Ris l → (∀ x ∈ l, c < x ∧ x ≤ n) → (l.length : Int) ≤ max 0 (n - c)
 | [], c, _, _ => by simp; omega
 | a :: l, c, h, hx => by
  have h1 := hx a (by simp)
  have h2 := List.pairwise_cons.1 h
  have := ris_len l a h2.2 (fun x hm => ⟨h2.1 x hm, (hx x (by simp [hm])).2⟩)
  simp only [List.length_cons]
  omega
theorem vote_len (h : Ok n T G s) : s.votes.length ≤ n := by
 have := ris_len (n := n) s.votes 0 h.vr (fun x hx => by have := h.vm x hx; omega)
 omega
theorem rl_gz (h : Ok n T G s) (hb : b ≤ s.commit) (hn : n ≤ 64) (hT : T ≤ 90000) (hG : G ≤ 90000) {x : Px} (hx : (rl n σ s b).log.length ≤ x.cL) : Gz (rl n σ s b) x := by
 have hc := h.com
 have hl := h.glen
 have h0 := h.t0
 have h1 := h.tT
 have hlen : (rl n σ s b).log.length = s.log.length - b := by simp [rl]
 have htb := tAt_ok h.log h0 (i := b) (by omega)
 have hf := fol_bds h
 have hv := vote_len h
 refine ⟨⟨h0, by show s.term ≤ _; omega⟩, ⟨by show (0 : Int) ≤ (b : Int); omega, by show (b : Int) ≤ _; omega⟩, ⟨htb.1, by show tAt s.log b ≤ _; omega⟩, ⟨by show (0 : Int) ≤ (s.commit : Int); omega, by show (s.commit : Int) ≤ _; omega⟩, ⟨by show (0 : Int) ≤ 0; omega, by show (0 : Int) ≤ _; omega⟩, ?_, ?_, by show s.votes.length ≤ _; omega, by omega, ?_, ?_, by show s.fol.length ≤ _; omega, fun f hm => ?_, Nat.zero_le _, fun r hr => (by cases hr), hx⟩
 ·show (mem n).length ≤ _
  unfold mem; simp; omega
 ·show (mem n).length ≤ _
  unfold mem; simp; omega
 ·intro e he
  obtain ⟨z, _, rfl⟩ := List.mem_map.1 he
  exact Nat.zero_le _
 ·intro e he
  obtain ⟨z, hz, rfl⟩ := List.mem_map.1 he
  have := (h.log.2 z (List.mem_of_mem_drop hz)).1
  exact ⟨by show 0 ≤ z.t; omega, by show z.t ≤ _; omega⟩
 ·have := hf.2 f hm
  omega
theorem sh_may (hn : n ≤ 64) (hT : T ≤ 1000000) (hG : G ≤ 1000000) (h : (∃ p : PM, q = p.q ∧ MOk n T G p) ∨ QOk n T G q) : mayMB q.g = true := by
 unfold mayMB
 rcases h with ⟨p, rfl, h⟩ | h
 ·have h1 := h.kind; have h2 := h.f; have h3 := h.t; have h4 := h.ne; have h5 := h.term; have h6 := h.index; have h7 := h.lterm; have h8 := h.zero
  have a1 : headB p.q.g = true := by
   unfold headB
   rw [show p.q.g.frm = p.frm from rfl, show p.q.g.to = p.to from rfl, idB_of hn h2, idB_of hn h3]
   show (decide (0 < p.kind) && decide (p.kind ≤ 5) && true && true && (p.frm != p.to) && decide (0 < p.term) && decide (p.term ≤ 4611686018427387904)) = true
   simp [h4]
   omega
  have e1 : p.q.g.index = p.index := by show ((p.index.toNat : Nat) : Int) = _; omega
  have a2 : placeB p.q.g = true := by
   unfold placeB
   rw [e1, show p.q.g.lterm = p.lterm from rfl, show p.q.g.round = 0 from rfl, show p.q.g.term = p.term from rfl, show p.q.g.kind = p.kind from rfl]
   have c1 : decide (4611686018427387904 < p.index) = false := decide_eq_false (by omega)
   have c2 : decide (p.term < p.lterm) = false := decide_eq_false (by omega)
   rw [c1, c2, show decide ((4611686018427387904 : Int) < 0) = false by decide]
   rcases h1 with hk | hk
   ·rw [hk]
    by_cases hz : p.index = 0
    ·rw [hz, h8.1 hz]; rfl
    ·have : p.lterm ≠ 0 := fun e => hz (h8.2 e)
     have d1 : (p.index == 0) = false := beq_eq_false_iff_ne.2 hz
     have d2 : (p.lterm == 0) = false := beq_eq_false_iff_ne.2 this
     rw [d1, d2]; rfl
   ·rw [hk]; rfl
  have a3 : listsB p.q.g = true := by
   unfold listsB
   rw [show p.q.g.kind = p.kind from rfl]
   rcases h1 with hk | hk <;> (rw [hk]; rfl)
  have a4 : emptyB (unm p.q.g) = true := by
   unfold unm
   rw [show p.q.g.kind = p.kind from rfl]
   rcases h1 with hk | hk
   ·have := h.ask hk
    rw [hk]
    simp [emptyB, PM.q, QM.g, this]
   ·have := h.told hk
    rw [hk]
    simp [emptyB, PM.q, QM.g, this.1, this.2]
  rw [a1, a2, a3, a4]; rfl
 ·have h1 := h.kind; have h2 := h.f; have h3 := h.t; have h4 := h.ne; have h5 := h.term; have h6 := h.index; have h7 := h.lterm; have h9 := h.com
  have a1 : headB q.g = true := by
   unfold headB
   rw [show q.g.frm = q.frm from rfl, show q.g.to = q.to from rfl, idB_of hn h2, idB_of hn h3]
   show (decide (0 < q.kind) && decide (q.kind ≤ 5) && true && true && (q.frm != q.to) && decide (0 < q.term) && decide (q.term ≤ 4611686018427387904)) = true
   simp [h4]
   omega
  have a2 : placeB q.g = true := by
   unfold placeB
   rw [show q.g.index = (q.index : Int) from rfl, show q.g.lterm = q.lterm from rfl, show q.g.round = 0 from rfl, show q.g.term = q.term from rfl, show q.g.kind = q.kind from rfl]
   have c1 : decide (4611686018427387904 < (q.index : Int)) = false := decide_eq_false (by omega)
   have c2 : decide (q.term < q.lterm) = false := decide_eq_false (by omega)
   rw [c1, c2, show decide ((4611686018427387904 : Int) < 0) = false by decide]
   rcases h1 with hk | hk
   ·have h8 := (h.lay hk).2.1
    rw [hk]
    by_cases hz : q.index = 0
    ·rw [hz, h8.1 hz]; rfl
    ·have : q.lterm ≠ 0 := fun e => hz (h8.2 e)
     have d1 : ((q.index : Int) == 0) = false := beq_eq_false_iff_ne.2 (by omega)
     have d2 : (q.lterm == 0) = false := beq_eq_false_iff_ne.2 this
     rw [d1, d2]; rfl
   ·rw [hk]; rfl
  have a3 : listsB q.g = true := by
   unfold listsB
   rw [show q.g.kind = q.kind from rfl]
   rcases h1 with hk | hk
   ·obtain ⟨_, _, l1, l2, l3⟩ := h.lay hk
    rw [hk, show q.g.ents = q.ents.map PE.g from rfl, show q.g.lterm = q.lterm from rfl, show q.g.term = q.term from rfl, mayEs_g _ _ _ l3 l2]
    simp [l1]
   ·rw [hk]; rfl
  have a4 : emptyB (unm q.g) = true := by
   unfold unm
   rw [show q.g.kind = q.kind from rfl]
   rcases h1 with hk | hk
   ·have := (h.lay hk).1
    rw [hk]
    simp [emptyB, QM.g, this]
   ·obtain ⟨e1, e2, e3⟩ := h.hrd hk
    rw [hk]
    simp [emptyB, QM.g, e1, e2, e3]
  rw [a1, a2, a3, a4]; rfl
theorem inst_may (hn : n ≤ 64) (h : Al ld n T G ps gw dn) (hT : T ≤ 1000000) (hG : G ≤ 1000000) (hq : q ∈ gw) {c : Nat} (hc1 : 1 ≤ c) (eq : q = ⟨3, q.frm, q.to, q.term, 0, 0, c, false, q.ents⟩) (hlen : q.ents.length = c) (hpre : q.ents <+: dn) (hh : Hd n T q) (ho : o = ⟨5, q.frm, q.to, q.term, c, tAt q.ents c, 0, 0, false, [], mem n, σ c⟩) : mayMB o = true ∧ 0 ≤ o.index ∧ o.index ≤ 1000000 := by
 have hdl := h.dnlen
 have hcl := hpre.length_le
 obtain ⟨g, h⟩ := h
 have hlg : Lg q.term q.ents := by
  have h1 := ((h.ms q hq).lay (by rw [eq])).2.2.1
  rw [h1]
  exact (h.gi.l q.term).sub ((List.take_sublist _ _).trans (List.drop_sublist _ _))
 have hta := tAt_ok hlg (by have := hh.term; omega) (i := c) (by omega)
 have ht1 : 1 ≤ tAt q.ents c := by
  have : tAt q.ents c ≠ 0 := fun e => by have := hta.2.2.2 e; omega
  omega
 have hf := hh.f; have htt := hh.t; have hne := hh.ne; have htm := hh.term
 have hi : o.index = (c : Int) := by rw [ho]
 refine ⟨?_, by omega, by omega⟩
 subst ho
 unfold mayMB
 have a1 : headB (⟨5, q.frm, q.to, q.term, c, tAt q.ents c, 0, 0, false, [], mem n, σ c⟩ : GM) = true := by
  unfold headB
  simp only [idB_of hn hf, idB_of hn htt]
  simp [hne]
  omega
 have a2 : placeB (⟨5, q.frm, q.to, q.term, c, tAt q.ents c, 0, 0, false, [], mem n, σ c⟩ : GM) = true := by
  unfold placeB
  have c1 : decide (4611686018427387904 < (c : Int)) = false := decide_eq_false (by omega)
  have c2 : decide (q.term < tAt q.ents c) = false := decide_eq_false (by omega)
  have c3 : decide (0 < (c : Int)) = true := decide_eq_true (by omega)
  have c4 : decide (0 < tAt q.ents c) = true := decide_eq_true (by omega)
  simp only [c1, c2, c3, c4]
  rfl
 have a3 : listsB (⟨5, q.frm, q.to, q.term, c, tAt q.ents c, 0, 0, false, [], mem n, σ c⟩ : GM) = true := by
  unfold listsB
  simp only [aids_mem hn]
  have : 0 < (mem n).length := by unfold mem; simp; omega
  simp [this]
 have a4 : emptyB (unm (⟨5, q.frm, q.to, q.term, c, tAt q.ents c, 0, 0, false, [], mem n, σ c⟩ : GM)) = true := by
  unfold unm
  simp [emptyB]
 rw [a1, a2, a3, a4]; rfl
end
end Go.Proofs.YthekbhliokcpcaaGreat
namespace Go.Proofs.YthekbhliokcpcaaGreat
open Go.RowKit Go.Maps Go.Sort
theorem votesTake_len (s : GP) (m : GM) : (s.votesTake m).2.length ≤ 1 := by
 unfold GP.votesTake GP.voteTake
 generalize (if s.term < m.term then s.down m.term else s) = u
 rw [List.length_map]
 unfold GP.vote1
 split
 ·unfold GP.ask
  split <;> simp
 ·simp
theorem joined_len (s : GP) (m : GM) (i : Int) (l : List GE) : (s.joined m i l).2.length ≤ 1 := by
 unfold GP.joined
 split <;> simp
theorem layTo_len (s : GP) (m : GM) : (s.layTo m).2.length ≤ 1 := by
 unfold GP.layTo
 split
 ·exact joined_len _ _ _ _
 ·split
  ·exact joined_len _ _ _ _
  ·simp
theorem takeHeard_len (s : GP) (m : GM) : (s.takeHeard m).2.length ≤ 1 := by
 unfold GP.takeHeard
 split
 ·split
  ·simp
  ·split
   ·simp only
    split <;> simp
   ·simp
 ·simp
theorem ltake_len (s : GP) (m : GM) : (s.ltake m).2.length ≤ 1 := by
 unfold GP.ltake
 split
 ·unfold GP.takeLay
  split
  ·simp
  ·split
   ·simp
   ·exact layTo_len _ _
 ·exact takeHeard_len _ _
theorem trimTake_len (s : GP) (m : GM) : (s.trimTake m).2.length ≤ 1 := by
 unfold GP.trimTake
 split
 ·simp
 ·split <;> simp
theorem gltick_len (s : GP) (d : Int) (h1 : s.fol.length ≤ 64) (h2 : (othG s).length ≤ 64) : (s.ltick d).2.length ≤ 64 := by
 have h3 : (s.tick d).2.length ≤ 64 := by
  unfold GP.tick
  split
  ·simp
  ·split
   ·simp
   ·unfold GP.asks
    rw [List.length_map]
    exact h2
 unfold GP.ltick
 split
 ·split
  ·rename_i hr
   have e : s.tick d = (s, []) := by unfold GP.tick; rw [if_pos hr]
   rw [e]
   unfold GP.beat
   split
   ·simp
   ·rw [List.length_map]; exact h1
  ·rw [List.length_map]; exact h3
 ·rw [List.length_map]; exact h3
structure Gk (σ : Nat → ByteArray) (W : World) (n b gP cP bM k km : Nat) (vW vD : Value) (L : List (GP × Px)) (Q : List (GM × GX)) (D : List (GE × GA)) (ld : Int → Int) (M : List (PP × Nat)) (gw : List QM) (dn : List PE) (w : World) : Prop where
 gs : Gs W n b gP cP bM km vW vD L Q D ld w
 hM : L.map (·.1) = M.map (fun m => rl n σ m.1 m.2)
 al : Al ld n k k (M.map (·.1)) gw dn
 hD : D.map (·.1) = dn.map PE.g
 hb : ∀ m ∈ M, m.2 ≤ m.1.commit
 hd : ∀ m ∈ M, m.1.log.take m.1.commit <+: dn
 wq : ∀ o ∈ Q, ∃ q ∈ gw, Rw n k k σ dn o.1 q
 ql : Q.length ≤ 300
 kk : km ≤ k
structure Sdk (σ : Nat → ByteArray) (n k q : Nat) (ld : Int → Int) (M : List (PP × Nat)) (gw : List QM) (dn : List PE) (w : World) (p1 : PP) (b1 : Nat) (x1 : Px) (vO : Value) (O : List (GM × GX)) (w' : World) : Prop where
 gt : Gt w' (rl n σ p1 b1) x1
 lc : Lc w.heap.size x1 (rl n σ p1 b1).log.length
 oo : EMg.O w.heap.size w' vO O
 oe : ∀ y ∈ O, GwT w' y.1 y.2 ∧ Nm w.heap.size y.1 y.2
 bel : Bel w w'
 sp : Sp ld n k σ (M.map (·.1)) gw dn q p1 b1 (O.map (·.1))
 ol : O.length ≤ 64
structure Gmk (σ : Nat → ByteArray) (W : World) (n b gP cP bM k km q : Nat) (vW vD : Value) (L : List (GP × Px)) (Q : List (GM × GX)) (D : List (GE × GA)) (ld : Int → Int) (M : List (PP × Nat)) (gw : List QM) (dn : List PE) (vO : Value) (O : List (GM × GX)) (w : World) : Prop where
 gs : Gs W n b gP cP bM km vW vD L Q D ld w
 hM : L.map (·.1) = M.map (fun m => rl n σ m.1 m.2)
 al : Al ld n k k (M.map (·.1)) gw dn
 hD : D.map (·.1) = dn.map PE.g
 hb : ∀ m ∈ M, m.2 ≤ m.1.commit
 hd : ∀ j (h : j < M.length), j ≠ q → M[j].1.log.take M[j].1.commit <+: dn
 hq : ∀ m ∈ M, m.1.log.take m.2 <+: dn
 wq : ∀ o ∈ Q, ∃ q ∈ gw, Rw n k k σ dn o.1 q
 wo : ∀ o ∈ O, ∃ q ∈ gw, Rw n k k σ dn o.1 q
 oo : EMg.O 0 w vO O
 oe : ∀ y ∈ O, GwT w y.1 y.2 ∧ y.1.ents.length ≤ y.2.ec ∧ Ap vD y.2.ea y.1.ents.length
 ql : Q.length ≤ 300
 ol : O.length ≤ 64
 kk : km ≤ k
section
variable {σ : Nat → ByteArray} {W w w' w1 w2 : World} {n b gP cP bM k km q : Nat} {vW vD vO vW' vD' : Value} {L : List (GP × Px)} {Q O Q' : List (GM × GX)} {D D' : List (GE × GA)} {ld ld' : Int → Int} {M : List (PP × Nat)} {gw : List QM} {dn dn' : List PE} {p p1 : PP} {c b1 : Nat} {x x1 : Px}
theorem Gk.next (h : Gk σ W n b gP cP bM k km vW vD L Q D ld M gw dn w) (hb : Bel w w') : Gk σ W n b gP cP bM k km vW vD L Q D ld M gw dn w' := { h with gs := h.gs.next hb }
theorem Gk.len (h : Gk σ W n b gP cP bM k km vW vD L Q D ld M gw dn w) : M.length = L.length ∧ L.length = n := ⟨by have := congrArg List.length h.hM; simpa using this.symm, h.gs.len⟩
theorem rl_inj_at (hM : L.map (·.1) = M.map (fun m => rl n σ m.1 m.2)) (hq : q < L.length) : ∃ p c x, L[q] = (rl n σ p c, x) ∧ M[q]? = some (p, c) := by
 have hl : M.length = L.length := by have := congrArg List.length hM; simpa using this.symm
 have hqM : q < M.length := by omega
 have e1 : L[q].1 = rl n σ M[q].1 M[q].2 := by
  have h1 : (L.map (·.1))[q]? = (M.map (fun m => rl n σ m.1 m.2))[q]? := by rw [hM]
  simpa [hq, hqM] using h1
 exact ⟨M[q].1, M[q].2, L[q].2, by rw [← e1], by rw [List.getElem?_eq_getElem hqM]⟩
theorem Gk.at (h : Gk σ W n b gP cP bM k km vW vD L Q D ld M gw dn w) (hn : n ≤ 64) (hk : k ≤ 80000) (h0 : σ 0 = ⟨#[]⟩) (hq : q < L.length) (e : L[q] = (rl n σ p c, x)) (em : M[q]? = some (p, c)) : Gp w (rl n σ p c) x ∧ Gz (rl n σ p c) x ∧ mayG (rl n σ p c) = true ∧ Ok n k k p ∧ p.id = (q : Int) + 1 ∧ c ≤ p.commit ∧ p.log.take p.commit <+: dn ∧ (rl n σ p c).log.length ≤ 99999 ∧ q < (M.map (·.1)).length ∧ ∀ hi : q < (M.map (·.1)).length, (M.map (·.1))[q] = p := by
 have hqM : q < M.length := by have := h.len; omega
 rw [List.getElem?_eq_getElem hqM] at em
 have em := Option.some.inj em
 have hmem := List.getElem_mem hqM
 have hq2 : q < (M.map (·.1)).length := by simpa using hqM
 have hg : (M.map (·.1))[q] = p := by simp [em]
 have hok := h.al.ok hq2
 rw [hg] at hok
 have hb := h.hb _ hmem
 have hd := h.hd _ hmem
 rw [em] at hb hd
 have hgt := h.gs.gt _ (List.getElem_mem hq)
 rw [e] at hgt
 have hgl := hok.1.glen
 exact ⟨hgt.1.gp, rl_gz hok.1 hb hn (by omega) (by omega) hgt.2.1, rl_may hok.1 hb hn (by omega) (by omega) h0, hok.1, hok.2, hb, hd, by simp [rl]; omega, hq2, fun _ => hg⟩
theorem set_map {M : List (PP × Nat)} (q : Nat) (p1 : PP) (b1 : Nat) : (M.set q (p1, b1)).map (·.1) = (M.map (·.1)).set q p1 ∧ (M.set q (p1, b1)).map (fun m => rl n σ m.1 m.2) = (M.map (fun m => rl n σ m.1 m.2)).set q (rl n σ p1 b1) := ⟨by rw [List.map_set], by rw [List.map_set]⟩
theorem Gk.put (h : Gk σ W n b gP cP bM k km vW vD L Q D ld M gw dn w) (_hq : q < L.length) (hs : Sdk σ n k q ld M gw dn w p1 b1 x1 vO O w1) (ho : EPg.O W.heap.size w2 (.slice (some ⟨gP, 0, none⟩) n cP) (L.set q (rl n σ p1 b1, x1))) (hc : Ch (fun j => j = gP) w1 w2) : ∃ gw', Gmk σ W n b gP cP bM (k + 1) km q vW vD (L.set q (rl n σ p1 b1, x1)) Q D ld (M.set q (p1, b1)) gw' dn vO O w2 := by
 obtain ⟨gw', a1, a2, a3, a4, a5⟩ := hs.sp
 have hl := h.len
 obtain ⟨cur, hcur⟩ := (h.gs.next hs.bel).row.block (k := gP) rfl
 have hcur : w1.heap[gP]? = some (.cells cur 31) := hcur
 have hkq : ∀ d, Kq d w1 w2 := fun d => Kq.ch hcur (by decide) hc
 have hap : ∀ y ∈ O, Ap vD y.2.ea y.1.ents.length := fun y hy => Ap.new h.gs.dO (hs.oe y hy).2.1
 refine ⟨gw', h.gs.put hs.bel hs.gt hs.lc ho hc, ?_, ?_, h.hD, ?_, ?_, ?_, ?_, ?_, ?_, ?_, h.ql, hs.ol, Nat.le_succ_of_le h.kk⟩
 ·rw [(set_map q p1 b1).2, List.map_set, h.hM]
 ·rw [(set_map (n := n) (σ := σ) q p1 b1).1]; exact a1
 ·intro m hm
  rcases List.mem_or_eq_of_mem_set hm with hm | rfl
  ·exact h.hb m hm
  ·exact a3
 ·intro j hj hne
  have hj' : j < M.length := by simpa using hj
  rw [List.getElem_set_ne (fun e => hne e.symm)]
  exact h.hd _ (List.getElem_mem hj')
 ·intro m hm
  rcases List.mem_or_eq_of_mem_set hm with hm | rfl
  ·exact (List.take_prefix_take_left (h.hb m hm)).trans (h.hd m hm)
  ·exact a4
 ·intro o ho
  obtain ⟨r, r1, r2⟩ := h.wq o ho
  exact ⟨r, a2 r r1, r2.mono (Nat.le_succ _) (Nat.le_succ _) (List.prefix_refl _)⟩
 ·intro o ho
  obtain ⟨r, r1, r2⟩ := a5 o.1 (List.mem_map.2 ⟨o, ho, rfl⟩)
  exact ⟨r, r1, r2⟩
 ·exact (hs.oo.mono (Nat.zero_le _)).box hcur (by decide) hc
 ·intro y hy
  exact ⟨(hs.oe y hy).1.kq (hkq _) (hap y hy), (hs.oe y hy).2.2, hap y hy⟩
theorem Gmk.join (h : Gmk σ W n b gP cP bM k km q vW vD L Q D ld M gw dn vO O w) (hl : Q.length < 150) (hO : EMg.O W.heap.size w1 vW' (Q ++ O)) (hg : w.grownBy w1 vW.ownBlock) (hr : w2.heap[b]? = some (.cells (grp n gP cP bM vW' vD) 50)) (hc : Ch (fun j => j = b) w1 w2) : Gmk σ W n b gP cP bM k km q vW' vD L (Q ++ O) D ld M gw dn (.slice none 0 0) [] w2 :=
 ⟨h.gs.joinW h.oe hO hg hr hc, h.hM, h.al, h.hD, h.hb, h.hd, h.hq, fun o ho => (List.mem_append.1 ho).elim (h.wq o) (h.wo o), fun o ho => (by cases ho), El.O.nil _ _, fun y hy => (by cases hy), by have := h.ol; rw [List.length_append]; omega, Nat.zero_le _, h.kk⟩
theorem Gmk.skip (h : Gmk σ W n b gP cP bM k km q vW vD L Q D ld M gw dn vO O w) : Gmk σ W n b gP cP bM k km q vW vD L Q D ld M gw dn (.slice none 0 0) [] w :=
 ⟨h.gs, h.hM, h.al, h.hD, h.hb, h.hd, h.hq, h.wq, fun o ho => (by cases ho), El.O.nil _ _, fun y hy => (by cases hy), h.ql, Nat.zero_le _, h.kk⟩
theorem Gmk.held (h : Gmk σ W n b gP cP bM k km q vW vD L Q D ld M gw dn vO O w) (hk1 : 1 ≤ k) (hkm : km + 1 ≤ k) (hn : n ≤ 64) (hk : k ≤ 80000) (hq : q < L.length) : Calls Tryz.prog 33 #[.pointer (some ⟨b, 0, none⟩), .int .i64 (q : Int)] w fun e w' => e = .returned (.bool true) ∧ ∃ vD' D' ld' km' dn', Gk σ W n b gP cP bM k km' vW vD' L Q D' ld' M gw dn' w' := by
 obtain ⟨p, c, x, e1, e2⟩ := rl_inj_at h.hM hq
 have hl : M.length = L.length := by have := congrArg List.length h.hM; simpa using this.symm
 have hqM : q < M.length := by omega
 have e3 : M[q] = (p, c) := by rw [List.getElem?_eq_getElem hqM] at e2; exact Option.some.inj e2
 refine (holds_g h.gs h.hM h.al h.hD hn (by omega) (by omega) (by have := h.kk; omega) h.hb h.hq hq e1 e2).mono ?_
 rintro e w' ⟨rfl, vD', D', ld', km', h1, h2, h3, h4⟩
 have hqm : q < (M.map (·.1)).length := by simpa using hqM
 have hgm : (M.map (·.1))[q] = p := by simp [e3]
 have hh := h.al.hold1 hqm
 rw [hgm] at hh
 have hpre : dn <+: doneUp dn p := List.prefix_append _ _
 refine ⟨rfl, vD', D', ld', km', doneUp dn p, h2, h.hM, h4, h3, h.hb, fun m hm => ?_, fun o ho => ?_, h.ql, by omega⟩
 ·obtain ⟨j, hj, rfl⟩ := List.getElem_of_mem hm
  by_cases c1 : j = q
  ·subst c1
   rw [e3]
   exact hh.2
  ·exact (h.hd j hj c1).trans hpre
 ·obtain ⟨r, r1, r2⟩ := h.wq o ho
  exact ⟨r, r1, r2.mono (Nat.le_refl _) (Nat.le_refl _) hpre⟩
end
theorem mem_take (n i : Nat) (hi : i < n) : (mem n).take (i + 1) = (mem n).take i ++ [(i : Int) + 1] := by
 have hl : i < (mem n).length := by rw [mem_len]; exact hi
 rw [List.take_add_one, List.getElem?_eq_getElem hl]
 simp [mem]
def news (i : Nat) : List PP := (List.range i).map fun (j : Nat) => pnew ((j : Int) + 1) (1 + 2 * (j : Int))
theorem news_len (i : Nat) : (news i).length = i := by simp [news]
theorem news_succ (i : Nat) : news (i + 1) = news i ++ [pnew ((i : Int) + 1) (1 + 2 * (i : Int))] := by simp [news, List.range_succ]
theorem news_at (n i : Nat) (h : i < (news n).length) : (news n)[i] = pnew ((i : Int) + 1) (1 + 2 * (i : Int)) := by simp [news]
theorem inv0 {n : Nat} (h5 : n ≤ 5) : Inv n 0 0 (news n) [] (fun _ => 0) (fun _ _ => 0) := by
 have hg := news_at n
 have hl := news_len n
 refine ⟨hl, fun i h => ?_, fun m hm => (by cases hm), fun i h => ?_, fun i h t ht => rfl, fun m hm => (by cases hm), fun i h hr => ?_, fun i h hr => ?_, fun t ht => absurd rfl ht⟩
 ·rw [hg]; exact ⟨pnew_ok (by omega) (by omega), rfl⟩
 ·simp only [hg]; rfl
 ·simp only [hg] at hr; cases hr
 ·simp only [hg] at hr; cases hr
theorem al0 {n : Nat} (h5 : n ≤ 5) : Al (fun _ => 0) n 0 0 (news n) [] [] := Al.begin (inv0 h5) (fun i h => by rw [news_at]; exact ⟨rfl, rfl, rfl⟩)
theorem rl_new (n : Nat) (σ : Nat → ByteArray) (hσ : σ 0 = ⟨#[]⟩) (id wait : Int) : rl n σ (pnew id wait) 0 = gnew id wait (mem n) := by
 unfold rl gnew pnew
 rw [hσ]
 rfl
theorem new_may {n : Nat} {id wait : Int} (h5 : n ≤ 5) (hi : 1 ≤ id ∧ id ≤ n) (hw : 1 ≤ wait ∧ wait ≤ 1000) : mayG (gnew id wait (mem n)) = true := by
 have hok : Ok n 0 0 (pnew id wait) := pnew_ok hi hw
 have h := rl_may (σ := fun _ => ⟨#[]⟩) (b := 0) hok (Nat.zero_le _) (by omega) (by omega) (by omega) rfl
 rw [rl_new n _ rfl] at h
 exact h
structure Bh (W : World) (n b bM : Nat) (a5 : Addr) (c5 j : Nat) (v : Value) (L : List (GP × Px)) (w : World) : Prop where
 eq : L.map (·.1) = (news j).map (fun s => gnew s.id s.wait (mem n))
 box : w.heap[b]? = some (.cells #[v, .slice none 0 0, .slice none 0 0, .map (some bM)] 50)
 row : EPg.O W.heap.size w v L
 pf : ∀ q ∈ L, Gt w q.1 q.2
 ids : E3.O W.heap.size w (.slice (some a5) n c5) (mem n)
 map : Mg 25 mkT w bM 0 (ldF fun _ => 0)
 bel : Bel W w
 ge : W.heap.size ≤ b
 gm : W.heap.size ≤ bM
theorem Bh.next {W w w' : World} {n b bM c5 j : Nat} {a5 : Addr} {v : Value} {L : List (GP × Px)} (h : Bh W n b bM a5 c5 j v L w) (hb : Bel w w') : Bh W n b bM a5 c5 j v L w' := ⟨h.eq, hb.row h.box, h.row.bel hb, fun q hq => (h.pf q hq).bel hb, h.ids.bel hb, h.map.bel hb, h.bel.trans hb, h.ge, h.gm⟩
theorem Bh.len {W w : World} {n b bM c5 j : Nat} {a5 : Addr} {v : Value} {L : List (GP × Px)} (h : Bh W n b bM a5 c5 j v L w) : L.length = j := by
 have := congrArg List.length h.eq
 simpa [news_len] using this
theorem Bh.logs {W w : World} {n b bM c5 j : Nat} {a5 : Addr} {v : Value} {L : List (GP × Px)} (h : Bh W n b bM a5 c5 j v L w) : ∀ q ∈ L, q.1.log = [] := fun q hq => by
 have hm := List.mem_map_of_mem (f := (·.1)) hq
 rw [h.eq] at hm
 obtain ⟨s, _, hs⟩ := List.mem_map.1 hm
 have hs : gnew s.id s.wait (mem n) = q.1 := hs
 rw [← hs]
 rfl
theorem Bh.more {W w w1 w2 : World} {n b bM c5 j : Nat} {a5 : Addr} {v v' : Value} {L : List (GP × Px)} {x1 : Px} (h : Bh W n b bM a5 c5 j v L w) (hp : Gt w (gnew ((j : Int) + 1) (1 + 2 * (j : Int)) (mem n)) x1) (hO : EPg.O W.heap.size w1 v' (L ++ [(gnew ((j : Int) + 1) (1 + 2 * (j : Int)) (mem n), x1)])) (hg : w.grownBy w1 v.ownBlock) (hr : w2.heap[b]? = some (.cells #[v', .slice none 0 0, .slice none 0 0, .map (some bM)] 50)) (hc : Ch (fun k => k = b) w1 w2) : Bh W n b bM a5 c5 (j + 1) v' (L ++ [(gnew ((j : Int) + 1) (1 + 2 * (j : Int)) (mem n), x1)]) w2 := by
 have hbx := row_grown h.box h.row hg (by decide)
 have hk : ∀ d, Kq d w w2 := fun d => (Kq.grown h.row (by decide) hg).trans (Kq.ch hbx (by decide) hc)
 have hbm : w1.heap[bM]? = w.heap[bM]? := hg.block bM h.map.lt (fun e => by
  obtain ⟨c2, hc2⟩ := h.row.block e.symm
  exact (h.map.ne_row hc2) rfl)
 have hm1 := h.map.at hbm
 have pp : ∀ {s : GP} {x : Px}, Gt w s x → s.log = [] → Gt w2 s x := fun {s x} p he => p.kq (v := .slice none 0 0) (hk _) (fun h0 => absurd (by rw [he]; rfl) h0)
 refine ⟨by rw [List.map_append, h.eq, news_succ, List.map_append]; rfl, hr, hO.box hbx (by decide) hc, fun q hq => ?_, (h.ids.grown h.row hg (by decide)).box hbx (by decide) hc, hm1.at (hc.block bM hm1.lt (hm1.ne_row hbx)), ?_, h.ge, h.gm⟩
 ·rcases List.mem_append.1 hq with hq | hq
  ·exact pp (h.pf q hq) (h.logs q hq)
  ·rw [List.mem_singleton.1 hq]; exact pp hp rfl
 ·have h1 : Bel W w1 := ((h.bel.ch (fun i => W.heap.size ≤ i)).grown hg (fun k hk => Or.inl (h.row.lt hk).1)).below (Nat.le_refl _) (fun _ hi => hi)
  exact bel_off h1 hc h.ge
theorem Bh.gk {σ : Nat → ByteArray} {W w : World} {n b bM c5 gP cP : Nat} {a5 : Addr} {L : List (GP × Px)} (h : Bh W n b bM a5 c5 n (.slice (some ⟨gP, 0, none⟩) n cP) L w) (h5 : n ≤ 5) (hσ : σ 0 = ⟨#[]⟩) : Gk σ W n b gP cP bM 0 0 (.slice none 0 0) (.slice none 0 0) L [] [] (fun _ => 0) ((news n).map fun s => (s, 0)) [] [] w := by
 refine ⟨⟨h.box, h.row, fun q hq => ⟨h.pf q hq, by rw [h.logs q hq]; exact Nat.zero_le _, fun h0 => absurd (by rw [h.logs q hq]; rfl) h0⟩, El.O.nil _ _, fun q hq => (by cases hq), El.O.nil _ _, fun y hy => (by cases hy), h.map, h.bel, h.ge, h.gm⟩, ?_, ?_, rfl, ?_, ?_, fun o ho => (by cases ho), Nat.zero_le _, Nat.le_refl _⟩
 ·rw [h.eq, List.map_map]
  refine List.map_congr_left fun s hs => ?_
  obtain ⟨j, _, rfl⟩ := List.mem_map.1 hs
  exact (rl_new n σ hσ _ _).symm
 ·rw [List.map_map]
  have e : (List.map ((fun m : PP × Nat => m.1) ∘ fun s => (s, 0)) (news n)) = news n := by
   show List.map (fun s => s) (news n) = news n
   exact List.map_id' _
  rw [e]
  exact al0 h5
 ·intro m hm
  obtain ⟨s, _, rfl⟩ := List.mem_map.1 hm
  exact Nat.zero_le _
 ·intro m hm
  obtain ⟨s, hs, rfl⟩ := List.mem_map.1 hm
  obtain ⟨j, _, rfl⟩ := List.mem_map.1 hs
  exact List.prefix_rfl
section
variable {o : Oper} {a : Act} {w : World}
theorem app_run46 (x y : Operand) (ho : o.op = .call { callee := .builtin .append, args := #[x, y], argTypes := #[46, 46] }) {v1 v2 v' : Value} {w' : World} (hs : a.eval x = v1) (hy : a.eval y = v2) (hrun : (Builtin.append_ #[46, 46] o.type #[v1, v2]).run Tryz.prog w = .ok v' w') : (execOp a.eval o).run Tryz.prog w = .ok (.value v') w' := by
 unfold execOp
 simp only [ho, resolve, invoke, builtin, Sem.run_bind, Sem.run_pure, Result.andThen_ok, List.map_toArray, List.map_cons, List.map_nil, hs, hy, hrun]
end
def BhR (σ : Nat → ByteArray) (W : World) (n : Nat) (e : Ending) (w' : World) : Prop := ∃ b gP cP bM L, e = .returned (.tuple #[.pointer (some ⟨b, 0, none⟩), .bool true]) ∧ Gk σ W n b gP cP bM 0 0 (.slice none 0 0) (.slice none 0 0) L [] [] (fun _ => 0) ((news n).map fun s => (s, 0)) [] [] w'
def emp (v : Value) (bM : Nat) : Array Value := #[v, .slice none 0 0, .slice none 0 0, .map (some bM)]
set_option maxRecDepth 100000 in
set_option maxHeartbeats 16000000 in
theorem begin_g {σ : Nat → ByteArray} {W : World} {n : Nat} (hn1 : 1 ≤ n) (hn5 : n ≤ 5) (hσ : σ 0 = ⟨#[]⟩) : Calls Tryz.prog 12 #[.int .i64 (n : Int), .int .i64 (n : Int)] W (BhR σ W n) := by
 have hmm := @run_makeMap Tryz.prog
 go_enter Tryz.func12, Tryz.ntmps12
 go_wp2_with fail
 have hm0 : Mg 25 mkT (W.alloc (.map #[] 0)) W.heap.size 0 (ldF fun _ => 0) := by
  have := Mg.new 25 mkT W
  have e : (ldF fun _ => 0) = fun _ => none := by funext t; simp [ldF]
  rw [e]
  exact this
 have hb0 : Bel W (W.alloc (.map #[] 0)) := (Bel.refl W).alloc _
 have hs0 : (W.alloc (.map #[] 0)).heap.size = W.heap.size + 1 := by
  show (W.heap.push _).size = _
  rw [Array.size_push]
 obtain ⟨bM, hbM⟩ : ∃ bM, bM = W.heap.size := ⟨_, rfl⟩
 rw [← hbM] at hm0 hs0 ⊢
 generalize W.alloc (.map #[] 0) = wm at *
 have hbb : (wm.alloc (.cells #[.slice none 0 0, .slice none 0 0, .slice none 0 0, .map (some bM)] 50)).heap[wm.heap.size]? = some (.cells #[.slice none 0 0, .slice none 0 0, .slice none 0 0, .map (some bM)] 50) := at_new wm _
 have hWb : Bel wm (wm.alloc (.cells #[.slice none 0 0, .slice none 0 0, .slice none 0 0, .map (some bM)] 50)) := (Bel.refl wm).alloc _
 have hmb := hm0.bel hWb
 have hWW := hb0.trans hWb
 generalize wm.alloc (.cells #[.slice none 0 0, .slice none 0 0, .slice none 0 0, .map (some bM)] 50) = w0 at *
 rw [hs0] at hbb
 obtain ⟨b, hb⟩ : ∃ b, b = bM + 1 := ⟨_, rfl⟩
 rw [← hb] at hbb ⊢
 have HBB : Hid (w0.heap[b]? = some (.cells #[.slice none 0 0, .slice none 0 0, .slice none 0 0, .map (some bM)] 50) ∧ Bel W w0 ∧ W.heap.size ≤ b ∧ Mg 25 mkT w0 bM 0 (ldF fun _ => 0) ∧ W.heap.size ≤ bM) := jd ⟨hbb, hWW, by omega, hmb, by omega⟩
 clear hbb hWb hb hmb hWW hm0 hb0 hs0 hbM hmm
 go_loopg [7, 8] n (fun gk v7 v8 wr => ∃ i : Nat, i ≤ n ∧ gk = n - i ∧ v8 = .int .i64 ((i : Int) + 1) ∧ Hid (E3.O W.heap.size wr v7 ((mem n).take i) ∧ wr.heap[b]? = some (.cells #[.slice none 0 0, .slice none 0 0, .slice none 0 0, .map (some bM)] 50) ∧ Bel W wr ∧ Mg 25 mkT wr bM 0 (ldF fun _ => 0)))
 case atStart => exact ⟨0, Nat.zero_le _, rfl, rfl, jd ⟨by rw [List.take_zero]; exact El.O.nil _ _, (ju HBB).1, (ju HBB).2.1, (ju HBB).2.2.2.1⟩⟩
 case round =>
  obtain ⟨i, hi, hgk, rfl, HI⟩ := hrel
  by_cases hlt : i < n
  ·have hle : ((i : Int) + 1) ≤ n := by omega
   obtain ⟨M', hM'⟩ : ∃ M', M' = (mem n).take (i + 1) := ⟨_, rfl⟩
   have HM := jd (hM'.trans (mem_take n i hlt))
   have HM' := jd hM'
   clear hM'
   go_wp2_with (first
    | (at_builtin; refine app1_el (E := E3) ((i : Int) + 1) M' (ju HM) ((ju HI).1.bel ((Bel.refl _).alloc _)) (Nat.le_trans (ju HI).2.2.1.size ((Bel.refl _).alloc _).size) _ _ (at_new _ _) (by simp; omega) rfl _ _ 22 rfl rfl rfl rfl ?_; intro g cap w4 ho4 hg4 hat4; have hma := (ju HI).2.2.2.bel ((Bel.refl _).alloc (.cells #[.int .i64 ((i : Int) + 1)] 3)); have hia := (ju HI).1.bel ((Bel.refl _).alloc (.cells #[.int .i64 ((i : Int) + 1)] 3)); have HJ := jd (aI ho4 (aI (row_grown (((Bel.refl _).alloc _).row (ju HI).2.1) hia hg4 (by decide)) (aI ((((ju HI).2.2.1.alloc _).ch (fun i => W.heap.size ≤ i)).grown hg4 (fun j hj => Or.inl ((ju HI).1.lt hj).1) |>.below (Nat.le_refl _) (fun _ hi => hi)) (hma.at (hg4.block bM hma.lt (fun e => by obtain ⟨c2, hc2⟩ := hia.block e.symm; exact (hma.ne_row hc2) rfl)))))); clear ho4 hg4 hat4 hma hia))
   go_roundg (gk - 1)
   case measure => omega
   case rel => exact ⟨i + 1, by omega, by omega, congrArg (Value.int .i64) (by omega), jd (by rw [← ju HM']; exact ju HJ)⟩
  ·have hle : ¬ ((i : Int) + 1) ≤ n := by omega
   obtain rfl : i = n := by omega
   have hI := ju HI
   rw [List.take_of_length_le (by rw [mem_len]; omega)] at hI
   obtain ⟨a5, c5, g5, e5, h5, R5, hc5⟩ := hI.1.shape
   rw [mem_len] at e5 h5 hc5
   obtain rfl := h5 (by omega)
   subst e5
   have HB : Hid (Bh W i b bM ⟨g5, 0, none⟩ c5 0 (.slice none 0 0) [] wr) := jd ⟨rfl, hI.2.1, El.O.nil _ _, fun q hq => (by cases hq), hI.1, hI.2.2.2, hI.2.2.1, (ju HBB).2.2.1, (ju HBB).2.2.2.2⟩
   clear hI h5 R5 hc5 HI hle hi hgk hlt
   go_wp2_with fail
   go_loopg [9] i (fun gk v9 wr => ∃ (j : Nat) (vP : Value) (L : List (GP × Px)), j ≤ i ∧ gk = i - j ∧ v9 = .int .i64 (j : Int) ∧ Hid (Bh W i b bM ⟨g5, 0, none⟩ c5 j vP L wr))
   case atStart => exact ⟨0, _, _, Nat.zero_le _, rfl, rfl, HB⟩
   case round =>
    clear HB
    obtain ⟨j, vP, L, hj, hgk, rfl, HB⟩ := hrel
    by_cases hlt : j < i
    ·have hle : (j : Int) < i := by omega
     have hw2 : IntKind.i64.wrap (2 * (j : Int)) = 2 * (j : Int) := wrapI (by omega) (by omega)
     have hw3 : IntKind.i64.wrap (1 + 2 * (j : Int)) = 1 + 2 * (j : Int) := wrapI (by omega) (by omega)
     obtain ⟨s0, hs0⟩ : ∃ s0, s0 = gnew ((j : Int) + 1) (1 + 2 * (j : Int)) (mem i) := ⟨_, rfl⟩
     have HN : Hid (Calls Tryz.prog 17 #[.int .i64 ((j : Int) + 1), .int .i64 (1 + 2 * (j : Int)), .slice (some ⟨g5, 0, none⟩) i c5] wr fun e w' => ∃ x', e = .returned (.tuple #[.agg (gc s0 x'), .int .i64 0]) ∧ Gt w' s0 x' ∧ Bel wr w') := jd (by
      have hmy : mayG (gnew ((j : Int) + 1) (1 + 2 * (j : Int)) (mem i)) = true := new_may hn5 (by omega) (by omega)
      have hsl := (Sl.of (ju HB).ids).1
      have := new_g (id := (j : Int) + 1) (wait := 1 + 2 * (j : Int)) (c := c5) hsl (by rw [mem_len]; omega)
      rw [mem_len] at this
      rw [hs0]
      refine this.mono ?_
      rintro e w' ⟨h1, h2⟩
      rcases h1 with ⟨_, x', he, hp⟩ | ⟨h0, _⟩
      ·exact ⟨x', he, hp.gt, h2⟩
      ·rw [hmy] at h0; cases h0)
     have HS0 := jd hs0
     have HLL : Hid (L.length + 1 ≤ 100000000000) := jd (by have := (ju HB).len; omega)
     clear hs0
     go_wp2_with (first
      | (go_at_call 17; refine (ju HN).mono ?_; rintro e w2 ⟨x2, rfl, hp2, hb2⟩; have HP := jd hp2; have HB2 := jd ((ju HB).next hb2); clear hp2 hb2 HN)
      | (with_reducible refine bxp_new ?_ ?_ ?_; exact rfl; exact rfl; intro b8 w3 hr3 hs3 hb3; have HR3 := jd (aI hr3 (aI hs3 hb3)); clear hr3 hs3 hb3)
      | (with_reducible refine bxp_st (.tmp 10) (.tmp 37) b8 s0 x2 (ju HR3).1 ?_ ?_ ?_ ?_ ?_; exact rfl; exact rfl; (first | exact rfl | simp [Act.put, Act.eval]); (first | exact rfl | simp [Act.put, Act.eval]); intro w4 hr4 hc4; have hq4 := bel_off (ju HR3).2.2 hc4 (Nat.le_of_eq (ju HR3).2.1); have HR4 := jd hr4; have HP4 := jd ((ju HP).bel hq4); have HB4 := jd ((ju HB2).next hq4); have HNE : Hid (∀ k, vP.ownBlock = some k → k ≠ b8) := jd (fun k hk => by have h1 := ((ju HB2).row.lt hk).2; have h2 := (ju HR3).2.1; omega); clear hr4 hc4 hq4 HR3 HP HB2))
     have hBd := (ju HB4).next (Bel.refl w4).drew
     have hPd := (ju HP4).bel (Bel.refl w4).drew
     refine wp_region_held_drew (S := fun w => w.heap[b8]? = some (.cells (gc s0 x2) 31)) Tryz.follows (((Bel.refl w4).drew).row (ju HR4)) (fun hS => ?_)
     generalize w4.drew = wd at *
     refine any_take (i := 0) (v := .pointer (some ⟨b, 0, none⟩)) rfl (by kernel_rfl) (fun _ _ _ h => h) rfl hS (fun w hw => by go_simp) ?_
     refine any_take (i := 1) (v := .pointer (some ⟨b, 0, none⟩)) rfl (by kernel_rfl) (fun _ _ _ h => h) rfl hS (fun w hw => by go_simp) ?_
     refine any_take (i := 2) (v := .pointer (some ⟨b, 0, none⟩)) rfl (by kernel_rfl) (fun _ _ _ h => h) rfl hS (fun w hw => by go_simp) ?_
     refine any_take (i := 3) (v := .pointer (some ⟨b, 0, none⟩)) rfl (by kernel_rfl) (fun _ _ _ h => h) rfl hS (fun w hw => by go_simp) ?_
     refine any_ldP (i := 5) (b := b8) rfl (by kernel_rfl) (fun _ _ _ h => h) rfl hS rfl rfl (fun w hw => hw) ?_
     have hA : Bel wd (wd.alloc (.cells (EPg.enc (s0, x2)).toArray EPg.e)) := (Bel.refl wd).alloc _
     have hSA : (wd.alloc (.cells (EPg.enc (s0, x2)).toArray EPg.e)).heap[b8]? = some (.cells (gc s0 x2) 31) := hA.row hS
     have hBA := hBd.next hA
     have y0 : wd.cell? ⟨b, 0, none⟩ = some vP := (cell_of hBd.box).trans rfl
     have yA : (wd.alloc (.cells (EPg.enc (s0, x2)).toArray EPg.e)).cell? ⟨b, 0, none⟩ = some vP := (cell_of hBA.box).trans rfl
     have hnw : (wd.alloc (.cells (EPg.enc (s0, x2)).toArray EPg.e)).heap[wd.heap.size]? = some (.cells (EPg.enc (s0, x2)).toArray EPg.e) := at_new wd _
     obtain ⟨g7, c7, w7, hrun, ho7, hg7, _⟩ := El.run_app1 (E := EPg) (wd.alloc (.cells (EPg.enc (s0, x2)).toArray EPg.e)) W.heap.size vP L hBA.row hBA.bel.size (s0, x2) wd.heap.size 1 hnw (ju HLL) 46
     have hS7 : w7.heap[b8]? = some (.cells (gc s0 x2) 31) := (hg7.block b8 (lt_of_some hSA) (fun e => (ju HNE) b8 e.symm rfl)).trans hSA
     have hbx7 : w7.heap[b]? = some (.cells (emp vP bM) 50) := row_grown hBA.box hBA.row hg7 (by decide)
     have hcc := ch_row (c' := emp (.slice (some ⟨g7, 0, none⟩) (L.length + 1) c7) bM) hbx7
     have hS8 : (w7.setRow b (emp (.slice (some ⟨g7, 0, none⟩) (L.length + 1) c7) bM)).heap[b8]? = some (.cells (gc s0 x2) 31) := hcc.2.row hS7 (ne_kindG hS7 hbx7 (by decide))
     have hBN : Bh W i b bM ⟨g5, 0, none⟩ c5 (j + 1) (.slice (some ⟨g7, 0, none⟩) (L.length + 1) c7) (L ++ [(s0, x2)]) (w7.setRow b (emp (.slice (some ⟨g7, 0, none⟩) (L.length + 1) c7) bM)) := by
      have hs0 := ju HS0
      subst hs0
      exact hBA.more (hPd.bel hA) ho7 hg7 hcc.1 hcc.2
     clear hcc hg7 ho7 hnw hBA hBd hPd hA
     refine any_vv (i := 4) (j := 6) (vi := vP) (wi := wd) (vj := .slice (some ⟨wd.heap.size, 0, none⟩) 1 1) (wj := wd.alloc (.cells (EPg.enc (s0, x2)).toArray EPg.e)) (by kernel_rfl) (by exact rfl) (by exact rfl) (by exact rfl) (by exact rfl) (by go_simp) (one_runE EPg (.tmp 46) (s0, x2) (by exact rfl) (by show _ = Value.agg (gc s0 x2); go_simp) (by show ¬ 1 * 18 > 2 ^ 24; decide)) ⟨hS, ?_⟩ ⟨hSA, ?_⟩
     ·refine any_do (i := 6) (v := .slice (some ⟨wd.heap.size, 0, none⟩) 1 1) (w' := wd.alloc (.cells (EPg.enc (s0, x2)).toArray EPg.e)) (by kernel_rfl) rfl rfl (one_runE EPg (.tmp 46) (s0, x2) (by exact rfl) (by show _ = Value.agg (gc s0 x2); go_simp) (by show ¬ 1 * 18 > 2 ^ 24; decide)) ⟨hSA, ?_⟩
      refine any_do (i := 7) (v := .slice (some ⟨g7, 0, none⟩) (L.length + 1) c7) (w' := w7) (by kernel_rfl) rfl rfl (app_run46 (v1 := vP) (v2 := .slice (some ⟨wd.heap.size, 0, none⟩) 1 1) (.tmp 45) (.tmp 47) (by exact rfl) (by go_simp) (by go_simp) hrun) ⟨hS7, ?_⟩
      refine any_do (i := 8) (v := .pointer (some ⟨b, 0, none⟩)) (w' := w7) (by kernel_rfl) rfl rfl (by go_simp) ⟨hS7, ?_⟩
      refine any_do (i := 9) (v := .pointer (some ⟨b, 0, none⟩)) (w' := w7) (by kernel_rfl) rfl rfl (by go_simp) ⟨hS7, ?_⟩
      refine any_skip (i := 10) (w' := w7.setRow b (emp (.slice (some ⟨g7, 0, none⟩) (L.length + 1) c7) bM)) (by kernel_rfl) rfl rfl (fld_runG 46 (.tmp 50) (.tmp 48) (by exact rfl) b 0 (.slice (some ⟨g7, 0, none⟩) (L.length + 1) c7) (by go_simp) (by go_simp) rfl rfl (emp vP bM) 50 hbx7 (by kernel_rfl) (by show 0 < 4; decide)) ⟨hS8, ?_⟩
      refine wpAnyH_done (by kernel_rfl) ?_ _
      clear hS hSA hS7 hS8 hbx7 hrun y0 yA
      generalize w7.setRow b (emp (.slice (some ⟨g7, 0, none⟩) (L.length + 1) c7) bM) = wn at *
      simp [Act.put]
      go_wp2_with fail
      go_roundg (gk - 1)
      case measure => omega
      case rel => exact ⟨j + 1, _, _, by omega, by omega, congrArg (Value.int .i64) (by omega), jd hBN⟩
     ·refine any_do (i := 4) (v := vP) (w' := wd.alloc (.cells (EPg.enc (s0, x2)).toArray EPg.e)) (by kernel_rfl) rfl rfl (by go_simp) ⟨hSA, ?_⟩
      refine any_do (i := 7) (v := .slice (some ⟨g7, 0, none⟩) (L.length + 1) c7) (w' := w7) (by kernel_rfl) rfl rfl (app_run46 (v1 := vP) (v2 := .slice (some ⟨wd.heap.size, 0, none⟩) 1 1) (.tmp 45) (.tmp 47) (by exact rfl) (by go_simp) (by go_simp) hrun) ⟨hS7, ?_⟩
      refine any_do (i := 8) (v := .pointer (some ⟨b, 0, none⟩)) (w' := w7) (by kernel_rfl) rfl rfl (by go_simp) ⟨hS7, ?_⟩
      refine any_do (i := 9) (v := .pointer (some ⟨b, 0, none⟩)) (w' := w7) (by kernel_rfl) rfl rfl (by go_simp) ⟨hS7, ?_⟩
      refine any_skip (i := 10) (w' := w7.setRow b (emp (.slice (some ⟨g7, 0, none⟩) (L.length + 1) c7) bM)) (by kernel_rfl) rfl rfl (fld_runG 46 (.tmp 50) (.tmp 48) (by exact rfl) b 0 (.slice (some ⟨g7, 0, none⟩) (L.length + 1) c7) (by go_simp) (by go_simp) rfl rfl (emp vP bM) 50 hbx7 (by kernel_rfl) (by show 0 < 4; decide)) ⟨hS8, ?_⟩
      refine wpAnyH_done (by kernel_rfl) ?_ _
      clear hS hSA hS7 hS8 hbx7 hrun y0 yA
      generalize w7.setRow b (emp (.slice (some ⟨g7, 0, none⟩) (L.length + 1) c7) bM) = wn at *
      simp [Act.put]
      go_wp2_with fail
      go_roundg (gk - 1)
      case measure => omega
      case rel => exact ⟨j + 1, _, _, by omega, by omega, congrArg (Value.int .i64) (by omega), jd hBN⟩
    ·have hle : ¬ (j : Int) < i := by omega
     obtain rfl : j = i := by omega
     have hB := ju HB
     have hlen : L.length = j := hB.len
     obtain ⟨a7, c7, g7, e7, h7, _, _⟩ := hB.row.shape
     rw [hlen] at e7 h7
     obtain rfl := h7 (by omega)
     subst e7
     have HGK := jd (hB.gk hn5 hσ)
     clear hB hlen h7
     go_wp2_with fail
     go_ret2
     exact ⟨_, _, _, _, _, rfl, ju HGK⟩
end Go.Proofs.YthekbhliokcpcaaGreat
