/- Logs are alike, plain: what is committed is in the log of each later leader. How a group with logs stands, plain; what a step of one member keeps. A group with logs: one member moves. A group with logs: the moves of one member. A group with logs: votes and elections. A group with logs: a vote is counted, a leader begins, proposes, commits. A group with logs: a leader proposes, and commits what a majority has. A group with logs: what a leader lays behind the entries of another one. A group with logs: entries are laid. A group with logs: what each call makes of it. A group with logs: a message of logs is taken. A group with logs: what is committed; what the law looks at. -/
import Derived.Test.YthekbhliokcpcaaGreatT09
import Derived.Test.YthekbhliokcpcaaGreatT14
namespace Go.Proofs.YthekbhliokcpcaaGreat
structure Gh where
 V : Int → Int → Int
 K : Int → Int → List PE
 L : Int → List PE
 A : Int → Int → Nat
def Pfx (g : Gh) (l : List PE) : Prop := ∀ j (h : j < l.length), l.take (j + 1) <+: g.L l[j].t
def lastOf (l : List PE) : Int := match l.getLast? with | some e => e.t | none => 0
def Utd (k w : List PE) : Prop := lastOf w < lastOf k ∨ (lastOf k = lastOf w ∧ w.length ≤ k.length)
def Maj (n : Nat) (Q : List Int) : Prop := Q.Nodup ∧ maj n Q = true ∧ ∀ x ∈ Q, 1 ≤ x ∧ x ≤ n
theorem Maj.two {n : Nat} {l k : List Int} (hl : Maj n l) (hk : Maj n k) : ∃ x, x ∈ l ∧ x ∈ k := by
 refine Classical.byContradiction fun hn => ?_
 have hd : (l ++ k).Nodup := by
  rw [List.nodup_append]
  exact ⟨hl.1, hk.1, fun a ha b hb e => hn ⟨a, ha, e ▸ hb⟩⟩
 have := ris_le n (l ++ k) hd (fun x hx => (List.mem_append.1 hx).elim (hl.2.2 x) (hk.2.2 x))
 rw [List.length_append] at this
 have h1 := of_decide_eq_true hl.2.1
 have h2 := of_decide_eq_true hk.2.1
 omega
def Srt (l : List PE) : Prop := l.Pairwise (fun a b => a.t ≤ b.t)
structure Cm (n : Nat) (g : Gh) (t : Int) (i : Nat) : Prop where
 q : ∃ Q, Maj n Q ∧ ∀ x ∈ Q, i ≤ g.A x t
 one : 1 ≤ i
 len : i ≤ (g.L t).length
 tm : tAt (g.L t) i = t
def Kept (g : Gh) (x : Int) (W : List PE) (u : Int) : Prop := ∀ t i, t < u → i ≤ g.A x t → (g.L t).take i <+: W ∨ ∃ t2, t < t2 ∧ t2 < u ∧ g.L t2 ≠ [] ∧ ¬ (g.L t).take i <+: g.L t2
structure Fact (g : Gh) (x u c : Int) (W : List PE) : Prop where
 utd : Utd (g.K c u) W
 pfx : Pfx g W
 srt : Srt W
 kept : Kept g x W u
structure Elc (n : Nat) (g : Gh) (u c : Int) (Q : List Int) : Prop where
 c0 : c ≠ 0
 q : Maj n Q
 v : ∀ x ∈ Q, g.V x u = c
 f : ∀ x ∈ Q, ∃ W, Fact g x u c W
 k : g.K c u ++ [noop u] <+: g.L u
 low : ∀ e ∈ g.K c u, e.t < u
structure GI (n : Nat) (g : Gh) : Prop where
 a : ∀ x t, g.A x t ≤ (g.L t).length
 l : ∀ t, Lg t (g.L t)
 p : ∀ t, Pfx g (g.L t)
 e : ∀ u, g.L u ≠ [] → ∃ c Q, Elc n g u c Q
theorem tAt_succ {l : List PE} {j : Nat} (h : j < l.length) : tAt l (j + 1) = l[j].t := by simp [tAt, h]
theorem lastOf_eq {l : List PE} (h : l ≠ []) : lastOf l = (l[l.length - 1]'(by have := List.length_pos_iff.2 h; omega)).t := by
 have hl := List.length_pos_iff.2 h
 unfold lastOf
 rw [List.getLast?_eq_getElem?, List.getElem?_eq_getElem (by omega)]
theorem Srt.le {l : List PE} (h : Srt l) {i j : Nat} (hij : i ≤ j) (hj : j < l.length) : (l[i]'(by omega)).t ≤ l[j].t := by
 rcases Nat.lt_or_eq_of_le hij with h' | rfl
 ·exact List.pairwise_iff_getElem.1 h i j (by omega) hj h'
 ·exact Int.le_refl _
theorem Srt.last {l : List PE} (h : Srt l) {j : Nat} (hj : j < l.length) : l[j].t ≤ lastOf l := by
 have h0 : l ≠ [] := fun e => by rw [e] at hj; simp at hj
 rw [lastOf_eq h0]
 exact h.le (by omega) (by omega)
theorem Pfx.last {g : Gh} {l : List PE} (h : Pfx g l) (h0 : l ≠ []) : l <+: g.L (lastOf l) := by
 have hl := List.length_pos_iff.2 h0
 have := h (l.length - 1) (by omega)
 rw [lastOf_eq h0]
 rwa [List.take_of_length_le (by omega)] at this
theorem Pfx.of_prefix {g : Gh} {l k : List PE} (h : Pfx g l) (hk : k <+: l) : Pfx g k := by
 intro j hj
 have hj' : j < l.length := by have := hk.length_le; omega
 have := h j hj'
 rw [hk.getElem hj]
 refine List.IsPrefix.trans ?_ this
 obtain ⟨r, rfl⟩ := hk
 rw [List.take_append_of_le_length (by omega)]
 exact List.prefix_refl _
theorem take_len {l : List PE} {i : Nat} (h : i ≤ l.length) : (l.take i).length = i := by simp; omega
theorem Cm.at {n : Nat} {g : Gh} {t : Int} {i : Nat} (hc : Cm n g t i) : ((g.L t)[i - 1]'(by have := hc.one; have := hc.len; omega)).t = t := by
 have h1 := hc.one
 have h2 := hc.len
 have h3 := hc.tm
 obtain ⟨k, rfl⟩ : ∃ k, i = k + 1 := ⟨i - 1, by omega⟩
 rw [tAt_succ (by omega)] at h3
 exact h3
theorem Cm.pos {n : Nat} {g : Gh} {t : Int} {i : Nat} (hc : Cm n g t i) (h : GI n g) : 1 ≤ t := by
 have h1 := hc.one
 have h2 := hc.len
 have h3 := hc.at
 have := ((h.l t).2 _ (List.getElem_mem (show i - 1 < (g.L t).length by omega))).1.1
 omega
theorem complete {n : Nat} {g : Gh} (h : GI n g) {t : Int} {i : Nat} (hc : Cm n g t i) : ∀ (m : Nat) (u : Int), (u - t).toNat ≤ m → t < u → g.L u ≠ [] → (g.L t).take i <+: g.L u
 | 0, u, hm, htu, _ => by omega
 | m + 1, u, hm, htu, hu => by
  obtain ⟨c, Q2, he⟩ := h.e u hu
  obtain ⟨Q, hQ, hA⟩ := hc.q
  obtain ⟨x, hx, hx2⟩ := hQ.two he.q
  obtain ⟨W, hf⟩ := he.f x hx2
  have hi1 := hc.one
  have hil := hc.len
  have ht0 : 1 ≤ t := hc.pos h
  rcases hf.kept t i htu (hA x hx) with hpre | ⟨t2, h1, h2, h3, h4⟩
  ·have hWl : i ≤ W.length := by have := hpre.length_le; rw [take_len hil] at this; exact this
   have hW0 : W ≠ [] := fun e => by rw [e] at hWl; simp at hWl; omega
   have hwt : (W[i - 1]'(by omega)).t = t := by
    have h1 := hpre.getElem (i := i - 1) (by rw [take_len hil]; omega)
    rw [← h1, List.getElem_take]
    exact hc.at
   have hlw : t ≤ lastOf W := by rw [← hwt]; exact hf.srt.last (by omega)
   have hKL : g.K c u <+: g.L u := (List.prefix_append _ _).trans he.k
   have hPK : Pfx g (g.K c u) := (h.p u).of_prefix hKL
   refine List.IsPrefix.trans ?_ hKL
   rcases hf.utd with hlt | ⟨heq, hlen⟩
   ·have hK0 : g.K c u ≠ [] := fun e => by rw [e, show lastOf ([] : List PE) = 0 from rfl] at hlt; omega
    have hKs := hPK.last hK0
    have hs : lastOf (g.K c u) < u := by rw [lastOf_eq hK0]; exact he.low _ (List.getElem_mem _)
    have hL0 : g.L (lastOf (g.K c u)) ≠ [] := fun e => by rw [e] at hKs; exact hK0 (List.prefix_nil.1 hKs)
    have ih := complete h hc m (lastOf (g.K c u)) (by omega) (by omega) hL0
    refine List.prefix_of_prefix_length_le ih hKs ?_
    rw [take_len hil]
    refine Classical.byContradiction fun hn => ?_
    have hKt : g.K c u <+: (g.L t).take i := List.prefix_of_prefix_length_le hKs ih (by rw [take_len hil]; omega)
    have hlast := lastOf_eq hK0
    have hmem : (g.K c u)[(g.K c u).length - 1]'(by have := List.length_pos_iff.2 hK0; omega) ∈ g.L t := List.IsPrefix.mem (List.getElem_mem _) (hKt.trans (List.take_prefix _ _))
    have := ((h.l t).2 _ hmem).1.2
    omega
   ·have hK0 : g.K c u ≠ [] := fun e => by rw [e] at hlen; simp at hlen; exact hW0 hlen
    have hKs := hPK.last hK0
    have hWs := hf.pfx.last hW0
    rw [← heq] at hWs
    exact hpre.trans (List.prefix_of_prefix_length_le hWs hKs hlen)
  ·exact absurd (complete h hc m t2 (by omega) h1 h3) h4
theorem GI.com {n : Nat} {g : Gh} (h : GI n g) {t : Int} {i : Nat} (hc : Cm n g t i) {u : Int} (htu : t ≤ u) (hu : g.L u ≠ []) : (g.L t).take i <+: g.L u := by
 by_cases e : t = u
 ·subst e; exact List.take_prefix _ _
 ·exact complete h hc _ u (Nat.le_refl _) (by omega) hu
def Ce (n : Nat) (g : Gh) (T : Int) (l : List PE) (c : Nat) : Prop := c = 0 ∨ ∃ t i, Cm n g t i ∧ t ≤ T ∧ c ≤ i ∧ l.take c <+: g.L t
structure Mb (n : Nat) (g : Gh) (s : PP) : Prop where
 a0 : ∀ t, s.term < t → g.A s.id t = 0
 hh : ∀ t i, t ≤ s.term → i ≤ g.A s.id t → (g.L t).take i <+: s.log ∨ ∃ t2, t < t2 ∧ t2 ≤ s.term ∧ g.L t2 ≠ [] ∧ ¬ (g.L t).take i <+: g.L t2
 pf : Pfx g s.log
 ld : s.role = 2 → s.log = g.L s.term ∧ s.log.length ≤ g.A s.id s.term ∧ ∀ f ∈ s.fol, f.2.2 ≤ (g.A f.1 s.term : Int)
 le : s.role = 2 → g.L s.term ≠ []
 cd : s.role = 1 → g.K s.id s.term = s.log
 cm : Ce n g s.term s.log s.commit
structure Mq (n : Nat) (g : Gh) (m : QM) : Prop where
 ask : m.kind = 1 → m.index = (g.K m.frm m.term).length ∧ m.lterm = lastOf (g.K m.frm m.term)
 lay : m.kind = 3 → g.L m.term ≠ [] ∧ m.index + m.ents.length ≤ (g.L m.term).length ∧ m.ents = ((g.L m.term).drop m.index).take m.ents.length ∧ m.lterm = tAt (g.L m.term) m.index ∧ m.commit ≤ (g.L m.term).length ∧ Ce n g m.term (g.L m.term) m.commit
 hrd : m.kind = 4 → m.ok = true → m.index ≤ g.A m.frm m.term
structure Ext (g g' : Gh) (x τ : Int) (old : Int) : Prop where
 L : ∀ t, t ≠ τ → g'.L t = g.L t
 Lx : g.L τ ≠ [] → ∃ es, g'.L τ = g.L τ ++ es ∧ ∀ e ∈ es, e.t = τ
 A : ∀ y t, (y ≠ x ∨ t ≠ τ) → g'.A y t = g.A y t
 Am : g.A x τ ≤ g'.A x τ
 K : ∀ c u, (c ≠ x ∨ u ≤ old) → g'.K c u = g.K c u
 V : ∀ y u, g.V y u ≠ 0 → g'.V y u = g.V y u
 up : old ≤ τ
section
variable {n : Nat} {g g' : Gh} {x τ old : Int}
theorem Ext.pre (h : Ext g g' x τ old) {t : Int} (h0 : g.L t ≠ []) : g.L t <+: g'.L t := by
 by_cases e : t = τ
 ·subst e
  obtain ⟨es, e1, _⟩ := h.Lx h0
  rw [e1]; exact List.prefix_append _ _
 ·rw [h.L t e]; exact List.prefix_refl _
theorem Ext.ne (h : Ext g g' x τ old) {t : Int} (h0 : g.L t ≠ []) : g'.L t ≠ [] := fun e => by
 have := h.pre h0
 rw [e] at this
 exact h0 (List.prefix_nil.1 this)
theorem Ext.Ale (h : Ext g g' x τ old) (y t : Int) : g.A y t ≤ g'.A y t := by
 by_cases e : y = x ∧ t = τ
 ·obtain ⟨rfl, rfl⟩ := e; exact h.Am
 ·rw [h.A y t (by by_cases e1 : y = x; exact Or.inr (fun e2 => e ⟨e1, e2⟩); exact Or.inl e1)]
  exact Nat.le_refl _
theorem Ext.take (h : Ext g g' x τ old) {t : Int} {i : Nat} (hi : i ≤ (g.L t).length) : (g'.L t).take i = (g.L t).take i := by
 by_cases h0 : g.L t = []
 ·rw [h0] at hi
  have : i = 0 := by simpa using hi
  subst this; simp
 ·obtain ⟨r, hr⟩ := h.pre h0
  rw [← hr, List.take_append_of_le_length hi]
theorem Ext.nope (h : Ext g g' x τ old) (hl : ∀ t, Lg t (g.L t)) {t t2 : Int} {i : Nat} (hi : i ≤ (g.L t).length) (ht : t < t2) (h0 : g.L t2 ≠ []) (hn : ¬ (g.L t).take i <+: g.L t2) : ¬ (g'.L t).take i <+: g'.L t2 := by
 rw [h.take hi]
 intro hp
 by_cases e : t2 = τ
 ·subst e
  obtain ⟨es, e1, e2⟩ := h.Lx h0
  rw [e1] at hp
  by_cases hlen : i ≤ (g.L t2).length
  ·refine hn (List.prefix_of_prefix_length_le hp (List.prefix_append _ es) ?_)
   rw [take_len hi]; exact hlen
  ·have hq : (g.L t2).length < ((g.L t).take i).length := by rw [take_len hi]; omega
   have h1 := hp.getElem hq
   rw [List.getElem_append_right (Nat.le_refl _)] at h1
   have h2 := ((hl t).2 _ (List.IsPrefix.mem (List.getElem_mem hq) (List.take_prefix _ _))).1.2
   have h3 := e2 _ (List.getElem_mem (show (g.L t2).length - (g.L t2).length < es.length by have := hp.length_le; rw [take_len hi, List.length_append] at this; omega))
   rw [h1] at h2
   omega
 ·rw [h.L t2 e] at hp; exact hn hp
theorem Pfx.ext {l : List PE} (hp : Pfx g l) (h : Ext g g' x τ old) : Pfx g' l := by
 intro j hj
 have h1 := hp j hj
 have h0 : g.L l[j].t ≠ [] := fun e => by
  rw [e] at h1
  have := List.prefix_nil.1 h1
  have h2 := congrArg List.length this
  simp at h2; rw [h2] at hj; simp at hj
 exact h1.trans (h.pre h0)
theorem Cm.ext {t : Int} {i : Nat} (hc : Cm n g t i) (h : Ext g g' x τ old) : Cm n g' t i := by
 obtain ⟨Q, hQ, hA⟩ := hc.q
 have h1 := hc.one
 have h2 := hc.len
 have h0 : g.L t ≠ [] := fun e => by rw [e] at h2; simp at h2; omega
 have hp := h.pre h0
 refine ⟨⟨Q, hQ, fun y hy => Nat.le_trans (hA y hy) (h.Ale y t)⟩, h1, Nat.le_trans h2 hp.length_le, ?_⟩
 have h3 := hc.at
 obtain ⟨k, rfl⟩ : ∃ k, i = k + 1 := ⟨i - 1, by omega⟩
 rw [tAt_succ (by have := hp.length_le; omega), ← hp.getElem (by omega)]
 exact h3
theorem Ce.ext {T T' : Int} {l : List PE} {c : Nat} (hc : Ce n g T l c) (h : Ext g g' x τ old) (hT : T ≤ T') : Ce n g' T' l c := by
 rcases hc with h' | ⟨t, i, h1, h2, h3, h4⟩
 ·exact Or.inl h'
 ·have := h1.one
  have h5 := h1.len
  exact Or.inr ⟨t, i, h1.ext h, by omega, h3, h4.trans (h.pre (fun e => by rw [e] at h5; simp at h5; omega))⟩
theorem Ce.take {T : Int} {l l' : List PE} {c : Nat} (hc : Ce n g T l c) (e : l'.take c = l.take c) : Ce n g T l' c := by
 rcases hc with h' | ⟨t, i, h1, h2, h3, h4⟩
 ·exact Or.inl h'
 ·exact Or.inr ⟨t, i, h1, h2, h3, by rw [e]; exact h4⟩
theorem Fact.ext {y u c : Int} {W : List PE} (hf : Fact g y u c W) (h : Ext g g' x τ old) (gi : GI n g) (hc : c ≠ x ∨ u ≤ old) (hy : y ≠ x ∨ u ≤ old) : Fact g' y u c W := by
 refine ⟨by rw [h.K c u hc]; exact hf.utd, hf.pfx.ext h, hf.srt, fun t i ht hi => ?_⟩
 have hup := h.up
 rw [h.A y t (hy.elim Or.inl (fun e => Or.inr (by omega)))] at hi
 have hil := Nat.le_trans hi (gi.a y t)
 rcases hf.kept t i ht hi with h1 | ⟨t2, h1, h2, h3, h4⟩
 ·rw [h.take hil]; exact Or.inl h1
 ·exact Or.inr ⟨t2, h1, h2, h.ne h3, h.nope gi.l hil h1 h3 h4⟩
theorem Mb.ext {s : PP} (hm : Mb n g s) (h : Ext g g' x τ old) (gi : GI n g) (hs : s.id ≠ x) (hl : s.role = 2 → g'.L s.term = g.L s.term) : Mb n g' s := by
 refine ⟨fun t ht => by rw [h.A _ _ (Or.inl hs)]; exact hm.a0 t ht, fun t i ht hi => ?_, hm.pf.ext h, fun hr => ?_, fun hr => h.ne (hm.le hr), fun hr => by rw [h.K _ _ (Or.inl hs)]; exact hm.cd hr, hm.cm.ext h (Int.le_refl _)⟩
 ·rw [h.A _ _ (Or.inl hs)] at hi
  have hil := Nat.le_trans hi (gi.a s.id t)
  rcases hm.hh t i ht hi with h1 | ⟨t2, h1, h2, h3, h4⟩
  ·rw [h.take hil]; exact Or.inl h1
  ·exact Or.inr ⟨t2, h1, h2, h.ne h3, h.nope gi.l hil h1 h3 h4⟩
 ·obtain ⟨h1, h2, h3⟩ := hm.ld hr
  exact ⟨by rw [hl hr]; exact h1, Nat.le_trans h2 (h.Ale _ _), fun f hf => by have := h3 f hf; have := h.Ale f.1 s.term; omega⟩
theorem Mq.ext {m : QM} (hm : Mq n g m) (h : Ext g g' x τ old) (hk : m.kind = 1 → m.frm ≠ x ∨ m.term ≤ old) : Mq n g' m := by
 refine ⟨fun hk1 => by rw [h.K _ _ (hk hk1)]; exact hm.ask hk1, fun hk3 => ?_, fun hk4 ho => Nat.le_trans (hm.hrd hk4 ho) (h.Ale _ _)⟩
 obtain ⟨h1, h2, h3, h4, h5, h6⟩ := hm.lay hk3
 have hp := h.pre h1
 have hle := hp.length_le
 obtain ⟨r, hr⟩ := hp
 refine ⟨h.ne h1, by omega, ?_, ?_, by omega, ?_⟩
 ·rw [← hr, List.drop_append_of_le_length (by omega), List.take_append_of_le_length (by simp; omega)]
  exact h3
 ·rw [h4, ← hr]
  cases hi : m.index with
  | zero => rfl
  | succ k => rw [tAt_succ (by omega), tAt_succ (by rw [List.length_append]; omega), List.getElem_append_left (by omega)]
 ·refine (h6.take (l' := g'.L m.term) ?_).ext h (Int.le_refl _)
  rw [← hr, List.take_append_of_le_length h5]
end
def pm (way : List QM) : List PM := (way.filter fun m => m.kind == 1 || m.kind == 2).map QM.p
theorem pm_mem {way : List QM} {p : PM} : p ∈ pm way ↔ ∃ m ∈ way, (m.kind = 1 ∨ m.kind = 2) ∧ m.p = p := by
 unfold pm
 simp only [List.mem_map, List.mem_filter]
 constructor
 ·rintro ⟨m, ⟨h1, h2⟩, h3⟩
  exact ⟨m, h1, by simpa using h2, h3⟩
 ·rintro ⟨m, h1, h2, h3⟩
  exact ⟨m, ⟨h1, by simpa using h2⟩, h3⟩
structure Alk (ld : Int → Int) (n T G : Nat) (ps : List PP) (way : List QM) (dn : List PE) (g : Gh) : Prop where
 inv : Inv n T G ps (pm way) ld g.V
 gi : GI n g
 mb : ∀ i (h : i < ps.length), Mb n g ps[i]
 ms : ∀ m ∈ way, Mq n g m
 ak : ∀ m ∈ way, m.kind = 1 → ∀ i (h : i < ps.length), ps[i].id = m.frm → m.term ≤ ps[i].term
 vt : ∀ y u, g.V y u ≠ 0 → ∀ i (h : i < ps.length), ps[i].id = g.V y u → u ≤ ps[i].term
 vf : ∀ y u, g.V y u ≠ 0 → g.L u = [] → ∃ W, Fact g y u (g.V y u) W
 ow : ∀ u, g.L u ≠ [] → ∃ i, ∃ h : i < ps.length, Won n g.V u ps[i].id ∧ (u < ps[i].term ∨ (ps[i].term = u ∧ ps[i].role ≠ 1))
 dn : ∀ k, k < dn.length → ∃ t j, Cm n g t j ∧ k < j ∧ dn.take (k + 1) <+: g.L t
 lb : ∀ t, (g.L t).length ≤ G
section
variable {ld : Int → Int} {n T G T' G' : Nat} {ps : List PP} {way way' out : List QM} {dn : List PE} {g g' : Gh} {i : Nat} {s' : PP}
theorem Alk.vy (h : Alk ld n T G ps way dn g) {y u : Int} (hv : g.V y u ≠ 0) {j : Nat} (hj : j < ps.length) (e : ps[j].id = y) : u ≤ ps[j].term := by
 refine Classical.byContradiction fun hn => hv ?_
 have := h.inv.fut j hj u (by omega)
 rw [← (h.inv.ok j hj).2, e] at this
 exact this
theorem Maj.one {Q : List Int} (h : Maj n Q) : ∃ x, x ∈ Q := by
 have := of_decide_eq_true h.2.1
 cases Q with
 | nil => simp at this
 | cons x Q => exact ⟨x, by simp⟩
structure Mov (n T' G' : Nat) (ps : List PP) (out : List QM) (g g' : Gh) (s s' : PP) : Prop where
 nx : Nxt n T' G' g.V s s' (pm out)
 V : g'.V = ghost g.V s s'
 L : ∀ t, t ≠ s'.term → g'.L t = g.L t
 Lx : g.L s'.term ≠ [] → ∃ es, g'.L s'.term = g.L s'.term ++ es ∧ ∀ e ∈ es, e.t = s'.term
 A : ∀ y t, (y ≠ s.id ∨ t ≠ s'.term) → g'.A y t = g.A y t
 Am : g.A s.id s'.term ≤ g'.A s.id s'.term
 K : ∀ c u, (c ≠ s.id ∨ u ≤ s.term) → g'.K c u = g.K c u
 al : g'.A s.id s'.term ≤ (g'.L s'.term).length
 ll : Lg s'.term (g'.L s'.term)
 lp : Pfx g' (g'.L s'.term)
 le : g.L s'.term = [] → g'.L s'.term ≠ [] → ∃ c Q, Elc n g' s'.term c Q
 lo : g'.L s'.term ≠ g.L s'.term → s'.role = 2
 mb : Mb n g' s'
 ms : ∀ m ∈ out, Mq n g' m
 ak : ∀ m ∈ out, m.kind = 1 → m.frm = s.id ∧ m.term ≤ s'.term
 vf : s'.vote ≠ 0 → g.V s.id s'.term = 0 → g'.L s'.term = [] → ∃ W, Fact g' s.id s'.term s'.vote W
 vt : s'.vote ≠ 0 → g.V s.id s'.term = 0 → ∀ j (h : j < ps.length), ps[j].id = s'.vote → s'.term ≤ ps[j].term ∨ s'.vote = s.id
 r2 : s.role ≠ 1 → s.term = s'.term → s'.role ≠ 1
 lb : (g'.L s'.term).length ≤ G'
theorem Alk.ext (hi : i < ps.length) (h : Alk ld n T G ps way dn g) (k : Mov n T' G' ps out g g' ps[i] s') : Ext g g' ps[i].id s'.term ps[i].term :=
 ⟨k.L, k.Lx, k.A, k.Am, k.K, fun y u hv => by rw [k.V]; exact h.inv.up hi k.nx y u _ rfl hv, k.nx.up⟩
theorem Alk.move (hi : i < ps.length) (h : Alk ld n T G ps way dn g) (k : Mov n T' G' ps out g g' ps[i] s') (hT : T ≤ T') (hG : G ≤ G') (hw : ∀ m ∈ way', m ∈ way ∨ m ∈ out) : Alk ld n T' G' (ps.set i s') way' dn g' := by
 have hx := h.ext hi k
 have hid := (h.inv.ok i hi).2
 have hup := k.nx.up
 have inv' : Inv n T' G' (ps.set i s') (pm way') ld g'.V := by
  rw [k.V]
  refine h.inv.step hi k.nx hT hG (fun p hp => ?_)
  obtain ⟨m, hm, hk, e⟩ := pm_mem.1 hp
  rcases hw m hm with h1 | h1
  ·exact Or.inl (pm_mem.2 ⟨m, h1, hk, e⟩)
  ·exact Or.inr (pm_mem.2 ⟨m, h1, hk, e⟩)
 have hget : ∀ j (hj : j < (ps.set i s').length), (j = i ∧ (ps.set i s')[j] = s') ∨ (j ≠ i ∧ ∃ hj' : j < ps.length, (ps.set i s')[j] = ps[j]) := fun j hj => by
  by_cases e : j = i
  ·subst e; exact Or.inl ⟨rfl, by simp⟩
  ·exact Or.inr ⟨e, by simpa using hj, by rw [List.getElem_set_ne (by omega)]⟩
 have hset : ∀ j (hj : j < ps.length), ∃ hj' : j < (ps.set i s').length, (j = i ∧ (ps.set i s')[j] = s') ∨ (j ≠ i ∧ (ps.set i s')[j] = ps[j]) := fun j hj => ⟨by simpa using hj, by
  rcases hget j (by simpa using hj) with ⟨e, e2⟩ | ⟨e, _, e2⟩
  ·exact Or.inl ⟨e, e2⟩
  ·exact Or.inr ⟨e, e2⟩⟩
 have hse : s'.id = ps[i].id := k.nx.id
 have hwon : ∀ {u c : Int}, c ≠ 0 → Won n g.V u c → Won n g'.V u c := fun {u c} h0 ⟨l, a1, a2, a3, a4⟩ => ⟨l, a1, a2, a3, fun y hy => by rw [hx.V y u (by rw [a4 y hy]; exact h0), a4 y hy]⟩
 have hid0 : ∀ j (hj : j < ps.length), ps[j].id ≠ 0 := fun j hj => by rw [(h.inv.ok j hj).2]; omega
 have hcK : ∀ y u, g.V y u ≠ 0 → (g.V y u ≠ ps[i].id ∨ u ≤ ps[i].term) := fun y u hv => by
  by_cases e : g.V y u = ps[i].id
  ·exact Or.inr (h.vt y u hv i hi e.symm)
  ·exact Or.inl e
 have hyK : ∀ y u, g.V y u ≠ 0 → (y ≠ ps[i].id ∨ u ≤ ps[i].term) := fun y u hv => by
  by_cases e : y = ps[i].id
  ·exact Or.inr (h.vy hv hi e.symm)
  ·exact Or.inl e
 have gi' : GI n g' := by
  refine ⟨fun y t => ?_, fun t => ?_, fun t => ?_, fun u hu => ?_⟩
  ·by_cases e : y = ps[i].id ∧ t = s'.term
   ·obtain ⟨rfl, rfl⟩ := e; exact k.al
   ·rw [k.A y t (by by_cases e1 : y = ps[i].id; exact Or.inr (fun e2 => e ⟨e1, e2⟩); exact Or.inl e1)]
    have h1 := h.gi.a y t
    by_cases h0 : g.L t = []
    ·rw [h0] at h1; simp at h1; omega
    ·exact Nat.le_trans h1 (hx.pre h0).length_le
  ·by_cases e : t = s'.term
   ·rw [e]; exact k.ll
   ·rw [k.L t e]; exact h.gi.l t
  ·by_cases e : t = s'.term
   ·rw [e]; exact k.lp
   ·rw [k.L t e]; exact (h.gi.p t).ext hx
  ·by_cases h0 : g.L u = []
   ·have e : u = s'.term := Classical.byContradiction fun e => hu (by rw [k.L u e]; exact h0)
    subst e
    exact k.le h0 hu
   ·obtain ⟨c, Q, he⟩ := h.gi.e u h0
    obtain ⟨y0, hy0⟩ := he.q.one
    have hv0 : ∀ y ∈ Q, g.V y u ≠ 0 := fun y hy => by rw [he.v y hy]; exact he.c0
    have hc : c ≠ ps[i].id ∨ u ≤ ps[i].term := by have := hcK y0 u (hv0 y0 hy0); rwa [he.v y0 hy0] at this
    refine ⟨c, Q, he.c0, he.q, fun y hy => by rw [hx.V y u (hv0 y hy)]; exact he.v y hy, fun y hy => ?_, ?_, ?_⟩
    ·obtain ⟨W, hf⟩ := he.f y hy
     exact ⟨W, hf.ext hx h.gi hc (hyK y u (hv0 y hy))⟩
    ·rw [k.K c u hc]; exact he.k.trans (hx.pre h0)
    ·rw [k.K c u hc]; exact he.low
 refine ⟨inv', gi', fun j hj => ?_, fun m hm => ?_, fun m hm hk j hj e => ?_, fun y u hv j hj e => ?_, fun y u hv h0 => ?_, fun u hu => ?_, fun q hq => ?_, fun t => ?_⟩
 ·rcases hget j hj with ⟨rfl, e⟩ | ⟨hne, hj', e⟩
  ·rw [e]; exact k.mb
  ·rw [e]
   refine (h.mb j hj').ext hx h.gi (fun e2 => hne ?_) (fun hr => ?_)
   ·rw [(h.inv.ok j hj').2, hid] at e2; omega
   ·refine Classical.byContradiction fun hn => ?_
    have ht : ps[j].term = s'.term := Classical.byContradiction fun e3 => hn (k.L _ e3)
    rw [ht] at hn
    have hr2 := k.lo hn
    obtain ⟨hi2, _⟩ := hset i hi
    have w1 := inv'.led j hj (by rw [e]; exact hr)
    have w2 := inv'.led i hi2 (by simpa using hr2)
    rw [e, ht] at w1
    simp only [List.getElem_set_self] at w2
    have := w1.one w2
    omega
 ·rcases hw m hm with h1 | h1
  ·exact (h.ms m h1).ext hx (fun hk => by
    by_cases e : m.frm = ps[i].id
    ·exact Or.inr (h.ak m h1 hk i hi e.symm)
    ·exact Or.inl e)
  ·exact k.ms m h1
 ·rcases hw m hm with h1 | h1
  ·rcases hget j hj with ⟨rfl, e1⟩ | ⟨hne, hj', e1⟩
   ·rw [e1] at e ⊢
    have := h.ak m h1 hk j hi (by rw [← e, hse])
    omega
   ·rw [e1] at e ⊢; exact h.ak m h1 hk j hj' e
  ·obtain ⟨e2, e3⟩ := k.ak m h1 hk
   rcases hget j hj with ⟨rfl, e1⟩ | ⟨hne, hj', e1⟩
   ·rw [e1]; exact e3
   ·rw [e1, e2, (h.inv.ok j hj').2, hid] at e; omega
 ·by_cases h0 : g.V y u = 0
  ·have hg : y = ps[i].id ∧ u = s'.term ∧ g'.V y u = s'.vote := by
    rw [k.V] at hv ⊢
    unfold ghost at hv ⊢
    split at hv
    ·rename_i hc; rw [if_pos hc]; exact ⟨hc.1, hc.2, rfl⟩
    ·exact absurd h0 hv
   obtain ⟨rfl, rfl, e2⟩ := hg
   rw [e2] at e hv
   rcases hget j hj with ⟨rfl, e1⟩ | ⟨hne, hj', e1⟩
   ·rw [e1]; exact Int.le_refl _
   ·rw [e1] at e ⊢
    rcases k.vt hv h0 j hj' e with h1 | h1
    ·exact h1
    ·rw [h1, (h.inv.ok j hj').2, hid] at e; omega
  ·rw [hx.V y u h0] at e
   rcases hget j hj with ⟨rfl, e1⟩ | ⟨hne, hj', e1⟩
   ·rw [e1] at e ⊢
    have := h.vt y u h0 j hi (by rw [← e, hse])
    omega
   ·rw [e1] at e ⊢; exact h.vt y u h0 j hj' e
 ·by_cases hv0 : g.V y u = 0
  ·have hg : y = ps[i].id ∧ u = s'.term ∧ g'.V y u = s'.vote := by
    rw [k.V] at hv ⊢
    unfold ghost at hv ⊢
    split at hv
    ·rename_i hc; rw [if_pos hc]; exact ⟨hc.1, hc.2, rfl⟩
    ·exact absurd hv0 hv
   obtain ⟨rfl, rfl, e2⟩ := hg
   rw [e2] at hv ⊢
   exact k.vf hv hv0 h0
  ·have hL : g.L u = [] := Classical.byContradiction fun e => hx.ne e h0
   obtain ⟨W, hf⟩ := h.vf y u hv0 hL
   rw [hx.V y u hv0]
   exact ⟨W, hf.ext hx h.gi (hcK y u hv0) (hyK y u hv0)⟩
 ·by_cases h0 : g.L u = []
  ·have e : u = s'.term := Classical.byContradiction fun e => hu (by rw [k.L u e]; exact h0)
   subst e
   have hr2 := k.lo (by rw [h0]; exact hu)
   obtain ⟨hi2, _⟩ := hset i hi
   have w2 := inv'.led i hi2 (by simpa using hr2)
   refine ⟨i, hi2, ?_, Or.inr ⟨by simp, by simp only [List.getElem_set_self]; omega⟩⟩
   simp only [List.getElem_set_self] at w2 ⊢
   rw [hse, hid]; exact w2
  ·obtain ⟨j, hj, w, ho⟩ := h.ow u h0
   obtain ⟨hj2, hc⟩ := hset j hj
   refine ⟨j, hj2, ?_⟩
   rcases hc with ⟨rfl, e⟩ | ⟨hne, e⟩
   ·rw [e]
    refine ⟨by rw [hse]; exact hwon (hid0 j hj) w, ?_⟩
    rcases ho with ho | ⟨h1, h2⟩
    ·exact Or.inl (by omega)
    ·by_cases e2 : s'.term = u
     ·exact Or.inr ⟨e2, k.r2 h2 (by omega)⟩
     ·exact Or.inl (by omega)
   ·rw [e]; exact ⟨hwon (hid0 j hj) w, ho⟩
 ·obtain ⟨t, j, h1, h2, h3⟩ := h.dn q hq
  have hl := h1.len
  have ho := h1.one
  exact ⟨t, j, h1.ext hx, h2, h3.trans (hx.pre (fun e => by rw [e] at hl; simp at hl; omega))⟩
 ·by_cases e : t = s'.term
  ·rw [e]; exact k.lb
  ·rw [k.L t e]; exact Nat.le_trans (h.lb t) hG
end
theorem pm_none {out : List QM} (h : ∀ m ∈ out, 3 ≤ m.kind) : pm out = [] := by
 rw [List.eq_nil_iff_forall_not_mem]
 intro p hp
 obtain ⟨m, hm, hk, _⟩ := pm_mem.1 hp
 have := h m hm
 omega
theorem ghost_same {V : Int → Int → Int} {s s' : PP} (h : V s.id s'.term = s'.vote) : ghost V s s' = V := by
 funext v t
 unfold ghost
 split
 ·rename_i hc; rw [hc.1, hc.2, h]
 ·rfl
section
variable {ld : Int → Int} {n T G T' G' : Nat} {ps : List PP} {way way' out : List QM} {dn : List PE} {g : Gh} {i : Nat} {s' : PP}
theorem Alk.cur (h : Alk ld n T G ps way dn g) (hi : i < ps.length) : g.V ps[i].id ps[i].term = ps[i].vote := by
 rw [(h.inv.ok i hi).2]; exact h.inv.cur i hi
theorem Alk.cnd (h : Alk ld n T G ps way dn g) (hi : i < ps.length) (hr : ps[i].role = 1) : ∀ x ∈ ps[i].votes, g.V x ps[i].term = ps[i].id := by
 rw [(h.inv.ok i hi).2]; exact h.inv.cnd i hi hr
theorem Alk.led (h : Alk ld n T G ps way dn g) (hi : i < ps.length) (hr : ps[i].role = 2) : Won n g.V ps[i].term ps[i].id := by
 rw [(h.inv.ok i hi).2]; exact h.inv.led i hi hr
theorem Alk.still (hi : i < ps.length) (h : Alk ld n T G ps way dn g) (nx : Nxt n T' G' g.V ps[i] s' (pm out)) (hv : g.V ps[i].id s'.term = s'.vote) (mb : Mb n g s') (ms : ∀ m ∈ out, Mq n g m) (hk : ∀ m ∈ out, m.kind ≠ 1) (r2 : ps[i].role ≠ 1 → ps[i].term = s'.term → s'.role ≠ 1) (_cm : ps[i].commit ≤ s'.commit) (hG : G ≤ G') : Mov n T' G' ps out g g ps[i] s' :=
 ⟨nx, (ghost_same hv).symm, fun _ _ => rfl, fun _ => ⟨[], by simp, fun e he => by cases he⟩, fun _ _ _ => rfl, Nat.le_refl _, fun _ _ _ => rfl, h.gi.a _ _, h.gi.l _, h.gi.p _, fun h0 h1 => absurd h0 h1, fun h0 => absurd rfl h0, mb, ms, fun m hm k1 => absurd k1 (hk m hm), fun hv0 h0 _ => absurd (hv.symm.trans h0) hv0, fun hv0 h0 => absurd (hv.symm.trans h0) hv0, r2, Nat.le_trans (h.lb _) hG⟩
theorem Mb.up {s : PP} (hm : Mb n g s) (id : s'.id = s.id) (up : s.term ≤ s'.term) (log : s'.log = s.log) (ld : s'.role = 2 → s.role = 2 ∧ s'.term = s.term ∧ ∀ f ∈ s'.fol, f.2.2 ≤ (g.A f.1 s'.term : Int)) (cd : s'.role = 1 → s.role = 1 ∧ s'.term = s.term) (ce : Ce n g s'.term s'.log s'.commit) : Mb n g s' := by
 refine ⟨fun t ht => by rw [id]; exact hm.a0 t (by omega), fun t i ht hi => ?_, by rw [log]; exact hm.pf, fun hr => ?_, fun hr => by rw [(ld hr).2.1]; exact hm.le (ld hr).1, fun hr => ?_, ce⟩
 ·rw [id] at hi
  by_cases h1 : t ≤ s.term
  ·rw [log]
   rcases hm.hh t i h1 hi with h2 | ⟨t2, h2, h3, h4⟩
   ·exact Or.inl h2
   ·exact Or.inr ⟨t2, h2, by omega, h4⟩
  ·have := hm.a0 t (by omega)
   have h0 : i = 0 := by omega
   subst h0
   exact Or.inl (by simp)
 ·obtain ⟨h1, h2, h3⟩ := ld hr
  obtain ⟨h4, h5, _⟩ := hm.ld h1
  rw [log, id, h2]
  exact ⟨h4, h5, by rw [← h2]; exact h3⟩
 ·obtain ⟨h1, h2⟩ := cd hr
  rw [id, h2, log]
  exact hm.cd h1
theorem Alk.keep (hi : i < ps.length) (h : Alk ld n T G ps way dn g) (ok : Ok n T G s') (id : s'.id = ps[i].id) (tm : s'.term = ps[i].term) (vote : s'.vote = ps[i].vote) (log : s'.log = ps[i].log) (r1 : s'.role = 1 → ps[i].role = 1 ∧ s'.votes = ps[i].votes) (r2 : s'.role = 2 → ps[i].role = 2) (r2' : ps[i].role ≠ 1 → s'.role ≠ 1) (hf : s'.role = 2 → ∀ f ∈ s'.fol, f.2.2 ≤ (g.A f.1 s'.term : Int)) (cm : ps[i].commit ≤ s'.commit) (ce : Ce n g s'.term s'.log s'.commit) (ms : ∀ m ∈ out, 3 ≤ m.kind ∧ Mq n g m) : Mov n T G ps out g g ps[i] s' := by
 have hp := pm_none (out := out) (fun m hm => (ms m hm).1)
 refine h.still hi ?_ (by rw [tm, vote]; exact h.cur hi) ((h.mb i hi).up id (by omega) log (fun hr => ⟨r2 hr, tm, hf hr⟩) (fun hr => ⟨(r1 hr).1, tm⟩) ce) (fun m hm => (ms m hm).2) (fun m hm => by have := (ms m hm).1; omega) (fun hr _ => r2' hr) cm (Nat.le_refl _)
 rw [hp]
 refine ⟨ok, id, by omega, fun _ _ => vote, fun m hm => (by cases hm), fun m hm => (by cases hm), fun hr x hx => Or.inr ?_, fun hr => ?_⟩
 ·obtain ⟨h1, h2⟩ := r1 hr
  rw [tm]; rw [h2] at hx
  exact h.cnd hi h1 x hx
 ·obtain ⟨l, a1, a2, a3, a4⟩ := h.led hi (r2 hr)
  exact ⟨l, a1, a2, a3, fun x hx => Or.inr (by rw [tm]; exact a4 x hx)⟩
theorem Alk.raise (hi : i < ps.length) (h : Alk ld n T G ps way dn g) {t : Int} (ht : ps[i].term < t) (hT : t ≤ T) : Mov n T G ps [] g g ps[i] (ps[i].down t) := by
 have e : (ps[i].down t).term = t := if_pos ht
 refine h.still hi (down_nxt (h.inv.ok i hi).1 (Or.inr hT)) ?_ ((h.mb i hi).up rfl (by omega) rfl (fun hr => by cases hr) (fun hr => by cases hr) ((h.mb i hi).cm.ext (g' := g) (x := 0) (τ := 0) (old := 0) ⟨fun _ _ => rfl, fun _ => ⟨[], by simp, fun e he => by cases he⟩, fun _ _ _ => rfl, Nat.le_refl _, fun _ _ _ => rfl, fun _ _ _ => rfl, Int.le_refl _⟩ (by omega))) (fun m hm => by cases hm) (fun m hm => by cases hm) (fun _ e2 => by omega) (Nat.le_refl _) (Nat.le_refl _)
 rw [e]
 show g.V ps[i].id t = if ps[i].term < t then 0 else ps[i].vote
 rw [if_pos ht, (h.inv.ok i hi).2]
 exact h.inv.fut i hi t ht
theorem Alk.kept (hi : i < ps.length) (h : Alk ld n T G ps way dn g) {u : Int} (hu : ps[i].term ≤ u) (h0 : g.L u = []) : Kept g ps[i].id ps[i].log u := by
 have hm := h.mb i hi
 intro t j ht hj
 by_cases h1 : t ≤ ps[i].term
 ·rcases hm.hh t j h1 hj with h2 | ⟨t2, h2, h3, h4, h5⟩
  ·exact Or.inl h2
  ·refine Or.inr ⟨t2, h2, ?_, h4, h5⟩
   have : t2 ≠ u := fun e => h4 (e ▸ h0)
   omega
 ·have := hm.a0 t (by omega)
  have h0 : j = 0 := by omega
  subst h0
  exact Or.inl (by simp)
end
theorem Cm.of {n : Nat} {g g' : Gh} {t : Int} {i : Nat} (h : Cm n g t i) (hA : g'.A = g.A) (hL : g'.L = g.L) : Cm n g' t i :=
 ⟨by rw [hA]; exact h.q, h.one, by rw [hL]; exact h.len, by rw [hL]; exact h.tm⟩
theorem Ce.of {n : Nat} {g g' : Gh} {T : Int} {l : List PE} {c : Nat} (h : Ce n g T l c) (hA : g'.A = g.A) (hL : g'.L = g.L) : Ce n g' T l c := by
 rcases h with h' | ⟨t, j, h1, h2, h3, h4⟩
 ·exact Or.inl h'
 ·exact Or.inr ⟨t, j, h1.of hA hL, h2, h3, by rw [hL]; exact h4⟩
theorem Mb.of {n : Nat} {g g' : Gh} {s : PP} (h : Mb n g s) (hA : g'.A = g.A) (hL : g'.L = g.L) (hK : s.role = 1 → g'.K s.id s.term = s.log) : Mb n g' s :=
 ⟨by rw [hA]; exact h.a0, by rw [hA, hL]; exact h.hh, by unfold Pfx; rw [hL]; exact h.pf, by rw [hA, hL]; exact h.ld, by rw [hL]; exact h.le, hK, h.cm.of hA hL⟩
theorem q_p {m : PM} (h : 0 ≤ m.index) : m.q.p = m := by
 unfold PM.q QM.p
 cases m
 simp at h ⊢
 omega
theorem pm_q {l : List PM} (h : ∀ m ∈ l, (m.kind = 1 ∨ m.kind = 2) ∧ 0 ≤ m.index) : pm (l.map PM.q) = l := by
 unfold pm
 rw [List.filter_eq_self.2 (fun m hm => by
  obtain ⟨p, hp, rfl⟩ := List.mem_map.1 hm
  have := (h p hp).1
  simpa [PM.q] using this), List.map_map]
 refine (List.map_congr_left (g := id) (fun m hm => ?_)).trans (List.map_id _)
 exact q_p (h m hm).2
theorem MOk.pq {n T G : Nat} {m : PM} (h : MOk n T G m) : (m.kind = 1 ∨ m.kind = 2) ∧ 0 ≤ m.index := ⟨h.kind, h.index.1⟩
section
variable {ld : Int → Int} {n T G : Nat} {ps : List PP} {way : List QM} {dn : List PE} {g : Gh} {i : Nat}
theorem take_take1 {s : PP} {m : PM} (h : m.term ≤ s.term) : s.take n m = s.take1 n m := by
 unfold PP.take
 rw [if_neg (by omega)]
theorem Alk.take_nx (hi : i < ps.length) (h : Alk ld n T G ps way dn g) {m : QM} (hm : m ∈ way) (hk : m.kind = 1 ∨ m.kind = 2) (hto : m.to = ps[i].id) : Nxt n T (G + 1) g.V ps[i] (ps[i].take n m.p).1 (ps[i].take n m.p).2 := by
 have hp : m.p ∈ pm way := pm_mem.2 ⟨m, hm, hk, rfl⟩
 exact take_nxt (h.inv.ok i hi).1 (h.inv.msg _ hp) hto (fun hr => h.led hi hr) (fun hr => h.cnd hi hr) (fun hk2 ho => by have := h.inv.told _ hp hk2 ho; rw [this]; exact hto)
theorem Alk.askd (hi : i < ps.length) (h : Alk ld n T G ps way dn g) {m : QM} (hm : m ∈ way) (hk : m.kind = 1) (hto : m.to = ps[i].id) (ht : m.term ≤ ps[i].term) : ∃ g', Mov n T (G + 1) ps ((ps[i].take n m.p).2.map PM.q) g g' ps[i] (ps[i].take n m.p).1 := by
 have nx := h.take_nx hi hm (Or.inl hk) hto
 have hp : m.p ∈ pm way := pm_mem.2 ⟨m, hm, Or.inl hk, rfl⟩
 have hmo := h.inv.msg _ hp
 have hpm : pm ((ps[i].take n m.p).2.map PM.q) = (ps[i].take n m.p).2 := pm_q (fun x hx => (nx.snt x hx).pq)
 have hk' : m.p.kind = 1 := hk
 have hout : ∀ x ∈ (ps[i].take n m.p).2.map PM.q, x.kind = 2 := fun x hx => by
  rw [take_take1 (show m.p.term ≤ ps[i].term from ht)] at hx
  unfold PP.take1 at hx
  rw [if_pos hk'] at hx
  split at hx
  ·simp at hx; rw [hx]; rfl
  ·simp at hx; rw [hx]; rfl
 have hms : ∀ x ∈ (ps[i].take n m.p).2.map PM.q, ∀ g : Gh, Mq n g x := fun x hx g => ⟨fun e => by have := hout x hx; omega, fun e => by have := hout x hx; omega, fun e => by have := hout x hx; omega⟩
 by_cases hg : ps[i].grants m.p = true
 ·have e : (ps[i].take n m.p).1 = { ps[i] with vote := m.frm, idle := 0 } := by
   rw [take_take1 (show m.p.term ≤ ps[i].term from ht)]
   unfold PP.take1
   rw [if_pos hk', if_pos hg]
   rfl
  rw [← hpm] at nx
  rw [e] at nx ⊢
  unfold PP.grants at hg
  simp only [Bool.and_eq_true, beq_iff_eq, Bool.or_eq_true, decide_eq_true_eq] at hg
  obtain ⟨⟨⟨g1, g2⟩, g3⟩, g4⟩ := hg
  have g2' : m.term = ps[i].term := g2
  refine ⟨{ g with V := ghost g.V ps[i] { ps[i] with vote := m.frm, idle := 0 } }, nx, rfl, fun _ _ => rfl, fun _ => ⟨[], by simp, fun e he => by cases he⟩, fun _ _ _ => rfl, Nat.le_refl _, fun _ _ _ => rfl, h.gi.a _ _, h.gi.l _, h.gi.p _, fun h0 h1 => absurd h0 h1, fun h0 => absurd rfl h0, ?_, fun x hx => hms x hx _, fun x hx k1 => by have := hout x hx; omega, fun hv h0 hl => ?_, fun hv h0 j hj ej => Or.inl ?_, fun hr _ => hr, Nat.le_succ_of_le (h.lb _)⟩
  ·exact ((h.mb i hi).up (s' := { ps[i] with vote := m.frm, idle := 0 }) rfl (Int.le_refl _) rfl (fun hr => ⟨hr, rfl, ((h.mb i hi).ld hr).2.2⟩) (fun hr => ⟨hr, rfl⟩) (h.mb i hi).cm).of rfl rfl (h.mb i hi).cd
  ·have hl' : g.L ps[i].term = [] := hl
   obtain ⟨a1, a2⟩ := (h.ms m hm).ask hk
   refine ⟨ps[i].log, ?_, (h.mb i hi).pf, (h.inv.ok i hi).1.log.1, h.kept hi (Int.le_refl _) hl'⟩
   show Utd (g.K m.frm ps[i].term) ps[i].log
   rw [← g2']
   unfold Utd
   have b1 : ps[i].lastT = lastOf ps[i].log := rfl
   have b2 : m.p.lterm = lastOf (g.K m.frm m.term) := a2
   have b3 : m.p.index = ((g.K m.frm m.term).length : Int) := by show (m.index : Int) = _; rw [a1]
   have b4 : ps[i].lastI = (ps[i].log.length : Int) := rfl
   rw [b1, b2, b3, b4] at g1
   omega
  ·have := h.ak m hm hk j hj ej
   show ps[i].term ≤ ps[j].term
   omega
 ·have e : (ps[i].take n m.p).1 = ps[i] := by
   rw [take_take1 (show m.p.term ≤ ps[i].term from ht)]
   unfold PP.take1
   rw [if_pos hk', if_neg hg]
  rw [← hpm] at nx
  rw [e] at nx ⊢
  exact ⟨g, h.still hi nx (h.cur hi) (h.mb i hi) (fun x hx => hms x hx g) (fun x hx => by have := hout x hx; omega) (fun hr _ => hr) (Nat.le_refl _) (Nat.le_succ _)⟩
theorem cand_nxt {V : Int → Int → Int} {s : PP} (h : Ok n T G s) (hr : s.role ≠ 2) (draw : Int) : Nxt n (T + 1) G V s (s.cand draw) ((s.cand draw).asks n) := by
 have hco := cand_ok (draw := draw) h hr
 have g0 := h.t0
 have h1 : 1 ≤ (s.cand draw).term := by show 1 ≤ s.term + 1; omega
 refine ⟨hco, rfl, by show s.term ≤ s.term + 1; omega, fun e => by have : s.term + 1 = s.term := e; omega, fun m hm => (asks_ok hco h1 m hm).1, fun m hm hk => by have := (asks_ok hco h1 m hm).2; omega, fun _ x hx => Or.inl ?_, fun hr => by have : (1 : Int) = 2 := hr; omega⟩
 have : x ∈ [s.id] := hx
 simp at this
 exact ⟨this, rfl⟩
theorem Alk.campaign (hi : i < ps.length) (h : Alk ld n T G ps way dn g) (hr : ps[i].role ≠ 2) (draw : Int) : ∃ g', Mov n (T + 1) G ps (((ps[i].cand draw).asks n).map PM.q) g g' ps[i] (ps[i].cand draw) := by
 have nx := cand_nxt (V := g.V) (h.inv.ok i hi).1 hr draw
 have hpm : pm (((ps[i].cand draw).asks n).map PM.q) = (ps[i].cand draw).asks n := pm_q (fun x hx => (nx.snt x hx).pq)
 rw [← hpm] at nx
 have hq : Mb n g { ps[i].cand draw with role := 0 } := (h.mb i hi).up (s' := { ps[i].cand draw with role := 0 }) rfl (by show ps[i].term ≤ ps[i].term + 1; omega) rfl (fun hr => by cases hr) (fun hr => by cases hr) (by
  rcases (h.mb i hi).cm with h' | ⟨t, j, h1, h2, h3⟩
  ·exact Or.inl h'
  ·exact Or.inr ⟨t, j, h1, by show t ≤ ps[i].term + 1; omega, h3⟩)
 have hKs : ∀ c u, (c ≠ ps[i].id ∨ u ≤ ps[i].term) → (if c = ps[i].id ∧ u = ps[i].term + 1 then ps[i].log else g.K c u) = g.K c u := fun c u hc => if_neg (by rintro ⟨rfl, rfl⟩; rcases hc with hc | hc; exact hc rfl; omega)
 refine ⟨{ g with V := ghost g.V ps[i] (ps[i].cand draw), K := fun c u => if c = ps[i].id ∧ u = ps[i].term + 1 then ps[i].log else g.K c u }, nx, rfl, fun _ _ => rfl, fun _ => ⟨[], by simp, fun e he => by cases he⟩, fun _ _ _ => rfl, Nat.le_refl _, hKs, h.gi.a _ _, h.gi.l _, h.gi.p _, fun h0 h1 => absurd h0 h1, fun h0 => absurd rfl h0, ⟨hq.a0, hq.hh, hq.pf, fun hr => by have : (1 : Int) = 2 := hr; omega, fun hr => by have : (1 : Int) = 2 := hr; omega, fun _ => if_pos ⟨rfl, rfl⟩, hq.cm.of rfl rfl⟩, fun x hx => ?_, fun x hx _ => ?_, fun _ _ hl => ⟨ps[i].log, ?_, (h.mb i hi).pf, (h.inv.ok i hi).1.log.1, h.kept hi (by show ps[i].term ≤ ps[i].term + 1; omega) hl⟩, fun _ _ _ _ _ => Or.inr rfl, fun _ e => by have : ps[i].term = ps[i].term + 1 := e; omega, h.lb _⟩
 ·obtain ⟨p, hp, rfl⟩ := List.mem_map.1 hx
  obtain ⟨j, hj, rfl⟩ := List.mem_map.1 hp
  refine ⟨fun _ => ?_, fun e => by have : (1 : Int) = 3 := e; omega, fun e => by have : (1 : Int) = 4 := e; omega⟩
  constructor
  ·show ((ps[i].log.length : Int)).toNat = (if ps[i].id = ps[i].id ∧ ps[i].term + 1 = ps[i].term + 1 then ps[i].log else g.K ps[i].id (ps[i].term + 1)).length
   rw [if_pos ⟨rfl, rfl⟩]; simp
  ·show lastOf ps[i].log = lastOf (if ps[i].id = ps[i].id ∧ ps[i].term + 1 = ps[i].term + 1 then ps[i].log else g.K ps[i].id (ps[i].term + 1))
   rw [if_pos ⟨rfl, rfl⟩]
 ·obtain ⟨p, hp, rfl⟩ := List.mem_map.1 hx
  obtain ⟨j, hj, rfl⟩ := List.mem_map.1 hp
  exact ⟨rfl, Int.le_refl _⟩
 ·show Utd (if ps[i].id = ps[i].id ∧ ps[i].term + 1 = ps[i].term + 1 then ps[i].log else g.K ps[i].id (ps[i].term + 1)) ps[i].log
  rw [if_pos ⟨rfl, rfl⟩]
  exact Or.inr ⟨rfl, Nat.le_refl _⟩
end
section
variable {ld : Int → Int} {n T G : Nat} {ps : List PP} {way : List QM} {dn : List PE} {g : Gh} {i : Nat}
theorem Alk.told (hi : i < ps.length) (h : Alk ld n T G ps way dn g) {m : QM} (hm : m ∈ way) (hk : m.kind = 2) (hto : m.to = ps[i].id) (ht : m.term = ps[i].term) (hr : ps[i].role = 1) (ho : m.ok = true) : Mov n T G ps [] g g ps[i] { ps[i] with votes := wth ps[i].votes m.frm } := by
 have hp : m.p ∈ pm way := pm_mem.2 ⟨m, hm, Or.inr hk, rfl⟩
 have hmo := h.inv.msg _ hp
 have hok := (h.inv.ok i hi).1
 have htold : g.V m.frm m.term = m.to := h.inv.told _ hp hk ho
 obtain ⟨hul, huv, hum, huf⟩ : ps[i].lead = 0 ∧ ps[i].vote = ps[i].id ∧ ps[i].id ∈ ps[i].votes ∧ ps[i].fol = [] := by
  rcases hok.role with ⟨e, _⟩ | ⟨_, h'⟩ | ⟨e, _⟩
  ·omega
  ·exact h'
  ·omega
 have hvm : ∀ x ∈ wth ps[i].votes m.frm, 1 ≤ x ∧ x ≤ n := fun x hx => by
  rcases wth_mem.1 hx with rfl | hx
  ·exact hmo.f
  ·exact hok.vm x hx
 have ok' : Ok n T G { ps[i] with votes := wth ps[i].votes m.frm } := { hok with vr := wth_ris hok.vr _, vm := hvm, role := Or.inr (Or.inl ⟨hr, hul, huv, wth_mem.2 (Or.inr hum), huf⟩) }
 refine h.still hi ⟨ok', rfl, Int.le_refl _, fun _ _ => rfl, fun m hm => (by cases hm), fun m hm => (by cases hm), fun _ x hx => Or.inr ?_, fun hr2 => by have : ps[i].role = 2 := hr2; omega⟩ (h.cur hi) ((h.mb i hi).up (s' := { ps[i] with votes := wth ps[i].votes m.frm }) rfl (Int.le_refl _) rfl (fun hr2 => by have : ps[i].role = 2 := hr2; omega) (fun _ => ⟨hr, rfl⟩) (h.mb i hi).cm) (fun m hm => by cases hm) (fun m hm => by cases hm) (fun hr2 => by omega) (Nat.le_refl _) (Nat.le_refl _)
 rcases wth_mem.1 hx with rfl | hx
 ·show g.V m.frm ps[i].term = ps[i].id
  rw [← ht, htold, hto]
 ·exact h.cnd hi hr x hx
theorem Alk.free (hi : i < ps.length) (h : Alk ld n T G ps way dn g) (hr : ps[i].role = 1) (hmj : maj n ps[i].votes = true) : g.L ps[i].term = [] := by
 refine Classical.byContradiction fun h0 => ?_
 obtain ⟨j, hj, w, ho⟩ := h.ow _ h0
 have hok := (h.inv.ok i hi).1
 have w2 : Won n g.V ps[i].term ps[i].id := ⟨ps[i].votes, hok.vr, hmj, hok.vm, h.cnd hi hr⟩
 have e := w.one w2
 rw [(h.inv.ok j hj).2, (h.inv.ok i hi).2] at e
 have ej : j = i := by omega
 subst ej
 rcases ho with ho | ho
 ·omega
 ·omega
theorem low_of {l : List PE} {u : Int} (hp : Pfx g l) (hl : Lg u l) (h0 : g.L u = []) : ∀ e ∈ l, e.t < u := by
 intro e he
 obtain ⟨j, hj, rfl⟩ := List.getElem_of_mem he
 have h1 := (hl.2 _ he).1.2
 have h2 := hp j hj
 have : l[j].t ≠ u := fun e => by
  rw [e, h0] at h2
  have := congrArg List.length (List.prefix_nil.1 h2)
  simp at this
  rw [this] at hj; simp at hj
 omega
theorem Pfx.snoc {g' : Gh} {l : List PE} {e : PE} (hp : Pfx g' l) (he : l ++ [e] <+: g'.L e.t) : Pfx g' (l ++ [e]) := by
 intro j hj
 by_cases h : j < l.length
 ·rw [List.take_append_of_le_length (by omega), List.getElem_append_left h]
  exact hp j h
 ·have : j = l.length := by simp at hj; omega
  subst this
  rw [List.take_of_length_le (by simp), List.getElem_append_right (Nat.le_refl _)]
  simpa using he
def grown (g : Gh) (x u : Int) (l : List PE) : Gh := { g with L := fun t => if t = u then l else g.L t, A := fun y t => if y = x ∧ t = u then l.length else g.A y t }
theorem grown_L (x u : Int) (l : List PE) : (grown g x u l).L u = l := if_pos rfl
theorem grown_L' {x u t : Int} {l : List PE} (h : t ≠ u) : (grown g x u l).L t = g.L t := if_neg h
theorem grown_A (x u : Int) (l : List PE) : (grown g x u l).A x u = l.length := if_pos ⟨rfl, rfl⟩
theorem grown_A' {x u y t : Int} {l : List PE} (h : y ≠ x ∨ t ≠ u) : (grown g x u l).A y t = g.A y t := if_neg (by rintro ⟨rfl, rfl⟩; rcases h with h | h <;> exact h rfl)
theorem Alk.won (hi : i < ps.length) (h : Alk ld n T G ps way dn g) (hr : ps[i].role = 1) (ht1 : 1 ≤ ps[i].term) (hmj : maj n ps[i].votes = true) : ∃ g', Mov n T (G + 1) ps [] g g' ps[i] (ps[i].win n) := by
 have hok := (h.inv.ok i hi).1
 have hmb := h.mb i hi
 have h0 := h.free hi hr hmj
 have hwe : ps[i].winIf n = ps[i].win n := by unfold PP.winIf; rw [if_pos hmj]
 have nx := win_nxt (V := g.V) (s := ps[i]) (out := []) hok.id1 hok hr ht1 rfl (Int.le_refl _) (fun _ _ => rfl) (fun m hm => (by cases hm)) (fun m hm => (by cases hm)) (fun x hx => Or.inr (h.cnd hi hr x hx))
 rw [hwe] at nx
 have hll : Lg ps[i].term (ps[i].log ++ [noop ps[i].term]) := hok.log.snoc rfl (Or.inr ⟨rfl, rfl⟩) ht1
 have hlow := low_of hmb.pf hok.log h0
 have hK := hmb.cd hr
 have hx : Ext g (grown g ps[i].id ps[i].term (ps[i].log ++ [noop ps[i].term])) ps[i].id ps[i].term ps[i].term :=
  ⟨fun t ht => grown_L' ht, fun h1 => absurd h0 h1, fun y t hy => grown_A' hy, by rw [grown_A]; have := h.gi.a ps[i].id ps[i].term; rw [h0] at this; simp at this; omega, fun _ _ _ => rfl, fun _ _ _ => rfl, Int.le_refl _⟩
 have hpl : Pfx (grown g ps[i].id ps[i].term (ps[i].log ++ [noop ps[i].term])) (ps[i].log ++ [noop ps[i].term]) := (hmb.pf.ext hx).snoc (by rw [show (noop ps[i].term).t = ps[i].term from rfl, grown_L]; exact List.prefix_refl _)
 have hce : Ce n (grown g ps[i].id ps[i].term (ps[i].log ++ [noop ps[i].term])) ps[i].term (ps[i].log ++ [noop ps[i].term]) ps[i].commit := (hmb.cm.take (l' := ps[i].log ++ [noop ps[i].term]) (List.take_append_of_le_length hok.com)).ext hx (Int.le_refl _)
 have hcv : g.V ps[i].id ps[i].term = ps[i].vote := h.cur hi
 refine ⟨grown g ps[i].id ps[i].term (ps[i].log ++ [noop ps[i].term]), nx, (ghost_same (s' := ps[i].win n) hcv).symm, fun t ht => grown_L' ht, fun h1 => absurd h0 h1, fun y t hy => grown_A' hy, hx.Am, fun _ _ _ => rfl, ?_, ?_, ?_, fun _ _ => ⟨ps[i].id, ps[i].votes, ?_⟩, fun _ => rfl, ⟨fun t ht => ?_, fun t j ht hj => ?_, hpl, fun _ => ⟨?_, ?_, ?_⟩, fun _ => ?_, (fun hr1 => by have : (2 : Int) = 1 := hr1; omega), hce⟩, fun m hm => (by cases hm), fun m hm => (by cases hm), fun hv h1 => absurd (hcv.symm.trans h1) hv, fun hv h1 => absurd (hcv.symm.trans h1) hv, fun _ _ => (by show (2 : Int) ≠ 1; omega), ?_⟩
 ·show (grown g ps[i].id ps[i].term _).A ps[i].id ps[i].term ≤ ((grown g ps[i].id ps[i].term _).L ps[i].term).length
  rw [grown_A, grown_L]; exact Nat.le_refl _
 ·show Lg ps[i].term ((grown g ps[i].id ps[i].term _).L ps[i].term)
  rw [grown_L]; exact hll
 ·show Pfx _ ((grown g ps[i].id ps[i].term _).L ps[i].term)
  rw [grown_L]; exact hpl
 ·refine ⟨by have := hok.id1; omega, ⟨hok.vr.nodup, hmj, hok.vm⟩, h.cnd hi hr, fun x hxv => ?_, ?_, ?_⟩
  ·have hv : g.V x ps[i].term = ps[i].id := h.cnd hi hr x hxv
   obtain ⟨W, hf⟩ := h.vf x ps[i].term (by rw [hv]; have := hok.id1; omega) h0
   rw [hv] at hf
   exact ⟨W, hf.ext hx h.gi (Or.inr (Int.le_refl _)) (Or.inr (Int.le_refl _))⟩
  ·show g.K ps[i].id ps[i].term ++ [noop ps[i].term] <+: (grown g ps[i].id ps[i].term _).L ps[i].term
   rw [grown_L, hK]; exact List.prefix_refl _
  ·show ∀ e ∈ g.K ps[i].id ps[i].term, e.t < ps[i].term
   rw [hK]; exact hlow
 ·have ht' : ps[i].term < t := ht
  show (grown g ps[i].id ps[i].term _).A ps[i].id t = 0
  rw [grown_A' (Or.inr (by omega))]
  exact hmb.a0 t ht'
 ·have ht' : t ≤ ps[i].term := ht
  show ((grown g ps[i].id ps[i].term (ps[i].log ++ [noop ps[i].term])).L t).take j <+: ps[i].log ++ [noop ps[i].term] ∨ _
  by_cases e : t = ps[i].term
  ·subst e
   rw [grown_L]
   exact Or.inl (List.take_prefix _ _)
  ·have hj' : j ≤ g.A ps[i].id t := by rw [← grown_A' (g := g) (x := ps[i].id) (u := ps[i].term) (l := ps[i].log ++ [noop ps[i].term]) (Or.inr e)]; exact hj
   have hjl := Nat.le_trans hj' (h.gi.a ps[i].id t)
   rcases hmb.hh t j ht' hj' with h1 | ⟨t2, h1, h2, h3, h4⟩
   ·rw [grown_L' e]; exact Or.inl (h1.trans (List.prefix_append _ _))
   ·exact Or.inr ⟨t2, h1, h2, hx.ne h3, hx.nope h.gi.l hjl h1 h3 h4⟩
 ·show ps[i].log ++ [noop ps[i].term] = (grown g ps[i].id ps[i].term _).L ps[i].term
  rw [grown_L]
 ·show (ps[i].log ++ [noop ps[i].term]).length ≤ (grown g ps[i].id ps[i].term _).A ps[i].id ps[i].term
  rw [grown_A]; exact Nat.le_refl _
 ·intro f hf
  have hf' : f ∈ (oth n ps[i].id).map fun k => (k, (ps[i].log.length : Int) + 1, (0 : Int)) := hf
  obtain ⟨k, _, rfl⟩ := List.mem_map.1 hf'
  show (0 : Int) ≤ _
  omega
 ·show (grown g ps[i].id ps[i].term _).L ps[i].term ≠ []
  rw [grown_L]; simp
 ·show ((grown g ps[i].id ps[i].term _).L ps[i].term).length ≤ G + 1
  rw [grown_L]; have := hok.glen; simp; omega
end
section
variable {ld : Int → Int} {n T G : Nat} {ps : List PP} {way : List QM} {dn : List PE} {g : Gh} {i : Nat}
theorem Alk.longer (hi : i < ps.length) (h : Alk ld n T G ps way dn g) (hr : ps[i].role = 2) (d : ByteArray) : ∃ g', Mov n T (G + 1) ps [] g g' ps[i] (ps[i].more d) := by
 have hok := (h.inv.ok i hi).1
 have hmb := h.mb i hi
 obtain ⟨hlog, hA, hfl⟩ := hmb.ld hr
 have h0 := hmb.le hr
 have hok2 := more_ok hok hr d
 have hcv : g.V ps[i].id ps[i].term = ps[i].vote := h.cur hi
 have ht1 : 1 ≤ ps[i].term := by
  rcases hok.role with h' | h' | h'
  ·omega
  ·omega
  ·exact h'.2.2.1
 have hll : Lg ps[i].term (ps[i].log ++ [PE.mk ps[i].term 0 d]) := hok.log.snoc rfl (Or.inl rfl) ht1
 have hLx : ∃ es, (grown g ps[i].id ps[i].term (ps[i].log ++ [PE.mk ps[i].term 0 d])).L ps[i].term = g.L ps[i].term ++ es ∧ ∀ e ∈ es, e.t = ps[i].term := ⟨[PE.mk ps[i].term 0 d], by rw [grown_L, ← hlog], fun e he => by rw [List.mem_singleton.1 he]⟩
 have hx : Ext g (grown g ps[i].id ps[i].term (ps[i].log ++ [PE.mk ps[i].term 0 d])) ps[i].id ps[i].term ps[i].term :=
  ⟨fun t ht => grown_L' ht, fun _ => hLx, fun y t hy => grown_A' hy, by rw [grown_A]; have := h.gi.a ps[i].id ps[i].term; rw [← hlog] at this; simp; omega, fun _ _ _ => rfl, fun _ _ _ => rfl, Int.le_refl _⟩
 have hpl : Pfx (grown g ps[i].id ps[i].term (ps[i].log ++ [PE.mk ps[i].term 0 d])) (ps[i].log ++ [PE.mk ps[i].term 0 d]) := (hmb.pf.ext hx).snoc (by show _ <+: (grown g ps[i].id ps[i].term _).L ps[i].term; rw [grown_L]; exact List.prefix_refl _)
 have hce : Ce n (grown g ps[i].id ps[i].term (ps[i].log ++ [PE.mk ps[i].term 0 d])) ps[i].term (ps[i].log ++ [PE.mk ps[i].term 0 d]) ps[i].commit := (hmb.cm.take (l' := ps[i].log ++ [PE.mk ps[i].term 0 d]) (List.take_append_of_le_length hok.com)).ext hx (Int.le_refl _)
 have nx : Nxt n T (G + 1) g.V ps[i] (ps[i].more d) (pm []) := ⟨hok2, rfl, Int.le_refl _, fun _ _ => rfl, fun m hm => (by cases hm), fun m hm => (by cases hm), fun hr1 => by have : ps[i].role = 1 := hr1; omega, fun _ => by
  obtain ⟨l, a1, a2, a3, a4⟩ := h.led hi hr
  exact ⟨l, a1, a2, a3, fun x hx => Or.inr (a4 x hx)⟩⟩
 refine ⟨grown g ps[i].id ps[i].term (ps[i].log ++ [PE.mk ps[i].term 0 d]), nx, (ghost_same (s' := ps[i].more d) hcv).symm, fun t ht => grown_L' ht, fun _ => hLx, fun y t hy => grown_A' hy, hx.Am, fun _ _ _ => rfl, ?_, ?_, ?_, fun h1 => absurd h1 h0, fun _ => hr, ⟨fun t ht => ?_, fun t j ht hj => ?_, hpl, fun _ => ⟨?_, ?_, ?_⟩, fun _ => ?_, (fun hr1 => by have : ps[i].role = 1 := hr1; omega), hce⟩, fun m hm => (by cases hm), fun m hm => (by cases hm), fun hv h1 => absurd (hcv.symm.trans h1) hv, fun hv h1 => absurd (hcv.symm.trans h1) hv, fun hr2 _ => hr2, ?_⟩
 ·show (grown g ps[i].id ps[i].term _).A ps[i].id ps[i].term ≤ ((grown g ps[i].id ps[i].term _).L ps[i].term).length
  rw [grown_A, grown_L]; exact Nat.le_refl _
 ·show Lg ps[i].term ((grown g ps[i].id ps[i].term _).L ps[i].term)
  rw [grown_L]; exact hll
 ·show Pfx _ ((grown g ps[i].id ps[i].term _).L ps[i].term)
  rw [grown_L]; exact hpl
 ·have ht' : ps[i].term < t := ht
  show (grown g ps[i].id ps[i].term _).A ps[i].id t = 0
  rw [grown_A' (Or.inr (by omega))]
  exact hmb.a0 t ht'
 ·have ht' : t ≤ ps[i].term := ht
  show ((grown g ps[i].id ps[i].term (ps[i].log ++ [PE.mk ps[i].term 0 d])).L t).take j <+: ps[i].log ++ [PE.mk ps[i].term 0 d] ∨ _
  by_cases e : t = ps[i].term
  ·subst e
   rw [grown_L]
   exact Or.inl (List.take_prefix _ _)
  ·have hj' : j ≤ g.A ps[i].id t := by rw [← grown_A' (g := g) (x := ps[i].id) (u := ps[i].term) (l := ps[i].log ++ [PE.mk ps[i].term 0 d]) (Or.inr e)]; exact hj
   have hjl := Nat.le_trans hj' (h.gi.a ps[i].id t)
   rcases hmb.hh t j ht' hj' with h1 | ⟨t2, h1, h2, h3, h4⟩
   ·rw [grown_L' e]; exact Or.inl (h1.trans (List.prefix_append _ _))
   ·exact Or.inr ⟨t2, h1, h2, hx.ne h3, hx.nope h.gi.l hjl h1 h3 h4⟩
 ·show ps[i].log ++ [PE.mk ps[i].term 0 d] = (grown g ps[i].id ps[i].term _).L ps[i].term
  rw [grown_L]
 ·show (ps[i].log ++ [PE.mk ps[i].term 0 d]).length ≤ (grown g ps[i].id ps[i].term _).A ps[i].id ps[i].term
  rw [grown_A]; exact Nat.le_refl _
 ·intro f hf
  have h1 := hfl f hf
  have h2 := hx.Ale f.1 ps[i].term
  show f.2.2 ≤ ((grown g ps[i].id ps[i].term _).A f.1 ps[i].term : Int)
  omega
 ·show (grown g ps[i].id ps[i].term _).L ps[i].term ≠ []
  rw [grown_L]; simp
 ·show ((grown g ps[i].id ps[i].term _).L ps[i].term).length ≤ G + 1
  rw [grown_L]; have := hok.glen; simp; omega
theorem ris_ge {l : List Int} (h : l.Pairwise (fun a b => b ≤ a)) {k : Nat} (hk : k < l.length) : k + 1 ≤ l.countP (fun x => decide (l[k] ≤ x)) := by
 have h1 : (l.take (k + 1)).countP (fun x => decide (l[k] ≤ x)) = (l.take (k + 1)).length := by
  rw [List.countP_eq_length]
  intro x hx
  obtain ⟨j, hj, rfl⟩ := List.getElem_of_mem hx
  rw [List.getElem_take]
  have hj' : j ≤ k := by simp at hj; omega
  rcases Nat.lt_or_eq_of_le hj' with h' | rfl
  ·exact decide_eq_true (List.pairwise_iff_getElem.1 h j k (by omega) hk h')
  ·simp
 have h2 : (l.take (k + 1)).countP (fun x => decide (l[k] ≤ x)) ≤ l.countP (fun x => decide (l[k] ≤ x)) := (List.take_sublist _ _).countP_le
 rw [h1] at h2
 simp at h2
 omega
theorem most_half {l : List Int} (h : l ≠ []) : l.length / 2 + 1 ≤ l.countP (fun x => decide (most l ≤ x)) := by
 have hl : 0 < l.length := List.length_pos_iff.2 h
 have hj : l.length / 2 < (srtD l).length := by rw [srtD_len]; omega
 have e : most l = (srtD l)[l.length / 2] := by
  unfold most
  rw [List.getD_eq_getElem?_getD, List.getElem?_eq_getElem hj, Option.getD_some]
 have := ris_ge (srtD_ris l) hj
 rw [← e, (srtD_perm l).countP_eq] at this
 exact this
theorem oth_nodup (n : Nat) (x : Int) : (oth n x).Nodup := (mem_ris n).nodup.filter _
theorem oth_len {n : Nat} {x : Int} (h : 1 ≤ x ∧ x ≤ n) : (oth n x).length + 1 = n := by
 have h1 : (mem n).countP (fun y => y == x) = 1 := by
  have := (List.nodup_iff_count.1 (mem_ris n).nodup) x
  have h2 : 0 < List.count x (mem n) := List.count_pos_iff.2 (mem_iff.2 h)
  have h3 : List.count x (mem n) = (mem n).countP (fun y => y == x) := rfl
  omega
 have h4 := List.length_eq_countP_add_countP (fun y => y == x) (l := mem n)
 rw [h1, mem_len] at h4
 unfold oth
 rw [← List.countP_eq_length_filter]
 have h5 : (mem n).countP (fun y => !(y == x)) = (mem n).countP (fun y => decide (¬(y == x) = true)) := List.countP_congr (fun y _ => by simp)
 rw [h5]
 omega
theorem Alk.mosts (hi : i < ps.length) (h : Alk ld n T G ps way dn g) (hr : ps[i].role = 2) (ht : tAt ps[i].log (most ps[i].have).toNat = ps[i].term) : Cm n g ps[i].term (most ps[i].have).toNat := by
 have hok := (h.inv.ok i hi).1
 obtain ⟨hlog, hA, hfl⟩ := (h.mb i hi).ld hr
 have hmo := most_ok hok
 obtain ⟨hf1, ht1, hb⟩ : ps[i].fol.map (·.1) = oth n ps[i].id ∧ 1 ≤ ps[i].term ∧ ∀ f ∈ ps[i].fol, 0 ≤ f.2.2 := by
  rcases hok.role with h' | h' | h'
  ·omega
  ·omega
  ·exact ⟨h'.2.2.2.2.2.1, h'.2.2.1, fun f hf => (h'.2.2.2.2.2.2 f hf).2.2.2⟩
 have h1 : 1 ≤ (most ps[i].have).toNat := by
  refine Classical.byContradiction fun hn => ?_
  have e : (most ps[i].have).toNat = 0 := by omega
  rw [e] at ht
  have : tAt ps[i].log 0 = 0 := rfl
  omega
 refine ⟨⟨ps[i].id :: (ps[i].fol.filter (fun f => decide (most ps[i].have ≤ f.2.2))).map (·.1), ⟨?_, ?_, ?_⟩, fun x hx => ?_⟩, h1, by rw [← hlog]; omega, by rw [← hlog]; exact ht⟩
 ·have hs : ((ps[i].fol.filter (fun f => decide (most ps[i].have ≤ f.2.2))).map (·.1)).Sublist (oth n ps[i].id) := by
   rw [← hf1]; exact (List.filter_sublist).map _
  rw [List.nodup_cons]
  refine ⟨fun hm => ?_, hs.nodup (oth_nodup n _)⟩
  exact (oth_mem.1 (hs.subset hm)).2 rfl
 ·refine decide_eq_true ?_
  have h2 := most_half (l := ps[i].have) (by simp [PP.have])
  have h3 : ps[i].have.length = n := by
   have := oth_len ⟨hok.id1, hok.idn⟩
   have e := congrArg List.length hf1
   rw [List.length_map] at e
   simp [PP.have]; omega
  rw [h3] at h2
  have h4 : ps[i].have.countP (fun x => decide (most ps[i].have ≤ x)) ≤ (ps[i].fol.filter (fun f => decide (most ps[i].have ≤ f.2.2))).length + 1 := by
   rw [← List.countP_eq_length_filter]
   show (ps[i].lastI :: ps[i].fol.map (·.2.2)).countP _ ≤ _
   rw [List.countP_cons, List.countP_map]
   have : (if decide (most ps[i].have ≤ ps[i].lastI) = true then 1 else 0) ≤ 1 := by split <;> omega
   exact Nat.add_le_add (Nat.le_refl _) this
  simp only [List.length_cons, List.length_map]
  omega
 ·intro x hx
  rcases List.mem_cons.1 hx with rfl | hx
  ·exact ⟨hok.id1, hok.idn⟩
  ·obtain ⟨f, hf, rfl⟩ := List.mem_map.1 hx
   have : f.1 ∈ oth n ps[i].id := by rw [← hf1]; exact List.mem_map.2 ⟨f, (List.mem_filter.1 hf).1, rfl⟩
   exact (oth_mem.1 this).1
 ·rcases List.mem_cons.1 hx with rfl | hx
  ·omega
  ·obtain ⟨f, hf, rfl⟩ := List.mem_map.1 hx
   obtain ⟨hf2, hf3⟩ := List.mem_filter.1 hf
   have h5 := of_decide_eq_true hf3
   have h6 := hfl f hf2
   omega
theorem Alk.advd (hi : i < ps.length) (h : Alk ld n T G ps way dn g) (hr : ps[i].role = 2) : Mov n T G ps [] g g ps[i] ps[i].adv := by
 have hok := (h.inv.ok i hi).1
 have hmb := h.mb i hi
 have hmo := most_ok hok
 obtain ⟨hlog, hA, hfl⟩ := hmb.ld hr
 have hcom := hok.com
 by_cases ht : tAt ps[i].log (most ps[i].have).toNat = ps[i].term
 ·have e : ps[i].adv = { ps[i] with commit := max ps[i].commit (most ps[i].have).toNat } := by unfold PP.adv; rw [if_pos ht]
  rw [e]
  refine h.keep hi { hok with com := ?_ } rfl rfl rfl rfl (fun hr1 => ⟨hr1, rfl⟩) (fun hr2 => hr2) (fun hr2 => hr2) (fun _ => hfl) (Nat.le_max_left _ _) ?_ (fun m hm => (by cases hm))
  ·show max ps[i].commit (most ps[i].have).toNat ≤ ps[i].log.length
   omega
  ·by_cases hc : ps[i].commit ≤ (most ps[i].have).toNat
   ·refine Or.inr ⟨ps[i].term, (most ps[i].have).toNat, h.mosts hi hr ht, Int.le_refl _, ?_, ?_⟩
    ·show max ps[i].commit (most ps[i].have).toNat ≤ _
     omega
    ·show ps[i].log.take _ <+: g.L ps[i].term
     rw [← hlog]; exact List.take_prefix _ _
   ·have e2 : max ps[i].commit (most ps[i].have).toNat = ps[i].commit := by omega
    show Ce n g ps[i].term ps[i].log (max ps[i].commit (most ps[i].have).toNat)
    rw [e2]; exact hmb.cm
 ·have e : ps[i].adv = ps[i] := by unfold PP.adv; rw [if_neg ht]
  rw [e]
  exact h.keep hi hok rfl rfl rfl rfl (fun hr1 => ⟨hr1, rfl⟩) (fun hr2 => hr2) (fun hr2 => hr2) (fun _ => hfl) (Nat.le_refl _) hmb.cm (fun m hm => (by cases hm))
end
section
variable {ld : Int → Int} {n T G : Nat} {ps : List PP} {way : List QM} {dn : List PE} {g : Gh} {i : Nat}
theorem Alk.sends (hi : i < ps.length) (h : Alk ld n T G ps way dn g) (hr : ps[i].role = 2) (f : Int × Int × Int) (h1 : 1 ≤ f.2.1) (h2 : f.2.1 ≤ ps[i].log.length + 1) : 3 ≤ (ps[i].msg f).kind ∧ Mq n g (ps[i].msg f) := by
 have hok := (h.inv.ok i hi).1
 have hmb := h.mb i hi
 obtain ⟨hlog, _, _⟩ := hmb.ld hr
 refine ⟨Int.le_refl _, fun e => by have : (3 : Int) = 1 := e; omega, fun _ => ⟨hmb.le hr, ?_, ?_, ?_, ?_, ?_⟩, fun e => by have : (3 : Int) = 4 := e; omega⟩
 ·show (f.2.1 - 1).toNat + ((ps[i].log.drop (f.2.1 - 1).toNat).take 16).length ≤ (g.L ps[i].term).length
  rw [← hlog]; simp; omega
 ·show (ps[i].log.drop (f.2.1 - 1).toNat).take 16 = ((g.L ps[i].term).drop (f.2.1 - 1).toNat).take ((ps[i].log.drop (f.2.1 - 1).toNat).take 16).length
  rw [← hlog, List.length_take, List.take_eq_take_iff]
  omega
 ·show tAt ps[i].log (f.2.1 - 1).toNat = tAt (g.L ps[i].term) (f.2.1 - 1).toNat
  rw [← hlog]
 ·show ps[i].commit ≤ (g.L ps[i].term).length
  rw [← hlog]; exact hok.com
 ·show Ce n g ps[i].term (g.L ps[i].term) ps[i].commit
  rw [← hlog]; exact hmb.cm
theorem same_take {l k : List PE} (hl : Pfx g l) (hk : Pfx g k) {j : Nat} (h1 : j < l.length) (h2 : j < k.length) (e : l[j].t = k[j].t) : l.take (j + 1) = k.take (j + 1) := by
 have a1 := hl j h1
 have a2 := hk j h2
 rw [e] at a1
 have hle : (l.take (j + 1)).length = (k.take (j + 1)).length := by simp; omega
 exact (List.prefix_of_prefix_length_le a1 a2 (Nat.le_of_eq hle)).eq_of_length hle
theorem mt_spec {log U : List PE} (hl : Pfx g log) (hU : Pfx g U) : ∀ (l : List PE) (b : Nat), log.take b = U.take b → b ≤ log.length → l = (U.drop b).take l.length → b + l.length ≤ U.length →
  mt log b l ≤ l.length ∧ log.take (b + mt log b l) = U.take (b + mt log b l) ∧ b + mt log b l ≤ log.length ∧ (mt log b l < l.length → ∀ x y, log[b + mt log b l]? = some x → U[b + mt log b l]? = some y → x.t ≠ y.t)
 | [], b, h1, h2, _, _ => ⟨Nat.le_refl _, h1, h2, fun h => by simp at h⟩
 | e :: l, b, h1, h2, h3, h4 => by
  have hb : b < U.length := by simp at h4; omega
  have hUe : U.drop b = U[b] :: U.drop (b + 1) := List.drop_eq_getElem_cons hb
  rw [hUe, List.length_cons, List.take_succ_cons] at h3
  injection h3 with h5 h6
  cases hq : log[b]? with
  | none =>
   have hm : mt log b (e :: l) = 0 := by unfold mt; rw [hq]
   rw [hm]
   exact ⟨by simp, h1, h2, fun _ x y hx => by rw [Nat.add_zero, hq] at hx; cases hx⟩
  | some x =>
   obtain ⟨hbl, hx⟩ := List.getElem?_eq_some_iff.1 hq
   by_cases ht : x.t = e.t
   ·have hm : mt log b (e :: l) = mt log (b + 1) l + 1 := by
     show (match log[b]? with | some x => (if x.t = e.t then mt log (b + 1) l + 1 else 0) | none => 0) = _
     rw [hq]; simp only [ht, if_true]
    have ht' : log[b].t = U[b].t := by rw [hx, ht, h5]
    have hst := same_take hl hU hbl hb ht'
    obtain ⟨a1, a2, a3, a4⟩ := mt_spec hl hU l (b + 1) hst (by omega) h6 (by simp at h4; omega)
    rw [show b + 1 + mt log (b + 1) l = b + (mt log (b + 1) l + 1) by omega] at a2 a3 a4
    rw [hm]
    exact ⟨by simp; omega, a2, a3, fun hlt => a4 (by simp at hlt; omega)⟩
   ·have hm : mt log b (e :: l) = 0 := by
     show (match log[b]? with | some x => (if x.t = e.t then mt log (b + 1) l + 1 else 0) | none => 0) = _
     rw [hq]; simp only [ht, if_false]
    rw [hm]
    refine ⟨by simp, h1, h2, fun _ x2 y hx2 hy => ?_⟩
    rw [Nat.add_zero] at hx2 hy
    rw [hq] at hx2
    rw [List.getElem?_eq_getElem hb] at hy
    cases hx2; cases hy
    rw [← h5]; exact ht
end
structure Jn (U log l' : List PE) (up com : Nat) : Prop where
 t : l'.take up = U.take up
 len : up ≤ l'.length
 or : l' = log ∨ (l' = U.take up ∧ ∃ k, k < up ∧ log.take k = U.take k ∧ com ≤ k ∧ ∀ x y, log[k]? = some x → U[k]? = some y → x.t ≠ y.t)
section
variable {ld : Int → Int} {n T G : Nat} {ps : List PP} {way : List QM} {dn : List PE} {g : Gh} {i : Nat}
theorem join_spec {s w : PP} {U : List PE} {b : Nat} {l : List PE} (hl : Pfx g s.log) (hU : Pfx g U) (hb : b ≤ s.log.length) (ht : tAt s.log b = tAt U b) (h3 : l = (U.drop b).take l.length) (h4 : b + l.length ≤ U.length) (hj : s.join b l = some w) : ∃ l', w = { s with log := l' } ∧ Jn U s.log l' (b + l.length) s.commit := by
 have h1 : s.log.take b = U.take b := by
  cases b with
  | zero => simp
  | succ k =>
   rw [tAt_succ (by omega), tAt_succ (by omega)] at ht
   exact same_take hl hU (by omega) (by omega) ht
 obtain ⟨a1, a2, a3, a4⟩ := mt_spec hl hU l b h1 hb h3 h4
 unfold PP.join at hj
 by_cases e : mt s.log b l = l.length
 ·rw [if_pos e] at hj
  cases hj
  rw [e] at a2 a3
  exact ⟨s.log, rfl, a2, a3, Or.inl rfl⟩
 ·rw [if_neg e] at hj
  by_cases hc : b + mt s.log b l + 1 ≤ s.commit
  ·rw [if_pos hc] at hj; cases hj
  ·rw [if_neg hc] at hj
   cases hj
   have hlt : mt s.log b l < l.length := by omega
   have e2 : s.log.take (b + mt s.log b l) ++ l.drop (mt s.log b l) = U.take (b + l.length) := by
    rw [a2]
    have e3 : l.drop (mt s.log b l) = (U.drop (b + mt s.log b l)).take (l.length - mt s.log b l) := by
     have e5 : l.drop (mt s.log b l) = ((U.drop b).take l.length).drop (mt s.log b l) := congrArg (List.drop (mt s.log b l)) h3
     rw [List.drop_take, List.drop_drop] at e5
     exact e5
    rw [e3]
    have e4 : b + l.length = (b + mt s.log b l) + (l.length - mt s.log b l) := by omega
    rw [e4]
    exact (List.take_add (l := U) (i := b + mt s.log b l) (j := l.length - mt s.log b l)).symm
   exact ⟨_, rfl, by rw [e2, List.take_take]; simp, by rw [e2]; simp; omega, Or.inr ⟨e2, b + mt s.log b l, by omega, a2, by omega, a4 hlt⟩⟩
def acked (g : Gh) (x u : Int) (k : Nat) : Gh := { g with A := fun y t => if y = x ∧ t = u then max (g.A x u) k else g.A y t }
theorem acked_A (x u : Int) (k : Nat) : (acked g x u k).A x u = max (g.A x u) k := if_pos ⟨rfl, rfl⟩
theorem acked_A' {x u y t : Int} {k : Nat} (h : y ≠ x ∨ t ≠ u) : (acked g x u k).A y t = g.A y t := if_neg (by rintro ⟨rfl, rfl⟩; rcases h with h | h <;> exact h rfl)
theorem no_part {log U l : List PE} {j k : Nat} (hj : j ≤ l.length) (h1 : l.take j <+: log) (h2 : l.take j <+: U) (hk : k < j) (hp : ∀ x y, log[k]? = some x → U[k]? = some y → x.t ≠ y.t) : False := by
 have hkl : k < (l.take j).length := by simp; omega
 have b1 := h1.length_le
 have b2 := h2.length_le
 have e1 := h1.getElem hkl
 have e2 := h2.getElem hkl
 exact hp _ _ (List.getElem?_eq_getElem (by omega)) (List.getElem?_eq_getElem (by omega)) (by rw [← e1, ← e2])
theorem Alk.laid (hi : i < ps.length) (h : Alk ld n T G ps way dn g) (hr : ps[i].role = 0) {m : QM} (hm : m ∈ way) (hk : m.kind = 3) (ht : m.term = ps[i].term) (hb : m.index ≤ ps[i].log.length) (hlt : tAt ps[i].log m.index = m.lterm) {w : PP} (hj : ps[i].join m.index m.ents = some w) (to : Int) :
  ∃ g', Mov n T G ps [w.hrd to true (m.index + m.ents.length)] g g' ps[i] { w with commit := max w.commit (min m.commit (m.index + m.ents.length)) } := by
 have hok := (h.inv.ok i hi).1
 have hmb := h.mb i hi
 obtain ⟨hL0, m1, m2, m3, m4, m5⟩ := (h.ms m hm).lay hk
 rw [ht] at hL0 m1 m2 m3 m4 m5
 have hU := h.gi.p ps[i].term
 have hG : m.index + m.ents.length ≤ G := Nat.le_trans m1 (h.lb _)
 obtain ⟨l', rfl, J⟩ := join_spec hmb.pf hU hb (by rw [hlt, m3]) m2 m1 hj
 generalize hup : m.index + m.ents.length = up at *
 have hcv : g.V ps[i].id ps[i].term = ps[i].vote := h.cur hi
 have hlog' : l' = ps[i].log ∨ l' <+: g.L ps[i].term := by
  rcases J.or with e | e
  ·exact Or.inl e
  ·rw [e.1]; exact Or.inr (List.take_prefix _ _)
 have hlg : Lg ps[i].term l' := by
  rcases hlog' with e | e
  ·rw [e]; exact hok.log
  ·have := h.gi.l ps[i].term
   exact ⟨this.1.sublist e.sublist, fun x hx => this.2 x (e.mem hx)⟩
 have hpf : Pfx g l' := by
  rcases hlog' with e | e
  ·rw [e]; exact hmb.pf
  ·exact hU.of_prefix e
 have hgl : l'.length ≤ G := by
  rcases J.or with e | e
  ·rw [e]; exact hok.glen
  ·rw [e.1]; simp; omega
 have hcom : ps[i].commit ≤ l'.length := by
  rcases J.or with e | ⟨e, k, h1, h2, h3, h4⟩
  ·rw [e]; exact hok.com
  ·have := J.len; omega
 have hct : l'.take ps[i].commit = ps[i].log.take ps[i].commit := by
  rcases J.or with e | ⟨e, k, h1, h2, h3, h4⟩
  ·rw [e]
  ·have e2 : l'.take ps[i].commit = (g.L ps[i].term).take ps[i].commit := by rw [e, List.take_take]; congr 1; omega
   have e3 : ps[i].log.take ps[i].commit = (ps[i].log.take k).take ps[i].commit := by rw [List.take_take]; congr 1; omega
   rw [e2, e3, h2, List.take_take]; congr 1; omega
 have hx : Ext g (acked g ps[i].id ps[i].term up) ps[i].id ps[i].term ps[i].term :=
  ⟨fun _ _ => rfl, fun _ => ⟨[], by simp [acked], fun e he => (by cases he)⟩, fun y t hy => acked_A' hy, by rw [acked_A]; omega, fun _ _ _ => rfl, fun _ _ _ => rfl, Int.le_refl _⟩
 have hce : Ce n (acked g ps[i].id ps[i].term up) ps[i].term l' (max ps[i].commit (min m.commit up)) := by
  refine Ce.ext (g := g) ?_ hx (Int.le_refl _)
  by_cases hc : min m.commit up ≤ ps[i].commit
  ·rw [show max ps[i].commit (min m.commit up) = ps[i].commit by omega]
   exact hmb.cm.take hct
  ·rw [show max ps[i].commit (min m.commit up) = min m.commit up by omega]
   rcases m5 with e | ⟨t, j, c1, c2, c3, c4⟩
   ·omega
   ·refine Or.inr ⟨t, j, c1, c2, by omega, ?_⟩
    have e2 : l'.take (min m.commit up) = (g.L ps[i].term).take (min m.commit up) := by
     have e3 : l'.take (min m.commit up) = (l'.take up).take (min m.commit up) := by rw [List.take_take]; congr 1; omega
     rw [e3, J.t, List.take_take]; congr 1; omega
    rw [e2]
    exact (List.take_prefix_take_left (by omega)).trans c4
 have hcom2 : max ps[i].commit (min m.commit up) ≤ l'.length := by have := J.len; omega
 have hrl : ps[i].role = 0 ∧ ps[i].votes = [] ∧ ps[i].fol = [] := by
  rcases hok.role with h' | h' | h'
  ·exact h'
  ·omega
  ·omega
 have ok' : Ok n T G { ps[i] with log := l', commit := max ps[i].commit (min m.commit up) } := { hok with log := hlg, glen := hgl, com := hcom2, role := Or.inl hrl }
 have hp0 : pm [({ ps[i] with log := l' } : PP).hrd to true up] = [] := pm_none (fun x hx => by rw [List.mem_singleton.1 hx]; show (3 : Int) ≤ 4; omega)
 have nx : Nxt n T G g.V ps[i] { ps[i] with log := l', commit := max ps[i].commit (min m.commit up) } (pm [({ ps[i] with log := l' } : PP).hrd to true up]) := by
  rw [hp0]
  exact ⟨ok', rfl, Int.le_refl _, fun _ _ => rfl, fun m hm => (by cases hm), fun m hm => (by cases hm), fun hr1 => by have : ps[i].role = 1 := hr1; omega, fun hr2 => by have : ps[i].role = 2 := hr2; omega⟩
 have hA := h.gi.a ps[i].id ps[i].term
 refine ⟨acked g ps[i].id ps[i].term up, nx, (ghost_same (s' := { ps[i] with log := l', commit := max ps[i].commit (min m.commit up) }) hcv).symm, fun _ _ => rfl, hx.Lx, fun y t hy => acked_A' hy, hx.Am, fun _ _ _ => rfl, ?_, h.gi.l _, h.gi.p _, fun h1 => absurd h1 hL0, fun h1 => absurd rfl h1, ⟨fun t ht2 => ?_, fun t j ht2 hj2 => ?_, hpf, (fun hr2 => by have : ps[i].role = 2 := hr2; omega), (fun hr2 => by have : ps[i].role = 2 := hr2; omega), (fun hr1 => by have : ps[i].role = 1 := hr1; omega), hce⟩, fun x hx2 => ?_, fun x hx2 k1 => ?_, fun hv h1 => absurd (hcv.symm.trans h1) hv, fun hv h1 => absurd (hcv.symm.trans h1) hv, fun _ _ => (by show ps[i].role ≠ 1; omega), h.lb _⟩
 ·show (acked g ps[i].id ps[i].term up).A ps[i].id ps[i].term ≤ (g.L ps[i].term).length
  rw [acked_A]; omega
 ·have ht' : ps[i].term < t := ht2
  show (acked g ps[i].id ps[i].term up).A ps[i].id t = 0
  rw [acked_A' (Or.inr (by omega))]
  exact hmb.a0 t ht'
 ·have ht' : t ≤ ps[i].term := ht2
  show (g.L t).take j <+: l' ∨ ∃ t2, t < t2 ∧ t2 ≤ ps[i].term ∧ g.L t2 ≠ [] ∧ ¬ (g.L t).take j <+: g.L t2
  by_cases e : t = ps[i].term
  ·subst e
   refine Or.inl ?_
   have hj3 : j ≤ max (g.A ps[i].id ps[i].term) up := by have := hj2; rwa [show (acked g ps[i].id ps[i].term up).A _ _ = _ from acked_A _ _ _] at this
   by_cases hju : j ≤ up
   ·have e2 : (g.L ps[i].term).take j = l'.take j := by
     have e3 : (g.L ps[i].term).take j = ((g.L ps[i].term).take up).take j := by rw [List.take_take]; congr 1; omega
     rw [e3, ← J.t, List.take_take]; congr 1; omega
    rw [e2]; exact List.take_prefix _ _
   ·have hj4 : j ≤ g.A ps[i].id ps[i].term := by omega
    rcases hmb.hh _ j (Int.le_refl _) hj4 with h1 | ⟨t2, h1, h2, _⟩
    ·rcases J.or with e2 | ⟨e2, k, k1, k2, k3, k4⟩
     ·rw [e2]; exact h1
     ·exact (no_part (by omega) h1 (List.take_prefix _ _) (by omega) k4).elim
    ·omega
  ·have hj3 : j ≤ g.A ps[i].id t := by have := hj2; rwa [show (acked g ps[i].id ps[i].term up).A _ _ = _ from acked_A' (Or.inr e)] at this
   have hjl := Nat.le_trans hj3 (h.gi.a ps[i].id t)
   rcases hmb.hh t j ht' hj3 with h1 | h1
   ·rcases J.or with e2 | ⟨e2, k, k1, k2, k3, k4⟩
    ·rw [e2]; exact Or.inl h1
    ·by_cases hpU : (g.L t).take j <+: g.L ps[i].term
     ·refine Or.inl ?_
      by_cases hju : j ≤ up
      ·rw [e2]
       exact List.prefix_take_iff.2 ⟨hpU, by rw [take_len hjl]; exact hju⟩
      ·exact (no_part hjl h1 hpU (by omega) k4).elim
     ·exact Or.inr ⟨ps[i].term, by omega, Int.le_refl _, hL0, hpU⟩
   ·exact Or.inr h1
 ·rw [List.mem_singleton.1 hx2]
  refine ⟨fun k1 => by have : (4 : Int) = 1 := k1; omega, fun k3 => by have : (4 : Int) = 3 := k3; omega, fun _ _ => ?_⟩
  show up ≤ (acked g ps[i].id ps[i].term up).A ps[i].id ps[i].term
  rw [acked_A]; omega
 ·rw [List.mem_singleton.1 hx2] at k1
  have : (4 : Int) = 1 := k1
  omega
end
section
variable {ld : Int → Int} {n T G T' G' : Nat} {ps : List PP} {way way' out : List QM} {dn : List PE} {g : Gh} {i : Nat} {s s' : PP}
def Al (ld : Int → Int) (n T G : Nat) (ps : List PP) (way : List QM) (dn : List PE) : Prop := ∃ g, Alk ld n T G ps way dn g
theorem pm_sub (h : ∀ m ∈ way', m ∈ way) : ∀ m ∈ pm way', m ∈ pm way := fun p hp => by
 obtain ⟨m, hm, hk, e⟩ := pm_mem.1 hp
 exact pm_mem.2 ⟨m, h m hm, hk, e⟩
theorem Al.lose (h : Al ld n T G ps way dn) (hw : ∀ m ∈ way', m ∈ way) : Al ld n T G ps way' dn := by
 obtain ⟨g, h⟩ := h
 exact ⟨g, { h with inv := h.inv.lose (pm_sub hw), ms := fun m hm => h.ms m (hw m hm), ak := fun m hm => h.ak m (hw m hm) }⟩
theorem Al.mono (h : Al ld n T G ps way dn) (hT : T ≤ T') (hG : G ≤ G') : Al ld n T' G' ps way dn := by
 obtain ⟨g, h⟩ := h
 exact ⟨g, { h with inv := h.inv.mono hT hG, lb := fun t => Nat.le_trans (h.lb t) hG }⟩
theorem Alk.mv {g' : Gh} (hi : i < ps.length) (h : Alk ld n T G ps way dn g) (k : Mov n T' G' ps out g g' ps[i] s') (hT : T ≤ T') (hG : G ≤ G') : Al ld n T' G' (ps.set i s') (way ++ out) dn := ⟨g', h.move hi k hT hG (fun _ hm => List.mem_append.1 hm)⟩
theorem set_at (hi : i < ps.length) (s : PP) : ∃ h : i < (ps.set i s).length, (ps.set i s)[i] = s := ⟨by simpa using hi, by simp⟩
theorem Al.then {T2 G2 : Nat} {s1 s2 : PP} {w1 w2 : List QM} (hi : i < ps.length) (h : Al ld n T G (ps.set i s1) w1 dn) (k : ∀ (ps : List PP) (hi : i < ps.length), Al ld n T G ps w1 dn → ps[i] = s1 → Al ld n T2 G2 (ps.set i s2) w2 dn) : Al ld n T2 G2 (ps.set i s2) w2 dn := by
 obtain ⟨hi2, e⟩ := set_at hi s1
 have := k _ hi2 h e
 rwa [List.set_set] at this
theorem Al.ok (h : Al ld n T G ps way dn) (hi : i < ps.length) : Ok n T G ps[i] ∧ ps[i].id = (i : Int) + 1 := by
 obtain ⟨g, h⟩ := h
 exact h.inv.ok i hi
theorem Al.nil (hi : i < ps.length) (h : Al ld n T G ps way dn) (e : ps[i] = s) : Al ld n T G (ps.set i s) way dn := by
 rw [← e, List.set_getElem_self]
 exact h
theorem mv_rais (hi : i < ps.length) (e : ps[i] = s) (h : Al ld n T G ps way dn) {t : Int} (hT : t ≤ T) : Al ld n T G (ps.set i (s.rais t)) way dn := by
 unfold PP.rais
 split
 ·rename_i ht
  obtain ⟨g, h⟩ := h
  subst e
  have := h.mv hi (h.raise hi ht hT) (Nat.le_refl _) (Nat.le_refl _)
  rwa [List.append_nil] at this
 ·exact h.nil hi e
theorem rais_term {s : PP} {t : Int} : t ≤ (s.rais t).term ∧ s.term ≤ (s.rais t).term ∧ (s.rais t).id = s.id := by
 unfold PP.rais
 split
 ·rename_i h
  have e : (s.down t).term = t := if_pos h
  exact ⟨by omega, by omega, rfl⟩
 ·exact ⟨by omega, Int.le_refl _, rfl⟩
theorem mv_win (hi : i < ps.length) (e : ps[i] = s) (h : Al ld n T G ps way dn) (hr : s.role = 1) (ht1 : 1 ≤ s.term) : Al ld n T (G + 1) (ps.set i (s.winIf n)) way dn := by
 unfold PP.winIf
 split
 ·rename_i hm
  obtain ⟨g, h⟩ := h
  subst e
  obtain ⟨g', k⟩ := h.won hi hr ht1 hm
  have := h.mv hi k (Nat.le_refl _) (Nat.le_succ _)
  rwa [List.append_nil] at this
 ·exact (h.nil hi e).mono (Nat.le_refl _) (Nat.le_succ _)
theorem take1_take {m : PM} (h : m.term ≤ s.term) : s.take1 n m = s.take n m := (take_take1 h).symm
theorem mv_take (hi : i < ps.length) (e : ps[i] = s) (h : Al ld n T G ps way dn) {m : QM} (hm : m ∈ way) (hk : m.kind = 1 ∨ m.kind = 2) (hto : m.to = s.id) : Al ld n T (G + 1) (ps.set i (s.take n m.p).1) (way ++ (s.take n m.p).2.map PM.q) dn := by
 have hmo : MOk n T G m.p := by obtain ⟨g, h⟩ := h; exact h.inv.msg _ (pm_mem.2 ⟨m, hm, hk, rfl⟩)
 have hT : m.term ≤ T := hmo.term.2
 have hr := rais_term (s := s) (t := m.term)
 have et : s.take n m.p = (s.rais m.term).take1 n m.p := by unfold PP.take PP.rais; rfl
 rw [et, take1_take (show m.p.term ≤ (s.rais m.term).term from hr.1)]
 refine Al.then hi (mv_rais hi e h hT) (fun ps hi h e => ?_)
 generalize s.rais m.term = u at *
 have hto' : m.to = u.id := by rw [hr.2.2]; exact hto
 rcases hk with hk | hk
 ·obtain ⟨g, h⟩ := h
  subst e
  obtain ⟨g', k⟩ := h.askd hi hm hk hto' hr.1
  exact h.mv hi k (Nat.le_refl _) (Nat.le_succ _)
 ·rw [take_take1 (show m.p.term ≤ u.term from hr.1)]
  unfold PP.take1
  rw [if_neg (by show ¬ m.kind = 1; omega)]
  split
  ·rename_i hc
   obtain ⟨c1, c2, c3⟩ := hc
   simp only [List.map_nil, List.append_nil]
   have h1 : Al ld n T G (ps.set i { u with votes := wth u.votes m.frm }) way dn := by
    obtain ⟨g, h⟩ := h
    subst e
    have := h.mv hi (h.told hi hm hk hto' c1 c2 c3) (Nat.le_refl _) (Nat.le_refl _)
    rwa [List.append_nil] at this
   exact Al.then hi h1 (fun ps hi h e => mv_win hi e h c2 (by have := hmo.term.1; show 1 ≤ u.term; rw [← c1]; exact this))
  ·simp only [List.map_nil, List.append_nil]
   exact (h.nil hi e).mono (Nat.le_refl _) (Nat.le_succ _)
theorem mv_tick (hi : i < ps.length) (e : ps[i] = s) (h : Al ld n T G ps way dn) (draw : Int) : Al ld n (T + 1) (G + 1) (ps.set i (s.tick n draw).1) (way ++ (s.tick n draw).2.map PM.q) dn := by
 have hok := h.ok hi
 rw [e] at hok
 unfold PP.tick
 split
 ·simp only [List.map_nil, List.append_nil]
  exact (h.nil hi e).mono (Nat.le_succ _) (Nat.le_succ _)
 ·rename_i hr
  split
  ·rename_i hid
   simp only [List.map_nil, List.append_nil]
   refine Al.mono ?_ (Nat.le_succ _) (Nat.le_succ _)
   obtain ⟨g, h⟩ := h
   subst e
   have h1 := hok.1.idle
   have h2 := hok.1.wait
   have := h.mv (out := []) hi (h.keep (s' := { ps[i] with idle := ps[i].idle + 1 }) hi { hok.1 with idle := ⟨by show 0 ≤ ps[i].idle + 1; omega, by show ps[i].idle + 1 ≤ 1000; omega⟩ } rfl rfl rfl rfl (fun hr1 => ⟨hr1, rfl⟩) (fun hr2 => hr2) (fun hr2 => hr2) (fun hr2 => absurd hr2 hr) (Nat.le_refl _) (h.mb i hi).cm (fun m hm => (by cases hm))) (Nat.le_refl _) (Nat.le_refl _)
   rwa [List.append_nil] at this
  ·have h1 : Al ld n (T + 1) G (ps.set i (s.cand draw)) (way ++ ((s.cand draw).asks n).map PM.q) dn := by
    obtain ⟨g, h⟩ := h
    subst e
    obtain ⟨g', k⟩ := h.campaign hi hr draw
    exact h.mv hi k (Nat.le_succ _) (Nat.le_refl _)
   exact Al.then hi h1 (fun ps hi h e => mv_win hi e h rfl (by have := hok.1.t0; show 1 ≤ s.term + 1; omega))
theorem mv_adv (hi : i < ps.length) (e : ps[i] = s) (h : Al ld n T G ps way dn) (hr : s.role = 2) : Al ld n T G (ps.set i s.adv) way dn := by
 obtain ⟨g, h⟩ := h
 subst e
 have := h.mv hi (h.advd hi hr) (Nat.le_refl _) (Nat.le_refl _)
 rwa [List.append_nil] at this
theorem mv_prop (hi : i < ps.length) (e : ps[i] = s) (h : Al ld n T G ps way dn) (hr : s.role = 2) (d : ByteArray) : Al ld n T (G + 1) (ps.set i (s.prop d)) way dn := by
 have h1 : Al ld n T (G + 1) (ps.set i (s.more d)) way dn := by
  obtain ⟨g, h⟩ := h
  subst e
  obtain ⟨g', k⟩ := h.longer hi hr d
  have := h.mv hi k (Nat.le_refl _) (Nat.le_succ _)
  rwa [List.append_nil] at this
 exact Al.then hi h1 (fun ps hi h e => mv_adv hi e h hr)
theorem fol_ok {s : PP} (h : Ok n T G s) (hr : s.role = 2) : ∀ f ∈ s.fol, 1 ≤ f.2.1 ∧ f.2.1 ≤ s.log.length + 1 ∧ f.2.2 < f.2.1 ∧ 0 ≤ f.2.2 := by
 rcases h.role with h' | h' | h'
 ·omega
 ·omega
 ·exact h'.2.2.2.2.2.2
theorem mv_beat (hi : i < ps.length) (e : ps[i] = s) (h : Al ld n T G ps way dn) (hr : s.role = 2) : Al ld n T G (ps.set i s.beat.1) (way ++ s.beat.2) dn := by
 have hok := (h.ok hi).1
 rw [e] at hok
 obtain ⟨g, h⟩ := h
 subst e
 have h1 := hok.idle
 unfold PP.beat
 split
 ·rename_i hlt
  exact h.mv hi (h.keep (s' := { ps[i] with idle := ps[i].idle + 1 }) hi { hok with idle := ⟨by show 0 ≤ ps[i].idle + 1; omega, by show ps[i].idle + 1 ≤ 1000; omega⟩ } rfl rfl rfl rfl (fun hr1 => ⟨hr1, rfl⟩) (fun hr2 => hr2) (fun hr2 => hr2) (fun _ => ((h.mb i hi).ld hr).2.2) (Nat.le_refl _) (h.mb i hi).cm (fun m hm => (by cases hm))) (Nat.le_refl _) (Nat.le_refl _)
 ·refine h.mv hi (h.keep (s' := { ps[i] with idle := 0 }) hi { hok with idle := ⟨by show (0 : Int) ≤ 0; omega, by show (0 : Int) ≤ 1000; omega⟩ } rfl rfl rfl rfl (fun hr1 => ⟨hr1, rfl⟩) (fun hr2 => hr2) (fun hr2 => hr2) (fun _ => ((h.mb i hi).ld hr).2.2) (Nat.le_refl _) (h.mb i hi).cm (fun m hm => ?_)) (Nat.le_refl _) (Nat.le_refl _)
  obtain ⟨f, hf, rfl⟩ := List.mem_map.1 hm
  have := fol_ok hok hr f hf
  exact h.sends hi hr f this.1 this.2.1
theorem mv_ltick (hi : i < ps.length) (e : ps[i] = s) (h : Al ld n T G ps way dn) (draw : Int) : Al ld n (T + 1) (G + 1) (ps.set i (s.ltick n draw).1) (way ++ (s.ltick n draw).2) dn := by
 have h1 := mv_tick hi e h draw
 unfold PP.ltick
 split
 ·rename_i hr
  have h2 : Al ld n (T + 1) (G + 1) (ps.set i (s.tick n draw).1.adv) (way ++ (s.tick n draw).2.map PM.q) dn := Al.then hi h1 (fun ps hi h e => mv_adv hi e h hr)
  split
  ·refine Al.then hi (h2.lose (way' := way) (fun m hm => List.mem_append.2 (Or.inl hm))) (fun ps hi h e => mv_beat hi e h hr)
  ·exact h2
 ·exact h1
end
section
variable {ld : Int → Int} {n T G : Nat} {ps : List PP} {way : List QM} {dn : List PE} {i : Nat} {s : PP}
theorem mv_hrd (hi : i < ps.length) (e : ps[i] = s) (h : Al ld n T G ps way dn) (to : Int) (k : Nat) : Al ld n T G (ps.set i s) (way ++ [s.hrd to false k]) dn := by
 have hok := (h.ok hi).1
 obtain ⟨g, h⟩ := h
 subst e
 refine h.mv hi (h.keep (s' := ps[i]) hi hok rfl rfl rfl rfl (fun hr1 => ⟨hr1, rfl⟩) (fun hr2 => hr2) (fun hr2 => hr2) (fun hr2 => ((h.mb i hi).ld hr2).2.2) (Nat.le_refl _) (h.mb i hi).cm (fun m hm => ?_)) (Nat.le_refl _) (Nat.le_refl _)
 rw [List.mem_singleton.1 hm]
 exact ⟨by show (3 : Int) ≤ 4; omega, fun k1 => by have : (4 : Int) = 1 := k1; omega, fun k3 => by have : (4 : Int) = 3 := k3; omega, fun _ ho => by have : false = true := ho; cases this⟩
theorem down_same {s : PP} {t : Int} (h : t = s.term) : (s.down t).term = s.term ∧ (s.down t).vote = s.vote := by
 subst h
 exact ⟨if_neg (by omega), if_neg (by omega)⟩
theorem mv_lay (hi : i < ps.length) (e : ps[i] = s) (h : Al ld n T G ps way dn) {m : QM} (hm : m ∈ way) (hk : m.kind = 3) (hr : s.role = 0) (ht : m.term = s.term) : Al ld n T G (ps.set i (s.lay m).1) (way ++ (s.lay m).2) dn := by
 unfold PP.lay
 split
 ·exact mv_hrd hi e h _ _
 ·rename_i hc
  have hb : m.index ≤ s.log.length := by omega
  have hlt : tAt s.log m.index = m.lterm := by
   refine Classical.byContradiction fun hn => hc (Or.inr hn)
  split
  ·simp only [List.append_nil]
   exact h.nil hi e
  ·rename_i u hj
   obtain ⟨g, h⟩ := h
   subst e
   obtain ⟨g', k⟩ := h.laid hi hr hm hk ht hb hlt hj m.frm
   exact h.mv hi k (Nat.le_refl _) (Nat.le_refl _)
theorem mv_tlay (hi : i < ps.length) (e : ps[i] = s) (h : Al ld n T G ps way dn) {m : QM} (hm : m ∈ way) (hk : m.kind = 3) (ht : m.term ≤ s.term) (hf : 0 ≤ m.frm ∧ m.frm ≤ n) : Al ld n T G (ps.set i (s.tlay m).1) (way ++ (s.tlay m).2) dn := by
 unfold PP.tlay
 split
 ·exact mv_hrd hi e h _ _
 ·rename_i hlt
  have ht' : m.term = s.term := by omega
  split
  ·simp only [List.append_nil]
   exact h.nil hi e
  ·rename_i hr
   obtain ⟨d1, d2⟩ := down_same ht'
   have h1 : Al ld n T G (ps.set i { s.down m.term with lead := m.frm, idle := 0 }) way dn := by
    have hok := (h.ok hi).1
    rw [e] at hok
    have hid := (h.ok hi).2
    obtain ⟨g, h⟩ := h
    subst e
    have hdk := down_nxt (V := g.V) hok (t := m.term) (Or.inl (by omega))
    have := h.mv (out := []) hi (h.keep (s' := { ps[i].down m.term with lead := m.frm, idle := 0 }) hi { hdk.ok with lead := hf, idle := ⟨by show (0 : Int) ≤ 0; omega, by show (0 : Int) ≤ 1000; omega⟩, role := Or.inl ⟨rfl, rfl, rfl⟩ } rfl d1 d2 rfl (fun hr1 => by have : (0 : Int) = 1 := hr1; omega) (fun hr2 => by have : (0 : Int) = 2 := hr2; omega) (fun _ => by show (0 : Int) ≠ 1; omega) (fun hr2 => by have : (0 : Int) = 2 := hr2; omega) (Nat.le_refl _) (by
     show Ce n g (ps[i].down m.term).term ps[i].log ps[i].commit
     rw [d1]; exact (h.mb i hi).cm) (fun m hm => (by cases hm))) (Nat.le_refl _) (Nat.le_refl _)
    rwa [List.append_nil] at this
   exact Al.then hi h1 (fun ps hi h e => mv_lay hi e h hm hk rfl (by show m.term = (s.down m.term).term; rw [d1]; exact ht'))
theorem mv_setF (hi : i < ps.length) (e : ps[i] = s) (h : Al ld n T G ps way dn) (hr : s.role = 2) (f : Int × Int × Int) (hb : 1 ≤ f.2.1 ∧ f.2.1 ≤ s.log.length + 1 ∧ f.2.2 < f.2.1 ∧ 0 ≤ f.2.2) (hA : ∀ g, Alk ld n T G ps way dn g → f.2.2 ≤ (g.A f.1 s.term : Int)) : Al ld n T G (ps.set i (s.setF f)) way dn := by
 have hok := (h.ok hi).1
 rw [e] at hok
 obtain ⟨g, h⟩ := h
 have hA := hA g h
 subst e
 have hmem : ∀ x ∈ (ps[i].setF f).fol, x = f ∨ x ∈ ps[i].fol := fun x hx => by
  obtain ⟨y, hy, rfl⟩ := List.mem_map.1 hx
  split
  ·exact Or.inl rfl
  ·exact Or.inr hy
 have hmap : (ps[i].setF f).fol.map (·.1) = ps[i].fol.map (·.1) := by
  show (ps[i].fol.map _).map _ = _
  rw [List.map_map]
  refine List.map_congr_left (fun x hx => ?_)
  show (if x.1 = f.1 then f else x).1 = x.1
  split
  ·rename_i e; exact e.symm
  ·rfl
 have hrole : ps[i].role = 2 ∧ ps[i].lead = ps[i].id ∧ 1 ≤ ps[i].term ∧ ps[i].votes = [] ∧ ps[i].vote ≠ 0 ∧ (ps[i].setF f).fol.map (·.1) = oth n ps[i].id ∧ ∀ x ∈ (ps[i].setF f).fol, 1 ≤ x.2.1 ∧ x.2.1 ≤ ps[i].log.length + 1 ∧ x.2.2 < x.2.1 ∧ 0 ≤ x.2.2 := by
  rcases hok.role with h' | h' | h'
  ·omega
  ·omega
  ·refine ⟨h'.1, h'.2.1, h'.2.2.1, h'.2.2.2.1, h'.2.2.2.2.1, hmap.trans h'.2.2.2.2.2.1, fun x hx => ?_⟩
   rcases hmem x hx with rfl | hx
   ·exact hb
   ·exact h'.2.2.2.2.2.2 x hx
 have hok' : Ok n T G (ps[i].setF f) := { hok with role := Or.inr (Or.inr hrole) }
 have := h.mv (out := []) hi (h.keep (s' := ps[i].setF f) hi hok' rfl rfl rfl rfl (fun hr1 => ⟨hr1, rfl⟩) (fun hr2 => hr2) (fun hr2 => hr2) (fun _ x hx => by
  rcases hmem x hx with rfl | hx
  ·exact hA
  ·exact ((h.mb i hi).ld hr).2.2 x hx) (Nat.le_refl _) (h.mb i hi).cm (fun m hm => (by cases hm))) (Nat.le_refl _) (Nat.le_refl _)
 rwa [List.append_nil] at this
theorem mv_send (hi : i < ps.length) (e : ps[i] = s) (h : Al ld n T G ps way dn) (hr : s.role = 2) (f : Int × Int × Int) (h1 : 1 ≤ f.2.1) (h2 : f.2.1 ≤ s.log.length + 1) : Al ld n T G (ps.set i s) (way ++ [s.msg f]) dn := by
 have hok := (h.ok hi).1
 obtain ⟨g, h⟩ := h
 subst e
 refine h.mv hi (h.keep (s' := ps[i]) hi hok rfl rfl rfl rfl (fun hr1 => ⟨hr1, rfl⟩) (fun hr2 => hr2) (fun hr2 => hr2) (fun hr2 => ((h.mb i hi).ld hr2).2.2) (Nat.le_refl _) (h.mb i hi).cm (fun m hm => ?_)) (Nat.le_refl _) (Nat.le_refl _)
 rw [List.mem_singleton.1 hm]
 exact h.sends hi hr f h1 h2
theorem mv_theard (hi : i < ps.length) (e : ps[i] = s) (h : Al ld n T G ps way dn) {m : QM} (hm : m ∈ way) (hk : m.kind = 4) : Al ld n T G (ps.set i (s.theard m).1) (way ++ (s.theard m).2) dn := by
 unfold PP.theard
 split
 ·rename_i ht
  cases hq : s.fol.find? (fun g => g.1 == m.frm) with
  | none =>
   simp only [List.append_nil]
   exact h.nil hi e
  | some f =>
   have hfm : f ∈ s.fol := List.mem_of_find?_eq_some hq
   have hff : f.1 = m.frm := by have := List.find?_some hq; simpa using this
   have hok := (h.ok hi).1
   rw [e] at hok
   have hr : s.role = 2 := by
    rcases hok.role with h' | h' | h'
    ·rw [h'.2.2] at hfm; cases hfm
    ·rw [h'.2.2.2.2] at hfm; cases hfm
    ·exact h'.1
   have hfo := fol_ok hok hr f hfm
   simp only
   split
   ·rename_i ho
    have hA : ∀ g, Alk ld n T G ps way dn g → max f.2.2 (min (m.index : Int) s.log.length) ≤ (g.A f.1 s.term : Int) := fun g h => by
     have h1 := (h.ms m hm).hrd hk ho
     have h2 := ((h.mb i hi).ld (by rw [e]; exact hr)).2.2 f (by rw [e]; exact hfm)
     rw [e] at h2
     rw [ht, ← hff] at h1
     omega
    have h1 := mv_setF hi e h hr (f.1, max f.2.2 (min (m.index : Int) s.log.length) + 1, max f.2.2 (min (m.index : Int) s.log.length)) (by dsimp only; omega) hA
    have h2 : Al ld n T G (ps.set i (s.setF (f.1, max f.2.2 (min (m.index : Int) s.log.length) + 1, max f.2.2 (min (m.index : Int) s.log.length))).adv) way dn := Al.then hi h1 (fun ps hi h e => mv_adv hi e h hr)
    split
    ·simp only [List.append_nil]; exact h2
    ·rename_i hl
     exact Al.then hi h2 (fun ps hi h e => mv_send hi e h hr _ (by dsimp only; omega) (by show max f.2.2 (min (m.index : Int) s.log.length) + 1 ≤ (s.log.length : Int) + 1; omega))
   ·have hA : ∀ g, Alk ld n T G ps way dn g → f.2.2 ≤ (g.A f.1 s.term : Int) := fun g h => by
     have h2 := ((h.mb i hi).ld (by rw [e]; exact hr)).2.2 f (by rw [e]; exact hfm)
     rwa [e] at h2
    have h1 := mv_setF hi e h hr (f.1, max (f.2.2 + 1) (min (f.2.1 - 1) (m.index + 1)), f.2.2) (by dsimp only; omega) hA
    exact Al.then hi h1 (fun ps hi h e => mv_send hi e h hr _ (by dsimp only; omega) (by show max (f.2.2 + 1) (min (f.2.1 - 1) ((m.index : Int) + 1)) ≤ (s.log.length : Int) + 1; omega))
 ·simp only [List.append_nil]
  exact h.nil hi e
theorem mv_ltake (hi : i < ps.length) (e : ps[i] = s) (h : Al ld n T G ps way dn) {m : QM} (hm : m ∈ way) (hk : m.kind = 3 ∨ m.kind = 4) (hT : m.term ≤ T) (hf : 0 ≤ m.frm ∧ m.frm ≤ n) : Al ld n T G (ps.set i (s.ltake m).1) (way ++ (s.ltake m).2) dn := by
 have hr := rais_term (s := s) (t := m.term)
 unfold PP.ltake
 split
 ·rename_i hk3
  exact Al.then hi (mv_rais hi e h hT) (fun ps hi h e => mv_tlay hi e h hm hk3 hr.1 hf)
 ·rename_i hk3
  exact Al.then hi (mv_rais hi e h hT) (fun ps hi h e => mv_theard hi e h hm (by omega))
end
section
variable {ld : Int → Int} {n T G : Nat} {ps : List PP} {way : List QM} {dn : List PE} {g : Gh} {i : Nat}
theorem Cm.ne {t : Int} {j : Nat} (h : Cm n g t j) : g.L t ≠ [] := fun e => by
 have h1 := h.len
 have h2 := h.one
 rw [e] at h1; simp at h1; omega
theorem GI.safe (gi : GI n g) {t1 t2 : Int} {i1 i2 : Nat} {X Y : List PE} (c1 : Cm n g t1 i1) (c2 : Cm n g t2 i2) (l1 : X.length ≤ i1) (l2 : Y.length ≤ i2) (p1 : X <+: g.L t1) (p2 : Y <+: g.L t2) : X <+: Y ∨ Y <+: X := by
 have both : ∀ {Z : List PE}, X <+: Z → Y <+: Z → X <+: Y ∨ Y <+: X := fun {Z} h1 h2 => by
  rcases Nat.le_total X.length Y.length with h | h
  ·exact Or.inl (List.prefix_of_prefix_length_le h1 h2 h)
  ·exact Or.inr (List.prefix_of_prefix_length_le h2 h1 h)
 rcases Int.le_total t1 t2 with h | h
 ·have h1 := gi.com c1 h c2.ne
  exact both ((List.prefix_take_iff.2 ⟨p1, l1⟩).trans h1) p2
 ·have h2 := gi.com c2 h c1.ne
  exact both p1 ((List.prefix_take_iff.2 ⟨p2, l2⟩).trans h2)
def doneUp (dn : List PE) (s : PP) : List PE := dn ++ (s.log.take s.commit).drop dn.length
theorem Alk.done (hi : i < ps.length) (h : Alk ld n T G ps way dn g) : (ps[i].log.take ps[i].commit <+: dn ∧ doneUp dn ps[i] = dn) ∨ (dn <+: ps[i].log.take ps[i].commit ∧ doneUp dn ps[i] = ps[i].log.take ps[i].commit) := by
 have hok := (h.inv.ok i hi).1
 have hcom := hok.com
 have hlen : (ps[i].log.take ps[i].commit).length = ps[i].commit := by simp; omega
 have key : dn <+: ps[i].log.take ps[i].commit ∨ ps[i].log.take ps[i].commit <+: dn := by
  by_cases hd : dn.length = 0
  ·rw [List.eq_nil_of_length_eq_zero hd]; exact Or.inl (List.nil_prefix)
  ·rcases (h.mb i hi).cm with hc | ⟨t2, i2, c1, c2, c3, c4⟩
   ·rw [hc]; exact Or.inr (by simp)
   ·obtain ⟨t1, i1, d1, d2, d3⟩ := h.dn (dn.length - 1) (by omega)
    rw [List.take_of_length_le (by omega)] at d3
    exact h.gi.safe d1 c1 (by omega) (by omega) d3 c4
 rcases key with hk | hk
 ·refine Or.inr ⟨hk, ?_⟩
  obtain ⟨r, hr⟩ := hk
  unfold doneUp
  rw [← hr]; simp
 ·refine Or.inl ⟨hk, ?_⟩
  unfold doneUp
  rw [List.drop_of_length_le (by have := hk.length_le; omega)]
  simp
theorem Al.hold1 (hi : i < ps.length) (h : Al ld n T G ps way dn) : Al ld n T G ps way (doneUp dn ps[i]) ∧ ps[i].log.take ps[i].commit <+: doneUp dn ps[i] := by
 obtain ⟨g, h⟩ := h
 have hok := (h.inv.ok i hi).1
 have hcom := hok.com
 rcases h.done hi with ⟨h1, h2⟩ | ⟨h1, h2⟩
 ·rw [h2]; exact ⟨⟨g, h⟩, h1⟩
 ·rw [h2]
  refine ⟨⟨g, { h with dn := fun k hk => ?_ }⟩, List.prefix_refl _⟩
  have hk' : k < ps[i].commit := by simp at hk; omega
  rcases (h.mb i hi).cm with hc | ⟨t2, i2, c1, c2, c3, c4⟩
  ·omega
  ·exact ⟨t2, i2, c1, by omega, (List.take_prefix _ _).trans c4⟩
theorem Al.hold2 (hi : i < ps.length) (h : Al ld n T G ps way dn) {j k : Nat} (hj : j < ps.length) (h1 : k < ps[i].log.length) (h2 : k < ps[j].log.length) (e : ps[i].log[k].t = ps[j].log[k].t) : ps[i].log.take (k + 1) = ps[j].log.take (k + 1) := by
 obtain ⟨g, h⟩ := h
 exact same_take (h.mb i hi).pf (h.mb j hj).pf h1 h2 e
theorem Al.begin (h : Inv n T G ps [] (fun _ => 0) (fun _ _ => 0)) (h1 : ∀ i (h : i < ps.length), ps[i].log = [] ∧ ps[i].role = 0 ∧ ps[i].commit = 0) : Al (fun _ => 0) n T G ps [] [] := by
 refine ⟨⟨fun _ _ => 0, fun _ _ => [], fun _ => [], fun _ _ => 0⟩, h, ⟨fun _ _ => Nat.le_refl _, fun t => ⟨List.Pairwise.nil, fun x hx => (by cases hx)⟩, fun t j hj => (by simp at hj), fun u hu => absurd rfl hu⟩, fun i hi => ?_, fun m hm => (by cases hm), fun m hm => (by cases hm), fun y u hv => absurd rfl hv, fun y u hv => absurd rfl hv, fun u hu => absurd rfl hu, fun k hk => (by simp at hk), fun t => Nat.zero_le _⟩
 obtain ⟨e1, e2, e3⟩ := h1 i hi
 refine ⟨fun _ _ => rfl, fun t j _ hj => Or.inl (by simp), ?_, fun hr => by omega, fun hr => by omega, fun hr => by omega, Or.inl e3⟩
 rw [e1]
 intro j hj
 simp at hj
end
end Go.Proofs.YthekbhliokcpcaaGreat
