/- Members and their elections, plain: what a tick, a message of votes and standing down make of a member; at most one leads in a term. What a call may change; maps in memory. -/
import Derived.Test.YthekbhliokcpcaaGreatProg
import Derived.Laws.OwnMore
import Derived.Deep.AppendLies
import Derived.Deep.OwnRows
import Derived.WalkLawsBesides
import Derived.WalkSpells
import Derived.Laws.IdiomStrings
import Derived.BigQuiet
import Derived.RangeFuncBox
import Derived.Maps.OwnSet
import Derived.Maps.RangeWalk
import Derived.WideKeyEntry
import Derived.DeepKeys5
import Derived.ArgAppend
import Derived.Deep.Upon
import Derived.WalkKit
import Derived.Deep.QuietTactic
namespace Go.Proofs.YthekbhliokcpcaaGreat
structure PE where
 t : Int
 k : Int
 d : ByteArray
def noop (t : Int) : PE := ⟨t, 1, ⟨#[]⟩⟩
structure PP where
 id : Int
 term : Int
 vote : Int
 role : Int
 lead : Int
 idle : Int
 wait : Int
 log : List PE
 votes : List Int
 fol : List (Int × Int × Int)
 commit : Nat
structure PM where
 kind : Int
 frm : Int
 to : Int
 term : Int
 index : Int
 lterm : Int
 ok : Bool
def mem (n : Nat) : List Int := (List.range n).map fun (i : Nat) => (i : Int) + 1
theorem mem_len (n : Nat) : (mem n).length = n := by simp [mem]
theorem mem_iff {n : Nat} {x : Int} : x ∈ mem n ↔ 1 ≤ x ∧ x ≤ n := by
 unfold mem
 rw [List.mem_map]
 constructor
 ·rintro ⟨i, hi, rfl⟩
  have := List.mem_range.1 hi
  omega
 ·rintro ⟨h1, h2⟩
  exact ⟨(x - 1).toNat, List.mem_range.2 (by omega), by omega⟩
def Ris (l : List Int) : Prop := l.Pairwise (· < ·)
theorem pw_to {α : Type} {R S : α → α → Prop} {l : List α} (h : l.Pairwise R) (hRS : ∀ {a b}, R a b → S a b) : l.Pairwise S := by
 induction l with
 | nil => simp
 | cons x t ih =>
  rw [List.pairwise_cons] at h ⊢
  exact ⟨fun y hy => hRS (h.1 y hy), ih h.2⟩
theorem mem_ris (n : Nat) : Ris (mem n) := by
 unfold Ris mem
 rw [List.pairwise_map]
 exact pw_to List.pairwise_lt_range (fun h => by omega)
theorem Ris.nodup {l : List Int} (h : Ris l) : l.Nodup := pw_to h (fun h => by omega)
def oth (n : Nat) (i : Int) : List Int := (mem n).filter fun x => !(x == i)
theorem oth_mem {n : Nat} {i x : Int} : x ∈ oth n i ↔ (1 ≤ x ∧ x ≤ n) ∧ x ≠ i := by
 unfold oth
 rw [List.mem_filter, mem_iff]
 simp
def PP.lastI (s : PP) : Int := s.log.length
def PP.lastT (s : PP) : Int := match s.log.getLast? with | some e => e.t | none => 0
def Lg (t : Int) (l : List PE) : Prop := l.Pairwise (fun a b => a.t ≤ b.t) ∧ ∀ x ∈ l, (1 ≤ x.t ∧ x.t ≤ t) ∧ (x.k = 0 ∨ (x.k = 1 ∧ x.d = ⟨#[]⟩))
theorem Lg.mono {t t' : Int} {l : List PE} (h : Lg t l) (ht : t ≤ t') : Lg t' l := ⟨h.1, fun x hx => ⟨⟨(h.2 x hx).1.1, Int.le_trans (h.2 x hx).1.2 ht⟩, (h.2 x hx).2⟩⟩
theorem Lg.snoc {t : Int} {l : List PE} (h : Lg t l) {e : PE} (he : e.t = t) (hk : e.k = 0 ∨ (e.k = 1 ∧ e.d = ⟨#[]⟩)) (ht : 1 ≤ t) : Lg t (l ++ [e]) := by
 refine ⟨?_, ?_⟩
 ·rw [List.pairwise_append]
  exact ⟨h.1, by simp, fun a ha b hb => by simp at hb; subst hb; rw [he]; exact (h.2 a ha).1.2⟩
 ·intro x hx
  rcases List.mem_append.1 hx with hx | hx
  ·exact h.2 x hx
  ·rw [List.mem_singleton.1 hx]; exact ⟨by omega, hk⟩
structure Ok (n T G : Nat) (s : PP) : Prop where
 id1 : 1 ≤ s.id
 idn : s.id ≤ n
 t0 : 0 ≤ s.term
 tT : s.term ≤ T
 vote : 0 ≤ s.vote ∧ s.vote ≤ n
 lead : 0 ≤ s.lead ∧ s.lead ≤ n
 wait : 1 ≤ s.wait ∧ s.wait ≤ 1000
 idle : 0 ≤ s.idle ∧ s.idle ≤ 1000
 log : Lg s.term s.log
 glen : s.log.length ≤ G
 com : s.commit ≤ s.log.length
 vr : Ris s.votes
 vm : ∀ x ∈ s.votes, 1 ≤ x ∧ x ≤ n
 role : (s.role = 0 ∧ s.votes = [] ∧ s.fol = []) ∨ (s.role = 1 ∧ s.lead = 0 ∧ s.vote = s.id ∧ s.id ∈ s.votes ∧ s.fol = []) ∨ (s.role = 2 ∧ s.lead = s.id ∧ 1 ≤ s.term ∧ s.votes = [] ∧ s.vote ≠ 0 ∧ s.fol.map (·.1) = oth n s.id ∧ ∀ f ∈ s.fol, 1 ≤ f.2.1 ∧ f.2.1 ≤ s.log.length + 1 ∧ f.2.2 < f.2.1 ∧ 0 ≤ f.2.2)
theorem Ok.k2 {n T G : Nat} {s : PP} (h : Ok n T G s) : ∀ e ∈ s.log, e.k ≠ 2 := fun e he => by
 rcases (h.log.2 e he).2 with h' | h'
 ·omega
 ·omega
def pnew (id wait : Int) : PP := ⟨id, 0, 0, 0, 0, 0, wait, [], [], [], 0⟩
def PP.down (s : PP) (t : Int) : PP := { s with role := 0, votes := [], fol := [], lead := if s.term < t then 0 else if s.role = 2 then 0 else s.lead, term := if s.term < t then t else s.term, vote := if s.term < t then 0 else s.vote }
def maj (n : Nat) (l : List Int) : Bool := decide (n / 2 < l.length)
def PP.win (n : Nat) (s : PP) : PP := { s with role := 2, lead := s.id, votes := [], idle := 2, log := s.log ++ [noop s.term], fol := (oth n s.id).map fun i => (i, (s.log.length : Int) + 1, 0) }
def PP.winIf (n : Nat) (s : PP) : PP := if maj n s.votes then s.win n else s
def PP.cand (s : PP) (draw : Int) : PP := { s with term := s.term + 1, role := 1, lead := 0, vote := s.id, votes := [s.id], idle := 0, wait := 10 + draw % 10 }
def PP.asks (n : Nat) (s : PP) : List PM := (oth n s.id).map fun i => ⟨1, s.id, i, s.term, s.lastI, s.lastT, false⟩
def PP.tick (n : Nat) (s : PP) (draw : Int) : PP × List PM :=
 if s.role = 2 then (s, []) else if s.idle + 1 < s.wait then ({ s with idle := s.idle + 1 }, []) else (((s.cand draw).winIf n), (s.cand draw).asks n)
def PP.grants (s : PP) (m : PM) : Bool := (decide (s.lastT < m.lterm) || (m.lterm == s.lastT && decide (s.lastI ≤ m.index))) && (m.term == s.term) && (s.role == 0) && (s.vote == 0 || s.vote == m.frm)
def wth (l : List Int) (x : Int) : List Int := if x ∈ l then l else l.filter (fun y => decide (y < x)) ++ x :: l.filter (fun y => decide (x < y))
def PP.take1 (n : Nat) (s : PP) (m : PM) : PP × List PM :=
 if m.kind = 1 then
  if s.grants m then ({ s with vote := m.frm, idle := 0 }, [⟨2, s.id, m.frm, s.term, 0, 0, true⟩])
  else (s, [⟨2, s.id, m.frm, s.term, 0, 0, false⟩])
 else if m.term = s.term ∧ s.role = 1 ∧ m.ok = true then ({ s with votes := wth s.votes m.frm }.winIf n, [])
 else (s, [])
def PP.take (n : Nat) (s : PP) (m : PM) : PP × List PM := (if s.term < m.term then s.down m.term else s).take1 n m
structure MOk (n T G : Nat) (m : PM) : Prop where
 kind : m.kind = 1 ∨ m.kind = 2
 f : 1 ≤ m.frm ∧ m.frm ≤ n
 t : 1 ≤ m.to ∧ m.to ≤ n
 ne : m.frm ≠ m.to
 term : 1 ≤ m.term ∧ m.term ≤ T
 index : 0 ≤ m.index ∧ m.index ≤ G
 lterm : 0 ≤ m.lterm ∧ m.lterm ≤ m.term
 zero : m.index = 0 ↔ m.lterm = 0
 ask : m.kind = 1 → m.ok = false
 told : m.kind = 2 → m.index = 0 ∧ m.lterm = 0
theorem ris_le : ∀ (n : Nat) (l : List Int), l.Nodup → (∀ x ∈ l, 1 ≤ x ∧ x ≤ n) → l.length ≤ n
 | 0, l, _, h => by
  cases l with
  | nil => simp
  | cons x l => have := h x (by simp); omega
 | n + 1, l, hd, h => by
  have h1 : (l.filter fun x => !(x == ((n : Int) + 1))).length ≤ n := ris_le n _ (hd.filter _) (fun x hx => by
   rw [List.mem_filter] at hx
   have := h x hx.1
   have h2 : x ≠ (n : Int) + 1 := by simpa using hx.2
   omega)
  have h2 : l.length ≤ (l.filter fun x => !(x == ((n : Int) + 1))).length + 1 := by
   clear h1 h
   induction l with
   | nil => simp
   | cons x l ih =>
    rw [List.nodup_cons] at hd
    by_cases e : x = (n : Int) + 1
    ·have h3 : l.filter (fun x => !(x == ((n : Int) + 1))) = l := by
      rw [List.filter_eq_self]
      intro y hy
      have : y ≠ x := fun e => hd.1 (e ▸ hy)
      simp; omega
     rw [List.filter_cons_of_neg (by simp [e]), h3]
     simp
    ·rw [List.filter_cons_of_pos (by simp [e])]
     have := ih hd.2
     simp only [List.length_cons]
     omega
  omega
theorem two {n : Nat} {l k : List Int} (hl : Ris l) (hk : Ris k) (ml : maj n l = true) (mk : maj n k = true) (bl : ∀ x ∈ l, 1 ≤ x ∧ x ≤ n) (bk : ∀ x ∈ k, 1 ≤ x ∧ x ≤ n) : ∃ x, x ∈ l ∧ x ∈ k := by
 refine Classical.byContradiction fun hn => ?_
 have hd : (l ++ k).Nodup := by
  rw [List.nodup_append]
  exact ⟨hl.nodup, hk.nodup, fun a ha b hb e => hn ⟨a, ha, e ▸ hb⟩⟩
 have := ris_le n (l ++ k) hd (fun x hx => (List.mem_append.1 hx).elim (bl x) (bk x))
 rw [List.length_append] at this
 have h1 := of_decide_eq_true ml
 have h2 := of_decide_eq_true mk
 omega
def Won (n : Nat) (V : Int → Int → Int) (t c : Int) : Prop := ∃ l, Ris l ∧ maj n l = true ∧ (∀ x ∈ l, 1 ≤ x ∧ x ≤ n) ∧ ∀ x ∈ l, V x t = c
theorem Won.one {n : Nat} {V : Int → Int → Int} {t c d : Int} (h : Won n V t c) (k : Won n V t d) : c = d := by
 obtain ⟨l, a1, a2, a3, a4⟩ := h
 obtain ⟨m, b1, b2, b3, b4⟩ := k
 obtain ⟨x, hx, hy⟩ := two a1 b1 a2 b2 a3 b3
 rw [← a4 x hx, ← b4 x hy]
structure Inv (n T G : Nat) (ps : List PP) (way : List PM) (ld : Int → Int) (V : Int → Int → Int) : Prop where
 len : ps.length = n
 ok : ∀ i (h : i < ps.length), Ok n T G ps[i] ∧ ps[i].id = (i : Int) + 1
 msg : ∀ m ∈ way, MOk n T G m
 cur : ∀ i (h : i < ps.length), V ((i : Int) + 1) ps[i].term = ps[i].vote
 fut : ∀ i (h : i < ps.length) t, ps[i].term < t → V ((i : Int) + 1) t = 0
 told : ∀ m ∈ way, m.kind = 2 → m.ok = true → V m.frm m.term = m.to
 cnd : ∀ i (h : i < ps.length), ps[i].role = 1 → ∀ x ∈ ps[i].votes, V x ps[i].term = (i : Int) + 1
 led : ∀ i (h : i < ps.length), ps[i].role = 2 → Won n V ps[i].term ((i : Int) + 1)
 lds : ∀ t, ld t ≠ 0 → Won n V t (ld t)
structure Nxt (n T G : Nat) (V : Int → Int → Int) (s s' : PP) (out : List PM) : Prop where
 ok : Ok n T G s'
 id : s'.id = s.id
 up : s.term ≤ s'.term
 keep : s'.term = s.term → s.vote ≠ 0 → s'.vote = s.vote
 snt : ∀ m ∈ out, MOk n T G m
 told : ∀ m ∈ out, m.kind = 2 → m.ok = true → m.frm = s.id ∧ m.term = s'.term ∧ m.to = s'.vote
 cnd : s'.role = 1 → ∀ x ∈ s'.votes, (x = s.id ∧ s'.vote = s.id) ∨ V x s'.term = s.id
 led : s'.role = 2 → ∃ l, Ris l ∧ maj n l = true ∧ (∀ x ∈ l, 1 ≤ x ∧ x ≤ n) ∧ ∀ x ∈ l, (x = s.id ∧ s'.vote = s.id) ∨ V x s'.term = s.id
theorem Ok.mono {n T G T' G' : Nat} {s : PP} (h : Ok n T G s) (hT : T ≤ T') (hG : G ≤ G') : Ok n T' G' s := { h with tT := by have := h.tT; omega, glen := by have := h.glen; omega }
theorem MOk.mono {n T G T' G' : Nat} {m : PM} (h : MOk n T G m) (hT : T ≤ T') (hG : G ≤ G') : MOk n T' G' m := { h with term := by have := h.term; omega, index := by have := h.index; omega }
def ghost (V : Int → Int → Int) (s s' : PP) : Int → Int → Int := fun v t => if v = s.id ∧ t = s'.term then s'.vote else V v t
theorem Inv.up {n T G T' G' : Nat} {ps : List PP} {way : List PM} {ld : Int → Int} {V : Int → Int → Int} {i : Nat} (hi : i < ps.length) (h : Inv n T G ps way ld V) {s' : PP} {out : List PM} (k : Nxt n T' G' V ps[i] s' out) (v t c : Int) (hc : V v t = c) (h0 : c ≠ 0) : ghost V ps[i] s' v t = c := by
 unfold ghost
 split
 ·rename_i hv
  obtain ⟨rfl, rfl⟩ := hv
  have hid := (h.ok i hi).2
  rw [hid] at hc
  by_cases e : s'.term = ps[i].term
  ·rw [e, h.cur i hi] at hc
   rw [k.keep e (by rw [hc]; exact h0), hc]
  ·have := h.fut i hi s'.term (by have := k.up; omega)
   omega
 ·exact hc
theorem Inv.step {n T G T' G' : Nat} {ps : List PP} {way way' : List PM} {ld : Int → Int} {V : Int → Int → Int} {i : Nat} (hi : i < ps.length) (h : Inv n T G ps way ld V) {s' : PP} {out : List PM} (k : Nxt n T' G' V ps[i] s' out) (hT : T ≤ T') (hG : G ≤ G') (hw : ∀ m ∈ way', m ∈ way ∨ m ∈ out) : Inv n T' G' (ps.set i s') way' ld (ghost V ps[i] s') := by
 have hup := h.up hi k
 have hid := (h.ok i hi).2
 have hself : ghost V ps[i] s' ps[i].id s'.term = s'.vote := by unfold ghost; rw [if_pos ⟨rfl, rfl⟩]
 have hget : ∀ j (hj : j < (ps.set i s').length), (j = i ∧ (ps.set i s')[j] = s') ∨ (j ≠ i ∧ ∃ hj' : j < ps.length, (ps.set i s')[j] = ps[j]) := fun j hj => by
  by_cases e : j = i
  ·subst e; exact Or.inl ⟨rfl, by simp⟩
  ·exact Or.inr ⟨e, by simpa using hj, by rw [List.getElem_set_ne (by omega)]⟩
 have hoth : ∀ j (hj : j < ps.length), j ≠ i → ∀ t, ghost V ps[i] s' ((j : Int) + 1) t = V ((j : Int) + 1) t := fun j hj e t => by
  unfold ghost; rw [if_neg (by rw [hid]; omega)]
 have hwon : ∀ {t c}, c ≠ 0 → Won n V t c → Won n (ghost V ps[i] s') t c := fun {t c} h0 ⟨l, a1, a2, a3, a4⟩ => ⟨l, a1, a2, a3, fun x hx => hup x t c (a4 x hx) h0⟩
 have hid1 := k.ok.id1
 rw [k.id] at hid1
 have hmix : ∀ x, ((x = ps[i].id ∧ s'.vote = ps[i].id) ∨ V x s'.term = ps[i].id) → ghost V ps[i] s' x s'.term = ps[i].id := fun x hx => by
  rcases hx with ⟨rfl, e⟩ | e
  ·rw [hself, e]
  ·exact hup _ _ _ e (by omega)
 refine ⟨by rw [List.length_set]; exact h.len, fun j hj => ?_, fun m hm => ?_, fun j hj => ?_, fun j hj t ht => ?_, fun m hm hk ho => ?_, fun j hj hr x hx => ?_, fun j hj hr => ?_, fun t ht => hwon ht (h.lds t ht)⟩
 ·rcases hget j hj with ⟨rfl, e⟩ | ⟨hne, hj', e⟩
  ·rw [e]; exact ⟨k.ok, by rw [k.id, hid]⟩
  ·rw [e]; exact ⟨(h.ok j hj').1.mono hT hG, (h.ok j hj').2⟩
 ·rcases hw m hm with hm | hm
  ·exact (h.msg m hm).mono hT hG
  ·exact k.snt m hm
 ·rcases hget j hj with ⟨rfl, e⟩ | ⟨hne, hj', e⟩
  ·rw [e, ← hid]; exact hself
  ·rw [e, hoth j hj' hne]; exact h.cur j hj'
 ·rcases hget j hj with ⟨rfl, e⟩ | ⟨hne, hj', e⟩
  ·rw [e] at ht
   unfold ghost
   rw [if_neg (by omega)]
   exact h.fut j hi t (by have := k.up; omega)
  ·rw [e] at ht
   rw [hoth j hj' hne]; exact h.fut j hj' t ht
 ·rcases hw m hm with hm | hm
  ·have h1 := h.told m hm hk ho
   have := (h.msg m hm).t
   exact hup _ _ _ h1 (by omega)
  ·obtain ⟨e1, e2, e3⟩ := k.told m hm hk ho
   rw [e1, e2, e3]; exact hself
 ·rcases hget j hj with ⟨rfl, e⟩ | ⟨hne, hj', e⟩
  ·simp only [e] at hr hx ⊢
   rw [← hid]
   exact hmix x (k.cnd hr x hx)
  ·simp only [e] at hr hx ⊢
   exact hup _ _ _ (h.cnd j hj' hr x hx) (by omega)
 ·rcases hget j hj with ⟨rfl, e⟩ | ⟨hne, hj', e⟩
  ·simp only [e] at hr ⊢
   obtain ⟨l, a1, a2, a3, a4⟩ := k.led hr
   exact ⟨l, a1, a2, a3, fun x hx => by rw [← hid]; exact hmix x (a4 x hx)⟩
  ·simp only [e] at hr ⊢
   exact hwon (by omega) (h.led j hj' hr)
theorem Inv.lose {n T G : Nat} {ps : List PP} {way way' : List PM} {ld : Int → Int} {V : Int → Int → Int} (h : Inv n T G ps way ld V) (hw : ∀ m ∈ way', m ∈ way) : Inv n T G ps way' ld V := { h with msg := fun m hm => h.msg m (hw m hm), told := fun m hm => h.told m (hw m hm) }
theorem Inv.mono {n T G T' G' : Nat} {ps : List PP} {way : List PM} {ld : Int → Int} {V : Int → Int → Int} (h : Inv n T G ps way ld V) (hT : T ≤ T') (hG : G ≤ G') : Inv n T' G' ps way ld V := { h with ok := fun i hi => ⟨(h.ok i hi).1.mono hT hG, (h.ok i hi).2⟩, msg := fun m hm => (h.msg m hm).mono hT hG }
theorem Inv.note {n T G : Nat} {ps : List PP} {way : List PM} {ld : Int → Int} {V : Int → Int → Int} {i : Nat} (hi : i < ps.length) (h : Inv n T G ps way ld V) (hr : ps[i].role = 2) : (ld ps[i].term = 0 ∨ ld ps[i].term = ps[i].id) ∧ Inv n T G ps way (fun t => if t = ps[i].term then ps[i].id else ld t) V := by
 have hw := h.led i hi hr
 have hid := (h.ok i hi).2
 refine ⟨?_, { h with lds := fun t ht => ?_ }⟩
 ·by_cases e : ld ps[i].term = 0
  ·exact Or.inl e
  ·exact Or.inr (by rw [hid]; exact (h.lds _ e).one hw)
 ·split
  ·rename_i e
   rw [e, hid]; exact hw
  ·rename_i e
   have ht' : (if t = ps[i].term then ps[i].id else ld t) ≠ 0 := ht
   rw [if_neg e] at ht'
   exact h.lds t ht'
theorem wth_mem {l : List Int} {x y : Int} : y ∈ wth l x ↔ y = x ∨ y ∈ l := by
 unfold wth
 split
 ·rename_i h
  exact ⟨Or.inr, fun h' => h'.elim (fun e => e ▸ h) id⟩
 ·rename_i h
  simp only [List.mem_append, List.mem_cons, List.mem_filter, decide_eq_true_eq]
  constructor
  ·rintro (h' | h' | h')
   ·exact Or.inr h'.1
   ·exact Or.inl h'
   ·exact Or.inr h'.1
  ·rintro (rfl | h')
   ·exact Or.inr (Or.inl rfl)
   ·have : y ≠ x := fun e => h (e ▸ h')
    rcases Int.lt_or_gt_of_ne this with g | g
    ·exact Or.inl ⟨h', g⟩
    ·exact Or.inr (Or.inr ⟨h', g⟩)
theorem wth_ris {l : List Int} (h : Ris l) (x : Int) : Ris (wth l x) := by
 unfold wth
 split
 ·exact h
 ·unfold Ris
  rw [List.pairwise_append, List.pairwise_cons]
  refine ⟨h.filter _, ⟨fun a ha => ?_, h.filter _⟩, fun a ha b hb => ?_⟩
  ·exact of_decide_eq_true (List.mem_filter.1 ha).2
  ·have h1 := of_decide_eq_true (List.mem_filter.1 ha).2
   rcases List.mem_cons.1 hb with rfl | hb
   ·exact h1
   ·have h2 := of_decide_eq_true (List.mem_filter.1 hb).2
    omega
section
variable {n T G : Nat} {V : Int → Int → Int} {s : PP}
theorem down_nxt (h : Ok n T G s) {t : Int} (ht : t ≤ s.term ∨ t ≤ T) : Nxt n T G V s (s.down t) [] := by
 have h1 := h.id1
 have h2 := h.t0
 have h3 := h.tT
 refine ⟨⟨h.id1, h.idn, ?_, ?_, ?_, ?_, h.wait, h.idle, h.log.mono ?_, h.glen, h.com, List.Pairwise.nil, fun x hx => (by cases hx), Or.inl ⟨rfl, rfl, rfl⟩⟩, rfl, ?_, ?_, fun m hm => (by cases hm), fun m hm => (by cases hm), fun hr => (by cases hr), fun hr => (by cases hr)⟩
 all_goals simp only [PP.down]
 ·split <;> omega
 ·split <;> omega
 ·have := h.vote
  split <;> omega
 ·have := h.lead
  split
  ·omega
  ·split <;> omega
 ·split <;> omega
 ·split <;> omega
 ·intro e _
  split
  ·rename_i hlt
   rw [if_pos hlt] at e
   omega
  ·rfl
theorem win_nxt (hid : 1 ≤ s.id) {s' : PP} (h : Ok n T G s') (hr : s'.role = 1) (h1 : 1 ≤ s'.term) (e : s'.id = s.id) (hu : s.term ≤ s'.term) (hk : s'.term = s.term → s.vote ≠ 0 → s'.vote = s.vote) {out : List PM} (ho : ∀ m ∈ out, MOk n T (G + 1) m) (hn : ∀ m ∈ out, m.kind = 1) (hc : ∀ x ∈ s'.votes, (x = s.id ∧ s'.vote = s.id) ∨ V x s'.term = s.id) : Nxt n T (G + 1) V s (s'.winIf n) out := by
 obtain ⟨hl, hv, hm, hf⟩ : s'.lead = 0 ∧ s'.vote = s'.id ∧ s'.id ∈ s'.votes ∧ s'.fol = [] := by
  rcases h.role with ⟨e, _⟩ | ⟨_, h'⟩ | ⟨e, _⟩
  ·omega
  ·exact h'
  ·omega
 unfold PP.winIf
 split
 ·rename_i hmaj
  refine ⟨⟨h.id1, h.idn, h.t0, h.tT, h.vote, ?_, h.wait, ?_, h.log.snoc rfl (Or.inr ⟨rfl, rfl⟩) h1, ?_, ?_, List.Pairwise.nil, fun x hx => (by cases hx), Or.inr (Or.inr ⟨rfl, rfl, h1, rfl, ?_, ?_, ?_⟩)⟩, e, hu, hk, ho, fun m hm k => ?_, fun hr => ?_, fun _ => ⟨s'.votes, h.vr, hmaj, h.vm, hc⟩⟩
  ·have := h.id1; have := h.idn; show 0 ≤ s'.id ∧ s'.id ≤ n; omega
  ·show (0 : Int) ≤ 2 ∧ (2 : Int) ≤ 1000; omega
  ·show (s'.log ++ [noop s'.term]).length ≤ G + 1
   have := h.glen
   simp; omega
  ·show s'.commit ≤ (s'.log ++ [noop s'.term]).length
   have := h.com
   simp; omega
  ·show s'.vote ≠ 0
   have := h.id1; omega
  ·show ((oth n s'.id).map fun i => (i, (s'.log.length : Int) + 1, (0 : Int))).map (·.1) = oth n s'.id
   rw [List.map_map]
   exact List.map_id _
  ·intro f hf
   have hf' : f ∈ (oth n s'.id).map fun i => (i, (s'.log.length : Int) + 1, (0 : Int)) := hf
   obtain ⟨i, _, rfl⟩ := List.mem_map.1 hf'
   show 1 ≤ (s'.log.length : Int) + 1 ∧ (s'.log.length : Int) + 1 ≤ ((s'.log ++ [noop s'.term]).length : Int) + 1 ∧ (0 : Int) < (s'.log.length : Int) + 1 ∧ (0 : Int) ≤ 0
   simp; omega
  ·have := hn m hm; omega
  ·have : (2 : Int) = 1 := hr
   omega
 ·exact ⟨h.mono (Nat.le_refl _) (Nat.le_succ _), e, hu, hk, ho, fun m hm k => by have := hn m hm; omega, fun _ => hc, fun hr' => by omega⟩
theorem lastT_le {t : Int} {l : List PE} (h : Lg t l) (h0 : 0 ≤ t) : 0 ≤ (match l.getLast? with | some e => e.t | none => 0) ∧ (match l.getLast? with | some e => e.t | none => 0) ≤ t := by
 cases e : l.getLast? with
 | none => exact ⟨Int.le_refl _, h0⟩
 | some x =>
  have := (h.2 x (List.mem_of_getLast? e)).1
  exact ⟨by dsimp only; omega, this.2⟩
theorem lastT_zero {t : Int} {l : List PE} (h : Lg t l) : (l.length : Int) = 0 ↔ (match l.getLast? with | some e => e.t | none => 0) = 0 := by
 cases e : l.getLast? with
 | none =>
  rw [List.getLast?_eq_none_iff] at e
  simp [e]
 | some x =>
  have := (h.2 x (List.mem_of_getLast? e)).1
  have hl : l.length ≠ 0 := fun h0 => by rw [List.eq_nil_of_length_eq_zero h0] at e; simp at e
  constructor
  ·intro h'; omega
  ·intro h'; dsimp only at h'; omega
theorem asks_ok (h : Ok n T G s) (h1 : 1 ≤ s.term) : ∀ m ∈ s.asks n, MOk n T G m ∧ m.kind = 1 := by
 intro m hm
 obtain ⟨i, hi, rfl⟩ := List.mem_map.1 hm
 have hi' := oth_mem.1 hi
 have g1 := h.id1
 have g2 := h.idn
 have g3 := h.tT
 have g4 := h.glen
 have g5 := lastT_le h.log h.t0
 exact ⟨⟨Or.inl rfl, ⟨g1, g2⟩, hi'.1, fun e => hi'.2 e.symm, ⟨h1, g3⟩, ⟨by show 0 ≤ (s.log.length : Int); omega, by show (s.log.length : Int) ≤ G; omega⟩, g5, lastT_zero h.log, fun _ => rfl, fun e => by simp at e⟩, rfl⟩
theorem cand_ok (h : Ok n T G s) (hr : s.role ≠ 2) {draw : Int} : Ok n (T + 1) G (s.cand draw) := by
 have g1 := h.id1
 have g2 := h.idn
 have g3 := h.tT
 have g0 := h.t0
 refine ⟨g1, g2, ?_, ?_, ?_, ?_, ?_, ?_, h.log.mono ?_, h.glen, h.com, ?_, ?_, Or.inr (Or.inl ⟨rfl, rfl, rfl, by simp [PP.cand], ?_⟩)⟩
 ·show 0 ≤ s.term + 1; omega
 ·show s.term + 1 ≤ ((T + 1 : Nat) : Int); omega
 ·show 0 ≤ s.id ∧ s.id ≤ n; omega
 ·show (0 : Int) ≤ 0 ∧ (0 : Int) ≤ n; omega
 ·show 1 ≤ 10 + draw % 10 ∧ 10 + draw % 10 ≤ 1000; omega
 ·show (0 : Int) ≤ 0 ∧ (0 : Int) ≤ 1000; omega
 ·show s.term ≤ s.term + 1; omega
 ·exact List.pairwise_singleton _ _
 ·intro x hx
  have : x ∈ [s.id] := hx
  simp at this; omega
 ·show s.fol = []
  rcases h.role with h' | h' | h'
  ·exact h'.2.2
  ·exact h'.2.2.2.2
  ·exact absurd h'.1 hr
theorem take_nxt (h : Ok n T G s) {m : PM} (hm : MOk n T G m) (hto : m.to = s.id) (hl : s.role = 2 → Won n V s.term s.id) (hc : s.role = 1 → ∀ x ∈ s.votes, V x s.term = s.id) (ht : m.kind = 2 → m.ok = true → V m.frm m.term = s.id) : Nxt n T (G + 1) V s (s.take n m).1 (s.take n m).2 := by
 have hT := hm.term
 have hF := hm.f
 have h0 := h.t0
 have hi := h.id1
 -- whoever takes it has the message's term at least
 obtain ⟨u, hu, huo, hue, hut, huk, huv, hul, huc, hub⟩ : ∃ u, u = (if s.term < m.term then s.down m.term else s) ∧ Ok n T G u ∧ u.id = s.id ∧ s.term ≤ u.term ∧ (u.term = s.term → s.vote ≠ 0 → u.vote = s.vote) ∧ (u.term ≠ s.term → u.role = 0) ∧ (u.role = 2 → Won n V u.term s.id) ∧ (u.role = 1 → ∀ x ∈ u.votes, V x u.term = s.id) ∧ m.term ≤ u.term := by
  refine ⟨_, rfl, ?_⟩
  split
  ·rename_i hlt
   have k := down_nxt (V := V) h (t := m.term) (Or.inr hT.2)
   have e : (s.down m.term).term = m.term := if_pos hlt
   exact ⟨k.ok, rfl, k.up, k.keep, fun _ => rfl, fun hr => (by cases hr), fun hr => (by cases hr), by omega⟩
  ·rename_i hlt
   exact ⟨h, rfl, Int.le_refl _, fun _ _ => rfl, fun e => absurd rfl e, hl, hc, by omega⟩
 have hself : Nxt n T (G + 1) V s u [] := ⟨huo.mono (Nat.le_refl _) (Nat.le_succ _), hue, hut, huk, fun m hm => (by cases hm), fun m hm => (by cases hm), fun hr x hx => Or.inr (huc hr x hx), fun hr => (by obtain ⟨l, a1, a2, a3, a4⟩ := hul hr; exact ⟨l, a1, a2, a3, fun x hx => Or.inr (a4 x hx)⟩)⟩
 have htell : ∀ b, MOk n T (G + 1) ⟨2, u.id, m.frm, u.term, 0, 0, b⟩ := fun b => ⟨Or.inr rfl, ⟨by rw [hue]; exact hi, huo.idn⟩, hF, fun e => hm.ne (by rw [hto, ← hue]; exact e.symm), ⟨by dsimp only; omega, huo.tT⟩, ⟨Int.le_refl _, by dsimp only; omega⟩, ⟨Int.le_refl _, by dsimp only; omega⟩, by simp, fun e => by simp at e, fun _ => ⟨rfl, rfl⟩⟩
 unfold PP.take
 rw [← hu]
 unfold PP.take1
 split
 ·split
  ·rename_i hg
   unfold PP.grants at hg
   simp only [Bool.and_eq_true, beq_iff_eq, Bool.or_eq_true] at hg
   obtain ⟨⟨⟨_, g2⟩, g3⟩, g4⟩ := hg
   refine ⟨{ huo.mono (Nat.le_refl T) (Nat.le_succ G) with vote := ⟨by dsimp only; omega, hF.2⟩, idle := ⟨Int.le_refl _, by dsimp only; omega⟩, role := ?_ }, hue, hut, ?_, ?_, ?_, fun hr x hx => Or.inr (huc hr x hx), fun hr => ?_⟩
   ·rcases huo.role with h' | h' | h'
    ·exact Or.inl h'
    ·omega
    ·omega
   ·intro e hv
    have := huk e hv
    rcases g4 with g4 | g4
    ·omega
    ·dsimp only; omega
   ·intro x hx
    rw [List.mem_singleton.1 hx]
    exact htell true
   ·intro x hx _ _
    rw [List.mem_singleton.1 hx]
    exact ⟨hue, rfl, rfl⟩
   ·have : u.role = 2 := hr
    omega
  ·refine { hself with snt := ?_, told := ?_ }
   ·intro x hx
    rw [List.mem_singleton.1 hx]
    exact htell false
   ·intro x hx _ ho
    rw [List.mem_singleton.1 hx] at ho
    cases ho
 ·rename_i hk
  have hk2 : m.kind = 2 := hm.kind.resolve_left hk
  split
  ·rename_i hg
   obtain ⟨g1, g2, g3⟩ := hg
   have hr2 := huo.role
   obtain ⟨hul', huv', hum', huf'⟩ : u.lead = 0 ∧ u.vote = u.id ∧ u.id ∈ u.votes ∧ u.fol = [] := by
    rcases huo.role with ⟨e, _⟩ | ⟨_, h'⟩ | ⟨e, _⟩
    ·omega
    ·exact h'
    ·omega
   refine win_nxt hi (s' := { u with votes := wth u.votes m.frm }) { huo with vr := wth_ris huo.vr _, vm := fun x hx => ?_, role := Or.inr (Or.inl ⟨g2, hul', huv', wth_mem.2 (Or.inr hum'), huf'⟩) } g2 (by dsimp only; omega) hue hut huk (fun m hm => (by cases hm)) (fun m hm => (by cases hm)) (fun x hx => Or.inr ?_)
   ·rcases wth_mem.1 hx with rfl | hx
    ·exact hF
    ·exact huo.vm x hx
   ·rcases wth_mem.1 hx with rfl | hx
    ·have := ht hk2 g3
     rw [g1] at this
     exact this
    ·exact huc g2 x hx
  ·exact hself
end
end Go.Proofs.YthekbhliokcpcaaGreat
namespace Go.Proofs.YthekbhliokcpcaaGreat
open Go.RowKit Go.Maps
theorem aI {a b : Prop} (h : a) (k : b) : a ∧ b := ⟨h, k⟩
abbrev u31 := Tryz.underlying31
theorem jd {p : Prop} (h : p) : Hid p := h
theorem ju {p : Prop} (h : Hid p) : p := h
theorem wrapI {n : Int} (h0 : -9223372036854775808 ≤ n) (h1 : n < 9223372036854775808) : IntKind.i64.wrap n = n := by
 rw [IntKind.wrap_i64]
 omega
def Bel (w w' : World) : Prop := Below w.heap.size w w'
theorem Bel.refl (w : World) : Bel w w := Below.refl _ _
theorem Bel.trans {a b c : World} (h : Bel a b) (k : Bel b c) : Bel a c := Below.trans h (Below.mono k h.size)
theorem Bel.drew {a b : World} (h : Bel a b) : Bel a b.drew := Below.drew h
theorem Bel.drewN {a b : World} (h : Bel a b) (n : Nat) : Bel a (b.drewN n) := ⟨h.os, h.tape, h.output, h.size, h.block⟩
theorem Bel.alloc {a b : World} (h : Bel a b) (o : Obj) : Bel a (b.alloc o) := Below.alloc h h.size o
theorem lt_of_some {w : World} {k : Nat} {o : Obj} (h : w.heap[k]? = some o) : k < w.heap.size := (Array.getElem?_eq_some_iff.1 h).1
theorem Bel.row {a b : World} (h : Bel a b) {k : Nat} {o : Obj} (hr : a.heap[k]? = some o) : b.heap[k]? = some o := (h.block k (lt_of_some hr)).trans hr
structure Ch (M : Nat → Prop) (w w' : World) : Prop where
 os : w'.os = w.os
 tape : w'.tape = w.tape
 output : w'.output = w.output
 size : w.heap.size ≤ w'.heap.size
 block : ∀ k, k < w.heap.size → ¬ M k → w'.heap[k]? = w.heap[k]?
theorem Ch.refl (M : Nat → Prop) (w : World) : Ch M w w := ⟨rfl, rfl, rfl, Nat.le_refl _, fun _ _ _ => rfl⟩
theorem Ch.trans {M M' : Nat → Prop} {a b c : World} (h : Ch M a b) (k : Ch M' b c) (hm : ∀ i, M' i → M i ∨ a.heap.size ≤ i) : Ch M a c :=
 ⟨k.os.trans h.os, k.tape.trans h.tape, k.output.trans h.output, Nat.le_trans h.size k.size, fun i hi hn => (k.block i (Nat.lt_of_lt_of_le hi h.size) (fun h' => (hm i h').elim hn (fun h2 => by omega))).trans (h.block i hi hn)⟩
theorem Ch.bel {M : Nat → Prop} {a b c : World} (h : Ch M a b) (k : Bel b c) : Ch M a c :=
 ⟨k.os.trans h.os, k.tape.trans h.tape, k.output.trans h.output, Nat.le_trans h.size k.size, fun i hi hn => (k.block i (Nat.lt_of_lt_of_le hi h.size)).trans (h.block i hi hn)⟩
theorem Bel.ch {a b : World} (k : Bel a b) (M : Nat → Prop) : Ch M a b := (Ch.refl M a).bel k
theorem Ch.set {M : Nat → Prop} {a b : World} (h : Ch M a b) {ad : Addr} (hm : M ad.block ∨ a.heap.size ≤ ad.block) (v : Value) : Ch M a (b.setCell ad v) := by
 refine ⟨?_, ?_, ?_, ?_, fun i hi hn => ?_⟩
 ·rw [← h.os]; unfold World.setCell; split <;> rfl
 ·rw [← h.tape]; unfold World.setCell; split <;> rfl
 ·rw [← h.output]; unfold World.setCell; split <;> rfl
 ·have : (b.setCell ad v).heap.size = b.heap.size := by unfold World.setCell; split <;> simp
  rw [this]; exact h.size
 ·rw [Below.heap_setCell _ _ _ _ (fun e => ?_)]
  ·exact h.block i hi hn
  ·rcases hm with h' | h'
   ·rw [← e] at h'; exact hn h'
   ·omega
theorem Ch.below {M : Nat → Prop} {a b : World} {B : Nat} (h : Ch M a b) (hB : B ≤ a.heap.size) (hm : ∀ i, M i → B ≤ i) : Below B a b :=
 ⟨h.os, h.tape, h.output, h.size, fun i hi => h.block i (by omega) (fun h' => by have := hm i h'; omega)⟩
theorem Ch.row {M : Nat → Prop} {a b : World} (h : Ch M a b) {k : Nat} {o : Obj} (hr : a.heap[k]? = some o) (hn : ¬ M k) : b.heap[k]? = some o := (h.block k (lt_of_some hr) hn).trans hr
theorem cell_of {W : World} {B i : Nat} {c : Array Value} {t : TypeId} (h : W.heap[B]? = some (.cells c t)) : W.cell? ⟨B, i, none⟩ = c[i]? := by
 simp only [World.cell?, h]; rfl
theorem free_row {W : World} {b p : Nat} {c : Array Value} {t : TypeId} (h : W.heap[b]? = some (.cells c t)) : W.frozen? ⟨b, p, none⟩ = false := by
 unfold World.frozen?
 simp only [h]
 simp
theorem row_set {W : World} {b p : Nat} {c : Array Value} {t : TypeId} {fr : Nat × Nat} {v : Value} (h : W.heap[b]? = some (.cells c t fr)) : (W.setCell ⟨b, p, none⟩ v).heap[b]? = some (.cells (c.setIfInBounds p v) t fr) := by
 rw [setCell_eq_setRow W b p c t fr v h]
 exact setRow_heap W b c _ t fr h
theorem at_new (w : World) (o : Obj) : (w.alloc o).heap[w.heap.size]? = some o := World.alloc_heap_new w o
structure BelBy (w : World) where
 W : World
 h : Bel w W
theorem BelBy.some (w : World) : Nonempty (BelBy w) := ⟨⟨w, Bel.refl _⟩⟩
theorem wp_region_bel {P : Program} {id : Nat} {Q : Exit → Act → World → Prop} {a : Act} {w : World} {l : List Oper} (hm : P.follows .mixedOrders = true) (hB : Region.lexB .any l.toArray = true)
  (h : wpQuiet P l.toArray (fun w' => ∃ p : BelBy w, w' = p.W) (fun a' => ∀ w', (∃ p : BelBy w, w' = p.W) → Q .normal a' w') l a) : (Code.region id l.toArray true).wp P Q a w :=
 wp_region_quiet (C := fun w' => ∃ p : BelBy w, w' = p.W) hm hB ⟨⟨w.drew, (Bel.refl _).drew⟩, rfl⟩ (by simpa using h)
theorem calls_by {P : Program} {f : FuncId} {args : Array Value} {w : World} {p : BelBy w} {v : Value}
  (h : Calls P f args p.W fun e w' => e = .returned v ∧ Bel p.W w') : Calls P f args p.W fun e w'' => e = .returned v ∧ ∃ p' : BelBy w, w'' = p'.W :=
 h.mono fun _ w' ⟨he, hb⟩ => ⟨he, ⟨w', p.h.trans hb⟩, rfl⟩
theorem Tryz.follows : Tryz.prog.follows .mixedOrders = true := by kernel_rfl
theorem Ch.grown {M : Nat → Prop} {a b c : World} {row : Option Nat} (h : Ch M a b) (k : b.grownBy c row) (hm : ∀ i, row = some i → M i ∨ a.heap.size ≤ i) : Ch M a c :=
 ⟨k.os.trans h.os, k.tape.trans h.tape, k.output.trans h.output, Nat.le_trans h.size k.size, fun i hi hn => (k.block i (Nat.lt_of_lt_of_le hi h.size) (fun e => (hm i e.symm).elim hn (fun h2 => by omega))).trans (h.block i hi hn)⟩
theorem Ch.turned {M : Nat → Prop} {a b c : World} {k : Nat} (h : Ch M a b) (t : b.mapTurned c k) (hm : M k ∨ a.heap.size ≤ k) : Ch M a c := h.grown t.grown (fun i hi => by cases hi; exact hm)
theorem Bel.cell {w w' : World} (h : Bel w w') {ad : Addr} {v : Value} (hc : w.cell? ad = some v) : w'.cell? ad = some v := (Below.cell h (World.block_lt_of_cell? _ _ hc)).trans hc
theorem Bel.kept {a b : World} (h : Bel a b) : a.keptBut b (fun _ => False) := Below.frame h _
def HV (v : Value) : Option (DataW Value × List MemPlace) := some (.held v, [])
def KeyOK (k : TypeId) (x : Value) : Prop := ∃ l, keyOf Tryz.prog k x = some l
def Mg {α : Type} (k : TypeId) (mk : α → Value) (w : World) (b n : Nat) (f : α → Option Value) : Prop :=
 (∃ D, w.ownsMap Tryz.prog k HV b n D ∧ ∀ x l, keyOf Tryz.prog k (mk x) = some l → Maps.has D l = (f x).isSome ∧ ∀ v, f x = some v → ∀ z, D.atKey l z = .held v) ∧ ∀ x v, f x = some v → KeyOK k (mk x)
theorem own_at {w w' : World} {b n : Nat} {D : DataW Value} {P : Program} {k : TypeId} {R : Value → Option (DataW Value × List MemPlace)} (h : w.ownsMap P k R b n D) (e : w'.heap[b]? = w.heap[b]?) : w'.ownsMap P k R b n D := by
 obtain ⟨es, clock, hb, r⟩ := h
 exact ⟨es, clock, e.trans hb, r⟩
section
variable {α : Type} {k t e : TypeId} {mk : α → Value} {w w' : World} {b n : Nat} {f : α → Option Value} {z : Value} {x : α}
theorem Mg.lt (h : Mg k mk w b n f) : b < w.heap.size := by
 obtain ⟨⟨D, h, _⟩, _⟩ := h
 exact World.ownsMap.lt h
theorem Mg.at (h : Mg k mk w b n f) (e : w'.heap[b]? = w.heap[b]?) : Mg k mk w' b n f := by
 obtain ⟨⟨D, h1, h2⟩, h3⟩ := h
 exact ⟨⟨D, own_at h1 e, h2⟩, h3⟩
theorem Mg.bel (h : Mg k mk w b n f) (c : Bel w w') : Mg k mk w' b n f := h.at (c.block b h.lt)
theorem Mg.isMap (h : Mg k mk w b n f) : ∃ es clock, w.heap[b]? = some (.map es clock) := by
 obtain ⟨⟨D, ⟨es, clock, hb, _⟩, _⟩, _⟩ := h
 exact ⟨es, clock, hb⟩
theorem Mg.ne_row {j : Nat} {c : Array Value} {t : TypeId} {fr : Nat × Nat} (h : Mg k mk w b n f) (hr : w.heap[j]? = some (.cells c t fr)) : b ≠ j := by
 obtain ⟨es, clock, hb⟩ := h.isMap
 intro e
 rw [e, hr] at hb
 cases hb
theorem Mg.new (k : TypeId) (mk : α → Value) (w : World) : Mg k mk (w.alloc (.map #[] 0)) w.heap.size 0 (fun _ => none) :=
 ⟨⟨.map [], World.ownsMap_made _ _ _ _, fun x l _ => ⟨rfl, fun v h => by cases h⟩⟩, fun x v h => by cases h⟩
def upd [DecidableEq α] (f : α → Option Value) (x : α) (v : Option Value) : α → Option Value := fun y => if y = x then v else f y
theorem upd_same [DecidableEq α] (f : α → Option Value) (x : α) (v : Option Value) : upd f x v x = v := if_pos rfl
theorem upd_ne [DecidableEq α] (f : α → Option Value) {x y : α} (v : Option Value) (h : y ≠ x) : upd f x v y = f y := if_neg h
theorem Mg.look (h : Mg k mk w b n f) (K : Keyed Tryz.prog k) (ht : Tryz.prog.underlying t = some (.map k e)) (hz : (zeroValue e).run Tryz.prog w = .ok z w) (hx : KeyOK k (mk x)) : (Instr.lookup t (.map (some b)) (mk x) false).run Tryz.prog w = .ok ((f x).getD z) w := by
 obtain ⟨⟨D, h1, h2⟩, _⟩ := h
 obtain ⟨l, hl⟩ := hx
 obtain ⟨v, ps, hr, hv⟩ := h1.lookup K ht hz (zd := .held z) (zp := []) rfl hl
 obtain ⟨e1, e2⟩ := h2 x l hl
 have hv' : v = (f x).getD z := by
  unfold HV at hv
  simp only [Option.some.injEq, Prod.mk.injEq] at hv
  cases hf : f x with
  | none =>
   rw [hf] at e1
   rw [atKey_of_not_has (by simpa using e1)] at hv
   simpa using hv.1
  | some y =>
   rw [e2 y hf] at hv
   simpa using hv.1
 rw [hr, hv']
variable [DecidableEq α]
theorem upd_key (h : ∀ x v, f x = some v → KeyOK k (mk x)) (hx : KeyOK k (mk x)) (v : Option Value) : ∀ y u, upd f x v y = some u → KeyOK k (mk y) := by
 intro y u hu
 by_cases e : y = x
 ·rw [e]; exact hx
 ·rw [upd_ne f v e] at hu; exact h y u hu
theorem Mg.put_of {D : DataW Value} {m : Nat} {v : Value} (K : Keyed Tryz.prog k) (hmk : ∀ x y, mk x = mk y → x = y) (h2 : ∀ x l, keyOf Tryz.prog k (mk x) = some l → Maps.has D l = (f x).isSome ∧ ∀ v, f x = some v → ∀ z, D.atKey l z = .held v) (h3 : ∀ x v, f x = some v → KeyOK k (mk x)) (hm : IsMap D) {l : Lit} (hl : keyOf Tryz.prog k (mk x) = some l) (h' : w'.ownsMap Tryz.prog k HV b m (D.put l (.held v))) : Mg k mk w' b m (upd f x (some v)) := by
 refine ⟨⟨_, h', fun y ly hy => ?_⟩, upd_key h3 ⟨l, hl⟩ _⟩
 have hk := K.key hl
 by_cases e : y = x
 ·subst e
  rw [hl] at hy
  cases hy
  rw [upd_same]
  exact ⟨has_put_same hm hk _, fun u hu z => by cases hu; exact atKey_put_same hm hk _ _⟩
 ·have hne : ly ≠ l := fun e' => e (hmk _ _ (K.inj hy (by rw [e']; exact hl)))
  rw [upd_ne f _ e]
  refine ⟨(has_put_other hne _).trans (h2 y ly hy).1, fun u hu z => ?_⟩
  rw [atKey_put_other hne]
  exact (h2 y ly hy).2 u hu z
theorem Mg.store (h : Mg k mk w b n f) (K : Keyed Tryz.prog k) (hmk : ∀ x y, mk x = mk y → x = y) (ht : Tryz.prog.underlying t = some (.map k e)) (hn : n ≤ 1000000) (hx : KeyOK k (mk x)) (v : Value) :
  ∃ w', (Instr.mapUpdate t (.map (some b)) (mk x) v).run Tryz.prog w = .ok () w' ∧ Mg k mk w' b (n + 1) (upd f x (some v)) ∧ w.mapTurned w' b := by
 obtain ⟨⟨D, h1, h2⟩, h3⟩ := h
 obtain ⟨l, hl⟩ := hx
 obtain ⟨w', r1, r2, r3⟩ := h1.store K ht (by unfold maxLen; omega) hl (d := .held v) (ps := []) rfl
 exact ⟨w', r1, Mg.put_of K hmk h2 h3 h1.isMap hl r2, r3⟩
end
end Go.Proofs.YthekbhliokcpcaaGreat
