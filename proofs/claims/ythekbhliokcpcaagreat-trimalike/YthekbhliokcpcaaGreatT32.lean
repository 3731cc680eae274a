/- A group some of whose logs were cut off: answers; a leader's snapshot. -/
import Derived.Test.YthekbhliokcpcaaGreatT31
namespace Go.Proofs.YthekbhliokcpcaaGreat
section
variable {ld : Int → Int} {n T G k : Nat} {σ : Nat → ByteArray} {ps : List PP} {way gw : List QM} {dn : List PE} {g : Gh} {i b : Nat} {s u : PP}
theorem theard_out (h : Ok n T G s) (m : QM) : (s.theard m).1.log = s.log ∧ (s.theard m).1.id = s.id ∧ s.commit ≤ (s.theard m).1.commit ∧ ∃ F : List (Int × Int × Int), (s.theard m).2.map (fun _ => match s.fol.find? (fun g => g.1 == m.frm) with | none => (s.hrd 0 true 0).g | some f => sendG n σ (s.theard m).1 b (if m.ok then (f.1, max f.2.2 (min (m.index : Int) s.log.length) + 1, max f.2.2 (min (m.index : Int) s.log.length)) else (f.1, max (f.2.2 + 1) (min (f.2.1 - 1) (m.index + 1)), f.2.2))) = F.map (sendG n σ (s.theard m).1 b) ∧ (F ≠ [] → (s.theard m).1.role = 2) ∧ ∀ f ∈ F, f.1 ∈ oth n s.id ∧ 1 ≤ f.2.1 ∧ f.2.1 ≤ s.log.length + 1 := by
 have nil : ∀ u : PP, s.theard m = (u, []) → u.log = s.log → u.id = s.id → s.commit ≤ u.commit → (s.theard m).1.log = s.log ∧ (s.theard m).1.id = s.id ∧ s.commit ≤ (s.theard m).1.commit ∧ ∃ F : List (Int × Int × Int), (s.theard m).2.map (fun _ => match s.fol.find? (fun g => g.1 == m.frm) with | none => (s.hrd 0 true 0).g | some f => sendG n σ (s.theard m).1 b (if m.ok then (f.1, max f.2.2 (min (m.index : Int) s.log.length) + 1, max f.2.2 (min (m.index : Int) s.log.length)) else (f.1, max (f.2.2 + 1) (min (f.2.1 - 1) (m.index + 1)), f.2.2))) = F.map (sendG n σ (s.theard m).1 b) ∧ (F ≠ [] → (s.theard m).1.role = 2) ∧ ∀ f ∈ F, f.1 ∈ oth n s.id ∧ 1 ≤ f.2.1 ∧ f.2.1 ≤ s.log.length + 1 := by
  intro u e h1 h2 h3
  rw [e]
  exact ⟨h1, h2, h3, [], rfl, fun h => absurd rfl h, fun f hf => by cases hf⟩
 by_cases ht : m.term = s.term
 ·cases hq : s.fol.find? (fun g => g.1 == m.frm) with
  | none =>
   have e : s.theard m = (s, []) := by
    unfold PP.theard
    rw [if_pos ht, hq]
   rw [hq] at nil
   exact nil s e rfl rfl (Nat.le_refl _)
  | some f =>
   have hmem : f ∈ s.fol := List.mem_of_find?_eq_some hq
   have hrole : s.role = 2 := by
    rcases h.role with h' | h' | h'
    ·rw [h'.2.2] at hmem; cases hmem
    ·rw [h'.2.2.2.2] at hmem; cases hmem
    ·exact h'.1
   have hb1 := fol_ok h hrole f hmem
   have hb2 := (fol_all h hrole f hmem).1
   cases hok : m.ok with
   | true =>
    obtain ⟨mm, hmm⟩ : ∃ mm, mm = max f.2.2 (min (m.index : Int) (s.log.length : Int)) := ⟨_, rfl⟩
    have e : s.theard m = ((s.setF (f.1, mm + 1, mm)).adv, if (s.log.length : Int) < mm + 1 then [] else [(s.setF (f.1, mm + 1, mm)).adv.msg (f.1, mm + 1, mm)]) := by
     unfold PP.theard
     rw [if_pos ht, hq]
     simp only [hok, if_true]
     rw [← hmm]
    rw [e]
    refine ⟨rfl, rfl, (adv_same (s.setF (f.1, mm + 1, mm))).2.2.2.2.2, if (s.log.length : Int) < mm + 1 then [] else [(f.1, mm + 1, mm)], ?_, fun _ => hrole, fun x hx => ?_⟩
    ·simp only [if_true]
     rw [← hmm]
     split <;> rfl
    ·split at hx
     ·cases hx
     ·rw [List.mem_singleton.1 hx]
      exact ⟨hb2, by show 1 ≤ mm + 1; omega, by show mm + 1 ≤ s.log.length + 1; omega⟩
   | false =>
    obtain ⟨nx, hnx⟩ : ∃ nx, nx = max (f.2.2 + 1) (min (f.2.1 - 1) ((m.index : Int) + 1)) := ⟨_, rfl⟩
    have e : s.theard m = (s.setF (f.1, nx, f.2.2), [(s.setF (f.1, nx, f.2.2)).msg (f.1, nx, f.2.2)]) := by
     unfold PP.theard
     rw [if_pos ht, hq]
     simp only [hok]
     rw [if_neg (by simp), ← hnx]
    rw [e]
    refine ⟨rfl, rfl, Nat.le_refl _, [(f.1, nx, f.2.2)], ?_, fun _ => hrole, fun x hx => ?_⟩
    ·simp only [if_neg (show ¬ (false = true) by simp)]
     rw [← hnx]
     rfl
    ·rw [List.mem_singleton.1 hx]
     exact ⟨hb2, by show 1 ≤ nx; omega, by show nx ≤ s.log.length + 1; omega⟩
 ·have e : s.theard m = (s, []) := by
   unfold PP.theard
   rw [if_neg ht]
  exact nil s e rfl rfl (Nat.le_refl _)
theorem sp_heard (hi : i < ps.length) (e : ps[i] = s) (h : Al ld n k k ps gw dn) (hb : b ≤ s.commit) (hd : s.log.take s.commit <+: dn) {q : QM} (hq : q ∈ gw) (hk : q.kind = 4) (hsh : QOk n k k q) : ∃ out, (rl n σ s b).ltake q.g = (rl n σ (s.ltake q).1 b, out) ∧ Sp ld n k σ ps gw dn i (s.ltake q).1 b out := by
 have hok := (h.ok hi).1
 rw [e] at hok
 have hcom := hok.com
 have hdb : s.log.take b <+: dn := (List.take_prefix_take_left hb).trans hd
 obtain ⟨r1, r2, r3⟩ := rais_same s q.term
 have hoku : Ok n k k (s.rais q.term) := by
  have := mv_rais hi e h hsh.term.2
  obtain ⟨hi2, e2⟩ := set_at hi (s.rais q.term)
  have h3 := (this.ok hi2).1
  rwa [e2] at h3
 have h1 := mv_ltake hi e h hq (Or.inr hk) hsh.term.2 (by have := hsh.f; omega)
 have el : s.ltake q = (s.rais q.term).theard q := by unfold PP.ltake; rw [if_neg (by omega)]
 obtain ⟨a1, a2, a3, F, a4, a5, a6⟩ := theard_out (n := n) (σ := σ) (b := b) hoku q
 refine ⟨F.map (sendG n σ (s.ltake q).1 b), ?_, ?_⟩
 ·unfold GP.ltake
  rw [if_neg (show ¬ q.g.kind = 3 by show ¬ q.kind = 3; omega), show q.g.term = q.term from rfl, rl_raise, rl_theard hoku (by omega) q, el]
  exact congrArg (Prod.mk _) a4
 ·refine Sp.of hi h1 (Nat.le_succ _) (Nat.le_succ _) (fun x hx => List.mem_append.2 (Or.inl hx)) ?_ ?_ ?_ ?_
  ·rw [el]; omega
  ·rw [el, a1, r1]; exact hdb
  ·rw [el]; exact a5
  ·rw [el, a1, a2, r3]
   rw [r3] at a6
   exact a6
theorem rais_hears (s : PP) (m : QM) (h : s.term ≤ m.term) : ({ (s.rais m.term).down m.term with lead := m.frm, idle := 0 } : PP) = s.hears m ∧ (s.rais m.term).term = m.term := by
 unfold PP.hears PP.rais
 by_cases h1 : s.term < m.term
 ·rw [if_pos h1]
  unfold PP.down
  simp only [h1, if_true, Int.lt_irrefl, if_false]
  exact ⟨trivial, trivial⟩
 ·rw [if_neg h1]
  exact ⟨rfl, by omega⟩
theorem rl_install {X : List PE} (hc : X.length = T) (hb : b ≤ s.log.length) (hk : ∀ e ∈ s.log, e.k ≠ 2) {o : GM} (ho1 : o.index = (T : Nat)) (ho2 : o.lterm = tAt X T) (ho3 : o.mem = mem n) (ho4 : o.snap = σ T) (hbT : b ≤ T) {l' : List PE} (hl : l'.take T = X) (hm : T ≤ s.log.length → tAt s.log T = tAt X T → l' = s.log) (hn : ¬ (T ≤ s.log.length ∧ tAt s.log T = tAt X T) → l' = X) : (rl n σ s b).install o = rl n σ { s with log := l', commit := T } T := by
 have e1 : (rl n σ s b).stay o = (l'.drop T).map PE.g := by
  unfold GP.stay
  rw [ho1, ho2, rl_tAt hb]
  by_cases h1 : T ≤ s.log.length
  ·rw [if_pos (show b ≤ T ∧ T ≤ s.log.length from ⟨hbT, h1⟩)]
   by_cases h2 : tAt s.log T = tAt X T
   ·rw [hm h1 h2]
    simp only [Option.isSome_some, Option.getD_some, beq_iff_eq.2 h2, Bool.and_true, if_true]
    show ((s.log.drop b).map PE.g).drop ((T : Int) - (b : Int)).toNat = _
    rw [← List.map_drop, List.drop_drop, show b + ((T : Int) - (b : Int)).toNat = T by omega]
   ·have e0 : l'.drop T = [] := by rw [hn (fun h => h2 h.2)]; exact List.drop_of_length_le (by omega)
    rw [e0]
    simp only [Option.isSome_some, Option.getD_some, beq_eq_false_iff_ne.2 h2, Bool.and_false]
    rfl
  ·have e0 : l'.drop T = [] := by rw [hn (fun h => h1 h.1)]; exact List.drop_of_length_le (by omega)
   rw [if_neg (show ¬ (b ≤ T ∧ T ≤ s.log.length) from fun h => h1 h.2), e0]
   rfl
 have hk' : ∀ e ∈ l'.drop T, e.k ≠ 2 := by
  by_cases h2 : T ≤ s.log.length ∧ tAt s.log T = tAt X T
  ·rw [hm h2.1 h2.2]; exact fun e he => hk e (List.mem_of_mem_drop he)
  ·rw [hn h2, List.drop_of_length_le (by omega)]; intro e he; cases he
 have e2 : memOf (mem n) ((l'.drop T).map PE.g) = mem n := memOf_g _ _ hk'
 have hlen : T ≤ l'.length := by have := congrArg List.length hl; simp at this; omega
 have e3 : tAt l' T = tAt X T := by rw [← hl]; exact (take_tAt (by rw [List.take_take, Nat.min_self]) (by simp; omega) hlen).symm
 unfold GP.install GP.cut
 rw [e1, ho1, ho2, ho3, ho4, e2, ← e3]
 rfl
theorem sp_inst (hi : i < ps.length) (e : ps[i] = s) (h : Al ld n k k ps gw dn) (hb : b ≤ s.commit) (hd : s.log.take s.commit <+: dn) {q : QM} (hq : q ∈ gw) {c : Nat} (hc1 : 1 ≤ c) (eq : q = ⟨3, q.frm, q.to, q.term, 0, 0, c, false, q.ents⟩) (hlen : q.ents.length = c) (hpre : q.ents <+: dn) (hh : Hd n k q) (hto : q.to = s.id) {o : GM} (ho : o = ⟨5, q.frm, q.to, q.term, c, tAt q.ents c, 0, 0, false, [], mem n, σ c⟩) : ∃ s' b' out, (rl n σ s b).trimTake o = (rl n σ s' b', out) ∧ Sp ld n k σ ps gw dn i s' b' out := by
 have hok := (h.ok hi).1
 rw [e] at hok
 have hcom := hok.com
 have hgl := hok.glen
 have hdb : s.log.take b <+: dn := (List.take_prefix_take_left hb).trans hd
 have q3 : q.kind = 3 := by rw [eq]
 have qi : q.index = 0 := by rw [eq]
 have ql : q.lterm = 0 := by rw [eq]
 have qc : q.commit = c := by rw [eq]
 have qok : q.ok = false := by rw [eq]
 have hsh : ∀ (to : Int) (ok : Bool) (j : Nat) (u : PP), u.id = s.id → 1 ≤ u.term ∧ u.term ≤ (k + 1 : Nat) → to = q.frm → j ≤ k + 1 → Sh n (k + 1) (k + 1) (u.hrd to ok j) := by
  intro to ok j u h1 h2 h3 h4
  refine Or.inr (hrd_qok (by rw [h1]; exact ⟨hok.id1, hok.idn⟩) h2 (by rw [h3]; exact hh.f) ?_ ok h4)
  rw [h1, h3, ← hto]
  exact fun e => hh.ne e.symm
 have o1 : o.term = q.term := by rw [ho]
 have o2 : o.frm = q.frm := by rw [ho]
 have o3 : o.index = (c : Nat) := by rw [ho]
 have o4 : o.round = 0 := by rw [ho]
 unfold GP.trimTake
 rw [o1, o2, o4]
 by_cases h1 : q.term < s.term
 ·rw [if_pos (show q.term < (rl n σ s b).term from h1), rl_lastI (by omega)]
  have el : s.ltake q = (s, [s.hrd q.frm false s.log.length]) := by
   have er : s.rais q.term = s := by unfold PP.rais; rw [if_neg (by omega)]
   unfold PP.ltake
   rw [if_pos q3, er]
   unfold PP.tlay
   rw [if_pos h1]
  have h2 := mv_ltake hi e h hq (Or.inl q3) hh.term.2 (by have := hh.f; omega)
  rw [el] at h2
  exact ⟨s, b, [s.hrd q.frm false s.log.length].map QM.g, rfl, Sp.same h2 (Nat.le_succ _) (Nat.le_succ _) hb hdb (fun x hx => by rw [List.mem_singleton.1 hx]; exact hsh _ _ _ s rfl (by have := hok.tT; have := hh.term; omega) rfl (by omega))⟩
 ·rw [if_neg (show ¬ q.term < (rl n σ s b).term from h1)]
  by_cases h2 : q.term = s.term ∧ s.role = 2
  ·rw [if_pos (show q.term = (rl n σ s b).term ∧ (rl n σ s b).role = 2 from h2)]
   exact ⟨s, b, [], rfl, sp_none hi e h hb hd⟩
  ·rw [if_neg (show ¬ (q.term = (rl n σ s b).term ∧ (rl n σ s b).role = 2) from h2)]
   obtain ⟨u1, u2⟩ := rais_hears s q (by omega)
   have hnr : ¬ (s.rais q.term).role = 2 := by
    unfold PP.rais
    by_cases h3 : s.term < q.term
    ·rw [if_pos h3]; show ¬ (0 : Int) = 2; omega
    ·rw [if_neg h3]; exact fun h4 => h2 ⟨by omega, h4⟩
   have el : ∀ m : QM, m.kind = 3 → m.term = q.term → m.frm = q.frm → s.ltake m = (s.hears q).lay m := by
    intro m mk mt mf
    unfold PP.ltake
    rw [if_pos mk, mt]
    unfold PP.tlay
    rw [if_neg (by rw [mt, u2]; omega), if_neg hnr, mt, mf, u1]
   have hul : (s.hears q).log = s.log ∧ (s.hears q).commit = s.commit ∧ (s.hears q).id = s.id ∧ (s.hears q).term = q.term := by
    refine ⟨rfl, rfl, rfl, ?_⟩
    show (if s.term < q.term then q.term else s.term) = q.term
    split <;> omega
   have ht2 : 1 ≤ (s.hears q).term ∧ (s.hears q).term ≤ (k + 1 : Nat) := by rw [hul.2.2.2]; have := hh.term; omega
   obtain ⟨g, h'⟩ := h
   obtain ⟨hL0, m1, m2, m3, m4, m5⟩ := (h'.ms q hq).lay q3
   rw [qi] at m1 m2
   have hX : q.ents = (g.L q.term).take c := by rw [m2, hlen]; rfl
   have hcp := h'.com_pre hi (t := q.term) (by rw [e]; omega) hL0
   rw [e] at hcp
   have hcU : s.commit ≤ (g.L q.term).length := by have := hcp.length_le; simp at this; omega
   have hpf := (h'.mb i hi).pf
   rw [e] at hpf
   unfold GP.laid
   rw [rl_hears q o o1 o2]
   by_cases h3 : s.commit < c
   ·rw [if_pos (show (rl n σ (s.hears q) b).commit < o.index by rw [o3]; show ((s.hears q).commit : Int) < (c : Int); rw [hul.2.1]; omega)]
    have h4 := mv_ltake hi e (⟨g, h'⟩ : Al ld n k k ps gw dn) hq (Or.inl q3) hh.term.2 (by have := hh.f; omega)
    rw [el q q3 rfl rfl] at h4
    -- what joining makes
    obtain ⟨a1, a2, a3, a4⟩ := mt_spec hpf (h'.gi.p q.term) q.ents 0 (by simp) (Nat.zero_le _) m2 m1
    rw [Nat.zero_add] at a2 a3 a4
    have hcm : s.commit ≤ mt s.log 0 q.ents ∨ mt s.log 0 q.ents = q.ents.length := by
     by_cases h5 : mt s.log 0 q.ents < q.ents.length
     ·refine Or.inl (Classical.byContradiction fun h6 => ?_)
      refine a4 h5 (s.log[mt s.log 0 q.ents]'(by omega)) ((g.L q.term)[mt s.log 0 q.ents]'(by omega)) (List.getElem?_eq_getElem _) (List.getElem?_eq_getElem _) ?_
      have h7 : mt s.log 0 q.ents < (s.log.take s.commit).length := by simp; omega
      have h8 := hcp.getElem h7
      rw [List.getElem_take] at h8
      rw [h8]
     ·exact Or.inr (by omega)
    obtain ⟨l', hl'⟩ : ∃ l', l' = if mt s.log 0 q.ents = q.ents.length then s.log else q.ents := ⟨_, rfl⟩
    have hlt : l'.take c = q.ents := by
     rw [hl']
     split
     ·rename_i h5
      rw [h5, hlen] at a2
      rw [a2, hX]
     ·rw [List.take_of_length_le (by omega)]
    have hyes : c ≤ s.log.length → tAt s.log c = tAt q.ents c → l' = s.log := by
     intro h5 h6
     rw [hl', if_pos]
     refine Classical.byContradiction fun h7 => ?_
     have h8 : mt s.log 0 q.ents < q.ents.length := by omega
     have h9 : tAt q.ents c = tAt (g.L q.term) c := take_tAt (by rw [hX, List.take_take, Nat.min_self]) (by omega) (by omega)
     obtain ⟨j, hj⟩ : ∃ j, c = j + 1 := ⟨c - 1, by omega⟩
     rw [h9, hj, tAt_succ (by omega), tAt_succ (by omega)] at h6
     have h10 := same_take hpf (h'.gi.p q.term) (by omega) (by omega) h6
     refine a4 h8 (s.log[mt s.log 0 q.ents]'(by omega)) ((g.L q.term)[mt s.log 0 q.ents]'(by omega)) (List.getElem?_eq_getElem _) (List.getElem?_eq_getElem _) ?_
     have h11 : (s.log.take (j + 1))[mt s.log 0 q.ents]? = ((g.L q.term).take (j + 1))[mt s.log 0 q.ents]? := by rw [h10]
     rw [List.getElem?_take_of_lt (by omega), List.getElem?_take_of_lt (by omega), List.getElem?_eq_getElem (by omega), List.getElem?_eq_getElem (by omega)] at h11
     exact congrArg PE.t (Option.some.inj h11)
    have hno : ¬ (c ≤ s.log.length ∧ tAt s.log c = tAt q.ents c) → l' = q.ents := by
     intro h5
     rw [hl', if_neg]
     intro h6
     rw [h6, hlen] at a2 a3
     refine h5 ⟨a3, take_tAt ?_ a3 (by omega)⟩
     rw [a2, hX, List.take_take, Nat.min_self]
    have elay : (s.hears q).lay q = ({ s.hears q with log := l', commit := c }, [(s.hears q).hrd q.frm true c]) := by
     have hj : (s.hears q).join 0 q.ents = some { s.hears q with log := l' } := by
      unfold PP.join
      by_cases h5 : mt s.log 0 q.ents = q.ents.length
      ·rw [if_pos (show mt (s.hears q).log 0 q.ents = q.ents.length from h5), hl', if_pos h5]
       rfl
      ·rw [if_neg (show ¬ mt (s.hears q).log 0 q.ents = q.ents.length from h5), if_neg (show ¬ 0 + mt (s.hears q).log 0 q.ents + 1 ≤ (s.hears q).commit by rw [hul.1, hul.2.1]; rcases hcm with h6 | h6; omega; exact absurd h6 h5), hl', if_neg h5]
       have h6 : (s.hears q).log.take (0 + mt (s.hears q).log 0 q.ents) ++ q.ents.drop (mt (s.hears q).log 0 q.ents) = q.ents := by
        rw [hul.1, Nat.zero_add, a2]
        have h7 : ∀ j, j ≤ c → (g.L q.term).take j = q.ents.take j := fun j hj => by
         rw [hX, List.take_take, Nat.min_eq_left hj]
        rw [h7 _ (by omega), List.take_append_drop]
       rw [h6]
     unfold PP.lay
     rw [qi, ql, if_neg (by rintro (h5 | h5); exact absurd h5 (Nat.not_lt_zero _); exact h5 rfl), hj, hlen, qc]
     have h5 : max (s.hears q).commit (min c (0 + c)) = c := by rw [hul.2.1]; omega
     show (({ s.hears q with log := l', commit := max (s.hears q).commit (min c (0 + c)) } : PP), [(s.hears q).hrd q.frm true (0 + c)]) = _
     rw [h5, Nat.zero_add]
    rw [elay] at h4
    have hin : (rl n σ (s.hears q) b).install o = rl n σ { s.hears q with log := l', commit := c } c := rl_install (T := c) hlen (by rw [hul.1]; omega) (by rw [hul.1]; exact hok.k2) (by rw [o3]) (by rw [ho]) (by rw [ho]) (by rw [ho]) (by omega) hlt hyes hno
    rw [hin]
    refine ⟨{ s.hears q with log := l', commit := c }, c, [(s.hears q).hrd q.frm true c].map QM.g, rfl, Sp.same h4 (Nat.le_succ _) (Nat.le_succ _) (Nat.le_refl _) (by rw [show ({ s.hears q with log := l', commit := c } : PP).log = l' from rfl, hlt]; exact hpre) (fun x hx => by rw [List.mem_singleton.1 hx]; exact hsh _ _ _ (s.hears q) rfl ht2 rfl (by have := h'.lb q.term; omega))⟩
   ·rw [if_neg (show ¬ (rl n σ (s.hears q) b).commit < o.index by rw [o3]; show ¬ ((s.hears q).commit : Int) < (c : Int); rw [hul.2.1]; omega)]
    obtain ⟨m, hm⟩ : ∃ m : QM, m = ⟨3, q.frm, q.to, q.term, 0, 0, 0, false, s.log.take s.commit⟩ := ⟨_, rfl⟩
    have hml : (s.log.take s.commit).length = s.commit := by simp; omega
    have hmq : Mq n g m := by
     refine ⟨fun e => by rw [hm] at e; have : (3 : Int) = 1 := e; omega, fun _ => ?_, fun e => by rw [hm] at e; have : (3 : Int) = 4 := e; omega⟩
     rw [hm]
     refine ⟨hL0, ?_, ?_, rfl, Nat.zero_le _, Or.inl rfl⟩
     ·show 0 + (s.log.take s.commit).length ≤ (g.L q.term).length
      omega
     ·show s.log.take s.commit = ((g.L q.term).drop 0).take (s.log.take s.commit).length
      rw [hml]
      exact pre_take hcp (Nat.le_refl _) hcom
    have m3' : m.kind = 3 := by rw [hm]
    have h4 := mv_ltake hi e (⟨g, h'.inject (ms := [m]) (fun x hx => by rw [List.mem_singleton.1 hx]; exact ⟨by omega, hmq⟩)⟩ : Al ld n k k ps (gw ++ [m]) dn) (m := m) (by simp) (Or.inl m3') (by rw [hm]; exact hh.term.2) (by rw [hm]; have := hh.f; show 0 ≤ q.frm ∧ q.frm ≤ n; omega)
    rw [el m m3' (by rw [hm]) (by rw [hm])] at h4
    have elay : (s.hears q).lay m = (s.hears q, [(s.hears q).hrd q.frm true s.commit]) := by
     have hmt : mt (s.hears q).log 0 (s.log.take s.commit) = (s.log.take s.commit).length := mt_self _ _ _ (by rw [hul.1]; exact List.take_prefix _ _)
     have hj : (s.hears q).join 0 (s.log.take s.commit) = some (s.hears q) := by
      unfold PP.join
      rw [if_pos hmt]
     unfold PP.lay
     rw [hm]
     show (if (s.hears q).log.length < 0 ∨ tAt (s.hears q).log 0 ≠ 0 then ((s.hears q, [(s.hears q).hrd q.frm false (min (s.hears q).log.length (0 - 1))]) : PP × List QM) else match (s.hears q).join 0 (s.log.take s.commit) with | none => (s.hears q, []) | some u => ({ u with commit := max u.commit (min 0 (0 + (s.log.take s.commit).length)) }, [u.hrd q.frm true (0 + (s.log.take s.commit).length)])) = _
     rw [if_neg (by rintro (h5 | h5); exact absurd h5 (Nat.not_lt_zero _); exact h5 rfl), hj, hml]
     have h5 : max (s.hears q).commit (min 0 (0 + s.commit)) = (s.hears q).commit := by omega
     show (({ s.hears q with commit := max (s.hears q).commit (min 0 (0 + s.commit)) } : PP), [(s.hears q).hrd q.frm true (0 + s.commit)]) = _
     rw [h5, Nat.zero_add]
    rw [elay] at h4
    refine ⟨s.hears q, b, [(s.hears q).hrd q.frm true s.commit].map QM.g, rfl, ?_⟩
    refine ⟨gw ++ [m] ++ [(s.hears q).hrd q.frm true s.commit], h4.mono (Nat.le_succ _) (Nat.le_succ _), fun x hx => by simp [hx], hb, hdb, fun x hx => ?_⟩
    obtain ⟨y, hy, rfl⟩ := List.mem_map.1 hx
    exact ⟨y, List.mem_append.2 (Or.inr hy), Or.inl ⟨rfl, by rw [List.mem_singleton.1 hy]; exact hsh _ _ _ (s.hears q) rfl ht2 rfl (by omega)⟩⟩
end
end Go.Proofs.YthekbhliokcpcaaGreat
