/- What a message of logs makes of a member whose log was cut off: what is left of what it makes of the whole one. A group some of whose logs were cut off: what its ghosts do. A group some of whose logs were cut off: what each call makes of it. A group some of whose logs were cut off: votes, proposals, -/
import Derived.Test.YthekbhliokcpcaaGreatT30
import Derived.Test.YthekbhliokcpcaaGreatT22
namespace Go.Proofs.YthekbhliokcpcaaGreat
section
variable {n T G : Nat} {σ : Nat → ByteArray} {s : PP} {b : Nat}
theorem rl_mt (hb : b ≤ s.log.length) : ∀ (l : List PE) (i : Nat), b ≤ i → i ≤ s.log.length → mtG (rl n σ s b) i (l.map PE.g) = mt s.log i l
 | [], _, _, _ => rfl
 | e :: l, i, h1, h2 => by
  show (if (rl n σ s b).tAt ((i : Int) + 1) = some e.g.t then mtG (rl n σ s b) ((i : Int) + 1) (l.map PE.g) + 1 else 0) = (match s.log[i]? with | some x => (if x.t = e.t then mt s.log (i + 1) l + 1 else 0) | none => 0)
  have e1 : ((i : Int) + 1) = ((i + 1 : Nat) : Int) := by omega
  rw [e1, rl_tAt hb]
  by_cases h3 : i < s.log.length
  ·rw [if_pos (show b ≤ i + 1 ∧ i + 1 ≤ s.log.length by omega), tAt_succ h3, List.getElem?_eq_getElem h3]
   by_cases h4 : s.log[i].t = e.t
   ·have h5 : some s.log[i].t = some e.g.t := congrArg some h4
    rw [if_pos h5, rl_mt hb l (i + 1) (by omega) (by omega)]
    simp only [h4, if_true]
   ·have h5 : ¬ some s.log[i].t = some e.g.t := fun h => h4 (Option.some.inj h)
    rw [if_neg h5]
    simp only [h4, if_false]
  ·rw [if_neg (show ¬ (b ≤ i + 1 ∧ i + 1 ≤ s.log.length) by omega), if_neg (fun h => by cases h), List.getElem?_eq_none (by omega)]
theorem mt_in (log : List PE) (l : List PE) (i : Nat) (h : i ≤ log.length) : i + mt log i l ≤ log.length := mt_len log l i h
theorem rl_withL {L : List PE} (hk : ∀ e ∈ L, e.k ≠ 2) (ht : tAt L b = tAt s.log b) : (rl n σ s b).withL ((L.drop b).map PE.g) = rl n σ { s with log := L } b := by
 have e3 : rl n σ { s with log := L } b = { rl n σ s b with log := (L.drop b).map PE.g, baseT := tAt L b, M := mem n } := rfl
 rw [e3, ht]
 unfold GP.withL
 rw [show memOf (rl n σ s b).B ((L.drop b).map PE.g) = mem n from memOf_gd (mem n) _ _ hk]
 rfl
theorem rl_join (hb : b ≤ s.log.length) (hk : ∀ e ∈ s.log, e.k ≠ 2) {i : Nat} {l : List PE} (h1 : b ≤ i) (h2 : i ≤ s.log.length) (hl : ∀ e ∈ l, e.k ≠ 2) (ht : ∀ e ∈ l, tAt s.log b ≤ e.t) : (rl n σ s b).join i (l.map PE.g) = (s.join i l).map (fun u => rl n σ u b) := by
 have hm := rl_mt (n := n) (σ := σ) hb l i h1 h2
 have hm2 := mt_le s.log l i
 have hm3 := mt_in s.log l i h2
 unfold GP.join PP.join
 rw [hm]
 by_cases h3 : mt s.log i l = l.length
 ·rw [if_pos h3, h3, List.getElem?_eq_none (by simp)]
  rfl
 ·have h4 : mt s.log i l < l.length := by omega
  rw [if_neg h3, List.getElem?_map, List.getElem?_eq_getElem h4]
  have h5 : ¬ (l[mt s.log i l].g).t < (rl n σ s b).baseT := by
   have := ht _ (List.getElem_mem h4)
   show ¬ l[mt s.log i l].t < tAt s.log b
   omega
  show (if (i : Int) + (mt s.log i l : Int) + 1 ≤ (s.commit : Int) ∨ (l[mt s.log i l].g).t < (rl n σ s b).baseT then none else some ((rl n σ s b).withL ((rl n σ s b).joinL i (l.map PE.g)))) = _
  by_cases h6 : i + mt s.log i l + 1 ≤ s.commit
  ·rw [if_pos (Or.inl (by omega)), if_pos h6]
   rfl
  ·rw [if_neg (by rintro (h7 | h7); omega; exact h5 h7), if_neg h6]
   have e1 : (rl n σ s b).joinL i (l.map PE.g) = ((s.log.take (i + mt s.log i l) ++ l.drop (mt s.log i l)).drop b).map PE.g := by
    unfold GP.joinL
    rw [hm, drop_app (by simp; omega), List.map_append]
    congr 1
    ·show ((s.log.drop b).map PE.g).take ((i : Int) + (mt s.log i l : Int) - (b : Int)).toNat = _
     rw [← List.map_take, List.take_drop]
     congr 2
     rw [show b + ((i : Int) + (mt s.log i l : Int) - (b : Int)).toNat = i + mt s.log i l by omega]
    ·rw [List.map_drop]
   rw [e1]
   show some _ = some _
   congr 1
   refine rl_withL (fun e he => ?_) ?_
   ·rcases List.mem_append.1 he with he | he
    ·exact hk e (List.mem_of_mem_take he)
    ·exact hl e (List.mem_of_mem_drop he)
   ·rw [tAt_app (by simp; omega)]
    cases b with
    | zero => rfl
    | succ c => rw [tAt_succ (by simp; omega), tAt_succ (by omega), List.getElem_take]
theorem rl_heard (to : Int) (ok : Bool) (i : Nat) : (rl n σ s b).heard to ok i 0 = (s.hrd to ok i).g := rfl
theorem rl_joined (hb : b ≤ s.log.length) (hk : ∀ e ∈ s.log, e.k ≠ 2) {m : QM} (h1 : b ≤ m.index) (h2 : m.index ≤ s.log.length) (hl : ∀ e ∈ m.ents, e.k ≠ 2) (ht : ∀ e ∈ m.ents, tAt s.log b ≤ e.t) {o : GM} (ho1 : o.frm = m.frm) (ho2 : o.commit = m.commit) (ho3 : o.round = 0) (hlt : tAt s.log m.index = m.lterm) : (rl n σ s b).joined o m.index (m.ents.map PE.g) = (rl n σ (s.lay m).1 b, (s.lay m).2.map QM.g) := by
 unfold GP.joined PP.lay
 rw [rl_join hb hk h1 h2 hl ht, if_neg (by rintro (h | h); omega; exact h hlt)]
 cases hj : s.join m.index m.ents with
 | none => rfl
 | some u =>
  have hid : u.id = s.id ∧ u.term = s.term := (join_len h2 hj).2
  show (({ rl n σ u b with commit := max (rl n σ u b).commit (min o.commit ((m.index : Int) + ((m.ents.map PE.g).length : Nat))) } : GP), [(rl n σ s b).heard o.frm true ((m.index : Int) + ((m.ents.map PE.g).length : Nat)) o.round]) = (rl n σ { u with commit := max u.commit (min m.commit (m.index + m.ents.length)) } b, [(u.hrd m.frm true (m.index + m.ents.length)).g])
  rw [ho1, ho2, ho3, List.length_map]
  have e1 : (max (rl n σ u b).commit (min (m.commit : Int) ((m.index : Int) + (m.ents.length : Int)))) = ((max u.commit (min m.commit (m.index + m.ents.length)) : Nat) : Int) := by
   show max (u.commit : Int) _ = _
   omega
  have e2 : (m.index : Int) + (m.ents.length : Int) = ((m.index + m.ents.length : Nat) : Int) := by omega
  have e3 : (u.hrd m.frm true (m.index + m.ents.length)) = (s.hrd m.frm true (m.index + m.ents.length)) := by unfold PP.hrd; rw [hid.1, hid.2]
  rw [e1, e2, e3, rl_heard]
  rfl
theorem rl_lay (hb : b ≤ s.log.length) (hk : ∀ e ∈ s.log, e.k ≠ 2) {m : QM} (h1 : b ≤ m.index) (hl : ∀ e ∈ m.ents, e.k ≠ 2) (h0 : m.index = 0 → m.lterm = 0) (hs : s.log.Pairwise (fun a b => a.t ≤ b.t)) (hp : ∀ x ∈ s.log, 0 ≤ x.t) (ht : ∀ e ∈ m.ents, m.lterm ≤ e.t) : (rl n σ s b).layTo m.g = (rl n σ (s.lay m).1 b, (s.lay m).2.map QM.g) := by
 unfold GP.layTo
 rw [if_neg (show ¬ m.g.index < (rl n σ s b).base by show ¬ (m.index : Int) < (b : Int); omega)]
 have e1 : (rl n σ s b).tAt m.g.index = if b ≤ m.index ∧ m.index ≤ s.log.length then some (tAt s.log m.index) else none := rl_tAt hb m.index
 rw [e1]
 by_cases h2 : m.index ≤ s.log.length
 ·rw [if_pos (⟨h1, h2⟩ : b ≤ m.index ∧ m.index ≤ s.log.length)]
  by_cases h3 : tAt s.log m.index = m.lterm
  ·rw [if_pos (show some (tAt s.log m.index) = some m.g.lterm from congrArg some h3)]
   refine rl_joined (o := m.g) hb hk h1 h2 hl (fun e he => ?_) rfl rfl rfl h3
   have h4 := ht e he
   rw [← h3] at h4
   refine Int.le_trans ?_ h4
   by_cases h5 : b = m.index
   ·rw [h5]; exact Int.le_refl _
   ·obtain ⟨j, hj⟩ : ∃ j, m.index = j + 1 := ⟨m.index - 1, by omega⟩
    rw [hj, tAt_succ (by omega)]
    exact tAt_low hs hb hp _ (List.mem_drop_iff_getElem.2 ⟨j - b, by omega, by congr 1; omega⟩)
  ·rw [if_neg (show ¬ some (tAt s.log m.index) = some m.g.lterm from fun h => h3 (Option.some.inj h))]
   unfold PP.lay
   rw [if_pos (Or.inr h3)]
   have h4 : m.index ≠ 0 := fun h => h3 (by rw [h0 h, h]; rfl)
   have e2 : min (rl n σ s b).lastI (m.g.index - 1) = ((min s.log.length (m.index - 1) : Nat) : Int) := by
    rw [rl_lastI hb]
    show min (s.log.length : Int) ((m.index : Int) - 1) = _
    omega
   rw [e2]
   rfl
 ·rw [if_neg (show ¬ (b ≤ m.index ∧ m.index ≤ s.log.length) from fun h => h2 h.2), if_neg (show ¬ (none : Option Int) = some m.g.lterm from fun h => by cases h)]
  unfold PP.lay
  rw [if_pos (Or.inl (by omega))]
  have e2 : min (rl n σ s b).lastI (m.g.index - 1) = ((min s.log.length (m.index - 1) : Nat) : Int) := by
   rw [rl_lastI hb]
   show min (s.log.length : Int) ((m.index : Int) - 1) = _
   omega
  rw [e2]
  rfl
def QM.above (m : QM) (U : List PE) (b : Nat) : QM := { m with index := b, lterm := tAt U b, ents := m.ents.drop (b - m.index) }
theorem rl_layU (hb : b ≤ s.log.length) (hk : ∀ e ∈ s.log, e.k ≠ 2) {m : QM} (hl : ∀ e ∈ m.ents, e.k ≠ 2) (h0 : m.index = 0 → m.lterm = 0) (hs : s.log.Pairwise (fun a b => a.t ≤ b.t)) (hp : ∀ x ∈ s.log, 0 ≤ x.t) (ht : ∀ e ∈ m.ents, m.lterm ≤ e.t) {U : List PE} (hU : tAt s.log b = tAt U b) (ht2 : ∀ e ∈ m.ents.drop (b - m.index), tAt U b ≤ e.t) : (rl n σ s b).layTo m.g = (rl n σ (s.lay (if m.index < b then m.above U b else m)).1 b, (s.lay (if m.index < b then m.above U b else m)).2.map QM.g) := by
 by_cases h1 : m.index < b
 ·rw [if_pos h1]
  unfold GP.layTo
  rw [if_pos (show m.g.index < (rl n σ s b).base by show (m.index : Int) < (b : Int); omega)]
  have e1 : (rl n σ s b).restOf m.g = (m.above U b).ents.map PE.g := by
   show (m.ents.map PE.g).drop (min ((b : Int) - (m.index : Int)).toNat (m.ents.map PE.g).length) = (m.ents.drop (b - m.index)).map PE.g
   rw [List.map_drop, List.length_map, show ((b : Int) - (m.index : Int)).toNat = b - m.index by omega]
   by_cases h2 : b - m.index ≤ m.ents.length
   ·rw [Nat.min_eq_left h2]
   ·rw [List.drop_of_length_le (by simp; omega), List.drop_of_length_le (by simp; omega)]
  rw [e1]
  exact rl_joined (m := m.above U b) (o := m.g) hb hk (Nat.le_refl _) hb (fun e he => hl e (List.mem_of_mem_drop he)) (fun e he => by rw [hU]; exact ht2 e he) rfl rfl rfl hU
 ·rw [if_neg h1]
  exact rl_lay hb hk (by omega) hl h0 hs hp ht
theorem rl_raise (t : Int) : (rl n σ s b).raise t = rl n σ (s.rais t) b := by
 unfold GP.raise PP.rais
 by_cases h : s.term < t
 ·rw [if_pos h, if_pos (show (rl n σ s b).term < t from h)]; rfl
 ·rw [if_neg h, if_neg (show ¬ (rl n σ s b).term < t from h)]
def PP.hears (s : PP) (m : QM) : PP := { s.down m.term with lead := m.frm, idle := 0 }
theorem rl_hears (m : QM) (o : GM) (h1 : o.term = m.term) (h2 : o.frm = m.frm) : (rl n σ s b).hears o = rl n σ (s.hears m) b := by
 unfold GP.hears PP.hears
 rw [h1, h2]
 rfl
theorem rl_setF (f : Int × Int × Int) : (rl n σ s b).setF f = rl n σ (s.setF f) b := rfl
def sendG (n : Nat) (σ : Nat → ByteArray) (s : PP) (b : Nat) (f : Int × Int × Int) : GM := if f.2.1 - 1 < (b : Int) then instG n σ s b f.1 else (s.msg f).g
theorem rl_theard (h : Ok n T G s) (hb : b ≤ s.commit) (m : QM) : (rl n σ s b).takeHeard m.g = (rl n σ (s.theard m).1 b, (s.theard m).2.map fun _ => match s.fol.find? (fun g => g.1 == m.frm) with | none => (s.hrd 0 true 0).g | some f => sendG n σ (s.theard m).1 b (if m.ok then (f.1, max f.2.2 (min (m.index : Int) s.log.length) + 1, max f.2.2 (min (m.index : Int) s.log.length)) else (f.1, max (f.2.2 + 1) (min (f.2.1 - 1) (m.index + 1)), f.2.2))) := by
 have hcom := h.com
 unfold GP.takeHeard PP.theard
 by_cases ht : m.term = s.term
 ·rw [if_pos ht, if_pos (show m.g.term = (rl n σ s b).term from ht)]
  have ef : (rl n σ s b).fol.find? (fun g => g.1 == m.g.frm) = s.fol.find? (fun g => g.1 == m.frm) := rfl
  rw [ef]
  cases hq : s.fol.find? (fun g => g.1 == m.frm) with
  | none => rfl
  | some f =>
   have hmem : f ∈ s.fol := List.mem_of_find?_eq_some hq
   have hrole : s.role = 2 ∧ (1 ≤ f.2.1 ∧ f.2.1 ≤ s.log.length + 1 ∧ f.2.2 < f.2.1 ∧ 0 ≤ f.2.2) := by
    rcases h.role with h' | h' | h'
    ·rw [h'.2.2] at hmem; cases hmem
    ·rw [h'.2.2.2.2] at hmem; cases hmem
    ·exact ⟨h'.1, h'.2.2.2.2.2.2 f hmem⟩
   obtain ⟨hr, hf1, hf2, hf3, hf4⟩ := hrole
   cases hok : m.ok with
   | true =>
    have e1 : m.g.ok = true := hok
    have eI : (rl n σ s b).lastI = (s.log.length : Int) := rl_lastI (by omega)
    simp only [e1, if_true, eI]
    have e2 : max f.2.2 (min m.g.index (s.log.length : Int)) = max f.2.2 (min (m.index : Int) s.log.length) := rfl
    rw [e2]
    generalize hmm : max f.2.2 (min (m.index : Int) (s.log.length : Int)) = mm at *
    have hok2 : Ok n T G (s.setF (f.1, mm + 1, mm)) := setF_ok h hr _ ⟨by show 1 ≤ mm + 1; omega, by show mm + 1 ≤ s.log.length + 1; omega, by show mm < mm + 1; omega, by show 0 ≤ mm; omega⟩
    rw [rl_setF, rl_adv hok2 hb hr]
    by_cases hl : (s.log.length : Int) < mm + 1
    ·rw [if_pos hl, if_pos hl]; rfl
    ·rw [if_neg hl, if_neg hl]
     have e3 : (rl n σ (s.setF (f.1, mm + 1, mm)).adv b).snd (f.1, mm + 1, mm) = sendG n σ (s.setF (f.1, mm + 1, mm)).adv b (f.1, mm + 1, mm) := rl_snd (by show b ≤ s.log.length; omega) _ (by show 1 ≤ mm + 1; omega) (by show mm + 1 ≤ s.log.length + 1; omega)
     rw [e3]
     rfl
   | false =>
    have e1 : m.g.ok = false := hok
    simp only [e1]
    have e2 : max (f.2.2 + 1) (min (f.2.1 - 1) (m.g.index + 1)) = max (f.2.2 + 1) (min (f.2.1 - 1) (m.index + 1)) := rfl
    rw [if_neg (by simp), if_neg (by simp), e2]
    generalize hnx : max (f.2.2 + 1) (min (f.2.1 - 1) ((m.index : Int) + 1)) = nx at *
    rw [rl_setF]
    have e3 : (rl n σ (s.setF (f.1, nx, f.2.2)) b).snd (f.1, nx, f.2.2) = sendG n σ (s.setF (f.1, nx, f.2.2)) b (f.1, nx, f.2.2) := rl_snd (by show b ≤ s.log.length; omega) _ (by show 1 ≤ nx; omega) (by show nx ≤ s.log.length + 1; omega)
    show ((rl n σ (s.setF (f.1, nx, f.2.2)) b, [(rl n σ (s.setF (f.1, nx, f.2.2)) b).snd (f.1, nx, f.2.2)]) : GP × List GM) = _
    rw [e3]
    rfl
 ·rw [if_neg ht, if_neg (show ¬ m.g.term = (rl n σ s b).term from ht)]
  rfl
theorem rl_beat (h : Ok n T G s) (hb : b ≤ s.commit) (hr : s.role = 2) : (rl n σ s b).beat = (rl n σ s.beat.1 b, if s.idle + 1 < 3 then [] else s.fol.map (sendG n σ s b)) := by
 have hcom := h.com
 unfold GP.beat PP.beat
 by_cases h1 : s.idle + 1 < 3
 ·rw [if_pos h1, if_pos (show (rl n σ s b).idle + 1 < 3 from h1), if_pos h1]
  rfl
 ·rw [if_neg h1, if_neg (show ¬ (rl n σ s b).idle + 1 < 3 from h1), if_neg h1]
  have e : (rl n σ s b).fol.map (rl n σ s b).snd = s.fol.map (sendG n σ s b) := List.map_congr_left (fun f hf => by
   have := fol_ok h hr f hf
   exact rl_snd (by omega) f this.1 this.2.1)
  rw [e]
  rfl
end
section
variable {ld : Int → Int} {n T G : Nat} {ps : List PP} {way : List QM} {dn : List PE} {g : Gh} {i : Nat} {s : PP}
theorem Alk.inject (h : Alk ld n T G ps way dn g) {ms : List QM} (hm : ∀ m ∈ ms, 3 ≤ m.kind ∧ Mq n g m) : Alk ld n T G ps (way ++ ms) dn g := by
 have e : pm (way ++ ms) = pm way := by
  unfold pm
  have e0 : ms.filter (fun m => m.kind == 1 || m.kind == 2) = [] := List.filter_eq_nil_iff.2 (fun m hx hc => by
   have h1 := (hm m hx).1
   simp at hc
   omega)
  rw [List.filter_append, e0, List.append_nil]
 refine { h with inv := by rw [e]; exact h.inv, ms := fun m hx => ?_, ak := fun m hx hk => ?_ }
 ·rcases List.mem_append.1 hx with hx | hx
  ·exact h.ms m hx
  ·exact (hm m hx).2
 ·rcases List.mem_append.1 hx with hx | hx
  ·exact h.ak m hx hk
  ·have := (hm m hx).1; omega
theorem Ce.low {τ : Int} {l : List PE} {c c' : Nat} (hc : Ce n g τ l c) (h : c' ≤ c) : Ce n g τ l c' := by
 rcases hc with h' | ⟨t, j, h1, h2, h3, h4⟩
 ·exact Or.inl (by omega)
 ·exact Or.inr ⟨t, j, h1, h2, by omega, (List.take_prefix_take_left h).trans h4⟩
theorem mv_crash (hi : i < ps.length) (e : ps[i] = s) (h : Al ld n T G ps way dn) {b : Nat} (hb : b ≤ s.commit) : Al ld n T G (ps.set i (s.crash b)) way dn := by
 obtain ⟨g, h⟩ := h
 subst e
 have hok := (h.inv.ok i hi).1
 have hcom := hok.com
 have ok' : Ok n T G (ps[i].crash b) := { hok with lead := ⟨Int.le_refl _, by show (0 : Int) ≤ (n : Int); omega⟩, idle := ⟨by show (0 : Int) ≤ 0; omega, by show (0 : Int) ≤ 1000; omega⟩, com := by show b ≤ ps[i].log.length; omega, vr := List.Pairwise.nil, vm := fun x hx => (by cases hx), role := Or.inl ⟨rfl, rfl, rfl⟩ }
 have mb : Mb n g (ps[i].crash b) := (h.mb i hi).up (s' := ps[i].crash b) rfl (Int.le_refl _) rfl (fun hr => by have : (0 : Int) = 2 := hr; omega) (fun hr => by have : (0 : Int) = 1 := hr; omega) ((h.mb i hi).cm.low hb)
 have hv : g.V ps[i].id (ps[i].crash b).term = (ps[i].crash b).vote := h.cur hi
 have nx : Nxt n T G g.V ps[i] (ps[i].crash b) (pm []) := ⟨ok', rfl, Int.le_refl _, fun _ _ => rfl, fun m hm => (by cases hm), fun m hm => (by cases hm), fun hr => by have : (0 : Int) = 1 := hr; omega, fun hr => by have : (0 : Int) = 2 := hr; omega⟩
 have k : Mov n T G ps [] g g ps[i] (ps[i].crash b) := ⟨nx, (ghost_same hv).symm, fun _ _ => rfl, fun _ => ⟨[], by simp, fun e he => by cases he⟩, fun _ _ _ => rfl, Nat.le_refl _, fun _ _ _ => rfl, h.gi.a _ _, h.gi.l _, h.gi.p _, fun h0 h1 => absurd h0 h1, fun h0 => absurd rfl h0, mb, fun m hm => (by cases hm), fun m hm => (by cases hm), fun hv0 h0 _ => absurd (hv.symm.trans h0) hv0, fun hv0 h0 => absurd (hv.symm.trans h0) hv0, fun _ _ => (by show (0 : Int) ≠ 1; omega), h.lb _⟩
 have := h.mv hi k (Nat.le_refl _) (Nat.le_refl _)
 rwa [List.append_nil] at this
theorem Al.note (h : Al ld n T G ps way dn) (hi : i < ps.length) (hr : ps[i].role = 2) : (ld ps[i].term ≠ 0 → ld ps[i].term = ps[i].id) ∧ Al (fun t => if t = ps[i].term then ps[i].id else ld t) n T G ps way dn := by
 obtain ⟨g, h⟩ := h
 obtain ⟨h1, h2⟩ := h.inv.note hi hr
 exact ⟨fun h0 => h1.elim (fun e => absurd e h0) id, ⟨g, { h with inv := h2 }⟩⟩
theorem Alk.com_pre (h : Alk ld n T G ps way dn g) (hi : i < ps.length) {t : Int} (ht : ps[i].term ≤ t) (h0 : g.L t ≠ []) : ps[i].log.take ps[i].commit <+: g.L t := by
 rcases (h.mb i hi).cm with hc | ⟨t2, j, c1, c2, c3, c4⟩
 ·rw [hc]; simp
 ·have h1 := h.gi.com c1 (u := t) (by omega) h0
  have h2 : ps[i].log.take ps[i].commit <+: (g.L t2).take j := List.prefix_take_iff.2 ⟨c4, by simp; omega⟩
  exact h2.trans h1
theorem pre_take {l U : List PE} {c b : Nat} (h : l.take c <+: U) (hb : b ≤ c) (hc : c ≤ l.length) : l.take b = U.take b := by
 have h1 : (l.take c).take b = U.take b := by
  obtain ⟨r, hr⟩ := h
  rw [← hr, List.take_append_of_le_length (by simp; omega)]
 rwa [List.take_take, Nat.min_eq_left hb] at h1
theorem take_tAt {l U : List PE} {b : Nat} (h : l.take b = U.take b) (h1 : b ≤ l.length) (h2 : b ≤ U.length) : tAt l b = tAt U b := by
 cases b with
 | zero => rfl
 | succ k =>
  rw [tAt_succ (by omega), tAt_succ (by omega)]
  have e : (l.take (k + 1))[k]? = (U.take (k + 1))[k]? := by rw [h]
  rw [List.getElem?_take_of_lt (by omega), List.getElem?_take_of_lt (by omega), List.getElem?_eq_getElem (by omega), List.getElem?_eq_getElem (by omega)] at e
  exact congrArg PE.t (Option.some.inj e)
theorem mt_self (log : List PE) : ∀ (l : List PE) (i : Nat), l <+: log.drop i → mt log i l = l.length
 | [], _, _ => rfl
 | e :: l, i, h => by
  have h1 : log[i]? = some e := by
   obtain ⟨r, hr⟩ := h
   have := congrArg (fun x => x[0]?) hr
   simp at this
   exact this.symm
  have h2 : l <+: log.drop (i + 1) := by
   obtain ⟨r, hr⟩ := h
   refine ⟨r, ?_⟩
   have := congrArg List.tail hr
   simp at this
   exact this
  show (match log[i]? with | some x => (if x.t = e.t then mt log (i + 1) l + 1 else 0) | none => 0) = _
  rw [h1]
  simp [mt_self log l (i + 1) h2]
end
structure Hd (n T : Nat) (q : QM) : Prop where
 f : 1 ≤ q.frm ∧ q.frm ≤ n
 t : 1 ≤ q.to ∧ q.to ≤ n
 ne : q.frm ≠ q.to
 term : 1 ≤ q.term ∧ q.term ≤ T
def Rw (n T G : Nat) (σ : Nat → ByteArray) (dn : List PE) (o : GM) (q : QM) : Prop :=
 (o = q.g ∧ Sh n T G q) ∨ ∃ c : Nat, 1 ≤ c ∧ q = ⟨3, q.frm, q.to, q.term, 0, 0, c, false, q.ents⟩ ∧ q.ents.length = c ∧ q.ents <+: dn ∧ Hd n T q ∧ o = ⟨5, q.frm, q.to, q.term, c, tAt q.ents c, 0, 0, false, [], mem n, σ c⟩
theorem Rw.mono {n T G T' G' : Nat} {σ : Nat → ByteArray} {dn dn' : List PE} {o : GM} {q : QM} (h : Rw n T G σ dn o q) (hT : T ≤ T') (hG : G ≤ G') (hd : dn <+: dn') : Rw n T' G' σ dn' o q := by
 rcases h with ⟨h1, h2⟩ | ⟨c, h1, h2, h3, h4, h5, h6⟩
 ·exact Or.inl ⟨h1, h2.mono hT hG⟩
 ·exact Or.inr ⟨c, h1, h2, h3, h4.trans hd, ⟨h5.f, h5.t, h5.ne, by have := h5.term; omega⟩, h6⟩
def Sp (ld : Int → Int) (n k : Nat) (σ : Nat → ByteArray) (ps : List PP) (gw : List QM) (dn : List PE) (i : Nat) (s' : PP) (b' : Nat) (out : List GM) : Prop :=
 ∃ gw', Al ld n (k + 1) (k + 1) (ps.set i s') gw' dn ∧ (∀ q ∈ gw, q ∈ gw') ∧ b' ≤ s'.commit ∧ s'.log.take b' <+: dn ∧ ∀ o ∈ out, ∃ q ∈ gw', Rw n (k + 1) (k + 1) σ dn o q
section
variable {ld : Int → Int} {n T G k : Nat} {σ : Nat → ByteArray} {ps : List PP} {way gw : List QM} {dn : List PE} {g : Gh} {i b : Nat} {s u : PP}
theorem send_ok (h : Alk ld n T G ps way dn g) (hi : i < ps.length) (e : ps[i] = u) (hr : u.role = 2) (hb : b ≤ u.commit) (hd : u.log.take b <+: dn) {f : Int × Int × Int} (hf : f.1 ∈ oth n u.id) (h1 : 1 ≤ f.2.1) (h2 : f.2.1 ≤ u.log.length + 1) : ∃ q, (3 ≤ q.kind ∧ Mq n g q) ∧ Rw n T G σ dn (sendG n σ u b f) q := by
 subst e
 have hok := (h.inv.ok i hi).1
 have hcom := hok.com
 have hmb := h.mb i hi
 obtain ⟨hlog, _, _⟩ := hmb.ld hr
 have ht1 : 1 ≤ ps[i].term := by
  rcases hok.role with h' | h' | h'
  ·omega
  ·omega
  ·exact h'.2.2.1
 have hm := oth_mem.1 hf
 unfold sendG
 by_cases hlt : f.2.1 - 1 < (b : Int)
 ·rw [if_pos hlt]
  have hlen : (ps[i].log.take b).length = b := by simp; omega
  refine ⟨⟨3, ps[i].id, f.1, ps[i].term, 0, 0, b, false, ps[i].log.take b⟩, ⟨Int.le_refl _, fun e => by have : (3 : Int) = 1 := e; omega, fun _ => ⟨hmb.le hr, ?_, ?_, rfl, ?_, ?_⟩, fun e => by have : (3 : Int) = 4 := e; omega⟩, Or.inr ⟨b, by omega, rfl, hlen, hd, ⟨⟨hok.id1, hok.idn⟩, hm.1, fun e => hm.2 e.symm, ⟨ht1, hok.tT⟩⟩, ?_⟩⟩
  ·show 0 + (ps[i].log.take b).length ≤ (g.L ps[i].term).length
   rw [hlen, ← hlog]; omega
  ·show ps[i].log.take b = ((g.L ps[i].term).drop 0).take (ps[i].log.take b).length
   rw [hlen, ← hlog]; rfl
  ·show b ≤ (g.L ps[i].term).length
   rw [← hlog]; omega
  ·show Ce n g ps[i].term (g.L ps[i].term) b
   rw [← hlog]; exact hmb.cm.low hb
  ·unfold instG
   have e3 : tAt (ps[i].log.take b) b = tAt ps[i].log b := take_tAt (by rw [List.take_take, Nat.min_self]) (by omega) (by omega)
   show _ = (⟨5, ps[i].id, f.1, ps[i].term, (b : Int), tAt (ps[i].log.take b) b, 0, 0, false, [], mem n, σ b⟩ : GM)
   rw [e3]
 ·rw [if_neg hlt]
  exact ⟨ps[i].msg f, h.sends hi hr f h1 h2, Or.inl ⟨rfl, Or.inr (msg_qok hok ht1 hf h1 h2)⟩⟩
theorem send_all (h : Alk ld n T G ps way dn g) (hi : i < ps.length) (e : ps[i] = u) (hr : u.role = 2) (hb : b ≤ u.commit) (hd : u.log.take b <+: dn) : ∀ F : List (Int × Int × Int), (∀ f ∈ F, f.1 ∈ oth n u.id ∧ 1 ≤ f.2.1 ∧ f.2.1 ≤ u.log.length + 1) → ∃ ms : List QM, (∀ m ∈ ms, 3 ≤ m.kind ∧ Mq n g m) ∧ ∀ o ∈ F.map (sendG n σ u b), ∃ q ∈ ms, Rw n T G σ dn o q
 | [], _ => ⟨[], fun m hm => (by cases hm), fun o ho => (by cases ho)⟩
 | f :: F, hF => by
  obtain ⟨ms, h1, h2⟩ := send_all h hi e hr hb hd F (fun x hx => hF x (by simp [hx]))
  have hf := hF f (by simp)
  obtain ⟨q, h3, h4⟩ := send_ok (σ := σ) h hi e hr hb hd hf.1 hf.2.1 hf.2.2
  refine ⟨q :: ms, fun m hm => ?_, fun o ho => ?_⟩
  ·rcases List.mem_cons.1 hm with rfl | hm
   ·exact h3
   ·exact h1 m hm
  ·rcases List.mem_cons.1 ho with rfl | ho
   ·exact ⟨q, by simp, h4⟩
   ·obtain ⟨q2, h5, h6⟩ := h2 o ho
    exact ⟨q2, by simp [h5], h6⟩
theorem fol_all (h : Ok n T G s) (hr : s.role = 2) : ∀ f ∈ s.fol, f.1 ∈ oth n s.id ∧ 1 ≤ f.2.1 ∧ f.2.1 ≤ s.log.length + 1 := by
 rcases h.role with h' | h' | h'
 ·omega
 ·omega
 ·intro f hf
  have h1 := h'.2.2.2.2.2.2 f hf
  refine ⟨?_, h1.1, h1.2.1⟩
  rw [← h'.2.2.2.2.2.1]
  exact List.mem_map.2 ⟨f, hf, rfl⟩
theorem Sp.of (hi : i < ps.length) (h : Al ld n T G (ps.set i s) way dn) (hT : T ≤ k + 1) (hG : G ≤ k + 1) (hw : ∀ q ∈ gw, q ∈ way) (hb : b ≤ s.commit) (hd : s.log.take b <+: dn) {F : List (Int × Int × Int)} (hr : F ≠ [] → s.role = 2) (hF : ∀ f ∈ F, f.1 ∈ oth n s.id ∧ 1 ≤ f.2.1 ∧ f.2.1 ≤ s.log.length + 1) : Sp ld n k σ ps gw dn i s b (F.map (sendG n σ s b)) := by
 obtain ⟨g, h⟩ := h
 obtain ⟨hi2, e⟩ := set_at hi s
 by_cases h0 : F = []
 ·subst h0
  exact ⟨way, Al.mono ⟨g, h⟩ hT hG, hw, hb, hd, fun o ho => (by cases ho)⟩
 ·obtain ⟨ms, h1, h2⟩ := send_all (σ := σ) h hi2 e (hr h0) hb hd F hF
  refine ⟨way ++ ms, Al.mono ⟨g, h.inject h1⟩ hT hG, fun q hq => List.mem_append.2 (Or.inl (hw q hq)), hb, hd, fun o ho => ?_⟩
  obtain ⟨q, h3, h4⟩ := h2 o ho
  exact ⟨q, List.mem_append.2 (Or.inr h3), h4.mono hT hG (List.prefix_refl _)⟩
theorem Sp.same {out : List QM} (h : Al ld n T G (ps.set i s) (gw ++ out) dn) (hT : T ≤ k + 1) (hG : G ≤ k + 1) (hb : b ≤ s.commit) (hd : s.log.take b <+: dn) (hs : ∀ q ∈ out, Sh n (k + 1) (k + 1) q) : Sp ld n k σ ps gw dn i s b (out.map QM.g) :=
 ⟨gw ++ out, h.mono hT hG, fun q hq => List.mem_append.2 (Or.inl hq), hb, hd, fun o ho => by
  obtain ⟨q, h1, rfl⟩ := List.mem_map.1 ho
  exact ⟨q, List.mem_append.2 (Or.inr h1), Or.inl ⟨rfl, hs q h1⟩⟩⟩
theorem adv_same (s : PP) : s.adv.log = s.log ∧ s.adv.term = s.term ∧ s.adv.id = s.id ∧ s.adv.role = s.role ∧ s.adv.fol = s.fol ∧ s.commit ≤ s.adv.commit := by
 refine ⟨rfl, rfl, rfl, rfl, rfl, ?_⟩
 show s.commit ≤ (if tAt s.log (most s.have).toNat = s.term then max s.commit (most s.have).toNat else s.commit)
 split <;> omega
theorem tick_com (s : PP) (d : Int) : (s.tick n d).1.commit = s.commit := by
 unfold PP.tick PP.winIf
 split
 ·rfl
 ·split
  ·rfl
  ·split <;> rfl
theorem tick_pre (s : PP) (d : Int) : s.log <+: (s.tick n d).1.log := by
 unfold PP.tick PP.winIf
 split
 ·exact List.prefix_refl _
 ·split
  ·exact List.prefix_refl _
  ·split
   ·exact List.prefix_append _ _
   ·exact List.prefix_refl _
theorem pre_take2 {l l' : List PE} {c : Nat} (h : l <+: l') (hc : c ≤ l.length) : l'.take c = l.take c := by
 obtain ⟨r, hr⟩ := h
 rw [← hr, List.take_append_of_le_length hc]
theorem sp_tick (hi : i < ps.length) (e : ps[i] = s) (h : Al ld n k k ps gw dn) (hk : k ≤ 800000) (hb : b ≤ s.commit) (hd : s.log.take s.commit <+: dn) (d : Int) : ∃ out, (rl n σ s b).ltick d = (rl n σ (s.ltick n d).1 b, out) ∧ Sp ld n k σ ps gw dn i (s.ltick n d).1 b out := by
 have hok := (h.ok hi).1
 rw [e] at hok
 have hcom := hok.com
 have hdb : s.log.take b <+: dn := (List.take_prefix_take_left hb).trans hd
 have h1 := mv_ltick hi e h d
 have ht : (rl n σ s b).tick d = (rl n σ (s.tick n d).1 b, (s.tick n d).2.map PM.gx) := rl_tick hok hb (by omega) d
 have hc := tick_com (n := n) s d
 have hp := tick_pre (n := n) s d
 have htk : Al ld n (k + 1) (k + 1) (ps.set i (s.tick n d).1) (gw ++ (s.tick n d).2.map PM.q) dn := mv_tick hi e h d
 obtain ⟨hi2, e2⟩ := set_at hi (s.tick n d).1
 have hok2 := (htk.ok hi2).1
 rw [e2] at hok2
 have hmap : ((s.tick n d).2.map PM.gx).map (·.1) = ((s.tick n d).2.map PM.q).map QM.g := by
  rw [List.map_map, List.map_map]; rfl
 unfold GP.ltick
 rw [ht]
 by_cases hr : (s.tick n d).1.role = 2
 ·rw [if_pos (show (rl n σ (s.tick n d).1 b).role = 2 from hr)]
  have ha : (rl n σ (s.tick n d).1 b).adv = rl n σ (s.tick n d).1.adv b := rl_adv hok2 (by omega) hr
  by_cases hr2 : s.role = 2
  ·rw [if_pos (show (rl n σ s b).role = 2 from hr2)]
   have et : s.tick n d = (s, []) := by unfold PP.tick; rw [if_pos hr2]
   have el : s.ltick n d = s.adv.beat := by
    unfold PP.ltick
    rw [if_pos hr, if_pos hr2, et]
   rw [el] at h1 ⊢
   rw [et] at ha
   simp only [et, ha]
   have hoka : Ok n k k s.adv := adv_ok hok
   have hb' : b ≤ s.adv.commit := Nat.le_trans hb (adv_same s).2.2.2.2.2
   refine ⟨_, rl_beat hoka hb' hr2, ?_⟩
   have e5 : (if s.adv.idle + 1 < 3 then ([] : List GM) else s.adv.fol.map (sendG n σ s.adv b)) = (if s.adv.idle + 1 < 3 then [] else s.adv.fol).map (sendG n σ s.adv.beat.1 b) := by
    have e6 : sendG n σ s.adv b = sendG n σ s.adv.beat.1 b := by
     unfold PP.beat
     split <;> rfl
    rw [e6]
    split <;> rfl
   rw [e5]
   have e7 : s.adv.beat.1.log = s.log ∧ s.adv.beat.1.commit = s.adv.commit ∧ s.adv.beat.1.role = 2 ∧ s.adv.beat.1.id = s.id := by
    unfold PP.beat
    split <;> exact ⟨rfl, rfl, hr2, rfl⟩
   refine Sp.of hi h1 (Nat.le_refl _) (Nat.le_refl _) (fun q hq => List.mem_append.2 (Or.inl hq)) (by rw [e7.2.1]; exact hb') (by rw [e7.1]; exact hdb) (fun _ => e7.2.2.1) (fun f hf => ?_)
   rw [e7.1, e7.2.2.2]
   split at hf
   ·cases hf
   ·exact fol_all hok hr2 f hf
  ·rw [if_neg (show ¬ (rl n σ s b).role = 2 from hr2)]
   have el : s.ltick n d = ((s.tick n d).1.adv, (s.tick n d).2.map PM.q) := by unfold PP.ltick; rw [if_pos hr, if_neg hr2]
   rw [el] at h1 ⊢
   refine ⟨((s.tick n d).2.map PM.q).map QM.g, ?_, Sp.same h1 (Nat.le_refl _) (Nat.le_refl _) (Nat.le_trans (by omega) (adv_same _).2.2.2.2.2) ?_ (tick_sh d)⟩
   ·simp only [ha, hmap]
   ·show (s.tick n d).1.log.take b <+: dn
    rw [pre_take2 hp (by omega)]; exact hdb
 ·rw [if_neg (show ¬ (rl n σ (s.tick n d).1 b).role = 2 from hr)]
  have el : s.ltick n d = ((s.tick n d).1, (s.tick n d).2.map PM.q) := by unfold PP.ltick; rw [if_neg hr]
  rw [el] at h1 ⊢
  refine ⟨((s.tick n d).2.map PM.q).map QM.g, ?_, Sp.same h1 (Nat.le_refl _) (Nat.le_refl _) (by show b ≤ (s.tick n d).1.commit; omega) ?_ (tick_sh d)⟩
  ·simp only [hmap]
  ·show (s.tick n d).1.log.take b <+: dn
   rw [pre_take2 hp (by omega)]; exact hdb
end
def PP.advIf (s : PP) : PP := if s.role = 2 then s.adv else s
section
variable {ld : Int → Int} {n T G k : Nat} {σ : Nat → ByteArray} {ps : List PP} {way gw : List QM} {dn : List PE} {g : Gh} {i b : Nat} {s u : PP}
theorem take_keeps (s : PP) (m : PM) : (s.take n m).1.commit = s.commit ∧ s.log <+: (s.take n m).1.log := by
 have e : ∀ u : PP, (u.take1 n m).1.commit = u.commit ∧ u.log <+: (u.take1 n m).1.log := fun u => by
  unfold PP.take1
  split
  ·split
   ·exact ⟨rfl, List.prefix_refl _⟩
   ·exact ⟨rfl, List.prefix_refl _⟩
  ·split
   ·unfold PP.winIf
    split
    ·exact ⟨rfl, List.prefix_append _ _⟩
    ·exact ⟨rfl, List.prefix_refl _⟩
   ·exact ⟨rfl, List.prefix_refl _⟩
 unfold PP.take
 split
 ·exact e (s.down m.term)
 ·exact e s
theorem sp_votes (hi : i < ps.length) (e : ps[i] = s) (h : Al ld n k k ps gw dn) (hb : b ≤ s.commit) (hd : s.log.take s.commit <+: dn) {q : QM} (hq : q ∈ gw) (hk : q.kind = 1 ∨ q.kind = 2) (hto : q.to = s.id) (hsh : Sh n k k q) : ∃ out, (rl n σ s b).votesTake q.g = (rl n σ (s.take n q.p).1.advIf b, out) ∧ Sp ld n k σ ps gw dn i (s.take n q.p).1.advIf b out := by
 have hok := (h.ok hi).1
 rw [e] at hok
 have hcom := hok.com
 have hdb : s.log.take b <+: dn := (List.take_prefix_take_left hb).trans hd
 have hmo : MOk n k k q.p := by obtain ⟨g, h⟩ := h; exact h.inv.msg _ (pm_mem.2 ⟨q, hq, hk, rfl⟩)
 have eq : q = q.p.q := by
  rcases hsh with h' | h'
  ·exact h'.2
  ·have := h'.kind; omega
 obtain ⟨k1, k2⟩ := take_keeps (n := n) s q.p
 have ht : (rl n σ s b).voteTake q.g = (rl n σ (s.take n q.p).1 b, (s.take n q.p).2.map PM.gx) := by
  have := rl_vote (n := n) (σ := σ) hok (by omega : b ≤ s.log.length) q.p (by show 0 ≤ (q.index : Int); omega) hmo.f
  rwa [← eq] at this
 have h1 := mv_take hi e h hq hk hto
 obtain ⟨hi2, e2⟩ := set_at hi (s.take n q.p).1
 have hok2 := (h1.ok hi2).1
 rw [e2] at hok2
 have hmap : ((s.take n q.p).2.map PM.gx).map (·.1) = ((s.take n q.p).2.map PM.q).map QM.g := by
  rw [List.map_map, List.map_map]; rfl
 have h2 : Al ld n k (k + 1) (ps.set i (s.take n q.p).1.advIf) (gw ++ (s.take n q.p).2.map PM.q) dn := by
  unfold PP.advIf
  split
  ·rename_i hr
   exact Al.then hi h1 (fun ps hi h e => mv_adv hi e h hr)
  ·exact h1
 have ha : (rl n σ (s.take n q.p).1 b).advIf = rl n σ (s.take n q.p).1.advIf b := by
  unfold GP.advIf PP.advIf
  by_cases hr : (s.take n q.p).1.role = 2
  ·rw [if_pos hr, if_pos (show (rl n σ (s.take n q.p).1 b).role = 2 from hr)]
   exact rl_adv hok2 (by omega) hr
  ·rw [if_neg hr, if_neg (show ¬ (rl n σ (s.take n q.p).1 b).role = 2 from hr)]
 have hl : (s.take n q.p).1.advIf.log = (s.take n q.p).1.log ∧ (s.take n q.p).1.commit ≤ (s.take n q.p).1.advIf.commit := by
  unfold PP.advIf
  split
  ·exact ⟨rfl, (adv_same _).2.2.2.2.2⟩
  ·exact ⟨rfl, Nat.le_refl _⟩
 refine ⟨((s.take n q.p).2.map PM.q).map QM.g, ?_, Sp.same h2 (Nat.le_succ _) (Nat.le_refl _) (by omega) ?_ (take_sh q.p)⟩
 ·unfold GP.votesTake
  rw [ht]
  simp only [ha, hmap]
 ·rw [hl.1, pre_take2 k2 (by omega)]
  exact hdb
theorem sp_prop (hi : i < ps.length) (e : ps[i] = s) (h : Al ld n k k ps gw dn) (hb : b ≤ s.commit) (hd : s.log.take s.commit <+: dn) (hr : s.role = 2) (d : ByteArray) : ((rl n σ s b).more d).adv = rl n σ (s.prop d) b ∧ Sp ld n k σ ps gw dn i (s.prop d) b [] := by
 have hok := (h.ok hi).1
 rw [e] at hok
 have hcom := hok.com
 refine ⟨rl_prop hok hb hr d, gw, (mv_prop hi e h hr d).mono (Nat.le_succ _) (Nat.le_refl _), fun _ hq => hq, Nat.le_trans hb (adv_same (s.more d)).2.2.2.2.2, ?_, fun o ho => (by cases ho)⟩
 show (s.log ++ [PE.mk s.term 0 d]).take b <+: dn
 rw [List.take_append_of_le_length (by omega)]
 exact (List.take_prefix_take_left hb).trans hd
theorem sp_cut (hi : i < ps.length) (e : ps[i] = s) (h : Al ld n k k ps gw dn) (hb : b ≤ s.commit) (hd : s.log.take s.commit <+: dn) {c : Nat} (h1 : b ≤ c) (h2 : c ≤ s.commit) {d : ByteArray} (hc : d = σ c) : (rl n σ s b).trimTo c d = rl n σ s c ∧ Sp ld n k σ ps gw dn i s c [] := by
 have hok := (h.ok hi).1
 rw [e] at hok
 have hcom := hok.com
 exact ⟨rl_cut hok.k2 (by omega) c h1 (by omega) d hc, gw, (h.nil hi e).mono (Nat.le_succ _) (Nat.le_succ _), fun _ hq => hq, h2, (List.take_prefix_take_left h2).trans hd, fun o ho => (by cases ho)⟩
theorem sp_crash (hi : i < ps.length) (e : ps[i] = s) (h : Al ld n k k ps gw dn) (hb : b ≤ s.commit) (hd : s.log.take s.commit <+: dn) : (rl n σ s b).kept = rl n σ (s.crash b) b ∧ Sp ld n k σ ps gw dn i (s.crash b) b [] :=
 ⟨rfl, gw, (mv_crash hi e h hb).mono (Nat.le_succ _) (Nat.le_succ _), fun _ hq => hq, Nat.le_refl _, (List.take_prefix_take_left hb).trans hd, fun o ho => (by cases ho)⟩
theorem sp_none (hi : i < ps.length) (e : ps[i] = s) (h : Al ld n k k ps gw dn) (hb : b ≤ s.commit) (hd : s.log.take s.commit <+: dn) : Sp ld n k σ ps gw dn i s b [] :=
 ⟨gw, (h.nil hi e).mono (Nat.le_succ _) (Nat.le_succ _), fun _ hq => hq, hb, (List.take_prefix_take_left hb).trans hd, fun o ho => (by cases ho)⟩
theorem join_keeps {l : List PE} {x : Nat} {w : PP} (h2 : x ≤ s.log.length) (hj : s.join x l = some w) : w.commit = s.commit ∧ w.log.take s.commit = s.log.take s.commit := by
 have hm := mt_len s.log l x h2
 unfold PP.join at hj
 split at hj
 ·cases hj; exact ⟨rfl, rfl⟩
 ·split at hj
  ·cases hj
  ·rename_i h3
   cases hj
   refine ⟨rfl, ?_⟩
   show (s.log.take (x + mt s.log x l) ++ l.drop (mt s.log x l)).take s.commit = _
   rw [List.take_append_of_le_length (by simp; omega), List.take_take, Nat.min_eq_left (by omega)]
theorem lay_keeps (m : QM) : s.commit ≤ (s.lay m).1.commit ∧ (s.lay m).1.log.take s.commit = s.log.take s.commit := by
 unfold PP.lay
 split
 ·exact ⟨Nat.le_refl _, rfl⟩
 ·rename_i h
  cases hj : s.join m.index m.ents with
  | none => exact ⟨Nat.le_refl _, rfl⟩
  | some w =>
   have h2 := join_keeps (by omega) hj
   refine ⟨?_, h2.2⟩
   show s.commit ≤ max w.commit (min m.commit (m.index + m.ents.length))
   omega
theorem tlay_keeps (m : QM) : s.commit ≤ (s.tlay m).1.commit ∧ (s.tlay m).1.log.take s.commit = s.log.take s.commit := by
 unfold PP.tlay
 split
 ·exact ⟨Nat.le_refl _, rfl⟩
 ·split
  ·exact ⟨Nat.le_refl _, rfl⟩
  ·exact lay_keeps (s := { s.down m.term with lead := m.frm, idle := 0 }) m
theorem rais_same (s : PP) (t : Int) : (s.rais t).log = s.log ∧ (s.rais t).commit = s.commit ∧ (s.rais t).id = s.id := by
 unfold PP.rais
 split <;> exact ⟨rfl, rfl, rfl⟩
theorem above_ok {q : QM} {U : List PE} (hq : QOk n T G q) (hk : q.kind = 3) (hL : Lg q.term U) (m1 : q.index + q.ents.length ≤ U.length) (m2 : q.ents = (U.drop q.index).take q.ents.length) (hlt : q.index < b) (hbU : b ≤ U.length) (hbG : b ≤ G) : QOk n T G (q.above U b) ∧ (q.above U b).index + (q.above U b).ents.length ≤ U.length ∧ (q.above U b).ents = (U.drop (q.above U b).index).take (q.above U b).ents.length ∧ ∀ e ∈ q.ents.drop (b - q.index), tAt U b ≤ e.t := by
 obtain ⟨l1, l2, l3, l4, l5⟩ := hq.lay hk
 have ht0 : (0 : Int) ≤ q.term := by have := hq.term; omega
 have hta := tAt_ok hL ht0 (i := b) hbU
 have e1 : q.ents.drop (b - q.index) = (U.drop b).take (q.ents.length - (b - q.index)) := by
  have := congrArg (List.drop (b - q.index)) m2
  rw [List.drop_take, List.drop_drop, show q.index + (b - q.index) = b by omega] at this
  exact this
 have hlow : ∀ e ∈ q.ents.drop (b - q.index), tAt U b ≤ e.t := fun e he => by
  rw [e1] at he
  exact tAt_low hL.1 hbU (fun x hx => by have := (hL.2 x hx).1; omega) e (List.mem_of_mem_take he)
 have hlen : (q.ents.drop (b - q.index)).length = q.ents.length - (b - q.index) := by simp
 refine ⟨{ hq with index := hbG, lterm := ⟨hta.1, hta.2.1⟩, lay := fun _ => ⟨l1, hta.2.2, ?_, l4.sub (List.drop_sublist _ _), hlow⟩, hrd := fun h4 => by have : q.kind = 4 := h4; omega }, ?_, ?_, hlow⟩
 ·show (q.ents.drop (b - q.index)).length ≤ 16
  rw [hlen]; omega
 ·show b + (q.ents.drop (b - q.index)).length ≤ U.length
  rw [hlen]; omega
 ·show q.ents.drop (b - q.index) = (U.drop b).take (q.ents.drop (b - q.index)).length
  rw [hlen]; exact e1
theorem sp_lay (hi : i < ps.length) (e : ps[i] = s) (h : Al ld n k k ps gw dn) (hb : b ≤ s.commit) (hd : s.log.take s.commit <+: dn) {q : QM} (hq : q ∈ gw) (hk : q.kind = 3) (hto : q.to = s.id) (hsh : QOk n k k q) : ∃ m : QM, (rl n σ s b).ltake q.g = (rl n σ (s.ltake m).1 b, (s.ltake m).2.map QM.g) ∧ Sp ld n k σ ps gw dn i (s.ltake m).1 b ((s.ltake m).2.map QM.g) := by
 have hok := (h.ok hi).1
 rw [e] at hok
 have hcom := hok.com
 have hdb : s.log.take b <+: dn := (List.take_prefix_take_left hb).trans hd
 obtain ⟨r1, r2, r3⟩ := rais_same s q.term
 obtain ⟨l1, l2, l3, l4, l5⟩ := hsh.lay hk
 have hk2 : ∀ e ∈ q.ents, e.k ≠ 2 := fun e he => by
  rcases (l4.2 e he).2 with h' | h' <;> omega
 have hrt := rais_term (s := s) (t := q.term)
 have fin : ∀ (m : QM) (w : List QM), m.kind = 3 → m.term = q.term → m.frm = q.frm → QOk n k k m → m.to = s.id → (∀ x ∈ gw, x ∈ w) → m ∈ w → Al ld n k k ps w dn → Sp ld n k σ ps gw dn i (s.ltake m).1 b ((s.ltake m).2.map QM.g) := by
  intro m w mk mt mf mq mto hw hmw hal
  have h1 := mv_ltake hi e hal hmw (Or.inl mk) (by rw [mt]; exact hsh.term.2) (by rw [mf]; have := hsh.f; omega)
  obtain ⟨hi2, e2⟩ := set_at hi (s.ltake m).1
  have hok2 := (h1.ok hi2).1
  rw [e2] at hok2
  have hkp : s.commit ≤ (s.ltake m).1.commit ∧ (s.ltake m).1.log.take s.commit = s.log.take s.commit := by
   unfold PP.ltake
   rw [if_pos mk]
   obtain ⟨a1, a2, _⟩ := rais_same s m.term
   have := tlay_keeps (s := s.rais m.term) m
   rwa [a1, a2] at this
  refine ⟨w ++ (s.ltake m).2, h1.mono (Nat.le_succ _) (Nat.le_succ _), fun x hx => List.mem_append.2 (Or.inl (hw x hx)), by omega, ?_, fun o ho => ?_⟩
  ·have : (s.ltake m).1.log.take b = s.log.take b := by
    have h3 := congrArg (List.take b) hkp.2
    rwa [List.take_take, List.take_take, Nat.min_eq_left hb] at h3
   rw [this]; exact hdb
  ·obtain ⟨x, hx, rfl⟩ := List.mem_map.1 ho
   exact ⟨x, List.mem_append.2 (Or.inr hx), Or.inl ⟨rfl, Or.inr ((ltake_qok hok mq mto hok2 x hx).mono (Nat.le_succ _) (Nat.le_succ _))⟩⟩
 have big : ∀ m : QM, m.kind = 3 → m.term = q.term → m.frm = q.frm → (q.term < (s.rais q.term).term ∨ (s.rais q.term).role = 2 ∨ ((s.rais q.term).hears q = { (s.rais q.term).down q.term with lead := q.frm, idle := 0 } ∧ (rl n σ ((s.rais q.term).hears q) b).layTo q.g = (rl n σ (((s.rais q.term).hears q).lay m).1 b, (((s.rais q.term).hears q).lay m).2.map QM.g))) → (rl n σ s b).ltake q.g = (rl n σ (s.ltake m).1 b, (s.ltake m).2.map QM.g) := by
  intro m mk mt mf hc
  unfold GP.ltake PP.ltake
  rw [if_pos (show q.g.kind = 3 from hk), if_pos mk, show q.g.term = q.term from rfl, rl_raise, mt]
  unfold GP.takeLay PP.tlay
  rw [mt, mf]
  by_cases h1 : q.term < (s.rais q.term).term
  ·rw [if_pos h1, if_pos (show q.g.term < (rl n σ (s.rais q.term) b).term from h1), rl_lastI (by rw [r1]; omega)]
   rfl
  ·rw [if_neg h1, if_neg (show ¬ q.g.term < (rl n σ (s.rais q.term) b).term from h1)]
   by_cases h2 : (s.rais q.term).role = 2
   ·rw [if_pos h2, if_pos (show (rl n σ (s.rais q.term) b).role = 2 from h2)]
    rfl
   ·rw [if_neg h2, if_neg (show ¬ (rl n σ (s.rais q.term) b).role = 2 from h2), rl_hears q q.g rfl rfl]
    rcases hc with hc | hc | hc
    ·exact absurd hc h1
    ·exact absurd hc h2
    ·rw [hc.2]
     rfl
 by_cases h1 : q.term < s.term
 ·refine ⟨q, big q hk rfl rfl (Or.inl (by omega)), fin q gw hk rfl rfl hsh hto (fun _ hx => hx) hq h⟩
 ·obtain ⟨g, h'⟩ := h
  obtain ⟨hL0, m1, m2, m3, m4, m5⟩ := (h'.ms q hq).lay hk
  have hcp := h'.com_pre hi (t := q.term) (by rw [e]; omega) hL0
  rw [e] at hcp
  have hLg := h'.gi.l q.term
  have hcU : s.commit ≤ (g.L q.term).length := by have := hcp.length_le; simp at this; omega
  have htb : s.log.take b = (g.L q.term).take b := pre_take hcp hb hcom
  have hU : tAt s.log b = tAt (g.L q.term) b := take_tAt htb (by omega) (by omega)
  have hgl := hok.glen
  have hlow : ∀ e ∈ q.ents.drop (b - q.index), tAt (g.L q.term) b ≤ e.t := fun e he => by
   have e1 : q.ents.drop (b - q.index) <+: (g.L q.term).drop (q.index + (b - q.index)) := by
    have := congrArg (List.drop (b - q.index)) m2
    rw [List.drop_take, List.drop_drop] at this
    rw [this]; exact List.take_prefix _ _
   have e2 := e1.mem he
   by_cases hlt : b ≤ q.index + (b - q.index)
   ·refine tAt_low hLg.1 (by omega) (fun x hx => by have := (hLg.2 x hx).1; omega) e ?_
    rw [show q.index + (b - q.index) = b + (q.index + (b - q.index) - b) by omega, ← List.drop_drop] at e2
    exact List.mem_of_mem_drop e2
   ·omega
  have hl0 : q.index = 0 → q.lterm = 0 := l2.1
  have hlog : ((s.rais q.term).hears q).log = s.log := r1
  have hlay := rl_layU (n := n) (σ := σ) (s := (s.rais q.term).hears q) (b := b) (m := q) (U := g.L q.term) (by rw [hlog]; omega) (by rw [hlog]; exact hok.k2) hk2 hl0 (by rw [hlog]; exact hok.log.1) (by rw [hlog]; intro x hx; have := (hok.log.2 x hx).1; omega) l5 (by rw [hlog]; exact hU) hlow
  by_cases hlt : q.index < b
  ·rw [if_pos hlt] at hlay
   obtain ⟨a1, a2, a3, a4⟩ := above_ok hsh hk hLg m1 m2 hlt (by omega) (by omega)
   refine ⟨q.above (g.L q.term) b, big _ hk rfl rfl (Or.inr (Or.inr ⟨rfl, hlay⟩)), fin _ (gw ++ [q.above (g.L q.term) b]) hk rfl rfl a1 hto (fun x hx => List.mem_append.2 (Or.inl hx)) (by simp) ⟨g, h'.inject (fun x hx => ?_)⟩⟩
   rw [List.mem_singleton.1 hx]
   refine ⟨by show (3 : Int) ≤ q.kind; omega, fun e => by have : q.kind = 1 := e; omega, fun _ => ⟨hL0, a2, a3, rfl, m4, m5⟩, fun e => by have : q.kind = 4 := e; omega⟩
  ·rw [if_neg hlt] at hlay
   exact ⟨q, big q hk rfl rfl (Or.inr (Or.inr ⟨rfl, hlay⟩)), fin q gw hk rfl rfl hsh hto (fun _ hx => hx) hq ⟨g, h'⟩⟩
end
end Go.Proofs.YthekbhliokcpcaaGreat
