/- What a step makes of a group with logs. A step of a group with logs. A message is taken off what is under way. -/
import Derived.Test.YthipgcojbhcdgaaGreatLho
import Derived.Test.YthipgcojbhcdgaaGreatLqk
import Derived.Deep.LoopGhost
import Derived.Deep.DeepCutAuto
import Derived.Deep.CutBlock
namespace Go.Proofs.YthipgcojbhcdgaaGreat
open Go.RowKit Go.Maps Go.Sort
/-- A message under way, with where its entries lie. -/
def Wq (n T G : Nat) (o : QM × Option Addr × Nat) : Prop := Sh n T G o.1 ∧ (o.1.kind < 3 → o.2 = (none, 0))
theorem Wq.mono {n T G T' G' : Nat} {o : QM × Option Addr × Nat} (h : Wq n T G o) (hT : T ≤ T') (hG : G ≤ G') : Wq n T' G' o := ⟨h.1.mono hT hG, h.2⟩
/-- A group in memory, and what holds of it behind k steps. -/
structure Gk (W : World) (n b gP cP k : Nat) (vW vD : Value) (L : List (PP × Px)) (Q : List (QM × Option Addr × Nat)) (dn : List PE) (w : World) : Prop where
  gs : Gs W n b gP cP vW vD L Q dn w
  al : Al n k k (L.map (·.1)) (Q.map (·.1)) dn
  wq : ∀ o ∈ Q, Wq n k k o
  ql : Q.length ≤ 300
/-- What a call has made of a member, and what it sends. -/
structure Sd (n k q : Nat) (L : List (PP × Px)) (Q : List (QM × Option Addr × Nat)) (dn : List PE) (w : World) (s1 : PP) (x1 : Px) (vO : Value) (O : List (QM × Option Addr × Nat)) (w' : World) : Prop where
  pg : Pg w.heap.size w' n s1 x1
  oo : E27q.O w.heap.size w' vO O
  oe : ∀ o ∈ O, E69.O w.heap.size w' (.slice o.2.1 o.1.ents.length o.2.2) o.1.ents
  ol : O.length ≤ 64
  bel : Bel w w'
  al : Al n (k + 1) (k + 1) ((L.map (·.1)).set q s1) (Q.map (·.1) ++ O.map (·.1)) dn
  wq : ∀ o ∈ O, Wq n (k + 1) (k + 1) o
/-- Behind a call, with what it sent. -/
structure Gm (W : World) (n b gP cP k : Nat) (vW vD : Value) (L : List (PP × Px)) (Q : List (QM × Option Addr × Nat)) (dn : List PE) (vO : Value) (O : List (QM × Option Addr × Nat)) (w : World) : Prop where
  gs : Gs W n b gP cP vW vD L Q dn w
  al : Al n k k (L.map (·.1)) (Q.map (·.1) ++ O.map (·.1)) dn
  wq : ∀ o ∈ Q, Wq n k k o
  wo : ∀ o ∈ O, Wq n k k o
  ql : Q.length ≤ 300
  oo : E27q.O 0 w vO O
  oe : ∀ o ∈ O, E69.O 0 w (.slice o.2.1 o.1.ents.length o.2.2) o.1.ents
  od : ∀ o ∈ O, ∀ j, (Value.slice o.2.1 o.1.ents.length o.2.2).ownBlock = some j → vD.ownBlock ≠ some j
  ol : O.length ≤ 64
section
variable {W w w' w1 w2 : World} {n b gP cP k q : Nat} {vW vD vO vW' vD' : Value} {L : List (PP × Px)} {Q O : List (QM × Option Addr × Nat)} {dn : List PE} {s s1 : PP} {z x1 : Px}
theorem Gk.next (h : Gk W n b gP cP k vW vD L Q dn w) (hb : Bel w w') : Gk W n b gP cP k vW vD L Q dn w' := ⟨h.gs.next hb, h.al, h.wq, h.ql⟩
theorem Gm.next (h : Gm W n b gP cP k vW vD L Q dn vO O w) (hb : Bel w w') : Gm W n b gP cP k vW vD L Q dn vO O w' := ⟨h.gs.next hb, h.al, h.wq, h.wo, h.ql, h.oo.bel hb, fun o ho => (h.oe o ho).bel hb, h.od, h.ol⟩
theorem Gk.ok (h : Gk W n b gP cP k vW vD L Q dn w) (hq : q < L.length) (e : L[q] = (s, z)) : Ok n k k s ∧ s.id = (q : Int) + 1 := by
  have := h.al.ok (i := q) (by simpa using hq)
  simpa [e] using this
theorem Gk.pq (h : Gk W n b gP cP k vW vD L Q dn w) (hq : q < L.length) (e : L[q] = (s, z)) : Pq w n s z := by
  have := (h.gs.pf _ (List.getElem_mem hq)).pq
  rwa [e] at this
/-- A member is put in its place. -/
theorem Gk.put (h : Gk W n b gP cP k vW vD L Q dn w) (hs : Sd n k q L Q dn w s1 x1 vO O w1) (ho : (E32 n).O W.heap.size w2 (.slice (some ⟨gP, 0, none⟩) n cP) (L.set q (s1, x1))) (hc : Ch (fun j => j = gP) w1 w2) : Gm W n b gP cP (k + 1) vW vD (L.set q (s1, x1)) Q dn vO O w2 := by
  obtain ⟨cur, hcur⟩ := (h.gs.next hs.bel).row.block (k := gP) rfl
  have hcur : w1.heap[gP]? = some (.cells cur 56) := hcur
  refine ⟨h.gs.put hs.bel hs.pg ho hc, by rw [List.map_set]; exact hs.al, fun o hm => (h.wq o hm).mono (Nat.le_succ _) (Nat.le_succ _), hs.wq, h.ql, (hs.oo.mono (Nat.zero_le _)).box hcur (by decide) hc, fun o hm => ((hs.oe o hm).mono (Nat.zero_le _)).box hcur (by decide) hc, fun o hm j hj hd => ?_, hs.ol⟩
  have l1 := ((hs.oe o hm).lt hj).1
  have l2 := (h.gs.dO.lt hd).2
  omega
/-- Nothing was sent, nobody has changed. -/
theorem Gk.idle (h : Gk W n b gP cP k vW vD L Q dn w) : Gm W n b gP cP (k + 1) vW vD L Q dn (.slice none 0 0) [] w :=
  ⟨h.gs, by simpa using h.al.mono (Nat.le_succ _) (Nat.le_succ _), fun o hm => (h.wq o hm).mono (Nat.le_succ _) (Nat.le_succ _), fun o hm => (by cases hm), h.ql, El.O.nil _ _, fun o hm => (by cases hm), fun o hm => (by cases hm), Nat.zero_le _⟩
theorem Gk.later (h : Gk W n b gP cP k vW vD L Q dn w) : Gk W n b gP cP (k + 1) vW vD L Q dn w :=
  ⟨h.gs, h.al.mono (Nat.le_succ _) (Nat.le_succ _), fun o hm => (h.wq o hm).mono (Nat.le_succ _) (Nat.le_succ _), h.ql⟩
/-- What was sent is on its way. -/
theorem Gm.join (h : Gm W n b gP cP k vW vD L Q dn vO O w) (hl : Q.length < 150) (hO : E27q.O W.heap.size w1 vW' (Q ++ O)) (hg : w.grownBy w1 vW.ownBlock) (hr : w2.heap[b]? = some (.cells (gc n gP cP vW' vD) 51)) (hc : Ch (fun j => j = b) w1 w2) : Gk W n b gP cP k vW' vD L (Q ++ O) dn w2 :=
  ⟨h.gs.joinW h.oe h.od hO hg hr hc, by rw [List.map_append]; exact h.al, fun o hm => (List.mem_append.1 hm).elim (h.wq o) (h.wo o), by have := h.ol; simp; omega⟩
theorem Gm.skip (h : Gm W n b gP cP k vW vD L Q dn vO O w) : Gk W n b gP cP k vW vD L Q dn w :=
  ⟨h.gs, h.al.lose (fun _ hm => List.mem_append_left _ hm), h.wq, h.ql⟩
/-- Behind the look at what is committed. -/
theorem Gk.held (h : Gk W n b gP cP k vW vD L Q dn w) (hq : q < L.length) (hg : Gs W n b gP cP vW vD' L Q (doneUp dn L[q].1) w') : Gk W n b gP cP k vW vD' L Q (doneUp dn L[q].1) w' := by
  have := (h.al.hold1 (i := q) (by simpa using hq)).1
  exact ⟨hg, by simpa using this, h.wq, h.ql⟩
/-- A message is gone. -/
theorem Gk.lost (h : Gk W n b gP cP k vW vD L Q dn w) {Q' : List (QM × Option Addr × Nat)} (he : ∀ o ∈ Q', o ∈ Q) (hl : Q'.length ≤ 300) (hO : E27q.O W.heap.size w vW' Q') (hr : w'.heap[b]? = some (.cells (gc n gP cP vW' vD) 51)) (hc : Ch (fun j => j = b) w w') : Gk W n b gP cP k vW' vD L Q' dn w' :=
  ⟨h.gs.setW hO he hr hc, h.al.lose (fun m hm => by
    obtain ⟨o, ho, rfl⟩ := List.mem_map.1 hm
    exact List.mem_map.2 ⟨o, he o ho, rfl⟩), fun o ho => h.wq o (he o ho), hl⟩
end
theorem tick_ix (n : Nat) (s : PP) (d : Int) : ∀ m ∈ (s.tick n d).2, 0 ≤ m.index := by
  unfold PP.tick
  split
  · intro m hm; cases hm
  · split
    · intro m hm; cases hm
    · intro m hm
      obtain ⟨i, _, rfl⟩ := List.mem_map.1 hm
      show (0 : Int) ≤ (s.log.length : Int)
      omega
theorem tick_len (n : Nat) (s : PP) (d : Int) : (s.tick n d).2.length ≤ n := by
  unfold PP.tick
  split
  · exact Nat.zero_le _
  · split
    · exact Nat.zero_le _
    · show ((oth n _).map _).length ≤ n
      rw [List.length_map]
      exact Nat.le_trans (List.length_filter_le _ _) (by rw [mem_len]; exact Nat.le_refl _)
theorem ltick_len {n T G : Nat} {s : PP} (hok : Ok n T G s) (hn : n ≤ 64) (d : Int) : (s.ltick n d).2.length ≤ 64 := by
  have h1 := tick_len n s d
  unfold PP.ltick
  split
  · split
    · rename_i h2
      have e : (s.tick n d).1 = s := by unfold PP.tick; rw [if_pos h2]
      rw [e]
      unfold PP.beat
      split
      · exact Nat.zero_le _
      · show (s.adv.fol.map _).length ≤ 64
        rw [List.length_map]
        exact fol_len (adv_ok hok) hn
    · rw [List.length_map]; omega
  · rw [List.length_map]; omega
theorem take_len1 (n : Nat) (s : PP) (m : PM) : (s.take n m).2.length ≤ 1 := by
  unfold PP.take
  generalize (if s.term < m.term then s.down m.term else s) = u
  unfold PP.take1
  split
  · split <;> exact Nat.le_refl _
  · split <;> exact Nat.zero_le _
theorem ltake_len1 (s : PP) (m : QM) : (s.ltake m).2.length ≤ 1 := by
  unfold PP.ltake
  generalize s.rais m.term = u
  split
  · unfold PP.tlay
    split
    · exact Nat.le_refl _
    · split
      · exact Nat.zero_le _
      · generalize ({ u.down m.term with lead := m.frm, idle := 0 } : PP) = v
        unfold PP.lay
        split
        · exact Nat.le_refl _
        · split
          · exact Nat.zero_le _
          · exact Nat.le_refl _
  · unfold PP.theard
    split
    · split
      · exact Nat.zero_le _
      · dsimp only
        split
        · dsimp only
          split
          · exact Nat.zero_le _
          · exact Nat.le_refl _
        · exact Nat.le_refl _
    · exact Nat.zero_le _
section
variable {W w : World} {n b gP cP k q : Nat} {vW vD : Value} {L : List (PP × Px)} {Q : List (QM × Option Addr × Nat)} {dn : List PE} {s : PP} {z : Px}
/-- What a call answers, in one form. -/
def SdR (n k q : Nat) (L : List (PP × Px)) (Q : List (QM × Option Addr × Nat)) (dn : List PE) (w : World) (s1 : PP) (out : List QM) (e : Ending) (w' : World) : Prop := ∃ x1 aO cO O, e = .returned (.tuple #[.agg (pc n s1 x1), .slice aO O.length cO, .int .i64 0]) ∧ O.map (·.1) = out ∧ Sd n k q L Q dn w s1 x1 (.slice aO O.length cO) O w'
theorem SdR.of {s1 : PP} {out : List QM} {x1 : Px} {aO : Option Addr} {cO : Nat} {w' : World} (hp : Pg w.heap.size w' n s1 x1) (hm : Mo w.heap.size w' (.slice aO out.length cO) out) (hb : Bel w w') (hal : Al n (k + 1) (k + 1) ((L.map (·.1)).set q s1) (Q.map (·.1) ++ out) dn) (hl : out.length ≤ 64) (hsh : ∀ m ∈ out, Sh n (k + 1) (k + 1) m) : SdR n k q L Q dn w s1 out (.returned (.tuple #[.agg (pc n s1 x1), .slice aO out.length cO, .int .i64 0])) w' := by
  obtain ⟨O, h1, h2, h3⟩ := hm
  have e : O.length = out.length := by rw [← h1, List.length_map]
  refine ⟨x1, aO, cO, O, by rw [e], h1, hp, by rw [e]; exact h2, fun o ho => (h3 o ho).1, by omega, hb, by rw [h1]; exact hal, fun o ho => ⟨hsh _ (by rw [← h1]; exact List.mem_map.2 ⟨o, ho, rfl⟩), (h3 o ho).2⟩⟩
theorem lose_sub {Q Q' : List (QM × Option Addr × Nat)} {out : List QM} (hQ : ∀ o ∈ Q', o ∈ Q) : ∀ m ∈ Q'.map (·.1) ++ out, m ∈ Q.map (·.1) ++ out := fun m hm => by
  rcases List.mem_append.1 hm with hm | hm
  · obtain ⟨o, ho, rfl⟩ := List.mem_map.1 hm
    exact List.mem_append_left _ (List.mem_map.2 ⟨o, hQ o ho, rfl⟩)
  · exact List.mem_append_right _ hm
theorem tick_sd (h : Gk W n b gP cP k vW vD L Q dn w) (hn : n ≤ 64) (hk : k ≤ 800000) (hq : q < L.length) (e : L[q] = (s, z)) (d : Int) (hd : 0 ≤ d) : Calls Tryz.prog 42 #[.agg (pc n s z), .int .i64 d] w (SdR n k q L Q dn w (s.ltick n d).1 (s.ltick n d).2) := by
  have hok := (h.ok hq e).1
  have hqm : q < (L.map (·.1)).length := by simpa using hq
  have hgm : (L.map (·.1))[q] = s := by simp [e]
  have hal := mv_ltick hqm hgm h.al d
  have hok1 : Ok n (k + 1) (k + 1) (s.tick n d).1 := by
    have := (mv_tick hqm hgm h.al d).ok (i := q) (by simpa using hq)
    simpa using this.1
  refine (ltick_any (h.pq hq e) hok hn (by omega) (by omega) d hd hok1 (by omega) (tick_ix n s d)).mono ?_
  rintro _ _ ⟨x1, aA, cA, rfl, hf, hm, hb⟩
  exact SdR.of hf.pg hm hb hal (ltick_len hok hn d) (fun m hm => (ltick_sh hok d m hm).mono (Nat.le_succ _) (Nat.le_succ _))
theorem take_sd (hp : Pq w n s z) (hal0 : Al n k k (L.map (·.1)) (Q.map (·.1)) dn) (hwq : ∀ o ∈ Q, Wq n k k o) {Q' : List (QM × Option Addr × Nat)} (hQ : ∀ o ∈ Q', o ∈ Q) (hn : n ≤ 64) (hk : k ≤ 800000) (hq : q < L.length) (e : L[q] = (s, z)) {o : QM × Option Addr × Nat} (ho : o ∈ Q) (hkd : o.1.kind = 1 ∨ o.1.kind = 2) (hto : o.1.to = s.id) : Calls Tryz.prog 43 #[.agg (pc n s z), .agg (qc o.1 o.2.1 o.2.2)] w (SdR n k q L Q' dn w (s.take n o.1.p).1 ((s.take n o.1.p).2.map PM.q)) := by
  have hqm : q < (L.map (·.1)).length := by simpa using hq
  have hgm : (L.map (·.1))[q] = s := by simp [e]
  have hok : Ok n k k s := by have := (hal0.ok hqm).1; rwa [hgm] at this
  have hom : o.1 ∈ Q.map (·.1) := List.mem_map.2 ⟨o, ho, rfl⟩
  have hal := mv_take hqm hgm hal0 hom hkd hto
  have hmo : MOk n k k o.1.p := by
    obtain ⟨g, hg⟩ := hal0
    exact hg.inv.msg _ (pm_mem.2 ⟨o.1, hom, hkd, rfl⟩)
  have hq1 : o.1 = o.1.p.q := by
    rcases (hwq o ho).1 with h1 | h1
    · exact h1.2
    · rcases h1.kind with h2 | h2 <;> omega
  have hq2 := (hwq o ho).2 (by omega)
  have hcs : qc o.1 o.2.1 o.2.2 = mc o.1.p := by
    rw [mc_q _ hmo.index.1, ← hq1, hq2]
  rw [hcs]
  refine (take_any hp hok hmo hto hn (by omega) (by omega)).mono ?_
  rintro _ _ ⟨x1, aA, cA, rfl, hf, hm, hb⟩
  have hix : ∀ y ∈ (s.take n o.1.p).2, 0 ≤ y.index := by
    unfold PP.take
    generalize (if s.term < o.1.p.term then s.down o.1.p.term else s) = u
    unfold PP.take1
    split
    · split <;> (intro y hy; rw [List.mem_singleton.1 hy]; exact Int.le_refl _)
    · split <;> (intro y hy; cases hy)
  have hm2 := Mo.of_pm hm hix
  have hlen : (s.take n o.1.p).2.length = ((s.take n o.1.p).2.map PM.q).length := by rw [List.length_map]
  rw [hlen] at hm2 ⊢
  exact SdR.of hf.pg hm2 hb ((hal.mono (Nat.le_succ _) (Nat.le_refl _)).lose (lose_sub hQ)) (by have := take_len1 n s o.1.p; rw [List.length_map]; omega) (take_sh o.1.p)
theorem ltake_sd (hp : Pq w n s z) (hal0 : Al n k k (L.map (·.1)) (Q.map (·.1)) dn) (hwq : ∀ o ∈ Q, Wq n k k o) {Q' : List (QM × Option Addr × Nat)} (hQ : ∀ o ∈ Q', o ∈ Q) (hn : n ≤ 64) (hk : k ≤ 800000) (hq : q < L.length) (e : L[q] = (s, z)) {o : QM × Option Addr × Nat} (ho : o ∈ Q) (hen0 : E69.O 0 w (.slice o.2.1 o.1.ents.length o.2.2) o.1.ents) (hkd : ¬ (o.1.kind = 1 ∨ o.1.kind = 2)) (hto : o.1.to = s.id) : Calls Tryz.prog 44 #[.agg (pc n s z), .agg (qc o.1 o.2.1 o.2.2)] w (SdR n k q L Q' dn w (s.ltake o.1).1 (s.ltake o.1).2) := by
  have hqm : q < (L.map (·.1)).length := by simpa using hq
  have hgm : (L.map (·.1))[q] = s := by simp [e]
  have hok : Ok n k k s := by have := (hal0.ok hqm).1; rwa [hgm] at this
  have hom : o.1 ∈ Q.map (·.1) := List.mem_map.2 ⟨o, ho, rfl⟩
  have hqo : QOk n k k o.1 := by
    rcases (hwq o ho).1 with h1 | h1
    · exact absurd h1.1 hkd
    · exact h1
  have hal := mv_ltake hqm hgm hal0 hom hqo.kind hqo.term.2 (by have := hqo.f; omega)
  have hok' : Ok n k k (s.ltake o.1).1 := by
    have := hal.ok (i := q) (by simpa using hq)
    simpa using this.1
  have hen := Sl.of hen0
  refine (ltake_any hp hok hqo hto hn (by omega) (by omega) hen.1 hen.2.2).mono ?_
  rintro _ _ ⟨x1, aA, cA, rfl, hf, hm, hb⟩
  exact SdR.of hf hm hb ((hal.mono (Nat.le_succ _) (Nat.le_succ _)).lose (lose_sub hQ)) (by have := ltake_len1 s o.1; omega) (fun m hm => Or.inr ((ltake_qok hok hqo hto hok' m hm).mono (Nat.le_succ _) (Nat.le_succ _)))
theorem prop_sd (h : Gk W n b gP cP k vW vD L Q dn w) (hn : n ≤ 64) (hk : k ≤ 800000) (hq : q < L.length) (e : L[q] = (s, z)) (d : ByteArray) (hd : d.size ≤ 1048576) (hr : s.role = 2) : Calls Tryz.prog 16 #[.agg (pc n s z), .string d] w fun e w' => ∃ x1 v, e = .returned (.tuple #[.agg (pc n (s.prop d) x1), v, .int .i64 0]) ∧ Sd n k q L Q dn w (s.prop d) x1 (.slice none 0 0) [] w' := by
  have hok := (h.ok hq e).1
  have hqm : q < (L.map (·.1)).length := by simpa using hq
  have hgm : (L.map (·.1))[q] = s := by simp [e]
  have hal := mv_prop hqm hgm h.al hr d
  refine (prop_any (h.pq hq e) hok hn (by omega) (by omega) d hr hd).mono ?_
  rintro _ _ ⟨x1, rfl, hf, hb⟩
  exact ⟨x1, _, rfl, hf.pg, El.O.nil _ _, fun o ho => (by cases ho), Nat.zero_le _, hb, by simpa using hal.mono (Nat.le_succ _) (Nat.le_refl _), fun o ho => (by cases ho)⟩
end
end Go.Proofs.YthipgcojbhcdgaaGreat
namespace Go.Proofs.YthipgcojbhcdgaaGreat
open Go.RowKit Go.Maps Go.Sort
/-- A step that is handed in. -/
structure Act4 where
  op : Int
  a : Int
  n : Int
  keep : Bool
def ac (A : Act4) : Array Value := #[.int .i64 A.op, .int .i64 A.a, .int .i64 A.n, .bool A.keep]
abbrev PG := List PP × List QM × List PE
/-- A member is put in its place, what it sends goes on its way, what it has committed is known. -/
def put1 (g : PG) (q : Nat) (s : PP) (out : List QM) : PG := (g.1.set q s, if g.2.1.length < 150 then g.2.1 ++ out else g.2.1, doneUp g.2.2 s)
/-- A step but for proposals. -/
def pstep (n : Nat) (g : PG) (op : Int) (ma mn : Nat) (keep : Bool) : PG :=
  if op = 0 then (match g.1[ma % n]? with | some s => put1 g (ma % n) (s.ltick n mn).1 (s.ltick n mn).2 | none => g)
  else match g.2.1[mn % g.2.1.length]? with
    | none => g
    | some m =>
      if op = 2 then (g.1, g.2.1.take (mn % g.2.1.length) ++ g.2.1.drop (mn % g.2.1.length + 1), g.2.2)
      else match g.1[(m.to - 1).toNat]? with
        | none => g
        | some s => put1 (if keep then g else (g.1, g.2.1.take (mn % g.2.1.length) ++ g.2.1.drop (mn % g.2.1.length + 1), g.2.2)) (m.to - 1).toNat (if m.kind = 1 ∨ m.kind = 2 then (s.take n m.p).1 else (s.ltake m).1) (if m.kind = 1 ∨ m.kind = 2 then (s.take n m.p).2.map PM.q else (s.ltake m).2)
def pg (L : List (PP × Px)) (Q : List (QM × Option Addr × Nat)) (dn : List PE) : PG := (L.map (·.1), Q.map (·.1), dn)
theorem i64_mask (z : Int) (m : Nat) (hm : m < 9223372036854775808) : ∃ k : Nat, k ≤ m ∧ bits .and .i64 z (m : Int) = (k : Int) := by
  refine ⟨(BitVec.ofInt 64 z &&& BitVec.ofInt 64 (m : Int)).toNat, ?_, ?_⟩
  · rw [BitVec.toNat_and, ofInt_u64 m (by omega)]; exact Nat.and_le_right
  · show IntKind.i64.wrap ((BitVec.ofInt 64 z &&& BitVec.ofInt 64 (m : Int)).toNat : Int) = _
    have h : (BitVec.ofInt 64 z &&& BitVec.ofInt 64 (m : Int)).toNat ≤ m := by
      rw [BitVec.toNat_and, ofInt_u64 m (by omega)]; exact Nat.and_le_right
    exact wrapI (by omega) (by omega)
theorem eq_put {L : List (PP × Px)} {q : Nat} (hq : q < L.length) {s1 : PP} {x1 : Px} : (L.set q (s1, x1)).map (·.1) = (L.map (·.1)).set q s1 ∧ ((L.set q (s1, x1))[q]'(by simpa using hq)).1 = s1 := by
  refine ⟨by rw [List.map_set], by simp⟩
section
variable {ops : Array Oper} {rest : List Oper} {o : Oper} {a : Act} {Q : Exit → Act → World → Prop} {W : World}
/-- What is under way grows. -/
theorem elq_app {base : Nat} {v : Value} {way out : List (QM × Option Addr × Nat)} {aO : Option Addr} {mO cO : Nat} (h : E27q.O base W v way) (hbase : base ≤ W.heap.size) (hO : E27q.O 0 W (.slice aO mO cO) out) (hol : out.length ≤ 64) (hwl : way.length ≤ 300) (x y : Operand) (hgd : o.guard = none) (ho : o.op = .call { callee := .builtin .append, args := #[x, y], argTypes := #[49, 49] }) (hs : a.eval x = v) (hy : a.eval y = .slice aO mO cO)
    (hK : ∀ a' c' w', E27q.O base w' (.slice a' (way.length + out.length) c') (way ++ out) → W.grownBy w' v.ownBlock → wpList Tryz.prog ops Q rest (a.put o.dst (.slice a' (way.length + out.length) c')) w') : wpList Tryz.prog ops Q (o :: rest) a W := by
  obtain ⟨h1, h2, h3⟩ := Sl.of hO
  refine app_el (E := E27q) out h hbase aO mO cO h2.symm h1 (by omega) hgd x y 49 rfl ho hs hy (fun v' w' k1 k2 => ?_)
  obtain ⟨a', c', g', e, _⟩ := k1.shape
  subst e
  rw [List.length_append] at k1 ⊢
  exact hK a' c' w' k1 k2
/-- A list of the group is another one. -/
theorem gcw_st (x y : Operand) (b : Nat) {n gP cP : Nat} {vW vD : Value} {aW : Option Addr} {mW cW : Nat} (hg : W.heap[b]? = some (.cells (gc n gP cP vW vD) 51)) (hgd : o.guard = none) (ho : o.op = .store 49 x y) (hx : a.eval x = .pointer (some ⟨b, 1, none⟩)) (hy : a.eval y = .slice aW mW cW)
    (hK : ∀ w', w'.heap[b]? = some (.cells (gc n gP cP (.slice aW mW cW) vD) 51) → Ch (fun k => k = b) W w' → wpList Tryz.prog ops Q rest (a.put o.dst undef) w') : wpList Tryz.prog ops Q (o :: rest) a W :=
  bx_set hgd 49 x y ho b 1 _ hx hy rfl rfl (gc n gP cP vW vD) 51 hg (by kernel_rfl) (by show 1 < 3; decide) hK
end
section
variable {o : Oper} {a : Act} {w : World}
theorem gc0_run (x : Operand) (ho : o.op = .load 48 x) {b n gP cP : Nat} {vW vD : Value} (hx : a.eval x = .pointer (some ⟨b, 0, none⟩)) (hb : w.heap[b]? = some (.cells (gc n gP cP vW vD) 51)) : (execOp a.eval o).run Tryz.prog w = .ok (.value (.slice (some ⟨gP, 0, none⟩) n cP)) w := by
  have y : w.cell? ⟨b, 0, none⟩ = some (.slice (some ⟨gP, 0, none⟩) n cP) := (cell_of hb).trans rfl
  unfold execOp
  simp only [ho, hx]
  go_simp
end
def StR (W : World) (n b gP cP k : Nat) (g' : PG) (e : Ending) (w' : World) : Prop := e = .returned (.bool true) ∧ ∃ vW' vD' L' Q' dn', Gk W n b gP cP (k + 1) vW' vD' L' Q' dn' w' ∧ pg L' Q' dn' = g'
theorem pg_put {L : List (PP × Px)} {Q O Q2 : List (QM × Option Addr × Nat)} {dn : List PE} {q : Nat} (hq : q < L.length) {s1 : PP} {x1 : Px} {out : List QM} (hO : O.map (·.1) = out) (h : (Q.length < 150 ∧ Q2 = Q ++ O) ∨ (¬ Q.length < 150 ∧ Q2 = Q)) : pg (L.set q (s1, x1)) Q2 (doneUp dn ((L.set q (s1, x1))[q]'(by simpa using hq)).1) = put1 (pg L Q dn) q s1 out := by
  unfold pg put1
  rw [(eq_put hq).1, (eq_put hq).2]
  simp only [List.length_map]
  rcases h with ⟨h1, rfl⟩ | ⟨h1, rfl⟩
  · rw [if_pos h1, List.map_append, hO]
  · rw [if_neg h1]
theorem set_self {L : List (PP × Px)} {q : Nat} (hq : q < L.length) {s : PP} {z : Px} (e : L[q] = (s, z)) : L.set q (s, z) = L := by rw [← e]; exact List.set_getElem_self hq
set_option maxRecDepth 100000 in
set_option maxHeartbeats 16000000 in
theorem step_0 {W w : World} {n b gP cP k : Nat} {vW vD : Value} {L : List (PP × Px)} {Q : List (QM × Option Addr × Nat)} {dn : List PE} (h : Gk W n b gP cP k vW vD L Q dn w) (hn1 : 1 ≤ n) (hn64 : n ≤ 64) (hk : k ≤ 800000) (A : Act4) (iz : Int) (ma mn : Nat) (hma : bits .and .i64 A.a 65535 = (ma : Int)) (hmn : bits .and .i64 A.n 65535 = (mn : Int)) (hop : A.op = 0) : Calls Tryz.prog 15 #[.pointer (some ⟨b, 0, none⟩), .agg (ac A), .int .i64 iz] w (StR W n b gP cP k (pstep n (pg L Q dn) 0 ma mn A.keep)) := by
  have hln := h.gs.len
  obtain ⟨q, hqe⟩ : ∃ q : Nat, q = ma % n := ⟨_, rfl⟩
  have hqn : q < n := by rw [hqe]; exact Nat.mod_lt _ (by omega)
  have hqt : (ma : Int).tmod (n : Int) = (q : Int) := by rw [Int.tmod_eq_emod_of_nonneg (by omega)]; omega
  have hqt' : (ma : Int) % (n : Int) = (q : Int) := by omega
  have hn0 : ((n : Int) == 0) = false := beq_eq_false_iff_ne.2 (by omega)
  have hk9 : k + 1 ≤ 900000 := by omega
  have hql : q < L.length := by omega
  obtain ⟨s, z, hsz⟩ : ∃ s z, L[q] = (s, z) := ⟨_, _, rfl⟩
  have HG := hide h
  have HQL : Hid (q < L.length) := hide hql
  have HSX : Hid (L[q]'hql = (s, z)) := hide hsz
  have HQE := hide hqe
  obtain ⟨g', hg'⟩ : ∃ g', g' = pstep n (pg L Q dn) 0 ma mn A.keep := ⟨_, rfl⟩
  rw [← hg']
  have hge : g' = put1 (pg L Q dn) q (s.ltick n mn).1 (s.ltick n mn).2 := by
    rw [hg']
    unfold pstep
    rw [if_pos rfl, ← hqe]
    have e1 : (pg L Q dn).1[q]? = some s := by simp [pg, hql, hsz]
    rw [e1]
  have HGE := hide hge
  have HTk : Hid (∀ w', Gk W n b gP cP k vW vD L Q dn w' → Calls Tryz.prog 42 #[.agg (pc n s z), .int .i64 (mn : Int)] w' (SdR n k q L Q dn w' (s.ltick n mn).1 (s.ltick n mn).2)) := hide (fun w' hw' => tick_sd hw' hn64 hk hql hsz (mn : Int) (by omega))
  obtain ⟨s1, hs1⟩ : ∃ s1, s1 = (s.ltick n mn).1 := ⟨_, rfl⟩
  obtain ⟨out, hout⟩ : ∃ out, out = (s.ltick n mn).2 := ⟨_, rfl⟩
  rw [← hs1, ← hout] at HTk HGE
  clear h hln hsz hg' hge hs1 hout hqe
  go_enter Tryz.func15, Tryz.ntmps15
  go_wp2_with (first
    | (refine bx_boxH 46 (.tmp 1) (by exact rfl) (by exact rfl) (ac A) (by exact rfl) ?_; intro b4 w0 hr0 hs0 hb0; have HV := hide ((unhide HG).next hb0); have HR4 := hide hr0; have c1 : w0.cell? ⟨b4, 1, none⟩ = some (.int .i64 A.a) := (cell_of hr0).trans rfl; have y0 := (unhide HV).gs.c0; clear hr0 hs0 hb0 HG))
  go_quiet (fail)
  have hb1 := (Bel.refl w0).drewN nq
  replace HV := hide ((unhide HV).next hb1)
  replace HR4 := hide (hb1.row (unhide HR4))
  clear hb1 c1 y0
  generalize w0.drewN nq = w1 at *
  have c0 : w1.cell? ⟨b4, 0, none⟩ = some (.int .i64 A.op) := (cell_of (unhide HR4)).trans rfl
  have c2 : w1.cell? ⟨b4, 2, none⟩ = some (.int .i64 A.n) := (cell_of (unhide HR4)).trans rfl
  rw [hop] at c0
  go_wp2_with fail
  clear c0 c2
  have hGd := (unhide HV).next (Bel.refl w1).drew
  refine wp_region_held_drew (S := fun w => w.heap[b]? = some (.cells (gc n gP cP vW vD) 51)) Tryz.follows hGd.gs.box (fun hS => ?_)
  generalize w1.drew = wd at *
  refine any_take (i := 0) (v := .pointer (some ⟨b, 0, none⟩)) rfl (by kernel_rfl) (by kernel_rfl) (by kernel_rfl) (fun _ _ _ h => h) rfl hS (fun w hw => by go_simp) ?_
  refine any_take (i := 1) (v := .pointer (some ⟨b, 0, none⟩)) rfl (by kernel_rfl) (by kernel_rfl) (by kernel_rfl) (fun _ _ _ h => h) rfl hS (fun w hw => by go_simp) ?_
  refine any_take (i := 2) (v := .pointer (some ⟨b, 0, none⟩)) rfl (by kernel_rfl) (by kernel_rfl) (by kernel_rfl) (fun _ _ _ h => h) rfl hS (fun w hw => by go_simp) ?_
  refine any_take (i := 3) (v := .slice (some ⟨gP, 0, none⟩) n cP) rfl (by kernel_rfl) (by kernel_rfl) (by kernel_rfl) (fun _ _ _ h => h) rfl hS (fun w hw => by have := (cell_of hw : w.cell? ⟨b, 0, none⟩ = _); change w.cell? ⟨b, 0, none⟩ = some (.slice (some ⟨gP, 0, none⟩) n cP) at this; go_simp) ?_
  refine any_take (i := 4) (v := .int .i64 (q : Int)) rfl (by kernel_rfl) (by kernel_rfl) (by kernel_rfl) (fun _ _ _ h => h) rfl hS (fun w hw => by go_simp) ?_
  refine any_take (i := 5) (v := .pointer (some ⟨b, 0, none⟩)) rfl (by kernel_rfl) (by kernel_rfl) (by kernel_rfl) (fun _ _ _ h => h) rfl hS (fun w hw => by go_simp) ?_
  refine any_take (i := 6) (v := .pointer (some ⟨b, 0, none⟩)) rfl (by kernel_rfl) (by kernel_rfl) (by kernel_rfl) (fun _ _ _ h => h) rfl hS (fun w hw => by go_simp) ?_
  refine any_take (i := 7) (v := .pointer (some ⟨b, 0, none⟩)) rfl (by kernel_rfl) (by kernel_rfl) (by kernel_rfl) (fun _ _ _ h => h) rfl hS (fun w hw => by go_simp) ?_
  refine any_take (i := 8) (v := .slice (some ⟨gP, 0, none⟩) n cP) rfl (by kernel_rfl) (by kernel_rfl) (by kernel_rfl) (fun _ _ _ h => h) rfl hS (fun w hw => by have := (cell_of hw : w.cell? ⟨b, 0, none⟩ = _); change w.cell? ⟨b, 0, none⟩ = some (.slice (some ⟨gP, 0, none⟩) n cP) at this; go_simp) ?_
  refine any_take (i := 9) (v := .int .i64 (q : Int)) rfl (by kernel_rfl) (by kernel_rfl) (by kernel_rfl) (fun _ _ _ h => h) rfl hS (fun w hw => by go_simp) ?_
  refine any_take (i := 10) (v := .pointer (some ⟨gP, q * 18, none⟩)) rfl (by kernel_rfl) (by kernel_rfl) (by kernel_rfl) (fun _ _ _ h => h) rfl hS (fun w hw => by go_simp) ?_
  refine any_take (i := 12) (v := .int .i64 (mn : Int)) rfl (by kernel_rfl) (by kernel_rfl) (by kernel_rfl) (fun _ _ _ h => h) rfl hS (fun w hw => by go_simp) ?_
  refine any_do (i := 11) (v := .agg (pc n s z)) (w' := wd) (by kernel_rfl) rfl rfl (el_ld_run (E := E32 n) (.tmp 72) (by exact rfl) gP q (by show _ = Value.pointer (some ⟨gP, q * 18, none⟩); go_simp) hGd.gs.row (unhide HQL) Tryz.underlying56 (pc n s z) (by rw [unhide HSX]; rfl)) ⟨hS, ?_⟩
  refine any_call (i := 13) (by kernel_rfl) rfl rfl (by go_simp) ((unhide HTk) wd hGd) ?_
  rintro e w5 ⟨x1, aO, cO, O, rfl, hO, hsd⟩
  have hG5 := hGd.next hsd.bel
  have hS5 : w5.heap[b]? = some (.cells (gc n gP cP vW vD) 51) := hG5.gs.box
  refine ⟨_, rfl, hS5, ?_⟩
  refine any_take (i := 14) (v := .tuple #[.agg (pc n s1 x1), .slice aO O.length cO, .int .i64 0]) rfl (by kernel_rfl) (by kernel_rfl) (by kernel_rfl) (fun _ _ _ h => h) rfl hS5 (fun w hw => by go_simp) ?_
  refine any_take (i := 15) (v := .agg (pc n s1 x1)) rfl (by kernel_rfl) (by kernel_rfl) (by kernel_rfl) (fun _ _ _ h => h) rfl hS5 (fun w hw => by go_simp) ?_
  refine any_take (i := 16) (v := .slice aO O.length cO) rfl (by kernel_rfl) (by kernel_rfl) (by kernel_rfl) (fun _ _ _ h => h) rfl hS5 (fun w hw => by go_simp) ?_
  refine any_take (i := 17) (v := .int .i64 0) rfl (by kernel_rfl) (by kernel_rfl) (by kernel_rfl) (fun _ _ _ h => h) rfl hS5 (fun w hw => by go_simp) ?_
  refine any_take (i := 18) (v := .pointer (some ⟨gP, q * 18, none⟩)) rfl (by kernel_rfl) (by kernel_rfl) (by kernel_rfl) (fun _ _ _ h => h) rfl hS5 (fun w hw => by go_simp) ?_
  have hGM := hGd.put hsd (hG5.gs.row.put q (unhide HQL) (s1, x1)) (ch_setCells _ _ _ _)
  refine any_skip (i := 19) (w' := w5.setCells gP (q * (E32 n).k) ((E32 n).enc (s1, x1))) (by kernel_rfl) rfl rfl (el_st_run (E := E32 n) (.tmp 79) (.tmp 76) (by exact rfl) gP q (by show _ = Value.pointer (some ⟨gP, q * 18, none⟩); go_simp) (pc n s1 x1) (by go_simp) (s1, x1) rfl hG5.gs.row (unhide HQL)) ⟨hGM.gs.box, ?_⟩
  have hS6 : (w5.setCells gP (q * (E32 n).k) ((E32 n).enc (s1, x1))).heap[b]? = some (.cells (gc n gP cP vW vD) 51) := hGM.gs.box
  generalize w5.setCells gP (q * (E32 n).k) ((E32 n).enc (s1, x1)) = w6 at *
  refine any_do (i := 20) (v := .slice aO O.length cO) (w' := w6) (by kernel_rfl) rfl rfl (by go_simp) ⟨hS6, ?_⟩
  refine any_do (i := 21) (v := .int .i64 0) (w' := w6) (by kernel_rfl) rfl rfl (by go_simp) ⟨hS6, ?_⟩
  refine wpAnyH_done (by kernel_rfl) ?_ _
  have HM := hide hGM
  have HO := hide hO
  clear hGM hO hsd hS hS5 hS6 hGd hG5
  have HQ2 : Hid (q < (L.set q (s1, x1)).length) := hide (by simpa using unhide HQL)
  have HWL : Hid ((Q).length ≤ 300) := hide (unhide HM).ql
  have HBS := hide (unhide HM).gs.bel.size
  obtain ⟨aW2, cW2, gW2, eW2, _, _, _⟩ := (unhide HM).gs.wo.shape
  subst eW2
  have y1 := (unhide HM).gs.c1
  simp [Act.put]
  by_cases hl : (Q).length < 150
  · have hli : ((Q).length : Int) < 150 := by omega
    go_wp2_with (first
      | (at_builtin; with_reducible refine elq_app (unhide HM).gs.wo (unhide HBS) (unhide HM).oo (unhide HM).ol (unhide HWL) (.tmp 191) (.tmp 192) ?_ ?_ ?_ ?_ ?_; exact rfl; exact rfl; (first | exact rfl | simp [Act.eval]); (first | exact rfl | simp [Act.eval]); intro a8 c8 w8 ho8 hg8; have HJ := hide (And.intro ho8 hg8); have HBX := hide (row_grown (unhide HM).gs.box (unhide HM).gs.wo hg8 (by decide)); have y1 : w8.cell? ⟨b, 1, none⟩ = some (.slice aW2 (Q).length cW2) := (cell_of (unhide HBX)).trans rfl; have f1 : w8.frozen? ⟨b, 1, none⟩ = false := free_row (unhide HBX); clear ho8 hg8)
      | (go_at_call 45; have HK := hide ((unhide HM).join hl (unhide HJ).1 (unhide HJ).2 (w2 := w8.setCell ⟨b, 1, none⟩ (.slice a8 ((Q).length + O.length) c8)) (row_set (unhide HBX)) (Ch.set (ad := ⟨b, 1, none⟩) (Ch.refl (fun j => j = b) w8) (Or.inl rfl) _)); refine (holds_any (unhide HK).gs (unhide HK).al hn64 hk9 (unhide HQ2)).mono ?_; rintro e wz ⟨rfl, vD9, hgz⟩; have HF := hide ((unhide HK).held (unhide HQ2) hgz); clear hgz))
    go_ret
    exact ⟨rfl, _, _, _, _, _, unhide HF, (by rw [unhide HGE]; exact pg_put (unhide HQL) (unhide HO) (Or.inl ⟨hl, rfl⟩))⟩
  · have hli : ¬ (((Q).length : Int) < 150) := by omega
    have HK := hide (unhide HM).skip
    go_wp2_with (first
      | (go_at_call 45; refine (holds_any (unhide HK).gs (unhide HK).al hn64 hk9 (unhide HQ2)).mono ?_; rintro e wz ⟨rfl, vD9, hgz⟩; have HF := hide ((unhide HK).held (unhide HQ2) hgz); clear hgz))
    go_ret
    exact ⟨rfl, _, _, _, _, _, unhide HF, (by rw [unhide HGE]; exact pg_put (unhide HQL) (unhide HO) (Or.inr ⟨hl, rfl⟩))⟩
end Go.Proofs.YthipgcojbhcdgaaGreat
namespace Go.Proofs.YthipgcojbhcdgaaGreat
open Go.RowKit Go.Maps Go.Sort
section
variable {o : Oper} {a : Act} {w : World}
theorem app_run49 (x y : Operand) (ho : o.op = .call { callee := .builtin .append, args := #[x, y], argTypes := #[49, 49] }) {v1 v2 v' : Value} {w' : World} (hs : a.eval x = v1) (hy : a.eval y = v2) (hrun : (Builtin.append_ #[49, 49] o.type #[v1, v2]).run Tryz.prog w = .ok v' w') : (execOp a.eval o).run Tryz.prog w = .ok (.value v') w' := by
  unfold execOp
  simp only [ho, resolve, invoke, builtin, Sem.run_bind, Sem.run_pure, Result.andThen_ok, List.map_toArray, List.map_cons, List.map_nil, hs, hy, hrun]
set_option maxRecDepth 100000 in
theorem sl_lo_run (x y : Operand) (ho : o.op = .slice 49 x none (some y) none) (g m c r : Nat) (hx : a.eval x = .slice (some ⟨g, 0, none⟩) m c) (hy : a.eval y = .int .i64 (r : Int)) (hr : r ≤ c) : (execOp a.eval o).run Tryz.prog w = .ok (.value (.slice (some ⟨g, 0, none⟩) r c)) w := by
  have hr' : (r : Int) ≤ c := by omega
  unfold execOp
  simp only [ho, hx, Option.map_some, Option.map_none, hy]
  go_simp
set_option maxRecDepth 100000 in
theorem sl_hi_run (x y : Operand) (ho : o.op = .slice 49 x (some y) none none) (g m c r : Nat) (hx : a.eval x = .slice (some ⟨g, 0, none⟩) m c) (hy : a.eval y = .int .i64 (r : Int)) (hr : r ≤ m) (hm : m ≤ c) : (execOp a.eval o).run Tryz.prog w = .ok (.value (.slice (if c = r then some ⟨g, 0, none⟩ else some ⟨g, r * 12, none⟩) (m - r) (c - r))) w := by
  have hr' : (r : Int) ≤ m := by omega
  have hm' : (m : Int) ≤ c := by omega
  have hrc : (r : Int) ≤ c := by omega
  unfold execOp
  simp only [ho, hx, Option.map_some, Option.map_none, hy]
  go_simp
end
section
variable {W w : World} {n b gP cP k gW cW r : Nat} {vD : Value} {L : List (PP × Px)} {Q : List (QM × Option Addr × Nat)} {dn : List PE}
theorem rem_q (h : Gk W n b gP cP k (.slice (some ⟨gW, 0, none⟩) Q.length cW) vD L Q dn w) (hr : r < Q.length) : ∃ v1 w1 a2 l2 c2 w2, (Builtin.append_ #[49, 49] 49 #[.slice none 0 0, .slice (some ⟨gW, 0, none⟩) r cW]).run Tryz.prog w = .ok v1 w1 ∧ (Builtin.append_ #[49, 49] 49 #[v1, .slice (if cW = r + 1 then some ⟨gW, 0, none⟩ else some ⟨gW, (r + 1) * 12, none⟩) (Q.length - (r + 1)) (cW - (r + 1))]).run Tryz.prog w1 = .ok (.slice a2 l2 c2) w2 ∧ Bel w w1 ∧ Bel w w2 ∧ E27q.O W.heap.size w2 (.slice a2 l2 c2) (Q.take r ++ Q.drop (r + 1)) := by
  have hO := h.gs.wo
  have hc := (Sl.of hO).2.2
  have hql := h.ql
  have l1 : (Q.take r).length = r := by rw [List.length_take]; omega
  have l2 : (Q.drop (r + 1)).length = Q.length - (r + 1) := by rw [List.length_drop]
  obtain ⟨v1, w1, hr1, ho1, hg1, _⟩ := El.run_app (E := E27q) w w.heap.size (.slice none 0 0) [] (Q.take r) (El.O.nil _ _) (Nat.le_refl _) (some ⟨gW, 0, none⟩) gW 0 cW (fun _ => rfl) (hO.row.take r) (by simp; omega) 49
  have hb1 : Bel w w1 := ((Ch.refl (fun i => w.heap.size ≤ i) w).grown hg1 (fun i hi => by cases hi)).below (Nat.le_refl _) (fun _ hi => hi)
  rw [l1] at hr1
  have hR : Sl E27q w1 (if cW = r + 1 then some ⟨gW, 0, none⟩ else some ⟨gW, (r + 1) * 12, none⟩) (Q.drop (r + 1)) := by
    by_cases e : cW = r + 1
    · rw [List.drop_of_length_le (by omega)]
      exact Sl.nil _ _ _
    · rw [if_neg e]
      refine ⟨gW, (r + 1) * 12, fun _ => rfl, ?_⟩
      have := (hO.row.drop (r + 1)).bel hb1
      rw [Nat.zero_add] at this
      exact this
  obtain ⟨g2, off2, ha2, hR2⟩ := hR
  obtain ⟨v2, w2, hr2, ho2, hg2, _⟩ := El.run_app (E := E27q) w1 w.heap.size v1 ([] ++ Q.take r) (Q.drop (r + 1)) ho1 hb1.size (if cW = r + 1 then some ⟨gW, 0, none⟩ else some ⟨gW, (r + 1) * 12, none⟩) g2 off2 (cW - (r + 1)) ha2 hR2 (by simp; omega) 49
  have hb2 : Bel w w2 := ((hb1.ch (fun i => w.heap.size ≤ i)).grown hg2 (fun i hi => Or.inl (ho1.lt hi).1)).below (Nat.le_refl _) (fun _ hi => hi)
  rw [l2] at hr2
  obtain ⟨a2, c2, g3, e, _⟩ := ho2.shape
  subst e
  exact ⟨v1, w1, a2, _, c2, w2, hr1, hr2, hb1, hb2, by rw [List.nil_append] at ho2; exact ho2.mono h.gs.bel.size⟩
theorem Gk.gone (h : Gk W n b gP cP k (.slice (some ⟨gW, 0, none⟩) Q.length cW) vD L Q dn w) {w2 : World} (hb : Bel w w2) {v2 : Value} (hO : E27q.O W.heap.size w2 v2 (Q.take r ++ Q.drop (r + 1))) : Gk W n b gP cP k v2 vD L (Q.take r ++ Q.drop (r + 1)) dn (w2.setRow b (gc n gP cP v2 vD)) := by
  have h2 := h.next hb
  have hc := ch_row (c' := gc n gP cP v2 vD) h2.gs.box
  refine h2.lost (fun o ho => ?_) ?_ hO hc.1 hc.2
  · rcases List.mem_append.1 ho with h1 | h1
    · exact List.mem_of_mem_take h1
    · exact List.mem_of_mem_drop h1
  · have := h.ql
    simp
    omega
end
section
variable {ops : Array Oper} {rest : List Oper} {o : Oper} {a : Act} {Q : Exit → Act → World → Prop} {W : World}
theorem elq_ld (x : Operand) (g i : Nat) (m : QM × Option Addr × Nat) {base cap l : Nat} {L : List (QM × Option Addr × Nat)} (h : E27q.O base W (.slice (some ⟨g, 0, none⟩) l cap) L) (hi : i < L.length) (e : L[i] = m) (hgd : o.guard = none) (ho : o.op = .load 27 x) (hx : a.eval x = .pointer (some ⟨g, i * 12, none⟩))
    (hK : wpList Tryz.prog ops Q rest (a.put o.dst (.agg (qc m.1 m.2.1 m.2.2))) W) : wpList Tryz.prog ops Q (o :: rest) a W := el_ld hgd x ho g i hx h hi Tryz.underlying27 (qc m.1 m.2.1 m.2.2) (by rw [e]; rfl) hK
theorem bxq_new (hgd : o.guard = none) (ho : o.op = .alloc 27)
    (hK : ∀ b w', w'.heap[b]? = some (.cells (qc q0 none 0) 27) → W.heap.size = b → Bel W w' → wpList Tryz.prog ops Q rest (a.put o.dst (.pointer (some ⟨b, 0, none⟩))) w') : wpList Tryz.prog ops Q (o :: rest) a W := bx_new hgd 27 ho _ Tryz.zeroq hK
theorem bxq_st (x y : Operand) (b : Nat) (m : QM) (ad : Option Addr) (c : Nat) {m2 : QM} {ad2 : Option Addr} {c2 : Nat} (hg : W.heap[b]? = some (.cells (qc m2 ad2 c2) 27)) (hgd : o.guard = none) (ho : o.op = .store 27 x y) (hx : a.eval x = .pointer (some ⟨b, 0, none⟩)) (hy : a.eval y = .agg (qc m ad c))
    (hK : ∀ w', w'.heap[b]? = some (.cells (qc m ad c) 27) → Ch (fun k => k = b) W w' → wpList Tryz.prog ops Q rest (a.put o.dst undef) w') : wpList Tryz.prog ops Q (o :: rest) a W := bx_st hgd 27 x y ho b (qc m ad c) _ hx hy hg (Tryz.sizeq _ _ _) rfl (qc_one _ _ _) hK
end
theorem Gk.to {W w : World} {n b gP cP k : Nat} {vW vD : Value} {L : List (PP × Px)} {Q : List (QM × Option Addr × Nat)} {dn : List PE} (h : Gk W n b gP cP k vW vD L Q dn w) {o : QM × Option Addr × Nat} (ho : o ∈ Q) : 1 ≤ o.1.to ∧ o.1.to ≤ n := by
  rcases (h.wq o ho).1 with h1 | h1
  · obtain ⟨g, hg⟩ := h.al
    exact (hg.inv.msg _ (pm_mem.2 ⟨o.1, List.mem_map.2 ⟨o, ho, rfl⟩, h1.1, rfl⟩)).t
  · exact h1.t
end Go.Proofs.YthipgcojbhcdgaaGreat
