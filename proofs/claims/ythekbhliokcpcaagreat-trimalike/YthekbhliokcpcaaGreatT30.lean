/- A member whose log was cut off stands for one that has it whole: what is asked of both. What a tick, votes, a proposal, a cut and a crash make of a member whose log was cut off: just what is left of what they make of the whole one. What is sent may be: plain. -/
import Derived.Test.YthekbhliokcpcaaGreatT29
import Derived.Test.YthekbhliokcpcaaGreatT22
import Derived.Test.YthekbhliokcpcaaGreatT27
namespace Go.Proofs.YthekbhliokcpcaaGreat
def PE.g (e : PE) : GE := ⟨e.t, e.k, e.d, []⟩
def QM.g (m : QM) : GM := ⟨m.kind, m.frm, m.to, m.term, m.index, m.lterm, m.commit, 0, m.ok, m.ents.map PE.g, [], ⟨#[]⟩⟩
def rl (n : Nat) (σ : Nat → ByteArray) (s : PP) (b : Nat) : GP := ⟨s.id, mem n, s.term, s.vote, s.role, s.lead, b, tAt s.log b, mem n, σ b, (s.log.drop b).map PE.g, s.commit, s.idle, s.wait, s.votes, s.fol, 0, []⟩
theorem ba_none : (⟨#[]⟩ : ByteArray).toList = [] := by
 rw [ByteArray.toList, ByteArray.toList.loop]
 rfl
section
variable {n T G : Nat} {σ : Nat → ByteArray} {s : PP} {b : Nat}
theorem rl_lastI (hb : b ≤ s.log.length) : (rl n σ s b).lastI = s.lastI := by
 unfold GP.lastI PP.lastI rl
 simp
 omega
theorem tAt_end {l : List PE} (h : l ≠ []) : tAt l l.length = lastOf l := by
 have h1 := List.length_pos_iff.2 h
 obtain ⟨k, hk⟩ : ∃ k, l.length = k + 1 := ⟨l.length - 1, by omega⟩
 rw [hk, tAt_succ (by omega), lastOf_eq h]
 congr 1
 congr 1
 omega
theorem rl_lastT (hb : b ≤ s.log.length) : (rl n σ s b).lastT = s.lastT := by
 have e : s.lastT = lastOf s.log := rfl
 rw [e]
 unfold GP.lastT rl
 simp only [List.getLast?_map, List.getLast?_drop]
 by_cases h : s.log.length ≤ b
 ·rw [if_pos h]
  have hbl : b = s.log.length := by omega
  subst hbl
  by_cases h0 : s.log = []
  ·rw [h0]; rfl
  ·simp only [Option.map_none]
   exact tAt_end h0
 ·rw [if_neg h]
  have h0 : s.log ≠ [] := fun e => by rw [e] at h; simp at h
  unfold lastOf
  cases hq : s.log.getLast? with
  | none => exact absurd (List.getLast?_eq_none_iff.1 hq) h0
  | some e => rfl
theorem rl_upTo (hb : b ≤ s.log.length) (i : Nat) : (rl n σ s b).upTo i = if b ≤ i ∧ i ≤ s.log.length then some (i - b) else none := by
 have hl : (rl n σ s b).log.length = s.log.length - b := by simp [rl]
 have hbs : (rl n σ s b).base = (b : Int) := rfl
 unfold GP.upTo
 rw [hl, hbs]
 by_cases h : b ≤ i ∧ i ≤ s.log.length
 ·rw [if_neg (by omega), if_pos h]
  congr 1
  omega
 ·rw [if_pos (by omega), if_neg h]
theorem rl_tAt (hb : b ≤ s.log.length) (i : Nat) : (rl n σ s b).tAt i = if b ≤ i ∧ i ≤ s.log.length then some (tAt s.log i) else none := by
 unfold GP.tAt
 rw [rl_upTo hb]
 by_cases h : b ≤ i ∧ i ≤ s.log.length
 ·rw [if_pos h, if_pos h]
  obtain ⟨k, hk⟩ : ∃ k, i = b + k := ⟨i - b, by omega⟩
  subst hk
  rw [show b + k - b = k by omega]
  cases k with
  | zero => rfl
  | succ k =>
   show ((rl n σ s b).log[k]?).map (·.t) = _
   unfold rl
   rw [List.getElem?_map, List.getElem?_drop, List.getElem?_eq_getElem (by omega), show b + (k + 1) = (b + k) + 1 by omega, tAt_succ (by omega)]
   rfl
 ·rw [if_neg h, if_neg h]
theorem memOf_g (B : List Int) : ∀ l : List PE, (∀ e ∈ l, e.k ≠ 2) → memOf B (l.map PE.g) = B
 | [], _ => rfl
 | e :: l, h => by
  show memOf (if (e.g).k = 2 then (e.g).m else B) (l.map PE.g) = B
  rw [if_neg (show ¬ e.g.k = 2 from h e (by simp))]
  exact memOf_g B l (fun x hx => h x (by simp [hx]))
theorem memOf_gd (B : List Int) (l : List PE) (k : Nat) (h : ∀ e ∈ l, e.k ≠ 2) : memOf B ((l.drop k).map PE.g) = B := memOf_g B _ (fun e he => h e (List.mem_of_mem_drop he))
theorem rl_oth : othG (rl n σ s b) = oth n s.id := rfl
theorem aids_of : ∀ (l : List Int) (c : Int), (∀ x ∈ l, c < x ∧ 1 ≤ x ∧ x ≤ 64) → Ris l → aids c l = true
 | [], _, _, _ => rfl
 | x :: l, c, h, hr => by
  have hx := h x (by simp)
  have hr' := List.pairwise_cons.1 hr
  show ((!decide (x ≤ c) && idB x) && aids x l) = true
  rw [aids_of l x (fun y hy => ⟨hr'.1 y hy, (h y (by simp [hy])).2⟩) hr'.2]
  unfold idB
  simp
  omega
theorem aids_mem (hn : n ≤ 64) : aids 0 (mem n) = true := aids_of _ _ (fun x hx => by have := mem_iff.1 hx; omega) (mem_ris n)
theorem mayEs_g : ∀ (l : List PE) (lo hi : Int), (∀ e ∈ l, lo ≤ e.t) → Lg hi l → mayEs lo hi (l.map PE.g) = true
 | [], _, _, _, _ => rfl
 | e :: l, lo, hi, h, hl => by
  have h1 := hl.2 e (by simp)
  have h2 := List.pairwise_cons.1 hl.1
  show ((!(e.g.t == 0) && !decide (e.g.t < lo) && !decide (hi < e.g.t) && mayE e.g) && mayEs e.g.t hi (l.map PE.g)) = true
  rw [mayEs_g l e.g.t hi h2.1 ⟨h2.2, fun x hx => hl.2 x (by simp [hx])⟩]
  have h3 := h e (by simp)
  have h4 : mayE e.g = true := by
   unfold mayE PE.g
   rcases h1.2 with hk | ⟨hk, hd⟩
   ·rw [if_pos hk]; simp
   ·rw [if_neg (by show ¬ e.k = 0; omega), if_pos hk]
    simp [hd]
  rw [h4]
  have e1 : (e.g.t == 0) = false := beq_eq_false_iff_ne.2 (by show e.t ≠ 0; omega)
  have e2 : decide (e.g.t < lo) = false := decide_eq_false (by show ¬ e.t < lo; omega)
  have e3 : decide (hi < e.g.t) = false := decide_eq_false (by show ¬ hi < e.t; omega)
  rw [e1, e2, e3]
  rfl
theorem tAt_ok {t : Int} {l : List PE} (h : Lg t l) (ht : 0 ≤ t) {i : Nat} (hi : i ≤ l.length) : 0 ≤ tAt l i ∧ tAt l i ≤ t ∧ (i = 0 ↔ tAt l i = 0) := by
 cases i with
 | zero => exact ⟨Int.le_refl _, ht, by simp [tAt]⟩
 | succ k =>
  rw [tAt_succ (by omega)]
  have := (h.2 _ (List.getElem_mem (show k < l.length by omega))).1
  exact ⟨by omega, this.2, by constructor <;> intro h' <;> omega⟩
theorem Lg.sub {t : Int} {l k : List PE} (h : Lg t l) (hs : k.Sublist l) : Lg t k := ⟨h.1.sublist hs, fun x hx => h.2 x (hs.subset hx)⟩
theorem tAt_low {l : List PE} (h : l.Pairwise (fun a b => a.t ≤ b.t)) {i : Nat} (hi : i ≤ l.length) (h0 : ∀ x ∈ l, 0 ≤ x.t) : ∀ x ∈ l.drop i, tAt l i ≤ x.t := by
 intro x hx
 cases i with
 | zero => exact h0 x (List.mem_of_mem_drop hx)
 | succ k =>
  rw [tAt_succ (by omega)]
  obtain ⟨j, hj, rfl⟩ := List.getElem_of_mem hx
  rw [List.getElem_drop]
  have hj' : j < l.length - (k + 1) := by simpa using hj
  exact List.pairwise_iff_getElem.1 h k (k + 1 + j) (by omega) (by omega) (by omega)
theorem folsB_of {last : Int} : ∀ (F : List (Int × Int × Int)) (I : List Int), F.map (·.1) = I → (∀ f ∈ F, 1 ≤ f.2.1 ∧ f.2.1 ≤ last + 1 ∧ f.2.2 < f.2.1) → folsB last F I = true
 | [], I, h, _ => by rw [← h]; rfl
 | f :: F, I, h, hf => by
  rw [← h]
  show (fol1B last f f.1 && folsB last F (F.map (·.1))) = true
  rw [folsB_of F _ rfl (fun x hx => hf x (by simp [hx]))]
  have := hf f (by simp)
  unfold fol1B
  simp
  omega
theorem rl_may (h : Ok n T G s) (hb : b ≤ s.commit) (hn : n ≤ 64) (hT : T ≤ 1000000) (hG : G ≤ 1000000) (hσ : σ 0 = ⟨#[]⟩) : mayG (rl n σ s b) = true := by
 have hcom := h.com
 have hgl := h.glen
 have ht0 := h.t0
 have htT := h.tT
 have h1 := h.id1
 have h2 := h.idn
 have hv := h.vote
 have hld := h.lead
 have hw := h.wait
 have hi := h.idle
 have hta := tAt_ok h.log h.t0 (i := b) (by omega)
 have hidm : s.id ∈ mem n := mem_iff.2 ⟨h1, h2⟩
 have hk2 := h.k2
 have e2 : ∀ x : Int, 0 ≤ x → x ≤ n → noneB x = true := fun x h3 h4 => by
  unfold noneB idB
  by_cases hx : x = 0
  ·simp [hx]
  ·simp; omega
 unfold mayG
 simp only [Bool.and_eq_true]
 refine ⟨?_, ?_, ?_, ?_⟩
 ·unfold numB rl idB
  rw [e2 _ hv.1 hv.2, e2 _ hld.1 hld.2]
  have hr : s.role ≤ 2 := by
   rcases h.role with h' | h' | h'
   ·omega
   ·omega
   ·omega
  simp
  omega
 ·unfold logB
  have q1 : (((rl n σ s b).base == 0) == ((rl n σ s b).baseT == 0)) = true := by
   show ((((b : Nat) : Int) == 0) == (tAt s.log b == 0)) = true
   by_cases hz : b = 0
   ·rw [hta.2.2.1 hz, hz]; rfl
   ·rw [beq_eq_false_iff_ne.2 (show ((b : Nat) : Int) ≠ 0 by omega), beq_eq_false_iff_ne.2 (fun e => hz (hta.2.2.2 e))]; rfl
  have q2 : (decide (0 < (rl n σ s b).base) || (rl n σ s b).snap.toList.isEmpty) = true := by
   show (decide (0 < ((b : Nat) : Int)) || (σ b).toList.isEmpty) = true
   by_cases hz : b = 0
   ·rw [hz, hσ, ba_none]; rfl
   ·rw [decide_eq_true (show 0 < ((b : Nat) : Int) by omega)]; rfl
  have q3 : mayEs (rl n σ s b).baseT (rl n σ s b).term (rl n σ s b).log = true := mayEs_g _ _ _ (tAt_low h.log.1 (by omega) (fun x hx => by have := (h.log.2 x hx).1; omega)) (h.log.sub (List.drop_sublist _ _))
  rw [q1, q2, q3, rl_lastI (by omega)]
  have q4 : (rl n σ s b).baseT ≤ (rl n σ s b).term := hta.2.1
  have q5 : (rl n σ s b).base ≤ (rl n σ s b).commit := by show ((b : Nat) : Int) ≤ (s.commit : Int); omega
  have q6 : (rl n σ s b).commit ≤ s.lastI := by show (s.commit : Int) ≤ (s.log.length : Int); omega
  rw [decide_eq_true q4, decide_eq_true q5, decide_eq_true q6]
  rfl
 ·unfold memB
  have q1 : 0 < (mem n).length := List.length_pos_iff.2 (fun e => by rw [e] at hidm; simp at hidm)
  show ((decide (0 < (mem n).length) && aids 0 (mem n)) && decide (mem n = memOf (mem n) ((s.log.drop b).map PE.g))) = true
  rw [memOf_gd _ _ _ hk2, aids_mem hn, decide_eq_true q1]
  simp
 ·unfold rolB
  rcases h.role with ⟨r1, r2, r3⟩ | ⟨r1, r2, r3, r4, r5⟩ | ⟨r1, r2, r3, r4, r5, r6, r7⟩
  ·rw [if_neg (by show ¬ s.role = 2; omega), if_neg (by show ¬ (0 < s.fol.length ∨ 0 < ([] : List GR).length); rw [r3]; simp), if_neg (show ¬ (rl n σ s b).role = 1 by show ¬ s.role = 1; omega)]
   show (((s.votes.length : Nat) : Int) == 0) = true
   rw [r2]; rfl
  ·rw [if_neg (by show ¬ s.role = 2; omega), if_neg (by show ¬ (0 < s.fol.length ∨ 0 < ([] : List GR).length); rw [r5]; simp), if_pos (show (rl n σ s b).role = 1 from r1)]
   unfold standB
   have q1 : aids 0 s.votes = true := aids_of _ _ (fun x hx => by have := h.vm x hx; omega) h.vr
   have q2 : (s.votes.any fun v => !decide (v ∈ mem n)) = false := by
    rw [List.any_eq_false]
    intro x hx
    have : x ∈ mem n := mem_iff.2 (h.vm x hx)
    simp [this]
   show ((s.lead == 0) && ((s.vote == s.id) && (aids 0 s.votes && (decide (s.id ∈ mem n) && (decide (s.id ∈ s.votes) && !(s.votes.any fun v => !decide (v ∈ mem n))))))) = true
   rw [q1, q2, beq_iff_eq.2 r2, beq_iff_eq.2 r3, decide_eq_true hidm, decide_eq_true r4]
   rfl
  ·rw [if_pos (show (rl n σ s b).role = 2 from r1)]
   unfold leadB
   have q1 : folB (rl n σ s b) = true := by
    unfold folB
    rw [rl_lastI (by omega), rl_oth]
    exact folsB_of _ _ r6 (fun f hf => by have := r7 f hf; unfold PP.lastI; omega)
   show ((s.lead == s.id) && (decide (0 < s.term) && (((s.votes.length : Int) == 0) && (folB (rl n σ s b) && reaB (rl n σ s b))))) = true
   rw [q1, beq_iff_eq.2 r2, decide_eq_true (show 0 < s.term by omega), r4]
   rfl
end
section
variable {n T G : Nat} {σ : Nat → ByteArray} {s : PP} {b : Nat}
theorem tAt_app {l k : List PE} {i : Nat} (h : i ≤ l.length) : tAt (l ++ k) i = tAt l i := by
 cases i with
 | zero => rfl
 | succ j => rw [tAt_succ (l := l) (by omega), tAt_succ (l := l ++ k) (by rw [List.length_append]; omega), List.getElem_append_left (by omega)]
theorem drop_app {l k : List PE} {i : Nat} (h : i ≤ l.length) : (l ++ k).drop i = l.drop i ++ k := List.drop_append_of_le_length h
theorem rl_adv (h : Ok n T G s) (hb : b ≤ s.commit) (hr : s.role = 2) : (rl n σ s b).adv = rl n σ s.adv b := by
 have hcom := h.com
 have hmo := most_ok h
 have ht1 : 1 ≤ s.term := by
  rcases h.role with h' | h' | h'
  ·omega
  ·omega
  ·exact h'.2.2.1
 have hidm : s.id ∈ mem n := mem_iff.2 ⟨h.id1, h.idn⟩
 have e1 : (rl n σ s b).have = s.have := by
  unfold GP.have
  rw [rl_lastI (by omega), if_pos (show (rl n σ s b).id ∈ (rl n σ s b).M from hidm)]
  rfl
 have e6 : rl n σ s.adv b = { rl n σ s b with commit := (((if tAt s.log (most s.have).toNat = s.term then max s.commit (most s.have).toNat else s.commit) : Nat) : Int) } := rfl
 rw [e6]
 unfold GP.adv
 rw [e1]
 clear e6
 generalize most s.have = j at *
 have e2 : j = ((j.toNat : Nat) : Int) := by omega
 have e3 := rl_tAt (n := n) (σ := σ) (s := s) (b := b) (by omega) j.toNat
 rw [← e2] at e3
 rw [e3]
 have key : ((if ((if b ≤ j.toNat ∧ j.toNat ≤ s.log.length then some (tAt s.log j.toNat) else none).getD 0) = s.term then max (s.commit : Int) j else (s.commit : Int))) = (((if tAt s.log j.toNat = s.term then max s.commit j.toNat else s.commit) : Nat) : Int) := by
  by_cases hj : b ≤ j.toNat ∧ j.toNat ≤ s.log.length
  ·rw [if_pos hj, Option.getD_some]
   by_cases ht : tAt s.log j.toNat = s.term
   ·rw [if_pos ht, if_pos ht]; omega
   ·rw [if_neg ht, if_neg ht]
  ·rw [if_neg hj, Option.getD_none, if_neg (by omega)]
   by_cases ht : tAt s.log j.toNat = s.term
   ·rw [if_pos ht]; omega
   ·rw [if_neg ht]
 show ({ rl n σ s b with commit := (if ((if b ≤ j.toNat ∧ j.toNat ≤ s.log.length then some (tAt s.log j.toNat) else none).getD 0) = s.term then max (s.commit : Int) j else (s.commit : Int)) } : GP) = _
 rw [key]
theorem rl_cand (draw : Int) : (rl n σ s b).cand draw = rl n σ (s.cand draw) b := rfl
theorem rl_later (h : Ok n T G s) : (rl n σ s b).later = rl n σ { s with idle := s.idle + 1 } b := by
 have := h.idle
 have e : min (s.idle + 1) 1073741824 = s.idle + 1 := by omega
 show ({ rl n σ s b with idle := min (s.idle + 1) 1073741824 } : GP) = _
 rw [e]
 rfl
theorem rl_win (hb : b ≤ s.log.length) : (rl n σ s b).win = rl n σ (s.win n) b := by
 have e1 : (s.log ++ [noop s.term]).drop b = s.log.drop b ++ [noop s.term] := drop_app hb
 have e2 : tAt (s.log ++ [noop s.term]) b = tAt s.log b := tAt_app hb
 have e3 : rl n σ (s.win n) b = { rl n σ s b with role := 2, lead := s.id, votes := [], idle := 2, log := ((s.log ++ [noop s.term]).drop b).map PE.g, baseT := tAt (s.log ++ [noop s.term]) b, fol := (oth n s.id).map fun i => (i, (s.log.length : Int) + 1, (0 : Int)) } := rfl
 rw [e3, e1, e2, List.map_append]
 have e4 : (rl n σ s b).lastI = (s.log.length : Int) := rl_lastI hb
 unfold GP.win
 rw [e4, rl_oth]
 rfl
theorem count_all {α : Type} (p : α → Bool) (l : List α) (h : ∀ x ∈ l, p x = true) : l.countP p = l.length := List.countP_eq_length.2 h
theorem rl_maj (hv : ∀ x ∈ s.votes, 1 ≤ x ∧ x ≤ n) : (rl n σ s b).maj = maj n s.votes := by
 unfold GP.maj maj
 show decide ((mem n).length / 2 < s.votes.countP (fun x => decide (x ∈ mem n))) = _
 rw [mem_len, count_all _ _ (fun x hx => decide_eq_true (mem_iff.2 (hv x hx)))]
theorem rl_winIf (hb : b ≤ s.log.length) (hv : ∀ x ∈ s.votes, 1 ≤ x ∧ x ≤ n) : (rl n σ s b).winIf = rl n σ (s.winIf n) b := by
 unfold GP.winIf PP.winIf
 rw [rl_maj hv]
 split
 ·exact rl_win hb
 ·rfl
def PM.gx (m : PM) : GM × GX := (m.q.g, gzx)
theorem rl_asks (hb : b ≤ s.log.length) (h0 : 0 ≤ s.lastI) : (rl n σ s b).asks = (s.asks n).map PM.gx := by
 unfold GP.asks PP.asks
 rw [rl_lastI hb, rl_lastT hb, rl_oth, List.map_map]
 refine List.map_congr_left (fun i _ => ?_)
 have e : ((s.lastI.toNat : Nat) : Int) = s.lastI := by omega
 show (askM s.id i s.term s.lastI s.lastT, gzx) = ((⟨1, s.id, i, s.term, ((s.lastI.toNat : Nat) : Int), s.lastT, 0, 0, false, [], [], ⟨#[]⟩⟩ : GM), gzx)
 rw [e]
 rfl
theorem rl_tick (h : Ok n T G s) (hb : b ≤ s.commit) (hT : T < 4611686018427387904) (draw : Int) : (rl n σ s b).tick draw = (rl n σ (s.tick n draw).1 b, (s.tick n draw).2.map PM.gx) := by
 have hcom := h.com
 have htT := h.tT
 have hidm : s.id ∈ mem n := mem_iff.2 ⟨h.id1, h.idn⟩
 unfold GP.tick PP.tick
 by_cases hr : s.role = 2
 ·rw [if_pos (show (rl n σ s b).role = 2 from hr), if_pos hr]
  rfl
 ·rw [if_neg (show ¬ (rl n σ s b).role = 2 from hr), if_neg hr]
  by_cases hi : s.idle + 1 < s.wait
  ·rw [if_pos hi, if_pos (show (rl n σ s b).calm from Or.inl (by rw [rl_later h]; exact hi)), rl_later h]
   rfl
  ·rw [if_neg hi, if_neg (show ¬ (rl n σ s b).calm from by
    rintro (h1 | h1 | h1)
    ·rw [rl_later h] at h1; exact hi h1
    ·exact h1 hidm
    ·have h2 : 4611686018427387904 ≤ s.term := h1
     omega), rl_later h, rl_cand]
   have hv : ∀ x ∈ (PP.cand { s with idle := s.idle + 1 } draw).votes, 1 ≤ x ∧ x ≤ n := fun x hx => by
    have : x ∈ [s.id] := hx
    rw [List.mem_singleton.1 this]
    exact ⟨h.id1, h.idn⟩
   have hb2 : b ≤ (PP.cand { s with idle := s.idle + 1 } draw).log.length := by show b ≤ s.log.length; omega
   rw [rl_winIf hb2 hv, rl_asks hb2 (by show 0 ≤ ((s.log.length : Nat) : Int); omega)]
   rfl
def instG (n : Nat) (σ : Nat → ByteArray) (s : PP) (b : Nat) (to : Int) : GM := ⟨5, s.id, to, s.term, b, tAt s.log b, 0, 0, false, [], mem n, σ b⟩
theorem cut_list {α β : Type} (f : α → β) (l : List α) (b p q : Nat) (h1 : b ≤ p) : (((l.drop b).map f).take (q - b)).drop (p - b) = (((l.drop p).take (q - p)).map f) := by
 rw [← List.map_take, ← List.map_drop, List.take_drop, List.drop_drop, show b + (p - b) = p by omega, ← List.drop_take]
 congr 1
 by_cases h : b ≤ q
 ·rw [show b + (q - b) = q by omega]
 ·rw [show b + (q - b) = b by omega, List.drop_of_length_le (by simp; omega), List.drop_of_length_le (by simp; omega)]
theorem rl_snd (hb : b ≤ s.log.length) (f : Int × Int × Int) (h1 : 1 ≤ f.2.1) (h2 : f.2.1 ≤ s.log.length + 1) : (rl n σ s b).snd f = if f.2.1 - 1 < (b : Int) then instG n σ s b f.1 else (s.msg f).g := by
 unfold GP.snd
 by_cases h : f.2.1 - 1 < (b : Int)
 ·rw [if_pos (show f.2.1 - 1 < (rl n σ s b).base from h), if_pos h]
  rfl
 ·rw [if_neg (show ¬ f.2.1 - 1 < (rl n σ s b).base from h), if_neg h]
  have e1 : f.2.1 - 1 = (((f.2.1 - 1).toNat : Nat) : Int) := by omega
  obtain ⟨p, hp⟩ : ∃ p, p = (f.2.1 - 1).toNat := ⟨_, rfl⟩
  have e2 : (s.msg f).g = ⟨3, s.id, f.1, s.term, (p : Int), tAt s.log p, s.commit, 0, false, ((s.log.drop p).take 16).map PE.g, [], ⟨#[]⟩⟩ := by
   rw [hp]; rfl
  rw [e2]
  have e3 : (rl n σ s b).tAt (f.2.1 - 1) = some (tAt s.log p) := by
   rw [e1, rl_tAt hb, ← hp, if_pos (by omega)]
  have e4 : (((rl n σ s b).log).take (min (rl n σ s b).lastI (f.2.1 - 1 + 16) - (rl n σ s b).base).toNat).drop (f.2.1 - 1 - (rl n σ s b).base).toNat = ((s.log.drop p).take 16).map PE.g := by
   rw [rl_lastI hb]
   have q1 : (min s.lastI (f.2.1 - 1 + 16) - (rl n σ s b).base).toNat = min s.log.length (p + 16) - b := by
    show (min (s.log.length : Int) (f.2.1 - 1 + 16) - (b : Int)).toNat = _
    omega
   have q2 : (f.2.1 - 1 - (rl n σ s b).base).toNat = p - b := by
    show (f.2.1 - 1 - (b : Int)).toNat = _
    omega
   rw [q1, q2]
   show (((s.log.drop b).map PE.g).take (min s.log.length (p + 16) - b)).drop (p - b) = _
   rw [cut_list PE.g s.log b p _ (by omega)]
   congr 1
   by_cases h3 : p + 16 ≤ s.log.length
   ·rw [show min s.log.length (p + 16) - p = 16 by omega]
   ·rw [List.take_of_length_le (by simp; omega), List.take_of_length_le (by simp; omega)]
  unfold GP.lay
  rw [e3, e4, e1, ← hp]
  rfl
theorem rl_down (t : Int) : (rl n σ s b).down t = rl n σ (s.down t) b := rfl
theorem rl_ask (hb : b ≤ s.log.length) (m : PM) (h0 : 0 ≤ m.index) : (rl n σ s b).ask m.q.g = (rl n σ (if s.grants m then { s with vote := m.frm, idle := 0 } else s) b, (if s.grants m then [PM.gx ⟨2, s.id, m.frm, s.term, 0, 0, true⟩] else [PM.gx ⟨2, s.id, m.frm, s.term, 0, 0, false⟩])) := by
 have e0 : ((m.index.toNat : Nat) : Int) = m.index := by omega
 have e1 : (rl n σ s b).grants m.q.g = s.grants m := by
  unfold GP.grants PP.grants
  rw [rl_lastI hb, rl_lastT hb]
  show ((decide (s.lastT < m.lterm) || (m.lterm == s.lastT && decide (s.lastI ≤ ((m.index.toNat : Nat) : Int)))) && (m.term == s.term) && (s.role == 0) && (s.vote == 0 || s.vote == m.frm)) = _
  rw [e0]
 unfold GP.ask
 rw [e1]
 cases s.grants m <;> rfl
theorem rl_told (hb : b ≤ s.log.length) (hv : ∀ x ∈ s.votes, 1 ≤ x ∧ x ≤ n) (m : PM) (hf : 1 ≤ m.frm ∧ m.frm ≤ n) : (rl n σ s b).told m.q.g = rl n σ (if m.term = s.term ∧ s.role = 1 ∧ m.ok = true then PP.winIf n { s with votes := wth s.votes m.frm } else s) b := by
 unfold GP.told
 by_cases h : m.term = s.term ∧ s.role = 1 ∧ m.ok = true
 ·rw [if_pos h, if_pos (show m.q.g.term = (rl n σ s b).term ∧ (rl n σ s b).role = 1 ∧ m.q.g.ok = true ∧ m.q.g.frm ∈ (rl n σ s b).M from ⟨h.1, h.2.1, h.2.2, mem_iff.2 hf⟩)]
  have e : ({ rl n σ s b with votes := wth (rl n σ s b).votes m.q.g.frm } : GP) = rl n σ { s with votes := wth s.votes m.frm } b := rfl
  rw [e]
  exact rl_winIf (s := { s with votes := wth s.votes m.frm }) hb (fun x hx => by
   rcases wth_mem.1 hx with rfl | hx
   ·exact hf
   ·exact hv x hx)
 ·rw [if_neg h, if_neg (fun h' => h ⟨h'.1, h'.2.1, h'.2.2.1⟩)]
theorem rl_vote (h : Ok n T G s) (hb : b ≤ s.log.length) (m : PM) (h0 : 0 ≤ m.index) (hf : 1 ≤ m.frm ∧ m.frm ≤ n) : (rl n σ s b).voteTake m.q.g = (rl n σ (s.take n m).1 b, (s.take n m).2.map PM.gx) := by
 unfold GP.voteTake PP.take
 have e : (if (rl n σ s b).term < m.q.g.term then (rl n σ s b).down m.q.g.term else rl n σ s b) = rl n σ (if s.term < m.term then s.down m.term else s) b := by
  by_cases h1 : s.term < m.term
  ·rw [if_pos h1, if_pos (show (rl n σ s b).term < m.q.g.term from h1)]; exact rl_down _
  ·rw [if_neg h1, if_neg (show ¬ (rl n σ s b).term < m.q.g.term from h1)]
 rw [e]
 have hu : b ≤ (if s.term < m.term then s.down m.term else s).log.length := by split <;> exact hb
 have hv : ∀ x ∈ (if s.term < m.term then s.down m.term else s).votes, 1 ≤ x ∧ x ≤ n := by
  split
  ·intro x hx; cases hx
  ·exact h.vm
 generalize (if s.term < m.term then s.down m.term else s) = u at *
 unfold GP.vote1 PP.take1
 by_cases hk : m.kind = 1
 ·rw [if_pos hk, if_pos (show m.q.g.kind = 1 from hk), rl_ask hu m h0]
  cases u.grants m <;> rfl
 ·rw [if_neg hk, if_neg (show ¬ m.q.g.kind = 1 from hk), rl_told hu hv m hf]
  by_cases hc : m.term = u.term ∧ u.role = 1 ∧ m.ok = true
  ·rw [if_pos hc, if_pos hc]; rfl
  ·rw [if_neg hc, if_neg hc]; rfl
theorem rl_more (hb : b ≤ s.log.length) (d : ByteArray) : (rl n σ s b).more d = rl n σ (s.more d) b := by
 have e1 : (s.log ++ [PE.mk s.term 0 d]).drop b = s.log.drop b ++ [PE.mk s.term 0 d] := drop_app hb
 have e2 : tAt (s.log ++ [PE.mk s.term 0 d]) b = tAt s.log b := tAt_app hb
 have e3 : rl n σ (s.more d) b = { rl n σ s b with log := ((s.log ++ [PE.mk s.term 0 d]).drop b).map PE.g, baseT := tAt (s.log ++ [PE.mk s.term 0 d]) b } := rfl
 rw [e3, e1, e2, List.map_append]
 rfl
theorem rl_prop (h : Ok n T G s) (hb : b ≤ s.commit) (hr : s.role = 2) (d : ByteArray) : ((rl n σ s b).more d).adv = rl n σ (s.prop d) b := by
 have hcom := h.com
 rw [rl_more (by omega), rl_adv (more_ok h hr d) hb hr]
 rfl
def PP.crash (s : PP) (b : Nat) : PP := { s with role := 0, lead := 0, idle := 0, votes := [], fol := [], commit := b }
theorem rl_cut (hk2 : ∀ e ∈ s.log, e.k ≠ 2) (hb : b ≤ s.log.length) (c : Nat) (h1 : b ≤ c) (h2 : c ≤ s.log.length) (d : ByteArray) (hd : d = σ c) : (rl n σ s b).trimTo c d = rl n σ s c := by
 have e1 : (rl n σ s b).tAt c = some (tAt s.log c) := by rw [rl_tAt hb, if_pos ⟨h1, h2⟩]
 have e2 : (rl n σ s b).mAt c = mem n := by
  unfold GP.mAt
  rw [rl_upTo hb, if_pos ⟨h1, h2⟩]
  show memOf (mem n) (((s.log.drop b).map PE.g).take (c - b)) = mem n
  rw [← List.map_take]
  exact memOf_g _ _ (fun e he => hk2 e (List.mem_of_mem_drop (List.mem_of_mem_take he)))
 have e3 : (rl n σ s b).log.drop ((c : Int) - (rl n σ s b).base).toNat = (s.log.drop c).map PE.g := by
  show ((s.log.drop b).map PE.g).drop ((c : Int) - (b : Int)).toNat = _
  rw [← List.map_drop, List.drop_drop, show b + ((c : Int) - (b : Int)).toNat = c by omega]
 unfold GP.trimTo
 rw [e1, e2, e3, hd]
 unfold GP.cut
 rw [memOf_gd _ _ _ hk2]
 rfl
end
structure QOk (n T G : Nat) (m : QM) : Prop where
 kind : m.kind = 3 ∨ m.kind = 4
 f : 1 ≤ m.frm ∧ m.frm ≤ n
 t : 1 ≤ m.to ∧ m.to ≤ n
 ne : m.frm ≠ m.to
 term : 1 ≤ m.term ∧ m.term ≤ T
 index : m.index ≤ G
 lterm : 0 ≤ m.lterm ∧ m.lterm ≤ m.term
 com : m.commit ≤ G
 lay : m.kind = 3 → m.ok = false ∧ (m.index = 0 ↔ m.lterm = 0) ∧ m.ents.length ≤ 16 ∧ Lg m.term m.ents ∧ ∀ x ∈ m.ents, m.lterm ≤ x.t
 hrd : m.kind = 4 → m.lterm = 0 ∧ m.commit = 0 ∧ m.ents = []
theorem QOk.mono {n T G T' G' : Nat} {m : QM} (h : QOk n T G m) (hT : T ≤ T') (hG : G ≤ G') : QOk n T' G' m := { h with term := by have := h.term; omega, index := by have := h.index; omega, com := by have := h.com; omega }
theorem mt_next (log : List PE) : ∀ (l : List PE) (b k : Nat) (hk : k < l.length), k ≤ mt log b l → ((∃ x, log[b + k]? = some x ∧ x.t = l[k].t) → k + 1 ≤ mt log b l) ∧ ((¬ ∃ x, log[b + k]? = some x ∧ x.t = l[k].t) → mt log b l = k)
 | [], b, k, hk, _ => by simp at hk
 | e :: l, b, 0, hk, _ => by
  constructor
  ·rintro ⟨x, hx, ht⟩
   rw [Nat.add_zero] at hx
   have hm : mt log b (e :: l) = mt log (b + 1) l + 1 := by
    show (match log[b]? with | some x => (if x.t = e.t then mt log (b + 1) l + 1 else 0) | none => 0) = _
    rw [hx]
    have ht' : x.t = e.t := ht
    simp only [ht', if_true]
   omega
  ·intro hn
   show (match log[b]? with | some x => (if x.t = e.t then mt log (b + 1) l + 1 else 0) | none => 0) = 0
   cases hq : log[b]? with
   | none => rfl
   | some x =>
    have : ¬ x.t = e.t := fun ht => hn ⟨x, by rw [Nat.add_zero]; exact hq, ht⟩
    simp only [this, if_false]
 | e :: l, b, k + 1, hk, hm => by
  have hmt : mt log b (e :: l) = mt log (b + 1) l + 1 := by
   have h0 : mt log b (e :: l) = (match log[b]? with | some x => (if x.t = e.t then mt log (b + 1) l + 1 else 0) | none => 0) := rfl
   rw [h0] at hm ⊢
   cases hq : log[b]? with
   | none => rw [hq] at hm; simp at hm
   | some x =>
    rw [hq] at hm
    by_cases ht : x.t = e.t
    ·simp only [ht, if_true]
    ·simp only [ht, if_false] at hm; omega
  have ih := mt_next log l (b + 1) k (by simpa using hk) (by omega)
  rw [show b + 1 + k = b + (k + 1) by omega] at ih
  rw [hmt]
  constructor
  ·intro hx
   have := ih.1 (by simpa using hx)
   omega
  ·intro hn
   have := ih.2 (by simpa using hn)
   omega
theorem mt_le (log : List PE) : ∀ (l : List PE) (b : Nat), mt log b l ≤ l.length
 | [], b => Nat.le_refl _
 | e :: l, b => by
  have ih := mt_le log l (b + 1)
  show (match log[b]? with | some x => (if x.t = e.t then mt log (b + 1) l + 1 else 0) | none => 0) ≤ _
  cases log[b]? with
  | none => simp
  | some x =>
   by_cases ht : x.t = e.t
   ·simp only [ht, if_true, List.length_cons]; omega
   ·simp only [ht, if_false]; simp
theorem mt_len (log : List PE) : ∀ (l : List PE) (b : Nat), b ≤ log.length → b + mt log b l ≤ log.length
 | [], b, h => h
 | e :: l, b, h => by
  show b + (match log[b]? with | some x => (if x.t = e.t then mt log (b + 1) l + 1 else 0) | none => 0) ≤ _
  cases hq : log[b]? with
  | none => exact h
  | some x =>
   have hb := (List.getElem?_eq_some_iff.1 hq).1
   have ih := mt_len log l (b + 1) hb
   by_cases ht : x.t = e.t
   ·simp only [ht, if_true]; omega
   ·simp only [ht, if_false]; omega
theorem adv_ok {n T G : Nat} {s : PP} (h : Ok n T G s) : Ok n T G s.adv := by
 have hmo := most_ok h
 have hcm := h.com
 have hc : s.adv.commit ≤ s.log.length := by
  show (if tAt s.log (most s.have).toNat = s.term then max s.commit (most s.have).toNat else s.commit) ≤ s.log.length
  split <;> omega
 exact { h with com := hc }
section
variable {n T G : Nat} {s : PP}
theorem fol_nodup (hok : Ok n T G s) : (s.fol.map (·.1)).Nodup := by
 rcases hok.role with h' | h' | h'
 ·rw [h'.2.2]; exact List.nodup_nil
 ·rw [h'.2.2.2.2]; exact List.nodup_nil
 ·rw [h'.2.2.2.2.2.1]; exact oth_nodup _ _
theorem setF_ok (hok : Ok n T G s) (hr : s.role = 2) (f : Int × Int × Int) (hb : 1 ≤ f.2.1 ∧ f.2.1 ≤ s.log.length + 1 ∧ f.2.2 < f.2.1 ∧ 0 ≤ f.2.2) : Ok n T G (s.setF f) := by
 have hmem : ∀ x ∈ (s.setF f).fol, x = f ∨ x ∈ s.fol := fun x hx => by
  obtain ⟨y, hy, rfl⟩ := List.mem_map.1 hx
  split
  ·exact Or.inl rfl
  ·exact Or.inr hy
 have hmap : (s.setF f).fol.map (·.1) = s.fol.map (·.1) := by
  show (s.fol.map _).map _ = _
  rw [List.map_map]
  refine List.map_congr_left (fun x hx => ?_)
  show (if x.1 = f.1 then f else x).1 = x.1
  split
  ·rename_i e; exact e.symm
  ·rfl
 refine { hok with role := Or.inr (Or.inr ?_) }
 rcases hok.role with h' | h' | h'
 ·omega
 ·omega
 ·refine ⟨h'.1, h'.2.1, h'.2.2.1, h'.2.2.2.1, h'.2.2.2.2.1, hmap.trans h'.2.2.2.2.2.1, fun x hx => ?_⟩
  rcases hmem x hx with rfl | hx
  ·exact hb
  ·exact h'.2.2.2.2.2.2 x hx
theorem rais_ok (hok : Ok n T G s) {t : Int} (ht : t ≤ T) : Ok n T G (s.rais t) := by
 unfold PP.rais
 split
 ·exact (down_nxt (V := fun _ _ => 0) hok (Or.inr ht)).ok
 ·exact hok
end
def Sh (n T G : Nat) (m : QM) : Prop := ((m.kind = 1 ∨ m.kind = 2) ∧ m = m.p.q) ∨ QOk n T G m
theorem Sh.mono {n T G T' G' : Nat} {m : QM} (h : Sh n T G m) (hT : T ≤ T') (hG : G ≤ G') : Sh n T' G' m := h.elim Or.inl (fun h => Or.inr (h.mono hT hG))
section
variable {n T G : Nat} {s : PP}
theorem msg_qok (h : Ok n T G s) (ht : 1 ≤ s.term) {f : Int × Int × Int} (hf : f.1 ∈ oth n s.id) (h1 : 1 ≤ f.2.1) (h2 : f.2.1 ≤ s.log.length + 1) : QOk n T G (s.msg f) := by
 obtain ⟨k, hk⟩ : ∃ k : Nat, (f.2.1 - 1).toNat = k := ⟨_, rfl⟩
 have hkl : k ≤ s.log.length := by omega
 have ha := tAt_ok h.log h.t0 hkl
 have hg := h.glen
 have hm := oth_mem.1 hf
 unfold PP.msg
 rw [hk]
 refine ⟨Or.inl rfl, ⟨h.id1, h.idn⟩, hm.1, fun e => hm.2 e.symm, ⟨ht, h.tT⟩, by show k ≤ G; omega, ⟨ha.1, ha.2.1⟩, by have := h.com; show s.commit ≤ G; omega, fun _ => ⟨rfl, ha.2.2, ?_, ?_, ?_⟩, fun h4 => ?_⟩
 ·show ((s.log.drop k).take 16).length ≤ 16
  rw [List.length_take]; omega
 ·exact h.log.sub ((List.take_sublist _ _).trans (List.drop_sublist _ _))
 ·exact fun x hx => tAt_low h.log.1 hkl (fun y hy => by have := (h.log.2 y hy).1.1; omega) x (List.mem_of_mem_take hx)
 ·have h4' : (3 : Int) = 4 := h4
  omega
theorem hrd_qok (h1 : 1 ≤ s.id ∧ s.id ≤ n) (ht : 1 ≤ s.term ∧ s.term ≤ T) {to : Int} (h2 : 1 ≤ to ∧ to ≤ n) (hne : s.id ≠ to) (ok : Bool) {i : Nat} (hi : i ≤ G) : QOk n T G (s.hrd to ok i) := by
 unfold PP.hrd
 refine ⟨Or.inr rfl, h1, h2, hne, ht, hi, ⟨Int.le_refl _, by show (0 : Int) ≤ s.term; omega⟩, Nat.zero_le _, fun h3 => ?_, fun _ => ⟨rfl, rfl, rfl⟩⟩
 have h3' : (4 : Int) = 3 := h3
 omega
theorem join_len {b : Nat} {l : List PE} {u : PP} (hb : b ≤ s.log.length) (hj : s.join b l = some u) : b + l.length ≤ u.log.length ∧ u.id = s.id ∧ u.term = s.term := by
 have hm := mt_len s.log l b hb
 have hm2 := mt_le s.log l b
 unfold PP.join at hj
 split at hj
 ·rename_i e
  cases hj
  exact ⟨by omega, rfl, rfl⟩
 ·split at hj
  ·cases hj
  ·cases hj
   refine ⟨?_, rfl, rfl⟩
   show _ ≤ (s.log.take (b + mt s.log b l) ++ l.drop (mt s.log b l)).length
   simp
   omega
theorem lay_qok (hid : 1 ≤ s.id ∧ s.id ≤ n) (ht : 1 ≤ s.term ∧ s.term ≤ T) {m : QM} (hm : QOk n T G m) (hto : m.to = s.id) (hg : s.log.length ≤ G) (hg' : (s.lay m).1.log.length ≤ G) : ∀ q ∈ (s.lay m).2, QOk n T G q := by
 have hf := hm.f
 have hne : s.id ≠ m.frm := fun e => hm.ne (by rw [hto]; exact e.symm)
 unfold PP.lay at hg' ⊢
 split
 ·intro q hq
  rw [List.mem_singleton.1 hq]
  exact hrd_qok hid ht hf hne _ (by omega)
 ·rename_i hc
  rw [if_neg hc] at hg'
  cases hj : s.join m.index m.ents with
  | none => intro q hq; cases hq
  | some u =>
   rw [hj] at hg'
   obtain ⟨j1, j2, j3⟩ := join_len (by omega) hj
   have hg2 : u.log.length ≤ G := hg'
   intro q hq
   rw [List.mem_singleton.1 hq]
   exact hrd_qok (by rw [j2]; exact hid) (by rw [j3]; exact ht) hf (by rw [j2]; exact hne) _ (by omega)
theorem ltake_qok (hok : Ok n T G s) {m : QM} (hm : QOk n T G m) (hto : m.to = s.id) (hok' : Ok n T G (s.ltake m).1) : ∀ q ∈ (s.ltake m).2, QOk n T G q := by
 have hr := rais_term (s := s) (t := m.term)
 have hmt := hm.term
 have hsT := hok.tT
 have hrT : (s.rais m.term).term ≤ T := by
  unfold PP.rais
  split
  ·show (s.down m.term).term ≤ T
   unfold PP.down
   dsimp only
   split <;> omega
  ·exact hsT
 have hlg : (s.rais m.term).log = s.log := by
  unfold PP.rais
  split <;> rfl
 have hgl := hok.glen
 have hf := hm.f
 have hne : s.id ≠ m.frm := fun e => hm.ne (by rw [hto]; exact e.symm)
 have hid : 1 ≤ (s.rais m.term).id ∧ (s.rais m.term).id ≤ n := by rw [hr.2.2]; exact ⟨hok.id1, hok.idn⟩
 unfold PP.ltake at hok' ⊢
 split
 ·rename_i hk
  rw [if_pos hk] at hok'
  have hg' := hok'.glen
  unfold PP.tlay at hg' ⊢
  split
  ·intro q hq
   rw [List.mem_singleton.1 hq]
   exact hrd_qok hid (by omega) hf (by rw [hr.2.2]; exact hne) _ (by rw [hlg]; exact hgl)
  ·rename_i h1
   rw [if_neg h1] at hg'
   split
   ·intro q hq; cases hq
   ·rename_i h2
    rw [if_neg h2] at hg'
    have hdt : ((s.rais m.term).down m.term).term = (s.rais m.term).term := if_neg (by omega)
    exact lay_qok (s := { (s.rais m.term).down m.term with lead := m.frm, idle := 0 }) hid (by show 1 ≤ ((s.rais m.term).down m.term).term ∧ ((s.rais m.term).down m.term).term ≤ T; rw [hdt]; omega) hm (hto.trans hr.2.2.symm) (by show (s.rais m.term).log.length ≤ G; rw [hlg]; exact hgl) hg'
 ·rename_i hk
  rw [if_neg hk] at hok'
  unfold PP.theard at hok' ⊢
  split
  ·rename_i h1
   rw [if_pos h1] at hok'
   cases hq : (s.rais m.term).fol.find? (fun g => g.1 == m.frm) with
   | none => intro q hq; cases hq
   | some f =>
    rw [hq] at hok'
    have hfm : f ∈ (s.rais m.term).fol := List.mem_of_find?_eq_some hq
    have hsr : s.rais m.term = s := by
     unfold PP.rais at hfm ⊢
     split
     ·rename_i h2
      rw [if_pos h2] at hfm
      cases hfm
     ·rfl
    rw [hsr] at hok' hfm h1 ⊢
    have hr2 : s.role = 2 := by
     rcases hok.role with h' | h' | h'
     ·rw [h'.2.2] at hfm; cases hfm
     ·rw [h'.2.2.2.2] at hfm; cases hfm
     ·exact h'.1
    have hfo := fol_ok hok hr2 f hfm
    have hfe : f.1 ∈ oth n s.id := by
     rcases hok.role with h' | h' | h'
     ·omega
     ·omega
     ·rw [← h'.2.2.2.2.2.1]; exact List.mem_map.2 ⟨f, hfm, rfl⟩
    simp only at hok' ⊢
    split
    ·rename_i ho
     simp only [ho, if_true] at hok'
     split
     ·intro q hq; cases hq
     ·intro q hq
      rw [List.mem_singleton.1 hq]
      refine msg_qok hok' (by show 1 ≤ s.term; omega) hfe (by dsimp only; omega) ?_
      show _ ≤ (s.log.length : Int) + 1
      dsimp only
      omega
    ·rename_i ho
     have ho' : m.ok = false := by simpa using ho
     simp only [ho', Bool.false_eq_true, if_false] at hok'
     intro q hq
     rw [List.mem_singleton.1 hq]
     refine msg_qok hok' (by show 1 ≤ s.term; omega) hfe (by dsimp only; omega) ?_
     show _ ≤ (s.log.length : Int) + 1
     dsimp only
     omega
  ·intro q hq; cases hq
theorem q_same (m : PM) (h : 0 ≤ m.index) (hk : m.kind = 1 ∨ m.kind = 2) : Sh n T G m.q := Or.inl ⟨hk, by rw [q_p h]⟩
theorem asks_sh (hok : 0 ≤ s.lastI) : ∀ q ∈ (s.asks n).map PM.q, Sh n T G q := by
 intro q hq
 obtain ⟨m, hm, rfl⟩ := List.mem_map.1 hq
 obtain ⟨i, _, rfl⟩ := List.mem_map.1 hm
 exact q_same _ hok (Or.inl rfl)
theorem tick_sh (draw : Int) : ∀ q ∈ (s.tick n draw).2.map PM.q, Sh n T G q := by
 unfold PP.tick
 split
 ·intro q hq; cases hq
 ·split
  ·intro q hq; cases hq
  ·exact asks_sh (by show (0 : Int) ≤ (s.log.length : Int); omega)
theorem take_sh (m : PM) : ∀ q ∈ (s.take n m).2.map PM.q, Sh n T G q := by
 unfold PP.take
 generalize (if s.term < m.term then s.down m.term else s) = u
 unfold PP.take1
 split
 ·split <;>
  ·intro q hq
   rw [List.mem_singleton.1 hq]
   exact q_same _ (Int.le_refl _) (Or.inr rfl)
 ·split <;> (intro q hq; cases hq)
end
end Go.Proofs.YthekbhliokcpcaaGreat
