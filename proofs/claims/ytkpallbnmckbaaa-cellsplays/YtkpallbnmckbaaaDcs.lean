/- The document's Scan and the program's, plain. -/
import Derived.Test.YtkpallbnmckbaaaDcp
namespace Go.Proofs.Ytkpallbnmckbaaa
open Go.RowKit
def lss (k a : ByteArray) : Bool := Op.bytesLess k.data.toList a.data.toList
/-- What Scan tells of r, where pre stands ahead. -/
def kS (a b : ByteArray) (t : Int) (pre : List C) (x : C) : Bool := !lss x.k a && !past b x.k && decide (x.t ≤ t) && !dead t pre x && !x.d
def scF (a b : ByteArray) (t : Int) : List C → List C → List C
  | _, [] => []
  | pre, x :: r => (if kS a b t pre x = true then [x] else []) ++ scF a b t (pre ++ [x]) r
theorem lss_iff {k a : ByteArray} : lss k a = true ↔ Lib.compareBytes k.data.toList a.data.toList < 0 := by
  unfold lss; rw [← cmpB_lt]; simp
theorem key_le {x y : C} (h : cmpC x y < 0) (a : ByteArray) (hy : lss y.k a = true) : lss x.k a = true := by
  rcases cmp_key_lt h with e | e
  · rw [e]; exact hy
  · rw [lss_iff] at hy ⊢
    rw [cmpB_lt'] at *
    exact List.lt_trans e hy
theorem past_le {x y : C} (h : cmpC x y < 0) (b : ByteArray) (hx : past b x.k = true) : past b y.k = true := by
  unfold past at *
  simp only [Bool.and_eq_true, Bool.not_eq_true'] at *
  refine ⟨hx.1, ?_⟩
  cases hq : Op.bytesLess y.k.data.toList b.data.toList with
  | false => rfl
  | true =>
    have : lss x.k b = true := key_le h b hq
    unfold lss at this
    rw [this] at hx; simp at hx
theorem scF_past (a b : ByteArray) (t : Int) (r : List C) : ∀ pre, (∀ y ∈ r, past b y.k = true) → scF a b t pre r = [] := by
  induction r with
  | nil => intro pre _; rfl
  | cons x r ih =>
    intro pre h
    unfold scF
    rw [ih _ (fun y hy => h y (by simp [hy]))]
    have := h x (by simp)
    simp [kS, this]
theorem bd_lt {y : C} {k : ByteArray} {t : Int} : cmpC y (k, t, false, ⟨#[]⟩) < 0 ↔ lss y.k k = true ∨ (y.k = k ∧ t < y.t) := by
  rw [lss_iff]
  by_cases e : y.k = k
  · have := cmp_same (a := y) (b := (k, t, false, ⟨#[]⟩)) e
    rw [this]
    subst e
    simp [cmpB_self, C.t]
  · constructor
    · intro h
      exact Or.inl (cmp_diff (b := (k, t, false, ⟨#[]⟩)) e (by omega))
    · rintro (h | ⟨h, _⟩)
      · unfold cmpC
        have h' : Lib.compareBytes y.k.data.toList (C.k (k, t, false, ⟨#[]⟩)).data.toList < 0 := h
        rw [if_neg (by omega)]; exact h'
      · exact absurd h e
theorem nlss {x y : C} (h : cmpC x y < 0) : lss y.k x.k = false := by
  cases hq : lss y.k x.k with
  | false => rfl
  | true =>
    rcases cmp_key_lt h with e | e
    · rw [e, lss_iff, cmpB_self] at hq; omega
    · rw [lss_iff] at hq; exact (cmpB_asym e hq).elim
theorem sc_run (a b : ByteArray) (t : Int) (r : List C) : ∀ (pre : List C) (bd : C) (out : List C), Srt (pre ++ r) → Good (pre ++ r) → (∀ y ∈ r, lss y.k a = true → cmpC y bd < 0) → (∀ y ∈ r, lss y.k a = false → y.t ≤ t → (cmpC y bd < 0 ↔ dead t pre y = true)) → (wlk (fun s => s.1) (scS b t) (bd, out) r).1.2 = out ++ scF a b t pre r := by
  induction r with
  | nil => intro pre bd out _ _ _ _; simp [wlk, scF]
  | cons x r ih =>
    intro pre bd out hs hg h1 h2
    obtain ⟨q1, q2, q3⟩ := ahead hs
    have hs' : Srt ((pre ++ [x]) ++ r) := by simpa using hs
    have hg' : Good ((pre ++ [x]) ++ r) := by simpa using hg
    rw [wlk_cons]
    show (if cmpC x bd < 0 then wlk (fun s => s.1) (scS b t) (bd, out) r else if (scS b t (bd, out) x).2 = true then wlk (fun s => s.1) (scS b t) (scS b t (bd, out) x).1 r else _).1.2 = _
    by_cases hc : cmpC x bd < 0
    · rw [if_pos hc]
      have hk : kS a b t pre x = false := by
        unfold kS
        cases e : lss x.k a with
        | true => simp
        | false =>
          by_cases e2 : x.t ≤ t
          · have := (h2 x (by simp) e e2).1 hc
            simp [this]
          · simp [e2]
      have hT : scF a b t pre (x :: r) = scF a b t (pre ++ [x]) r := by
        show (if kS a b t pre x = true then [x] else []) ++ _ = _
        rw [hk]; rfl
      rw [hT]
      refine ih (pre ++ [x]) bd out hs' hg' (fun y hy => h1 y (by simp [hy])) (fun y hy e1 e2 => (h2 y (by simp [hy]) e1 e2).trans ?_)
      rw [dead_iff, dead_iff]
      constructor
      · rintro ⟨z, hz, h⟩; exact ⟨z, by simp [hz], h⟩
      · rintro ⟨z, hz, g1, g2⟩
        rcases List.mem_append.1 hz with hz | hz
        · exact ⟨z, hz, g1, g2⟩
        · obtain rfl : z = x := by simpa using hz
          have := (h2 z (by simp) (by rw [g1]; exact e1) g2).1 hc
          obtain ⟨u, hu, u1, u2⟩ := dead_iff.1 this
          exact ⟨u, hu, u1.trans g1, u2⟩
    · rw [if_neg hc]
      have ha : lss x.k a = false := by
        cases e : lss x.k a with
        | false => rfl
        | true => exact absurd (h1 x (by simp) e) hc
      have hna : ∀ y ∈ r, lss y.k a = false := by
        intro y hy
        cases e : lss y.k a with
        | false => rfl
        | true => rw [key_le (q2 y hy) a e] at ha; cases ha
      by_cases hp : past b x.k = true
      · have : scS b t (bd, out) x = ((bd, out), false) := by simp [scS, hp]
        rw [this]
        simp only [Bool.false_eq_true, if_false]
        rw [scF_past a b t (x :: r) pre (fun y hy => by
          rcases List.mem_cons.1 hy with rfl | hy
          · exact hp
          · exact past_le (q2 y hy) b hp)]
        simp
      · have hp' : past b x.k = false := by simpa using hp
        by_cases ht : t < x.t
        · have : scS b t (bd, out) x = (((x.k, t, false, ⟨#[]⟩), out), true) := by simp [scS, hp', ht]
          rw [this]
          simp only [if_true]
          have hT : scF a b t pre (x :: r) = scF a b t (pre ++ [x]) r := by
            show (if kS a b t pre x = true then [x] else []) ++ _ = _
            have : kS a b t pre x = false := by unfold kS; rw [show decide (x.t ≤ t) = false by simp; omega]; simp
            rw [this]; rfl
          rw [hT]
          refine ih (pre ++ [x]) _ out hs' hg' (fun y hy e => absurd e (by simp [hna y hy])) (fun y hy e1 e2 => ?_)
          rw [bd_lt, dead_iff]
          constructor
          · rintro (h | ⟨_, h⟩)
            · rw [nlss (q2 y hy)] at h; cases h
            · omega
          · rintro ⟨z, hz, g1, g2⟩
            rcases List.mem_append.1 hz with hz | hz
            · have e := key_mid (q1 z hz) (q2 y hy) g1
              have := (cmp_same (g1.trans e.symm)).1 (q1 z hz)
              omega
            · obtain rfl : z = x := by simpa using hz
              omega
        · have : scS b t (bd, out) x = ((beh x.k, out ++ (if x.d = true then [] else [x])), true) := by
            simp only [scS, hp', ht, if_false, Bool.false_eq_true]
            split <;> simp
          rw [this]
          simp only [if_true]
          have hd : dead t pre x = false := by
            cases h : dead t pre x with
            | false => rfl
            | true => exact absurd ((h2 x (by simp) ha (by omega)).2 h) hc
          have hT : scF a b t pre (x :: r) = (if x.d = true then [] else [x]) ++ scF a b t (pre ++ [x]) r := by
            show (if kS a b t pre x = true then [x] else []) ++ _ = _
            have : kS a b t pre x = !x.d := by unfold kS; rw [show decide (x.t ≤ t) = true by simp; omega, ha, hp', hd]; simp
            rw [this]
            cases x.d <;> rfl
          rw [hT, ← List.append_assoc]
          refine ih (pre ++ [x]) _ _ hs' hg' (fun y hy e => absurd e (by simp [hna y hy])) (fun y hy e1 e2 => ?_)
          rw [beh_iff (q2 y hy) (hg y (by simp [hy])).2, dead_iff]
          constructor
          · intro e; exact ⟨x, by simp, e, by omega⟩
          · rintro ⟨z, hz, g1, g2⟩
            rcases List.mem_append.1 hz with hz | hz
            · exact key_mid (q1 z hz) (q2 y hy) g1
            · obtain rfl : z = x := by simpa using hz
              exact g1
theorem scanP_scF {l : List C} (hs : Srt l) (hg : Good l) (a b : ByteArray) (t : Int) : scanP l a b t = scF a b t [] l := by
  unfold scanP
  rw [sc_run a b t l [] (a, t, false, ⟨#[]⟩) [] (by simpa using hs) (by simpa using hg)]
  · rfl
  · intro y _ h
    exact bd_lt.2 (Or.inl h)
  · intro y _ h1 h2
    rw [bd_lt, h1]
    simp [dead]
    intro _; exact h2
/-! ### The document's -/
theorem dG_skip {x : C} {r : List C} {key : ByteArray} {t : Int} (h : ¬ (x.k = key ∧ x.t ≤ t)) : dG (x :: r) key t = dG r key t := by
  unfold dG fndP
  rw [List.find?_cons_of_neg (by simpa using h)]
theorem dG_head {x : C} {r : List C} {t : Int} (h : x.t ≤ t) : dG (x :: r) x.k t = if x.d = true then none else some x := by
  unfold dG fndP
  rw [List.find?_cons_of_pos (by simp [h])]
theorem dG_no {r : List C} {key : ByteArray} {t : Int} (h : ∀ y ∈ r, y.k ≠ key) : dG r key t = none := by
  unfold dG fndP
  rw [List.find?_eq_none.2 (fun y hy => by simp [h y hy])]
/-- What of a key that was met is still to be told. -/
def pend (a b : ByteArray) (t : Int) (pre r : List C) : List C := match pre.getLast? with
  | none => []
  | some y => if lss y.k a = true ∨ past b y.k = true ∨ dead t pre y = true then [] else (dG r y.k t).toList
theorem pend_snoc (a b : ByteArray) (t : Int) (pre r : List C) (x : C) : pend a b t (pre ++ [x]) r = if lss x.k a = true ∨ past b x.k = true ∨ dead t (pre ++ [x]) x = true then [] else (dG r x.k t).toList := by
  unfold pend; simp
theorem dead_snoc (t : Int) (pre : List C) (x : C) : dead t (pre ++ [x]) x = (dead t pre x || decide (x.t ≤ t)) := by
  simp [dead]
theorem dead_key {t : Int} {pre : List C} {x y : C} (h : y.k = x.k) : dead t pre y = dead t pre x := by
  unfold dead; rw [h]
theorem last_key {pre r : List C} {x y z : C} (hs : Srt (pre ++ x :: r)) (hl : pre.getLast? = some y) (hz : z ∈ pre) (e : z.k = x.k) : y.k = x.k := by
  obtain ⟨ys, rfl⟩ := List.getLast?_eq_some_iff.1 hl
  have hs2 : Srt (ys ++ y :: (x :: r)) := by simpa using hs
  obtain ⟨q1, q2, _⟩ := ahead hs2
  rcases List.mem_append.1 hz with hz | hz
  · exact key_mid (q1 z hz) (q2 x (by simp)) e
  · obtain rfl : z = y := by simpa using hz
    exact e
theorem fresh_dead {pre r : List C} {x : C} (t : Int) (hs : Srt (pre ++ x :: r)) (h : ∀ y, pre.getLast? = some y → y.k ≠ x.k) : dead t pre x = false := by
  cases hd : dead t pre x with
  | false => rfl
  | true =>
    obtain ⟨z, hz, e, _⟩ := dead_iff.1 hd
    cases hl : pre.getLast? with
    | none => rw [List.getLast?_eq_none_iff] at hl; subst hl; cases hz
    | some y => exact absurd (last_key hs hl hz e) (h y hl)
theorem scF_dS (a b : ByteArray) (t : Int) (r : List C) : ∀ pre, Srt (pre ++ r) → scF a b t pre r = pend a b t pre r ++ dS a b t pre r := by
  induction r with
  | nil =>
    intro pre _
    have : pend a b t pre [] = [] := by
      unfold pend
      split
      · rfl
      · split <;> simp [dG, fndP]
    simp [scF, dS, this]
  | cons x r ih =>
    intro pre hs
    have hs' : Srt ((pre ++ [x]) ++ r) := by simpa using hs
    obtain ⟨q1, q2, q3⟩ := ahead hs
    have hL : scF a b t pre (x :: r) = (if kS a b t pre x = true then [x] else []) ++ (pend a b t (pre ++ [x]) r ++ dS a b t (pre ++ [x]) r) := by
      show (if kS a b t pre x = true then [x] else []) ++ scF a b t (pre ++ [x]) r = _
      rw [ih _ hs']
    have hE : (if kS a b t pre x = true then [x] else []) ++ pend a b t (pre ++ [x]) r = if lss x.k a = true ∨ past b x.k = true ∨ dead t pre x = true then [] else (dG (x :: r) x.k t).toList := by
      rw [pend_snoc, dead_snoc]
      unfold kS
      cases lss x.k a <;> cases past b x.k <;> cases dead t pre x <;> simp
      by_cases ht : x.t ≤ t
      · rw [dG_head ht]
        cases x.d <;> simp [ht]
      · rw [dG_skip (fun h => ht h.2)]
        simp [ht]
    have hR : pend a b t pre (x :: r) ++ dS a b t pre (x :: r) = (if lss x.k a = true ∨ past b x.k = true ∨ dead t pre x = true then [] else (dG (x :: r) x.k t).toList) ++ dS a b t (pre ++ [x]) r := by
      show pend a b t pre (x :: r) ++ ((if skp a b pre x = true then [] else (dG (x :: r) x.k t).toList) ++ dS a b t (pre ++ [x]) r) = _
      rw [← List.append_assoc]
      congr 1
      unfold skp pend
      cases hl : pre.getLast? with
      | none =>
        have hd := fresh_dead t hs (fun y hy => by rw [hl] at hy; cases hy)
        simp only [hd]
        show [] ++ (if (lss x.k a || past b x.k || false) = true then _ else _) = _
        cases lss x.k a <;> cases past b x.k <;> simp
      | some y =>
        by_cases e : y.k = x.k
        · dsimp only
          simp only [e, dead_key e]
          simp
        · have hd := fresh_dead t hs (fun z hz => by rw [hl] at hz; cases hz; exact e)
          have hn : dG (x :: r) y.k t = none := dG_no (fun z hz ez => by
            rcases List.mem_cons.1 hz with rfl | hz
            · exact e ez.symm
            · have hy : y ∈ pre := List.mem_of_getLast? hl
              exact e ((key_mid (q1 y hy) (q2 z hz) ez.symm).trans ez).symm)
          dsimp only
          simp only [hn, hd, e]
          show (if _ then [] else (none : Option C).toList) ++ (if (lss x.k a || past b x.k || decide False) = true then _ else _) = _
          cases lss x.k a <;> cases past b x.k <;> simp
    rw [hL, hR, ← List.append_assoc, hE]
theorem scan_doc {l : List C} (hs : Srt l) (hg : Good l) (a b : ByteArray) (t : Int) : dS a b t [] l = scanP l a b t := by
  rw [scanP_scF hs hg, scF_dS a b t l [] (by simpa using hs)]
  rfl
end Go.Proofs.Ytkpallbnmckbaaa
