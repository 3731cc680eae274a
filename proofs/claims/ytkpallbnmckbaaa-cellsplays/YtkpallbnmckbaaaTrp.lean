/- Trim and Get, plain. -/
import Derived.Test.YtkpallbnmckbaaaWlk
namespace Go.Proofs.Ytkpallbnmckbaaa
theorem cmp_key_lt {a b : C} (h : cmpC a b < 0) : a.k = b.k ∨ Lib.compareBytes a.k.data.toList b.k.data.toList < 0 := by
  unfold cmpC at h
  split at h
  · rename_i e; exact Or.inl (key_ext ((cmpB_eq _ _).1 e))
  · exact Or.inr h
theorem cmp_same {a b : C} (h : a.k = b.k) : cmpC a b < 0 ↔ b.t < a.t := by
  unfold cmpC
  rw [if_pos (by rw [h]; exact cmpB_self _)]
  unfold cmpI
  split
  · omega
  · split <;> omega
/-- Every cell has a key and a time. -/
def Good (l : List C) : Prop := ∀ x ∈ l, x.k ≠ ⟨#[]⟩ ∧ 0 < x.t
theorem Srt.inj {l : List C} (h : Srt l) {x y : C} (hx : x ∈ l) (hy : y ∈ l) (e : cmpC x y = 0) : x = y := by
  induction l with
  | nil => simp at hx
  | cons z l ih =>
    have h' := List.pairwise_cons.1 h
    rcases List.mem_cons.1 hx with rfl | hx'
    · rcases List.mem_cons.1 hy with rfl | hy
      · rfl
      · have := h'.1 y hy; omega
    · rcases List.mem_cons.1 hy with rfl | hy
      · have := h'.1 x hx'; have := cmpC_cm.zero e; omega
      · exact ih h'.2 hx' hy
theorem Srt.ext {l l' : List C} (h : Srt l) (h' : Srt l') (he : ∀ x, x ∈ l ↔ x ∈ l') : l = l' := by
  induction l generalizing l' with
  | nil =>
    cases l' with
    | nil => rfl
    | cons y r => exact absurd ((he y).2 (by simp)) (by simp)
  | cons x l ih =>
    cases l' with
    | nil => exact absurd ((he x).1 (by simp)) (by simp)
    | cons y r =>
      have hx := List.pairwise_cons.1 h
      have hy := List.pairwise_cons.1 h'
      have e : x = y := by
        rcases List.mem_cons.1 ((he x).1 (by simp)) with e | hm
        · exact e
        · rcases List.mem_cons.1 ((he y).2 (by simp)) with e | hm'
          · exact e.symm
          · have a := hy.1 x hm
            have b := hx.1 y hm'
            have := (cmpC_cm.anti x y).1 b
            omega
      subst e
      congr 1
      refine ih hx.2 hy.2 (fun z => ⟨fun hz => ?_, fun hz => ?_⟩)
      · rcases List.mem_cons.1 ((he z).1 (by simp [hz])) with e | hm
        · subst e; have := hx.1 z hz; have := cmpC_self z; omega
        · exact hm
      · rcases List.mem_cons.1 ((he z).2 (by simp [hz])) with e | hm
        · subst e; have := hy.1 z hz; have := cmpC_self z; omega
        · exact hm
theorem mem_ins {c y : C} {l : List C} (h : Srt l) : y ∈ ins c l ↔ y = c ∨ (y ∈ l ∧ cmpC y c ≠ 0) := by
  induction l with
  | nil => simp [ins]
  | cons x r ih =>
    have h' := List.pairwise_cons.1 h
    unfold ins
    split
    · rename_i hc
      rw [List.mem_cons, ih h'.2, List.mem_cons]
      constructor
      · rintro (rfl | e | ⟨e1, e2⟩)
        · exact Or.inr ⟨Or.inl rfl, by omega⟩
        · exact Or.inl e
        · exact Or.inr ⟨Or.inr e1, e2⟩
      · rintro (e | ⟨e1 | e1, e2⟩)
        · exact Or.inr (Or.inl e)
        · exact Or.inl e1
        · exact Or.inr (Or.inr ⟨e1, e2⟩)
    · split
      · rename_i _ hc
        rw [List.mem_cons, List.mem_cons]
        constructor
        · rintro (e | e)
          · exact Or.inl e
          · exact Or.inr ⟨Or.inr e, fun e0 => by have := h'.1 y e; have := cmpC_cm.tr y c x (by omega) (by have := cmpC_cm.zero hc; omega); have := (cmpC_cm.anti x y).1 (by omega); omega⟩
        · rintro (e | ⟨e1 | e1, e2⟩)
          · exact Or.inl e
          · subst e1; exact absurd hc e2
          · exact Or.inr e1
      · rename_i hc1 hc2
        rw [List.mem_cons]
        constructor
        · rintro (e | e)
          · exact Or.inl e
          · refine Or.inr ⟨e, fun e0 => ?_⟩
            rcases List.mem_cons.1 e with rfl | e
            · exact hc2 e0
            · have := h'.1 y e
              have := lt_le this (show cmpC y c ≤ 0 by omega)
              omega
        · rintro (e | ⟨e1, _⟩)
          · exact Or.inl e
          · exact Or.inr e1
/-- The newest of a key up to a time. -/
def Sel (l : List C) (key : ByteArray) (t : Int) (y : C) : Prop := y ∈ l ∧ y.k = key ∧ y.t ≤ t ∧ ∀ z ∈ l, z.k = key → z.t ≤ t → z.t ≤ y.t
theorem fst_some {b x : C} {l : List C} (hs : Srt l) (h : fst b l = some x) : x ∈ l ∧ ¬ cmpC x b < 0 ∧ ∀ z ∈ l, ¬ cmpC z b < 0 → cmpC x z ≤ 0 := by
  induction l with
  | nil => simp [fst] at h
  | cons y r ih =>
    have h' := List.pairwise_cons.1 hs
    unfold fst at h
    split at h
    · rename_i hc
      obtain ⟨h1, h2, h3⟩ := ih h'.2 h
      refine ⟨by simp [h1], h2, fun z hz hn => ?_⟩
      rcases List.mem_cons.1 hz with rfl | hz
      · exact absurd hc hn
      · exact h3 z hz hn
    · rename_i hc
      injection h with h
      subst h
      refine ⟨by simp, hc, fun z hz _ => ?_⟩
      rcases List.mem_cons.1 hz with rfl | hz
      · have := cmpC_self z; omega
      · have := h'.1 z hz; omega
theorem fst_none {b : C} {l : List C} (h : fst b l = none) : ∀ z ∈ l, cmpC z b < 0 := by
  induction l with
  | nil => simp
  | cons y r ih =>
    unfold fst at h
    split at h
    · rename_i hc
      intro z hz
      rcases List.mem_cons.1 hz with rfl | hz
      · exact hc
      · exact ih h z hz
    · cases h
theorem cmp_diff {a b : C} (h : a.k ≠ b.k) (h1 : cmpC a b ≤ 0) : Lib.compareBytes a.k.data.toList b.k.data.toList < 0 := by
  unfold cmpC at h1
  have h0 : Lib.compareBytes a.k.data.toList b.k.data.toList ≠ 0 := fun e => h (key_ext ((cmpB_eq _ _).1 e))
  rw [if_neg h0] at h1
  omega
theorem cmpB_asym {a b : List UInt8} (h : Lib.compareBytes a b < 0) (h' : Lib.compareBytes b a < 0) : False := by
  have := (cmpB_lt' a b).1 h
  have := (cmpB_lt' b a).1 h'
  exact List.lt_irrefl a (List.lt_trans ((cmpB_lt' a b).1 h) ((cmpB_lt' b a).1 h'))
theorem getP_sel {l : List C} (hs : Srt l) (key : ByteArray) (t : Int) (x : C) : getP l key t = some x ↔ Sel l key t x ∧ x.d = false := by
  have hk : ∀ z : C, z.k = key → (cmpC z (key, t, false, ⟨#[]⟩) < 0 ↔ t < z.t) := fun z hz => cmp_same (b := (key, t, false, ⟨#[]⟩)) hz
  constructor
  · intro h
    unfold getP at h
    cases hf : fst (key, t, false, ⟨#[]⟩) l with
    | none => rw [hf] at h; cases h
    | some y =>
      rw [hf] at h
      simp only at h
      split at h
      · rename_i hc
        injection h with h
        subst h
        obtain ⟨h1, h2, h3⟩ := fst_some hs hf
        refine ⟨⟨h1, hc.1, by have := hk y hc.1; omega, fun z hz hzk hzt => ?_⟩, hc.2⟩
        have := h3 z hz (by have := hk z hzk; omega)
        by_cases e : y.t < z.t
        · have := (cmp_same (a := z) (b := y) (hzk.trans hc.1.symm)).2 e
          have := (cmpC_cm.anti z y).1 this
          omega
        · omega
      · cases h
  · rintro ⟨⟨h1, h2, h3, h4⟩, hd⟩
    unfold getP
    cases hf : fst (key, t, false, ⟨#[]⟩) l with
    | none => have := fst_none hf x h1; have := (hk x h2).1 this; omega
    | some y =>
      obtain ⟨g1, g2, g3⟩ := fst_some hs hf
      have hyx := g3 x h1 (by have := hk x h2; omega)
      have hby : cmpC (key, t, false, ⟨#[]⟩) y ≤ 0 := by have := cmpC_cm.anti y (key, t, false, ⟨#[]⟩); have := cmpC_cm.anti (key, t, false, ⟨#[]⟩) y; omega
      have hyk : y.k = key := by
        by_cases e : y.k = key
        · exact e
        · have a := cmp_diff (a := (key, t, false, ⟨#[]⟩)) (b := y) (fun e' => e e'.symm) hby
          have b := cmp_diff (a := y) (b := x) (fun e' => e (e'.trans h2)) hyx
          rw [h2] at b
          exact (cmpB_asym a b).elim
      have hyt : y.t ≤ t := by have := hk y hyk; omega
      have e1 := h4 y g1 hyk hyt
      have e2 : x.t ≤ y.t := by
        by_cases e : y.t < x.t
        · have := (cmp_same (a := x) (b := y) (h2.trans hyk.symm)).2 e
          have := (cmpC_cm.anti x y).1 this
          omega
        · omega
      have e3 : y = x := hs.inj g1 h1 ((cmpC_zero y x).2 ⟨hyk.trans h2.symm, by omega⟩)
      subst e3
      simp only
      rw [if_pos ⟨h2, hd⟩]
theorem getP_ext {l l' : List C} (hs : Srt l) (hs' : Srt l') (key : ByteArray) (t : Int) (h : ∀ x, (Sel l key t x ∧ x.d = false) ↔ (Sel l' key t x ∧ x.d = false)) : getP l key t = getP l' key t := by
  apply Option.ext
  intro x
  rw [getP_sel hs, getP_sel hs']
  exact h x
theorem sel_ext {l l' : List C} {key : ByteArray} {t : Int} (h : ∀ z : C, z.k = key → z.t ≤ t → (z ∈ l ↔ z ∈ l')) (x : C) : Sel l key t x ↔ Sel l' key t x := by
  constructor
  · rintro ⟨h1, h2, h3, h4⟩
    exact ⟨(h x h2 h3).1 h1, h2, h3, fun z hz hk ht => h4 z ((h z hk ht).2 hz) hk ht⟩
  · rintro ⟨h1, h2, h3, h4⟩
    exact ⟨(h x h2 h3).2 h1, h2, h3, fun z hz hk ht => h4 z ((h z hk ht).1 hz) hk ht⟩
/-- What is put at a later time changes nothing of what is seen. -/
theorem getP_later {l : List C} (hs : Srt l) (key : ByteArray) (t : Int) (c : C) (hc : t < c.t) : getP (ins c l) key t = getP l key t := by
  refine getP_ext (hs.ins c) hs key t (fun x => and_congr_left (fun _ => sel_ext (fun z _ ht => ?_) x))
  rw [mem_ins hs]
  constructor
  · rintro (rfl | ⟨h, _⟩)
    · omega
    · exact h
  · intro h
    exact Or.inr ⟨h, fun e => by have := ((cmpC_zero z c).1 e).2; omega⟩
/-! ### Trim -/
/-- Stands behind all cells of a key. -/
def beh (k : ByteArray) : C := (k, 0, false, ⟨#[]⟩)
/-- One step of Trim: the bound and what is left so far. -/
def trS (below : Int) (s : C × List C) (x : C) : (C × List C) × Bool := ((if x.t ≤ below then beh x.k else s.1, if below < x.t ∨ x.d = false then s.2 ++ [x] else s.2), true)
/-- Whether a newer one up to the time stands ahead. -/
def dead (below : Int) (a : List C) (x : C) : Bool := a.any (fun z => decide (z.k = x.k) && decide (z.t ≤ below))
/-- What Trim leaves of r, where a stands ahead. -/
def trF (below : Int) : List C → List C → List C
  | _, [] => []
  | a, x :: r => if dead below a x = false ∧ (below < x.t ∨ x.d = false) then x :: trF below (a ++ [x]) r else trF below (a ++ [x]) r
theorem dead_iff {below : Int} {a : List C} {x : C} : dead below a x = true ↔ ∃ z ∈ a, z.k = x.k ∧ z.t ≤ below := by
  simp [dead, List.any_eq_true]
theorem ahead {a : List C} {x : C} {r : List C} (hs : Srt (a ++ x :: r)) : (∀ z ∈ a, cmpC z x < 0) ∧ (∀ y ∈ r, cmpC x y < 0) ∧ (∀ z ∈ a, ∀ y ∈ r, cmpC z y < 0) := by
  obtain ⟨_, _, h3, h4⟩ := hs.parts
  exact ⟨h3, h4, fun z hz y hy => lt_le (h3 z hz) (by have := h4 y hy; omega)⟩
theorem key_mid {z x y : C} (h1 : cmpC z x < 0) (h2 : cmpC x y < 0) (h : z.k = y.k) : x.k = y.k := by
  by_cases e : x.k = y.k
  · exact e
  · have a := cmp_diff e (by omega)
    have b := cmp_diff (a := z) (b := x) (fun e' => e (e'.symm.trans h)) (by omega)
    rw [h] at b
    exact (cmpB_asym a b).elim
theorem beh_iff {x y : C} (h : cmpC x y < 0) (hy : 0 < y.t) : cmpC y (beh x.k) < 0 ↔ x.k = y.k := by
  constructor
  · intro h'
    by_cases e : x.k = y.k
    · exact e
    · have a := cmp_diff e (by omega)
      have b := cmp_diff (a := y) (b := beh x.k) (fun e' => e e'.symm) (by omega)
      exact (cmpB_asym a b).elim
  · intro e
    exact (cmp_same (a := y) (b := beh x.k) e.symm).2 hy
theorem tr_run (below : Int) (r : List C) : ∀ (a : List C) (b : C) (out : List C), Srt (a ++ r) → Good (a ++ r) → (∀ y ∈ r, cmpC y b < 0 ↔ dead below a y = true) → ∃ b', wlk (fun s => s.1) (trS below) (b, out) r = ((b', out ++ trF below a r), true) := by
  induction r with
  | nil => intro a b out _ _ _; exact ⟨b, by simp [wlk, trF]⟩
  | cons x r ih =>
    intro a b out hs hg hb
    obtain ⟨q1, q2, q3⟩ := ahead hs
    have hs' : Srt ((a ++ [x]) ++ r) := by simpa using hs
    have hg' : Good ((a ++ [x]) ++ r) := by simpa using hg
    rw [wlk_cons]
    show ∃ b', (if cmpC x b < 0 then wlk (fun s => s.1) (trS below) (b, out) r else if (trS below (b, out) x).2 = true then wlk (fun s => s.1) (trS below) (trS below (b, out) x).1 r else _) = _
    by_cases hc : cmpC x b < 0
    · have hd := (hb x (by simp)).1 hc
      rw [if_pos hc]
      have hT : trF below a (x :: r) = trF below (a ++ [x]) r := by simp [trF, hd]
      rw [hT]
      refine ih (a ++ [x]) b out hs' hg' (fun y hy => (hb y (by simp [hy])).trans ?_)
      rw [dead_iff, dead_iff]
      constructor
      · rintro ⟨z, hz, h⟩; exact ⟨z, by simp [hz], h⟩
      · rintro ⟨z, hz, h1, h2⟩
        rcases List.mem_append.1 hz with hz | hz
        · exact ⟨z, hz, h1, h2⟩
        · obtain rfl : z = x := by simpa using hz
          obtain ⟨u, hu, g1, g2⟩ := dead_iff.1 hd
          exact ⟨u, hu, g1.trans h1, g2⟩
    · have hd : dead below a x = false := by
        cases h : dead below a x with
        | false => rfl
        | true => exact absurd ((hb x (by simp)).2 h) hc
      rw [if_neg hc]
      show ∃ b', wlk (fun s => s.1) (trS below) (if x.t ≤ below then beh x.k else b, if below < x.t ∨ x.d = false then out ++ [x] else out) r = _
      have hT : trF below a (x :: r) = (if below < x.t ∨ x.d = false then [x] else []) ++ trF below (a ++ [x]) r := by
        show (if dead below a x = false ∧ (below < x.t ∨ x.d = false) then x :: trF below (a ++ [x]) r else trF below (a ++ [x]) r) = _
        by_cases e : below < x.t ∨ x.d = false
        · rw [if_pos ⟨hd, e⟩, if_pos e]; rfl
        · rw [if_neg (fun h => e h.2), if_neg e]; rfl
      have hO : (if below < x.t ∨ x.d = false then out ++ [x] else out) = out ++ (if below < x.t ∨ x.d = false then [x] else []) := by split <;> simp
      rw [hT, hO, ← List.append_assoc]
      refine ih (a ++ [x]) _ _ hs' hg' (fun y hy => ?_)
      have hyt : 0 < y.t := (hg y (by simp [hy])).2
      rw [dead_iff]
      split
      · rename_i ht
        rw [beh_iff (q2 y hy) hyt]
        constructor
        · intro e; exact ⟨x, by simp, e, ht⟩
        · rintro ⟨z, hz, h1, h2⟩
          rcases List.mem_append.1 hz with hz | hz
          · exact key_mid (q1 z hz) (q2 y hy) h1
          · obtain rfl : z = x := by simpa using hz
            exact h1
      · rename_i ht
        rw [hb y (by simp [hy]), dead_iff]
        constructor
        · rintro ⟨z, hz, h⟩; exact ⟨z, by simp [hz], h⟩
        · rintro ⟨z, hz, h1, h2⟩
          rcases List.mem_append.1 hz with hz | hz
          · exact ⟨z, hz, h1, h2⟩
          · obtain rfl : z = x := by simpa using hz
            omega
/-- What Trim leaves. -/
def trm (below : Int) (l : List C) : List C := trF below [] l
theorem nil_lt {y : C} (h : y.k ≠ ⟨#[]⟩) : ¬ cmpC y (beh ⟨#[]⟩) < 0 := by
  intro h'
  have b := cmp_diff (a := y) (b := beh ⟨#[]⟩) h (by omega)
  have := (cmpB_lt' _ _).1 b
  exact List.not_lt_nil _ this
theorem tr_all (below : Int) {l : List C} (hs : Srt l) (hg : Good l) : ∃ b', wlk (fun s => s.1) (trS below) (beh ⟨#[]⟩, []) l = ((b', trm below l), true) := by
  obtain ⟨b', h⟩ := tr_run below l [] (beh ⟨#[]⟩) [] (by simpa using hs) (by simpa using hg) (fun y hy => by
    have := nil_lt (hg y hy).1
    simp [dead, this])
  exact ⟨b', by simpa [trm] using h⟩
theorem trF_sub (below : Int) (r : List C) : ∀ a, (trF below a r).Sublist r := by
  induction r with
  | nil => intro a; exact List.Sublist.refl _
  | cons x r ih =>
    intro a
    unfold trF
    split
    · exact (ih _).cons_cons x
    · exact (ih _).cons x
theorem trm_srt {l : List C} (hs : Srt l) (below : Int) : Srt (trm below l) := List.Pairwise.sublist (trF_sub below l []) hs
theorem trm_good {l : List C} (hg : Good l) (below : Int) : Good (trm below l) := fun x hx => hg x ((trF_sub below l []).mem hx)
theorem trm_len (below : Int) (l : List C) : (trm below l).length ≤ l.length := (trF_sub below l []).length_le
theorem trF_mem (below : Int) (r : List C) : ∀ (a : List C) (y : C), Srt (a ++ r) → (y ∈ trF below a r ↔ y ∈ r ∧ (below < y.t ∨ y.d = false) ∧ ¬ ∃ z ∈ a ++ r, z.k = y.k ∧ z.t ≤ below ∧ y.t < z.t) := by
  induction r with
  | nil => intro a y _; simp [trF]
  | cons x r ih =>
    intro a y hs
    obtain ⟨q1, q2, q3⟩ := ahead hs
    have hs' : Srt ((a ++ [x]) ++ r) := by simpa using hs
    have hi := ih (a ++ [x]) y hs'
    rw [List.append_assoc] at hi
    have hx : ((∃ z ∈ a ++ x :: r, z.k = x.k ∧ z.t ≤ below ∧ x.t < z.t) ↔ dead below a x = true) := by
      rw [dead_iff]
      constructor
      · rintro ⟨z, hz, h1, h2, h3⟩
        rcases List.mem_append.1 hz with hz | hz
        · exact ⟨z, hz, h1, h2⟩
        · rcases List.mem_cons.1 hz with rfl | hz
          · omega
          · have := (cmp_same (a := x) (b := z) h1.symm).1 (q2 z hz); omega
      · rintro ⟨z, hz, h1, h2⟩
        exact ⟨z, by simp [hz], h1, h2, (cmp_same h1).1 (q1 z hz)⟩
    have hne : y ∈ r → y ≠ x := fun hy e => by subst e; have := q2 y hy; have := cmpC_self y; omega
    unfold trF
    split
    · rename_i hc
      rw [List.mem_cons, hi]
      constructor
      · rintro (rfl | ⟨h1, h2, h3⟩)
        · exact ⟨by simp, hc.2, fun h => by have := hx.1 h; rw [hc.1] at this; cases this⟩
        · exact ⟨by simp [h1], h2, by simpa using h3⟩
      · rintro ⟨h1, h2, h3⟩
        rcases List.mem_cons.1 h1 with e | h1
        · exact Or.inl e
        · exact Or.inr ⟨h1, h2, by simpa using h3⟩
    · rename_i hc
      rw [hi]
      constructor
      · rintro ⟨h1, h2, h3⟩
        exact ⟨by simp [h1], h2, by simpa using h3⟩
      · rintro ⟨h1, h2, h3⟩
        rcases List.mem_cons.1 h1 with rfl | h1
        · refine absurd ⟨?_, h2⟩ hc
          cases hd : dead below a y with
          | false => rfl
          | true => exact absurd (hx.2 hd) h3
        · exact ⟨h1, h2, by simpa using h3⟩
theorem trm_mem {l : List C} (hs : Srt l) (below : Int) (y : C) : y ∈ trm below l ↔ y ∈ l ∧ (below < y.t ∨ y.d = false) ∧ ¬ ∃ z ∈ l, z.k = y.k ∧ z.t ≤ below ∧ y.t < z.t := by
  have := trF_mem below l [] y (by simpa using hs)
  simpa [trm] using this
/-- Trimming changes nothing of what is seen at and above the time. -/
theorem getP_trm {l : List C} (hs : Srt l) (below : Int) (key : ByteArray) (t : Int) (h : below ≤ t) : getP (trm below l) key t = getP l key t := by
  refine getP_ext (trm_srt hs below) hs key t (fun x => ?_)
  constructor
  · rintro ⟨⟨h1, h2, h3, h4⟩, hd⟩
    obtain ⟨m1, m2, m3⟩ := (trm_mem hs below x).1 h1
    refine ⟨⟨m1, h2, h3, fun z hz hk ht => ?_⟩, hd⟩
    by_cases e : z.t ≤ x.t
    · exact e
    · exfalso
      by_cases hb : z.t ≤ below
      · exact m3 ⟨z, hz, hk.trans h2.symm, hb, by omega⟩
      · have hzm : z ∈ trm below l := (trm_mem hs below z).2 ⟨hz, Or.inl (by omega), by rintro ⟨u, _, _, u3, u4⟩; omega⟩
        have := h4 z hzm hk ht
        omega
  · rintro ⟨⟨h1, h2, h3, h4⟩, hd⟩
    refine ⟨⟨(trm_mem hs below x).2 ⟨h1, Or.inr hd, ?_⟩, h2, h3, fun z hz hk ht => h4 z ((trm_mem hs below z).1 hz).1 hk ht⟩, hd⟩
    rintro ⟨z, z1, z2, z3, z4⟩
    have := h4 z z1 (z2.trans h2) (by omega)
    omega
end Go.Proofs.Ytkpallbnmckbaaa
