/- Values as one thing; their order is total; rising rows, plain: what is put in its place, what is moved up, what is made compact. -/
import Derived.Test.YtgghcfmpfneehaaDoorValN
import Derived.Lib.SlicesCompact
import Derived.Sort.Walk0
namespace Go.Proofs.YtgghcfmpfneehaaDoor
open Go.RowKit
abbrev V := Int × Bool × Int × ByteArray × Int
abbrev V.k (x : V) : Int := x.1
abbrev V.b (x : V) : Bool := x.2.1
abbrev V.n (x : V) : Int := x.2.2.1
abbrev V.s (x : V) : ByteArray := x.2.2.2.1
abbrev V.u (x : V) : Int := x.2.2.2.2
theorem V.ext {x y : V} (h1 : x.k = y.k) (h2 : x.b = y.b) (h3 : x.n = y.n) (h4 : x.s = y.s) (h5 : x.u = y.u) : x = y := by
  obtain ⟨a, b, c, d, e⟩ := x
  obtain ⟨a', b', c', d', e'⟩ := y
  simp only [V.k, V.b, V.n, V.s, V.u] at h1 h2 h3 h4 h5
  rw [h1, h2, h3, h4, h5]
/-- How one value stands to another. -/
def vo (x y : V) : Int := ord x.k x.b x.n x.s x.u y.k y.b y.n y.s y.u
/-- A comparison that is an order. -/
structure Cm {α : Type} (c : α → α → Int) : Prop where
  anti : ∀ x y, c x y < 0 ↔ 0 < c y x
  tr : ∀ x y z, c x y ≤ 0 → c y z ≤ 0 → c x z ≤ 0
theorem Cm.zero {α : Type} {c : α → α → Int} (h : Cm c) {x y : α} (e : c x y = 0) : c y x = 0 := by
  have h1 := h.anti x y
  have h2 := h.anti y x
  omega
theorem Cm.lex {α : Type} {c d : α → α → Int} (hc : Cm c) (hd : Cm d) : Cm (fun x y => if c x y = 0 then d x y else c x y) := by
  refine ⟨fun x y => ?_, fun x y z h1 h2 => ?_⟩
  · show (if c x y = 0 then d x y else c x y) < 0 ↔ 0 < (if c y x = 0 then d y x else c y x)
    have h1 := hc.anti x y
    have h2 := hc.anti y x
    have h3 := hd.anti x y
    by_cases e : c x y = 0
    · have e2 := hc.zero e
      simp only [e, e2, if_pos]; exact h3
    · have e2 : ¬ c y x = 0 := fun e2 => e (hc.zero e2)
      simp only [e, e2, if_false]; exact h1
  · have a1 : c x y ≤ 0 := by
      by_cases e : c x y = 0
      · omega
      · simp only [e, if_false] at h1; exact h1
    have a2 : c y z ≤ 0 := by
      by_cases e : c y z = 0
      · omega
      · simp only [e, if_false] at h2; exact h2
    have a3 := hc.tr x y z a1 a2
    by_cases e : c x z = 0
    · have e' := hc.zero e
      have b1 : c y x ≤ 0 := hc.tr y z x a2 (by omega)
      have b2 : c z y ≤ 0 := hc.tr z x y (by omega) a1
      have c1 : c x y = 0 := by have := hc.anti x y; omega
      have c2 : c y z = 0 := by have := hc.anti y z; omega
      simp only [c1, if_true] at h1
      simp only [c2, if_true] at h2
      simp only [e, if_true]
      exact hd.tr x y z h1 h2
    · simp only [e, if_false]; exact a3
theorem Cm.int {α : Type} (f : α → Int) : Cm (fun x y => cmpI (f x) (f y)) := by
  refine ⟨fun x y => ?_, fun x y z h1 h2 => ?_⟩
  · unfold cmpI
    repeat' split
    all_goals omega
  · unfold cmpI at *
    repeat' split
    all_goals (first | omega | (repeat' (split at h1)) <;> (repeat' (split at h2)) <;> omega)
theorem cmpB_lt' (a b : List UInt8) : Lib.compareBytes a b < 0 ↔ a < b := by
  have h := cmpB_lt a b
  rw [bytesLess_eq] at h
  by_cases e : a < b
  · simp only [e, decide_true, iff_true] at *; simpa using h
  · simp only [e, decide_false, iff_false] at *; simpa using h
theorem cmpB_gt (a b : List UInt8) : 0 < Lib.compareBytes a b ↔ b < a := by
  have h1 := cmpB_lt' a b
  have h2 := cmpB_eq a b
  constructor
  · intro h
    rcases List.le_iff_lt_or_eq.1 (List.not_lt.1 (show ¬ a < b from fun hh => by have := h1.2 hh; omega)) with hh | hh
    · exact hh
    · have := h2.2 hh.symm; omega
  · intro h
    have n1 : ¬ Lib.compareBytes a b < 0 := fun hh => List.lt_irrefl a (List.lt_trans (h1.1 hh) h)
    have n2 : ¬ Lib.compareBytes a b = 0 := fun hh => by have := h2.1 hh; subst this; exact List.lt_irrefl a h
    omega
theorem Cm.bytes {α : Type} (f : α → List UInt8) : Cm (fun x y => Lib.compareBytes (f x) (f y)) := by
  refine ⟨fun x y => by rw [cmpB_lt', cmpB_gt], fun x y z h1 h2 => ?_⟩
  · have a1 : ¬ f y < f x := fun h => by have := (cmpB_gt (f x) (f y)).2 h; omega
    have a2 : ¬ f z < f y := fun h => by have := (cmpB_gt (f y) (f z)).2 h; omega
    have a3 : ¬ f z < f x := List.not_lt.2 (List.le_trans (List.not_lt.1 a1) (List.not_lt.1 a2))
    have a4 : ¬ 0 < Lib.compareBytes (f x) (f z) := fun h => a3 ((cmpB_gt (f x) (f z)).1 h)
    omega
theorem vo_lex (x y : V) : vo x y = if cmpI x.k y.k = 0 then (if cmpI ((bt x.b).toNat : Int) ((bt y.b).toNat : Int) = 0 then (if cmpI x.n y.n = 0 then (if Lib.compareBytes x.s.data.toList y.s.data.toList = 0 then cmpI x.u y.u else Lib.compareBytes x.s.data.toList y.s.data.toList) else cmpI x.n y.n) else cmpI ((bt x.b).toNat : Int) ((bt y.b).toNat : Int)) else cmpI x.k y.k := by
  unfold vo ord
  simp only [orL]
  have e : (if cmpI x.u y.u = 0 then (0 : Int) else cmpI x.u y.u) = cmpI x.u y.u := by split <;> omega
  rw [e]
theorem vo_cm : Cm vo := by
  have h := Cm.lex (Cm.int (fun x : V => x.k)) (Cm.lex (Cm.int (fun x : V => ((bt x.b).toNat : Int))) (Cm.lex (Cm.int (fun x : V => x.n)) (Cm.lex (Cm.bytes (fun x : V => x.s.data.toList)) (Cm.int (fun x : V => x.u)))))
  have e : vo = (fun x y => if cmpI x.k y.k = 0 then (if cmpI ((bt x.b).toNat : Int) ((bt y.b).toNat : Int) = 0 then (if cmpI x.n y.n = 0 then (if Lib.compareBytes x.s.data.toList y.s.data.toList = 0 then cmpI x.u y.u else Lib.compareBytes x.s.data.toList y.s.data.toList) else cmpI x.n y.n) else cmpI ((bt x.b).toNat : Int) ((bt y.b).toNat : Int)) else cmpI x.k y.k) := by
    funext x y; exact vo_lex x y
  rw [e]; exact h
theorem bt_inj {a b : Bool} (h : ((bt a).toNat : Int) = ((bt b).toNat : Int)) : a = b := by
  cases a <;> cases b <;> first | rfl | (exfalso; revert h; decide)
theorem vo_zero (x y : V) : vo x y = 0 ↔ x = y := by
  constructor
  · intro h
    rw [vo_lex] at h
    split at h
    · rename_i h1
      split at h
      · rename_i h2
        split at h
        · rename_i h3
          split at h
          · rename_i h4
            refine V.ext ((cmpI_eq _ _).1 h1) (bt_inj ((cmpI_eq _ _).1 h2)) ((cmpI_eq _ _).1 h3) ?_ ((cmpI_eq _ _).1 h)
            have := (cmpB_eq _ _).1 h4
            exact ByteArray.ext (Array.toList_inj.1 this)
          · rename_i h4; exact absurd h h4
        · rename_i h3; exact absurd h h3
      · rename_i h2; exact absurd h h2
    · rename_i h1; exact absurd h h1
  · rintro rfl
    rw [vo_lex]
    simp [cmpI_self, cmpB_self]
/-- Ahead of it. -/
def vlt (x y : V) : Prop := vo x y < 0
theorem vlt_irr (x : V) : ¬ vlt x x := fun h => by have := (vo_zero x x).2 rfl; unfold vlt at h; omega
theorem vlt_trans {x y z : V} (h1 : vlt x y) (h2 : vlt y z) : vlt x z := by
  unfold vlt at *
  have h3 := vo_cm.tr x y z (by omega) (by omega)
  by_cases e : vo x z = 0
  · have ez := (vo_zero x z).1 e
    subst ez
    have := (vo_cm.anti x y).1 h1
    omega
  · omega
theorem vlt_tri (x y : V) : vlt x y ∨ x = y ∨ vlt y x := by
  unfold vlt
  have h1 := vo_cm.anti y x
  have h2 := vo_zero x y
  by_cases e : vo x y = 0
  · exact Or.inr (Or.inl (h2.1 e))
  · omega
theorem vo_pos (x y : V) : 0 < vo x y ↔ vlt y x := (vo_cm.anti y x).symm
/-- Rising, each once. -/
def risV (l : List V) : Prop := l.Pairwise vlt
theorem risV_ext : ∀ (a b : List V), risV a → risV b → (∀ x, x ∈ a ↔ x ∈ b) → a = b
  | [], [], _, _, _ => rfl
  | [], y :: b, _, _, h => by have := (h y).2 (by simp); simp at this
  | x :: a, [], _, _, h => by have := (h x).1 (by simp); simp at this
  | x :: a, y :: b, ha, hb, h => by
    obtain ⟨ha1, ha2⟩ := List.pairwise_cons.1 ha
    obtain ⟨hb1, hb2⟩ := List.pairwise_cons.1 hb
    have hxy : x = y := by
      rcases List.mem_cons.1 ((h x).1 (by simp)) with h1 | h1
      · exact h1
      · rcases List.mem_cons.1 ((h y).2 (by simp)) with h2 | h2
        · exact h2.symm
        · exact absurd (vlt_trans (hb1 x h1) (ha1 y h2)) (vlt_irr y)
    subst hxy
    rw [risV_ext a b ha2 hb2 (fun z => ⟨fun hz => ?_, fun hz => ?_⟩)]
    · rcases List.mem_cons.1 ((h z).1 (List.mem_cons_of_mem _ hz)) with h1 | h1
      · rw [h1] at hz; exact absurd (ha1 x hz) (vlt_irr x)
      · exact h1
    · rcases List.mem_cons.1 ((h z).2 (List.mem_cons_of_mem _ hz)) with h1 | h1
      · rw [h1] at hz; exact absurd (hb1 x hz) (vlt_irr x)
      · exact h1
/-- Of a row that does not fall, made compact: rising, of the same members. -/
theorem compactV_ris (d : Array V) (hd : ∀ i j, i ≤ j → j < d.size → vo d[i]! d[j]! ≤ 0) : ∀ m, m ≤ d.size →
    risV (Lib.compactUpTo d m) ∧ (∀ x, x ∈ Lib.compactUpTo d m ↔ ∃ j, j < m ∧ d[j]! = x)
  | 0, _ => by simp [Lib.compactUpTo, risV]
  | m + 1, hm => by
    obtain ⟨h1, h2⟩ := compactV_ris d hd m (by omega)
    rw [Lib.compactUpTo_succ]
    cases hk : Lib.keeps d m with
    | true =>
      simp only [if_true]
      refine ⟨List.pairwise_append.2 ⟨h1, by simp, fun a ha b hb => ?_⟩, fun x => ?_⟩
      · rw [List.mem_singleton.1 hb]
        obtain ⟨j, hj, rfl⟩ := (h2 a).1 ha
        have hne : d[m]! ≠ d[m - 1]! := by
          have := of_decide_eq_true hk
          rcases this with h | h
          · omega
          · exact h
        have h3 := hd j (m - 1) (by omega) (by omega)
        have h4 := hd (m - 1) m (by omega) (by omega)
        have h5 : vlt d[m - 1]! d[m]! := by
          rcases vlt_tri d[m - 1]! d[m]! with h | h | h
          · exact h
          · exact absurd h.symm hne
          · have := (vo_pos d[m - 1]! d[m]!).2 h; omega
        rcases vlt_tri d[j]! d[m - 1]! with h | h | h
        · exact vlt_trans h h5
        · rw [h]; exact h5
        · have := (vo_pos d[j]! d[m - 1]!).2 h; omega
      · rw [List.mem_append, h2, List.mem_singleton]
        constructor
        · rintro (⟨j, hj, e⟩ | e)
          · exact ⟨j, by omega, e⟩
          · exact ⟨m, by omega, e.symm⟩
        · rintro ⟨j, hj, e⟩
          by_cases hjm : j = m
          · right; rw [← e, hjm]
          · left; exact ⟨j, by omega, e⟩
    | false =>
      rw [if_neg (by simp), List.append_nil]
      refine ⟨h1, fun x => ?_⟩
      have hk' : ¬ (m = 0 ∨ d[m]! ≠ d[m - 1]!) := of_decide_eq_false hk
      have hm0 : m ≠ 0 := fun h => hk' (Or.inl h)
      have he : d[m]! = d[m - 1]! := Classical.byContradiction fun h => hk' (Or.inr h)
      rw [h2]
      constructor
      · rintro ⟨j, hj, e⟩
        exact ⟨j, by omega, e⟩
      · rintro ⟨j, hj, e⟩
        by_cases hjm : j = m
        · exact ⟨m - 1, by omega, by rw [← he, ← hjm]; exact e⟩
        · exact ⟨j, by omega, e⟩
/-- What is put in its place. -/
theorem risV_put {out : List V} {x : V} {k : Nat} (hk : k ≤ out.length) (hr : risV out) (h1 : ∀ j (hj : j < out.length), k ≤ j → vlt x out[j]) (h0 : ∀ j (hj : j < out.length), j < k → vlt out[j] x) : risV (out.take k ++ x :: out.drop k) := by
  refine List.pairwise_append.2 ⟨List.Pairwise.sublist (List.take_sublist _ _) hr, List.pairwise_cons.2 ⟨fun y hy => ?_, List.Pairwise.sublist (List.drop_sublist _ _) hr⟩, fun a ha b hb => ?_⟩
  · obtain ⟨j, hj, e⟩ := List.mem_iff_getElem.1 hy
    rw [List.getElem_drop] at e
    rw [← e]
    exact h1 _ _ (by omega)
  · obtain ⟨i, hi, e⟩ := List.mem_iff_getElem.1 ha
    rw [List.getElem_take] at e
    have hi' : i < k := by rw [List.length_take] at hi; omega
    have hil : i < out.length := by omega
    rcases List.mem_cons.1 hb with rfl | hb
    · rw [← e]; exact h0 i hil hi'
    · obtain ⟨j, hj, e2⟩ := List.mem_iff_getElem.1 hb
      rw [List.getElem_drop] at e2
      rw [← e, ← e2]
      exact List.pairwise_iff_getElem.1 hr i (k + j) hil (by rw [List.length_drop] at hj; omega) (by omega)
theorem mem_putV {out : List V} {x : V} {k : Nat} (y : V) : y ∈ out.take k ++ x :: out.drop k ↔ y ∈ out ∨ y = x := by
  have h : y ∈ out ↔ y ∈ out.take k ∨ y ∈ out.drop k := by rw [← List.mem_append, List.take_append_drop]
  rw [List.mem_append, List.mem_cons, h]
  constructor
  · rintro (h | h | h)
    · exact Or.inl (Or.inl h)
    · exact Or.inr h
    · exact Or.inl (Or.inr h)
  · rintro ((h | h) | h)
    · exact Or.inl h
    · exact Or.inr (Or.inr h)
    · exact Or.inr (Or.inl h)
/-- The row while its end is moved up. -/
def shv (out : List V) (j : Nat) : List V := (out ++ [default]).take (j + 1) ++ out.drop j
theorem shv_len {out : List V} {j : Nat} (hj : j ≤ out.length) : (shv out j).length = out.length + 1 := by
  unfold shv; simp; omega
theorem shv_start (out : List V) : shv out out.length = out ++ [default] := by
  unfold shv; simp [List.take_of_length_le]
theorem shv_at {out : List V} {j : Nat} (hj : j < out.length) : (shv out (j + 1))[j]? = some out[j] := by
  unfold shv
  rw [List.getElem?_append_left (by simp; omega), List.getElem?_take_of_lt (by omega), List.getElem?_append_left hj]
  exact List.getElem?_eq_getElem hj
theorem shv_step {out : List V} {j : Nat} (hj : j < out.length) : (shv out (j + 1)).set (j + 1) out[j] = shv out j := by
  unfold shv
  rw [List.set_append_left _ _ (by simp; omega)]
  have e1 : ((out ++ [default]).take (j + 1 + 1)).set (j + 1) out[j] = (out ++ [default]).take (j + 1) ++ [out[j]] := by
    apply List.ext_getElem?
    intro i
    have hm : ((out ++ [default]).take (j + 1)).length = j + 1 := by simp; omega
    rw [List.getElem?_set, List.getElem?_append, hm]
    by_cases h1 : j + 1 = i
    · subst h1
      rw [if_pos rfl, if_pos (by simp; omega), if_neg (by omega)]
      simp
    · rw [if_neg h1]
      by_cases h2 : i < j + 1
      · rw [if_pos h2, List.getElem?_take_of_lt (by omega), List.getElem?_take_of_lt h2]
      · rw [if_neg h2, List.getElem?_eq_none (by simp; omega), List.getElem?_eq_none (by simp; omega)]
  rw [e1, List.append_assoc]
  congr 1
  rw [List.drop_eq_getElem_cons hj]
  rfl
theorem shv_end {out : List V} {k : Nat} (hk : k ≤ out.length) (x : V) : (shv out k).set k x = out.take k ++ x :: out.drop k := by
  unfold shv
  rw [List.set_append_left _ _ (by simp; omega)]
  have e1 : ((out ++ [default]).take (k + 1)).set k x = out.take k ++ [x] := by
    apply List.ext_getElem?
    intro i
    have hm : (out.take k).length = k := by simp; omega
    rw [List.getElem?_set, List.getElem?_append, hm]
    by_cases h1 : k = i
    · subst h1
      rw [if_pos rfl, if_pos (by simp; omega), if_neg (by omega)]
      simp
    · rw [if_neg h1]
      by_cases h2 : i < k
      · rw [if_pos h2, List.getElem?_take_of_lt (by omega), List.getElem?_take_of_lt h2, List.getElem?_append_left (by omega)]
      · rw [if_neg h2, List.getElem?_eq_none (by simp; omega), List.getElem?_eq_none (by simp; omega)]
  rw [e1, List.append_assoc]
  rfl
theorem takeV_next {l : List V} {n : Nat} (h : n < l.length) (y : V) : y ∈ l.take (n + 1) ↔ y ∈ l.take n ∨ y = l[n] := by
  rw [List.take_succ_eq_append_getElem h, List.mem_append, List.mem_singleton]
end Go.Proofs.YtgghcfmpfneehaaDoor
