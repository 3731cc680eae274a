/- Cells, plain: their order; what is put in its place; the first at or behind a bound. -/
import Derived.Lib.Bytealg
import Derived.Sort.Walk0
namespace Go.Proofs.Ytkpallbnmckbaaa
/-- A cell: its key, its time, whether it is gone, its value. -/
abbrev C := ByteArray × Int × Bool × ByteArray
abbrev C.k (c : C) : ByteArray := c.1
abbrev C.t (c : C) : Int := c.2.1
abbrev C.d (c : C) : Bool := c.2.2.1
abbrev C.v (c : C) : ByteArray := c.2.2.2
def cmpI (a b : Int) : Int := if a < b then -1 else if b < a then 1 else 0
theorem cmpI_self (a : Int) : cmpI a a = 0 := by unfold cmpI; simp
theorem cmpI_eq (a b : Int) : cmpI a b = 0 ↔ a = b := by
  unfold cmpI
  by_cases h : a < b
  · simp [h]; omega
  · by_cases h2 : b < a
    · simp [h, h2]; omega
    · simp [h, h2]; omega
theorem less_cons (a b : UInt8) (x y : List UInt8) : Op.bytesLess (a :: x) (b :: y) = (decide (a < b) || (a == b && Op.bytesLess x y)) := rfl
theorem less_lt {a b : UInt8} (x y : List UInt8) (h : a < b) : Op.bytesLess (a :: x) (b :: y) = true := by rw [less_cons]; simp [h]
theorem less_gt {a b : UInt8} (x y : List UInt8) (h : b < a) : Op.bytesLess (a :: x) (b :: y) = false := by
  rw [less_cons]
  have h1 : ¬ a < b := by rw [UInt8.lt_iff_toNat_lt] at h ⊢; omega
  have h2 : a ≠ b := by intro e; rw [e, UInt8.lt_iff_toNat_lt] at h; omega
  simp [h1, h2]
theorem less_same (a : UInt8) (x y : List UInt8) : Op.bytesLess (a :: x) (a :: y) = Op.bytesLess x y := by
  rw [less_cons]
  have h1 : ¬ a < a := by rw [UInt8.lt_iff_toNat_lt]; omega
  simp [h1]
theorem byte_tri (a b : UInt8) : a < b ∨ a = b ∨ b < a := by
  simp only [UInt8.lt_iff_toNat_lt, ← UInt8.toNat_inj]; omega
theorem cmpB_self (l : List UInt8) : Lib.compareBytes l l = 0 := by
  induction l with
  | nil => rfl
  | cons c l ih => simp [Lib.compareBytes, ih]
theorem cmpB_lt (a b : List UInt8) : decide (Lib.compareBytes a b < 0) = Op.bytesLess a b := by
  induction a generalizing b with
  | nil => cases b <;> simp [Lib.compareBytes, Op.bytesLess]
  | cons x a ih =>
    cases b with
    | nil => simp [Lib.compareBytes, Op.bytesLess]
    | cons y b =>
      rcases byte_tri x y with h | h | h
      · simp [Lib.compareBytes, h, less_lt a b h]
      · subst h
        rw [less_same]
        simp [Lib.compareBytes, ih]
      · have h' : ¬ x < y := fun hh => by have := UInt8.lt_iff_toNat_lt.1 hh; have := UInt8.lt_iff_toNat_lt.1 h; omega
        simp [Lib.compareBytes, h, h', less_gt a b h]
theorem cmpB_eq (a b : List UInt8) : Lib.compareBytes a b = 0 ↔ a = b := by
  induction a generalizing b with
  | nil => cases b <;> simp [Lib.compareBytes]
  | cons x a ih =>
    cases b with
    | nil => simp [Lib.compareBytes]
    | cons y b =>
      rcases byte_tri x y with h | h | h
      · have : x ≠ y := fun e => by subst e; have := UInt8.lt_iff_toNat_lt.1 h; omega
        simp [Lib.compareBytes, h, this]
      · subst h; simp [Lib.compareBytes, ih]
      · have h' : ¬ x < y := fun hh => by have := UInt8.lt_iff_toNat_lt.1 hh; have := UInt8.lt_iff_toNat_lt.1 h; omega
        have : x ≠ y := fun e => by subst e; have := UInt8.lt_iff_toNat_lt.1 h; omega
        simp [Lib.compareBytes, h, h', this]
theorem cmpB_one (a b : List UInt8) : Lib.compareBytes a b = -1 ∨ Lib.compareBytes a b = 0 ∨ Lib.compareBytes a b = 1 := by
  induction a generalizing b with
  | nil => cases b <;> simp [Lib.compareBytes]
  | cons x a ih =>
    cases b with
    | nil => simp [Lib.compareBytes]
    | cons y b =>
      unfold Lib.compareBytes
      split
      · simp
      · split
        · simp
        · exact ih b
theorem cmpI_one (a b : Int) : cmpI a b = -1 ∨ cmpI a b = 0 ∨ cmpI a b = 1 := by
  unfold cmpI
  split
  · simp
  · split <;> simp
/-- A comparison that is an order. -/
structure Cm {α : Type} (c : α → α → Int) : Prop where
  anti : ∀ x y, c x y < 0 ↔ 0 < c y x
  tr : ∀ x y z, c x y ≤ 0 → c y z ≤ 0 → c x z ≤ 0
theorem Cm.zero {α : Type} {c : α → α → Int} (h : Cm c) {x y : α} (e : c x y = 0) : c y x = 0 := by
  have h1 := h.anti x y
  have h2 := h.anti y x
  omega
theorem Cm.lex {α : Type} {c d : α → α → Int} (hc : Cm c) (hd : Cm d) : Cm (fun x y => if c x y = 0 then d x y else c x y) := by
  refine ⟨fun x y => ?_, fun x y z h1 h2 => ?_⟩
  · show (if c x y = 0 then d x y else c x y) < 0 ↔ 0 < (if c y x = 0 then d y x else c y x)
    have h1 := hc.anti x y
    have h2 := hc.anti y x
    have h3 := hd.anti x y
    by_cases e : c x y = 0
    · have e2 := hc.zero e
      simp only [e, e2, if_pos]; exact h3
    · have e2 : ¬ c y x = 0 := fun e2 => e (hc.zero e2)
      simp only [e, e2, if_false]; exact h1
  · have a1 : c x y ≤ 0 := by
      by_cases e : c x y = 0
      · omega
      · simp only [e, if_false] at h1; exact h1
    have a2 : c y z ≤ 0 := by
      by_cases e : c y z = 0
      · omega
      · simp only [e, if_false] at h2; exact h2
    have a3 := hc.tr x y z a1 a2
    by_cases e : c x z = 0
    · have e' := hc.zero e
      have b1 : c y x ≤ 0 := hc.tr y z x a2 (by omega)
      have b2 : c z y ≤ 0 := hc.tr z x y (by omega) a1
      have c1 : c x y = 0 := by have := hc.anti x y; omega
      have c2 : c y z = 0 := by have := hc.anti y z; omega
      simp only [c1, if_true] at h1
      simp only [c2, if_true] at h2
      simp only [e, if_true]
      exact hd.tr x y z h1 h2
    · simp only [e, if_false]; exact a3
theorem Cm.down {α : Type} (f : α → Int) : Cm (fun x y => cmpI (f y) (f x)) := by
  refine ⟨fun x y => ?_, fun x y z h1 h2 => ?_⟩
  · unfold cmpI
    repeat' split
    all_goals omega
  · unfold cmpI at *
    repeat' split
    all_goals (first | omega | (repeat' (split at h1)) <;> (repeat' (split at h2)) <;> omega)
theorem cmpB_lt' (a b : List UInt8) : Lib.compareBytes a b < 0 ↔ a < b := by
  have h := cmpB_lt a b
  rw [bytesLess_eq] at h
  by_cases e : a < b
  · simp only [e, decide_true, iff_true] at *; simpa using h
  · simp only [e, decide_false, iff_false] at *; simpa using h
theorem cmpB_gt (a b : List UInt8) : 0 < Lib.compareBytes a b ↔ b < a := by
  have h1 := cmpB_lt' a b
  have h2 := cmpB_eq a b
  constructor
  · intro h
    rcases List.le_iff_lt_or_eq.1 (List.not_lt.1 (show ¬ a < b from fun hh => by have := h1.2 hh; omega)) with hh | hh
    · exact hh
    · have := h2.2 hh.symm; omega
  · intro h
    have n1 : ¬ Lib.compareBytes a b < 0 := fun hh => List.lt_irrefl a (List.lt_trans (h1.1 hh) h)
    have n2 : ¬ Lib.compareBytes a b = 0 := fun hh => by have := h2.1 hh; subst this; exact List.lt_irrefl a h
    omega
theorem Cm.bytes {α : Type} (f : α → List UInt8) : Cm (fun x y => Lib.compareBytes (f x) (f y)) := by
  refine ⟨fun x y => by rw [cmpB_lt', cmpB_gt], fun x y z h1 h2 => ?_⟩
  · have a1 : ¬ f y < f x := fun h => by have := (cmpB_gt (f x) (f y)).2 h; omega
    have a2 : ¬ f z < f y := fun h => by have := (cmpB_gt (f y) (f z)).2 h; omega
    have a3 : ¬ f z < f x := List.not_lt.2 (List.le_trans (List.not_lt.1 a1) (List.not_lt.1 a2))
    have a4 : ¬ 0 < Lib.compareBytes (f x) (f z) := fun h => a3 ((cmpB_gt (f x) (f z)).1 h)
    omega
/-- How one cell stands to another: by key, then the greater time first. -/
def cmpC (a b : C) : Int := if Lib.compareBytes a.k.data.toList b.k.data.toList = 0 then cmpI b.t a.t else Lib.compareBytes a.k.data.toList b.k.data.toList
theorem cmpC_cm : Cm cmpC := Cm.lex (Cm.bytes (fun x : C => x.k.data.toList)) (Cm.down (fun x : C => x.t))
theorem cmpC_one (a b : C) : cmpC a b = -1 ∨ cmpC a b = 0 ∨ cmpC a b = 1 := by
  unfold cmpC
  split
  · exact cmpI_one _ _
  · exact cmpB_one _ _
theorem cmpC_anti (a b : C) : cmpC a b = - cmpC b a := by
  have h1 := cmpC_one a b
  have h2 := cmpC_one b a
  have h3 := cmpC_cm.anti a b
  have h4 := cmpC_cm.anti b a
  omega
theorem key_ext {a b : ByteArray} (h : a.data.toList = b.data.toList) : a = b := ByteArray.ext (Array.toList_inj.1 h)
theorem cmpC_zero (a b : C) : cmpC a b = 0 ↔ a.k = b.k ∧ a.t = b.t := by
  unfold cmpC
  split
  · rename_i h
    rw [cmpI_eq]
    have := (cmpB_eq _ _).1 h
    exact ⟨fun e => ⟨key_ext this, e.symm⟩, fun e => e.2.symm⟩
  · rename_i h
    exact ⟨fun e => absurd e h, fun e => absurd ((cmpB_eq _ _).2 (by rw [e.1])) h⟩
theorem cmpC_self (a : C) : cmpC a a = 0 := (cmpC_zero a a).2 ⟨rfl, rfl⟩
theorem lt_le {a b c : C} (h1 : cmpC a b < 0) (h2 : cmpC b c ≤ 0) : cmpC a c < 0 := by
  have h3 := cmpC_cm.tr a b c (by omega) h2
  by_cases e : cmpC a c = 0
  · have e' : cmpC c a = 0 := cmpC_cm.zero e
    have h4 := cmpC_cm.tr b c a h2 (by omega)
    have := (cmpC_cm.anti a b).1 h1
    omega
  · omega
theorem le_lt {a b c : C} (h1 : cmpC a b ≤ 0) (h2 : cmpC b c < 0) : cmpC a c < 0 := by
  have h3 := cmpC_cm.tr a b c h1 (by omega)
  by_cases e : cmpC a c = 0
  · have e' : cmpC c a = 0 := cmpC_cm.zero e
    have h4 := cmpC_cm.tr c a b (by omega) h1
    have := (cmpC_cm.anti b c).1 h2
    omega
  · omega
/-- In order. -/
def Srt (l : List C) : Prop := l.Pairwise (fun a b => cmpC a b < 0)
theorem Srt.nil : Srt [] := List.Pairwise.nil
theorem Srt.parts {a : List C} {x : C} {b : List C} (h : Srt (a ++ x :: b)) : Srt a ∧ Srt b ∧ (∀ y ∈ a, cmpC y x < 0) ∧ (∀ y ∈ b, cmpC x y < 0) := by
  unfold Srt at *
  rw [List.pairwise_append] at h
  obtain ⟨h1, h2, h3⟩ := h
  rw [List.pairwise_cons] at h2
  exact ⟨h1, h2.2, fun y hy => h3 y hy x (by simp), h2.1⟩
/-- A cell is put in its place. -/
def ins (c : C) : List C → List C
  | [] => [c]
  | x :: r => if cmpC x c < 0 then x :: ins c r else if cmpC x c = 0 then c :: r else c :: x :: r
theorem ins_lt {c x : C} {r : List C} (h : cmpC x c < 0) : ins c (x :: r) = x :: ins c r := by simp [ins, h]
theorem ins_app {c : C} {a : List C} (h : ∀ y ∈ a, cmpC y c < 0) (b : List C) : ins c (a ++ b) = a ++ ins c b := by
  induction a with
  | nil => rfl
  | cons y a ih => rw [List.cons_append, ins_lt (h y (by simp)), ih (fun z hz => h z (by simp [hz]))]; rfl
theorem ins_left {c x : C} {a b : List C} (h : cmpC c x < 0) : ins c (a ++ x :: b) = ins c a ++ x :: b := by
  have hx := (cmpC_cm.anti c x).1 h
  induction a with
  | nil =>
    show ins c (x :: b) = [c] ++ x :: b
    simp [ins, show ¬ cmpC x c < 0 by omega, show ¬ cmpC x c = 0 by omega]
  | cons y a ih =>
    rw [List.cons_append]
    unfold ins
    split
    · rw [ih]; rfl
    · split <;> rfl
theorem ins_right {c x : C} {a b : List C} (hs : Srt (a ++ x :: b)) (h : cmpC x c < 0) : ins c (a ++ x :: b) = a ++ x :: ins c b := by
  obtain ⟨_, _, h3, _⟩ := hs.parts
  rw [ins_app (fun y hy => lt_le (h3 y hy) (by omega)), ins_lt h]
theorem ins_same {c x : C} {a b : List C} (hs : Srt (a ++ x :: b)) (h : cmpC x c = 0) : ins c (a ++ x :: b) = a ++ c :: b := by
  obtain ⟨_, _, h3, _⟩ := hs.parts
  rw [ins_app (fun y hy => lt_le (h3 y hy) (by omega))]
  simp [ins, h]
theorem ins_mem {c y : C} {l : List C} (h : y ∈ ins c l) : y = c ∨ y ∈ l := by
  induction l with
  | nil => simp [ins] at h; exact Or.inl h
  | cons x r ih =>
    unfold ins at h
    split at h
    · rcases List.mem_cons.1 h with h | h
      · exact Or.inr (by simp [h])
      · exact (ih h).elim Or.inl (fun h => Or.inr (by simp [h]))
    · split at h
      · rcases List.mem_cons.1 h with h | h
        · exact Or.inl h
        · exact Or.inr (by simp [h])
      · rcases List.mem_cons.1 h with h | h
        · exact Or.inl h
        · exact Or.inr h
theorem Srt.ins {l : List C} (h : Srt l) (c : C) : Srt (ins c l) := by
  induction l with
  | nil => simp [Srt, Ytkpallbnmckbaaa.ins]
  | cons x r ih =>
    have h' := List.pairwise_cons.1 h
    unfold Ytkpallbnmckbaaa.ins
    split
    · rename_i hc
      refine List.pairwise_cons.2 ⟨fun y hy => ?_, ih h'.2⟩
      rcases ins_mem hy with rfl | hy
      · exact hc
      · exact h'.1 y hy
    · split
      · rename_i _ hc
        exact List.pairwise_cons.2 ⟨fun y hy => le_lt (by have := cmpC_cm.zero hc; omega) (h'.1 y hy), h'.2⟩
      · rename_i h1 h2
        have hc : cmpC c x < 0 := (cmpC_cm.anti c x).2 (by omega)
        refine List.pairwise_cons.2 ⟨fun y hy => ?_, h⟩
        rcases List.mem_cons.1 hy with rfl | hy
        · exact hc
        · exact lt_le hc (by have := h'.1 y hy; omega)
theorem ins_len (c : C) (l : List C) : (ins c l).length ≤ l.length + 1 := by
  induction l with
  | nil => simp [ins]
  | cons x r ih =>
    unfold ins
    split
    · simp; omega
    · split <;> simp
/-- The first at or behind a bound. -/
def fst (b : C) : List C → Option C
  | [] => none
  | x :: r => if cmpC x b < 0 then fst b r else some x
theorem fst_app {b : C} {l : List C} (h : ∀ y ∈ l, cmpC y b < 0) (r : List C) : fst b (l ++ r) = fst b r := by
  induction l with
  | nil => rfl
  | cons y l ih =>
    rw [List.cons_append]
    have := h y (by simp)
    show (if cmpC y b < 0 then fst b (l ++ r) else some y) = _
    rw [if_pos this, ih (fun z hz => h z (by simp [hz]))]
theorem fst_or (b : C) (l : List C) (x : C) (r : List C) (h : ¬ cmpC x b < 0) : fst b (l ++ x :: r) = (fst b l).or (some x) := by
  induction l with
  | nil => simp [fst, h]
  | cons y l ih =>
    rw [List.cons_append]
    unfold fst
    split
    · exact ih
    · rfl
end Go.Proofs.Ytkpallbnmckbaaa
