/- How often a message is under way, plain. -/
import Derived.Test.YtbcgikkdhfbphaaWtp
namespace Go.Proofs.Ytbcgikkdhfbphaa
/-- Is it this text? -/
def one (x y : Pk) : Int := if x = y then 1 else 0
theorem one_self (x : Pk) : one x x = 1 := if_pos rfl
theorem one_ne {x y : Pk} (h : x ≠ y) : one x y = 0 := if_neg h
theorem one_in (x y : Pk) : 0 ≤ one x y ∧ one x y ≤ 1 := by unfold one; split <;> omega
/-- How often x is in L. -/
def cnt (x : Pk) : List Pk → Int
  | [] => 0
  | y :: L => one x y + cnt x L
theorem cnt_app (x : Pk) (L M : List Pk) : cnt x (L ++ M) = cnt x L + cnt x M := by
  induction L with
  | nil => simp [cnt]
  | cons y L ih => simp only [List.cons_append, cnt, ih]; omega
theorem cnt_snoc (x y : Pk) (L : List Pk) : cnt x (L ++ [y]) = cnt x L + one x y := by rw [cnt_app]; simp [cnt]
theorem cnt_in (x : Pk) (L : List Pk) : 0 ≤ cnt x L ∧ cnt x L ≤ L.length := by
  induction L with
  | nil => simp [cnt]
  | cons y L ih =>
    have := one_in x y
    simp only [cnt, List.length_cons]
    omega
theorem cnt_rem (x : Pk) (L : List Pk) (a b : Int) (i : Nat) (h : i < (qs L a b).length) : cnt x (rem L a b i) = cnt x L - one x (a, b, (qs L a b)[i]) := by
  obtain ⟨k, _, hk, e2, e3⟩ := fnd_some L a b i h
  have e : L = L.take k ++ (L[k] :: L.drop (k + 1)) := by rw [← List.drop_eq_getElem_cons hk, List.take_append_drop]
  have e4 : cnt x L = cnt x (L.take k) + (one x L[k] + cnt x (L.drop (k + 1))) := by
    conv => lhs; rw [e]
    rw [cnt_app]; rfl
  rw [e3, cnt_app, e4, e2]
  omega
theorem qs_mem (L : List Pk) (a b : Int) (i : Nat) (h : i < (qs L a b).length) : (a, b, (qs L a b)[i]) ∈ L := by
  obtain ⟨k, _, hk, e2, _⟩ := fnd_some L a b i h
  rw [← e2]
  exact List.getElem_mem hk
theorem rem_mem (L : List Pk) (a b : Int) (i : Nat) {x : Pk} (hx : x ∈ rem L a b i) : x ∈ L := by
  induction L generalizing i with
  | nil => simp [rem] at hx
  | cons p L ih =>
    by_cases h : p.1 = a ∧ p.2.1 = b
    · cases i with
      | zero => simp [rem, h] at hx; simp [hx]
      | succ i =>
        simp [rem, h] at hx
        rcases hx with rfl | hx
        · simp
        · simp [ih i hx]
    · simp [rem, h] at hx
      rcases hx with rfl | hx
      · simp
      · simp [ih i hx]
theorem cnt_qs (L : List Pk) (x : Pk) (a b : Int) : cnt x ((qs L a b).map fun t => (a, b, t)) = if x.1 = a ∧ x.2.1 = b then cnt x L else 0 := by
  induction L with
  | nil => simp [qs, cnt]
  | cons p L ih =>
    by_cases h : p.1 = a ∧ p.2.1 = b
    · have e : (a, b, p.2.2) = p := by obtain ⟨p1, p2, p3⟩ := p; obtain ⟨rfl, rfl⟩ := h; rfl
      simp only [qs, h, and_self, if_true, List.map_cons, cnt, ih, e]
      by_cases hx : x.1 = a ∧ x.2.1 = b
      · simp [hx]
      · have : one x p = 0 := one_ne (fun e => hx (by rw [e]; exact h))
        simp [hx, this]
    · simp only [qs, h, if_false, ih, cnt]
      by_cases hx : x.1 = a ∧ x.2.1 = b
      · have : one x p = 0 := one_ne (fun e => h (by rw [← e]; exact hx))
        simp [hx, this]
      · simp [hx]
theorem cnt_wpk (L : List Pk) (x : Pk) (ks : List (Int × Int)) (hn : ks.Nodup) : cnt x (wpk L ks) = if (x.1, x.2.1) ∈ ks then cnt x L else 0 := by
  induction ks with
  | nil => simp [wpk, cnt]
  | cons y ks ih =>
    obtain ⟨hy, hn⟩ := List.nodup_cons.1 hn
    rw [show y :: ks = [y] ++ ks from rfl, wpk_app, cnt_app, wpk_one, cnt_qs, ih hn]
    by_cases hx : x.1 = y.1 ∧ x.2.1 = y.2
    · have e : (x.1, x.2.1) = y := Prod.ext hx.1 hx.2
      rw [if_pos hx, if_neg (by rw [e]; exact hy), if_pos (by rw [e]; simp)]
      omega
    · have e : (x.1, x.2.1) ≠ y := fun e => hx (by rw [← e]; exact ⟨rfl, rfl⟩)
      rw [if_neg hx]
      by_cases h : (x.1, x.2.1) ∈ ks
      · rw [if_pos h, if_pos (by simp [h])]; omega
      · rw [if_neg h, if_neg (by simp [h, e])]; omega
theorem lt2_nodup {ks : List (Int × Int)} (h : ks.Pairwise lt2) : ks.Nodup := pw_im (fun {a b} h e => by subst e; rcases h with h | ⟨_, h⟩ <;> omega) h
theorem cnt_no (x : Pk) (L : List Pk) (h : x ∉ L) : cnt x L = 0 := by
  induction L with
  | nil => rfl
  | cons y L ih =>
    simp only [List.mem_cons, not_or] at h
    simp only [cnt, one_ne h.1, ih h.2]
    omega
/-- All messages are all messages. -/
theorem cnt_wt {N : Nat} {L : List Pk} (hL : ∀ p ∈ L, (1 ≤ p.1 ∧ p.1 ≤ N) ∧ (1 ≤ p.2.1 ∧ p.2.1 ≤ N)) (x : Pk) : cnt x (wt N L) = cnt x L := by
  unfold wt
  rw [cnt_wpk L x _ (lt2_nodup (allp_ris N))]
  by_cases h : x ∈ L
  · rw [if_pos ((allp_mem N _).2 (hL x h))]
  · rw [cnt_no x L h]; split <;> rfl
theorem wpk_mem {L : List Pk} {ks : List (Int × Int)} {x : Pk} (h : x ∈ wpk L ks) : x ∈ L := by
  unfold wpk at h
  obtain ⟨y, _, hy⟩ := List.mem_flatMap.1 h
  obtain ⟨t, ht, rfl⟩ := List.mem_map.1 hy
  obtain ⟨i, hi, rfl⟩ := List.mem_iff_getElem.1 ht
  exact qs_mem L y.1 y.2 i hi
theorem wt_mem {N : Nat} {L : List Pk} {x : Pk} (h : x ∈ wt N L) : x ∈ L := wpk_mem h
theorem wpk_short (L : List Pk) (ks : List (Int × Int)) (hn : ks.Nodup) : (wpk L ks).length ≤ L.length := by
  have key : ∀ (L : List Pk), (wpk L ks).length ≤ L.length := by
    intro L
    induction L with
    | nil =>
      have : wpk [] ks = [] := by
        apply List.eq_nil_iff_forall_not_mem.2
        intro x hx
        have := wpk_mem hx
        simp at this
      simp [this]
    | cons p L ih =>
      have hle : ∀ ks : List (Int × Int), ks.Nodup → (wpk (p :: L) ks).length ≤ (wpk L ks).length + (if (p.1, p.2.1) ∈ ks then 1 else 0) := by
        intro ks
        induction ks with
        | nil => intro _; simp [wpk]
        | cons y ks ih2 =>
          intro hn
          obtain ⟨hy, hn⟩ := List.nodup_cons.1 hn
          have := ih2 hn
          rw [show y :: ks = [y] ++ ks from rfl, wpk_app, wpk_app, List.length_append, List.length_append, wpk_one, wpk_one, List.length_map, List.length_map]
          by_cases e : (p.1, p.2.1) = y
          · have h1 : p.1 = y.1 ∧ p.2.1 = y.2 := by rw [← e]; exact ⟨rfl, rfl⟩
            rw [if_neg (by rw [e]; exact hy)] at this
            rw [if_pos (by rw [e]; simp)]
            simp only [qs, h1, and_self, if_true, List.length_cons]
            omega
          · have h1 : ¬ (p.1 = y.1 ∧ p.2.1 = y.2) := fun h => e (Prod.ext h.1 h.2)
            simp only [qs, h1, if_false]
            by_cases hm : (p.1, p.2.1) ∈ ks
            · rw [if_pos hm] at this; rw [if_pos (by simp [hm])]; omega
            · rw [if_neg hm] at this; rw [if_neg (by simp [hm, e])]; omega
      have := hle ks hn
      simp only [List.length_cons]
      split at this <;> omega
  exact key L
theorem wt_short (N : Nat) (L : List Pk) : (wt N L).length ≤ L.length := wpk_short L _ (lt2_nodup (allp_ris N))
end Go.Proofs.Ytbcgikkdhfbphaa
