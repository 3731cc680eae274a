/- Lines of writes, plain: a line is cut apart in one way, and there is one write for it. -/
import Derived.Test.YtgghcfmpfneehaaGreatDoorSplA
import Derived.Test.YtgghcfmpfneehaaGreatDoorTriF
import Derived.Test.YtgghcfmpfneehaaGreatDoorValV
namespace Go.Proofs.YtgghcfmpfneehaaGreatDoor
open Go.RowKit
theorem ib_at (a r : List UInt8) (h : ∀ c ∈ a, c ≠ 32) : Lib.indexByte (a ++ 32 :: r) 32 = (a.length : Int) := by
  induction a with
  | nil => simp [Lib.indexByte]
  | cons c a ih =>
    have hc : c ≠ 32 := h c (by simp)
    have := ih (fun x hx => h x (by simp [hx]))
    simp only [List.cons_append, Lib.indexByte, this]
    rw [if_neg (by simpa using hc), if_neg (by simp)]
    simp
theorem ib_split (l : List UInt8) (m : Nat) (h : Lib.indexByte l 32 = (m : Int)) : l = l.take m ++ 32 :: l.drop (m + 1) ∧ ∀ c ∈ l.take m, c ≠ 32 := by
  induction l generalizing m with
  | nil => simp [Lib.indexByte] at h
  | cons c l ih =>
    simp only [Lib.indexByte] at h
    by_cases hc : (c == 32) = true
    · rw [if_pos hc] at h
      obtain rfl : m = 0 := by omega
      have : c = 32 := by simpa using hc
      subst this
      simp
    · rw [if_neg hc] at h
      by_cases h1 : (Lib.indexByte l 32 == -1) = true
      · rw [if_pos h1] at h; omega
      · rw [if_neg h1] at h
        have hg := Lib.indexByte_ge l 32
        have hne : Lib.indexByte l 32 ≠ -1 := by simpa using h1
        obtain ⟨q, rfl⟩ : ∃ q, m = q + 1 := ⟨m - 1, by omega⟩
        obtain ⟨e1, e2⟩ := ih q (by omega)
        refine ⟨?_, ?_⟩
        · rw [List.take_succ_cons, List.drop_succ_cons, List.cons_append, ← e1]
        · intro x hx
          rw [List.take_succ_cons, List.mem_cons] at hx
          rcases hx with rfl | hx
          · simpa using hc
          · exact e2 x hx
theorem spl_at (k : Nat) (a r : List UInt8) (h : ∀ c ∈ a, c ≠ 32) : spl (k + 1) (a ++ 32 :: r) = a :: spl k r := by
  rw [spl_some (ib_at a r h)]
  congr 1
  · simp
  · congr 1
    rw [show a ++ 32 :: r = (a ++ [32]) ++ r by simp, List.drop_append_of_le_length (by simp)]
    simp
theorem spl_two {k : Nat} {l x : List UInt8} {y : List (List UInt8)} (h : spl (k + 1) l = x :: y) (hy : y ≠ []) : ∃ r, l = x ++ 32 :: r ∧ y = spl k r := by
  by_cases hn : Lib.indexByte l 32 < 0
  · rw [spl_none hn] at h; injection h with _ h; exact absurd h.symm hy
  · obtain ⟨m, hm⟩ : ∃ m : Nat, Lib.indexByte l 32 = (m : Int) := ⟨(Lib.indexByte l 32).toNat, by omega⟩
    rw [spl_some hm] at h
    injection h with h1 h2
    refine ⟨l.drop (m + 1), ?_, h2.symm⟩
    rw [← h1]; exact (ib_split l m hm).1
theorem spl_four {l a b c d : List UInt8} (h : spl 3 l = [a, b, c, d]) : l = a ++ 32 :: (b ++ 32 :: (c ++ 32 :: d)) := by
  obtain ⟨r, rfl, h1⟩ := spl_two h (by simp)
  obtain ⟨r2, rfl, h2⟩ := spl_two h1.symm (by simp)
  obtain ⟨r3, rfl, h3⟩ := spl_two h2.symm (by simp)
  have : r3 = d := by simpa [spl] using h3.symm
  rw [this]
theorem spl_len (k : Nat) (l : List UInt8) : (spl k l).length ≤ k + 1 := by
  induction k generalizing l with
  | zero => simp [spl]
  | succ k ih =>
    rw [spl]
    split
    · simp
    · have := ih (l.drop ((Lib.indexByte l 32).toNat + 1)); simp only [List.length_cons]; omega
theorem hx_ne {u : Nat} : ∀ c ∈ (48 :: 120 :: hexL u : List UInt8), c ≠ 32 := by
  intro c hc e
  subst e
  rw [List.mem_cons, List.mem_cons] at hc
  rcases hc with h | h | h
  · exact absurd h (by decide)
  · exact absurd h (by decide)
  · have := hexL_hx u 32 h
    unfold isHx at this
    simp at this
theorem nm_ne {p : List UInt8} (h : isName p = true) : ∀ c ∈ p, c ≠ 32 := by
  intro c hc e
  subst e
  simp only [isName, Bool.and_eq_true, List.all_eq_true] at h
  have := h.2.2 32 hc
  exact absurd this (by decide)
theorem sgn_ne (d : Bool) : ∀ c ∈ [sgn d], c ≠ 32 := by cases d <;> decide
theorem wtx_form (d : Bool) (u : Nat) (p : ByteArray) (k : Int) (b : Bool) (n : Int) (s : ByteArray) (v : Int) : wtx d (u : Int) p k b n s v = [sgn d] ++ 32 :: ((48 :: 120 :: hexL u) ++ 32 :: (p.data.toList ++ 32 :: ltr k b n s v)) := by
  simp [wtx]
theorem spl_wtx (d : Bool) (u : Nat) (p : ByteArray) (k : Int) (b : Bool) (n : Int) (s : ByteArray) (v : Int) (hp : isName p.data.toList = true) : spl 3 (wtx d (u : Int) p k b n s v) = [[sgn d], 48 :: 120 :: hexL u, p.data.toList, ltr k b n s v] := by
  rw [wtx_form, spl_at 2 _ _ (sgn_ne d), spl_at 1 _ _ hx_ne, spl_at 0 _ _ (nm_ne hp)]
  rfl
theorem wtx_len (d : Bool) (u : Nat) (p : ByteArray) (k : Int) (b : Bool) (n : Int) (s : ByteArray) (v : Int) : 3 ≤ (wtx d (u : Int) p k b n s v).length := by
  rw [wtx_form]; simp
theorem sgn_inj {d d' : Bool} (h : sgn d = sgn d') : d = d' := by cases d <;> cases d' <;> first | rfl | (exact absurd h (by decide))
/-- There is no write whose line this is. -/
def noW (l : List UInt8) : Prop := ∀ d' (u' : Nat) p' k' b' n' s' v', eT (u' : Int) p' k' b' n' s' v' = 0 → u' < 18446744073709551616 → inR n' v' → wtx d' (u' : Int) p' k' b' n' s' v' ≠ l
/-- The one write whose line this is, or there is none. -/
def okW (l : List UInt8) (d : Bool) (u : Nat) (p : ByteArray) (k : Int) (b : Bool) (n : Int) (s : ByteArray) (v e : Int) : Prop :=
  (e = 0 ∧ eT (u : Int) p k b n s v = 0 ∧ u < 18446744073709551616 ∧ inR n v ∧ wtx d (u : Int) p k b n s v = l ∧ ∀ d' (u' : Nat) p' k' b' n' s' v', eT (u' : Int) p' k' b' n' s' v' = 0 → u' < 18446744073709551616 → inR n' v' → wtx d' (u' : Int) p' k' b' n' s' v' = l → d = d' ∧ u = u' ∧ p = p' ∧ k = k' ∧ b = b' ∧ n = n' ∧ s = s' ∧ v = v') ∨
  (e = 41 ∧ d = false ∧ u = 0 ∧ p = ⟨#[]⟩ ∧ k = 0 ∧ b = false ∧ n = 0 ∧ s = ⟨#[]⟩ ∧ v = 0 ∧ noW l)
theorem line_parts {l : List UInt8} {d' : Bool} {u' : Nat} {p' : ByteArray} {k' : Int} {b' : Bool} {n' : Int} {s' : ByteArray} {v' : Int} (h : eT (u' : Int) p' k' b' n' s' v' = 0) (e : wtx d' (u' : Int) p' k' b' n' s' v' = l) :
    min 3 l.length = 3 ∧ spl 3 l = [[sgn d'], 48 :: 120 :: hexL u', p'.data.toList, ltr k' b' n' s' v'] := by
  subst e
  exact ⟨by have := wtx_len d' u' p' k' b' n' s' v'; omega, spl_wtx d' u' p' k' b' n' s' v' (eT_zero h).2.1⟩
theorem ok_none (l : List UInt8) (h : noW l) : okW l false 0 ⟨#[]⟩ 0 false 0 ⟨#[]⟩ 0 41 := Or.inr ⟨rfl, rfl, rfl, rfl, rfl, rfl, rfl, rfl, rfl, h⟩
theorem no_short {l : List UInt8} (h : (spl (min 3 l.length) l).length < 4) : noW l := by
  intro d' u' p' k' b' n' s' v' h1 _ _ e
  obtain ⟨e1, e2⟩ := line_parts h1 e
  rw [e1, e2] at h
  simp at h
theorem min_of {l : List UInt8} {L : List (List UInt8)} (h : spl (min 3 l.length) l = L) (h4 : L.length = 4) : spl 3 l = L := by
  have := spl_len (min 3 l.length) l
  rw [h, h4] at this
  rw [← h]; congr 1; omega
theorem no_sign {l w0 w1 w2 w3 : List UInt8} (hs : spl 3 l = [w0, w1, w2, w3]) (h1 : w0 ≠ [43]) (h2 : w0 ≠ [45]) : noW l := by
  intro d' u' p' k' b' n' s' v' h _ _ e
  obtain ⟨_, e2⟩ := line_parts h e
  rw [hs] at e2
  injection e2 with e3 _
  cases d'
  · exact h1 e3
  · exact h2 e3
theorem uid_of {w1 : List UInt8} {k : Int} {b : Bool} {n : Int} {s : ByteArray} {u : Int} (h : mayV k b n s u) (hu : 0 < u) (e : ltr k b n s u = w1) : 48 :: 120 :: hexL u.toNat = w1 := by
  rcases h with ⟨_, _, _, rfl⟩ | ⟨_, _, _, rfl⟩ | ⟨_, _, _, rfl, _⟩ | ⟨rfl, rfl, rfl, rfl, _⟩
  · omega
  · omega
  · omega
  · exact e
theorem ok_yes {l w0 w1 w2 w3 : List UInt8} (hs : spl 3 l = [w0, w1, w2, w3]) {d : Bool} (hd : w0 = [sgn d]) {ku : Int} {bu : Bool} {nu : Int} {su : ByteArray} {u : Nat} (t1 : okT w1 ku bu nu su (u : Int) 0) {p : ByteArray} (hp : p.data.toList = w2) {k : Int} {b : Bool} {n : Int} {s : ByteArray} {v : Int} (t3 : okT w3 k b n s v 0) (hE : eT (u : Int) p k b n s v = 0) :
    okW l d u p k b n s v 0 := by
  rcases t1 with ⟨_, m1, r1, l1, _⟩ | ⟨h, _⟩
  · rcases t3 with ⟨_, m3, r3, l3, q3⟩ | ⟨h, _⟩
    · refine Or.inl ⟨rfl, hE, by have := r1.2.2.2; omega, r3, ?_, ?_⟩
      · rw [wtx_form, spl_four hs, hd, hp, l3, ← uid_of m1 (eT_zero hE).1 l1]
        rfl
      · intro d' u' p' k' b' n' s' v' h _ r e
        obtain ⟨_, e2⟩ := line_parts h e
        rw [hs] at e2
        simp only [List.cons.injEq, and_true] at e2
        obtain ⟨e3, e4, e5, e6⟩ := e2
        rw [hd] at e3
        injection e3 with e3 _
        rw [← uid_of m1 (eT_zero hE).1 l1] at e4
        injection e4 with _ e4
        injection e4 with _ e4
        have hu : u = u' := by rw [← hexV_hexL u, ← hexV_hexL u', ← e4]; rfl
        obtain ⟨a1, a2, a3, a4, a5⟩ := q3 k' b' n' s' v' (eT_zero h).2.2 r e6.symm
        exact ⟨sgn_inj e3, hu, ba_ext (by rw [hp, e5]), a1, a2, a3, a4, a5⟩
    · exact absurd h (by decide)
  · exact absurd h (by decide)
theorem ok_no {l w0 w1 w2 w3 : List UInt8} (hs : spl 3 l = [w0, w1, w2, w3]) {ku : Int} {bu : Bool} {nu : Int} {su : ByteArray} {u : Nat} {eu : Int} (t1 : okT w1 ku bu nu su (u : Int) eu) {p : ByteArray} (hp : p.data.toList = w2) {k : Int} {b : Bool} {n : Int} {s : ByteArray} {v ev : Int} (t3 : okT w3 k b n s v ev) (hE : fstE [eu, ev, eT (u : Int) p k b n s v] ≠ 0) : noW l := by
  intro d' u' p' k' b' n' s' v' h hu' r e
  obtain ⟨_, e2⟩ := line_parts h e
  rw [hs] at e2
  simp only [List.cons.injEq, and_true] at e2
  obtain ⟨e3, e4, e5, e6⟩ := e2
  apply hE
  have hu0 := (eT_zero h).1
  rcases t1 with ⟨rfl, m1, r1, l1, q1⟩ | ⟨_, _, _, _, _, _, q1⟩
  · obtain ⟨_, _, _, _, a5⟩ := q1 4 false 0 ⟨#[]⟩ (u' : Int) (Or.inr (Or.inr (Or.inr ⟨rfl, rfl, rfl, rfl, by omega⟩))) ⟨by omega, by omega, by omega, by omega⟩ e4.symm
    rcases t3 with ⟨rfl, m3, r3, l3, q3⟩ | ⟨_, _, _, _, _, _, q3⟩
    · obtain ⟨a1, a2, a3, a4, a6⟩ := q3 k' b' n' s' v' (eT_zero h).2.2 r e6.symm
      have hpp : p = p' := ba_ext (by rw [hp, e5])
      rw [a5, hpp, a1, a2, a3, a4, a6, h]
      rfl
    · exact absurd e6.symm (q3 k' b' n' s' v' (eT_zero h).2.2 r)
  · exact absurd e4.symm (q1 4 false 0 ⟨#[]⟩ (u' : Int) (Or.inr (Or.inr (Or.inr ⟨rfl, rfl, rfl, rfl, by omega⟩))) ⟨by omega, by omega, by omega, by omega⟩)
end Go.Proofs.YtgghcfmpfneehaaGreatDoor
