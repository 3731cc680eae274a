/- What the document's ReadText returns: for every line; plain part. -/
import Derived.Test.YtgghcfmpfneehaaGreatDoorRfA
import Derived.Test.YtgghcfmpfneehaaGreatDoorTriL
import Derived.Test.YtgghcfmpfneehaaGreatDoorValV
namespace Go.Proofs.YtgghcfmpfneehaaGreatDoor
open Go.RowKit
theorem ib_none (l : List UInt8) (h : ∀ c ∈ l, c ≠ 32) : Lib.indexByte l 32 < 0 := by
  induction l with
  | nil => simp [Lib.indexByte]
  | cons c l ih =>
    have hc : c ≠ 32 := h c (by simp)
    have h1 := ih (fun x hx => h x (by simp [hx]))
    have h2 := Lib.indexByte_ge l 32
    simp only [Lib.indexByte]
    rw [if_neg (by simpa using hc), if_pos (by simp; omega)]
    omega
/-- A write whose line this is, or there is none. -/
def okV (l : List UInt8) (d : Bool) (u : Nat) (p : ByteArray) (k : Int) (b : Bool) (n : Int) (s : ByteArray) (v e : Int) : Prop :=
  (e = 0 ∧ eT (u : Int) p k b n s v = 0 ∧ u < 18446744073709551616 ∧ inR n v ∧ wtx d (u : Int) p k b n s v = l) ∨
  (e = 41 ∧ d = false ∧ u = 0 ∧ p = ⟨#[]⟩ ∧ k = 0 ∧ b = false ∧ n = 0 ∧ s = ⟨#[]⟩ ∧ v = 0 ∧ noW l)
theorem okV_none (l : List UInt8) (h : noW l) : okV l false 0 ⟨#[]⟩ 0 false 0 ⟨#[]⟩ 0 41 := Or.inr ⟨rfl, rfl, rfl, rfl, rfl, rfl, rfl, rfl, rfl, h⟩
theorem one_answer {l : List UInt8} {d : Bool} {u : Nat} {p : ByteArray} {k : Int} {b : Bool} {n : Int} {s : ByteArray} {v e : Int} {d' : Bool} {u' : Nat} {p' : ByteArray} {k' : Int} {b' : Bool} {n' : Int} {s' : ByteArray} {v' e' : Int} (h : okW l d u p k b n s v e) (h' : okV l d' u' p' k' b' n' s' v' e') :
    d = d' ∧ u = u' ∧ p = p' ∧ k = k' ∧ b = b' ∧ n = n' ∧ s = s' ∧ v = v' ∧ e = e' := by
  rcases h with ⟨rfl, a1, a2, a3, a4, q⟩ | ⟨rfl, rfl, rfl, rfl, rfl, rfl, rfl, rfl, rfl, q⟩
  · rcases h' with ⟨rfl, b1, b2, b3, b4⟩ | ⟨_, _, _, _, _, _, _, _, _, q'⟩
    · obtain ⟨rfl, rfl, rfl, rfl, rfl, rfl, rfl, rfl⟩ := q _ _ _ _ _ _ _ _ b1 b2 b3 b4
      exact ⟨rfl, rfl, rfl, rfl, rfl, rfl, rfl, rfl, rfl⟩
    · exact absurd a4 (q' _ _ _ _ _ _ _ _ a1 a2 a3)
  · rcases h' with ⟨rfl, b1, b2, b3, b4⟩ | ⟨rfl, rfl, rfl, rfl, rfl, rfl, rfl, rfl, rfl, _⟩
    · exact absurd b4 (q _ _ _ _ _ _ _ _ b1 b2 b3)
    · exact ⟨rfl, rfl, rfl, rfl, rfl, rfl, rfl, rfl, rfl⟩
theorem no_head {s : ByteArray} (h : s.size < 2 ∨ ∃ h : 1 < s.size, s[1] ≠ 32 ∨ (s[0] ≠ 43 ∧ s[0] ≠ 45)) : noW s.data.toList := by
  intro d u p k b n t v h1 _ _ e
  rw [wtx_form] at e
  have hl := congrArg List.length e
  have e1 : s.data.toList.length = s.size := rfl
  simp only [List.length_append, List.length_cons, List.length_nil, e1] at hl
  rcases h with h | ⟨h, h2⟩
  · omega
  · obtain ⟨_, g0⟩ := get_zero (s := s) (c := sgn d) e.symm
    obtain ⟨_, g1⟩ := get_one (s := s) (c := sgn d) (d := 32) e.symm
    rcases h2 with h2 | ⟨h2, h3⟩
    · exact h2 g1
    · cases d
      · exact h2 g0
      · exact h3 g0
/-- What stands behind the sign and its blank, cut apart. -/
theorem rest_parts {s : ByteArray} {d : Bool} {u : Nat} {p : ByteArray} {k : Int} {b : Bool} {n : Int} {t : ByteArray} {v : Int} (h1 : eT (u : Int) p k b n t v = 0) (e : wtx d (u : Int) p k b n t v = s.data.toList) {r : ByteArray} (hr : r = s.extract 2 s.size) :
    spl 2 r.data.toList = [48 :: 120 :: hexL u, p.data.toList, ltr k b n t v] ∧ ∃ h : 0 < s.size, s[0] = sgn d := by
  rw [wtx_form] at e
  obtain ⟨g, g0⟩ := get_zero (s := s) (c := sgn d) e.symm
  refine ⟨?_, g, g0⟩
  subst hr
  rw [ba_rest, ← e]
  show spl 2 ((48 :: 120 :: hexL u) ++ 32 :: (p.data.toList ++ 32 :: ltr k b n t v)) = _
  rw [spl_at 1 _ _ hx_ne, spl_at 0 _ _ (nm_ne (eT_zero h1).2.1)]
  rfl
theorem no_cut {s r : ByteArray} (hr : r = s.extract 2 s.size) (h : (spl 2 r.data.toList).length < 3) : noW s.data.toList := by
  intro d u p k b n t v h1 _ _ e
  rw [(rest_parts h1 e hr).1] at h
  simp at h
theorem no_end {s r : ByteArray} (hr : r = s.extract 2 s.size) (hp : 0 < s.size) {A P V : List UInt8} (hs : spl 2 r.data.toList = [A, P, V]) {d : Bool} (hd : d = (s[0] == 45)) {u : Nat} (hu : okUid A (u : Int)) {p : ByteArray} (hP : p.data.toList = P) {k : Int} {b : Bool} {n : Int} {t : ByteArray} {v x : Int} (hv : okD V k b n t v x) (hE : ¬ (eT (u : Int) p k b n t v = 0 ∧ wtx d (u : Int) p k b n t v = s.data.toList)) : noW s.data.toList := by
  intro d' u' p' k' b' n' t' v' h1 h2 h3 e
  obtain ⟨e1, g, g0⟩ := rest_parts h1 e hr
  rw [hs] at e1
  simp only [List.cons.injEq, and_true] at e1
  obtain ⟨a1, a2, a3⟩ := e1
  apply hE
  have hu' := (eT_zero h1).1
  have eu : (u : Int) = (u' : Int) := hu.2.2.2 u' (by omega) h2 a1.symm
  have ep : p = p' := ba_ext (by rw [hP, a2])
  have ed : d = d' := by rw [hd, g0]; cases d' <;> decide
  subst ep ed
  rcases hv with ⟨_, m, _, l3⟩ | ⟨_, _, _, _, _, _, q⟩
  · rw [eu]
    refine ⟨eT_ok hu' (eT_zero h1).2.1 m, ?_⟩
    rw [← e, wtx_form, wtx_form, l3, a3]
  · exact absurd a3.symm (q k' b' n' t' v' (eT_zero h1).2.2 h3)
end Go.Proofs.YtgghcfmpfneehaaGreatDoor
