/- Files behind a thing may be, plain. -/
import Derived.Test.YtgimciacapfbfaaGreatDoorGro
namespace Go.Proofs.YtgimciacapfbfaaGreatDoor
theorem rm_fine {C : Nat} {l : Fs} (h : Fine C l) (n : List UInt8) : Fine C (run5 l (.rm n)) := by
  refine ⟨del_srt h.srt n, ?_, Nat.le_trans (len_del l n) h.len, fun p hp => h.names p (mem_del.1 hp).1⟩
  have := tot_del (n := n) (srt_ne h.srt)
  have := h.tot
  show tot (del l n) ≤ C
  omega
theorem tr_fine {C : Nat} {l : Fs} {n : List UInt8} {k : Nat} (h : Fine C l) (hk : ok5 l (.tr n k)) : Fine C (run5 l (.tr n k)) := by
  refine put_fine h hk.1 ?_ (fun h' => by rw [hk.2.1] at h'; cases h'.1)
  have h1 := tot_put h.srt n ((get l n).take k)
  have h2 : ((get l n).take k).length ≤ (get l n).length := by rw [List.length_take]; omega
  have := h.tot
  omega
theorem ren_fine {C : Nat} {l : Fs} {a b : List UInt8} (h : Fine C l) (hk : ok5 l (.ren a b)) : Fine C (run5 l (.ren a b)) := by
  have hd := rm_fine h a
  have hd' : Fine C (del l a) := hd
  have hl : (del l a).length + 1 ≤ 4096 := Nat.le_trans (len_del_has hk.2.2) h.len
  refine put_fine hd' hk.2.1 ?_ (fun h' => by have := h'.2; omega)
  have h1 := tot_put hd'.srt b (get l a)
  have h2 := tot_del (n := a) (srt_ne h.srt)
  have := h.tot
  omega
theorem tot_tr {l : Fs} (hs : srt l) {n : List UInt8} {k : Nat} (hk : k ≤ (get l n).length) : (tot (run5 l (.tr n k)) : Int) - (tot l : Int) = (k : Int) - (get l n).length := by
  have h1 := tot_put hs n ((get l n).take k)
  have h2 : ((get l n).take k).length = k := by rw [List.length_take]; omega
  show (tot (put l n ((get l n).take k)) : Int) - _ = _
  omega
theorem tot_rm {l : Fs} (hs : srt l) {n : List UInt8} : (tot (run5 l (.rm n)) : Int) - (tot l : Int) = -((get l n).length : Int) := by
  have h1 := tot_del (n := n) (srt_ne hs)
  show (tot (del l n) : Int) - _ = _
  omega
theorem get_del_ne {l : Fs} {a b : List UInt8} (h : b ≠ a) : get (del l a) b = get l b := by
  unfold del
  induction l with
  | nil => rfl
  | cons y r ih =>
    rw [List.filter_cons, get_cons]
    by_cases hy : y.1 = a
    · simp [hy, ih]
      intro e
      exact absurd e.symm h
    · simp only [beq_iff_eq, hy, Bool.not_eq_true', beq_eq_false_iff_ne, ne_eq, not_false_eq_true, if_true]
      rw [get_cons, ih]
      simp
theorem get_del_same (l : Fs) (a : List UInt8) : get (del l a) a = [] := get_none (by
  unfold hasF
  rw [List.any_eq_false]
  intro p hp
  simpa using (mem_del.1 hp).2)
theorem tot_ren {l : Fs} (hs : srt l) {a b : List UInt8} : (tot (run5 l (.ren a b)) : Int) - (tot l : Int) = if a = b then 0 else -((get l b).length : Int) := by
  have h1 := tot_put (del_srt hs a) b (get l a)
  have h2 := tot_del (n := a) (srt_ne hs)
  show (tot (put (del l a) b (get l a)) : Int) - _ = _
  split
  · rename_i e
    subst e
    rw [get_del_same] at h1
    simp at h1
    omega
  · rename_i e
    rw [get_del_ne (fun h => e h.symm)] at h1
    omega
end Go.Proofs.YtgimciacapfbfaaGreatDoor
