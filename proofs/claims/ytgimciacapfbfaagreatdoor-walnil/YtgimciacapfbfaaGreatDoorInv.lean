/- What stands between a wal and its disk, plain. -/
import Derived.Test.YtgimciacapfbfaaGreatDoorNum
namespace Go.Proofs.YtgimciacapfbfaaGreatDoor
open Go.RowKit
theorem get_fins_same {l : Fs} {n b : List UInt8} : (∀ p ∈ l, p.1 ≠ n) → get (fins (n, b) l) n = b := by
  induction l with
  | nil => intro _; simp [fins, get]
  | cons y r ih =>
    intro h
    unfold fins
    split
    · rw [get_cons]; simp
    · rw [get_cons]
      have hy := h y (by simp)
      rw [if_neg (by simpa using hy)]
      exact ih (fun p hp => h p (List.mem_cons_of_mem _ hp))
theorem get_fins_ne {l : Fs} {n b m : List UInt8} (hm : n ≠ m) : get (fins (n, b) l) m = get l m := by
  induction l with
  | nil => simp [fins, get, hm]
  | cons y r ih =>
    unfold fins
    split
    · rw [get_cons, if_neg (by simpa using hm)]
    · rw [get_cons, get_cons, ih]
theorem get_put_same (l : Fs) (n b : List UInt8) : get (put l n b) n = b := get_fins_same (fun _ hp => (mem_del.1 hp).2)
theorem get_put_ne {l : Fs} {n b m : List UInt8} (hm : m ≠ n) : get (put l n b) m = get l m := by
  unfold put
  rw [get_fins_ne (fun e => hm e.symm), get_del_ne hm]
theorem has_iff {l : Fs} {n : List UInt8} : hasF l n = true ↔ ∃ p ∈ l, p.1 = n := by
  unfold hasF
  rw [List.any_eq_true]
  constructor
  · rintro ⟨p, hp, h⟩; exact ⟨p, hp, by simpa using h⟩
  · rintro ⟨p, hp, h⟩; exact ⟨p, hp, by simpa using h⟩
theorem has_put_same (l : Fs) (n b : List UInt8) : hasF (put l n b) n = true := has_iff.2 ⟨(n, b), mem_fins.2 (Or.inl rfl), rfl⟩
theorem has_put {l : Fs} {n b m : List UInt8} (h : hasF l m = true) : hasF (put l n b) m = true := by
  by_cases hm : m = n
  · rw [hm]; exact has_put_same l n b
  · obtain ⟨p, hp, rfl⟩ := has_iff.1 h
    exact has_iff.2 ⟨p, mem_fins.2 (Or.inr (mem_del.2 ⟨hp, hm⟩)), rfl⟩
theorem has_del {l : Fs} {n m : List UInt8} (h : hasF l m = true) (hm : m ≠ n) : hasF (del l n) m = true := by
  obtain ⟨p, hp, rfl⟩ := has_iff.1 h
  exact has_iff.2 ⟨p, mem_del.2 ⟨hp, hm⟩, rfl⟩
theorem pth_inj {nm : List UInt8} {a b : Nat} (ha : a ≤ 999999999999) (hb : b ≤ 999999999999) (h : pth nm a = pth nm b) : a = b := by
  unfold pth at h
  have h1 := List.append_cancel_left h
  have h2 : pad 12 a = pad 12 b := (List.cons.inj h1).2
  have h3 := dec_pad 12 a 0 (by omega)
  rw [h2, dec_pad 12 b 0 (by omega)] at h3
  have := Option.some.inj h3
  omega
theorem pth_ok {nm : List UInt8} (h : nm.length ≤ 64) (n : Nat) : badN (pth nm n) = false := by
  unfold badN
  rw [decide_eq_false_iff_not]
  have := pth_len nm n
  rintro (h' | h')
  · rw [h'] at this; simp at this
  · omega
theorem app_ok {d : PD} {n t : List UInt8} (h1 : badN n = false) (h2 : t.length + tot d.seen ≤ d.room) (h3 : d.seen.length < 4096) : d.app n t = (0, ⟨d.room, run5 d.seen (.app n t), d.synced, d.ops ++ [.app n t]⟩) := by
  unfold PD.app PD.grow
  rw [h1, if_neg (by simp), if_neg (by rintro (h | h) <;> omega)]
  rfl
/-- A wal's records lie in its disk's files; c: how much was done. -/
structure Inv (c : Nat) (x : PW) (d : PD) : Prop where
  nm1 : x.nm ≠ []
  nm2 : x.nm.length ≤ 64
  srt : srt d.seen
  tot : tot d.seen ≤ 308 * c
  len : d.seen.length ≤ c
  ops : d.ops.length ≤ c
  fi : x.first ≤ 32 * c + 1
  rl : x.rs.length ≤ c
  lst : (x.rs = [] ∧ x.last = 0) ∨ (∃ m, x.last = x.first + 32 * m ∧ 32 * m < x.rs.length ∧ x.rs.length ≤ 32 * m + 32 ∧ hasF d.seen (pth x.nm x.last) = true)
  pos : 1 ≤ x.first
  fil : ∀ j (h : j < x.rs.length), hasF d.seen (pth x.nm (x.file (x.first + j))) = true ∧ x.rs[j].2 ≤ (get d.seen (pth x.nm (x.file (x.first + j)))).length
theorem file_at (x : PW) (j : Nat) : x.file (x.first + j) = x.first + 32 * (j / 32) := by unfold PW.file; omega
theorem Inv.is {c : Nat} {x : PW} {d : PD} (h : Inv c x d) (hc : c ≤ 3000) : Is x := ⟨h.nm1, by have := h.fi; omega, by have := h.rl; omega⟩
theorem Inv.start {c : Nat} {x : PW} {d : PD} (h : Inv c x d) {i : Nat} (h1 : x.first ≤ i) (h2 : i ≤ x.next) : x.start i ≤ (get d.seen (pth x.nm (x.file i))).length := by
  unfold PW.start
  split
  · exact Nat.zero_le _
  · rename_i hne
    have hj : i - 1 - x.first < x.rs.length := by unfold PW.file at hne; unfold PW.next at h2; omega
    have hf := (h.fil (i - 1 - x.first) hj).2
    have e1 : x.file (x.first + (i - 1 - x.first)) = x.file i := by unfold PW.file at hne ⊢; omega
    rw [e1] at hf
    simpa [hj] using hf
theorem inv_new (nm : List UInt8) (room : Int) (h1 : nm ≠ []) (h2 : nm.length ≤ 64) : Inv 0 ⟨nm, 1, 0, []⟩ (PD.new room) :=
  ⟨h1, h2, List.Pairwise.nil, Nat.le_refl _, Nat.le_refl _, Nat.le_refl _, Nat.le_refl _, Nat.le_refl _, Or.inl ⟨rfl, rfl⟩, Nat.le_refl _, fun j h => absurd h (by simp)⟩
theorem inv_can {c : Nat} {x : PW} {d : PD} {b : List UInt8} (h : Inv c x d) (hc : c ≤ 3000) (hb : b.length ≤ 300) (hr : 308 * (c + 1) ≤ d.room) : Can (x, d) b ∧ Inv (c + 1) (stp (x, d) b).1 (stp (x, d) b).2 ∧ (stp (x, d) b).2.room = d.room := by
  have hfl := frm_len b
  have htot := h.tot
  have hok := app_ok (d := d) (n := pth x.nm (x.file x.next)) (t := frm b) (pth_ok h.nm2 _) (by omega) (by have := h.len; omega)
  have hstart := h.start (i := x.next) (by unfold PW.next; omega) (Nat.le_refl _)
  have hle := get_le d.seen (pth x.nm (x.file x.next))
  have hfi := h.fi
  have hrl := h.rl
  refine ⟨⟨h.is hc, h.nm2, by have := h.ops; show d.ops.length ≤ _; omega, by show x.start x.next ≤ _; omega, by show (d.app _ _).1 = 0; rw [hok]⟩, ?_, by show (d.app _ _).2.room = _; rw [hok]⟩
  have e2 : (stp (x, d) b).2 = ⟨d.room, run5 d.seen (.app (pth x.nm (x.file x.next)) (frm b)), d.synced, d.ops ++ [.app (pth x.nm (x.file x.next)) (frm b)]⟩ := by show (d.app _ _).2 = _; rw [hok]
  have e1 : (stp (x, d) b).1 = x.push b := rfl
  rw [e1, e2]
  have hseen : run5 d.seen (.app (pth x.nm (x.file x.next)) (frm b)) = put d.seen (pth x.nm (x.file x.next)) (get d.seen (pth x.nm (x.file x.next)) ++ frm b) := rfl
  have ht := tot_put h.srt (pth x.nm (x.file x.next)) (get d.seen (pth x.nm (x.file x.next)) ++ frm b)
  rw [List.length_append, hfl] at ht
  have hlp := len_put d.seen (pth x.nm (x.file x.next)) (get d.seen (pth x.nm (x.file x.next)) ++ frm b)
  have hl0 := h.len
  have ho0 := h.ops
  have hrs : (x.push b).rs = x.rs ++ [(b, x.start x.next + (8 + b.length))] := rfl
  have hlen' : (x.push b).rs.length = x.rs.length + 1 := by rw [hrs, List.length_append]; rfl
  have hnx : x.file x.next = x.first + 32 * (x.rs.length / 32) := file_at x x.rs.length
  have g1 : tot (run5 d.seen (.app (pth x.nm (x.file x.next)) (frm b))) ≤ 308 * (c + 1) := by rw [hseen]; omega
  have g2 : (run5 d.seen (.app (pth x.nm (x.file x.next)) (frm b))).length ≤ c + 1 := by rw [hseen]; omega
  refine ⟨h.nm1, h.nm2, by rw [hseen]; exact put_srt h.srt _ _, g1, g2, by simp; omega, by show x.first ≤ _; omega, by rw [hlen']; omega, Or.inr ?_, h.pos, ?_⟩
  · refine ⟨x.rs.length / 32, hnx, by rw [hlen']; omega, by rw [hlen']; omega, ?_⟩
    rw [hseen]
    exact has_put_same _ _ _
  · intro j hj
    rw [hlen'] at hj
    have e3 : (x.push b).file ((x.push b).first + j) = x.file (x.first + j) := rfl
    rw [e3, hseen]
    show hasF _ (pth x.nm _) = true ∧ _
    rcases Nat.lt_or_ge j x.rs.length with hjl | hjl
    · have hf := h.fil j hjl
      refine ⟨has_put hf.1, ?_⟩
      have e4 : (x.push b).rs[j]'(by rw [hlen']; omega) = x.rs[j] := by
        simp only [hrs]
        rw [List.getElem_append_left hjl]
      rw [e4]
      show _ ≤ (get _ (pth x.nm _)).length
      by_cases he : x.file (x.first + j) = x.file x.next
      · rw [he, get_put_same, List.length_append]
        have := hf.2
        rw [he] at this
        omega
      · rw [get_put_ne (fun e => he (pth_inj (by rw [file_at]; omega) (by rw [hnx]; omega) e))]
        exact hf.2
    · obtain rfl : j = x.rs.length := by omega
      rw [show x.file (x.first + x.rs.length) = x.file x.next from rfl]
      refine ⟨has_put_same _ _ _, ?_⟩
      have e4 : (x.push b).rs[x.rs.length]'(by rw [hlen']; omega) = (b, x.start x.next + (8 + b.length)) := by
        simp only [hrs]
        rw [List.getElem_append_right (Nat.le_refl _)]
        simp
      rw [e4]
      show x.start x.next + (8 + b.length) ≤ (get (put d.seen (pth x.nm (x.file x.next)) _) (pth x.nm (x.file x.next))).length
      rw [get_put_same, List.length_append, hfl]
      omega
theorem inv_its {c : Nat} (ts : List (List UInt8)) : ∀ {x : PW} {d : PD}, Inv c x d → c + ts.length ≤ 3000 → (∀ b ∈ ts, b.length ≤ 300) → 308 * (c + ts.length + 1) ≤ d.room → Inv (c + ts.length) (ts.foldl stp (x, d)).1 (ts.foldl stp (x, d)).2 ∧ (ts.foldl stp (x, d)).2.room = d.room := by
  induction ts generalizing c with
  | nil => intro x d h _ _ _; exact ⟨h, rfl⟩
  | cons b r ih =>
    intro x d h hc hb hr
    rw [List.length_cons] at hc hr
    obtain ⟨k1, k2, k3⟩ := inv_can h (by omega) (hb b (by simp)) (by omega)
    rw [List.foldl_cons, List.length_cons]
    have := ih k2 (by omega) (fun b' hb' => hb b' (List.mem_cons_of_mem _ hb')) (by rw [k3]; omega)
    rw [k3] at this
    rw [show c + (r.length + 1) = c + 1 + r.length by omega]
    exact this
theorem inv_cans {c : Nat} {x : PW} {d : PD} (h : Inv c x d) (ts : List (List UInt8)) (hc : c + ts.length ≤ 3000) (hb : ∀ b ∈ ts, b.length ≤ 300) (hr : 308 * (c + ts.length + 1) ≤ d.room) : ∀ k (hk : k < ts.length), Can ((ts.take k).foldl stp (x, d)) ts[k] := by
  intro k hk
  have hl : (ts.take k).length = k := by simp; omega
  obtain ⟨h1, h2⟩ := inv_its (ts.take k) h (by omega) (fun b hb' => hb b (List.mem_of_mem_take hb')) (by omega)
  exact (inv_can h1 (by omega) (hb _ (List.getElem_mem hk)) (by rw [h2]; omega)).1
/-- The records' bytes. -/
theorem its_rs (ts : List (List UInt8)) : ∀ (x : PW) (d : PD), ((ts.foldl stp (x, d)).1.rs.map (·.1)) = x.rs.map (·.1) ++ ts ∧ (ts.foldl stp (x, d)).1.first = x.first ∧ (ts.foldl stp (x, d)).1.nm = x.nm := by
  induction ts with
  | nil => intro x d; simp
  | cons b r ih =>
    intro x d
    rw [List.foldl_cons]
    obtain ⟨h1, h2, h3⟩ := ih (stp (x, d) b).1 (stp (x, d) b).2
    refine ⟨?_, h2, h3⟩
    rw [h1]
    show (x.rs ++ [_]).map _ ++ r = _
    simp
end Go.Proofs.YtgimciacapfbfaaGreatDoor
