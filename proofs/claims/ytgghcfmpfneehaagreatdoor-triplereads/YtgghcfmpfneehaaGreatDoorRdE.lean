/- Writes there and back: what Read returns of what Bytes wrote, ReadText of what Text wrote. -/
import Derived.Test.YtgghcfmpfneehaaGreatDoorRtB
import Derived.Test.YtgghcfmpfneehaaGreatDoorValR
namespace Go.Proofs.YtgghcfmpfneehaaGreatDoor
open Go.RowKit
theorem rMk_back (d : Bool) (x : List UInt8) (r : ByteArray) : rMk ((⟨(bt d :: x).toArray⟩ : ByteArray) ++ r) = (d, (⟨x.toArray⟩ : ByteArray) ++ r, 0) := by
  obtain ⟨h, h1, h2⟩ := front_of (bt d) x r
  unfold rMk
  rw [if_neg (by omega), n0_pos h, h1, if_neg (by cases d <;> decide), h2]
  cases d <;> rfl
theorem wby_form (d : Bool) (u : Nat) (p : ByteArray) (k : Int) (b : Bool) (n : Int) (s : ByteArray) (v : Int) (r : ByteArray) : (⟨(wby d (u : Int) p k b n s v).toArray⟩ : ByteArray) ++ r = (⟨(bt d :: (num u ++ (ctx p).data.toList ++ byt k b n s v)).toArray⟩ : ByteArray) ++ r := by
  simp [wby, ctx]
theorem rWr_back (d : Bool) (u : Nat) (hu : u < 2 ^ 64) (p : ByteArray) (k : Int) (b : Bool) (n : Int) (s : ByteArray) (v : Int) (hr : inR n v) (h : eT (u : Int) p k b n s v = 0) (r : ByteArray) :
    rWr ((⟨(wby d (u : Int) p k b n s v).toArray⟩ : ByteArray) ++ r) = ((d, u, p, (k, b, n, s, v)), r, 0) := by
  have hps := name_short (eT_zero h).2.1
  have e1 := rMk_back d (num u ++ (ctx p).data.toList ++ byt k b n s v) r
  rw [wby_form]
  unfold rWr
  rw [e1]
  simp only [if_pos]
  have c1 : (⟨(num u ++ (ctx p).data.toList ++ byt k b n s v).toArray⟩ : ByteArray) ++ r = ⟨(num u).toArray⟩ ++ (ctx p ++ ((⟨(byt k b n s v).toArray⟩ : ByteArray) ++ r)) := by
    apply ba_ext; simp
  unfold f2
  rw [c1, rNum_back u hu]
  simp only [if_pos]
  unfold f3
  rw [rText_back p _ (by omega)]
  simp only [if_pos]
  unfold f4
  rw [rVal_back (eT_zero h).2.2 hr]
  simp only [if_pos]
  unfold f5
  rw [if_pos h]
/-- What Read reads: a write that may be, whose bytes stand at the front; or a fault. -/
theorem rWr_cases (s : ByteArray) : (∃ d u p k b n t v r, rWr s = ((d, u, p, (k, b, n, t, v)), r, 0) ∧ eT ((u : Nat) : Int) p k b n t v = 0 ∧ u < 2 ^ 64 ∧ inR n v ∧ (⟨(wby d (u : Int) p k b n t v).toArray⟩ : ByteArray) ++ r = s) ∨ (∃ e, e ≠ 0 ∧ rWr s = badA e) := by
  unfold rWr
  by_cases h1 : (rMk s).2.2 = 0
  · rw [if_pos h1]
    unfold f2
    by_cases h2 : (rNum (rMk s).2.1).2.2 = 0
    · rw [if_pos h2]
      unfold f3
      by_cases h3 : (rText (rNum (rMk s).2.1).2.1).2.2 = 0
      · rw [if_pos h3]
        unfold f4
        by_cases h4 : (rVal (rText (rNum (rMk s).2.1).2.1).2.1).2.2 = 0
        · rw [if_pos h4]
          unfold f5
          have o4 := rVal_one _ h4
          have o3 := (rText_one _ h3).1
          have o2 := rNum_one _ h2
          have hn := (rNum_facts (rMk s).2.1).1
          have o1 : (⟨[bt (rMk s).1].toArray⟩ : ByteArray) ++ (rMk s).2.1 = s := by
            unfold rMk at h1 ⊢
            by_cases q0 : s.size = 0
            · rw [if_pos q0] at h1; exact absurd h1 (by decide)
            · rw [if_neg q0] at h1 ⊢
              by_cases q1 : 1 < n0 s
              · rw [if_pos q1] at h1; exact absurd h1 (by decide)
              · rw [if_neg q1]
                have hp : 0 < s.size := by omega
                have hb : bt (n0 s == 1) = s[0] := by
                  have e := n0_pos hp
                  rw [e] at q1 ⊢
                  by_cases q2 : (s[0]).toNat = 1
                  · rw [q2]; exact UInt8.toNat_inj.1 (by rw [q2]; rfl)
                  · have q3 : (s[0]).toNat = 0 := by omega
                    rw [q3]; exact UInt8.toNat_inj.1 (by rw [q3]; rfl)
                rw [hb]
                exact front_cat hp _ rfl [] _ (by apply ba_ext; simp)
          generalize rVal (rText (rNum (rMk s).2.1).2.1).2.1 = V at *
          generalize rText (rNum (rMk s).2.1).2.1 = T at *
          generalize rNum (rMk s).2.1 = U at *
          generalize rMk s = K at *
          obtain ⟨⟨k, b, n, t, v⟩, r, e4⟩ := V
          obtain ⟨p, r3, e3⟩ := T
          obtain ⟨u, r2, e2⟩ := U
          obtain ⟨d, r1, e1⟩ := K
          obtain ⟨m, hr, o4⟩ := o4
          simp only at *
          by_cases h5 : eT (u : Int) p k b n t v = 0
          · rw [if_pos h5]
            refine Or.inl ⟨d, u, p, k, b, n, t, v, r, rfl, h5, by omega, hr, ?_⟩
            rw [← o1, ← o2, ← o3, ← o4, wby_form]
            apply ba_ext; simp
          · rw [if_neg h5]; exact Or.inr ⟨_, h5, rfl⟩
        · rw [if_neg h4]; exact Or.inr ⟨_, h4, rfl⟩
      · rw [if_neg h3]; exact Or.inr ⟨_, h3, rfl⟩
    · rw [if_neg h2]; exact Or.inr ⟨_, h2, rfl⟩
  · rw [if_neg h1]; exact Or.inr ⟨_, h1, rfl⟩
theorem rd_yes {s : ByteArray} {d : Bool} {u : Nat} {p : ByteArray} {k : Int} {b : Bool} {n : Int} {t : ByteArray} {v : Int} {r : ByteArray} (h : rWr s = ((d, u, p, (k, b, n, t, v)), r, 0)) (hm : s.size ≤ 150000000000000) (w : World) :
    Calls Tryz.prog 6 #[.string s] w fun e w' => e = .returned (.tuple #[wr d (u : Int) p k b n t v, .string r, .int .i64 0]) ∧ Bel w w' := by
  have := read_w s hm w
  rw [h] at this
  exact this
theorem rd_no {s : ByteArray} {x : Int} (h : rWr s = badA x) (hm : s.size ≤ 150000000000000) (w : World) :
    Calls Tryz.prog 6 #[.string s] w fun e w' => e = .returned (.tuple #[wr false 0 ⟨#[]⟩ 0 false 0 ⟨#[]⟩ 0, .string ⟨#[]⟩, .int .i64 x]) ∧ Bel w w' := by
  have := read_w s hm w
  rw [h] at this
  exact this
theorem rt_yes {s : ByteArray} {d : Bool} {u : Nat} {p : ByteArray} {k : Int} {b : Bool} {n : Int} {t : ByteArray} {v : Int} (h : eT (u : Int) p k b n t v = 0) (hu : u < 18446744073709551616) (hr : inR n v) (e : wtx d (u : Int) p k b n t v = s.data.toList) (hm : s.size ≤ 150000000000000) (w : World) (hG : Gl w) :
    Calls Tryz.prog 8 #[.string s] w fun e w' => e = .returned (.tuple #[wr d (u : Int) p k b n t v, .int .i64 0]) ∧ Bel w w' := by
  refine (readText_w s hm w hG).mono ?_
  rintro e' w' ⟨d', u', p', k', b', n', t', v', x, rfl, hb, ⟨rfl, _, _, _, _, q⟩ | ⟨_, _, _, _, _, _, _, _, _, q⟩⟩
  · obtain ⟨rfl, rfl, rfl, rfl, rfl, rfl, rfl, rfl⟩ := q d u p k b n t v h hu hr e
    exact ⟨rfl, hb⟩
  · exact absurd e (q d u p k b n t v h hu hr)
theorem rt_no {s : ByteArray} (h : noW s.data.toList) (hm : s.size ≤ 150000000000000) (w : World) (hG : Gl w) :
    Calls Tryz.prog 8 #[.string s] w fun e w' => e = .returned (.tuple #[wr false 0 ⟨#[]⟩ 0 false 0 ⟨#[]⟩ 0, .int .i64 41]) ∧ Bel w w' := by
  refine (readText_w s hm w hG).mono ?_
  rintro e' w' ⟨d', u', p', k', b', n', t', v', x, rfl, hb, ⟨rfl, q1, q2, q3, q4, _⟩ | ⟨rfl, rfl, rfl, rfl, rfl, rfl, rfl, rfl, rfl, q⟩⟩
  · exact absurd q4 (h d' u' p' k' b' n' t' v' q1 q2 q3)
  · exact ⟨rfl, hb⟩
/-- A text is the line of a write, or of none. -/
theorem line_cases (l : List UInt8) : noW l ∨ ∃ d u p k b n s v, eT ((u : Nat) : Int) p k b n s v = 0 ∧ u < 18446744073709551616 ∧ inR n v ∧ wtx d (u : Int) p k b n s v = l := by
  by_cases h : noW l
  · exact Or.inl h
  · right
    apply Classical.byContradiction
    intro hn
    apply h
    intro d u p k b n s v h1 h2 h3 h4
    exact hn ⟨d, u, p, k, b, n, s, v, h1, h2, h3, h4⟩
end Go.Proofs.YtgghcfmpfneehaaGreatDoor
