/- What the document's Pred, and first and unless, return. -/
import Derived.Test.YtgghcfmpfneehaaGreatDoorTriA
namespace Go.Proofs.YtgghcfmpfneehaaGreatDoor
open Go.RowKit
theorem letter_true {c : UInt8} (h : ltB c = true) : (97 : Int) ≤ (c.toNat : Int) ∧ (c.toNat : Int) ≤ 122 := by
  simp [ltB] at h; omega
theorem nm_yes {c : UInt8} (h : nmB c = true) : (¬ (c.toNat : Int) < 97 ∧ ¬ (122 : Int) < (c.toNat : Int)) ∨ ((c.toNat : Int) < 97 ∧ ¬ (c.toNat : Int) < 48 ∧ ¬ (57 : Int) < (c.toNat : Int)) ∨
    ((c.toNat : Int) < 97 ∧ ¬ (c.toNat : Int) < 48 ∧ (57 : Int) < (c.toNat : Int) ∧ ((c.toNat : Int) != 95) = false) ∨ ((c.toNat : Int) < 97 ∧ (c.toNat : Int) < 48 ∧ ((c.toNat : Int) != 95) = true ∧ ((c.toNat : Int) != 46) = false) := by
  simp [nmB] at h
  simp only [bne_eq_false_iff_eq, bne_iff_ne]
  omega
theorem nm_no {c : UInt8} (h : nmB c = false) : ((c.toNat : Int) < 97 ∧ (c.toNat : Int) < 48 ∧ ((c.toNat : Int) != 95) = true ∧ ((c.toNat : Int) != 46) = true) ∨
    ((c.toNat : Int) < 97 ∧ ¬ (c.toNat : Int) < 48 ∧ (57 : Int) < (c.toNat : Int) ∧ ((c.toNat : Int) != 95) = true ∧ ((c.toNat : Int) != 46) = true) ∨
    (¬ (c.toNat : Int) < 97 ∧ (122 : Int) < (c.toNat : Int) ∧ ¬ (c.toNat : Int) < 48 ∧ (57 : Int) < (c.toNat : Int) ∧ ((c.toNat : Int) != 95) = true ∧ ((c.toNat : Int) != 46) = true) := by
  simp [nmB] at h
  simp only [bne_iff_ne]
  omega
set_option maxRecDepth 100000 in
theorem refPred_no0 (s : ByteArray) (hs : s.size = 0 ∨ 64 < s.size) (w : World) : Calls Tryz.prog 66 #[.string s] w fun e w' => e = .returned (.bool false) ∧ w' = w := by
  rcases hs with hs | hs
  · have h1 : (s.size : Int) < 1 := by omega
    clear hs
    go_enter Tryz.func66, Tryz.ntmps66
    go_wp2_with fail
    go_ret
    exact ⟨rfl, rfl⟩
  · have h1 : ¬ (s.size : Int) < 1 := by omega
    have h2 : (64 : Int) < (s.size : Int) := by omega
    clear hs
    go_enter Tryz.func66, Tryz.ntmps66
    go_wp2_with fail
    go_ret
    exact ⟨rfl, rfl⟩
theorem name_nil {s : ByteArray} (h : s.size = 0) : isName s.data.toList = false := by
  cases hl : s.data.toList with
  | nil => rfl
  | cons c r => have h2 : s.data.toList.length = s.size := rfl
                rw [hl] at h2; simp at h2; omega
theorem name_long {s : ByteArray} (h : 64 < s.size) : isName s.data.toList = false := by
  have h2 : s.data.toList.length = s.size := rfl
  have h3 : ¬ s.data.toList.length ≤ 64 := by omega
  unfold isName
  rw [decide_eq_false h3]; rfl
theorem name_short {s : ByteArray} (h : isName s.data.toList = true) : 0 < s.size ∧ s.size ≤ 64 := by
  constructor
  · apply Nat.pos_of_ne_zero; intro h0; rw [name_nil h0] at h; cases h
  · apply Nat.le_of_not_lt; intro h0; rw [name_long h0] at h; cases h
set_option maxRecDepth 100000 in
theorem refPred_any (s : ByteArray) (w : World) : Calls Tryz.prog 66 #[.string s] w fun e w' => e = .returned (.bool (isName s.data.toList)) ∧ w' = w := by
  by_cases hz : s.size = 0
  · rw [name_nil hz]; exact refPred_no0 s (Or.inl hz) w
  by_cases hb : 64 < s.size
  · rw [name_long hb]; exact refPred_no0 s (Or.inr hb) w
  have h0 : 0 < s.size := by omega
  have hlen : decide (s.data.toList.length ≤ 64) = true := decide_eq_true (show s.size ≤ 64 by omega)
  have hhd := hd_at h0
  have h1 : ¬ (s.size : Int) < 1 := by omega
  have h2 : ¬ (64 : Int) < (s.size : Int) := by omega
  cases hL : ltB (s[0]) with
  | false =>
    rw [show isName s.data.toList = false by unfold isName; rw [hhd, hL]; simp]
    by_cases q : (97 : Int) ≤ ((s[0]).toNat : Int)
    · have q2 : (122 : Int) < ((s[0]).toNat : Int) := by simp [ltB] at hL; omega
      have q1 : ¬ ((s[0]).toNat : Int) < 97 := by omega
      clear hhd hL hlen hz q
      go_enter Tryz.func66, Tryz.ntmps66
      go_wp2_with fail
      go_ret
      exact ⟨rfl, rfl⟩
    · have q1 : ((s[0]).toNat : Int) < 97 := by omega
      clear hhd hL hlen hz q
      go_enter Tryz.func66, Tryz.ntmps66
      go_wp2_with fail
      go_ret
      exact ⟨rfl, rfl⟩
  | true =>
    have HE := hide (show isName s.data.toList = s.data.toList.all nmB by unfold isName; rw [hhd, hL, hlen]; rfl)
    have q1 : ¬ ((s[0]).toNat : Int) < 97 := by have := letter_true hL; omega
    have q2 : ¬ (122 : Int) < ((s[0]).toNat : Int) := by have := letter_true hL; omega
    clear hhd hL hlen
    go_enter Tryz.func66, Tryz.ntmps66
    go_wp2_with fail
    clear q1 q2
    go_loop [3, 4] (fun i _ => ∃ k : Nat, k ≤ s.size ∧ i = .int .i64 k ∧ Hid ((s.data.toList.take k).all nmB = true)) (fun i _ => s.size - (intOf i).toNat)
    case atStart => exact ⟨0, Nat.zero_le _, rfl, hide rfl⟩
    case round =>
      obtain ⟨k, hk, rfl, Ha⟩ := hrel
      by_cases hlt : k < s.size
      · have HT := hide (nm_take s k hlt)
        have hc : (s[k]).toNat < 256 := (s[k]).toNat_lt
        cases hNN : nmB (s[k]) with
        | true =>
          have HNN := hide hNN
          rcases nm_yes hNN with ⟨q1, q2⟩ | ⟨q1, q2, q3⟩ | ⟨q1, q2, q3, q4⟩ | ⟨q1, q2, q3, q4⟩
          all_goals
            clear hNN
            go_wp2_with fail
            go_round
            case rel => exact ⟨k + 1, by omega, by go_num, hide (by rw [HT.out, Ha.out, HNN.out]; rfl)⟩
            case measure => simp [intOf]; omega
        | false =>
          have HNN := hide hNN
          rcases nm_no hNN with ⟨q1, q2, q3, q4⟩ | ⟨q1, q2, q3, q4, q5⟩ | ⟨q1, q2, q3, q4, q5, q6⟩
          all_goals
            clear hNN
            go_wp2_with fail
            go_ret
            rw [show isName s.data.toList = false by rw [HE.out]; exact all_false_of (k := k + 1) (by rw [HT.out, HNN.out]; simp)]
            exact ⟨rfl, rfl⟩
      · go_wp2_with fail
        go_ret
        rw [show isName s.data.toList = true by rw [HE.out]; have h := Ha.out; rw [List.take_of_length_le (by simp; omega)] at h; exact h]
        exact ⟨rfl, rfl⟩
end Go.Proofs.YtgghcfmpfneehaaGreatDoor
