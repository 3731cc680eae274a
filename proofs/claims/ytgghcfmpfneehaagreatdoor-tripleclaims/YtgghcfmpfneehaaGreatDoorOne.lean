/- Plain mathematics of one form: what each reader reads is written as those very bytes. -/
import Derived.Test.YtgghcfmpfneehaaGreatDoorThere
import Derived.Test.YtgghcfmpfneehaaGreatDoorWalksC
import Derived.Test.YtgghcfmpfneehaaGreatDoorWalksD
import Derived.Test.YtgghcfmpfneehaaGreatDoorWalksF
import Derived.Test.YtgghcfmpfneehaaGreatDoorWalksG
namespace Go.Proofs.YtgghcfmpfneehaaGreatDoor
theorem ba_ext {a b : ByteArray} (h : a.data.toList = b.data.toList) : a = b := by
  apply ByteArray.ext
  exact Array.toList_inj.1 h
theorem ba_app (a b : ByteArray) : (a ++ b).data.toList = a.data.toList ++ b.data.toList := by
  rw [ByteArray.data_append, Array.toList_append]
theorem ba_extract (s : ByteArray) (a b : Nat) : (s.extract a b).data.toList = (s.data.toList.drop a).take (b - a) := by
  simp [ByteArray.data_extract]
theorem ba_len (s : ByteArray) : s.data.toList.length = s.size := rfl
theorem ba_rest (s : ByteArray) (a : Nat) : (s.extract a s.size).data.toList = s.data.toList.drop a := by
  rw [ba_extract, List.take_of_length_le (by rw [List.length_drop, ba_len]; omega)]
theorem nb_eq {x n : Nat} (hx : x < 2 ^ 64) (hn : n ≤ 8) (h1 : x < 2 ^ (8 * n)) (h2 : n = 0 ∨ 2 ^ (8 * (n - 1)) ≤ x) : nb x = n := by
  have a1 := (nb_le x n hx hn).2 h1
  rcases h2 with rfl | h2
  · omega
  · by_cases hz : n = 0
    · omega
    · have a2 := mt (nb_le x (n - 1) hx (by omega)).1 (by omega)
      omega
theorem num_bg (l : List UInt8) (hl : l.length ≤ 8) (h : l = [] ∨ ∃ c r, l = c :: r ∧ 0 < c.toNat) : num (bg l) = UInt8.ofNat l.length :: l := by
  have hb := bg_lt l
  have h8 : 256 ^ l.length ≤ 256 ^ 8 := Nat.pow_le_pow_right (by omega) hl
  have e : nb (bg l) = l.length := by
    refine nb_eq (by omega) hl (by rw [Nat.pow_mul]; exact hb) ?_
    rcases h with rfl | ⟨c, r, rfl, hc⟩
    · left; rfl
    · right
      rw [bg_cons, List.length_cons, Nat.add_sub_cancel, Nat.pow_mul]
      have : 1 * 256 ^ r.length ≤ c.toNat * 256 ^ r.length := Nat.mul_le_mul_right _ hc
      show 256 ^ r.length ≤ _
      omega
  unfold num
  rw [e, hf_bg]
theorem one_num_list (s : ByteArray) (h0 : 0 < s.size) (n : Nat) (hn : (s[0]).toNat = n) :
    s.data.toList = UInt8.ofNat n :: ((s.extract 1 (1 + n)).data.toList ++ (s.extract (1 + n) s.size).data.toList) := by
  rw [ba_extract, ba_rest, Nat.add_sub_cancel_left]
  have e : s.data.toList = s[0] :: s.data.toList.drop 1 := by
    have := drop_cons s 0 h0
    simpa using this
  have e2 : s[0] = UInt8.ofNat n := by
    apply UInt8.toNat_inj.1
    rw [UInt8.toNat_ofNat', hn]
    have := (s[0]).toNat_lt
    omega
  conv => lhs; rw [e, e2]
  congr 1
  rw [show 1 + n = 1 + n from rfl, ← List.drop_drop, List.take_append_drop]
theorem ext_len (s : ByteArray) (n : Nat) (hs : 1 + n ≤ s.size) : (s.extract 1 (1 + n)).data.toList.length = n := by
  rw [ba_extract, List.length_take, List.length_drop, ba_len]; omega
theorem rNum_one (s : ByteArray) (h : (rNum s).2.2 = 0) : (⟨(num (rNum s).1).toArray⟩ : ByteArray) ++ (rNum s).2.1 = s := by
  apply ba_ext
  rw [ba_app]
  rcases rNum_cases s with ⟨h0, e⟩ | ⟨h0, h8, e⟩ | ⟨h0, h8, hs, e⟩ | ⟨h1, h8, hs, hp, hz, e⟩ | ⟨h1, h8, hs, hp, hz, e⟩ | ⟨h0, hp, e⟩
  · rw [e] at h; simp at h
  · rw [e] at h; simp at h
  · rw [e] at h; simp at h
  · rw [e] at h; simp at h
  · rw [e]
    show num _ ++ _ = _
    have hl := ext_len s _ hs
    rw [num_bg _ (by rw [hl]; exact h8) (Or.inr ?_), hl, one_num_list s (by omega) _ rfl]
    · rfl
    · refine ⟨s[1], ((s.data.toList.drop 2).take ((s[0]'(by omega)).toNat - 1)), ?_, hz⟩
      rw [ba_extract, Nat.add_sub_cancel_left, drop_cons s 1 h1]
      obtain ⟨m, hm⟩ : ∃ m, (s[0]'(by omega)).toNat = m + 1 := ⟨_, (Nat.succ_pred_eq_of_pos hp).symm⟩
      rw [hm]; rfl
  · rw [e]
    show num _ ++ _ = _
    have hs : 1 + (s[0]).toNat ≤ s.size := by omega
    have hl := ext_len s _ hs
    rw [num_bg _ (by rw [hl]; omega) (Or.inl (List.eq_nil_of_length_eq_zero (by rw [hl, hp]))), hl, one_num_list s h0 _ rfl]
    rfl
theorem int8_bg (l : List UInt8) (h : l.length = 8) : int8 ((bg l : Int) - 9223372036854775808) = l := by
  unfold int8
  rw [show ((bg l : Int) - 9223372036854775808 + 9223372036854775808).toNat = bg l by omega, ← h]
  exact hf_bg l
theorem rInt_one (s : ByteArray) (h : (rInt s).2.2 = 0) : (⟨(int8 (rInt s).1).toArray⟩ : ByteArray) ++ (rInt s).2.1 = s := by
  by_cases h8 : s.size < 8
  · rw [show rInt s = (0, ⟨#[]⟩, 20) by unfold rInt; rw [if_pos h8]] at h
    simp at h
  · rw [show rInt s = ((bg (s.extract 0 8).data.toList : Int) - 9223372036854775808, s.extract 8 s.size, 0) by unfold rInt; rw [if_neg h8]]
    apply ba_ext
    rw [ba_app]
    show int8 _ ++ _ = _
    rw [int8_bg _ (by rw [ba_extract, List.length_take, List.length_drop, ba_len]; omega), ba_rest, ba_extract]
    simp
theorem kRun_one (l : List UInt8) : ∀ (out : List UInt8) (m : Bool) (p : Nat) (t : List UInt8) (q : Nat), kRun l out m p = (t, q, 0) →
    p < q ∧ ∃ t', t = out ++ t' ∧ (if m then 0 :: l.take (q - p) else l.take (q - p)) = key t' := by
  induction l with
  | nil => intro out m p t q h; simp [kRun] at h
  | cons c l ih =>
    intro out m p t q h
    cases m with
    | false =>
      rw [kRun] at h
      by_cases hc : c = 0
      · rw [if_pos hc] at h
        obtain ⟨hq, t', ht, hk⟩ := ih _ _ _ _ _ h
        refine ⟨by omega, t', ht, ?_⟩
        obtain ⟨d, hd⟩ : ∃ d, q - p = d + 1 := ⟨q - p - 1, by omega⟩
        rw [show q - (p + 1) = d by omega] at hk
        rw [hd, hc]
        simpa using hk
      · rw [if_neg hc] at h
        obtain ⟨hq, t', ht, hk⟩ := ih _ _ _ _ _ h
        refine ⟨by omega, c :: t', by rw [ht, List.append_assoc]; rfl, ?_⟩
        obtain ⟨d, hd⟩ : ∃ d, q - p = d + 1 := ⟨q - p - 1, by omega⟩
        rw [show q - (p + 1) = d by omega] at hk
        rw [hd]
        have e : key (c :: t') = c :: key t' := by simp [key, esc, hc]
        rw [e, ← hk]
        simp
    | true =>
      rw [kRun] at h
      by_cases hc : c = 255
      · rw [if_pos hc] at h
        obtain ⟨hq, t', ht, hk⟩ := ih _ _ _ _ _ h
        refine ⟨by omega, 0 :: t', by rw [ht, List.append_assoc]; rfl, ?_⟩
        obtain ⟨d, hd⟩ : ∃ d, q - p = d + 1 := ⟨q - p - 1, by omega⟩
        rw [show q - (p + 1) = d by omega] at hk
        rw [hd, hc]
        have e : key (0 :: t') = 0 :: 255 :: key t' := by simp [key, esc]
        rw [e, ← hk]
        simp
      · rw [if_neg hc] at h
        by_cases h1 : c = 1
        · rw [if_pos h1] at h
          simp only [Prod.mk.injEq, and_true] at h
          obtain ⟨rfl, rfl⟩ := h
          refine ⟨by omega, [], by simp, ?_⟩
          rw [show p + 1 - p = 1 by omega, h1]
          rfl
        · rw [if_neg h1] at h
          simp at h
theorem rKey_one (s : ByteArray) (h : (rKey s).2.2 = 0) : (⟨(key (rKey s).1.data.toList).toArray⟩ : ByteArray) ++ (rKey s).2.1 = s ∧ (key (rKey s).1.data.toList).length ≤ s.size := by
  obtain ⟨t, q, x, hk⟩ : ∃ t q x, kRun s.data.toList [] false 0 = (t, q, x) := ⟨_, _, _, rfl⟩
  have hx : x = 0 := by unfold rKey at h; rw [hk] at h; exact h
  subst hx
  rw [rKey_ok hk]
  obtain ⟨_, t', ht0, ht⟩ := kRun_one _ _ _ _ _ _ hk
  rw [List.nil_append] at ht0
  subst ht0
  simp only [Bool.false_eq_true, if_false, Nat.sub_zero] at ht ⊢
  constructor
  · apply ba_ext
    rw [ba_app, ba_rest]
    show key t ++ _ = _
    rw [← ht, List.take_append_drop]
  · show (key t).length ≤ _
    rw [← ht, List.length_take, ba_len]; omega
theorem kRun_err (l : List UInt8) : ∀ (out : List UInt8) (m : Bool) (p : Nat), (kRun l out m p).2.2 ≠ 0 → (kRun l out m p).1 = [] := by
  induction l with
  | nil => intro out m p _; rfl
  | cons c l ih =>
    intro out m p h
    cases m with
    | false =>
      rw [kRun] at h ⊢
      by_cases hc : c = 0
      · rw [if_pos hc] at h ⊢; exact ih _ _ _ h
      · rw [if_neg hc] at h ⊢; exact ih _ _ _ h
    | true =>
      rw [kRun] at h ⊢
      by_cases hc : c = 255
      · rw [if_pos hc] at h ⊢; exact ih _ _ _ h
      · rw [if_neg hc] at h ⊢
        by_cases h1 : c = 1
        · rw [if_pos h1] at h; simp at h
        · rw [if_neg h1]
theorem rKey_len (s : ByteArray) (hm : s.size ≤ 150000000000000) : (key (rKey s).1.data.toList).length ≤ 200000000000000 := by
  by_cases h : (rKey s).2.2 = 0
  · have := (rKey_one s h).2
    omega
  · have e : (rKey s).1.data.toList = [] := kRun_err _ _ _ _ h
    rw [e]; decide
theorem rInt_facts (s : ByteArray) : -9223372036854775808 ≤ (rInt s).1 ∧ (rInt s).1 < 9223372036854775808 := by
  by_cases h8 : s.size < 8
  · rw [show rInt s = (0, ⟨#[]⟩, 20) by unfold rInt; rw [if_pos h8]]
    simp
  · rw [show rInt s = ((bg (s.extract 0 8).data.toList : Int) - 9223372036854775808, s.extract 8 s.size, 0) by unfold rInt; rw [if_neg h8]]
    have := bg64 (s.extract 0 8) (by simp; omega)
    simp only
    omega
end Go.Proofs.YtgghcfmpfneehaaGreatDoor
