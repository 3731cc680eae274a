/- Plain mathematics of there and back: what Num, Int, Text, Key and Frame write is read, whatever stands behind it. -/
import Derived.Test.YtgghcfmpfneehaaGreatDoorOne
namespace Go.Proofs.YtgghcfmpfneehaaGreatDoor
theorem get_zero {s : ByteArray} {c : UInt8} {l : List UInt8} (h : s.data.toList = c :: l) : ∃ h0 : 0 < s.size, s[0] = c := by
  have h0 : 0 < s.size := by rw [← ba_len, h]; simp
  refine ⟨h0, ?_⟩
  have e := drop_cons s 0 h0
  rw [List.drop_zero, h] at e
  exact (List.cons.inj e).1.symm
theorem get_one {s : ByteArray} {c d : UInt8} {l : List UInt8} (h : s.data.toList = c :: d :: l) : ∃ h1 : 1 < s.size, s[1] = d := by
  have h1 : 1 < s.size := by rw [← ba_len, h]; simp
  refine ⟨h1, ?_⟩
  have e := drop_cons s 1 h1
  rw [h, List.drop_succ_cons, List.drop_zero] at e
  exact (List.cons.inj e).1.symm
theorem nb_top {n : Nat} (hn : n < 2 ^ 64) (k : Nat) (hk : nb n = k + 1) : 0 < (hb n k).toNat := by
  have h8 := nb8 n hn
  have h1 := mt (nb_le n k hn (by omega)).2 (by omega)
  have h2 := (nb_le n (k + 1) hn (by omega)).1 (by omega)
  rw [hb_toNat, ← show 2 ^ (8 * k) = 256 ^ k by rw [Nat.pow_mul]]
  have h3 : 0 < n / 2 ^ (8 * k) := Nat.div_pos (by omega) (Nat.pow_pos (by omega))
  have h4 : n / 2 ^ (8 * k) < 256 := by
    rw [Nat.div_lt_iff_lt_mul (Nat.pow_pos (by omega))]
    rw [show 8 * (k + 1) = 8 + 8 * k by omega, Nat.pow_add] at h2
    exact h2
  rw [Nat.mod_eq_of_lt h4]; exact h3
theorem rNum_back (n : Nat) (hn : n < 2 ^ 64) (r : ByteArray) : rNum (⟨(num n).toArray⟩ ++ r) = (n, r, 0) := by
  obtain ⟨s, hs⟩ : ∃ s, s = (⟨(num n).toArray⟩ : ByteArray) ++ r := ⟨_, rfl⟩
  have hl : s.data.toList = UInt8.ofNat (nb n) :: (hf n (nb n) ++ r.data.toList) := by
    rw [hs, ba_app]; rfl
  rw [← hs]
  have h8 := nb8 n hn
  obtain ⟨h0, e0⟩ := get_zero hl
  have en : (s[0]).toNat = nb n := by rw [e0, UInt8.toNat_ofNat']; omega
  have hsz : s.size = 1 + nb n + r.size := by
    rw [← ba_len, hl, List.length_cons, List.length_append, hf_len, ba_len]; omega
  have x1 : (s.extract 1 (1 + nb n)).data.toList = hf n (nb n) := by
    rw [ba_extract, hl, List.drop_succ_cons, List.drop_zero, Nat.add_sub_cancel_left, List.take_append_of_le_length (by rw [hf_len]; omega), List.take_of_length_le (by rw [hf_len]; omega)]
  have x2 : s.extract (1 + nb n) s.size = r := by
    apply ba_ext
    rw [ba_rest, hl, show 1 + nb n = nb n + 1 by omega, List.drop_succ_cons, List.drop_append_of_le_length (by rw [hf_len]; omega), List.drop_of_length_le (by rw [hf_len]; omega), List.nil_append]
  have hbn : bg (hf n (nb n)) = n := by
    rw [bg_hf]
    apply Nat.mod_eq_of_lt
    rw [← show 2 ^ (8 * nb n) = 256 ^ nb n by rw [Nat.pow_mul]]
    exact (nb_le n (nb n) hn h8).1 (Nat.le_refl _)
  have hfin : (bg (s.extract 1 (1 + (s[0]).toNat)).data.toList, s.extract (1 + (s[0]).toNat) s.size, (0 : Int)) = (n, r, 0) := by
    rw [en, x1, x2, hbn]
  rcases rNum_cases s with ⟨h0', e⟩ | ⟨_, h8', e⟩ | ⟨_, h8', hs', e⟩ | ⟨h1, _, _, hp, hz, e⟩ | ⟨h1, _, _, hp, hz, e⟩ | ⟨_, hp, e⟩
  · omega
  · omega
  · omega
  · exfalso
    obtain ⟨k, hk⟩ : ∃ k, nb n = k + 1 := ⟨nb n - 1, by omega⟩
    have ht := nb_top hn k hk
    rw [hk, hf] at hl
    obtain ⟨_, e1⟩ := get_one hl
    rw [e1] at hz
    omega
  · rw [e]; exact hfin
  · rw [e]; exact hfin
theorem rInt_back (i : Int) (h0 : -9223372036854775808 ≤ i) (h1 : i < 9223372036854775808) (r : ByteArray) : rInt (⟨(int8 i).toArray⟩ ++ r) = (i, r, 0) := by
  obtain ⟨s, hs⟩ : ∃ s, s = (⟨(int8 i).toArray⟩ : ByteArray) ++ r := ⟨_, rfl⟩
  have hl : s.data.toList = int8 i ++ r.data.toList := by rw [hs, ba_app]
  rw [← hs]
  have h8 : (int8 i).length = 8 := hf_len _ _
  have hsz : s.size = 8 + r.size := by rw [← ba_len, hl, List.length_append, h8, ba_len]
  unfold rInt
  rw [if_neg (by omega)]
  have x1 : (s.extract 0 8).data.toList = int8 i := by
    rw [ba_extract, hl, List.drop_zero, List.take_append_of_le_length (by omega), List.take_of_length_le (by omega)]
  have x2 : s.extract 8 s.size = r := by
    apply ba_ext
    rw [ba_rest, hl, List.drop_append_of_le_length (by omega), List.drop_of_length_le (by omega), List.nil_append]
  have hbn : bg (int8 i) = (i + 9223372036854775808).toNat := by
    unfold int8
    rw [bg_hf]
    exact Nat.mod_eq_of_lt (by omega)
  rw [x1, x2, hbn]
  congr 1
  omega
theorem kRun_back (t : List UInt8) : ∀ (out r : List UInt8) (p : Nat), kRun (key t ++ r) out false p = (out ++ t, p + (key t).length, 0) := by
  induction t with
  | nil => intro out r p; simp [key, esc, kRun]
  | cons c t ih =>
    intro out r p
    by_cases hc : c = 0
    · have e : key (c :: t) = 0 :: 255 :: key t := by rw [hc]; simp [key, esc]
      rw [e, List.cons_append, List.cons_append, kRun, if_pos rfl, kRun, if_pos rfl, ih, hc]
      simp; omega
    · have e : key (c :: t) = c :: key t := by simp [key, esc, hc]
      rw [e, List.cons_append, kRun, if_neg hc, ih]
      simp; omega
theorem rKey_back (t r : ByteArray) : rKey (⟨(key t.data.toList).toArray⟩ ++ r) = (t, r, 0) := by
  have hl : ((⟨(key t.data.toList).toArray⟩ : ByteArray) ++ r).data.toList = key t.data.toList ++ r.data.toList := by rw [ba_app]
  have h := kRun_back t.data.toList [] r.data.toList 0
  rw [← hl, List.nil_append, Nat.zero_add] at h
  rw [rKey_ok h]
  have x2 : ((⟨(key t.data.toList).toArray⟩ : ByteArray) ++ r).extract (key t.data.toList).length ((⟨(key t.data.toList).toArray⟩ : ByteArray) ++ r).size = r := by
    apply ba_ext
    rw [ba_rest, hl, List.drop_append_of_le_length (by omega), List.drop_of_length_le (by omega), List.nil_append]
  rw [x2]
end Go.Proofs.YtgghcfmpfneehaaGreatDoor
