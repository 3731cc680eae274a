/- Numbers and texts there and back; Text and ReadText of both. -/
import Derived.Test.YtgofdkheffoilaaGreatCdb
namespace Go.Proofs.YtgofdkheffoilaaGreat
open Go.RowKit
theorem drop_cons (s : ByteArray) (k : Nat) (h : k < s.size) : s.data.toList.drop k = s[k] :: s.data.toList.drop (k + 1) := by
  rw [List.drop_eq_getElem_cons (by simpa using h)]; rfl
theorem low63 (b : Nat) (h : b < 18446744073709551616) : IntKind.i64.wrap (IntKind.u64.wrap ((b : Int) - 9223372036854775808)) = (b : Int) - 9223372036854775808 := by
  rw [IntKind.wrap_u64, IntKind.wrap_i64]; omega
theorem bg64 (s : ByteArray) (h : s.size ≤ 8) : bg s.data.toList < 18446744073709551616 := by
  have h1 := bg_lt s.data.toList
  have h2 : 256 ^ s.data.toList.length ≤ 256 ^ 8 := Nat.pow_le_pow_right (by omega) (by simpa using h)
  omega
theorem int_end (s : ByteArray) (b : Nat) (h : b < 18446744073709551616) (w w' : World) (hb : Bel w w') :
    Ending.returned (.tuple #[.int .i64 (IntKind.i64.wrap (IntKind.u64.wrap ((b : Int) - 9223372036854775808))), .string (s.extract 8 s.size), .int .i64 0]) = Ending.returned (.tuple #[.int .i64 ((b : Int) - 9223372036854775808), .string (s.extract 8 s.size), .int .i64 0]) ∧ Bel w w' := by
  rw [low63 b h]; exact ⟨rfl, hb⟩
theorem rNum_facts (s : ByteArray) : (rNum s).1 < 18446744073709551616 ∧ (rNum s).2.1.size ≤ s.size := by
  rcases rNum_cases s with ⟨h0, e⟩ | ⟨h0, h8, e⟩ | ⟨h0, h8, hs, e⟩ | ⟨h1, h8, hs, hp, hz, e⟩ | ⟨h1, h8, hs, hp, hz, e⟩ | ⟨h0, hp, e⟩
  all_goals rw [e]
  · exact ⟨by decide, Nat.zero_le _⟩
  · exact ⟨by decide, Nat.zero_le _⟩
  · exact ⟨by decide, Nat.zero_le _⟩
  · exact ⟨by decide, Nat.zero_le _⟩
  · exact ⟨bg64 _ (by simp; omega), by simp⟩
  · exact ⟨bg64 _ (by simp; omega), by simp⟩
theorem hb_toNat (x k : Nat) : (hb x k).toNat = x / 256 ^ k % 256 := by
  unfold hb; rw [UInt8.toNat_ofNat', Nat.pow_mul]
theorem bg_go (l : List UInt8) (a : Nat) : l.foldl (fun a c => a * 256 + c.toNat) a = a * 256 ^ l.length + bg l := by
  unfold bg
  induction l generalizing a with
  | nil => simp
  | cons c l ih =>
    rw [List.foldl_cons, List.foldl_cons, ih, ih (0 * 256 + c.toNat), List.length_cons, Nat.pow_succ]
    have e : (a * 256 + c.toNat) * 256 ^ l.length = a * (256 ^ l.length * 256) + c.toNat * 256 ^ l.length := by
      rw [Nat.add_mul, Nat.mul_assoc, Nat.mul_comm 256]
    rw [e, Nat.zero_mul, Nat.zero_add]; omega
theorem bg_cons (c : UInt8) (l : List UInt8) : bg (c :: l) = c.toNat * 256 ^ l.length + bg l := by
  have h := bg_go l c.toNat
  unfold bg at h ⊢
  rw [List.foldl_cons, Nat.zero_mul, Nat.zero_add]; exact h
theorem bg_hf (x n : Nat) : bg (hf x n) = x % 256 ^ n := by
  induction n with
  | zero => simp [hf, bg, Nat.mod_one]
  | succ n ih =>
    rw [hf, bg_cons, ih, hf_len, hb_toNat, Nat.pow_succ, Nat.mod_mul]
    rw [Nat.mul_comm]; omega
theorem hf_mod (x y n : Nat) (h : x % 256 ^ n = y % 256 ^ n) : hf x n = hf y n := by
  induction n with
  | zero => rfl
  | succ n ih =>
    rw [Nat.pow_succ] at h
    have h1 : x % 256 ^ n = y % 256 ^ n := by
      have := congrArg (· % 256 ^ n) h
      simpa [Nat.mod_mul_right_mod] using this
    have h2 : x / 256 ^ n % 256 = y / 256 ^ n % 256 := by
      have := congrArg (· / 256 ^ n) h
      simpa [Nat.mod_mul_right_div_self] using this
    rw [hf, hf, ih h1]
    congr 1
    apply UInt8.toNat_inj.1
    rw [hb_toNat, hb_toNat, h2]
theorem hf_bg (l : List UInt8) : hf (bg l) l.length = l := by
  induction l with
  | nil => rfl
  | cons c l ih =>
    have hb := bg_lt l
    rw [List.length_cons, hf, bg_cons]
    congr 1
    · apply UInt8.toNat_inj.1
      rw [hb_toNat, Nat.mul_comm, Nat.mul_add_div (Nat.pow_pos (by omega)), Nat.div_eq_of_lt hb, Nat.add_zero]
      exact Nat.mod_eq_of_lt c.toNat_lt
    · rw [hf_mod _ (bg l) _ (by rw [Nat.mul_comm, Nat.mul_add_mod]), ih]
theorem hf_eq_iff (c : Nat) (l : List UInt8) (hc : c < 256 ^ l.length) : hf c l.length = l ↔ bg l = c := by
  constructor
  · intro h
    have := bg_hf c l.length
    rw [h, Nat.mod_eq_of_lt hc] at this
    exact this
  · rintro rfl; exact hf_bg l
theorem ba_ext {a b : ByteArray} (h : a.data.toList = b.data.toList) : a = b := by
  apply ByteArray.ext
  exact Array.toList_inj.1 h
theorem ba_app (a b : ByteArray) : (a ++ b).data.toList = a.data.toList ++ b.data.toList := by
  rw [ByteArray.data_append, Array.toList_append]
theorem ba_extract (s : ByteArray) (a b : Nat) : (s.extract a b).data.toList = (s.data.toList.drop a).take (b - a) := by
  simp [ByteArray.data_extract]
theorem ba_len (s : ByteArray) : s.data.toList.length = s.size := rfl
theorem ba_rest (s : ByteArray) (a : Nat) : (s.extract a s.size).data.toList = s.data.toList.drop a := by
  rw [ba_extract, List.take_of_length_le (by rw [List.length_drop, ba_len]; omega)]
theorem nb_eq {x n : Nat} (hx : x < 2 ^ 64) (hn : n ≤ 8) (h1 : x < 2 ^ (8 * n)) (h2 : n = 0 ∨ 2 ^ (8 * (n - 1)) ≤ x) : nb x = n := by
  have a1 := (nb_le x n hx hn).2 h1
  rcases h2 with rfl | h2
  · omega
  · by_cases hz : n = 0
    · omega
    · have a2 := mt (nb_le x (n - 1) hx (by omega)).1 (by omega)
      omega
theorem num_bg (l : List UInt8) (hl : l.length ≤ 8) (h : l = [] ∨ ∃ c r, l = c :: r ∧ 0 < c.toNat) : num (bg l) = UInt8.ofNat l.length :: l := by
  have hb := bg_lt l
  have h8 : 256 ^ l.length ≤ 256 ^ 8 := Nat.pow_le_pow_right (by omega) hl
  have e : nb (bg l) = l.length := by
    refine nb_eq (by omega) hl (by rw [Nat.pow_mul]; exact hb) ?_
    rcases h with rfl | ⟨c, r, rfl, hc⟩
    · left; rfl
    · right
      rw [bg_cons, List.length_cons, Nat.add_sub_cancel, Nat.pow_mul]
      have : 1 * 256 ^ r.length ≤ c.toNat * 256 ^ r.length := Nat.mul_le_mul_right _ hc
      show 256 ^ r.length ≤ _
      omega
  unfold num
  rw [e, hf_bg]
theorem one_num_list (s : ByteArray) (h0 : 0 < s.size) (n : Nat) (hn : (s[0]).toNat = n) :
    s.data.toList = UInt8.ofNat n :: ((s.extract 1 (1 + n)).data.toList ++ (s.extract (1 + n) s.size).data.toList) := by
  rw [ba_extract, ba_rest, Nat.add_sub_cancel_left]
  have e : s.data.toList = s[0] :: s.data.toList.drop 1 := by
    have := drop_cons s 0 h0
    simpa using this
  have e2 : s[0] = UInt8.ofNat n := by
    apply UInt8.toNat_inj.1
    rw [UInt8.toNat_ofNat', hn]
    have := (s[0]).toNat_lt
    omega
  conv => lhs; rw [e, e2]
  congr 1
  rw [show 1 + n = 1 + n from rfl, ← List.drop_drop, List.take_append_drop]
theorem ext_len (s : ByteArray) (n : Nat) (hs : 1 + n ≤ s.size) : (s.extract 1 (1 + n)).data.toList.length = n := by
  rw [ba_extract, List.length_take, List.length_drop, ba_len]; omega
theorem rNum_one (s : ByteArray) (h : (rNum s).2.2 = 0) : (⟨(num (rNum s).1).toArray⟩ : ByteArray) ++ (rNum s).2.1 = s := by
  apply ba_ext
  rw [ba_app]
  rcases rNum_cases s with ⟨h0, e⟩ | ⟨h0, h8, e⟩ | ⟨h0, h8, hs, e⟩ | ⟨h1, h8, hs, hp, hz, e⟩ | ⟨h1, h8, hs, hp, hz, e⟩ | ⟨h0, hp, e⟩
  · rw [e] at h; simp at h
  · rw [e] at h; simp at h
  · rw [e] at h; simp at h
  · rw [e] at h; simp at h
  · rw [e]
    show num _ ++ _ = _
    have hl := ext_len s _ hs
    rw [num_bg _ (by rw [hl]; exact h8) (Or.inr ?_), hl, one_num_list s (by omega) _ rfl]
    · rfl
    · refine ⟨s[1], ((s.data.toList.drop 2).take ((s[0]'(by omega)).toNat - 1)), ?_, hz⟩
      rw [ba_extract, Nat.add_sub_cancel_left, drop_cons s 1 h1]
      obtain ⟨m, hm⟩ : ∃ m, (s[0]'(by omega)).toNat = m + 1 := ⟨_, (Nat.succ_pred_eq_of_pos hp).symm⟩
      rw [hm]; rfl
  · rw [e]
    show num _ ++ _ = _
    have hs : 1 + (s[0]).toNat ≤ s.size := by omega
    have hl := ext_len s _ hs
    rw [num_bg _ (by rw [hl]; omega) (Or.inl (List.eq_nil_of_length_eq_zero (by rw [hl, hp]))), hl, one_num_list s h0 _ rfl]
    rfl
theorem get_zero {s : ByteArray} {c : UInt8} {l : List UInt8} (h : s.data.toList = c :: l) : ∃ h0 : 0 < s.size, s[0] = c := by
  have h0 : 0 < s.size := by rw [← ba_len, h]; simp
  refine ⟨h0, ?_⟩
  have e := drop_cons s 0 h0
  rw [List.drop_zero, h] at e
  exact (List.cons.inj e).1.symm
theorem get_one {s : ByteArray} {c d : UInt8} {l : List UInt8} (h : s.data.toList = c :: d :: l) : ∃ h1 : 1 < s.size, s[1] = d := by
  have h1 : 1 < s.size := by rw [← ba_len, h]; simp
  refine ⟨h1, ?_⟩
  have e := drop_cons s 1 h1
  rw [h, List.drop_succ_cons, List.drop_zero] at e
  exact (List.cons.inj e).1.symm
theorem nb_top {n : Nat} (hn : n < 2 ^ 64) (k : Nat) (hk : nb n = k + 1) : 0 < (hb n k).toNat := by
  have h8 := nb8 n hn
  have h1 := mt (nb_le n k hn (by omega)).2 (by omega)
  have h2 := (nb_le n (k + 1) hn (by omega)).1 (by omega)
  rw [hb_toNat, ← show 2 ^ (8 * k) = 256 ^ k by rw [Nat.pow_mul]]
  have h3 : 0 < n / 2 ^ (8 * k) := Nat.div_pos (by omega) (Nat.pow_pos (by omega))
  have h4 : n / 2 ^ (8 * k) < 256 := by
    rw [Nat.div_lt_iff_lt_mul (Nat.pow_pos (by omega))]
    rw [show 8 * (k + 1) = 8 + 8 * k by omega, Nat.pow_add] at h2
    exact h2
  rw [Nat.mod_eq_of_lt h4]; exact h3
theorem rNum_back (n : Nat) (hn : n < 2 ^ 64) (r : ByteArray) : rNum (⟨(num n).toArray⟩ ++ r) = (n, r, 0) := by
  obtain ⟨s, hs⟩ : ∃ s, s = (⟨(num n).toArray⟩ : ByteArray) ++ r := ⟨_, rfl⟩
  have hl : s.data.toList = UInt8.ofNat (nb n) :: (hf n (nb n) ++ r.data.toList) := by
    rw [hs, ba_app]; rfl
  rw [← hs]
  have h8 := nb8 n hn
  obtain ⟨h0, e0⟩ := get_zero hl
  have en : (s[0]).toNat = nb n := by rw [e0, UInt8.toNat_ofNat']; omega
  have hsz : s.size = 1 + nb n + r.size := by
    rw [← ba_len, hl, List.length_cons, List.length_append, hf_len, ba_len]; omega
  have x1 : (s.extract 1 (1 + nb n)).data.toList = hf n (nb n) := by
    rw [ba_extract, hl, List.drop_succ_cons, List.drop_zero, Nat.add_sub_cancel_left, List.take_append_of_le_length (by rw [hf_len]; omega), List.take_of_length_le (by rw [hf_len]; omega)]
  have x2 : s.extract (1 + nb n) s.size = r := by
    apply ba_ext
    rw [ba_rest, hl, show 1 + nb n = nb n + 1 by omega, List.drop_succ_cons, List.drop_append_of_le_length (by rw [hf_len]; omega), List.drop_of_length_le (by rw [hf_len]; omega), List.nil_append]
  have hbn : bg (hf n (nb n)) = n := by
    rw [bg_hf]
    apply Nat.mod_eq_of_lt
    rw [← show 2 ^ (8 * nb n) = 256 ^ nb n by rw [Nat.pow_mul]]
    exact (nb_le n (nb n) hn h8).1 (Nat.le_refl _)
  have hfin : (bg (s.extract 1 (1 + (s[0]).toNat)).data.toList, s.extract (1 + (s[0]).toNat) s.size, (0 : Int)) = (n, r, 0) := by
    rw [en, x1, x2, hbn]
  rcases rNum_cases s with ⟨h0', e⟩ | ⟨_, h8', e⟩ | ⟨_, h8', hs', e⟩ | ⟨h1, _, _, hp, hz, e⟩ | ⟨h1, _, _, hp, hz, e⟩ | ⟨_, hp, e⟩
  · omega
  · omega
  · omega
  · exfalso
    obtain ⟨k, hk⟩ : ∃ k, nb n = k + 1 := ⟨nb n - 1, by omega⟩
    have ht := nb_top hn k hk
    rw [hk, hf] at hl
    obtain ⟨_, e1⟩ := get_one hl
    rw [e1] at hz
    omega
  · rw [e]; exact hfin
  · rw [e]; exact hfin
def ctx (s : ByteArray) : ByteArray := ⟨(num s.size).toArray⟩ ++ s
theorem ctext_any (s : ByteArray) (hs : s.size ≤ 150000000000000) (w : World) :
    Calls Tryz.prog 25 #[.string s] w fun e w' => e = .returned (.string (ctx s)) ∧ Bel w w' := by
  have hq : ¬ (9223372036854775807 < (num s.size).length + s.size) := by have := num_len s.size (by omega); omega
  go_enter Tryz.func25, Tryz.ntmps25
  go_wp2_with fail
  refine (num_any s.size (by omega) _).mono ?_
  rintro e w' ⟨rfl, hb⟩
  go_wp2_with fail
  go_ret
  exact ⟨rfl, hb⟩
def rText (s : ByteArray) : ByteArray × ByteArray × Int :=
  if (rNum s).2.2 ≠ 0 then (⟨#[]⟩, ⟨#[]⟩, (rNum s).2.2) else if (rNum s).2.1.size < (rNum s).1 then (⟨#[]⟩, ⟨#[]⟩, 20)
  else ((rNum s).2.1.extract 0 (rNum s).1, (rNum s).2.1.extract (rNum s).1 (rNum s).2.1.size, 0)
set_option maxRecDepth 100000 in
theorem creadText_any (s : ByteArray) (hm : s.size ≤ 150000000000000) (w : World) :
    Calls Tryz.prog 114 #[.string s] w fun e w' => e = .returned (.tuple #[.string (rText s).1, .string (rText s).2.1, .int .i64 (rText s).2.2]) ∧ Bel w w' := by
  have c20 := fun W => readNum_any s hm W
  have hf := rNum_facts s
  unfold rText
  generalize rNum s = r at *
  obtain ⟨n, body, x⟩ := r
  simp only at c20 hf ⊢
  have hbm : body.size ≤ 150000000000000 := by omega
  have C20 := hide c20
  have Hf := hide hf.1
  clear c20 hf
  by_cases hx : x = 0
  · subst hx
    by_cases hn : body.size < n
    · rw [if_neg (by simp), if_pos hn]
      go_enter Tryz.func114, Tryz.ntmps114
      go_wp2_with (go_at_call 112; refine (C20.out _).mono ?_; rintro e w'' ⟨rfl, hb⟩)
      go_ret3
      exact ⟨rfl, hb⟩
    · rw [if_neg (by simp), if_neg hn]
      have hnl : (n : Int) ≤ (body.size : Int) := by omega
      have f1 : (0 : Int) ≤ (n : Int) := by omega
      go_enter Tryz.func114, Tryz.ntmps114
      go_wp2_with (go_at_call 112; refine (C20.out _).mono ?_; rintro e w'' ⟨rfl, hb⟩)
      go_region_held3 (fun _ => True) (trivial) (fail)
      all_goals
        go_wp2
        go_ret3
        exact ⟨rfl, hb.drew⟩
  · rw [if_pos (by simpa using hx)]
    have hxx : (x != 0) = true := by rw [bne_iff_ne]; exact hx
    clear hx
    go_enter Tryz.func114, Tryz.ntmps114
    go_wp2_with (go_at_call 112; refine (C20.out _).mono ?_; rintro e w'' ⟨rfl, hb⟩)
    go_ret3
    exact ⟨rfl, hb⟩
set_option maxRecDepth 100000 in
theorem crefReadText_any (s : ByteArray) (hm : s.size ≤ 150000000000000) (w : World) :
    Calls Tryz.prog 71 #[.string s] w fun e w' => e = .returned (.tuple #[.string (rText s).1, .string (rText s).2.1, .int .i64 (rText s).2.2]) ∧ Bel w w' := by
  have c20 := fun W => refReadNum_any s hm W
  have hf := rNum_facts s
  unfold rText
  generalize rNum s = r at *
  obtain ⟨n, body, x⟩ := r
  simp only at c20 hf ⊢
  have hbm : body.size ≤ 150000000000000 := by omega
  have C20 := hide c20
  have Hf := hide hf.1
  clear c20 hf
  by_cases hx : x = 0
  · subst hx
    by_cases hn : body.size < n
    · rw [if_neg (by simp), if_pos hn]
      go_enter Tryz.func71, Tryz.ntmps71
      go_wp2_with (go_at_call 70; refine (C20.out _).mono ?_; rintro e w'' ⟨rfl, hb⟩)
      go_ret3
      exact ⟨rfl, hb⟩
    · rw [if_neg (by simp), if_neg hn]
      have hnl : (n : Int) ≤ (body.size : Int) := by omega
      have f1 : (0 : Int) ≤ (n : Int) := by omega
      go_enter Tryz.func71, Tryz.ntmps71
      go_wp2_with (go_at_call 70; refine (C20.out _).mono ?_; rintro e w'' ⟨rfl, hb⟩)
      go_region_held3 (fun _ => True) (trivial) (fail)
      all_goals
        go_wp2
        go_ret3
        exact ⟨rfl, hb.drew⟩
  · rw [if_pos (by simpa using hx)]
    have hxx : (x != 0) = true := by rw [bne_iff_ne]; exact hx
    clear hx
    go_enter Tryz.func71, Tryz.ntmps71
    go_wp2_with (go_at_call 70; refine (C20.out _).mono ?_; rintro e w'' ⟨rfl, hb⟩)
    go_ret3
    exact ⟨rfl, hb⟩
theorem rText_back (t r : ByteArray) (ht : t.size < 2 ^ 64) : rText (ctx t ++ r) = (t, r, 0) := by
  have e : rNum (ctx t ++ r) = (t.size, t ++ r, 0) := by
    unfold ctx
    rw [ByteArray.append_assoc]
    exact rNum_back _ ht _
  unfold rText
  rw [e]
  simp only
  rw [if_neg (by simp), if_neg (by rw [ByteArray.size_append]; omega)]
  have x1 : (t ++ r).extract 0 t.size = t := by
    apply ba_ext
    rw [ba_extract, ba_app, List.drop_zero, List.take_append_of_le_length (by rw [ba_len]; omega), List.take_of_length_le (by rw [ba_len]; omega)]
  have x2 : (t ++ r).extract t.size (t ++ r).size = r := by
    apply ba_ext
    rw [ba_rest, ba_app, List.drop_append_of_le_length (by rw [ba_len]; omega), List.drop_of_length_le (by rw [ba_len]; omega), List.nil_append]
  rw [x1, x2]
theorem rText_one (s : ByteArray) (h : (rText s).2.2 = 0) : ctx (rText s).1 ++ (rText s).2.1 = s ∧ (rText s).1.size ≤ s.size := by
  have hf := rNum_facts s
  have h1 := rNum_one s
  unfold rText at h ⊢
  generalize rNum s = r at *
  obtain ⟨n, body, x⟩ := r
  simp only at h h1 hf ⊢
  by_cases hx : x = 0
  · subst hx
    rw [if_neg (by simp)] at h ⊢
    by_cases hn : body.size < n
    · rw [if_pos hn] at h; simp at h
    · rw [if_neg hn]
      simp only
      have hsz : (body.extract 0 n).size = n := by simp; omega
      refine ⟨?_, by rw [hsz]; omega⟩
      unfold ctx
      rw [hsz, ← h1 rfl]
      apply ba_ext
      rw [ba_app, ba_app, ba_app, ba_rest, ba_extract]
      simp
  · rw [if_pos (by simpa using hx)] at h
    exact absurd h hx
theorem rText_len (s : ByteArray) : (rText s).1.size ≤ s.size := by
  by_cases h : (rText s).2.2 = 0
  · exact (rText_one s h).2
  · have e : (rText s).1 = ⟨#[]⟩ := by
      unfold rText at h ⊢
      split
      · rfl
      · rename_i h1
        rw [if_neg h1] at h
        split
        · rfl
        · rename_i h2
          rw [if_neg h2] at h
          simp at h
    rw [e]; exact Nat.zero_le _
end Go.Proofs.YtgofdkheffoilaaGreat
