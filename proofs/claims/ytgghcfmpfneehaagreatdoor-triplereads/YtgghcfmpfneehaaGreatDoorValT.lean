/- What the document's integer returns; for every text. -/
import Derived.Test.YtgghcfmpfneehaaGreatDoorValS
namespace Go.Proofs.YtgghcfmpfneehaaGreatDoor
open Go.RowKit
/-- What is known of the answer of the document's integer. -/
def okI (l : List UInt8) (x : Int) (b : Bool) : Prop := -9223372036854775808 ≤ x ∧ x < 9223372036854775808 ∧ (b = true → Lib.itoa x = l) ∧ ∀ n : Int, -9223372036854775808 ≤ n → n < 9223372036854775808 → Lib.itoa n = l → x = n ∧ b = true
/-- An answer of the document's integer. -/
def intR (l : List UInt8) (w : World) (e : Ending) (w' : World) : Prop := ∃ x b, e = .returned (.tuple #[.int .i64 x, .bool b]) ∧ Bel w w' ∧ okI l x b
theorem okI_none {l : List UInt8} (h : ∀ n : Int, -9223372036854775808 ≤ n → n < 9223372036854775808 → Lib.itoa n ≠ l) : okI l 0 false :=
  ⟨by omega, by omega, (fun h => by cases h), fun n h0 h1 h2 => absurd h2 (h n h0 h1)⟩
theorem dec_19 (u : Nat) (h : u ≤ 9223372036854775808) : 1 ≤ (Lib.decDigits u).length ∧ (Lib.decDigits u).length ≤ 19 := by
  refine ⟨by rw [Lib.decDigits_length]; exact Lib.nDigits_pos u, ?_⟩
  rw [Lib.decDigits_length]
  have hk : ∀ (k u : Nat), u < 10 ^ (k + 1) → Lib.nDigits u ≤ k + 1 := by
    intro k
    induction k with
    | zero => intro u h; rw [Lib.nDigits_small (by simpa using h)]; omega
    | succ k ih =>
      intro u h
      by_cases hu : u < 10
      · rw [Lib.nDigits_small hu]; omega
      · rw [Lib.nDigits_big hu]
        have := ih (u / 10) (by rw [Nat.pow_succ] at h; omega)
        omega
  exact hk 18 u (Nat.lt_of_le_of_lt h (by decide))
theorem itoa_neg {n : Int} {d : List UInt8} (h : Lib.itoa n = 45 :: d) : n < 0 ∧ d = Lib.decDigits n.natAbs := by
  unfold Lib.itoa at h
  split at h
  · injection h with _ h; exact ⟨by assumption, h.symm⟩
  · have := dec_digit n.toNat 45 (by rw [h]; simp)
    simp at this
theorem itoa_pos {n : Int} {l : List UInt8} (h : Lib.itoa n = l) (hn : ∀ d, l ≠ 45 :: d) : 0 ≤ n ∧ l = Lib.decDigits n.natAbs := by
  unfold Lib.itoa at h
  split at h
  · exact absurd h.symm (hn _)
  · refine ⟨by omega, ?_⟩
    rw [← h]; congr 1; omega
theorem decV_lt (l : List UInt8) (h : ∀ c ∈ l, 48 ≤ c.toNat ∧ c.toNat ≤ 57) : decV l < 10 ^ l.length := by
  have : ∀ (l : List UInt8) (a : Nat), (∀ c ∈ l, 48 ≤ c.toNat ∧ c.toNat ≤ 57) → l.foldl (fun a c => a * 10 + (c.toNat - 48)) a < (a + 1) * 10 ^ l.length := by
    intro l
    induction l with
    | nil => intro a _; simp
    | cons c l ih =>
      intro a hl
      have h1 := ih (a * 10 + (c.toNat - 48)) (fun x hx => hl x (by simp [hx]))
      have h2 := hl c (by simp)
      simp only [List.foldl, List.length_cons]
      refine Nat.lt_of_lt_of_le h1 ?_
      rw [Nat.pow_succ, Nat.mul_comm (10 ^ l.length) 10, ← Nat.mul_assoc]
      exact Nat.mul_le_mul_right _ (by omega)
  have := this l 0 h
  simpa [decV] using this
/-- The walk of integer behind the sign: neg, whether there was one; d, what is left. -/
theorem wrap_in (x : Int) : -9223372036854775808 ≤ IntKind.i64.wrap x ∧ IntKind.i64.wrap x < 9223372036854775808 := by
  rw [IntKind.wrap_i64]; omega
theorem get_zero' {s : ByteArray} {c : UInt8} {l : List UInt8} (h : s.data.toList = c :: l) : ∃ h0 : 0 < s.size, s[0] = c := by
  have hs : 0 < s.size := by rw [← ba_len, h]; simp
  refine ⟨hs, ?_⟩
  have e := drop_cons s 0 hs
  rw [List.drop_zero, h] at e
  injection e with e _
  exact e.symm
theorem take_next' (s : ByteArray) (k : Nat) (h : k < s.size) : s.data.toList.take (k + 1) = s.data.toList.take k ++ [s[k]] := take_snoc s k h
set_option maxHeartbeats 1000000 in
set_option maxRecDepth 100000 in
theorem integer_neg (s d : ByteArray) (h1 : 1 ≤ s.size) (h45 : s[0] = 45) (hd : s.extract 1 s.size = d) (hm : s.size ≤ 150000000000000) (w : World) :
    Calls Tryz.prog 69 #[.string s] w fun e w' => intR s.data.toList w e w' := by
  have hl : s.data.toList = 45 :: d.data.toList := by
    have e := drop_cons s 0 (by omega)
    rw [List.drop_zero, h45] at e
    rw [e, ← hd, ba_rest]
  have hsrc : ∀ n : Int, Lib.itoa n = s.data.toList → n < 0 ∧ d.data.toList = Lib.decDigits n.natAbs := fun n h => itoa_neg (by rw [h, hl])
  clear hl
  have g0 : (0 : Int) < (s.size : Int) := by omega
  have g1 : (1 : Int) ≤ (s.size : Int) := by omega
  have g2 : ((s[0]).toNat : Int) = 45 := byte_eq (n := 45) (by omega) h45
  have hlen : ∀ n : Int, -9223372036854775808 ≤ n → n < 9223372036854775808 → Lib.itoa n = s.data.toList → 1 ≤ d.size ∧ d.size ≤ 19 := fun n h0 h1 h => by
    have e := (hsrc n h).2
    have := dec_19 n.natAbs (by omega)
    rw [← e, ba_len] at this
    exact this
  by_cases he : d.size = 0
  · have HN := hide (okI_none (l := s.data.toList) (fun n h0 h1 h => by have := hlen n h0 h1 h; omega))
    have hb0 : d = ⟨#[]⟩ := ba_nil he
    clear hsrc hlen
    subst hb0
    go_enter Tryz.func69, Tryz.ntmps69
    go_wp2_with fail
    go_ret2
    exact ⟨0, false, rfl, Bel.refl _, HN.out⟩
  have hne : d.toList.isEmpty = false := ba_nil_ne he
  by_cases h19 : 19 < d.size
  · have HN := hide (okI_none (l := s.data.toList) (fun n h0 h1 h => by have := hlen n h0 h1 h; omega))
    have i19 : (19 : Int) < (d.size : Int) := by omega
    clear hsrc hlen
    go_enter Tryz.func69, Tryz.ntmps69
    go_wp2_with fail
    go_ret2
    exact ⟨0, false, rfl, Bel.refl _, HN.out⟩
  have i19 : (d.size : Int) ≤ 19 := by omega
  have HS := hide hsrc
  have HL := hide hlen
  clear hsrc hlen
  go_enter Tryz.func69, Tryz.ntmps69
  go_wp2_with fail
  go_loop [6, 7] (fun vx vi => ∃ (x i : Nat), vx = .int .u64 x ∧ vi = .int .i64 i ∧ i ≤ d.size ∧ Hid (x < 10 ^ i ∧ x = decV (d.data.toList.take i) ∧ ∀ c ∈ d.data.toList.take i, 48 ≤ c.toNat ∧ c.toNat ≤ 57)) (fun _ vi => d.size - (intOf vi).toNat)
  case atStart => exact ⟨0, 0, rfl, rfl, by omega, by simp, by simp [decV], by simp⟩
  case round =>
    obtain ⟨x, i, rfl, rfl, hi, HH⟩ := hrel
    by_cases hlt : i < d.size
    · have HT := hide (take_snoc d i hlt)
      by_cases hg : 48 ≤ (d[i]).toNat ∧ (d[i]).toNat ≤ 57
      · have j0 : (48 : Int) ≤ ((d[i]).toNat : Int) := by omega
        have j1 : ((d[i]).toNat : Int) ≤ 57 := by omega
        have hx18 : x < 1000000000000000000 := Nat.lt_of_lt_of_le HH.out.1 (Nat.le_trans (Nat.pow_le_pow_right (by omega) (show i ≤ 18 by omega)) (by decide))
        have wx : IntKind.u64.wrap (IntKind.u64.wrap (10 * (x : Int)) + (((d[i]).toNat : Int) - 48)) = 10 * (x : Int) + (((d[i]).toNat : Int) - 48) := by rw [IntKind.wrap_u64, IntKind.wrap_u64]; omega
        have wz : IntKind.u64.wrap (10 * (x : Int) + (((d[i]).toNat : Int) - 48)) = 10 * (x : Int) + (((d[i]).toNat : Int) - 48) := by rw [IntKind.wrap_u64]; omega
        have wy : IntKind.u64.wrap (10 * (x : Int)) = 10 * (x : Int) := by rw [IntKind.wrap_u64]; omega
        have HV : Hid (x * 10 + ((d[i]).toNat - 48) = decV (d.data.toList.take (i + 1)) ∧ x * 10 + ((d[i]).toNat - 48) < 10 ^ (i + 1) ∧ ∀ c ∈ d.data.toList.take (i + 1), 48 ≤ c.toNat ∧ c.toNat ≤ 57) := hide (by
          rw [HT.out, decV_snoc, ← HH.out.2.1]
          refine ⟨rfl, ?_, ?_⟩
          · have h1 := HH.out.1
            rw [Nat.pow_succ]; omega
          · intro c hc
            simp only [List.mem_append, List.mem_singleton] at hc
            rcases hc with hc | rfl
            · exact HH.out.2.2 c hc
            · exact hg)
        have hcast : 10 * (x : Int) + (((d[i]).toNat : Int) - 48) = ((x * 10 + ((d[i]).toNat - 48) : Nat) : Int) := by omega
        have HCA := hide hcast
        clear hg hx18 hcast
        go_wp2_with fail
        refine ⟨⟨x * 10 + ((d[i]).toNat - 48), i + 1, ?_, by first | rfl | (congr 1), by omega, HV.out.2.1, HV.out.1, HV.out.2.2⟩, by simp [intOf]; omega⟩
        rw [← HCA.out]
      · have HNo := hide (okI_none (l := s.data.toList) (fun n h0 h1 h => by
          have hmem : d[i] ∈ d.data.toList := by
            have : d[i] ∈ d.data.toList.take (i + 1) := by rw [HT.out]; simp
            exact List.mem_of_mem_take this
          rw [(HS.out n h).2] at hmem
          exact hg (dec_digit _ _ hmem)))
        by_cases hg0 : (d[i]).toNat < 48
        · have j0 : ((d[i]).toNat : Int) < 48 := by omega
          clear hg hg0
          go_wp2_with fail
          go_ret2
          exact ⟨0, false, rfl, Bel.refl _, HNo.out⟩
        · have j0 : (57 : Int) < ((d[i]).toNat : Int) := by omega
          have j1 : (48 : Int) ≤ ((d[i]).toNat : Int) := by omega
          clear hg hg0
          go_wp2_with fail
          go_ret2
          exact ⟨0, false, rfl, Bel.refl _, HNo.out⟩
    · have ht : d.data.toList.take i = d.data.toList := List.take_of_length_le (by rw [ba_len]; omega)
      have hx64 : x < 10000000000000000000 := Nat.lt_of_lt_of_le HH.out.1 (Nat.le_trans (Nat.pow_le_pow_right (by omega) (show i ≤ 19 by omega)) (by decide))
      have hxv : x = decV d.data.toList := by have := HH.out.2.1; rwa [ht] at this
      obtain ⟨X, hX⟩ : ∃ X, X = IntKind.i64.wrap (IntKind.u64.wrap (-(x : Int))) := ⟨_, rfl⟩
      have hun : ∀ n : Int, -9223372036854775808 ≤ n → n < 9223372036854775808 → Lib.itoa n = s.data.toList → X = n := fun n h0 h1 h2 => by
        have h3 := HS.out n h2
        have : x = n.natAbs := by rw [hxv, h3.2, decV_dec]
        have h4 := h3.1
        rw [hX, IntKind.wrap_i64, IntKind.wrap_u64]; omega
      have hin : -9223372036854775808 ≤ X ∧ X < 9223372036854775808 := by rw [hX]; exact wrap_in _
      have HC := hide (fun W => rtext_2 X hin.1 hin.2 W)
      have i0 : (d.size : Int) ≤ (i : Int) := by omega
      have hX2 := hX.symm
      by_cases heq : Lib.itoa X = s.data.toList
      · have HK : Hid (okI s.data.toList X true) := hide ⟨hin.1, hin.2, fun _ => heq, fun n h0 h1 h2 => ⟨hun n h0 h1 h2, rfl⟩⟩
        have hss : (⟨(Lib.itoa X).toArray⟩ : ByteArray) = s := ba_ext heq
        rw [hss] at HC
        unfold ev at HC
        clear hxv hun heq hss hx64 ht hX hin
        go_wp2_with (go_at_call 73; refine (HC.out _).mono ?_; rintro e w' ⟨rfl, hb⟩)
        go_ret2
        exact ⟨X, true, rfl, hb, HK.out⟩
      · have HK : Hid (okI s.data.toList X false) := hide ⟨hin.1, hin.2, (fun h => by cases h), fun n h0 h1 h2 => absurd (by rw [hun n h0 h1 h2]; exact h2) heq⟩
        have hq : ((⟨(Lib.itoa X).toArray⟩ : ByteArray).toList == s.toList) = false := by
          rw [ByteArray.toList_eq, ByteArray.toList_eq]; simpa using heq
        generalize (⟨(Lib.itoa X).toArray⟩ : ByteArray) = Y at *
        unfold ev at HC
        clear hxv hun heq hx64 ht hX hin
        go_wp2_with (go_at_call 73; refine (HC.out _).mono ?_; rintro e w' ⟨rfl, hb⟩)
        go_ret2
        exact ⟨X, false, rfl, hb, HK.out⟩
set_option maxHeartbeats 1000000 in
set_option maxRecDepth 100000 in
theorem integer_pos (s : ByteArray) (h45 : ∀ t, s.data.toList ≠ 45 :: t) (hm : s.size ≤ 150000000000000) (w : World) :
    Calls Tryz.prog 69 #[.string s] w fun e w' => intR s.data.toList w e w' := by
  have hsrc : ∀ n : Int, Lib.itoa n = s.data.toList → 0 ≤ n ∧ s.data.toList = Lib.decDigits n.natAbs := fun n h => itoa_pos h h45
  have g2 : (h : 0 < s.size) → ((((s[0]).toNat : Nat) : Int) == 45) = false := fun h => byte_ne (n := 45) (by omega) (fun e => h45 _ (by have e1 := drop_cons s 0 h; rw [List.drop_zero, e] at e1; exact e1))
  have hlen : ∀ n : Int, -9223372036854775808 ≤ n → n < 9223372036854775808 → Lib.itoa n = s.data.toList → 1 ≤ s.size ∧ s.size ≤ 19 := fun n h0 h1 h => by
    have e := (hsrc n h).2
    have := dec_19 n.natAbs (by omega)
    rw [← e, ba_len] at this
    exact this
  by_cases he : s.size = 0
  · have HN := hide (okI_none (l := s.data.toList) (fun n h0 h1 h => by have := hlen n h0 h1 h; omega))
    have hb0 : s = ⟨#[]⟩ := ba_nil he
    clear hsrc hlen
    clear g2
    subst hb0
    go_enter Tryz.func69, Tryz.ntmps69
    go_wp2_with fail
    go_ret2
    exact ⟨0, false, rfl, Bel.refl _, HN.out⟩
  have g0 : (0 : Int) < (s.size : Int) := by omega
  have hpos : 0 < s.size := by omega
  have g3 := g2 hpos
  clear g2
  have hne : s.toList.isEmpty = false := ba_nil_ne he
  by_cases h19 : 19 < s.size
  · have HN := hide (okI_none (l := s.data.toList) (fun n h0 h1 h => by have := hlen n h0 h1 h; omega))
    have i19 : (19 : Int) < (s.size : Int) := by omega
    clear hsrc hlen
    go_enter Tryz.func69, Tryz.ntmps69
    go_wp2_with fail
    go_ret2
    exact ⟨0, false, rfl, Bel.refl _, HN.out⟩
  have i19 : (s.size : Int) ≤ 19 := by omega
  have HS := hide hsrc
  have HL := hide hlen
  clear hsrc hlen h45
  go_enter Tryz.func69, Tryz.ntmps69
  go_wp2_with fail
  go_loop [6, 7] (fun vx vi => ∃ (x i : Nat), vx = .int .u64 x ∧ vi = .int .i64 i ∧ i ≤ s.size ∧ Hid (x < 10 ^ i ∧ x = decV (s.data.toList.take i) ∧ ∀ c ∈ s.data.toList.take i, 48 ≤ c.toNat ∧ c.toNat ≤ 57)) (fun _ vi => s.size - (intOf vi).toNat)
  case atStart => exact ⟨0, 0, rfl, rfl, by omega, by simp, by simp [decV], by simp⟩
  case round =>
    obtain ⟨x, i, rfl, rfl, hi, HH⟩ := hrel
    by_cases hlt : i < s.size
    · have HT := hide (take_snoc s i hlt)
      by_cases hg : 48 ≤ (s[i]).toNat ∧ (s[i]).toNat ≤ 57
      · have j0 : (48 : Int) ≤ ((s[i]).toNat : Int) := by omega
        have j1 : ((s[i]).toNat : Int) ≤ 57 := by omega
        have hx18 : x < 1000000000000000000 := Nat.lt_of_lt_of_le HH.out.1 (Nat.le_trans (Nat.pow_le_pow_right (by omega) (show i ≤ 18 by omega)) (by decide))
        have wx : IntKind.u64.wrap (IntKind.u64.wrap (10 * (x : Int)) + (((s[i]).toNat : Int) - 48)) = 10 * (x : Int) + (((s[i]).toNat : Int) - 48) := by rw [IntKind.wrap_u64, IntKind.wrap_u64]; omega
        have wz : IntKind.u64.wrap (10 * (x : Int) + (((s[i]).toNat : Int) - 48)) = 10 * (x : Int) + (((s[i]).toNat : Int) - 48) := by rw [IntKind.wrap_u64]; omega
        have wy : IntKind.u64.wrap (10 * (x : Int)) = 10 * (x : Int) := by rw [IntKind.wrap_u64]; omega
        have HV : Hid (x * 10 + ((s[i]).toNat - 48) = decV (s.data.toList.take (i + 1)) ∧ x * 10 + ((s[i]).toNat - 48) < 10 ^ (i + 1) ∧ ∀ c ∈ s.data.toList.take (i + 1), 48 ≤ c.toNat ∧ c.toNat ≤ 57) := hide (by
          rw [HT.out, decV_snoc, ← HH.out.2.1]
          refine ⟨rfl, ?_, ?_⟩
          · have h1 := HH.out.1
            rw [Nat.pow_succ]; omega
          · intro c hc
            simp only [List.mem_append, List.mem_singleton] at hc
            rcases hc with hc | rfl
            · exact HH.out.2.2 c hc
            · exact hg)
        have hcast : 10 * (x : Int) + (((s[i]).toNat : Int) - 48) = ((x * 10 + ((s[i]).toNat - 48) : Nat) : Int) := by omega
        have HCA := hide hcast
        clear hg hx18 hcast
        go_wp2_with fail
        refine ⟨⟨x * 10 + ((s[i]).toNat - 48), i + 1, ?_, by first | rfl | (congr 1), by omega, HV.out.2.1, HV.out.1, HV.out.2.2⟩, by simp [intOf]; omega⟩
        rw [← HCA.out]
      · have HNo := hide (okI_none (l := s.data.toList) (fun n h0 h1 h => by
          have hmem : s[i] ∈ s.data.toList := by
            have : s[i] ∈ s.data.toList.take (i + 1) := by rw [HT.out]; simp
            exact List.mem_of_mem_take this
          rw [(HS.out n h).2] at hmem
          exact hg (dec_digit _ _ hmem)))
        by_cases hg0 : (s[i]).toNat < 48
        · have j0 : ((s[i]).toNat : Int) < 48 := by omega
          clear hg hg0
          go_wp2_with fail
          go_ret2
          exact ⟨0, false, rfl, Bel.refl _, HNo.out⟩
        · have j0 : (57 : Int) < ((s[i]).toNat : Int) := by omega
          have j1 : (48 : Int) ≤ ((s[i]).toNat : Int) := by omega
          clear hg hg0
          go_wp2_with fail
          go_ret2
          exact ⟨0, false, rfl, Bel.refl _, HNo.out⟩
    · have ht : s.data.toList.take i = s.data.toList := List.take_of_length_le (by rw [ba_len]; omega)
      have hx64 : x < 10000000000000000000 := Nat.lt_of_lt_of_le HH.out.1 (Nat.le_trans (Nat.pow_le_pow_right (by omega) (show i ≤ 19 by omega)) (by decide))
      have hxv : x = decV s.data.toList := by have := HH.out.2.1; rwa [ht] at this
      obtain ⟨X, hX⟩ : ∃ X, X = IntKind.i64.wrap (x : Int) := ⟨_, rfl⟩
      have hun : ∀ n : Int, -9223372036854775808 ≤ n → n < 9223372036854775808 → Lib.itoa n = s.data.toList → X = n := fun n h0 h1 h2 => by
        have h3 := HS.out n h2
        have : x = n.natAbs := by rw [hxv, h3.2, decV_dec]
        have h4 := h3.1
        rw [hX, IntKind.wrap_i64]; omega
      have hin : -9223372036854775808 ≤ X ∧ X < 9223372036854775808 := by rw [hX]; exact wrap_in _
      have HC := hide (fun W => rtext_2 X hin.1 hin.2 W)
      have i0 : (s.size : Int) ≤ (i : Int) := by omega
      have hX2 := hX.symm
      by_cases heq : Lib.itoa X = s.data.toList
      · have HK : Hid (okI s.data.toList X true) := hide ⟨hin.1, hin.2, fun _ => heq, fun n h0 h1 h2 => ⟨hun n h0 h1 h2, rfl⟩⟩
        have hss : (⟨(Lib.itoa X).toArray⟩ : ByteArray) = s := ba_ext heq
        rw [hss] at HC
        unfold ev at HC
        clear hxv hun heq hss hx64 ht hX hin
        go_wp2_with (go_at_call 73; refine (HC.out _).mono ?_; rintro e w' ⟨rfl, hb⟩)
        go_ret2
        exact ⟨X, true, rfl, hb, HK.out⟩
      · have HK : Hid (okI s.data.toList X false) := hide ⟨hin.1, hin.2, (fun h => by cases h), fun n h0 h1 h2 => absurd (by rw [hun n h0 h1 h2]; exact h2) heq⟩
        have hq : ((⟨(Lib.itoa X).toArray⟩ : ByteArray).toList == s.toList) = false := by
          rw [ByteArray.toList_eq, ByteArray.toList_eq]; simpa using heq
        generalize (⟨(Lib.itoa X).toArray⟩ : ByteArray) = Y at *
        unfold ev at HC
        clear hxv hun heq hx64 ht hX hin
        go_wp2_with (go_at_call 73; refine (HC.out _).mono ?_; rintro e w' ⟨rfl, hb⟩)
        go_ret2
        exact ⟨X, false, rfl, hb, HK.out⟩
theorem integer_doc (s : ByteArray) (hm : s.size ≤ 150000000000000) (w : World) :
    Calls Tryz.prog 69 #[.string s] w fun e w' => intR s.data.toList w e w' := by
  by_cases h : ∃ t, s.data.toList = 45 :: t
  · obtain ⟨t, ht⟩ := h
    obtain ⟨h0, h1⟩ := get_zero' ht
    exact integer_neg s _ (by omega) h1 rfl hm w
  · exact integer_pos s (fun t ht => h ⟨t, ht⟩) hm w
end Go.Proofs.YtgghcfmpfneehaaGreatDoor
