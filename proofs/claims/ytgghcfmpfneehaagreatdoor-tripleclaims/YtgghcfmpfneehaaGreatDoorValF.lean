/- What the library's ParseUint returns at base 16, of 64 bits and of 8: some number of that size; of small hexadecimal digits what they say; for every text. -/
import Derived.Test.YtgghcfmpfneehaaGreatDoorValE
import Derived.Lib.ConvBytes
import Derived.Lib.AtoiAllMem
import Derived.Laws.Closers25
import Derived.Laws.Closers25b
import Derived.Laws.Strings3
namespace Go.Proofs.YtgghcfmpfneehaaGreatDoor
open Go.RowKit
theorem or32_fin : ∀ n : Fin 256, 97 ≤ n.val → n.val ≤ 102 → n.val ||| 32 = n.val := by decide +kernel
theorem or32_low : ∀ n : Fin 256, n.val < 48 → n.val ||| 32 < 97 := by decide +kernel
theorem or32_lt : ∀ n : Fin 256, n.val ||| 32 < 256 := by decide +kernel
theorem or32 (c : UInt8) : bits .or .u8 (c.toNat : Int) 32 = ((c.toNat ||| 32 : Nat) : Int) := u8_or_nat c.toNat 32 c.toNat_lt (by decide)
/-- What is known of the number that stands for the bytes so far. -/
def okP (M : Nat) (t : List UInt8) (k : Nat) (a : Int) : Prop := 0 ≤ a ∧ a ≤ (M : Int) ∧ ((∀ c ∈ t, isHx c) → hexV t ≤ M → a = (hexV (t.take k) : Int))
/-- What is known of the answer. -/
def okR (M : Nat) (t : List UInt8) (x : Int) : Prop := 0 ≤ x ∧ x ≤ (M : Int) ∧ (t ≠ [] → (∀ c ∈ t, isHx c) → hexV t ≤ M → x = (hexV t : Int))
theorem okP.zero (M : Nat) (t : List UInt8) : okP M t 0 0 := ⟨by omega, by omega, fun _ _ => by simp [hexV]⟩
theorem okP.done {M : Nat} {t : List UInt8} {k : Nat} {a : Int} (h : okP M t k a) (hk : t.length ≤ k) : okR M t a :=
  ⟨h.1, h.2.1, fun _ h1 h2 => by have := h.2.2 h1 h2; rwa [List.take_of_length_le hk] at this⟩
theorem take_next (t : List UInt8) (k : Nat) (h : k < t.length) : t.take (k + 1) = t.take k ++ [t[k]] := by
  rw [List.take_succ_eq_append_getElem h]
theorem hexV_take_le (t : List UInt8) (k : Nat) : hexV (t.take k) ≤ hexV t := by
  have := hexV_app (t.take k) (t.drop k)
  rwa [List.take_append_drop] at this
theorem okP.next {M : Nat} {t : List UInt8} {k : Nat} {a : Int} (h : okP M t k a) (hk : k < t.length) (d : Int) (hd : isHx t[k] → d = (hv t[k] : Int)) (h0 : 0 ≤ a * 16 + d) (h1 : a * 16 + d ≤ (M : Int)) : okP M t (k + 1) (a * 16 + d) := by
  refine ⟨h0, h1, fun hx hm => ?_⟩
  rw [take_next t k hk, hexV_snoc, h.2.2 hx hm, hd (hx _ (List.getElem_mem hk))]
  simp
theorem okP.bad {M : Nat} {t : List UInt8} {k : Nat} {a : Int} (_ : okP M t k a) (hk : k < t.length) (hn : ¬ isHx t[k]) (x : Int) (h0 : 0 ≤ x) (h1 : x ≤ (M : Int)) : okR M t x :=
  ⟨h0, h1, fun _ hx _ => absurd (hx _ (List.getElem_mem hk)) hn⟩
theorem okP.far {M : Nat} {t : List UInt8} {k : Nat} {a : Int} (h : okP M t k a) (hk : k < t.length) (d : Int) (hd : isHx t[k] → d = (hv t[k] : Int)) (hf : (M : Int) < a * 16 + d) : okR M t (M : Int) :=
  ⟨by omega, by omega, fun _ hx hm => by
    have h1 := h.2.2 hx hm
    have h2 := hd (hx _ (List.getElem_mem hk))
    have h3 := hexV_take_le t (k + 1)
    rw [take_next t k hk, hexV_snoc] at h3
    omega⟩
theorem hv_dig {c : UInt8} (h1 : c.toNat ≤ 57) (h0 : 48 ≤ c.toNat) : ((c.toNat : Int) - 48) = (hv c : Int) := by
  unfold hv; rw [if_pos h1]; omega
theorem hv_let {c : UInt8} (v : Nat) (hv0 : 97 ≤ c.toNat → c.toNat ≤ 102 → v = c.toNat) (hn : ¬ (48 ≤ c.toNat ∧ c.toNat ≤ 57)) (h : isHx c) : ((v : Int) - 87) = (hv c : Int) := by
  rcases h with h | ⟨h0, h1⟩
  · exact absurd h hn
  · unfold hv; rw [if_neg (by omega), hv0 h0 h1]; omega
theorem not_hx {c : UInt8} (v : Nat) (hv0 : 97 ≤ c.toNat → c.toNat ≤ 102 → v = c.toNat) (hn : ¬ (48 ≤ c.toNat ∧ c.toNat ≤ 57)) (hl : v < 97 ∨ 103 ≤ v) : ¬ isHx c := by
  rintro (h | ⟨h0, h1⟩)
  · exact hn h
  · have := hv0 h0 h1; omega
set_option maxHeartbeats 4000000 in
set_option maxRecDepth 100000 in
theorem parseUint_in64 (t : ByteArray) (hne : t.size ≠ 0) (hmax : t.size ≤ 150000000000000) (w : World) :
    Calls Tryz.prog 125 #[.string t, .int .i64 16, .int .i64 64] w fun e w' => ∃ (x : Int) (ve : Value), e = .returned (.tuple #[.int .u64 x, ve]) ∧ Bel w w' ∧ okR 18446744073709551615 t.data.toList x ∧ (ve = .nilIface ∨ ve = .iface 179 (.int .i64 1) ∨ ve = .iface 179 (.int .i64 2)) := by
  have hemp : t.toList.isEmpty = false := ba_nil_ne hne
  have hcv := Lib.run_convert_string_bytes (P := Tryz.prog) w 9 98 5 t (u := .string) Tryz.underlying9 Tryz.underlying98 Tryz.underlying5
  have hB : ∀ j, j < t.size → (Lib.bytesWorld w 5 t).cell? ⟨w.heap.size, j, none⟩ = some (.int .u8 (t.data.toList.getD j 0).toNat) := fun j hj => Lib.bytesWorld_cell w 5 t j hj
  have HB : Hid (Bel w (Lib.bytesWorld w 5 t)) := hide (Lib.bytesWorld_below _ _ _)
  obtain ⟨W1, hW1⟩ : ∃ W1, W1 = Lib.bytesWorld w 5 t := ⟨_, rfl⟩
  rw [← hW1] at hcv hB HB
  clear hW1
  obtain ⟨bs, hL⟩ : ∃ bs, bs = t.data.toList := ⟨_, rfl⟩
  have hLn : bs.length = t.size := by rw [hL]; rfl
  rw [← hL] at hB ⊢
  clear hL
  have hmv : IntKind.u64.wrap (IntKind.u64.wrap 18446744073709551616 - 1) = 18446744073709551615 := by
    rw [IntKind.wrap_u64, IntKind.wrap_u64]
    decide
  go_enter Tryz.func125, Tryz.ntmps125
  go_wp2
  go_loop [12, 13, 101] (fun vu vn vi => ∃ (k : Nat) (a : Int), vu = .bool false ∧ vn = .int .u64 a ∧ vi = .int .i64 k ∧ k ≤ t.size ∧ Hid (okP 18446744073709551615 bs k a))
    (fun _ _ vi => t.size - (intOf vi).toNat)
  case atStart => exact ⟨0, 0, rfl, rfl, rfl, by omega, okP.zero _ _⟩
  case round =>
    obtain ⟨k, a, rfl, rfl, rfl, hk, HK⟩ := hrel
    have a0 : 0 ≤ a := HK.out.1
    have a1 : a ≤ 18446744073709551615 := HK.out.2.1
    by_cases hkn : k < t.size
    · have hc := hB k hkn
      have HL : Hid (k < bs.length) := hide (by omega)
      have hget : bs.getD k 0 = bs[k]'(HL.out) := by simp [List.getD, List.getElem?_eq_getElem HL.out]
      rw [hget] at hc
      have HC : ∃ c, c = bs[k]'(HL.out) := ⟨_, rfl⟩
      obtain ⟨c, hcc⟩ := HC
      rw [← hcc] at hc
      have HCC := hide hcc
      have hc256 : c.toNat < 256 := c.toNat_lt
      clear hcc hB hget
      have hor := or32 c
      obtain ⟨v, hv⟩ : ∃ v, v = c.toNat ||| 32 := ⟨_, rfl⟩
      have hvl : v < 256 := by rw [hv]; exact or32_lt ⟨c.toNat, hc256⟩
      have hvc : 97 ≤ c.toNat → c.toNat ≤ 102 → v = c.toNat := fun h0 h1 => by rw [hv]; exact or32_fin ⟨c.toNat, hc256⟩ h0 h1
      have hvlow : c.toNat < 48 → v < 97 := fun h0 => by rw [hv]; exact or32_low ⟨c.toNat, hc256⟩ h0
      rw [← hv] at hor
      clear hv
      have HV := hide hvc
      clear hvc
      by_cases hdig : 48 ≤ c.toNat ∧ c.toNat ≤ 57
      · obtain ⟨d0, d1⟩ := hdig
        have i0 : (48 : Int) ≤ (c.toNat : Int) := by omega
        have i1 : (c.toNat : Int) ≤ 57 := by omega
        have HD : Hid (isHx (bs[k]'(HL.out)) → ((c.toNat : Int) - 48) = (hv (bs[k]'(HL.out)) : Int)) := hide (fun _ => by rw [← HCC.out]; exact hv_dig d1 d0)
        by_cases hcut : 1152921504606846976 ≤ a
        · have HR := hide (HK.out.far HL.out _ HD.out (by omega))
          clear d0 d1
          go_wp2
          go_ret2
          exact ⟨_, _, rfl, HB.out, HR.out, Or.inr (Or.inl rfl)⟩
        · by_cases hov : a * 16 + ((c.toNat : Int) - 48) ≤ 18446744073709551615
          · have HN := hide (HK.out.next HL.out _ HD.out (by omega) hov)
            have icut : a < 1152921504606846976 := by omega
            have o1 : a * 16 + ((c.toNat : Int) - 48) < 18446744073709551616 := by omega
            clear d0 d1 hcut
            go_wp2
            refine ⟨⟨k + 1, a * 16 + ((c.toNat : Int) - 48), rfl, (by first | rfl | (congr 1; omega)), (by first | rfl | (congr 1; omega)), by omega, HN⟩, by simp [intOf]; omega⟩
          · exact absurd (show a * 16 + ((c.toNat : Int) - 48) ≤ 18446744073709551615 by omega) hov
      · have hnd : c.toNat < 48 ∨ 57 < c.toNat := by omega
        by_cases h95 : c = 95
        · have HR := hide (HK.out.bad HL.out (by rw [← HCC.out, h95]; unfold isHx; decide) 0 (by omega) (by omega))
          subst h95
          have hu0 := bits_lo_u8 .or 95 32
          have hu1 : bits .or .u8 95 32 = 127 := by decide +kernel
          clear hnd hdig hor
          go_wp2_with (go_at_call 151; refine (Tryz.internal_strconv_lower _ _).mono ?_; rintro e w' ⟨rfl, rfl⟩)
          go_ret2
          exact ⟨_, _, rfl, HB.out, HR.out, Or.inr (Or.inr rfl)⟩
        have n95 : (((c.toNat : Nat) : Int) == 95) = false := by
          rw [beq_eq_false_iff_ne]; intro h; exact h95 (UInt8.toNat_inj.1 (by show c.toNat = 95; omega))
        by_cases hl : v < 97
        · have HR := hide (HK.out.bad HL.out (by rw [← HCC.out]; exact not_hx v HV.out hdig (Or.inl hl)) 0 (by omega) (by omega))
          have l0 : (v : Int) < 97 := by omega
          rcases hnd with hnd | hnd
          · have j0 : (c.toNat : Int) < 48 := by omega
            clear hdig h95 hl
            go_wp2_with (go_at_call 151; refine (Tryz.internal_strconv_lower _ _).mono ?_; rintro e w' ⟨rfl, rfl⟩)
            go_ret2
            exact ⟨_, _, rfl, HB.out, HR.out, Or.inr (Or.inr rfl)⟩
          · have j0 : (57 : Int) < (c.toNat : Int) := by omega
            have j1 : (48 : Int) ≤ (c.toNat : Int) := by omega
            clear hdig h95 hl
            go_wp2_with (go_at_call 151; refine (Tryz.internal_strconv_lower _ _).mono ?_; rintro e w' ⟨rfl, rfl⟩)
            go_ret2
            exact ⟨_, _, rfl, HB.out, HR.out, Or.inr (Or.inr rfl)⟩
        have l0 : (97 : Int) ≤ (v : Int) := by omega
        have j0 : (57 : Int) < (c.toNat : Int) := by omega
        have j1 : (48 : Int) ≤ (c.toNat : Int) := by omega
        by_cases hg : 122 < v
        · have HR := hide (HK.out.bad HL.out (by rw [← HCC.out]; exact not_hx v HV.out hdig (Or.inr (by omega))) 0 (by omega) (by omega))
          have l1 : (122 : Int) < (v : Int) := by omega
          clear hdig h95 hl hg hnd hvlow
          go_wp2_with (go_at_call 151; refine (Tryz.internal_strconv_lower _ _).mono ?_; rintro e w' ⟨rfl, rfl⟩)
          go_ret2
          exact ⟨_, _, rfl, HB.out, HR.out, Or.inr (Or.inr rfl)⟩
        have l1 : (v : Int) ≤ 122 := by omega
        have HD : Hid (isHx (bs[k]'(HL.out)) → ((v : Int) - 87) = (hv (bs[k]'(HL.out)) : Int)) := hide (fun h => by rw [← HCC.out] at h ⊢; exact hv_let v HV.out hdig h)
        by_cases h16 : 103 ≤ v
        · have HR := hide (HK.out.bad HL.out (by rw [← HCC.out]; exact not_hx v HV.out hdig (Or.inr h16)) 0 (by omega) (by omega))
          have l2 : (16 : Int) ≤ (v : Int) - 97 + 10 := by omega
          clear hdig h95 hl hg hnd hvlow h16
          go_wp2_with (go_at_call 151; refine (Tryz.internal_strconv_lower _ _).mono ?_; rintro e w' ⟨rfl, rfl⟩)
          go_ret2
          exact ⟨_, _, rfl, HB.out, HR.out, Or.inr (Or.inr rfl)⟩
        have l2 : (v : Int) - 97 + 10 < 16 := by omega
        by_cases hcut : 1152921504606846976 ≤ a
        · have HR := hide (HK.out.far HL.out _ HD.out (by omega))
          clear hdig h95 hl hg hnd hvlow h16
          go_wp2_with (go_at_call 151; refine (Tryz.internal_strconv_lower _ _).mono ?_; rintro e w' ⟨rfl, rfl⟩)
          go_ret2
          exact ⟨_, _, rfl, HB.out, HR.out, Or.inr (Or.inl rfl)⟩
        have icut : a < 1152921504606846976 := by omega
        by_cases hov : a * 16 + ((v : Int) - 87) ≤ 18446744073709551615
        · have HN := hide (HK.out.next HL.out _ HD.out (by omega) hov)
          have o1 : a * 16 + ((v : Int) - 97 + 10) < 18446744073709551616 := by omega
          have o2 : a * 16 + ((v : Int) - 97 + 10) ≤ 18446744073709551615 := by omega
          clear hdig h95 hl hg hnd hvlow h16 hcut hov
          go_wp2_with (go_at_call 151; refine (Tryz.internal_strconv_lower _ _).mono ?_; rintro e w' ⟨rfl, rfl⟩)
          refine ⟨⟨k + 1, a * 16 + ((v : Int) - 87), rfl, (by first | rfl | (congr 1; omega)), (by first | rfl | (congr 1; omega)), by omega, HN⟩, by simp [intOf]; omega⟩
        · exact absurd (show a * 16 + ((v : Int) - 87) ≤ 18446744073709551615 by omega) hov
    · have HR := hide (HK.out.done (show bs.length ≤ k by omega))
      go_wp2
      go_ret2
      exact ⟨_, _, rfl, HB.out, HR.out, Or.inl rfl⟩
set_option maxHeartbeats 4000000 in
set_option maxRecDepth 100000 in
theorem parseUint_in8 (t : ByteArray) (hne : t.size ≠ 0) (hmax : t.size ≤ 150000000000000) (w : World) :
    Calls Tryz.prog 125 #[.string t, .int .i64 16, .int .i64 8] w fun e w' => ∃ (x : Int) (ve : Value), e = .returned (.tuple #[.int .u64 x, ve]) ∧ Bel w w' ∧ okR 255 t.data.toList x ∧ (ve = .nilIface ∨ ve = .iface 179 (.int .i64 1) ∨ ve = .iface 179 (.int .i64 2)) := by
  have hemp : t.toList.isEmpty = false := ba_nil_ne hne
  have hcv := Lib.run_convert_string_bytes (P := Tryz.prog) w 9 98 5 t (u := .string) Tryz.underlying9 Tryz.underlying98 Tryz.underlying5
  have hB : ∀ j, j < t.size → (Lib.bytesWorld w 5 t).cell? ⟨w.heap.size, j, none⟩ = some (.int .u8 (t.data.toList.getD j 0).toNat) := fun j hj => Lib.bytesWorld_cell w 5 t j hj
  have HB : Hid (Bel w (Lib.bytesWorld w 5 t)) := hide (Lib.bytesWorld_below _ _ _)
  obtain ⟨W1, hW1⟩ : ∃ W1, W1 = Lib.bytesWorld w 5 t := ⟨_, rfl⟩
  rw [← hW1] at hcv hB HB
  clear hW1
  obtain ⟨bs, hL⟩ : ∃ bs, bs = t.data.toList := ⟨_, rfl⟩
  have hLn : bs.length = t.size := by rw [hL]; rfl
  rw [← hL] at hB ⊢
  clear hL
  go_enter Tryz.func125, Tryz.ntmps125
  go_wp2
  go_loop [12, 13, 101] (fun vu vn vi => ∃ (k : Nat) (a : Int), vu = .bool false ∧ vn = .int .u64 a ∧ vi = .int .i64 k ∧ k ≤ t.size ∧ Hid (okP 255 bs k a))
    (fun _ _ vi => t.size - (intOf vi).toNat)
  case atStart => exact ⟨0, 0, rfl, rfl, rfl, by omega, okP.zero _ _⟩
  case round =>
    obtain ⟨k, a, rfl, rfl, rfl, hk, HK⟩ := hrel
    have a0 : 0 ≤ a := HK.out.1
    have a1 : a ≤ 255 := HK.out.2.1
    by_cases hkn : k < t.size
    · have hc := hB k hkn
      have HL : Hid (k < bs.length) := hide (by omega)
      have hget : bs.getD k 0 = bs[k]'(HL.out) := by simp [List.getD, List.getElem?_eq_getElem HL.out]
      rw [hget] at hc
      have HC : ∃ c, c = bs[k]'(HL.out) := ⟨_, rfl⟩
      obtain ⟨c, hcc⟩ := HC
      rw [← hcc] at hc
      have HCC := hide hcc
      have hc256 : c.toNat < 256 := c.toNat_lt
      clear hcc hB hget
      have hor := or32 c
      obtain ⟨v, hv⟩ : ∃ v, v = c.toNat ||| 32 := ⟨_, rfl⟩
      have hvl : v < 256 := by rw [hv]; exact or32_lt ⟨c.toNat, hc256⟩
      have hvc : 97 ≤ c.toNat → c.toNat ≤ 102 → v = c.toNat := fun h0 h1 => by rw [hv]; exact or32_fin ⟨c.toNat, hc256⟩ h0 h1
      have hvlow : c.toNat < 48 → v < 97 := fun h0 => by rw [hv]; exact or32_low ⟨c.toNat, hc256⟩ h0
      rw [← hv] at hor
      clear hv
      have HV := hide hvc
      clear hvc
      by_cases hdig : 48 ≤ c.toNat ∧ c.toNat ≤ 57
      · obtain ⟨d0, d1⟩ := hdig
        have i0 : (48 : Int) ≤ (c.toNat : Int) := by omega
        have i1 : (c.toNat : Int) ≤ 57 := by omega
        have HD : Hid (isHx (bs[k]'(HL.out)) → ((c.toNat : Int) - 48) = (hv (bs[k]'(HL.out)) : Int)) := hide (fun _ => by rw [← HCC.out]; exact hv_dig d1 d0)
        by_cases hcut : 1152921504606846976 ≤ a
        · exact absurd hcut (by omega)
        · by_cases hov : a * 16 + ((c.toNat : Int) - 48) ≤ 255
          · have HN := hide (HK.out.next HL.out _ HD.out (by omega) hov)
            have icut : a < 1152921504606846976 := by omega
            have o1 : a * 16 + ((c.toNat : Int) - 48) < 18446744073709551616 := by omega
            clear d0 d1 hcut
            go_wp2
            refine ⟨⟨k + 1, a * 16 + ((c.toNat : Int) - 48), rfl, (by first | rfl | (congr 1; omega)), (by first | rfl | (congr 1; omega)), by omega, HN⟩, by simp [intOf]; omega⟩
          · have HR := hide (HK.out.far HL.out _ HD.out (by omega))
            have icut : a < 1152921504606846976 := by omega
            have o2 : 255 < a * 16 + ((c.toNat : Int) - 48) := by omega
            have o1 : a * 16 + ((c.toNat : Int) - 48) < 18446744073709551616 := by omega
            clear d0 d1 hcut hov
            go_wp2
            go_ret2
            exact ⟨_, _, rfl, HB.out, HR.out, Or.inr (Or.inl rfl)⟩
      · have hnd : c.toNat < 48 ∨ 57 < c.toNat := by omega
        by_cases h95 : c = 95
        · have HR := hide (HK.out.bad HL.out (by rw [← HCC.out, h95]; unfold isHx; decide) 0 (by omega) (by omega))
          subst h95
          have hu0 := bits_lo_u8 .or 95 32
          have hu1 : bits .or .u8 95 32 = 127 := by decide +kernel
          clear hnd hdig hor
          go_wp2_with (go_at_call 151; refine (Tryz.internal_strconv_lower _ _).mono ?_; rintro e w' ⟨rfl, rfl⟩)
          go_ret2
          exact ⟨_, _, rfl, HB.out, HR.out, Or.inr (Or.inr rfl)⟩
        have n95 : (((c.toNat : Nat) : Int) == 95) = false := by
          rw [beq_eq_false_iff_ne]; intro h; exact h95 (UInt8.toNat_inj.1 (by show c.toNat = 95; omega))
        by_cases hl : v < 97
        · have HR := hide (HK.out.bad HL.out (by rw [← HCC.out]; exact not_hx v HV.out hdig (Or.inl hl)) 0 (by omega) (by omega))
          have l0 : (v : Int) < 97 := by omega
          rcases hnd with hnd | hnd
          · have j0 : (c.toNat : Int) < 48 := by omega
            clear hdig h95 hl
            go_wp2_with (go_at_call 151; refine (Tryz.internal_strconv_lower _ _).mono ?_; rintro e w' ⟨rfl, rfl⟩)
            go_ret2
            exact ⟨_, _, rfl, HB.out, HR.out, Or.inr (Or.inr rfl)⟩
          · have j0 : (57 : Int) < (c.toNat : Int) := by omega
            have j1 : (48 : Int) ≤ (c.toNat : Int) := by omega
            clear hdig h95 hl
            go_wp2_with (go_at_call 151; refine (Tryz.internal_strconv_lower _ _).mono ?_; rintro e w' ⟨rfl, rfl⟩)
            go_ret2
            exact ⟨_, _, rfl, HB.out, HR.out, Or.inr (Or.inr rfl)⟩
        have l0 : (97 : Int) ≤ (v : Int) := by omega
        have j0 : (57 : Int) < (c.toNat : Int) := by omega
        have j1 : (48 : Int) ≤ (c.toNat : Int) := by omega
        by_cases hg : 122 < v
        · have HR := hide (HK.out.bad HL.out (by rw [← HCC.out]; exact not_hx v HV.out hdig (Or.inr (by omega))) 0 (by omega) (by omega))
          have l1 : (122 : Int) < (v : Int) := by omega
          clear hdig h95 hl hg hnd hvlow
          go_wp2_with (go_at_call 151; refine (Tryz.internal_strconv_lower _ _).mono ?_; rintro e w' ⟨rfl, rfl⟩)
          go_ret2
          exact ⟨_, _, rfl, HB.out, HR.out, Or.inr (Or.inr rfl)⟩
        have l1 : (v : Int) ≤ 122 := by omega
        have HD : Hid (isHx (bs[k]'(HL.out)) → ((v : Int) - 87) = (hv (bs[k]'(HL.out)) : Int)) := hide (fun h => by rw [← HCC.out] at h ⊢; exact hv_let v HV.out hdig h)
        by_cases h16 : 103 ≤ v
        · have HR := hide (HK.out.bad HL.out (by rw [← HCC.out]; exact not_hx v HV.out hdig (Or.inr h16)) 0 (by omega) (by omega))
          have l2 : (16 : Int) ≤ (v : Int) - 97 + 10 := by omega
          clear hdig h95 hl hg hnd hvlow h16
          go_wp2_with (go_at_call 151; refine (Tryz.internal_strconv_lower _ _).mono ?_; rintro e w' ⟨rfl, rfl⟩)
          go_ret2
          exact ⟨_, _, rfl, HB.out, HR.out, Or.inr (Or.inr rfl)⟩
        have l2 : (v : Int) - 97 + 10 < 16 := by omega
        by_cases hcut : 1152921504606846976 ≤ a
        · exact absurd hcut (by omega)
        have icut : a < 1152921504606846976 := by omega
        by_cases hov : a * 16 + ((v : Int) - 87) ≤ 255
        · have HN := hide (HK.out.next HL.out _ HD.out (by omega) hov)
          have o1 : a * 16 + ((v : Int) - 97 + 10) < 18446744073709551616 := by omega
          have o2 : a * 16 + ((v : Int) - 97 + 10) ≤ 255 := by omega
          clear hdig h95 hl hg hnd hvlow h16 hcut hov
          go_wp2_with (go_at_call 151; refine (Tryz.internal_strconv_lower _ _).mono ?_; rintro e w' ⟨rfl, rfl⟩)
          refine ⟨⟨k + 1, a * 16 + ((v : Int) - 87), rfl, (by first | rfl | (congr 1; omega)), (by first | rfl | (congr 1; omega)), by omega, HN⟩, by simp [intOf]; omega⟩
        · have HR := hide (HK.out.far HL.out _ HD.out (by omega))
          have o2 : 255 < a * 16 + ((v : Int) - 97 + 10) := by omega
          have o1 : a * 16 + ((v : Int) - 97 + 10) < 18446744073709551616 := by omega
          clear hdig h95 hl hg hnd hvlow h16 hcut hov
          go_wp2_with (go_at_call 151; refine (Tryz.internal_strconv_lower _ _).mono ?_; rintro e w' ⟨rfl, rfl⟩)
          go_ret2
          exact ⟨_, _, rfl, HB.out, HR.out, Or.inr (Or.inl rfl)⟩
    · have HR := hide (HK.out.done (show bs.length ≤ k by omega))
      go_wp2
      go_ret2
      exact ⟨_, _, rfl, HB.out, HR.out, Or.inl rfl⟩
end Go.Proofs.YtgghcfmpfneehaaGreatDoor
