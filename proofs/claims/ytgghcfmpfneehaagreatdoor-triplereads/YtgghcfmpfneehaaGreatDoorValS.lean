/- What the document's Digit, integer and ReadUid return; for every text. -/
import Derived.Test.YtgghcfmpfneehaaGreatDoorValL
import Derived.Test.YtgghcfmpfneehaaGreatDoorValI
namespace Go.Proofs.YtgghcfmpfneehaaGreatDoor
open Go.RowKit
set_option maxRecDepth 100000 in
theorem digit_yes (c : UInt8) (h : isHx c) (w : World) : Calls Tryz.prog 71 #[.int .u8 (c.toNat : Int)] w fun e w' => e = .returned (.int .i64 (hv c : Int)) ∧ w' = w := by
  rcases h with ⟨h0, h1⟩ | ⟨h0, h1⟩
  · have HE : Hid ((hv c : Int) = (c.toNat : Int) - 48) := hide (hv_dig h1 h0).symm
    have i0 : (48 : Int) ≤ (c.toNat : Int) := by omega
    have i1 : (c.toNat : Int) ≤ 57 := by omega
    clear h0 h1
    go_enter Tryz.func71, Tryz.ntmps71
    go_wp2_with fail
    go_ret
    exact ⟨by rw [HE.out]; rfl, rfl⟩
  · have HE : Hid ((hv c : Int) = (c.toNat : Int) - 97 + 10) := hide (by unfold hv; rw [if_neg (by omega)]; omega)
    have i0 : (97 : Int) ≤ (c.toNat : Int) := by omega
    have i1 : (c.toNat : Int) ≤ 102 := by omega
    have i2 : (57 : Int) < (c.toNat : Int) := by omega
    have i3 : (48 : Int) ≤ (c.toNat : Int) := by omega
    clear h0 h1
    go_enter Tryz.func71, Tryz.ntmps71
    go_wp2_with fail
    go_ret
    exact ⟨by rw [HE.out]; rfl, rfl⟩
set_option maxRecDepth 100000 in
theorem digit_no (c : UInt8) (h : ¬ isHx c) (w : World) : Calls Tryz.prog 71 #[.int .u8 (c.toNat : Int)] w fun e w' => e = .returned (.int .i64 (-1)) ∧ w' = w := by
  unfold isHx at h
  by_cases h1 : c.toNat < 48
  · have i0 : (c.toNat : Int) < 48 := by omega
    have i1 : (c.toNat : Int) < 97 := by omega
    clear h h1
    go_enter Tryz.func71, Tryz.ntmps71
    go_wp2_with fail
    go_ret
    exact ⟨rfl, rfl⟩
  · by_cases h2 : c.toNat < 97
    · have i0 : (57 : Int) < (c.toNat : Int) := by omega
      have i1 : (c.toNat : Int) < 97 := by omega
      have i2 : (48 : Int) ≤ (c.toNat : Int) := by omega
      clear h h1 h2
      go_enter Tryz.func71, Tryz.ntmps71
      go_wp2_with fail
      go_ret
      exact ⟨rfl, rfl⟩
    · have i0 : (102 : Int) < (c.toNat : Int) := by omega
      have i1 : (57 : Int) < (c.toNat : Int) := by omega
      have i2 : (48 : Int) ≤ (c.toNat : Int) := by omega
      have i3 : (97 : Int) ≤ (c.toNat : Int) := by omega
      clear h h1 h2
      go_enter Tryz.func71, Tryz.ntmps71
      go_wp2_with fail
      go_ret
      exact ⟨rfl, rfl⟩
theorem hv_lt {c : UInt8} (h : isHx c) : hv c < 16 := by
  unfold hv
  rcases h with h | h
  · rw [if_pos h.2]; omega
  · rw [if_neg (by omega)]; omega
theorem or_hex (a d : Nat) (ha : a < 1152921504606846976) (hd : d < 16) : bits .or .u64 ((a : Int) * 16) (d : Int) = ((a * 16 + d : Nat) : Int) := by
  have h1 := u64_or_nat (a * 16) d (by omega) (by omega)
  have h2 : a * 16 ||| d = a * 16 + d := by
    rw [show a * 16 = a <<< 4 by rw [Nat.shiftLeft_eq]]
    exact (Nat.shiftLeft_add_eq_or_of_lt (i := 4) hd a).symm
  rw [h2] at h1
  rw [← h1]; simp
/-- What is known of the number that ReadUid of the document answers. -/
def okUid (l : List UInt8) (x : Int) : Prop := 0 ≤ x ∧ x < 18446744073709551616 ∧ (0 < x → 48 :: 120 :: hexL x.toNat = l) ∧ ∀ m : Nat, 0 < m → m < 18446744073709551616 → 48 :: 120 :: hexL m = l → x = (m : Int)
theorem okUid_none {l : List UInt8} (h : ∀ m : Nat, 0 < m → m < 18446744073709551616 → 48 :: 120 :: hexL m ≠ l) : okUid l 0 := ⟨by omega, by omega, fun h => by omega, fun m h0 h1 h2 => absurd h2 (h m h0 h1)⟩
theorem hexL_16 (m : Nat) (h : m < 18446744073709551616) : 1 ≤ (hexL m).length ∧ (hexL m).length ≤ 16 := by
  refine ⟨?_, hexL_len 15 m (Nat.lt_of_lt_of_le h (by decide))⟩
  have := hexL_ne m
  cases hl : hexL m with
  | nil => exact absurd hl this
  | cons => simp
theorem drop_take_next (s : ByteArray) (i : Nat) (h2 : 2 ≤ i) (h : i < s.size) : ((s.data.toList.drop 2).take (i + 1 - 2)) = ((s.data.toList.drop 2).take (i - 2)) ++ [s[i]] := by
  rw [show i + 1 - 2 = (i - 2) + 1 by omega, take_next _ (i - 2) (by rw [List.length_drop, ba_len]; omega)]
  congr 2
  rw [List.getElem_drop]
  have : s.data.toList[2 + (i - 2)]'(by rw [ba_len]; omega) = s.data.toList[i]'(by rw [ba_len]; omega) := by congr 1; omega
  rw [this]
  rfl
theorem hexV_lt16 (l : List UInt8) (h : ∀ c ∈ l, isHx c) : hexV l < 16 ^ l.length := by
  have : ∀ (l : List UInt8) (a : Nat), (∀ c ∈ l, isHx c) → l.foldl (fun a c => a * 16 + hv c) a < (a + 1) * 16 ^ l.length := by
    intro l
    induction l with
    | nil => intro a _; simp
    | cons c l ih =>
      intro a hl
      have h1 := ih (a * 16 + hv c) (fun x hx => hl x (by simp [hx]))
      have h2 := hv_lt (hl c (by simp))
      simp only [List.foldl, List.length_cons]
      refine Nat.lt_of_lt_of_le h1 ?_
      rw [Nat.pow_succ, Nat.mul_comm (16 ^ l.length) 16, ← Nat.mul_assoc]
      exact Nat.mul_le_mul_right _ (by omega)
  have := this l 0 h
  simpa [hexV] using this
theorem uid_starts {s : ByteArray} (h2 : 2 ≤ s.size) : (s.extract 0 2 = ⟨#[48, 120]⟩) ↔ (∃ r, s.data.toList = 48 :: 120 :: r) := by
  have hl := list_two s h2
  constructor
  · intro h
    have h1 := congrArg (fun t : ByteArray => t.data.toList) h
    simp only [ba_extract, List.drop_zero] at h1
    rw [hl] at h1
    simp at h1
    exact ⟨s.data.toList.drop 2, by rw [hl, h1.1, h1.2]; simp⟩
  · rintro ⟨r, hr⟩
    apply ba_ext
    rw [ba_extract, hr]; rfl
set_option maxHeartbeats 1000000 in
set_option maxRecDepth 100000 in
theorem readUid_doc (s : ByteArray) (hm : s.size ≤ 150000000000000) (w : World) :
    Calls Tryz.prog 38 #[.string s] w fun e w' => ∃ x, e = .returned (.int .u64 x) ∧ w' = w ∧ okUid s.data.toList x := by
  have hlen : ∀ m : Nat, m < 18446744073709551616 → 48 :: 120 :: hexL m = s.data.toList → 3 ≤ s.size ∧ s.size ≤ 18 := by
    intro m hm0 he
    have h1 := hexL_16 m hm0
    rw [← ba_len, ← he]; simp; omega
  by_cases h3 : s.size < 3
  · have HN := hide (okUid_none (l := s.data.toList) (fun m _ h1 h2 => by have := hlen m h1 h2; omega))
    have i3 : (s.size : Int) < 3 := by omega
    clear hlen
    go_enter Tryz.func38, Tryz.ntmps38
    go_wp2_with fail
    go_ret
    exact ⟨0, rfl, rfl, HN.out⟩
  have i3 : (3 : Int) ≤ (s.size : Int) := by omega
  by_cases h18 : 18 < s.size
  · have HN := hide (okUid_none (l := s.data.toList) (fun m _ h1 h2 => by have := hlen m h1 h2; omega))
    have i18 : (18 : Int) < (s.size : Int) := by omega
    clear hlen
    go_enter Tryz.func38, Tryz.ntmps38
    go_wp2_with fail
    go_ret
    exact ⟨0, rfl, rfl, HN.out⟩
  have i18 : (s.size : Int) ≤ 18 := by omega
  by_cases h0x : s.extract 0 2 = ⟨#[48, 120]⟩
  · obtain ⟨r, hr⟩ := (uid_starts (by omega)).1 h0x
    have hd2 : s.data.toList.drop 2 = r := by rw [hr]; rfl
    have hu := fun m (hm0 : m < 18446744073709551616) => uid_doc m hm0 w
    have HU := hide hu
    have HR := hide (And.intro hr hd2)
    clear hlen hr hd2 hu
    have hx1 : ((s.extract 0 2).toList == [48, 120]) = true := by rw [h0x, ByteArray.toList_eq]; decide
    clear h0x
    go_enter Tryz.func38, Tryz.ntmps38
    go_wp2_with fail
    go_loop [3, 4] (fun vu vi => ∃ (x i : Nat), vu = .int .u64 x ∧ vi = .int .i64 i ∧ 2 ≤ i ∧ i ≤ s.size ∧ Hid (x < 16 ^ (i - 2) ∧ x = hexV (r.take (i - 2)) ∧ ∀ c ∈ r.take (i - 2), isHx c)) (fun _ vi => s.size - (intOf vi).toNat)
    case atStart => exact ⟨0, 2, rfl, rfl, by omega, by omega, by simp, by simp [hexV], by simp⟩
    case round =>
      obtain ⟨x, i, rfl, rfl, h2i, his, HH⟩ := hrel
      by_cases hlt : i < s.size
      · have hn := drop_take_next s i h2i hlt
        rw [HR.out.2] at hn
        have HN2 := hide hn
        clear hn
        by_cases hx : isHx s[i]
        · have HC := hide (digit_yes s[i] hx w)
          have hvl := hv_lt hx
          have HX := hide hx
          have hx60 : x < 1152921504606846976 := Nat.lt_of_lt_of_le HH.out.1 (Nat.le_trans (Nat.pow_le_pow_right (by omega) (show i - 2 ≤ 15 by omega)) (by decide))
          have hor := or_hex x (hv s[i]) hx60 hvl
          have w16 : IntKind.u64.wrap ((x : Int) * 16) = (x : Int) * 16 := by rw [IntKind.wrap_u64]; omega
          have HV : Hid (x * 16 + hv s[i] = hexV (r.take (i + 1 - 2)) ∧ x * 16 + hv s[i] < 16 ^ (i + 1 - 2) ∧ ∀ c ∈ r.take (i + 1 - 2), isHx c) := hide (by
            rw [HN2.out, hexV_snoc, ← HH.out.2.1]
            refine ⟨rfl, ?_, ?_⟩
            · have h1 := HH.out.1
              rw [show i + 1 - 2 = (i - 2) + 1 by omega, Nat.pow_succ]
              omega
            · intro c hc
              simp only [List.mem_append, List.mem_singleton] at hc
              rcases hc with hc | rfl
              · exact HH.out.2.2 c hc
              · exact hx)
          generalize hv s[i] = d at *
          have d0 : (0 : Int) ≤ (d : Int) := by omega
          have d1 : (d : Int) < 16 := by omega
          have wd : IntKind.u64.wrap (d : Int) = (d : Int) := by rw [IntKind.wrap_u64]; omega
          clear hx hvl hx60
          go_wp2_with (go_at_call 71; refine HC.out.mono ?_; rintro e w' ⟨rfl, rfl⟩)
          exact ⟨⟨x * 16 + d, i + 1, by first | rfl | (congr 1), by first | rfl | (congr 1), by omega, by omega, HV.out.2.1, HV.out.1, HV.out.2.2⟩, by simp [intOf]; omega⟩
        · have HC := hide (digit_no s[i] hx w)
          have HNo := hide (okUid_none (l := s.data.toList) (fun m _ h1 h2 => by
            rw [HR.out.1] at h2
            injection h2 with _ h2
            injection h2 with _ h2
            have hmem : s[i] ∈ r := by
              have : s[i] ∈ r.take (i + 1 - 2) := by rw [HN2.out]; simp
              exact List.mem_of_mem_take this
            exact hx (hexL_hx m _ (by rw [h2]; exact hmem))))
          clear hx
          go_wp2_with (go_at_call 71; refine HC.out.mono ?_; rintro e w' ⟨rfl, rfl⟩)
          go_ret
          exact ⟨0, rfl, rfl, HNo.out⟩
      · have hrl : r.length = s.size - 2 := by rw [← HR.out.2, List.length_drop, ba_len]
        have ht : r.take (i - 2) = r := List.take_of_length_le (by omega)
        have hx64 : x < 18446744073709551616 := Nat.lt_of_lt_of_le HH.out.1 (Nat.le_trans (Nat.pow_le_pow_right (by omega) (show i - 2 ≤ 16 by omega)) (by decide))
        have HC := hide (HU.out x hx64)
        have i0 : (s.size : Int) ≤ (i : Int) := by omega
        have hxv : x = hexV r := by have := HH.out.2.1; rwa [ht] at this
        have hun : ∀ m : Nat, 48 :: 120 :: hexL m = s.data.toList → x = m := fun m h2 => by
          rw [HR.out.1] at h2
          injection h2 with _ h2
          injection h2 with _ h2
          rw [hxv, ← h2, hexV_hexL]
        by_cases heq : 48 :: 120 :: hexL x = s.data.toList
        · have HK : Hid (okUid s.data.toList (x : Int)) := hide ⟨by omega, by omega, fun _ => by simpa using heq, fun m _ _ h2 => by rw [hun m h2]⟩
          have hss : (⟨(48 :: 120 :: hexL x).toArray⟩ : ByteArray) = s := ba_ext heq
          rw [hss] at HC
          clear hxv hun heq hss hx64 ht hrl
          go_wp2_with (go_at_call 72; refine HC.out.mono ?_; rintro e w' ⟨rfl, rfl⟩)
          go_ret
          exact ⟨(x : Int), rfl, rfl, HK.out⟩
        · have HK : Hid (okUid s.data.toList 0) := hide (okUid_none (fun m _ _ h2 => heq (by rw [hun m h2]; exact h2)))
          have hq : ((⟨(48 :: 120 :: hexL x).toArray⟩ : ByteArray).toList == s.toList) = false := by
            rw [ByteArray.toList_eq, ByteArray.toList_eq]; simpa using heq
          generalize (⟨(48 :: 120 :: hexL x).toArray⟩ : ByteArray) = Y at *
          clear hxv hun heq hx64 ht hrl
          go_wp2_with (go_at_call 72; refine HC.out.mono ?_; rintro e w' ⟨rfl, rfl⟩)
          go_ret
          exact ⟨0, rfl, rfl, HK.out⟩
  · have HN := hide (okUid_none (l := s.data.toList) (fun m _ _ h2 => h0x ((uid_starts (by omega)).2 ⟨_, h2.symm⟩)))
    have hx1 : ((s.extract 0 2).toList == [48, 120]) = false := by
      rw [ByteArray.toList_eq]
      simp only [beq_eq_false_iff_ne]
      intro h
      exact h0x (ba_ext h)
    clear hlen h0x
    go_enter Tryz.func38, Tryz.ntmps38
    go_wp2_with fail
    go_ret
    exact ⟨0, rfl, rfl, HN.out⟩
end Go.Proofs.YtgghcfmpfneehaaGreatDoor
