/- What the program's and the document's Key return; for every text whose key is no longer than any row may be. -/
import Derived.Test.YtgghcfmpfneehaaGreatDoorOwn
namespace Go.Proofs.YtgghcfmpfneehaaGreatDoor
open Go.RowKit
def esc (l : List UInt8) : List UInt8 := l.flatMap fun c => if c = 0 then [0, 255] else [c]
def key (l : List UInt8) : List UInt8 := esc l ++ [0, 1]
theorem esc_snoc0 (l : List UInt8) : esc (l ++ [0]) = esc l ++ [0] ++ [255] := by simp [esc]
theorem esc_snoc (l : List UInt8) (c : UInt8) (h : c ≠ 0) : esc (l ++ [c]) = esc l ++ [c] := by simp [esc, h]
theorem esc_append (a b : List UInt8) : esc (a ++ b) = esc a ++ esc b := by simp [esc]
theorem esc_take_le (l : List UInt8) (k : Nat) : (esc (l.take k)).length ≤ (esc l).length := by
  have e : esc l = esc (l.take k) ++ esc (l.drop k) := by rw [← esc_append, List.take_append_drop]
  rw [e, List.length_append]; omega
theorem take_snoc (s : ByteArray) (k : Nat) (h : k < s.size) : s.data.toList.take (k + 1) = s.data.toList.take k ++ [s[k]] := by
  rw [List.take_succ_eq_append_getElem (by simpa using h)]; rfl
theorem key_len (l : List UInt8) : (key l).length = (esc l).length + 2 := by simp [key]
theorem esc_ge (l : List UInt8) : l.length ≤ (esc l).length := by
  induction l with
  | nil => simp [esc]
  | cons c l ih =>
    have e : esc (c :: l) = esc [c] ++ esc l := esc_append [c] l
    have h1 : 1 ≤ (esc [c]).length := by by_cases h : c = 0 <;> simp [esc, h]
    rw [e, List.length_append, List.length_cons]; omega
theorem key_room (s : ByteArray) (h : (key s.data.toList).length ≤ 200000000000000) : s.size + 2 ≤ 200000000000000 := by
  have h1 := esc_ge s.data.toList
  rw [key_len] at h
  have e : s.data.toList.length = s.size := by simp
  omega
theorem refKey_any (s : ByteArray) (hs : (key s.data.toList).length ≤ 200000000000000) (w : World) :
    Calls Tryz.prog 46 #[.string s] w fun e w' => e = .returned (.string ⟨(key s.data.toList).toArray⟩) ∧ Bel w w' := by
  have hss := key_room s hs
  have Hs := hide hs
  clear hs
  go_enter Tryz.func46, Tryz.ntmps46
  go_wp2_with fail
  go_loopw [3, 4] (fun v i W => ∃ k : Nat, k ≤ s.size ∧ i = .int .i64 k ∧ OB w W v (esc (s.data.toList.take k))) (fun _ i _ => s.size - (intOf i).toNat)
  case atStart => exact ⟨0, Nat.zero_le _, rfl, OB.nil w⟩
  case round =>
    obtain ⟨k, hk, rfl, ho⟩ := hrel
    have Ho := hide ho
    clear ho
    have Hl0 := hide (key_len s.data.toList ▸ Hs.out)
    by_cases hlt : k < s.size
    · have hb := (s[k]).toNat_lt
      have Hl := hide (esc_take_le s.data.toList (k + 1))
      by_cases hz : s[k] = 0
      · have hzz : ((s[k]).toNat : Int) = 0 := by rw [hz]; rfl
        have Hz : Hid (esc (s.data.toList.take (k + 1)) = esc (s.data.toList.take k) ++ [0] ++ [255]) := by
          rw [take_snoc s k hlt, hz, esc_snoc0]; exact hide rfl
        have Hb : Hid ((esc (s.data.toList.take k)).length + 2 ≤ 200000000000000) := by
          have h1 := Hl.out; have h2 := Hl0.out; rw [Hz.out] at h1; simp at h1; exact hide (by omega)
        clear hz
        go_wp2_with (at_builtin; first
          | (refine append_bytes Ho.out [0] (by have := Hb.out; simp; omega) rfl _ _ rfl rfl rfl ?_; intro v1 w1 ho1)
          | (refine append_bytes ho1 [255] (by have := Hb.out; simp; omega) rfl _ _ rfl rfl rfl ?_; intro v2 w2 ho2))
        go_roundw
        case rel => exact ⟨k + 1, by omega, by go_num, by rw [Hz.out]; exact ho2⟩
        case measure => simp [intOf]; omega
      · have hzz : (((s[k]).toNat : Int) == 0) = false := by
          rw [beq_eq_false_iff_ne]; intro h; exact hz (UInt8.toNat_inj.1 (by simpa using h))
        have Hz : Hid (esc (s.data.toList.take (k + 1)) = esc (s.data.toList.take k) ++ [s[k]]) := by
          rw [take_snoc s k hlt, esc_snoc _ _ hz]; exact hide rfl
        have Hb : Hid ((esc (s.data.toList.take k)).length + 1 ≤ 200000000000000) := by
          have h1 := Hl.out; have h2 := Hl0.out; rw [Hz.out] at h1; simp at h1; exact hide (by omega)
        clear hz
        go_wp2_with (at_builtin; refine append_bytes Ho.out [s[k]] (by have := Hb.out; simp; omega) rfl _ _ rfl rfl rfl ?_; intro v1 w1 ho1)
        go_roundw
        case rel => exact ⟨k + 1, by omega, by go_num, by rw [Hz.out]; exact ho1⟩
        case measure => simp [intOf]; omega
    · have Hz : Hid (s.data.toList.take k = s.data.toList) := hide (List.take_of_length_le (by simp; omega))
      rw [Hz.out] at Ho
      go_wp2_with (at_builtin; first
          | (refine append_bytes Ho.out [0] (by have := Hl0.out; simp; omega) rfl _ _ rfl rfl rfl ?_; intro v1 w1 ho1)
          | (refine append_bytes ho1 [1] (by have := Hl0.out; simp; omega) rfl _ _ rfl rfl rfl ?_; intro v2 w2 ho2; have hcv := ho2.text))
      go_ret
      exact ⟨rfl, ho2.bel⟩
theorem key_any (s : ByteArray) (hs : (key s.data.toList).length ≤ 200000000000000) (w : World) :
    Calls Tryz.prog 81 #[.string s] w fun e w' => e = .returned (.string ⟨(key s.data.toList).toArray⟩) ∧ Bel w w' := by
  obtain ⟨i0, hi, hz0, hz1, hz2⟩ := Tryz.i5
  have Hs := hide hs
  have hss : s.size + 2 ≤ 200000000000000 := key_room s hs
  clear hs
  go_enter Tryz.func81, Tryz.ntmps81
  go_wp2_with (refine wpList_make_own _ rfl _ _ 98 rfl w.heap.size 5 i0 (.int .u8 0) 1 Tryz.underlying98 hi hz0 hz1 .i64 .i64 _ (s.size + 2) rfl rfl (by simp) (by rw [hz2]; omega) (by unfold maxLen; omega) (Nat.le_refl _) ?_; intro w0 ho0 hg0)
  go_loopw [3, 4, 11] (fun v _ i W => ∃ k : Nat, k ≤ s.size ∧ i = .int .i64 k ∧ OB w W v (esc (s.data.toList.take k))) (fun _ _ i _ => s.size - (intOf i).toNat)
  case atStart => exact ⟨0, Nat.zero_le _, rfl, ⟨ho0, Below.grown (Below.refl _ _) hg0 (Nat.le_refl _) (fun k hk => by cases hk)⟩⟩
  case round =>
    obtain ⟨k, hk, rfl, ho⟩ := hrel
    have Ho := hide ho
    clear ho
    have Hl0 := hide (key_len s.data.toList ▸ Hs.out)
    by_cases hlt : k < s.size
    · have hb := (s[k]).toNat_lt
      have Hl := hide (esc_take_le s.data.toList (k + 1))
      by_cases hz : s[k] = 0
      · have hzz : ((s[k]).toNat : Int) = 0 := by rw [hz]; rfl
        have Hz : Hid (esc (s.data.toList.take (k + 1)) = esc (s.data.toList.take k) ++ [0] ++ [255]) := by
          rw [take_snoc s k hlt, hz, esc_snoc0]; exact hide rfl
        have Hb : Hid ((esc (s.data.toList.take k)).length + 2 ≤ 200000000000000) := by
          have h1 := Hl.out; have h2 := Hl0.out; rw [Hz.out] at h1; simp at h1; exact hide (by omega)
        clear hz
        go_wp2_with (at_builtin; first
          | (refine append_bytes Ho.out [0] (by have := Hb.out; simp; omega) rfl _ _ rfl rfl rfl ?_; intro v1 w1 ho1)
          | (refine append_bytes ho1 [255] (by have := Hb.out; simp; omega) rfl _ _ rfl rfl rfl ?_; intro v2 w2 ho2))
        go_roundw
        case rel => exact ⟨k + 1, by omega, by go_num, by rw [Hz.out]; exact ho2⟩
        case measure => simp [intOf]; omega
      · have hzz : (((s[k]).toNat : Int) == 0) = false := by
          rw [beq_eq_false_iff_ne]; intro h; exact hz (UInt8.toNat_inj.1 (by simpa using h))
        have Hz : Hid (esc (s.data.toList.take (k + 1)) = esc (s.data.toList.take k) ++ [s[k]]) := by
          rw [take_snoc s k hlt, esc_snoc _ _ hz]; exact hide rfl
        have Hb : Hid ((esc (s.data.toList.take k)).length + 1 ≤ 200000000000000) := by
          have h1 := Hl.out; have h2 := Hl0.out; rw [Hz.out] at h1; simp at h1; exact hide (by omega)
        clear hz
        go_wp2_with (at_builtin; refine append_bytes Ho.out [s[k]] (by have := Hb.out; simp; omega) rfl _ _ rfl rfl rfl ?_; intro v1 w1 ho1)
        go_roundw
        case rel => exact ⟨k + 1, by omega, by go_num, by rw [Hz.out]; exact ho1⟩
        case measure => simp [intOf]; omega
    · have Hz : Hid (s.data.toList.take k = s.data.toList) := hide (List.take_of_length_le (by simp; omega))
      rw [Hz.out] at Ho
      go_wp2_with (at_builtin; refine append_bytes Ho.out [0, 1] (by have := Hl0.out; simp; omega) rfl _ _ rfl rfl rfl ?_; intro v2 w2 ho2; have hcv := ho2.text)
      go_ret
      exact ⟨rfl, ho2.bel⟩
end Go.Proofs.YtgghcfmpfneehaaGreatDoor
