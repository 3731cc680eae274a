/- What the program's and the document's ReadKey return; for every text. -/
import Derived.Test.YtgghcfmpfneehaaGreatDoorOwn
import Derived.Deep.RegionHeld3
namespace Go.Proofs.YtgghcfmpfneehaaGreatDoor
open Go.RowKit
def kRun : List UInt8 → List UInt8 → Bool → Nat → List UInt8 × Nat × Int
  | [], _, _, _ => ([], 0, 20)
  | c :: l, out, false, p => if c = 0 then kRun l out true (p + 1) else kRun l (out ++ [c]) false (p + 1)
  | c :: l, out, true, p => if c = 255 then kRun l (out ++ [0]) false (p + 1) else if c = 1 then (out, p + 1, 0) else ([], 0, 21)
def rKey (s : ByteArray) : ByteArray × ByteArray × Int :=
  (⟨(kRun s.data.toList [] false 0).1.toArray⟩, if (kRun s.data.toList [] false 0).2.2 = 0 then s.extract (kRun s.data.toList [] false 0).2.1 s.size else ⟨#[]⟩, (kRun s.data.toList [] false 0).2.2)
theorem rKey_ok {s : ByteArray} {out : List UInt8} {p : Nat} (h : kRun s.data.toList [] false 0 = (out, p, 0)) : rKey s = (⟨out.toArray⟩, s.extract p s.size, 0) := by
  unfold rKey; rw [h]; simp
theorem rKey_bad {s : ByteArray} {x : Int} (h : kRun s.data.toList [] false 0 = ([], 0, x)) (hx : x ≠ 0) : rKey s = (⟨#[]⟩, ⟨#[]⟩, x) := by
  unfold rKey; rw [h]; simp [hx]
theorem drop_cons (s : ByteArray) (k : Nat) (h : k < s.size) : s.data.toList.drop k = s[k] :: s.data.toList.drop (k + 1) := by
  rw [List.drop_eq_getElem_cons (by simpa using h)]; rfl
theorem drop_none (s : ByteArray) (k : Nat) (h : s.size ≤ k) : s.data.toList.drop k = [] := List.drop_eq_nil_of_le (by simpa using h)
theorem byte_eq {c : UInt8} {n : Nat} (hn : n < 256) (h : c = UInt8.ofNat n) : ((c.toNat : Nat) : Int) = (n : Int) := by
  rw [h, UInt8.toNat_ofNat']; omega
theorem byte_ne {c : UInt8} {n : Nat} (hn : n < 256) (h : c ≠ UInt8.ofNat n) : (((c.toNat : Nat) : Int) == (n : Int)) = false := by
  rw [beq_eq_false_iff_ne]; intro e; apply h
  apply UInt8.toNat_inj.1
  rw [UInt8.toNat_ofNat']; omega
theorem key_end (s : ByteArray) (k : Nat) (out : List UInt8) (r : ByteArray × ByteArray × Int) (hr : r = (⟨out.toArray⟩, s.extract (k + 1) s.size, 0)) (w w' : World) (hb : Bel w w') :
    Ending.returned (.tuple #[.string ⟨out.toArray⟩, .string (s.extract ((k : Int) + 1).toNat s.size), .int .i64 0]) = Ending.returned (.tuple #[.string r.1, .string r.2.1, .int .i64 r.2.2]) ∧ Bel w w' := by
  have e : ((k : Int) + 1).toNat = k + 1 := by omega
  rw [e, hr]; exact ⟨rfl, hb⟩
set_option maxRecDepth 100000 in
set_option maxHeartbeats 4000000 in
theorem readKey_any (s : ByteArray) (hm : s.size ≤ 150000000000000) (w : World) :
    Calls Tryz.prog 59 #[.string s] w fun e w' => e = .returned (.tuple #[.string (rKey s).1, .string (rKey s).2.1, .int .i64 (rKey s).2.2]) ∧ Bel w w' := by
  go_enter Tryz.func59, Tryz.ntmps59
  go_wp2_with fail
  go_loopw [5, 6, 7, 10] (fun v f _ i W => ∃ k : Nat, ∃ m : Bool, ∃ out : List UInt8, k ≤ s.size ∧ out.length ≤ k ∧ i = .int .i64 k ∧ f = .bool m ∧ OB w W v out ∧ kRun (s.data.toList.drop k) out m k = kRun s.data.toList [] false 0) (fun _ _ _ i _ => s.size - (intOf i).toNat)
  case atStart => exact ⟨0, false, [], Nat.zero_le _, Nat.le_refl _, rfl, rfl, OB.nil w, rfl⟩
  case round =>
    obtain ⟨k, m, out, hk, hol, rfl, rfl, ho, hr⟩ := hrel
    have Ho := hide ho
    have Hr := hide hr
    have Hol := hide hol
    clear ho hr hol
    by_cases hlt : k < s.size
    · have hb := (s[k]).toNat_lt
      have Hd := hide (drop_cons s k hlt)
      cases m with
      | false =>
        by_cases hz : s[k] = 0
        · have hzz : ((s[k]).toNat : Int) = 0 := byte_eq (n := 0) (by omega) hz
          have Hn : Hid (kRun (s.data.toList.drop (k + 1)) out true (k + 1) = kRun s.data.toList [] false 0) := by
            have h := Hr.out
            rw [Hd.out, kRun, if_pos hz] at h
            exact hide h
          clear hz
          go_wp2_with fail
          go_roundw
          case rel => exact ⟨k + 1, true, out, by omega, by have := Hol.out; omega, by go_num, rfl, Ho.out, Hn.out⟩
          case measure => simp [intOf]; omega
        · have hzz : (((s[k]).toNat : Int) == 0) = false := byte_ne (n := 0) (by omega) hz
          have Hn : Hid (kRun (s.data.toList.drop (k + 1)) (out ++ [s[k]]) false (k + 1) = kRun s.data.toList [] false 0) := by
            have h := Hr.out
            rw [Hd.out, kRun, if_neg hz] at h
            exact hide h
          clear hz
          go_wp2_with (at_builtin; refine append_bytes Ho.out [s[k]] (by have := Hol.out; simp; omega) rfl _ _ rfl rfl rfl ?_; intro v1 w1 ho1)
          go_roundw
          case rel => exact ⟨k + 1, false, out ++ [s[k]], by omega, by have := Hol.out; simp; omega, by go_num, rfl, ho1, Hn.out⟩
          case measure => simp [intOf]; omega
      | true =>
        by_cases hz : s[k] = 255
        · have hzz : ((s[k]).toNat : Int) = 255 := byte_eq (n := 255) (by omega) hz
          have Hn : Hid (kRun (s.data.toList.drop (k + 1)) (out ++ [0]) false (k + 1) = kRun s.data.toList [] false 0) := by
            have h := Hr.out
            rw [Hd.out, kRun, if_pos hz] at h
            exact hide h
          clear hz
          go_wp2_with (at_builtin; refine append_bytes Ho.out [0] (by have := Hol.out; simp; omega) rfl _ _ rfl rfl rfl ?_; intro v1 w1 ho1)
          go_roundw
          case rel => exact ⟨k + 1, false, out ++ [0], by omega, by have := Hol.out; simp; omega, by go_num, rfl, ho1, Hn.out⟩
          case measure => simp [intOf]; omega
        · have hzz : (((s[k]).toNat : Int) == 255) = false := byte_ne (n := 255) (by omega) hz
          by_cases h1 : s[k] = 1
          · have h11 : ((s[k]).toNat : Int) = 1 := byte_eq (n := 1) (by omega) h1
            have Hn : Hid (rKey s = (⟨out.toArray⟩, s.extract (k + 1) s.size, 0)) := by
              have h := Hr.out
              rw [Hd.out, kRun, if_neg hz, if_pos h1] at h
              exact hide (rKey_ok h.symm)
            clear hz h1
            have hcv := Ho.out.text
            have hcv2 := Ho.out.drew.text
            have f0 : IntKind.i64.wrap ((k : Int) + 1) = (k : Int) + 1 := by rw [IntKind.wrap_i64]; omega
            have f1 : (0 : Int) ≤ (k : Int) + 1 := by omega
            have f2 : (k : Int) + 1 ≤ (s.size : Int) := by omega
            go_wp2_with fail
            go_region_held3 (fun W => (convert 98 9 u5).run Tryz.prog W = .ok (.string ⟨out.toArray⟩) W) (assumption) (fail)
            all_goals
              go_wp2
              go_ret3
              exact key_end s k out _ Hn.out _ _ Ho.out.bel.drew
          · have h11 : (((s[k]).toNat : Int) == 1) = false := byte_ne (n := 1) (by omega) h1
            have Hn : Hid (rKey s = (⟨#[]⟩, ⟨#[]⟩, 21)) := by
              have h := Hr.out
              rw [Hd.out, kRun, if_neg hz, if_neg h1] at h
              exact hide (rKey_bad h.symm (by decide))
            clear hz h1
            go_wp2_with fail
            go_ret3
            rw [Hn.out]
            exact ⟨rfl, Ho.out.bel⟩
    · have Hn : Hid (rKey s = (⟨#[]⟩, ⟨#[]⟩, 20)) := by
        have h := Hr.out
        rw [drop_none s k (by omega), kRun] at h
        exact hide (rKey_bad h.symm (by decide))
      go_wp2_with fail
      go_ret3
      rw [Hn.out]
      exact ⟨rfl, Ho.out.bel⟩
theorem key_end2 (s : ByteArray) (k : Nat) (out : List UInt8) (r : ByteArray × ByteArray × Int) (hr : r = (⟨out.toArray⟩, s.extract (k + 1 + 1) s.size, 0)) (w w' : World) (hb : Bel w w') :
    Ending.returned (.tuple #[.string ⟨out.toArray⟩, .string (s.extract ((k : Int) + 1 + 1).toNat s.size), .int .i64 0]) = Ending.returned (.tuple #[.string r.1, .string r.2.1, .int .i64 r.2.2]) ∧ Bel w w' := by
  have e : ((k : Int) + 1 + 1).toNat = k + 1 + 1 := by omega
  rw [e, hr]; exact ⟨rfl, hb⟩
set_option maxRecDepth 100000 in
set_option maxHeartbeats 4000000 in
theorem refReadKey_any (s : ByteArray) (hm : s.size ≤ 150000000000000) (w : World) :
    Calls Tryz.prog 64 #[.string s] w fun e w' => e = .returned (.tuple #[.string (rKey s).1, .string (rKey s).2.1, .int .i64 (rKey s).2.2]) ∧ Bel w w' := by
  go_enter Tryz.func64, Tryz.ntmps64
  go_wp2_with fail
  go_loopw [5, 6] (fun v i W => ∃ k : Nat, ∃ out : List UInt8, k ≤ s.size ∧ out.length ≤ k ∧ i = .int .i64 k ∧ OB w W v out ∧ kRun (s.data.toList.drop k) out false k = kRun s.data.toList [] false 0) (fun _ i _ => s.size - (intOf i).toNat)
  case atStart => exact ⟨0, [], Nat.zero_le _, Nat.le_refl _, rfl, OB.nil w, rfl⟩
  case round =>
    obtain ⟨k, out, hk, hol, rfl, ho, hr⟩ := hrel
    have Ho := hide ho
    have Hr := hide hr
    have Hol := hide hol
    clear ho hr hol
    by_cases hlt : k < s.size
    · have hb := (s[k]).toNat_lt
      have Hd := hide (drop_cons s k hlt)
      by_cases hz : s[k] = 0
      · have hzz : ((s[k]).toNat : Int) = 0 := byte_eq (n := 0) (by omega) hz
        have Hn : Hid (kRun (s.data.toList.drop (k + 1)) out true (k + 1) = kRun s.data.toList [] false 0) := by
          have h := Hr.out
          rw [Hd.out, kRun, if_pos hz] at h
          exact hide h
        clear hz
        have f0 : IntKind.i64.wrap ((k : Int) + 1) = (k : Int) + 1 := by rw [IntKind.wrap_i64]; omega
        by_cases hl2 : k + 1 < s.size
        · have hb2 := (s[k + 1]).toNat_lt
          have Hd2 := hide (drop_cons s (k + 1) hl2)
          have hne : (((k : Int) + 1) == (s.size : Int)) = false := by rw [beq_eq_false_iff_ne]; omega
          by_cases h255 : s[k + 1] = 255
          · have h5 : ((s[k + 1]).toNat : Int) = 255 := byte_eq (n := 255) (by omega) h255
            have Hn2 : Hid (kRun (s.data.toList.drop (k + 1 + 1)) (out ++ [0]) false (k + 1 + 1) = kRun s.data.toList [] false 0) := by
              have h := Hn.out
              rw [Hd2.out, kRun, if_pos h255] at h
              exact hide h
            clear h255
            go_wp2_with (at_builtin; refine append_bytes Ho.out [0] (by have := Hol.out; simp; omega) rfl _ _ rfl rfl rfl ?_; intro v1 w1 ho1)
            go_roundw
            case rel => exact ⟨k + 1 + 1, out ++ [0], by omega, by have := Hol.out; simp; omega, by go_num, ho1, Hn2.out⟩
            case measure => simp [intOf]; omega
          · have h5 : (((s[k + 1]).toNat : Int) != 255) = true := by rw [bne_iff_ne]; exact fun h => by have := byte_ne (n := 255) (by omega) h255; rw [beq_eq_false_iff_ne] at this; exact this h
            by_cases h1 : s[k + 1] = 1
            · have h11 : ((s[k + 1]).toNat : Int) = 1 := byte_eq (n := 1) (by omega) h1
              have Hn2 : Hid (rKey s = (⟨out.toArray⟩, s.extract (k + 1 + 1) s.size, 0)) := by
                have h := Hn.out
                rw [Hd2.out, kRun, if_neg h255, if_pos h1] at h
                exact hide (rKey_ok h.symm)
              clear h255 h1
              have hcv := Ho.out.text
              have hcv2 := Ho.out.drew.text
              have g0 : IntKind.i64.wrap ((k : Int) + 1 + 1) = (k : Int) + 1 + 1 := by rw [IntKind.wrap_i64]; omega
              have f1 : (0 : Int) ≤ (k : Int) + 1 + 1 := by omega
              have f2 : (k : Int) + 1 + 1 ≤ (s.size : Int) := by omega
              go_wp2_with fail
              go_region_held3 (fun W => (convert 98 9 u5).run Tryz.prog W = .ok (.string ⟨out.toArray⟩) W) (assumption) (fail)
              all_goals
                go_wp2
                go_ret3
                exact key_end2 s k out _ Hn2.out _ _ Ho.out.bel.drew
            · have h11 : (((s[k + 1]).toNat : Int) == 1) = false := byte_ne (n := 1) (by omega) h1
              have Hn2 : Hid (rKey s = (⟨#[]⟩, ⟨#[]⟩, 21)) := by
                have h := Hn.out
                rw [Hd2.out, kRun, if_neg h255, if_neg h1] at h
                exact hide (rKey_bad h.symm (by decide))
              clear h255 h1
              go_wp2_with fail
              go_ret3
              rw [Hn2.out]
              exact ⟨rfl, Ho.out.bel⟩
        · have Hn2 : Hid (rKey s = (⟨#[]⟩, ⟨#[]⟩, 20)) := by
            have h := Hn.out
            rw [drop_none s (k + 1) (by omega), kRun] at h
            exact hide (rKey_bad h.symm (by decide))
          have hne : (k : Int) + 1 = (s.size : Int) := by omega
          have hne2 : (((k : Int) + 1) == (s.size : Int)) = true := by rw [beq_iff_eq]; exact hne
          clear hne
          go_wp2_with fail
          go_ret3
          rw [Hn2.out]
          exact ⟨rfl, Ho.out.bel⟩
      · have hzz : (((s[k]).toNat : Int) != 0) = true := by rw [bne_iff_ne]; exact fun h => by have := byte_ne (n := 0) (by omega) hz; rw [beq_eq_false_iff_ne] at this; exact this h
        have Hn : Hid (kRun (s.data.toList.drop (k + 1)) (out ++ [s[k]]) false (k + 1) = kRun s.data.toList [] false 0) := by
          have h := Hr.out
          rw [Hd.out, kRun, if_neg hz] at h
          exact hide h
        clear hz
        go_wp2_with (at_builtin; refine append_bytes Ho.out [s[k]] (by have := Hol.out; simp; omega) rfl _ _ rfl rfl rfl ?_; intro v1 w1 ho1)
        go_roundw
        case rel => exact ⟨k + 1, out ++ [s[k]], by omega, by have := Hol.out; simp; omega, by go_num, ho1, Hn.out⟩
        case measure => simp [intOf]; omega
    · have Hn : Hid (rKey s = (⟨#[]⟩, ⟨#[]⟩, 20)) := by
        have h := Hr.out
        rw [drop_none s k (by omega), kRun] at h
        exact hide (rKey_bad h.symm (by decide))
      go_wp2_with fail
      go_ret3
      rw [Hn.out]
      exact ⟨rfl, Ho.out.bel⟩
end Go.Proofs.YtgghcfmpfneehaaGreatDoor
