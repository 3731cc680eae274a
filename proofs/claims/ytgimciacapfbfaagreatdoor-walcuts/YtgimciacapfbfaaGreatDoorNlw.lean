/- A record keeps its number: the law's walk. -/
import Derived.Test.YtgimciacapfbfaaGreatDoorCut
import Derived.Test.YtgimciacapfbfaaGreatDoorOpw
import Derived.Laws.BitsAllLaws
namespace Go.Proofs.YtgimciacapfbfaaGreatDoor
open Go.RowKit Go.Maps Go.WideMaps
theorem and_small (x : Int) : ∃ d : Nat, d ≤ 65535 ∧ bits .and .i64 x 65535 = (d : Int) := by
  have h16 : (BitVec.ofInt 64 65535).toNat = 2 ^ 16 - 1 := by decide
  have key : (BitVec.ofInt 64 x &&& BitVec.ofInt 64 65535).toNat = (x % ((2 ^ 64 : Nat) : Int)).toNat % 2 ^ 16 := by
    rw [BitVec.toNat_and, BitVec.toNat_ofInt, h16, Nat.and_two_pow_sub_one_eq_mod]
  refine ⟨(x % ((2 ^ 64 : Nat) : Int)).toNat % 2 ^ 16, by omega, ?_⟩
  show IntKind.i64.wrap ((BitVec.ofInt 64 x &&& BitVec.ofInt 64 65535).toNat : Nat) = _
  rw [key, IntKind.wrap_i64]
  omega
theorem cut_arg (kd R c0 : Nat) (h1 : kd ≤ 1000) (h2 : c0 ≤ 65535) : wrap64 (1 + 32 * (kd : Int) + (c0 : Int) % (1 + 32 * (kd : Int) + (R : Int) - (1 + 32 * (kd : Int)) + 1)) = ((1 + 32 * kd + c0 % (R + 1) : Nat) : Int) := by
  have e : (1 + 32 * (kd : Int) + (R : Int) - (1 + 32 * (kd : Int)) + 1) = ((R + 1 : Nat) : Int) := by omega
  rw [e, ← Int.natCast_emod]
  have := Nat.mod_le c0 (R + 1)
  unfold wrap64
  omega
set_option maxRecDepth 100000 in
set_option maxHeartbeats 8000000 in
theorem numbers_law (l : List (List UInt8)) (N cap g off : Nat) (a : Option Addr) (hN : l.length = N) (ha : N ≠ 0 → a = some ⟨g, off, none⟩) (dr ct : Int) (m : List UInt8) (w : World) (hg : Gl w) (hgl : N ≠ 0 → g < w.heap.size) (hrow : RowS w g off l) :
    Calls Tryz.prog 4 #[.slice a N cap, .int .i64 dr, .int .i64 ct, .string ⟨m.toArray⟩] w fun e w' => e = .returned (.bool true) ∧ Bel w w' := by
  have HN := hide hN
  have HA := hide ha
  have HG := hide hg
  have HGL := hide hgl
  have HROW := hide hrow
  have h6 := hide (new_any 16777216 (by omega) 1000 w)
  obtain ⟨d0, hd0, hand⟩ := and_small dr
  obtain ⟨c0, hc0, hanc⟩ := and_small ct
  clear hN ha hg hgl hrow
  have hnm : ([119] : List UInt8) ≠ [] := by simp
  go_enter Tryz.func4, Tryz.ntmps4
  go_wp2_with fail
  refine (unhide h6).mono ?_
  rintro e w1 ⟨p, rfl, hd1, hb1⟩
  have HDA : Hid (Da w 1000 (fun i => i < w.heap.size) w1 p (PD.new 16777216)) := da_new hd1 hb1 (Bel.refl w) (fun i hi => hi) (fun i hi => hi)
  clear hd1
  go_wp2_with fail
  refine (open_new (unhide HDA) (unhide HG) [119] hnm (by decide) (by decide) rfl (by decide) (by decide)).mono ?_
  rintro e w2 ⟨q, rfl, hwa2, hkp2⟩
  have H2 := hide hwa2
  clear hwa2 hkp2 HDA h6
  by_cases hbig : 200 < N
  · have hb1 : (200 : Int) < (N : Int) := by omega
    go_wp2_with (go_at_call 17; refine (alive_any _ ((unhide HG).next (unhide H2).bel)).mono ?_; rintro e w3 ⟨rfl, hb3⟩)
    go_ret
    exact ⟨rfl, (unhide H2).bel.trans hb3⟩
  by_cases hmb : 300 < m.length
  · have hb1 : ¬ (200 : Int) < (N : Int) := by omega
    have hb2 : (300 : Int) < (m.length : Int) := by omega
    go_wp2_with (go_at_call 17; refine (alive_any _ ((unhide HG).next (unhide H2).bel)).mono ?_; rintro e w3 ⟨rfl, hb3⟩)
    go_ret
    exact ⟨rfl, (unhide H2).bel.trans hb3⟩
  have hb1 : ¬ (200 : Int) < (N : Int) := by omega
  have hb2 : ¬ (300 : Int) < (m.length : Int) := by omega
  go_wp2_with fail
  go_loopw [12] (fun vi wr => ∃ k : Nat, k ≤ N ∧ vi = .int .i64 k ∧ wr = w2 ∧ Hid (∀ b ∈ l.take k, b.length ≤ 300)) (fun vi _ => N - (intOf vi).toNat)
  case atStart => exact ⟨0, Nat.zero_le _, rfl, rfl, by intro b hb; simp at hb⟩
  case round =>
    obtain ⟨k, hk, rfl, rfl, HO⟩ := hrel
    by_cases hlt : k < N
    · have hki : (k : Int) < (N : Int) := by omega
      have hkl : k < l.length := by rw [HN.out]; exact hlt
      obtain rfl := HA.out (by omega)
      have x0 := ((unhide H2).bel.cell (p := ⟨g, off + k, none⟩) ((unhide HGL) (by omega))).trans ((unhide HROW) k hkl)
      have hnx : Hid (l[k].length ≤ 300 → ∀ b ∈ l.take (k + 1), b.length ≤ 300) := fun h b hb => by
        rw [take_one l k hkl] at hb
        rcases List.mem_append.1 hb with h' | h'
        · exact (unhide HO) b h'
        · rw [List.mem_singleton.1 h']; exact h
      generalize l[k] = s at x0 hnx
      by_cases hs : 300 < s.length
      · have hs1 : (300 : Int) < (s.length : Int) := by omega
        go_wp2_with (go_at_call 17; refine (alive_any _ ((unhide HG).next (unhide H2).bel)).mono ?_; rintro e w3 ⟨rfl, hb3⟩)
        go_ret
        exact ⟨rfl, (unhide H2).bel.trans hb3⟩
      · have hs1 : ¬ (300 : Int) < (s.length : Int) := by omega
        go_wp2_with fail
        go_roundw
        case rel => exact ⟨k + 1, by omega, by go_num, by first | rfl | trivial, (unhide hnx) (by omega)⟩
        case measure => simp [intOf]; omega
    · have hki : ¬ (k : Int) < (N : Int) := by omega
      have hall : ∀ b ∈ l, b.length ≤ 300 := by
        have := unhide HO
        rwa [List.take_of_length_le (by rw [HN.out]; omega)] at this
      have hi0 := inv_new [119] 16777216 hnm (by decide)
      have hll : l.length ≤ 200 := by rw [HN.out]; omega
      have hcan := inv_cans hi0 l (by omega) hall (by show _ ≤ 16777216; omega)
      obtain ⟨hits, hroom⟩ := inv_its l hi0 (by omega) hall (by show _ ≤ 16777216; omega)
      obtain ⟨hrs, hfirst, hname⟩ := its_rs l ⟨[119], 1, 0, []⟩ (PD.new 16777216)
      have h8 := hide (wapp_any (unhide H2) (unhide HG) hnm l N cap g off a (unhide HN) (by omega) (unhide HA) (fun h => (unhide HGL) h) (fun j hj => ((unhide H2).bel.cell (p := ⟨g, off + j, none⟩) ((unhide HGL) (by have := HN.out; omega))).trans ((unhide HROW) j hj)) (fun s hs => by have := hall s hs; omega) (by omega) hcan)
      generalize l.foldl stp (⟨[119], 1, 0, []⟩, PD.new 16777216) = S at h8 hits hroom hrs hfirst hname
      obtain ⟨x, d⟩ := S
      simp only at h8 hits hroom hrs hfirst hname
      rw [List.map_nil, List.nil_append] at hrs
      go_wp2_with (go_at_call 8; refine (unhide h8).mono ?_; rintro e w3 ⟨rfl, hwa3, hkp3⟩)
      have hxl : x.rs.length = N := by have := congrArg List.length hrs; rw [List.length_map] at this; rw [this, HN.out]
      have H3 := hide hwa3
      have HITS := hide hits
      have h18 := hide (drop_any hwa3 (unhide HG) hits (by omega) (by omega) (d0 % (N + 2)) (by unfold PW.next; have := Nat.mod_lt d0 (show 0 < N + 2 by omega); omega))
      rw [show (d0 : Int) % ((N : Int) + 2) = ((d0 % (N + 2) : Nat) : Int) by rw [Int.natCast_emod]; rfl]
      refine (unhide h18).mono ?_
      rintro e w4 ⟨rfl, kd, x4, d4, hD⟩
      have HD := hide hD
      have hf4 : x4.first = 1 + 32 * kd := by rw [hD.first, hfirst]
      have hrs4 : Hid (x4.rs.map (·.1) = l.drop (32 * kd)) := by
        show _ = _
        rw [hD.rs, List.map_drop, hrs]
      have hkd : 32 * kd ≤ N := by have := hD.le; omega
      have hx4l : x4.rs.length = N - 32 * kd := by rw [hD.rs, List.length_drop, hxl]
      have hIs4 := hide (hD.inv.is (by omega))
      have h12 := hide (first_any hD.wa (unhide hIs4))
      have h13 := hide (fun W (hb : Bel w4 W) => next_any (hD.wa.up hb) (unhide hIs4))
      clear hits hcan hwa3 hkp3 hi0 hall h8 h18 hD
      rw [hf4] at h12 h13
      rw [hx4l] at h13
      go_wp2_with fail
      refine (unhide h12).mono ?_
      rintro e w5 ⟨rfl, hw5⟩
      rw [hw5]
      clear hw5
      go_wp2_with fail
      refine ((unhide h13) _ (Bel.refl _)).mono ?_
      rintro e w6 ⟨rfl, hb6⟩
      go_wp2_with fail
      rw [cut_arg kd (N - 32 * kd) c0 (by omega) hc0]
      have hcr := Nat.mod_lt c0 (show 0 < N - 32 * kd + 1 by omega)
      obtain ⟨f, hf⟩ : ∃ z, z = 1 + 32 * kd + c0 % (N - 32 * kd + 1) := ⟨_, rfl⟩
      rw [← hf]
      have hf1 : 1 + 32 * kd ≤ f := by omega
      have hf2 : f ≤ 1 + N := by omega
      clear hf hcr
      refine (cut_any ((unhide HD).wa.up hb6) (unhide HG) (unhide HD).inv (by have := HN.out; omega) (by omega) f (by omega) (by omega)).mono ?_
      rintro e w7 ⟨rfl, la, c7, d7, hwa7, hkp7, hinw7, hc7, hroom7⟩
      have hlen7 : (x4.rs.take (f - x4.first)).length = f - x4.first := by rw [List.length_take]; omega
      have hrs7 : Hid ((x4.rs.take (f - x4.first)).map (·.1) = (l.drop (32 * kd)).take (f - (1 + 32 * kd))) := by
        show _ = _
        rw [List.map_take, unhide hrs4, hf4]
      have hroom7' : Hid (308 * (c7 + 1) ≤ d7.room) := by
        show _ ≤ _
        rw [hroom7, (unhide HD).room, hroom]; show _ ≤ 16777216; omega
      obtain ⟨x7, hx7⟩ : ∃ z, z = (⟨x4.nm, x4.first, la, x4.rs.take (f - x4.first)⟩ : PW) := ⟨_, rfl⟩
      rw [← hx7] at hwa7 hinw7
      have hx7f : x7.first = 1 + 32 * kd := by rw [hx7]; exact hf4
      have hx7l : x7.rs.length = f - (1 + 32 * kd) := by rw [hx7]; show (x4.rs.take _).length = _; rw [hlen7, hf4]
      have hx7r : Hid (x7.rs.map (·.1) = (l.drop (32 * kd)).take (f - (1 + 32 * kd))) := by
        show _ = _
        rw [hx7]; exact unhide hrs7
      have H7 := hide hwa7
      have HW7 := hide hinw7
      have hIs7 := hide (hinw7.is hc7)
      have h13b := hide (next_any hwa7 (unhide hIs7))
      have h12b := hide (fun W (hb : Bel w7 W) => first_any (hwa7.up hb) (unhide hIs7))
      rw [hx7f, hx7l, show 1 + 32 * kd + (f - (1 + 32 * kd)) = f by omega] at h13b
      rw [hx7f] at h12b
      clear hwa7 hinw7 hx7 hrs7 hlen7 hkp7
      go_wp2_with fail
      refine (unhide h13b).mono ?_
      rintro e w8 ⟨rfl, hb8⟩
      go_wp2_with fail
      refine ((unhide h12b) w8 hb8).mono ?_
      rintro e w9 ⟨rfl, hw9⟩
      rw [hw9]
      clear hw9
      have H8 := hide ((unhide H7).up hb8)
      go_wp2_with fail
      have hba := (Bel.refl w8).alloc (.cells #[.string ⟨m.toArray⟩] 9)
      have H9 := hide ((unhide H8).more hba)
      have hsz : w8.heap.size < (w8.alloc (.cells #[.string ⟨m.toArray⟩] 9)).heap.size := by simp
      have hat := at_new w8 (.cells #[.string ⟨m.toArray⟩] 9)
      refine (wapp_any (unhide H9) (unhide HG) (unhide HW7).nm1 [m] 1 1 w8.heap.size 0 _ rfl (by decide) (fun _ => rfl) (fun _ => Or.inr ⟨Nat.le_refl _, hsz⟩) (fun j hj => ?_) (fun s hs => by rw [List.mem_singleton.1 hs]; omega) (by omega) (fun j hj => ?_)).mono ?_
      · obtain rfl : j = 0 := by simp at hj; omega
        exact cell_of hat
      · obtain rfl : j = 0 := by simp at hj; omega
        exact inw_can (unhide HW7) hc7 (by show m.length ≤ 300; omega) (unhide hroom7')
      rintro e w10 ⟨rfl, hwa10, hkp10⟩
      have hIs10 : Is ([m].foldl stp (x7, d7)).1 := ⟨(unhide HW7).nm1, (unhide hIs7).fi, by show (x7.rs ++ [_]).length ≤ _; rw [List.length_append]; simp; omega⟩
      have hf10 : ([m].foldl stp (x7, d7)).1.first = 1 + 32 * kd := hx7f
      have hr10 : Hid (([m].foldl stp (x7, d7)).1.rs.map (·.1) = (l.drop (32 * kd)).take (f - (1 + 32 * kd)) ++ [m]) := by
        show (x7.rs ++ [_]).map _ = _
        rw [List.map_append, unhide hx7r]; rfl
      have hl10 : ([m].foldl stp (x7, d7)).1.rs.length = f - (1 + 32 * kd) + 1 := by show (x7.rs ++ [_]).length = _; rw [List.length_append, hx7l]; rfl
      generalize [m].foldl stp (x7, d7) = T at hwa10 hIs10 hf10 hr10 hl10
      obtain ⟨x10, d10⟩ := T
      simp only at hwa10 hIs10 hf10 hr10 hl10
      have H10 := hide hwa10
      have HIS := hide hIs10
      clear hwa10 hkp10 hIs10 hat hba H9 h12b h13b
      go_wp2_with fail
      go_loopw [16, 17, 18] (fun vi _ _ wr => ∃ j : Nat, 1 + 32 * kd ≤ j ∧ j ≤ f ∧ vi = .int .i64 j ∧ Hid (Bel w10 wr)) (fun vi _ _ _ => f - (intOf vi).toNat)
      case atStart => exact ⟨1 + 32 * kd, Nat.le_refl _, hf1, by go_num, Bel.refl _⟩
      case round =>
        obtain ⟨j, hj1, hj2, rfl, HO2⟩ := hrel
        have h17 := hide (fun W (hb : Bel w10 W) => alive_any W ((unhide HG).next ((unhide H10).bel.trans hb)))
        by_cases hlt2 : j < f
        · have hji : (j : Int) < (f : Int) := by omega
          have hjl : j - 1 < l.length := by rw [HN.out]; omega
          obtain rfl := HA.out (by omega)
          have hval : (x10.rs[j - x10.first]'(by omega)).1 = l[j - 1] := by
            have e : (x10.rs.map (·.1))[j - x10.first]? = ((l.drop (32 * kd)).take (f - (1 + 32 * kd)) ++ [m])[j - x10.first]? := by rw [unhide hr10]

            rw [List.getElem?_map, List.getElem?_eq_getElem (show j - x10.first < x10.rs.length by omega), List.getElem?_append_left (by rw [List.length_take, List.length_drop, HN.out]; omega), List.getElem?_take, if_pos (by omega), List.getElem?_drop, show 32 * kd + (j - x10.first) = j - 1 by omega, List.getElem?_eq_getElem hjl] at e
            exact Option.some.inj e
          have h14 := hide (at_any ((unhide H10).up (unhide HO2)) (unhide HIS) j (by omega) (by omega))
          rw [hval] at h14
          have x0 := fun W (hb : Bel wr W) => (((unhide H10).bel.trans ((unhide HO2).trans hb)).cell (p := ⟨g, off + (j - 1), none⟩) ((unhide HGL) (by omega))).trans ((unhide HROW) (j - 1) hjl)
          have X0 := hide x0
          unfold vS at h14
          have e1 : IntKind.i64.wrap ((j : Int) - 1) = ((j - 1 : Nat) : Int) := by rw [wrapI (by omega) (by omega)]; omega
          generalize l[j - 1] = sj at h14 X0
          have hj1' : j - 1 < N := by omega
          clear x0 hval
          go_wp2_with (go_at_call 14; refine (unhide h14).mono ?_; rintro e w11 ⟨rfl, hb11⟩; have x1 := (unhide X0) w11 hb11)
          go_roundw
          case rel => exact ⟨j + 1, by omega, by omega, by go_num, (unhide HO2).trans hb11⟩
          case measure => simp [intOf]; omega
        · have hji : ¬ (j : Int) < (f : Int) := by omega
          have hval : (x10.rs[f - x10.first]'(by omega)).1 = m := by
            have e : (x10.rs.map (·.1))[f - x10.first]? = ((l.drop (32 * kd)).take (f - (1 + 32 * kd)) ++ [m])[f - x10.first]? := by rw [unhide hr10]

            have hlq : ((l.drop (32 * kd)).take (f - (1 + 32 * kd))).length = f - (1 + 32 * kd) := by rw [List.length_take, List.length_drop, HN.out]; omega
            rw [List.getElem?_map, List.getElem?_eq_getElem (show f - x10.first < x10.rs.length by omega), List.getElem?_append_right (by omega), hlq, show f - x10.first - (f - (1 + 32 * kd)) = 0 by omega] at e
            exact Option.some.inj e
          have h14 := hide (at_any ((unhide H10).up (unhide HO2)) (unhide HIS) f (by omega) (by omega))
          rw [hval] at h14
          unfold vS at h14
          clear hval
          go_wp2_with (first
            | (go_at_call 14; refine (unhide h14).mono ?_; rintro e w11 ⟨rfl, hb11⟩)
            | (go_at_call 17; refine ((unhide h17) _ ((unhide HO2).trans hb11)).mono ?_; rintro e w12 ⟨rfl, hb12⟩))
          go_ret
          exact ⟨rfl, (unhide H10).bel.trans ((unhide HO2).trans (hb11.trans hb12))⟩
end Go.Proofs.YtgimciacapfbfaaGreatDoor
