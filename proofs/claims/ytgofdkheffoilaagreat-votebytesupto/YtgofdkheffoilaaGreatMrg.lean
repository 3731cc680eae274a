/- Members' numbers and lists of them, as the document holds them against each other. Lists and messages, as the document holds them against each other. -/
import Derived.Test.YtgofdkheffoilaaGreatDnb
import Derived.Deep.QuietTactic
import Derived.BigQuiet
namespace Go.Proofs.YtgofdkheffoilaaGreat
open Go.RowKit Go.Maps
theorem Bel.dr {W w : World} (h : Bel W w) (n : Nat) : Bel W (w.drewN n) := h.drewN n
theorem did_any (x : Int) (W : World) : Calls Tryz.prog 37 #[.int .i64 x] W fun e w' => e = .returned (.bool (idB x)) ∧ w' = W := by
  unfold idB
  by_cases h1 : 1 ≤ x
  · have h2 := decide_eq_true h1
    go_enter Tryz.func37, Tryz.ntmps37
    go_wp2_with fail
    go_ret
    exact ⟨by simp [h1], rfl⟩
  · have h2 := decide_eq_false h1
    go_enter Tryz.func37, Tryz.ntmps37
    go_wp2_with fail
    go_ret
    exact ⟨by simp, rfl⟩
set_option maxRecDepth 100000 in
set_option maxHeartbeats 2000000 in
theorem dids_any {W : World} {a : Option Addr} {l : List Int} (h : Sl E3 W a l) (cap : Nat) (hl : l.length ≤ 9000000000000000000) : Calls Tryz.prog 38 #[.slice a l.length cap] W fun e w' => e = .returned (.bool (aids 0 l)) ∧ ∃ m, w' = W.drewN m := by
  obtain ⟨g, off, hg, hR⟩ := h
  generalize hn : l.length = n at *
  have HN := hide hn
  have HG := hide hg
  have HR := hide hR
  have HI := hide did_any
  clear hn hg hR
  go_enter Tryz.func38, Tryz.ntmps38
  go_wp2_with fail
  go_loopw [3] (fun vk wr => ∃ k j : Nat, k ≤ n ∧ vk = .int .i64 k ∧ wr = W.drewN j ∧ Hid (aids 0 l = aids (if k = 0 then 0 else l.getD (k - 1) 0) (l.drop k))) (fun vk _ => n - (intOf vk).toNat)
  case atStart => exact ⟨0, 0, Nat.zero_le _, rfl, rfl, hide rfl⟩
  case round =>
    obtain ⟨k, j, hk, rfl, hwr, HE⟩ := hrel
    have HW : Hid (∃ m, wr = W.drewN m) := hide ⟨j, hwr⟩
    have HBl : Hid (Bel W wr) := hide (by rw [hwr]; exact (Bel.refl W).drewN _)
    have HNx : Hid (∀ q, ∃ m, wr.drewN q = W.drewN m) := hide (fun q => ⟨j + q, by rw [hwr, World.drewN_drewN]⟩)
    clear hwr
    by_cases hlt : k < n
    · have hkl : k < l.length := by rw [unhide HN]; exact hlt
      obtain rfl := (unhide HG) (by omega)
      have hkn : (k : Int) < n := by omega
      have hk0 : (0 : Int) ≤ k := by omega
      have r0 := (unhide HBl).cell (E3_cell (unhide HR) k hkl)
      have HD : Hid (aids (if k = 0 then 0 else l.getD (k - 1) 0) (l.drop k) = ((!decide (l[k] ≤ (if k = 0 then 0 else l.getD (k - 1) 0)) && idB l[k]) && aids l[k] (l.drop (k + 1)))) := hide (by rw [List.drop_eq_getElem_cons hkl]; rfl)
      have HP : Hid (l.getD k 0 = l[k]) := hide (by rw [List.getD_eq_getElem?_getD, List.getElem?_eq_getElem hkl]; rfl)
      have HV : Hid (idB l[k] = true → ¬ l[k] ≤ 0) := hide (by unfold idB; simp; omega)
      cases hx : idB l[k] with
      | false =>
        have HF : Hid (aids 0 l = false) := hide (by rw [unhide HE, unhide HD, hx]; simp)
        have HIx : Hid (∀ W', Calls Tryz.prog 37 #[.int .i64 l[k]] W' fun e w' => e = .returned (.bool false) ∧ w' = W') := hide (fun W' => by have := (unhide HI) l[k] W'; rwa [hx] at this)
        generalize l[k] = x at *
        go_wp2_with fail
        go_quiet ((go_at_call 37; refine Calls.quiet_of_same ((unhide HIx) _)))
        go_wp2_with fail
        go_ret
        exact ⟨by rw [unhide HF]; rfl, (unhide HNx) _⟩
      | true =>
        have HIx : Hid (∀ W', Calls Tryz.prog 37 #[.int .i64 l[k]] W' fun e w' => e = .returned (.bool true) ∧ w' = W') := hide (fun W' => by have := (unhide HI) l[k] W'; rwa [hx] at this)
        by_cases h0 : k = 0
        · have HF : Hid (aids 0 l = aids l[k] (l.drop (k + 1))) := hide (by rw [unhide HE, unhide HD, hx, if_pos h0]; simp [(unhide HV) hx])
          have HP2 : Hid (l.getD (k + 1 - 1) 0 = l[k]) := HP
          generalize l[k] = x at *
          have hd3 : (k : Int) = 0 := by omega
          have r00 : wr.cell? ⟨g, off, none⟩ = some (.int .i64 x) := by rw [h0] at r0; exact r0
          have hn0 : (0 : Int) < (n : Int) := by omega
          go_wp2_with fail
          go_quiet ((go_at_call 37; refine Calls.quiet_of_same ((unhide HIx) _)))
          go_wp2_with fail
          go_roundw
          case rel =>
            obtain ⟨j2, hj2⟩ := (unhide HNx) _
            exact ⟨k + 1, j2, by omega, by first | go_num | (rw [h0]; rfl) | (simp [h0]), hj2, hide (by rw [unhide HF, if_neg (by omega), unhide HP2])⟩
          case measure => simp [intOf]; omega
        · obtain ⟨q, rfl⟩ : ∃ q, k = q + 1 := ⟨k - 1, by omega⟩
          have hql : q < l.length := by omega
          have r1 := (unhide HBl).cell (E3_cell (unhide HR) q hql)
          have HP3 : Hid (l.getD (q + 1 - 1) 0 = l[q]) := hide (by rw [Nat.add_sub_cancel, List.getD_eq_getElem?_getD, List.getElem?_eq_getElem hql]; rfl)
          have hw : IntKind.i64.wrap (((q + 1 : Nat) : Int) - 1) = (q : Int) := by rw [wrapI (by omega) (by omega)]; omega
          have hqn : (q : Int) < n := by omega
          have hq0 : (0 : Int) ≤ q := by omega
          have hqt : ((q : Int)).toNat = q := by omega
          have hd : decide ((0 : Int) < ((q + 1 : Nat) : Int)) = true := decide_eq_true (by omega)
          have hpos : (0 : Int) < ((q + 1 : Nat) : Int) := by omega
          have HP2 : Hid (l.getD (q + 1 + 1 - 1) 0 = l[q + 1]) := HP
          by_cases h9 : l[q + 1] ≤ l[q]
          · have HF : Hid (aids 0 l = false) := hide (by rw [unhide HE, unhide HD, hx, if_neg (by omega), unhide HP3]; simp [h9])
            have hd9 : decide (l[q + 1] ≤ l[q]) = true := decide_eq_true h9
            generalize l[q + 1] = x at *
            generalize l[q] = y at *
            go_wp2_with fail
            go_quiet ((go_at_call 37; refine Calls.quiet_of_same ((unhide HIx) _)))
            go_wp2_with fail
            go_ret
            exact ⟨by rw [unhide HF]; rfl, (unhide HNx) _⟩
          · have HF : Hid (aids 0 l = aids l[q + 1] (l.drop (q + 1 + 1))) := hide (by rw [unhide HE, unhide HD, hx, if_neg (by omega), unhide HP3]; simp [h9])
            have hd9 : decide (l[q + 1] ≤ l[q]) = false := decide_eq_false h9
            generalize l[q + 1] = x at *
            generalize l[q] = y at *
            go_wp2_with fail
            go_quiet ((go_at_call 37; refine Calls.quiet_of_same ((unhide HIx) _)))
            go_wp2_with fail
            go_roundw
            case rel =>
              obtain ⟨j2, hj2⟩ := (unhide HNx) _
              exact ⟨q + 1 + 1, j2, by omega, by go_num, hj2, hide (by rw [unhide HF, if_neg (by omega), unhide HP2])⟩
            case measure => simp [intOf]; omega
    · obtain rfl : k = n := by omega
      have HF : Hid (aids 0 l = true) := hide (by rw [unhide HE, List.drop_of_length_le (by rw [unhide HN]; omega)]; rfl)
      go_wp2_with fail
      go_ret
      exact ⟨by rw [unhide HF]; rfl, unhide HW⟩
end Go.Proofs.YtgofdkheffoilaaGreat
namespace Go.Proofs.YtgofdkheffoilaaGreat
open Go.RowKit Go.Maps
set_option maxRecDepth 100000 in
set_option maxHeartbeats 2000000 in
theorem sameInts_any {W : World} {a b : Option Addr} {l k : List Int} (h : Sl E3 W a l) (h2 : Sl E3 W b k) (cap cap2 : Nat) (hl : l.length ≤ 9000000000000000000) : Calls Tryz.prog 36 #[.slice a l.length cap, .slice b k.length cap2] W fun e w' => e = .returned (.bool (decide (l = k))) ∧ ∃ m, w' = W.drewN m := by
  by_cases hd : l.length = k.length
  · obtain ⟨g, off, hg, hR⟩ := h
    obtain ⟨g2, off2, hg2, hR2⟩ := h2
    have HM : Hid (k.length = l.length) := hide hd.symm
    rw [← hd]
    generalize hn : l.length = n at *
    have HN := hide hn
    have HG := hide hg
    have HR := hide hR
    have HG2 := hide hg2
    have HR2 := hide hR2
    clear hn hg hR hg2 hR2 hd
    go_enter Tryz.func36, Tryz.ntmps36
    go_wp2_with fail
    go_loopw [5] (fun vk wr => ∃ i j : Nat, i ≤ n ∧ vk = .int .i64 i ∧ wr = W.drewN j ∧ Hid (l.take i = k.take i)) (fun vk _ => n - (intOf vk).toNat)
    case atStart => exact ⟨0, 0, Nat.zero_le _, rfl, rfl, hide (by simp)⟩
    case round =>
      obtain ⟨i, j, hi, rfl, hwr, HE⟩ := hrel
      have HW : Hid (∃ m, wr = W.drewN m) := hide ⟨j, hwr⟩
      have HBl : Hid (Bel W wr) := hide (by rw [hwr]; exact (Bel.refl W).drewN _)
      have HNx : Hid (∀ q, ∃ m, wr.drewN q = W.drewN m) := hide (fun q => ⟨j + q, by rw [hwr, World.drewN_drewN]⟩)
      clear hwr
      by_cases hlt : i < n
      · have hil : i < l.length := by rw [unhide HN]; exact hlt
        have hik : i < k.length := by rw [unhide HM]; exact hlt
        obtain rfl := (unhide HG) (by omega)
        obtain rfl := (unhide HG2) (by rw [unhide HM]; omega)
        have hkn : (i : Int) < n := by omega
        have r0 := (unhide HBl).cell (E3_cell (unhide HR) i hil)
        have r1 := (unhide HBl).cell (E3_cell (unhide HR2) i hik)
        have HD : Hid (l[i] = k[i] → l.take (i + 1) = k.take (i + 1)) := hide (fun e => by rw [List.take_add_one, List.take_add_one, unhide HE, List.getElem?_eq_getElem hil, List.getElem?_eq_getElem hik, e])
        have HD2 : Hid (l[i] ≠ k[i] → l ≠ k) := hide (fun e h => e (by simp [h]))
        generalize l[i] = x at *
        generalize k[i] = y at *
        cases h1 : (x == y) with
        | true =>
          go_wp2_with fail
          go_quiet (fail)
          go_wp2_with fail
          go_roundw
          case rel =>
            obtain ⟨j2, hj2⟩ := (unhide HNx) _
            exact ⟨i + 1, j2, by omega, by go_num, hj2, hide ((unhide HD) (by simpa using h1))⟩
          case measure => simp [intOf]; omega
        | false =>
          have HF : Hid (decide (l = k) = false) := hide (decide_eq_false ((unhide HD2) (by simpa using h1)))
          go_wp2_with fail
          go_quiet (fail)
          go_wp2_with fail
          go_ret
          exact ⟨by rw [unhide HF]; rfl, (unhide HNx) _⟩
      · obtain rfl : i = n := by omega
        have HF : Hid (decide (l = k) = true) := hide (decide_eq_true (by
          have := unhide HE
          rwa [List.take_of_length_le (by rw [unhide HN]; omega), List.take_of_length_le (by rw [unhide HM]; omega)] at this))
        go_wp2_with fail
        go_ret
        exact ⟨by rw [unhide HF]; rfl, unhide HW⟩
  · have e1 : decide (l = k) = false := decide_eq_false (fun e => hd (by rw [e]))
    have e2 : ((l.length : Int) == (k.length : Int)) = false := by simp; omega
    rw [e1]
    generalize l.length = n at *
    generalize k.length = n2 at *
    clear h h2 e1
    go_enter Tryz.func36, Tryz.ntmps36
    go_wp2_with fail
    go_ret
    exact ⟨rfl, 0, rfl⟩
set_option maxRecDepth 100000 in
theorem sameEnts_no {W : World} {a b : Option Addr} (n n2 cap cap2 : Nat) (hd : ¬ n = n2) : Calls Tryz.prog 35 #[.slice a n cap, .slice b n2 cap2] W fun e w' => e = .returned (.bool false) ∧ ∃ m, w' = W.drewN m := by
  have e2 : ((n : Int) == (n2 : Int)) = false := by simp; omega
  go_enter Tryz.func35, Tryz.ntmps35
  go_wp2_with fail
  go_ret
  exact ⟨rfl, 0, rfl⟩
set_option maxRecDepth 100000 in
set_option maxHeartbeats 4000000 in
theorem sameEnts_yes {W : World} {a b : Option Addr} {l k : List (GE × GA)} (h : Sl EG W a l) (h2 : Sl EG W b k) (hm : Gm W l) (hm2 : Gm W k) (he : l.map (·.1) = k.map (·.1)) (cap cap2 : Nat) (hl : l.length ≤ 9000000000000000000) (hq : ∀ x ∈ l, x.1.m.length ≤ 9000000000000000000) : Calls Tryz.prog 35 #[.slice a l.length cap, .slice b l.length cap2] W fun e w' => e = .returned (.bool true) ∧ ∃ m, w' = W.drewN m := by
  have hd : l.length = k.length := by have := congrArg List.length he; simpa using this
  obtain ⟨g, off, hg, hR⟩ := h
  obtain ⟨g2, off2, hg2, hR2⟩ := h2
  have HM : Hid (k.length = l.length) := hide hd.symm
  have HI : Hid (∀ (i : Nat) (h1 : i < l.length) (h2 : i < k.length) W', Bel W W' → Calls Tryz.prog 36 #[.slice l[i].2.a l[i].1.m.length l[i].2.c, .slice k[i].2.a l[i].1.m.length k[i].2.c] W' fun e w' => e = .returned (.bool true) ∧ ∃ m, w' = W'.drewN m) := hide (fun i h1 h2 W' hb => by
    have e9 : l[i].1 = k[i].1 := by
      have z2 : (l.map (·.1))[i]? = (k.map (·.1))[i]? := congrArg (fun l => l[i]?) he
      rw [List.getElem?_map, List.getElem?_map, List.getElem?_eq_getElem h1, List.getElem?_eq_getElem h2] at z2
      exact Option.some.inj z2
    have z := sameInts_any ((hm l[i] (List.getElem_mem h1)).bel hb) ((hm2 k[i] (List.getElem_mem h2)).bel hb) l[i].2.c k[i].2.c (hq _ (List.getElem_mem h1))
    rw [decide_eq_true (congrArg GE.m e9), ← congrArg (fun q => q.m.length) e9] at z
    exact z)
  have HEq : Hid (∀ (i : Nat) (h1 : i < l.length) (h2 : i < k.length), k[i].1 = l[i].1) := hide (fun i h1 h2 => by
    have z2 : (l.map (·.1))[i]? = (k.map (·.1))[i]? := congrArg (fun l => l[i]?) he
    rw [List.getElem?_map, List.getElem?_map, List.getElem?_eq_getElem h1, List.getElem?_eq_getElem h2] at z2
    exact (Option.some.inj z2).symm)
  obtain ⟨n, hn⟩ : ∃ n, l.length = n := ⟨_, rfl⟩
  have HN := hide hn
  rw [hn]
  rw [hn] at hl
  have HG := hide hg
  have HR := hide hR
  have HG2 := hide hg2
  have HR2 := hide hR2
  clear hn hg hR hg2 hR2 hd he hm hm2 hq
  go_enter Tryz.func35, Tryz.ntmps35
  go_wp2_with fail
  go_loopw [5] (fun vk wr => ∃ i j : Nat, i ≤ n ∧ vk = .int .i64 i ∧ wr = W.drewN j) (fun vk _ => n - (intOf vk).toNat)
  case atStart => exact ⟨0, 0, Nat.zero_le _, rfl, rfl⟩
  case round =>
    obtain ⟨i, j, hi, rfl, hwr⟩ := hrel
    have HW : Hid (∃ m, wr = W.drewN m) := hide ⟨j, hwr⟩
    have HBl : Hid (Bel W wr) := hide (by rw [hwr]; exact (Bel.refl W).drewN _)
    have HNx : Hid (∀ q, ∃ m, wr.drewN q = W.drewN m) := hide (fun q => ⟨j + q, by rw [hwr, World.drewN_drewN]⟩)
    clear hwr
    by_cases hlt : i < n
    · have hil : i < l.length := by rw [unhide HN]; exact hlt
      have hik : i < k.length := by rw [unhide HM, unhide HN]; exact hlt
      obtain rfl := (unhide HG) (by omega)
      obtain rfl := (unhide HG2) (by omega)
      have hkn : (i : Int) < n := by omega
      obtain ⟨r0, r1, r2, r3⟩ := EG_cell (unhide HR) i hil
      obtain ⟨t0, t1, t2, t3⟩ := EG_cell (unhide HR2) i hik
      have r0 := (unhide HBl).cell r0
      have r1 := (unhide HBl).cell r1
      have r2 := (unhide HBl).cell r2
      have r3 := (unhide HBl).cell r3
      have t0 := (unhide HBl).cell t0
      have t1 := (unhide HBl).cell t1
      have t2 := (unhide HBl).cell t2
      have t3 := (unhide HBl).cell t3
      rw [(unhide HEq) i hil hik] at t0 t1 t2 t3
      have HIx : Hid (∀ q, Calls Tryz.prog 36 #[.slice l[i].2.a l[i].1.m.length l[i].2.c, .slice k[i].2.a l[i].1.m.length k[i].2.c] (wr.drewN q) fun e w' => e = .returned (.bool true) ∧ ∃ m, w' = (wr.drewN q).drewN m) := hide (fun q => (unhide HI) i hil hik _ ((unhide HBl).drewN q))
      generalize l[i] = x at *
      generalize k[i] = y at *
      obtain ⟨⟨t, kd, d, m⟩, ax, cx⟩ := x
      obtain ⟨y1, ay, cy⟩ := y
      simp only at r0 r1 r2 r3 t0 t1 t2 t3 HIx
      generalize m.length = nm at *
      clear HI HEq
      go_wp2_with fail
      go_quiet ((go_at_call 36; refine Calls.quiet_of ((unhide HIx) _)))
      go_wp2_with fail
      go_roundw
      case rel =>
        obtain ⟨j2, hj2⟩ := (unhide HNx) _
        exact ⟨i + 1, j2, by omega, by go_num, hj2⟩
      case measure => simp [intOf]; omega
    · obtain rfl : i = n := by omega
      go_wp2_with fail
      go_ret
      exact ⟨rfl, unhide HW⟩
end Go.Proofs.YtgofdkheffoilaaGreat
