/- Do both stand alike? -/
import Derived.Test.YtbcgikkdhfbphaaRfx
namespace Go.Proofs.Ytbcgikkdhfbphaa
open Go.RowKit Go.Maps
theorem rowcells {W : World} {base g cap n : Nat} {l : List Pk} (h : E46.O base W (.slice (some ⟨g, 0, none⟩) n cap) l) (hn : l.length = n) {k : Nat} (hk : k < l.length) : W.cell? ⟨g, k * 3, none⟩ = some (.int .i64 l[k].1) ∧ W.cell? ⟨g, k * 3 + 1, none⟩ = some (.int .i64 l[k].2.1) ∧ W.cell? ⟨g, k * 3 + 2, none⟩ = some (.string l[k].2.2) := by
  subst hn
  have hR := h.row
  exact ⟨by have := hR k hk 0 _ rfl; simpa [E46] using this, by have := hR k hk 1 _ rfl; simpa [E46] using this, by have := hR k hk 2 _ rfl; simpa [E46] using this⟩
set_option maxRecDepth 100000 in
set_option maxHeartbeats 4000000 in
theorem stands_any {C : Nat} {W : World} {p q : Nat} {s : PN} {M K : Nat → Prop} (h : Nt C W p s M) (hC : C ≤ 900001) (hf : Rf W q s K) : Calls Try.prog 14 #[.pointer (some ⟨p, 0, none⟩), .pointer (some ⟨q, 0, none⟩)] W fun e w' => e = .returned (.bool true) ∧ Bel W w' := by
  have HW := hide (wait_any h hC)
  have HWD : Hid (∀ w1, Bel W w1 → Calls Try.prog 40 #[.pointer (some ⟨q, 0, none⟩)] w1 fun e w' => ∃ v, e = .returned v ∧ Wt w1 v (wt s.ms.length s.L) w') := hide (fun w1 hb => waitD (hf.bel hb))
  have HND : Hid (∀ w1, Bel W w1 → ∀ n, Calls Try.prog 27 #[.pointer (some ⟨p, 0, none⟩)] (w1.drewN n) fun e w' => e = .returned (.int .i64 s.ms.length) ∧ w' = w1.drewN n) := hide (fun w1 hb n => nodes_any (h.bel (hb.trans ((Bel.refl w1).drewN n))))
  have HTI : Hid (∀ w1, Bel W w1 → ∀ a, Calls Try.prog 26 #[.pointer (some ⟨p, 0, none⟩), .int .i64 a] w1 fun e w' => e = .returned (.int .i64 (s.ticks a)) ∧ Bel w1 w') := hide (fun w1 hb a => ticks_any (h.bel hb) a)
  have HTD : Hid (∀ w1, Bel W w1 → ∀ a, Calls Try.prog 41 #[.pointer (some ⟨q, 0, none⟩), .int .i64 a] w1 fun e w' => e = .returned (.int .i64 (s.ticks a)) ∧ w' = w1) := hide (fun w1 hb a => ticksD (hf.bel hb) a)
  have HPA : Hid (∀ w1, Bel W w1 → ∀ a b, Calls Try.prog 20 #[.pointer (some ⟨p, 0, none⟩), .int .i64 a, .int .i64 b] w1 fun e w' => e = .returned (.bool (s.parted a b)) ∧ Bel w1 w') := hide (fun w1 hb a b => parted_any (h.bel hb) a b)
  have HPD : Hid (∀ w1, Bel W w1 → ∀ a b, Calls Try.prog 42 #[.pointer (some ⟨q, 0, none⟩), .int .i64 a, .int .i64 b] w1 fun e w' => e = .returned (.bool (s.parted a b)) ∧ Bel w1 w') := hide (fun w1 hb a b => partedD (hf.bel hb) a b)
  have HLE : Hid (∀ w1, Bel W w1 → ∀ a b, Calls Try.prog 25 #[.pointer (some ⟨p, 0, none⟩), .int .i64 a, .int .i64 b] w1 fun e w' => e = .returned (.int .i64 (s.lenL a b)) ∧ Bel w1 w') := hide (fun w1 hb a b => lenL_any (h.bel hb) a b)
  have HLD : Hid (∀ w1, Bel W w1 → ∀ a b, Calls Try.prog 43 #[.pointer (some ⟨q, 0, none⟩), .int .i64 a, .int .i64 b] w1 fun e w' => e = .returned (.int .i64 (s.lenL a b)) ∧ w' = w1) := hide (fun w1 hb a b => by rw [← hf.lenL a b]; exact len_any (hf.bel hb) a b)
  have HC0 := hide hf.n
  have hfew := h.few
  have hsh := wt_short s.ms.length s.L
  have hlen := h.len
  clear h hf
  generalize wt s.ms.length s.L = l at *
  generalize s.ms.length = N at *
  generalize s.L.length = LL at *
  go_enter Try.func14, Try.ntmps14
  go_wp2_with fail
  refine (unhide HW).mono ?_
  rintro e w1 ⟨v1, rfl, ho1, hb1⟩
  have HO1 := hide ho1
  have HB1 := hide hb1
  clear ho1 hb1 HW
  go_wp2_with fail
  refine ((unhide HWD) _ (unhide HB1)).mono ?_
  rintro e w2 ⟨v2, rfl, ho2, hb2⟩
  obtain ⟨a2, cp2, g2, hv2, hg2, _, _⟩ := ho2.shape
  have ho1 := (unhide HO1).bel hb2
  obtain ⟨a1, cp1, g1, hv1, hg1, _, _⟩ := ho1.shape
  subst hv1 hv2
  have hb := (unhide HB1).trans hb2
  have hnd := (unhide HND) _ hb
  have c0 := hb.cell (unhide HC0)
  generalize hP : l.length = P at *
  have HP := hide hP
  have HO := hide (And.intro ho1 ho2)
  have HG := hide (And.intro hg1 hg2)
  have HB := hide hb
  have HNQ := hide hnd
  clear ho1 ho2 hg1 hg2 hb hb2 hnd hP HO1 HWD HND
  go_wp2_with fail
  go_quiet ((go_at_call 27; refine Calls.quiet_of_same ((unhide HNQ) _)))
  generalize hwz : w2.drewN _ = wz
  have hbz : Bel w2 wz := by rw [← hwz]; exact (Bel.refl w2).drewN _
  have HBZ := hide ((unhide HB).trans hbz)
  have HOZ := hide (And.intro ((unhide HO).1.bel hbz) ((unhide HO).2.bel hbz))
  clear hwz hbz c0 HO HB HNQ
  go_wp2_with fail
  go_loopw [7] (fun vi wr => ∃ k : Nat, k ≤ P ∧ vi = .int .i64 k ∧ Hid (Bel wz wr)) (fun vi _ => P - (intOf vi).toNat)
  case atStart => exact ⟨0, Nat.zero_le _, rfl, hide (Bel.refl _)⟩
  case round =>
    obtain ⟨k, hk, rfl, HI⟩ := hrel
    by_cases hlt : k < P
    · have hkl : k < l.length := by rw [unhide HP]; exact hlt
      obtain rfl := (unhide HG).1 (by omega)
      obtain rfl := (unhide HG).2 (by omega)
      have hkP : (k : Int) < P := by omega
      obtain ⟨r0, r1, r2⟩ := rowcells ((unhide HOZ).1.bel (unhide HI)) (unhide HP) hkl
      obtain ⟨t0, t1, t2⟩ := rowcells ((unhide HOZ).2.bel (unhide HI)) (unhide HP) hkl
      generalize l[k].1 = x0 at *
      generalize l[k].2.1 = x1 at *
      generalize l[k].2.2 = x2 at *
      have HI2 := hide (fun n => (unhide HI).drewN n)
      go_wp2_with fail
      go_quiet (fail)
      go_wp2_with fail
      go_roundw
      case rel => exact ⟨k + 1, by omega, by go_num, hide ((unhide HI2) _)⟩
      case measure => simp [intOf]; omega
    · obtain rfl : k = P := by omega
      have HBY := hide ((unhide HBZ).trans (unhide HI))
      clear HOZ HBZ HI
      go_wp2_with fail
      go_loopw [8] (fun vi wr => ∃ a : Nat, a ≤ N + 2 ∧ vi = .int .i64 a ∧ Hid (Bel W wr)) (fun vi _ => N + 2 - (intOf vi).toNat)
      case atStart => exact ⟨0, Nat.zero_le _, rfl, HBY⟩
      case round =>
        obtain ⟨a, ha, rfl, HI⟩ := hrel
        have c0 := (unhide HI).cell (unhide HC0)
        by_cases haN : a < N + 2
        · have haN' : (a : Int) ≤ (N : Int) + 1 := by omega
          go_wp2_with (first
            | (go_at_call 26; refine ((unhide HTI) _ (unhide HI) _).mono ?_; rintro e w5 ⟨rfl, hb5⟩; have HB5 := hide ((unhide HI).trans hb5); clear hb5)
            | (go_at_call 41; refine ((unhide HTD) _ (unhide HB5) _).mono ?_; rintro e w6 ⟨rfl, hw6⟩; rw [hw6]; clear hw6))
          go_loopw [9] (fun vi wr => ∃ b : Nat, b ≤ N + 2 ∧ vi = .int .i64 b ∧ Hid (Bel W wr)) (fun vi _ => N + 2 - (intOf vi).toNat)
          case atStart => exact ⟨0, Nat.zero_le _, rfl, HB5⟩
          case round =>
            clear c0
            obtain ⟨b, hb, rfl, HJ⟩ := hrel
            have c0 := (unhide HJ).cell (unhide HC0)
            by_cases hbN : b < N + 2
            · have hbN' : (b : Int) ≤ (N : Int) + 1 := by omega
              go_wp2_with (first
                | (go_at_call 20; refine ((unhide HPA) _ (unhide HJ) _ _).mono ?_; rintro e w6 ⟨rfl, hb6⟩; have HB6 := hide ((unhide HJ).trans hb6); clear hb6)
                | (go_at_call 42; refine ((unhide HPD) _ (unhide HB6) _ _).mono ?_; rintro e w7 ⟨rfl, hb7⟩; have HB7 := hide ((unhide HB6).trans hb7); clear hb7)
                | (go_at_call 25; refine ((unhide HLE) _ (unhide HB7) _ _).mono ?_; rintro e w8 ⟨rfl, hb8⟩; have HB8 := hide ((unhide HB7).trans hb8); clear hb8)
                | (go_at_call 43; refine ((unhide HLD) _ (unhide HB8) _ _).mono ?_; rintro e w9 ⟨rfl, hw9⟩; rw [hw9]; clear hw9))
              go_roundw
              case rel => exact ⟨b + 1, by omega, by go_num, HB8⟩
              case measure => simp [intOf]; omega
            · have hbN' : ¬ ((b : Int) ≤ (N : Int) + 1) := by omega
              go_wp2_with fail
              go_roundw
              case rel => exact ⟨a + 1, by omega, by go_num, HJ⟩
              case measure => simp [intOf]; omega
        · have haN' : ¬ ((a : Int) ≤ (N : Int) + 1) := by omega
          go_wp2_with fail
          go_ret
          exact ⟨rfl, unhide HI⟩
end Go.Proofs.Ytbcgikkdhfbphaa
