/- NetApart's walk. -/
import Derived.Test.YtbcgikkdhfbphaaBnd
import Derived.Test.YtbcgikkdhfbphaaOpn
namespace Go.Proofs.Ytbcgikkdhfbphaa
open Go.RowKit Go.Maps
/-- Two nets that were made behind w. -/
def Tw (C : Nat) (w W : World) (pa pb : Nat) (sa sb : PN) : Prop := ∃ Ma Mb, Nt C W pa sa Ma ∧ Nt C W pb sb Mb ∧ (∀ i, Ma i → w.heap.size ≤ i) ∧ (∀ i, Mb i → w.heap.size ≤ i) ∧ (∀ i, Ma i → Mb i → False) ∧ Bel w W
theorem Tw.bel {C : Nat} {w W W' : World} {pa pb : Nat} {sa sb : PN} (h : Tw C w W pa pb sa sb) (hb : Bel W W') : Tw C w W' pa pb sa sb := by
  obtain ⟨Ma, Mb, h1, h2, h3, h4, h5, h6⟩ := h
  exact ⟨Ma, Mb, h1.bel hb, h2.bel hb, h3, h4, h5, h6.trans hb⟩
theorem Tw.is {C : Nat} {w W : World} {pa pb : Nat} {sa sb : PN} (h : Tw C w W pa pb sa sb) : Bel w W := by
  obtain ⟨Ma, Mb, h1, h2, h3, h4, h5, h6⟩ := h
  exact h6
theorem Tw.swap {C : Nat} {w W : World} {pa pb : Nat} {sa sb : PN} (h : Tw C w W pa pb sa sb) : Tw C w W pb pa sb sa := by
  obtain ⟨Ma, Mb, h1, h2, h3, h4, h5, h6⟩ := h
  exact ⟨Mb, Ma, h2, h1, h4, h3, fun i a b => h5 i b a, h6⟩
theorem Tw.call {C C' : Nat} {w W : World} {pa pb : Nat} {sa sb sa' : PN} {f : FuncId} {args : Array Value} {v : Value} (h : Tw C w W pa pb sa sb) (hc : C ≤ C') (k : ∀ M, Nt C W pa sa M → Calls Try.prog f args W fun e w' => e = .returned v ∧ Aft C' W pa M sa' w') : Calls Try.prog f args W fun e w' => e = .returned v ∧ Tw C' w w' pa pb sa' sb := by
  obtain ⟨Ma, Mb, h1, h2, h3, h4, h5, h6⟩ := h
  refine (k Ma h1).mono (fun e w' ⟨he, Ma', k1, k2, k3⟩ => ⟨he, Ma', Mb, k1, (h2.ch k3 (fun i a b => h5 i b a)).mono hc, fun i hi => (k2 i hi).elim (h3 i) (fun h => Nat.le_trans h6.size h), h4, fun i a b => ?_, ?_⟩)
  · rcases k2 i a with h' | h'
    · exact h5 i h' b
    · have := h2.ltM i b
      omega
  · exact ((h6.ch (fun i => w.heap.size ≤ i)).trans k3 (fun i hi => Or.inl (h3 i hi))).below (Nat.le_refl _) (fun i hi => hi)
theorem new_two (seed : Int) (N : Nat) (h1 : 1 ≤ N) (h2 : N ≤ 64) {w W : World} {p : Nat} {s : PN} (ho : Own 0 w W p s) : Calls Try.prog 8 #[.int .i64 N, .int .u64 seed] W fun e w' => ∃ q, e = .returned (.tuple #[.pointer (some ⟨q, 0, none⟩), .int .i64 0]) ∧ Tw 0 w w' p q s (pnew seed N) := by
  obtain ⟨Ma, k1, k2, k3⟩ := ho
  refine (new_yes seed N h1 h2 W).mono (fun e w' ⟨q, M, he, h3, h4, h5⟩ => ⟨q, he, Ma, M, k1.bel h5, h3, k2, fun i hi => Nat.le_trans k3.size (h4 i hi), fun i a b => ?_, k3.trans h5⟩)
  have := k1.ltM i a
  have := h4 i b
  omega
/-- Both nets' second machines are alike. -/
structure Ap (w : World) (pa pb : Nat) (W : World) : Prop where
  two : ∃ sa sb, Tw 0 w W pa pb sa sb ∧ sa.ms.length = 3 ∧ sb.ms.length = 3 ∧ sa.ms[1]? = sb.ms[1]?
theorem draw_len (s : PN) (j : Nat) : (s.draw j).ms.length = s.ms.length := by simp [PN.draw]
theorem tick_len (s : PN) (j : Nat) : (s.tick j).ms.length = s.ms.length := by simp [PN.tick]
theorem draw_ne (s : PN) {j i : Nat} (h : j ≠ i) : (s.draw j).ms[i]? = s.ms[i]? := by simp [PN.draw, h]
theorem tick_ne (s : PN) {j i : Nat} (h : j ≠ i) : (s.tick j).ms[i]? = s.ms[i]? := by simp [PN.tick, h]
theorem draw_same (s t : PN) (j : Nat) (hs : j < s.ms.length) (ht : j < t.ms.length) (h : s.ms[j]? = t.ms[j]?) : (s.draw j).ms[j]? = (t.draw j).ms[j]? := by
  simp only [PN.draw]
  rw [List.getElem?_set_self hs, List.getElem?_set_self ht, h]
theorem tick_same (s t : PN) (j : Nat) (hs : j < s.ms.length) (ht : j < t.ms.length) (h : s.ms[j]? = t.ms[j]?) : (s.tick j).ms[j]? = (t.tick j).ms[j]? := by
  simp only [PN.tick]
  rw [List.getElem?_set_self hs, List.getElem?_set_self ht, h]
theorem drw_in (st below : Int) (h : 1 ≤ below) : 0 ≤ drw st below ∧ drw st below < below := ⟨Int.emod_nonneg _ (by omega), Int.emod_lt_of_pos _ (by omega)⟩
theorem get_eq {l m : List Mc} {j : Nat} (hl : j < l.length) (hm : j < m.length) (h : l[j]? = m[j]?) : l[j] = m[j] := by
  rw [List.getElem?_eq_getElem hl, List.getElem?_eq_getElem hm] at h
  simpa using h
set_option maxRecDepth 100000 in
set_option maxHeartbeats 2000000 in
theorem apart_law {S : List Stp} {a : Option Addr} {cap g off : Nat} (seed : Int) (ha : S.length ≠ 0 → a = some ⟨g, off, none⟩) (w : World) (hr : RowS w g off S) : Calls Try.prog 6 #[.int .u64 seed, .slice a S.length cap] w fun e w' => e = .returned (.bool true) ∧ Bel w w' := by
  have HR := hide hr
  have HA := hide ha
  generalize hN : S.length = N
  have HN := hide hN
  clear hr ha hN
  go_enter Try.func6, Try.ntmps6
  go_wp2_with fail
  refine (new_own seed 3 (by omega) (by omega) w w (Bel.refl _)).mono ?_
  rintro e w1 ⟨pa, rfl, ho⟩
  have H1 := hide ho
  clear ho
  go_wp2_with fail
  refine (new_two seed 3 (by omega) (by omega) (unhide H1)).mono ?_
  rintro e w2 ⟨pb, rfl, ho⟩
  have H2 : Hid (Ap w pa pb w2) := hide ⟨_, _, ho, nm_len _ _ _, nm_len _ _ _, rfl⟩
  clear ho H1
  go_wp2_with fail
  go_loopw [9] (fun vi wr => ∃ k : Nat, k ≤ N ∧ k ≤ 100 ∧ vi = .int .i64 k ∧ Hid (Ap w pa pb wr)) (fun vi _ => 100 - (intOf vi).toNat)
  case atStart => exact ⟨0, Nat.zero_le _, Nat.zero_le _, rfl, H2⟩
  case round =>
    obtain ⟨k, hk, hk2, rfl, HO⟩ := hrel
    by_cases hlt : k < N ∧ k < 100
    · have hkN : (k : Int) < N := by omega
      have hk100 : (k : Int) < 100 := by omega
      have hkl : k < S.length := by rw [unhide HN]; exact hlt.1
      obtain rfl := (unhide HA) (by rw [unhide HN]; omega)
      obtain ⟨sa, sb, ht, l1, l2, l3⟩ := (unhide HO).two
      have hbw : Bel w wr := ht.is
      obtain ⟨r0, r1, r2, r3, r4, r5⟩ := (unhide HR) k hkl
      have r0 := hbw.cell r0
      have r1 := hbw.cell r1
      have r2 := hbw.cell r2
      have r3 := hbw.cell r3
      have r4 := hbw.cell r4
      have r5 := hbw.cell r5
      obtain ⟨q, hq, hqe⟩ := i64_mask S[k].a 65535 (by omega)
      obtain ⟨r, hrr, hre⟩ := i64_mask S[k].n 65535 (by omega)
      rw [show ((65535 : Nat) : Int) = 65535 from rfl] at hqe hre
      generalize S[k].op = s0 at *
      generalize S[k].a = s1 at *
      generalize S[k].b = s2 at *
      generalize S[k].n = s3 at *
      generalize S[k].tx = s4 at *
      unfold Stp.sv at r5
      generalize S[k].sa = s5 at *
      generalize S[k].side.length = s6 at *
      generalize S[k].cap = s7 at *
      have HT := hide ht
      have HL := hide (And.intro l1 (And.intro l2 l3))
      clear hlt hbw ht l1 l2 l3
      go_wp2_with fail
      obtain ⟨j, hj⟩ : ∃ j : Nat, j = q % 3 := ⟨_, rfl⟩
      have hj3 : j < 3 := by omega
      obtain ⟨who, hwho⟩ : ∃ x : Int, x = 1 + (q : Int) % 3 := ⟨_, rfl⟩
      obtain ⟨below, hbe⟩ : ∃ x : Int, x = 1 + (r : Int) := ⟨_, rfl⟩
      rw [← hwho, ← hbe]
      have hwj : who = (j : Int) + 1 := by omega
      have hb1 : 1 ≤ below := by omega
      have hb2 : below < 9223372036854775808 := by omega
      have hja : j < sa.ms.length := by rw [(unhide HL).1]; exact hj3
      have D1 := ((unhide HT).bel ((Bel.refl wr).alloc (.cells #[.int .i64 s0, .int .i64 s1, .int .i64 s2, .int .i64 s3, .string s4, .slice s5 s6 s7] 34))).call (Nat.le_refl _) (fun M h => draw_yes h hja hb1 hb2)
      rw [← hwj] at D1
      refine D1.mono ?_
      rintro e w3 ⟨rfl, h3⟩
      have H3 := hide h3
      have D2 := h3.call (Nat.le_refl _) (fun M h => tick_yes h (j := j) (by rw [draw_len]; exact hja))
      rw [← hwj] at D2
      have HD2 := hide D2
      obtain ⟨x, hx⟩ : ∃ x, x = drw sa.ms[j].2.1 below := ⟨_, rfl⟩
      have hxin := drw_in sa.ms[j].2.1 below hb1
      rw [← hx] at hxin ⊢
      have hx0 := hxin.1
      have hx1 := hxin.2
      have HX := hide hx
      have HJA := hide hja
      have HWJ := hide hwj
      clear h3 D1 D2 hx hxin HT r0 r1 r2 r3 r4 r5 hqe hre hj hwho hbe hwj
      by_cases hj1 : j = 1
      · have hw2 : who = 2 := by rw [unhide HWJ, hj1]; rfl
        have HW2 := hide hw2
        have hw2' : (who == 2) = true := by simp [hw2]
        have hjb : 1 < sb.ms.length := by rw [(unhide HL).2.1]; decide
        have hms : sa.ms[1]'(by rw [(unhide HL).1]; decide) = sb.ms[1]'hjb := get_eq _ _ (unhide HL).2.2
        clear hw2
        go_wp2_with fail
        refine (unhide HD2).mono ?_
        rintro e w4 ⟨rfl, h4⟩
        have D3 := h4.swap.call (Nat.le_refl _) (fun M h => draw_yes h (j := 1) hjb hb1 hb2)
        rw [← hms] at D3
        have hx' : drw (sa.ms[1]'(by rw [(unhide HL).1]; decide)).2.1 below = x := by rw [unhide HX]; simp only [hj1]
        rw [hx'] at D3
        have HD3 : Hid (Calls Try.prog 23 #[.pointer (some ⟨pb, 0, none⟩), .int .i64 2, .int .i64 below] w4 fun e w' => e = .returned (.tuple #[.int .i64 x, .int .i64 0]) ∧ Tw 0 w w' pb pa (sb.draw 1) ((sa.draw j).tick j)) := hide D3
        obtain ⟨t, hte⟩ : ∃ t, t = wrap64 (((sa.draw j).ms[j]'(by rw [draw_len]; exact unhide HJA)).1 + 1) := ⟨_, rfl⟩
        rw [← hte]
        have HTE := hide hte
        clear h4 D3 hx' hte hms
        go_wp2_with fail
        refine (unhide HD3).mono ?_
        rintro e w5 ⟨rfl, h5⟩
        have D4 := h5.call (Nat.le_refl _) (fun M h => tick_yes h (j := 1) (by rw [draw_len]; exact hjb))
        have hte' : wrap64 (((sb.draw 1).ms[1]'(by rw [draw_len]; exact hjb)).1 + 1) = t := by
          rw [unhide HTE]
          have := get_eq (l := (sa.draw j).ms) (m := (sb.draw 1).ms) (j := 1) (by rw [draw_len, (unhide HL).1]; decide) (by rw [draw_len]; exact hjb) (by rw [hj1]; exact draw_same sa sb 1 (by rw [(unhide HL).1]; decide) hjb (unhide HL).2.2)
          simp only [hj1] at this ⊢
          rw [this]
        rw [hte'] at D4
        have HD4 : Hid (Calls Try.prog 24 #[.pointer (some ⟨pb, 0, none⟩), .int .i64 2] w5 fun e w' => e = .returned (.tuple #[.int .i64 t, .int .i64 0]) ∧ Tw 0 w w' pb pa ((sb.draw 1).tick 1) ((sa.draw j).tick j)) := hide D4
        clear h5 D4 hte' HD3 HD2
        go_wp2_with fail
        refine (unhide HD4).mono ?_
        rintro e w6 ⟨rfl, h6⟩
        have HF : Hid (Ap w pa pb w6) := hide ⟨_, _, h6.swap, by rw [tick_len, draw_len]; exact (unhide HL).1, by rw [tick_len, draw_len]; exact (unhide HL).2.1, by
          rw [hj1]
          exact tick_same _ _ 1 (by rw [draw_len, (unhide HL).1]; decide) (by rw [draw_len]; exact hjb) (draw_same sa sb 1 (by rw [(unhide HL).1]; decide) hjb (unhide HL).2.2)⟩
        clear h6
        go_wp2_with fail
        exact ⟨⟨k + 1, by omega, by omega, by go_num, HF⟩, by simp [intOf]; omega⟩
      · have hw2 : (who == 2) = false := by rw [unhide HWJ]; simp; omega
        go_wp2_with fail
        refine (unhide HD2).mono ?_
        rintro e w4 ⟨rfl, h4⟩
        have HF : Hid (Ap w pa pb w4) := hide ⟨_, _, h4, by rw [tick_len, draw_len]; exact (unhide HL).1, (unhide HL).2.1, by rw [tick_ne _ hj1, draw_ne _ hj1]; exact (unhide HL).2.2⟩
        generalize wrap64 (((sa.draw j).ms[j]'(by rw [draw_len]; exact unhide HJA)).1 + 1) = t
        clear h4
        go_wp2_with fail
        exact ⟨⟨k + 1, by omega, by omega, by go_num, HF⟩, by simp [intOf]; omega⟩
    · have HB : Hid (Bel w wr) := hide (by obtain ⟨_, _, ht, _⟩ := (unhide HO).two; exact ht.is)
      by_cases hkN : k < N
      · have h1 : (k : Int) < N := by omega
        have h2 : ¬ ((k : Int) < 100) := by omega
        go_wp2_with (first
          | (go_at_call 10; refine (alive_any _).mono ?_; rintro e w7 ⟨rfl, hb7⟩; have HB7 := hide ((unhide HB).trans hb7); clear hb7))
        go_ret
        exact ⟨rfl, unhide HB7⟩
      · have h1 : ¬ ((k : Int) < N) := by omega
        go_wp2_with (first
          | (go_at_call 10; refine (alive_any _).mono ?_; rintro e w7 ⟨rfl, hb7⟩; have HB7 := hide ((unhide HB).trans hb7); clear hb7))
        go_ret
        exact ⟨rfl, unhide HB7⟩
end Go.Proofs.Ytbcgikkdhfbphaa
