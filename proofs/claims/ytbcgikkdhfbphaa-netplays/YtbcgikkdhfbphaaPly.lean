/- NetPlays' walk, over the two copies' contracts. -/
import Derived.Test.YtbcgikkdhfbphaaDoi
import Derived.Test.YtbcgikkdhfbphaaCpd
namespace Go.Proofs.Ytbcgikkdhfbphaa
open Go.RowKit Go.Maps
/-- What the program's Copy does. -/
def CopyP : Prop := ∀ (C : Nat) (W : World) (p : Nat) (s : PN) (M : Nat → Prop), Nt C W p s M → C ≤ 900000 → Calls Try.prog 12 #[.pointer (some ⟨p, 0, none⟩)] W fun e w' => ∃ p', e = .returned (.pointer (some ⟨p', 0, none⟩)) ∧ ∃ M', Nt C w' p' s M' ∧ (∀ i, M' i → W.heap.size ≤ i) ∧ Bel W w'
/-- What the document's Copy does. -/
def CopyD : Prop := ∀ (W : World) (q : Nat) (s : PN) (K : Nat → Prop), Rf W q s K → Calls Try.prog 13 #[.pointer (some ⟨q, 0, none⟩)] W fun e w' => ∃ q', e = .returned (.pointer (some ⟨q', 0, none⟩)) ∧ ∃ K', Rf w' q' s K' ∧ (∀ i, K' i → W.heap.size ≤ i) ∧ Bel W w'
/-- A pair that was made behind w. -/
structure Pw (C : Nat) (w W : World) (p q : Nat) (s : PN) (Z : Nat → Prop) : Prop where
  pr : Pr C W p q s s Z
  tb : Tb s
  ge : ∀ i, Z i → w.heap.size ≤ i
  bel : Bel w W
theorem Pw.of {C : Nat} {w W W1 w' : World} {p q : Nat} {s : PN} {M K : Nat → Prop} (hb : Bel w W) (h1 : Nt C W1 p s M) (m1 : ∀ i, M i → W.heap.size ≤ i) (hb1 : Bel W W1) (h2 : Rf w' q s K) (m2 : ∀ i, K i → W1.heap.size ≤ i) (hb2 : Bel W1 w') (tb : Tb s) : Pw C w w' p q s (fun i => W.heap.size ≤ i ∧ i < w'.heap.size) :=
  ⟨⟨M, K, h1.bel hb2, h2, fun i a b => by have := h1.ltM i a; have := m2 i b; omega, fun i a => ⟨m1 i a, Nat.lt_of_lt_of_le (h1.ltM i a) hb2.size⟩, fun i a => ⟨Nat.le_trans hb1.size (m2 i a), h2.ltM i a⟩, fun i hi => hi.2⟩, tb, fun i hi => Nat.le_trans hb.size hi.1, (hb.trans hb1).trans hb2⟩
/-- One call more. -/
theorem Pw.step {C : Nat} {w W w' : World} {p q : Nat} {s : PN} {Z : Nat → Prop} (h : Pw C w W p q s Z) (hd : DoR C W p q Z w') : ∃ s' Z', Pw (C + 1) w w' p q s' Z' ∧ (∀ i, Z' i → Z i ∨ W.heap.size ≤ i) ∧ Ch Z W w' := by
  obtain ⟨s', tb', Z', h1, h2, h3⟩ := hd
  exact ⟨s', Z', ⟨h1, tb', fun i hi => (h2 i hi).elim (h.ge i) (fun a => Nat.le_trans h.bel.size a), ((h.bel.ch (fun i => w.heap.size ≤ i)).trans h3 (fun i hi => Or.inl (h.ge i hi))).below (Nat.le_refl _) (fun i hi => hi)⟩, h2, h3⟩
set_option maxRecDepth 100000 in
set_option maxHeartbeats 4000000 in
theorem plays_law (hcp : CopyP) (hcd : CopyD) {S T : List Stp} {a a2 : Option Addr} {cap g off cap2 g2 off2 : Nat} (nodes seed : Int) (ha : S.length ≠ 0 → a = some ⟨g, off, none⟩) (ha2 : T.length ≠ 0 → a2 = some ⟨g2, off2, none⟩) (w : World) (hr : RowS w g off S) (hok : ∀ s ∈ S, s.ok w) (hr2 : RowS w g2 off2 T) (hok2 : ∀ s ∈ T, s.ok w) : Calls Try.prog 3 #[.int .i64 nodes, .int .u64 seed, .slice a S.length cap, .slice a2 T.length cap2] w fun e w' => e = .returned (.bool true) ∧ Bel w w' := by
  by_cases hN : nodes < 1 ∨ 64 < nodes
  · have HP := hide (new_no seed nodes hN)
    have HD := hide (newD_no seed nodes hN)
    clear hr hok hr2 hok2 ha ha2 hcp hcd hN
    generalize S.length = n1
    generalize T.length = n2
    go_enter Try.func3, Try.ntmps3
    go_wp2_with (first
      | (go_at_call 8; refine ((unhide HP) _).mono ?_; rintro e w9 ⟨rfl, hw9⟩; rw [hw9]; clear hw9)
      | (go_at_call 9; refine ((unhide HD) _).mono ?_; rintro e w9 ⟨rfl, hw9⟩; rw [hw9]; clear hw9)
      | (go_at_call 10; refine (alive_any _).mono ?_; rintro e w7 ⟨rfl, hb7⟩; have HB7 := hide hb7; clear hb7))
    go_ret
    exact ⟨rfl, unhide HB7⟩
  · obtain ⟨N, rfl⟩ : ∃ N : Nat, nodes = N := ⟨nodes.toNat, by omega⟩
    have h1 : 1 ≤ N := by omega
    have h2 : N ≤ 64 := by omega
    have HR := hide (And.intro hr hok)
    have HR2 := hide (And.intro hr2 hok2)
    have HA := hide ha
    have HA2 := hide ha2
    generalize hN1 : S.length = n1
    generalize hN2 : T.length = n2
    have HN1 := hide hN1
    have HN2 := hide hN2
    have HCP := hide hcp
    have HCD := hide hcd
    clear hr hok hr2 hok2 ha ha2 hN1 hN2 hcp hcd hN
    go_enter Try.func3, Try.ntmps3
    go_wp2_with fail
    refine (new_yes seed N h1 h2 w).mono ?_
    rintro e w1 ⟨p, M, rfl, k1, k2, k3⟩
    have HK := hide (And.intro k1 (And.intro k2 k3))
    clear k1 k2 k3
    go_wp2_with fail
    refine (newD_yes seed N h1 h2 w1).mono ?_
    rintro e w2 ⟨q, K, rfl, m1, m2, m3⟩
    have HP : Hid (∃ s Z, Pw 0 w w2 p q s Z) := hide ⟨_, _, Pw.of (Bel.refl w) (unhide HK).1 (unhide HK).2.1 (unhide HK).2.2 m1 m2 m3 (fun x hx => by simp [pnew] at hx)⟩
    clear m1 m2 m3 HK
    go_wp2_with fail
    go_loopw [13] (fun vi wr => ∃ k : Nat, k ≤ n1 ∧ k ≤ 100 ∧ vi = .int .i64 k ∧ Hid (∃ s Z, Pw k w wr p q s Z)) (fun vi _ => 100 - (intOf vi).toNat)
    case atStart => exact ⟨0, Nat.zero_le _, Nat.zero_le _, rfl, HP⟩
    case round =>
      obtain ⟨k, hk, hk2, rfl, HO⟩ := hrel
      by_cases hlt : k < n1 ∧ k < 100
      · have hkN : (k : Int) < n1 := by omega
        have hk100 : (k : Int) < 100 := by omega
        have hkl : k < S.length := by rw [unhide HN1]; exact hlt.1
        obtain rfl := (unhide HA) (by rw [unhide HN1]; omega)
        obtain ⟨s, Z, hp⟩ := unhide HO
        obtain ⟨r0, r1, r2, r3, r4, r5⟩ := (unhide HR).1 k hkl
        have r0 := hp.bel.cell r0
        have r1 := hp.bel.cell r1
        have r2 := hp.bel.cell r2
        have r3 := hp.bel.cell r3
        have r4 := hp.bel.cell r4
        have r5 := hp.bel.cell r5
        have hsk := (unhide HR).2 _ (List.getElem_mem hkl)
        generalize S[k] = sk at *
        have HD := hide (does_any hp.pr (by omega) hp.tb sk hsk hp.bel hp.ge)
        have HPP := hide hp
        obtain ⟨s0, s1, s2, s3, s4, s5, side, s7⟩ := sk
        simp only [Stp.sv] at r0 r1 r2 r3 r4 r5 HD
        generalize side.length = s6 at *
        clear hsk hp hlt
        by_cases h4 : s4.size < 4096
        · have h4' : (s4.size : Int) < 4096 := by omega
          clear h4
          go_wp2_with (first
            | (go_at_call 11; refine (unhide HD).mono ?_; rintro e w5 ⟨rfl, hd5⟩; have HF : Hid (∃ s Z, Pw (k + 1) w w5 p q s Z) := hide (by obtain ⟨s', Z', hh, _⟩ := (unhide HPP).step hd5; exact ⟨s', Z', hh⟩); clear hd5))
          go_roundw
          case rel => exact ⟨k + 1, by omega, by omega, by go_num, HF⟩
          case measure => simp [intOf]; omega
        · have h4' : ¬ ((s4.size : Int) < 4096) := by omega
          have HF : Hid (∃ s Z, Pw (k + 1) w wr p q s Z) := hide ⟨s, Z, ⟨(unhide HPP).pr.mono (Nat.le_succ _), (unhide HPP).tb, (unhide HPP).ge, (unhide HPP).bel⟩⟩
          clear h4
          go_wp2_with fail
          go_roundw
          case rel => exact ⟨k + 1, by omega, by omega, by go_num, HF⟩
          case measure => simp [intOf]; omega
      · obtain ⟨s, Z, hp⟩ := unhide HO
        have HPP := hide (Pw.mk (hp.pr.mono hk2) hp.tb hp.ge hp.bel)
        have hx : ((k : Int) < n1) ∧ ¬ ((k : Int) < 100) ∨ ¬ ((k : Int) < n1) := by omega
        have HC1 : Hid (Calls Try.prog 12 #[.pointer (some ⟨p, 0, none⟩)] wr fun e w' => ∃ p', e = .returned (.pointer (some ⟨p', 0, none⟩)) ∧ ∃ M', Nt 100 w' p' s M' ∧ (∀ i, M' i → wr.heap.size ≤ i) ∧ Bel wr w') := hide (by obtain ⟨M, K, q1, q2, _⟩ := (unhide HPP).pr; exact (unhide HCP) _ _ _ _ _ q1 (by omega))
        have HC2 : Hid (∀ w5, Bel wr w5 → Calls Try.prog 13 #[.pointer (some ⟨q, 0, none⟩)] w5 fun e w' => ∃ q', e = .returned (.pointer (some ⟨q', 0, none⟩)) ∧ ∃ K', Rf w' q' s K' ∧ (∀ i, K' i → w5.heap.size ≤ i) ∧ Bel w5 w') := hide (fun w5 hb => by obtain ⟨M, K, q1, q2, _⟩ := (unhide HPP).pr; exact (unhide HCD) _ _ _ _ (q2.bel hb))
        clear hp hlt HO hk hk2 HP HCP HCD
        rcases hx with ⟨e1, e2⟩ | e1
        all_goals
          go_wp2_with fail
          refine (unhide HC1).mono ?_
          rintro e w5 ⟨p2, rfl, M2, j1, j2, j3⟩
          have HJ := hide (And.intro j1 (And.intro j2 j3))
          clear j1 j2 j3
          go_wp2_with fail
          refine ((unhide HC2) _ (unhide HJ).2.2).mono ?_
          rintro e w6 ⟨q2, rfl, K2, j4, j5, j6⟩
          have HI0 : Hid (Pr 100 w6 p q s s Z ∧ ∃ s2 Z2, Pw 100 w w6 p2 q2 s2 Z2 ∧ ∀ i, Z i → Z2 i → False) := hide ⟨(unhide HPP).pr.bel ((unhide HJ).2.2.trans j6), s, _, Pw.of (unhide HPP).bel (unhide HJ).1 (unhide HJ).2.1 (unhide HJ).2.2 j4 j5 j6 (unhide HPP).tb, fun i a b => by have := (unhide HPP).pr.lt i a; have := b.1; omega⟩
          clear j4 j5 j6 HJ HC1 HC2 HPP
          go_wp2_with fail
          go_loopw [16] (fun vi wr => ∃ k : Nat, k ≤ n2 ∧ k ≤ 40 ∧ vi = .int .i64 k ∧ Hid (Pr 100 wr p q s s Z ∧ ∃ s2 Z2, Pw (100 + k) w wr p2 q2 s2 Z2 ∧ ∀ i, Z i → Z2 i → False)) (fun vi _ => 40 - (intOf vi).toNat)
          case atStart => exact ⟨0, Nat.zero_le _, Nat.zero_le _, rfl, HI0⟩
          case round =>
            obtain ⟨m, hm, hm2, rfl, HO⟩ := hrel
            obtain ⟨hp1, s2, Z2, hp, hdj⟩ := unhide HO
            by_cases hlt : m < n2 ∧ m < 40
            · have hmN : (m : Int) < n2 := by omega
              have hm40 : (m : Int) < 40 := by omega
              have hml : m < T.length := by rw [unhide HN2]; exact hlt.1
              obtain rfl := (unhide HA2) (by rw [unhide HN2]; omega)
              obtain ⟨r0, r1, r2, r3, r4, r5⟩ := (unhide HR2).1 m hml
              have r0 := hp.bel.cell r0
              have r1 := hp.bel.cell r1
              have r2 := hp.bel.cell r2
              have r3 := hp.bel.cell r3
              have r4 := hp.bel.cell r4
              have r5 := hp.bel.cell r5
              have hsk := (unhide HR2).2 _ (List.getElem_mem hml)
              generalize T[m] = sk at *
              have HD := hide (does_any hp.pr (by omega) hp.tb sk hsk hp.bel hp.ge)
              have HPP := hide (And.intro hp1 (And.intro hp hdj))
              obtain ⟨s0, s1, t2, s3, s4, s5, side, s7⟩ := sk
              simp only [Stp.sv] at r0 r1 r2 r3 r4 r5 HD
              generalize side.length = s6 at *
              clear hsk hp hlt hp1 hdj HO
              by_cases h4 : s4.size < 4096
              · have h4' : (s4.size : Int) < 4096 := by omega
                clear h4
                go_wp2_with (first
                  | (go_at_call 11; refine (unhide HD).mono ?_; rintro e w7 ⟨rfl, hd7⟩; have HF : Hid (Pr 100 w7 p q s s Z ∧ ∃ s2 Z2, Pw (100 + (m + 1)) w w7 p2 q2 s2 Z2 ∧ ∀ i, Z i → Z2 i → False) := hide (by obtain ⟨s', Z', hh, hz, hc⟩ := (unhide HPP).2.1.step hd7; exact ⟨(unhide HPP).1.ch hc (unhide HPP).2.2, s', Z', hh, fun i x y => (hz i y).elim ((unhide HPP).2.2 i x) (fun z => by have := (unhide HPP).1.lt i x; omega)⟩); clear hd7))
                go_roundw
                case rel => exact ⟨m + 1, by omega, by omega, by go_num, HF⟩
                case measure => simp [intOf]; omega
              · have h4' : ¬ ((s4.size : Int) < 4096) := by omega
                have HF : Hid (Pr 100 wr p q s s Z ∧ ∃ s2 Z2, Pw (100 + (m + 1)) w wr p2 q2 s2 Z2 ∧ ∀ i, Z i → Z2 i → False) := hide ⟨(unhide HPP).1, s2, Z2, ⟨(unhide HPP).2.1.pr.mono (by omega), (unhide HPP).2.1.tb, (unhide HPP).2.1.ge, (unhide HPP).2.1.bel⟩, (unhide HPP).2.2⟩
                clear h4
                go_wp2_with fail
                go_roundw
                case rel => exact ⟨m + 1, by omega, by omega, by go_num, HF⟩
                case measure => simp [intOf]; omega
            · have HS1 : Hid (Calls Try.prog 14 #[.pointer (some ⟨p, 0, none⟩), .pointer (some ⟨q, 0, none⟩)] wr fun e w' => e = .returned (.bool true) ∧ Bel wr w') := hide (by obtain ⟨M, K, q1, q2, _⟩ := hp1; exact stands_any q1 (by omega) q2)
              have HS2 : Hid (∀ w8, Bel wr w8 → Calls Try.prog 14 #[.pointer (some ⟨p2, 0, none⟩), .pointer (some ⟨q2, 0, none⟩)] w8 fun e w' => e = .returned (.bool true) ∧ Bel w8 w') := hide (fun w8 hb => by obtain ⟨M, K, q1, q2, _⟩ := hp.pr.bel hb; exact stands_any q1 (by omega) q2)
              have HB := hide hp.bel
              have hy : ((m : Int) < n2) ∧ ¬ ((m : Int) < 40) ∨ ¬ ((m : Int) < n2) := by omega
              clear hp hp1 hdj HO hlt
              rcases hy with ⟨y1, y2⟩ | y1
              all_goals
                go_wp2_with fail
                refine (unhide HS1).mono ?_
                rintro e w8 ⟨rfl, hb8⟩
                have HB8 := hide hb8
                clear hb8
                go_wp2_with fail
                refine ((unhide HS2) _ (unhide HB8)).mono ?_
                rintro e w9 ⟨rfl, hb9⟩
                have HB9 := hide (((unhide HB).trans (unhide HB8)).trans hb9)
                clear hb9
                go_wp2_with (first
                  | (go_at_call 10; refine (alive_any _).mono ?_; rintro e w10 ⟨rfl, hb10⟩; have HB10 := hide ((unhide HB9).trans hb10); clear hb10))
                go_ret
                exact ⟨rfl, unhide HB10⟩
end Go.Proofs.Ytbcgikkdhfbphaa
