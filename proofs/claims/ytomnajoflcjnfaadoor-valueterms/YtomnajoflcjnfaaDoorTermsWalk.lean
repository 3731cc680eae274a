/- The law ValueTerms walked: for every text it answers true, and what was there is as it was. -/
import Derived.Test.YtomnajoflcjnfaaDoorTrmI
import Derived.Test.YtomnajoflcjnfaaDoorTrmG
import Derived.Test.YtomnajoflcjnfaaDoorValJ
namespace Go.Proofs.YtomnajoflcjnfaaDoor
open Go.RowKit
set_option linter.unusedVariables false
theorem RS.next {W W' : World} {v : Value} {l : List (List UInt8)} (h : RS W v l) (hb : Bel W W') : RS W' v l := by
  obtain ⟨a, cap, hv, hc, hn⟩ := h
  refine ⟨a, cap, hv, hc, fun h0 => ?_⟩
  obtain ⟨g, ha, hg, hj⟩ := hn h0
  exact ⟨g, ha, Nat.lt_of_lt_of_le hg hb.size, fun j h => hb.cell (hj j h)⟩
theorem gat_len : ∀ (s : List UInt8) (L : List (List UInt8)) (R : List UInt8), (gat s L R).length ≤ L.length + s.length + 1
  | [], L, R => by have := flush_len L R; rw [gat]; simp; omega
  | c :: s, L, R => by
    rw [gat]
    split
    · have := gat_len s L (R ++ [sm c]); simp; omega
    · have h1 := gat_len s (flush L R) []
      have h2 := flush_len L R
      simp; omega
theorem ris_len : ∀ (q q0 : List (List UInt8)), ris q → (∀ x ∈ q, x ∈ q0) → q.length ≤ q0.length
  | [], q0, _, _ => Nat.zero_le _
  | x :: q, q0, h, hm => by
    obtain ⟨h1, h2⟩ := List.pairwise_cons.1 h
    have hx := hm x (by simp)
    have h3 := ris_len q (q0.erase x) h2 (fun y hy => (List.mem_erase_of_ne (fun e => by rw [e] at hy; exact lt_irr x (h1 x hy))).2 (hm y (by simp [hy])))
    rw [List.length_erase_of_mem hx] at h3
    have : 0 < q0.length := List.length_pos_of_mem hx
    simp; omega
set_option maxHeartbeats 8000000 in
set_option maxRecDepth 100000 in
theorem terms_law (s : ByteArray) (hs : s.size ≤ 140737488351232) (w : World) (hG : Gl w) : Calls Tryd.prog 6 #[.string s] w fun e w' => e = .returned (.bool true) ∧ Bel w w' := by
  have HG := hide hG
  have C12 := hide (fun W hW => alive_any W hW)
  clear hG
  by_cases hb : 16384 < s.size
  · go_enter Tryd.func6, Tryd.ntmps6
    go_wp2_with (go_at_call 12; refine (C12.out _ HG.out).mono ?_; rintro e w1 ⟨rfl, hb1⟩)
    go_ret
    exact ⟨rfl, hb1⟩
  · have hm : s.size ≤ 16384 := by omega
    have HTM := hide (gat_tm s.data.toList [] [] (by simp) (by simp))
    obtain ⟨q0, hq0⟩ : ∃ q0, gat s.data.toList [] [] = q0 := ⟨_, rfl⟩
    have hl0 := gat_len s.data.toList [] []
    rw [hq0] at HTM hl0
    have hl1 : q0.length ≤ 16385 := by simp at hl0; omega
    clear hl0
    have C23 := hide (fun W => terms_any s hm q0 hq0 W)
    have C24 := hide (fun W => dterms_by rising_any s hm q0 hq0 W)
    clear hq0
    go_enter Tryd.func6, Tryd.ntmps6
    go_wp2_with fail
    refine (C23.out _).mono ?_
    rintro e w1 ⟨v1, q, rfl, hR1, hb1, hr1, hm1⟩
    go_wp2_with fail
    refine (C24.out _).mono ?_
    rintro e w2 ⟨v2, q2, rfl, hR2, hb2, hr2, hm2⟩
    obtain rfl := ris_ext q q2 hr1 hr2 (fun x => (hm1 x).trans (hm2 x).symm)
    have hql : q.length ≤ 16385 := Nat.le_trans (ris_len q q0 hr1 (fun x hx => (hm1 x).1 hx)) hl1
    have HQ := hide (show ∀ x ∈ q, isTm x from fun x hx => HTM.out x ((hm1 x).1 hx))
    have hR1' := hR1.next hb2
    have HB := hide (hb1.trans hb2)
    clear hR1 hr1 hr2 hm1 hm2 HTM hb1 hb2 C23 C24
    obtain ⟨a1, c1, rfl, hc1, hn1⟩ := hR1'
    obtain ⟨a2, c2, rfl, hc2, hn2⟩ := hR2
    have HN1 := hide hn1
    have HN2 := hide hn2
    clear hn1 hn2
    go_wp2_with fail
    go_loopw [5] (fun iv W => ∃ i : Nat, i ≤ q.length ∧ iv = .int .i64 i ∧ Bel w2 W) (fun iv _ => q.length - (intOf iv).toNat)
    case atStart => exact ⟨0, Nat.zero_le _, rfl, Bel.refl _⟩
    case round =>
      obtain ⟨i, hi, rfl, hbi⟩ := hrel
      have HBI := hide hbi
      clear hbi
      by_cases hlt : i < q.length
      · have hne : q ≠ [] := fun e => by rw [e] at hlt; simp at hlt
        obtain ⟨g1, rfl, hg1, hd1⟩ := HN1.out hne
        obtain ⟨g2, rfl, hg2, hd2⟩ := HN2.out hne
        obtain ⟨x, hx⟩ : ∃ x, x = q[i] := ⟨_, rfl⟩
        have D1 := hide (fun (W : World) (hb : Bel w2 W) => Bel.cell hb (hd1 i hlt))
        have D2 := hide (fun (W : World) (hb : Bel w2 W) => Bel.cell hb (hd2 i hlt))
        rw [← hx] at D1 D2
        have hTx := HQ.out x (by rw [hx]; exact List.getElem_mem hlt)
        have C23 := hide (fun W => terms_any ⟨x.toArray⟩ (by show x.toArray.size ≤ _; have := hTx.2.1; simp; omega) [x] (terms_one hTx) W)
        have d1 := D1.out _ HBI.out
        clear hd1 hd2 hx hTx hne
        go_wp2_with fail
        refine (C23.out _).mono ?_
        rintro e w3 ⟨v3, q3, rfl, hR3, hb3, hr3, hm3⟩
        obtain rfl := ris_ext q3 [x] hr3 (List.pairwise_singleton _ _) hm3
        obtain ⟨a3, c3, rfl, hc3, hn3⟩ := hR3
        obtain ⟨g3, rfl, hg3, hd3⟩ := hn3 (by simp)
        have e3 : w3.cell? ⟨g3, 0, none⟩ = some (.string ⟨x.toArray⟩) := hd3 0 (by simp)
        have HB3 := hide (HBI.out.trans hb3)
        have e1 := D1.out _ HB3.out
        have e2 := D2.out _ HB3.out
        clear hr3 hm3 hd3 hb3 hn3 d1
        go_wp2_with fail
        go_quiet (fail)
        go_wp2_with fail
        have hb4 : Bel w2 (w3.drewN nq) := ⟨HB3.out.os, HB3.out.tape, HB3.out.output, HB3.out.size, HB3.out.block⟩
        refine ⟨⟨i + 1, by omega, by simp, hb4⟩, ?_⟩
        simp [intOf]
        omega
      · go_wp2_with (go_at_call 12; refine (C12.out _ (HG.out.next (HB.out.trans HBI.out))).mono ?_; rintro e w5 ⟨rfl, hb5⟩)
        go_ret
        exact ⟨rfl, (HB.out.trans HBI.out).trans hb5⟩
end Go.Proofs.YtomnajoflcjnfaaDoor
