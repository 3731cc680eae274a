/- The document's Parted. -/
import Derived.Test.YtbcgikkdhfbphaaRfp
namespace Go.Proofs.Ytbcgikkdhfbphaa
open Go.RowKit Go.Maps
set_option maxRecDepth 100000 in
set_option maxHeartbeats 2000000 in
theorem partedD {W : World} {q : Nat} {s : PN} {M : Nat → Prop} (h : Rf W q s M) (a b : Int) : Calls Try.prog 42 #[.pointer (some ⟨q, 0, none⟩), .int .i64 a, .int .i64 b] W fun e w' => e = .returned (.bool (s.parted a b)) ∧ Bel W w' := by
  have HM : Hid (∀ x v n, s.mayB x = v → Calls Try.prog 51 #[.pointer (some ⟨q, 0, none⟩), .int .i64 x] (W.drewN n) fun e w' => e = .returned (.bool v) ∧ w' = W.drewN n) := hide (fun x v n e => by rw [← e]; exact may_any (h.bel ((Bel.refl W).drewN n)) x)
  have HB := hide (fun n => (Bel.refl W).drewN n)
  by_cases hma : s.may a
  · by_cases hmb : s.may b
    · obtain ⟨i, rfl, hi⟩ : ∃ j : Nat, a = (j : Int) + 1 ∧ j < s.ms.length := ⟨(a - 1).toNat, by have := hma.1; omega, by have := hma.1; have := hma.2; omega⟩
      obtain ⟨j, rfl, hj⟩ : ∃ j : Nat, b = (j : Int) + 1 ∧ j < s.ms.length := ⟨(b - 1).toNat, by have := hmb.1; omega, by have := hmb.1; have := hmb.2; omega⟩
      have hma := mayB_iff.2 hma
      have hmb := mayB_iff.2 hmb
      have e1 : s.parted ((i : Int) + 1) ((j : Int) + 1) = (s.ms[i].2.2 != s.ms[j].2.2) := by
        unfold PN.parted PN.side
        rw [hma, hmb, show ((i : Int) + 1 - 1).toNat = i by omega, show ((j : Int) + 1 - 1).toNat = j by omega, List.getElem?_eq_getElem hi, List.getElem?_eq_getElem hj]
        simp
      rw [e1]
      obtain ⟨vL, gS, cS, gT, cT, gX, cX, h1⟩ := h.co
      have c2 : W.cell? ⟨q, 2, none⟩ = some (.slice (some ⟨gS, 0, none⟩) (s.ms.length + 1) cS) := cell_of h1.row
      have ct := h1.cs.cell (j := i) (by rw [List.length_map]; exact hi)
      have ct2 := h1.cs.cell (j := j) (by rw [List.length_map]; exact hj)
      rw [List.getElem_map] at ct ct2
      have hn : (i : Int) + 1 < (s.ms.length : Int) + 1 := by omega
      have hn0 : 0 ≤ (i : Int) + 1 := by omega
      have hnt : ((i : Int) + 1).toNat = i + 1 := by omega
      have kn : (j : Int) + 1 < (s.ms.length : Int) + 1 := by omega
      have kn0 : 0 ≤ (j : Int) + 1 := by omega
      have knt : ((j : Int) + 1).toNat = j + 1 := by omega
      generalize s.ms[i].2.2 = x at *
      generalize s.ms[j].2.2 = y at *
      generalize s.ms.length = n at *
      clear h h1 e1
      go_enter Try.func42, Try.ntmps42
      go_wp2_with fail
      go_quiet ((go_at_call 51; refine Calls.quiet_of_same ((unhide HM) _ _ _ (by assumption))))
      go_wp2_with fail
      go_ret
      exact ⟨rfl, (unhide HB) _⟩
    · have e1 : s.parted a b = false := by unfold PN.parted; rw [mayB_not hmb]; simp
      rw [e1]
      have hma := mayB_iff.2 hma
      have hmb := mayB_not hmb
      clear h e1
      go_enter Try.func42, Try.ntmps42
      go_wp2_with fail
      go_quiet ((go_at_call 51; refine Calls.quiet_of_same ((unhide HM) _ _ _ (by assumption))))
      go_wp2_with fail
      go_ret
      exact ⟨rfl, (unhide HB) _⟩
  · have e1 : s.parted a b = false := by unfold PN.parted; rw [mayB_not hma]; simp
    rw [e1]
    have hma := mayB_not hma
    clear h e1
    go_enter Try.func42, Try.ntmps42
    go_wp2_with fail
    go_quiet ((go_at_call 51; refine Calls.quiet_of_same ((unhide HM) _ _ _ (by assumption))))
    go_wp2_with fail
    go_ret
    exact ⟨rfl, (unhide HB) _⟩
end Go.Proofs.Ytbcgikkdhfbphaa
