/- Entries of a log, copied. -/
import Derived.Test.YthipgcojbhcdgaaGreatQms
namespace Go.Proofs.YthipgcojbhcdgaaGreat
open Go.RowKit Go.Maps Go.Sort
theorem Sl.part {α : Type} {E : El α} {W : World} {g off : Nat} {L : List α} (h : E.R W g off L) (a : Option Addr) (k j : Nat) (ha : k < j → a = some ⟨g, off + k * E.k, none⟩) : Sl E W a ((L.drop k).take (j - k)) := by
  by_cases hk : k < j
  · refine ⟨g, off + k * E.k, fun _ => ha hk, (h.drop k).take (j - k)⟩
  · rw [show j - k = 0 by omega, List.take_zero]
    exact Sl.nil _ _ _
set_option maxRecDepth 100000 in
set_option maxHeartbeats 2000000 in
theorem ents_any {W : World} {n : Nat} {s : PP} {x : Px} (h : Sl E69 W x.aL s.log) (hc : s.log.length ≤ x.cL) (hl : s.log.length ≤ 1000000) (k j : Nat) (hk : k ≤ j) (hj : j ≤ s.log.length) : Calls Tryz.prog 133 #[.agg (pc n s x), .int .u64 ((k : Int) + 1), .int .u64 j] W fun e w' => ∃ a' c', e = .returned (.slice a' (j - k) c') ∧ E69.O W.heap.size w' (.slice a' (j - k) c') ((s.log.drop k).take (j - k)) ∧ Bel W w' := by
  obtain ⟨g, off, hg, hR⟩ := h
  have HE : Hid (∀ w1 a cp, Bel W w1 → (k < j → a = some ⟨g, off + k * 4, none⟩) → Calls Tryz.prog 84 #[.slice a (j - k) cp] w1 fun e w' => ∃ a' c', e = .returned (.slice a' (j - k) c') ∧ E69.O w1.heap.size w' (.slice a' (j - k) c') ((s.log.drop k).take (j - k)) ∧ Bel w1 w') := hide (fun w1 a cp hb ha => entries_cl (by simp; omega) (Sl.part (hR.bel hb) a k j ha) (by omega))
  have hw1 : IntKind.u64.wrap ((k : Int) + 1 - 0) = (k : Int) + 1 := by rw [Int.sub_zero]; exact wrapU (by omega) (by omega)
  have hw2 : IntKind.u64.wrap ((k : Int) + 1 - 1) = (k : Int) := by rw [show (k : Int) + 1 - 1 = k by omega]; exact wrapU (by omega) (by omega)
  have hw3 : IntKind.u64.wrap ((j : Int) - 0) = (j : Int) := by rw [Int.sub_zero]; exact wrapU (by omega) (by omega)
  have hw4 : IntKind.u64.wrap ((k : Int) + 1) = (k : Int) + 1 := wrapU (by omega) (by omega)
  have hw5 : IntKind.u64.wrap (k : Int) = (k : Int) := wrapU (by omega) (by omega)
  have hw6 : IntKind.u64.wrap (j : Int) = (j : Int) := wrapU (by omega) (by omega)
  have hjc : j ≤ x.cL := by omega
  have HG := hide hg
  have HLJ : Hid (j ≤ s.log.length) := hide hj
  clear hR hg
  go_enter Tryz.func133, Tryz.ntmps133
  go_wp2_with (first
    | go_skip
    | go_guarded
    | (refine bx_box rfl 56 _ rfl (pc n s x) rfl ?_; intro b w0 hr0 hs0 hb0; have y6 := (Bx.of hr0).c6; have y10 := (Bx.of hr0).c10; have HB0 := hide hb0; clear hr0 hs0 hb0))
  · refine ((unhide HE) _ _ _ (unhide HB0) (fun hkj => ?_)).mono ?_
    · exfalso
      omega
    · rintro e w1 ⟨a', c', rfl, ho, hb1⟩
      have HF := hide (And.intro (ho.mono (unhide HB0).size) ((unhide HB0).trans hb1))
      clear ho hb1
      go_wp2_with fail
      go_ret
      exact ⟨_, _, rfl, (unhide HF).1, (unhide HF).2⟩
  · refine ((unhide HE) _ _ _ (unhide HB0) (fun hkj => ?_)).mono ?_
    · have e := (unhide HG) (by have := unhide HLJ; omega)
      rw [e, Option.map_some, Addr.add_lit]
    · rintro e w1 ⟨a', c', rfl, ho, hb1⟩
      have HF := hide (And.intro (ho.mono (unhide HB0).size) ((unhide HB0).trans hb1))
      clear ho hb1
      go_wp2_with fail
      go_ret
      exact ⟨_, _, rfl, (unhide HF).1, (unhide HF).2⟩
end Go.Proofs.YthipgcojbhcdgaaGreat
