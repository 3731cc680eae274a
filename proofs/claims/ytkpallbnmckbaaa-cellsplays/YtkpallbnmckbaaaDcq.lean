/- The document's Put. -/
import Derived.Test.YtkpallbnmckbaaaDcn
namespace Go.Proofs.Ytkpallbnmckbaaa
open Go.RowKit
set_option maxRecDepth 100000 in
set_option maxHeartbeats 4000000 in
theorem dput_any {W : World} {v : Value} {l L : List C} {a : Option Addr} {cap g off : Nat} (h : SV W v l) (hr : Row W g off L) (ha : L.length ≠ 0 → a = some ⟨g, off, none⟩) (hl : l.length + L.length ≤ 800000) : Calls Try.prog 10 #[v, .slice a L.length cap] W fun e w' => ∃ v', e = .returned (.tuple #[v', .int .i64 (putA L).1, .int .i64 (putA L).2]) ∧ Bel W w' ∧ SV w' v' (putL l L) := by
  have HS := hide h
  have HR := hide hr
  have HA := hide ha
  obtain ⟨N, hN⟩ : ∃ N, L.length = N := ⟨_, rfl⟩
  have HN := hide hN
  have HL := hide hl
  rw [hN]
  have hN2 : N ≤ 800000 := by omega
  clear h hr ha hN hl
  go_enter Try.func10, Try.ntmps10
  go_wp2_with fail
  go_loopw [7, 8] (fun vi _ wr => ∃ k : Nat, k ≤ N ∧ vi = .int .i64 k ∧ Hid (Bel W wr ∧ ∀ i, i < k → ∀ h : i < L.length, mayC L[i] = 0)) (fun vi _ _ => N - (intOf vi).toNat)
  case atStart => exact ⟨0, Nat.zero_le _, rfl, Bel.refl _, fun i hi => absurd hi (Nat.not_lt_zero _)⟩
  case round =>
    obtain ⟨k, hk, rfl, HB⟩ := hrel
    by_cases hlt : k < N
    · have hkl : k < L.length := by rw [HN.out]; exact hlt
      obtain rfl := HA.out (by omega)
      obtain ⟨x0, x1, x2, x3⟩ := ((unhide HR).bel (unhide HB).1) k hkl
      have hki : (k : Int) < (N : Int) := by omega
      have C27 := hide (fun W => dmay_any L[k] W)
      unfold vC at C27
      by_cases hm : mayC L[k] = 0
      · rw [hm] at C27
        have HM := hide hm
        have HB2 : Hid (∀ W', Bel W W' → Bel W W' ∧ ∀ i, i < k + 1 → ∀ h : i < L.length, mayC L[i] = 0) := hide (fun W hW => ⟨hW, fun i hi h => by
          by_cases e : i = k
          · subst e; exact HM.out
          · exact HB.out.2 i (by omega) h⟩)
        generalize L[k].k = kk at *
        generalize L[k].t = kt at *
        generalize L[k].d = kd at *
        generalize L[k].v = kv at *
        clear hm
        go_wp2_with (go_at_call 27; refine (C27.out _).mono ?_; rintro e w2 ⟨rfl, hb2⟩)
        exact ⟨⟨k + 1, by omega, by go_num, HB2.out _ ((unhide HB).1.trans hb2)⟩, by simp [intOf]; omega⟩
      · have HP : Hid (putA L = ((k : Int), mayC L[k]) ∧ putL l L = l) := hide (by
          have := bad_at k hkl (fun i hi => HB.out.2 i hi (by omega)) hm
          exact ⟨by unfold putA; rw [this], by unfold putL; rw [this]⟩)
        have hm' : (mayC L[k] != 0) = true := by simpa using hm
        generalize mayC L[k] = z at *
        generalize L[k].k = kk at *
        generalize L[k].t = kt at *
        generalize L[k].d = kd at *
        generalize L[k].v = kv at *
        clear hm
        go_wp2_with (go_at_call 27; refine (C27.out _).mono ?_; rintro e w2 ⟨rfl, hb2⟩)
        rw [HP.out.1, HP.out.2]
        have hbb := (unhide HB).1.trans hb2
        exact bodyPost_ret (v := .tuple #[v, .int .i64 k, .int .i64 z]) (by simp [results, Try.results10, go_sem]) rfl ⟨v, rfl, hbb, (unhide HS).bel hbb⟩
    · have hki : ¬ (k : Int) < (N : Int) := by omega
      have HP : Hid (putA L = ((N : Int), 0) ∧ putL l L = puts l L) := hide (by
        have : bad L = none := bad_none.2 (fun x hx => by
          obtain ⟨i, hi, rfl⟩ := List.mem_iff_getElem.1 hx
          exact HB.out.2 i (by have := HN.out; omega) hi)
        exact ⟨by unfold putA; rw [this, HN.out], by unfold putL; rw [this]⟩)
      rename_i w1
      have HB1 := hide (unhide HB).1
      clear HB
      go_wp2_with fail
      go_loopw [0, 9] (fun v0 vi wr => ∃ k : Nat, k ≤ N ∧ vi = .int .i64 k ∧ Hid (Bel W wr ∧ SV wr v0 (puts l (L.take k)))) (fun _ vi _ => N - (intOf vi).toNat)
      case atStart => exact ⟨0, Nat.zero_le _, rfl, unhide HB1, by simpa [puts] using (unhide HS).bel (unhide HB1)⟩
      case round =>
        obtain ⟨k, hk, rfl, HB⟩ := hrel
        by_cases hlt : k < N
        · have hkl : k < L.length := by rw [HN.out]; exact hlt
          obtain rfl := HA.out (by omega)
          obtain ⟨x0, x1, x2, x3⟩ := ((unhide HR).bel (unhide HB).1) k hkl
          have hki : (k : Int) < (N : Int) := by omega
          have hlen := puts_len l (L.take k)
          have C28 := hide (lay_any L[k] (unhide HB).2 (by have := HL.out; simp at hlen; omega))
          rw [← puts_one l L k hkl] at C28
          unfold vC at C28
          generalize L[k].k = kk at *
          generalize L[k].t = kt at *
          generalize L[k].d = kd at *
          generalize L[k].v = kv at *
          clear hlen
          go_wp2_with (go_at_call 28; refine (unhide C28).mono ?_; rintro e w2 ⟨v2, rfl, hb2, hs2⟩)
          exact ⟨⟨k + 1, by omega, by go_num, (unhide HB).1.trans hb2, hs2⟩, by simp [intOf]; omega⟩
        · have hki : ¬ (k : Int) < (N : Int) := by omega
          have hkN : k = N := by omega
          subst hkN
          go_wp2_with fail
          rw [HP.out.1, HP.out.2]
          exact bodyPost_ret (v := .tuple #[u0, .int .i64 k, .int .i64 0]) (by simp [results, Try.results10, go_sem]) rfl ⟨u0, rfl, (unhide HB).1, by have := (unhide HB).2; rwa [List.take_of_length_le (by have := HN.out; omega)] at this⟩
end Go.Proofs.Ytkpallbnmckbaaa
