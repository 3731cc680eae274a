/- The document's Get. -/
import Derived.Test.YtkpallbnmckbaaaDca
namespace Go.Proofs.Ytkpallbnmckbaaa
open Go.RowKit
theorem dG_at {l : List C} {key : ByteArray} {t : Int} (j : Nat) (hj : j < l.length) (h : ∀ i (hi : i < j), ¬ ((l[i]'(by omega)).k = key ∧ (l[i]'(by omega)).t ≤ t)) (hm : l[j].k = key ∧ l[j].t ≤ t) : dG l key t = if l[j].d = true then none else some l[j] := by
  have : fndP l key t = some l[j] := by
    unfold fndP
    rw [List.find?_eq_some_iff_getElem]
    refine ⟨by simp [hm.1, hm.2], j, hj, rfl, fun i hi => ?_⟩
    have := h i hi
    simp only [Bool.not_eq_true']
    rw [Bool.and_eq_false_iff]
    by_cases e : (l[i]'(by omega)).k = key
    · right; simp only [decide_eq_false_iff_not]; exact fun h' => this ⟨e, h'⟩
    · left; simpa using e
  unfold dG
  rw [this]
theorem dG_none {l : List C} {key : ByteArray} {t : Int} (h : ∀ i (hi : i < l.length), ¬ (l[i].k = key ∧ l[i].t ≤ t)) : dG l key t = none := by
  have : fndP l key t = none := by
    unfold fndP
    rw [List.find?_eq_none]
    intro x hx
    obtain ⟨i, hi, rfl⟩ := List.mem_iff_getElem.1 hx
    have := h i hi
    simpa using this
  unfold dG
  rw [this]
set_option maxRecDepth 100000 in
set_option maxHeartbeats 4000000 in
theorem dget_any {W : World} {v : Value} {L : List C} (key : ByteArray) (t : Int) (h : RV W v L) (hl : L.length ≤ 900000) : Calls Try.prog 14 #[v, .string key, .int .u64 t] W fun e w' => e = .returned (getV (dG L key t)) ∧ Bel W w' := by
  obtain ⟨a1, c1, g1, o1, rfl, ha1, hr1, _⟩ := h
  obtain ⟨N, hN⟩ : ∃ N, L.length = N := ⟨_, rfl⟩
  have HN := hide hN
  have HR1 := hide hr1
  rw [hN] at ha1 hl ⊢
  have HA1 := hide ha1
  obtain ⟨W0, hW0⟩ : ∃ W0, W0 = W.alloc (.cells #[.string ⟨#[]⟩, .int .u64 0, .bool false, .string ⟨#[]⟩] 38) := ⟨_, rfl⟩
  have hb0 : Bel W W0 := by rw [hW0]; exact (Bel.refl _).alloc _
  have hbx : W0.heap[W.heap.size]? = some (.cells #[.string ⟨#[]⟩, .int .u64 0, .bool false, .string ⟨#[]⟩] 38) := by rw [hW0]; exact at_new W _
  have HW0 := hide hW0
  have HBX := hide hbx
  have HB0 := hide hb0
  clear hN hr1 ha1 hW0 hbx hb0
  go_enter Try.func14, Try.ntmps14
  go_wp2_with fail
  rw [← unhide HW0]
  go_loopw [8] (fun vi wr => ∃ k : Nat, k ≤ N ∧ vi = .int .i64 k ∧ wr = W0 ∧ Hid (∀ i (hi : i < k) (h : i < L.length), ¬ (L[i].k = key ∧ L[i].t ≤ t))) (fun vi _ => N - (intOf vi).toNat)
  case atStart => exact ⟨0, Nat.zero_le _, rfl, rfl, fun i hi => absurd hi (Nat.not_lt_zero _)⟩
  case round =>
    obtain ⟨k, hk, rfl, rfl, HB⟩ := hrel
    by_cases hlt : k < N
    · have hkl : k < L.length := by rw [HN.out]; exact hlt
      obtain rfl := HA1.out (by omega)
      have hki : (k : Int) < (N : Int) := by omega
      obtain ⟨x0, x1, x2, x3⟩ := ((unhide HR1).bel (unhide HB0)) k hkl
      have HD : Hid (L[k].k = key ∧ L[k].t ≤ t → dG L key t = if L[k].d = true then none else some L[k]) := hide (fun h => dG_at k hkl (fun i hi => HB.out i hi (by omega)) h)
      have HNX : Hid (¬ (L[k].k = key ∧ L[k].t ≤ t) → ∀ i (hi : i < k + 1) (h : i < L.length), ¬ (L[i].k = key ∧ L[i].t ≤ t)) := hide (fun h i hi hL => by
        by_cases e : i = k
        · subst e; exact h
        · exact HB.out i (by omega) hL)
      generalize L[k] = x at *
      obtain ⟨xk, xt, xd, xv⟩ := x
      simp only [C.k, C.t, C.d, C.v] at x0 x1 x2 x3 HD HNX
      by_cases hkk : xk = key
      · by_cases htt : xt ≤ t
        · have HD' := hide (HD.out ⟨hkk, htt⟩)
          subst hkk
          cases xd with
          | true =>
            have HZ : Hid (dG L xk t = none) := HD'
            clear HNX HD HD' HB
            go_wp2_with (refine store_cell rfl _ _ rfl (unhide HBX) ⟨#[]⟩ 0 false ⟨#[]⟩ rfl rfl ?_; intro W2 hB2 hc2)
            have r0 := cell_of (i := 0) hB2
            have r1 := cell_of (i := 1) hB2
            have r2 := cell_of (i := 2) hB2
            have r3 := cell_of (i := 3) hB2
            exact bodyPost_ret (v := .tuple #[.agg #[.string ⟨#[]⟩, .int .u64 0, .bool false, .string ⟨#[]⟩], .bool false]) (by simp [results, Try.results14, go_sem, r0, r1, r2, r3]) rfl ⟨by rw [HZ.out]; rfl, hc2.after (unhide HB0) (Nat.le_refl _)⟩
          | false =>
            have HZ : Hid (dG L xk t = some (xk, xt, false, xv)) := HD'
            clear HNX HD HD' HB
            go_wp2_with (refine store_cell rfl _ _ rfl (unhide HBX) xk xt false xv rfl rfl ?_; intro W2 hB2 hc2)
            have r0 := cell_of (i := 0) hB2
            have r1 := cell_of (i := 1) hB2
            have r2 := cell_of (i := 2) hB2
            have r3 := cell_of (i := 3) hB2
            exact bodyPost_ret (v := .tuple #[.agg #[.string xk, .int .u64 xt, .bool false, .string xv], .bool true]) (by simp [results, Try.results14, go_sem, r0, r1, r2, r3]) rfl ⟨by rw [HZ.out]; rfl, hc2.after (unhide HB0) (Nat.le_refl _)⟩
        · have HB' := hide (HNX.out (fun h => htt h.2))
          subst hkk
          clear HNX HD HB
          go_wp2_with fail
          exact ⟨⟨k + 1, by omega, by go_num, trivial, HB'⟩, by simp [intOf]; omega⟩
      · have HB' := hide (HNX.out (fun h => hkk h.1))
        have hke : (xk.toList == key.toList) = false := by
          simp only [Lib.toList_data, beq_eq_false_iff_ne, ne_eq]
          intro e
          exact hkk (by cases xk; cases key; congr 1; exact Array.toList_inj.1 e)
        clear HNX HD HB
        go_wp2_with fail
        exact ⟨⟨k + 1, by omega, by go_num, trivial, HB'⟩, by simp [intOf]; omega⟩
    · have hki : ¬ (k : Int) < (N : Int) := by omega
      have HZ : Hid (dG L key t = none) := hide (dG_none (fun i hi => HB.out i (by have := HN.out; omega) hi))
      clear HB
      go_wp2_with (refine store_cell rfl _ _ rfl (unhide HBX) ⟨#[]⟩ 0 false ⟨#[]⟩ rfl rfl ?_; intro W2 hB2 hc2)
      have r0 := cell_of (i := 0) hB2
      have r1 := cell_of (i := 1) hB2
      have r2 := cell_of (i := 2) hB2
      have r3 := cell_of (i := 3) hB2
      exact bodyPost_ret (v := .tuple #[.agg #[.string ⟨#[]⟩, .int .u64 0, .bool false, .string ⟨#[]⟩], .bool false]) (by simp [results, Try.results14, go_sem, r0, r1, r2, r3]) rfl ⟨by rw [HZ.out]; rfl, hc2.after (unhide HB0) (Nat.le_refl _)⟩
end Go.Proofs.Ytkpallbnmckbaaa
