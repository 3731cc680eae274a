/- What the document's Rising returns: the texts, rising, each once. -/
import Derived.Test.YtomnajoflcjnfaaDoorTrmH
namespace Go.Proofs.YtomnajoflcjnfaaDoor
open Go.RowKit
theorem RO2.has {w W : World} {g N co : Nat} {xs : List (List UInt8)} (h : RO2 w W g N co xs) {j : Nat} (hj : j < N) : ∃ x : List UInt8, W.cell? ⟨g, j, none⟩ = some (.string ⟨x.toArray⟩) := by
  have hl : xs.length = N := by have := h.own.1; simpa using this
  exact ⟨xs[j], h.cell hj (List.getElem?_eq_getElem (by omega))⟩
set_option maxHeartbeats 8000000 in
set_option maxRecDepth 100000 in
theorem rising_any (l : List (List UInt8)) (v : Value) (w : World) (hr : RS w v l) (hl : l.length ≤ 16385) : Calls Tryd.prog 59 #[v] w fun e w' => trmR l w e w' := by
  obtain ⟨a, cap, rfl, hc, hne⟩ := hr
  have HNE := hide hne
  clear hne
  go_enter Tryd.func59, Tryd.ntmps59
  go_wp2_with fail
  go_loopw [3, 4] (fun vo i W => ∃ n : Nat, ∃ out, n ≤ l.length ∧ i = .int .i64 n ∧ RO w W vo out ∧ ris out ∧ (∀ x, x ∈ out ↔ x ∈ l.take n) ∧ out.length ≤ n) (fun _ i _ => l.length - (intOf i).toNat)
  case atStart => exact ⟨0, [], Nat.zero_le _, rfl, ⟨World.ownsRow_nil _ _ _ _, Below.refl _ _⟩, List.Pairwise.nil, by simp, Nat.le_refl _⟩
  case round =>
    obtain ⟨n, out, hn, rfl, hO, hris, hmem, hlen⟩ := hrel
    have HO := hide hO
    have HRS := hide hris
    have HMEM := hide hmem
    obtain ⟨ao, co, hvo, hco, hout⟩ := rs_of hO.own
    subst hvo
    have HOUT := hide hout
    clear hO hris hmem hout
    by_cases hlt : n < l.length
    · obtain ⟨g, rfl, hgl, hcell⟩ := HNE.out (fun e => by rw [e] at hlt; simp at hlt)
      have HX := hide (fun (W : World) (hb : Bel w W) => Bel.cell hb (hcell n hlt))
      clear hcell
      obtain ⟨x, hx⟩ : ∃ x, x = l[n] := ⟨_, rfl⟩
      rw [← hx] at HX
      have HXL := hide hx
      clear hx
      go_wp2_with fail
      go_loopw [5] (fun kv W => ∃ k : Nat, k ≤ out.length ∧ kv = .int .i64 k ∧ RO w W (.slice ao out.length co) out ∧ ∀ j (hj : j < out.length), k ≤ j → x < out[j]) (fun kv _ => (intOf kv).toNat)
      case atStart => exact ⟨out.length, Nat.le_refl _, rfl, HO.out, fun j hj h => absurd hj (by omega)⟩
      case round =>
        clear HO
        obtain ⟨k, hk, rfl, hO, hgt⟩ := hrel
        have HO := hide hO
        have HGT := hide hgt
        have d2 := HX.out _ hO.bel
        clear hgt
        by_cases hk0 : k = 0
        · have z0 : (k : Int) ≤ 0 := by omega
          have z1 : ¬ 0 < k := by omega
          have HLO := hide (show ∀ j (hj : j < out.length), j < k → out[j] < x from fun j hj h => by omega)
          clear hO hk0
          go_wp2_with fail
          go_quiet (fail)
          go_wp2_with fail
          go_quiet (fail)
          go_wp2_with (at_builtin; refine ro_push (HO.out.drewN _) (by omega) rfl _ _ rfl rfl rfl ?_; intro g2 co2 w1 hO1; have HO1 := hide hO1; clear hO1)
          have eL : IntKind.i64.wrap ((out.length : Int) + 1 - 1) = (out.length : Int) := by rw [IntKind.wrap_i64]; omega
          go_wp2_with fail
          go_loopw [6] (fun jv W => ∃ j : Nat, k ≤ j ∧ j ≤ out.length ∧ jv = .int .i64 j ∧ RO2 w W g2 (out.length + 1) co2 (shf out j)) (fun jv _ => (intOf jv).toNat)
          case atStart => exact ⟨out.length, hk, Nat.le_refl _, rfl, HO1.out⟩
          case round =>
            clear HO1 d2
            obtain ⟨j, hj1, hj2, rfl, hO2⟩ := hrel
            have HO2 := hide hO2
            have d3 := HX.out _ hO2.bel
            have d5 := hO2.own.frozenAt
            have d6 := hO2.le
            by_cases hjk : k < j
            · obtain ⟨j', hj'⟩ : ∃ j', j = j' + 1 := ⟨j - 1, by omega⟩
              have hjl : j' < out.length := by omega
              obtain ⟨y2, hy2⟩ : ∃ y2, y2 = out[j'] := ⟨_, rfl⟩
              have d4 : wr.cell? ⟨g2, j', none⟩ = some (.string ⟨y2.toArray⟩) := hO2.cell (by omega) (by rw [hj', hy2]; exact shf_at hjl)
              have d7 := d5 j
              obtain ⟨old, d8⟩ := hO2.has (show j < out.length + 1 by omega)
              have HS := hide (RO2.put hO2 j y2 (shf out j') (by rw [hj', hy2]; exact shf_step hjl))
              have e4 : IntKind.i64.wrap ((j : Int) - 1) = (j' : Int) := by rw [IntKind.wrap_i64]; omega
              have HJ := hide hj'
              clear hO2 hj' hy2 d5
              go_wp2_with fail
              refine ⟨⟨j', by have := HJ.out; omega, by omega, rfl, HS.out⟩, ?_⟩
              have := HJ.out
              simp [intOf]
              omega
            · obtain rfl : k = j := by omega
              have d7 := d5 k
              obtain ⟨old, d8⟩ := hO2.has (show k < out.length + 1 by omega)
              have HS := hide (RO2.put hO2 k x _ (shf_end hk x))
              clear hO2 d5
              go_wp2_with fail
              refine ⟨⟨n + 1, out.take k ++ x :: out.drop k, by omega, by simp, HS.out.ro (by simp; omega), ris_put hk HRS.out HGT.out HLO.out, fun z => by rw [mem_put, takeT_next hlt, HMEM.out z, ← HXL.out], by simp; omega⟩, ?_⟩
              simp [intOf]
              omega
        · obtain ⟨m, hm⟩ : ∃ m, k = m + 1 := ⟨k - 1, by omega⟩
          obtain ⟨go, rfl, _, _⟩ := HOUT.out (fun e => by rw [e] at hk; simp at hk; omega)
          have hml : m < out.length := by omega
          obtain ⟨y, hy⟩ : ∃ y, y = out[m] := ⟨_, rfl⟩
          have d1 : wr.cell? ⟨go, m, none⟩ = some (.string ⟨y.toArray⟩) := by
            rw [hO.own.cellAt m (by omega), hy]
            simp [encStr, hml]
          have e1 : IntKind.i64.wrap ((k : Int) - 1) = (m : Int) := by rw [IntKind.wrap_i64]; omega
          have z0 : 0 < k := by omega
          clear hO HOUT
          by_cases hxy : x < y
          · have b1 := str_nlt (show ¬ y < x from fun h => lt_irr x (List.lt_trans hxy h))
            have b2 := str_ne (show y ≠ x from fun h => lt_irr x (by rw [h] at hxy; exact hxy))
            have HG2 := hide (show ∀ j (hj : j < out.length), m ≤ j → x < out[j] from fun j hj h => by
              by_cases e : j = m
              · subst e; rw [← hy]; exact hxy
              · exact HGT.out j hj (by omega))
            clear hxy hy
            have HM := hide hm
            clear hm hk0
            go_wp2_with fail
            go_quiet (fail)
            go_wp2_with fail
            go_roundw
            case rel => exact ⟨m, by omega, by first | rfl | go_num, HO.out.drewN _, HG2.out⟩
            case measure => have := HM.out; simp [intOf]; omega
          · by_cases hyx : y = x
            · have b1 := str_nlt (show ¬ y < x from fun h => lt_irr x (by rw [hyx] at h; exact h))
              have b2 := str_eq hyx
              have HIN := hide (show x ∈ out by rw [← hyx, hy]; exact List.getElem_mem hml)
              clear hxy hy hyx hm hk0
              go_wp2_with fail
              go_quiet (fail)
              go_wp2_with fail
              go_quiet (fail)
              go_wp2_with fail
              go_roundw
              case rel => exact ⟨n + 1, out, by omega, by go_num, HO.out.drewN _, HRS.out, fun z => by rw [takeT_next hlt, HMEM.out z, ← HXL.out]; constructor <;> (intro h; first | exact Or.inl h | (rcases h with h | h; exact h; rw [h]; exact (HMEM.out x).1 HIN.out)), by omega⟩
              case measure => simp [intOf]; omega
            · have b1 := str_lt (lt_of_not hxy hyx)
              have b2 := str_ne hyx
              have HLO := hide (show ∀ j (hj : j < out.length), j < k → out[j] < x from fun j hj h => by
                by_cases e : j = m
                · subst e; rw [← hy]; exact lt_of_not hxy hyx
                · exact List.lt_trans (List.pairwise_iff_getElem.1 HRS.out j m hj hml (by omega)) (by rw [← hy]; exact lt_of_not hxy hyx))
              have HM := hide hm
              clear hxy hy hyx hm hk0
              go_wp2_with fail
              go_quiet (fail)
              go_wp2_with fail
              go_quiet (fail)
              go_wp2_with (at_builtin; refine ro_push (HO.out.drewN _) (by omega) rfl _ _ rfl rfl rfl ?_; intro g2 co2 w1 hO1; have HO1 := hide hO1; clear hO1)
              have eL : IntKind.i64.wrap ((out.length : Int) + 1 - 1) = (out.length : Int) := by rw [IntKind.wrap_i64]; omega
              go_wp2_with fail
              go_loopw [6] (fun jv W => ∃ j : Nat, k ≤ j ∧ j ≤ out.length ∧ jv = .int .i64 j ∧ RO2 w W g2 (out.length + 1) co2 (shf out j)) (fun jv _ => (intOf jv).toNat)
              case atStart => exact ⟨out.length, hk, Nat.le_refl _, rfl, HO1.out⟩
              case round =>
                clear HO1 d2
                obtain ⟨j, hj1, hj2, rfl, hO2⟩ := hrel
                have HO2 := hide hO2
                have d3 := HX.out _ hO2.bel
                have d5 := hO2.own.frozenAt
                have d6 := hO2.le
                by_cases hjk : k < j
                · obtain ⟨j', hj'⟩ : ∃ j', j = j' + 1 := ⟨j - 1, by omega⟩
                  have hjl : j' < out.length := by omega
                  obtain ⟨y2, hy2⟩ : ∃ y2, y2 = out[j'] := ⟨_, rfl⟩
                  have d4 : wr.cell? ⟨g2, j', none⟩ = some (.string ⟨y2.toArray⟩) := hO2.cell (by omega) (by rw [hj', hy2]; exact shf_at hjl)
                  have d7 := d5 j
                  obtain ⟨old, d8⟩ := hO2.has (show j < out.length + 1 by omega)
                  have HS := hide (RO2.put hO2 j y2 (shf out j') (by rw [hj', hy2]; exact shf_step hjl))
                  have e4 : IntKind.i64.wrap ((j : Int) - 1) = (j' : Int) := by rw [IntKind.wrap_i64]; omega
                  have HJ := hide hj'
                  clear hO2 hj' hy2 d5
                  go_wp2_with fail
                  refine ⟨⟨j', by have := HJ.out; omega, by omega, rfl, HS.out⟩, ?_⟩
                  have := HJ.out
                  simp [intOf]
                  omega
                · obtain rfl : k = j := by omega
                  have d7 := d5 k
                  obtain ⟨old, d8⟩ := hO2.has (show k < out.length + 1 by omega)
                  have HS := hide (RO2.put hO2 k x _ (shf_end hk x))
                  clear hO2 d5
                  go_wp2_with fail
                  refine ⟨⟨n + 1, out.take k ++ x :: out.drop k, by omega, by simp, HS.out.ro (by simp; omega), ris_put hk HRS.out HGT.out HLO.out, fun z => by rw [mem_put, takeT_next hlt, HMEM.out z, ← HXL.out], by simp; omega⟩, ?_⟩
                  simp [intOf]
                  omega
    · go_wp2_with fail
      go_ret
      exact ⟨_, out, rfl, rs_of HO.out.own, HO.out.bel, HRS.out, by rw [List.take_of_length_le (by omega)] at HMEM; exact HMEM.out⟩
end Go.Proofs.YtomnajoflcjnfaaDoor
