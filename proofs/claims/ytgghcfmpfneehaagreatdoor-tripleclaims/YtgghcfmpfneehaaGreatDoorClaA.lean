/- Whether two rows of texts have a text in common, by the program: a set of texts that the call makes. -/
import Derived.Test.YtgghcfmpfneehaaGreatDoorBytes
import Derived.Maps.OwnSet
import Derived.WalkKit
namespace Go.Proofs.YtgghcfmpfneehaaGreatDoor
open Go.RowKit Go.Maps Go.WideMaps
def litS (l : List UInt8) : Lit := .string l
/-- The set of some texts, as the call's map reads. -/
def SnU (ss : List (List UInt8)) : DataW Unit := setOf (.agg []) (ss.map litS)
theorem SnU_nil : SnU [] = .map [] := by simp [SnU, setOf]
theorem SnU_snoc (ss : List (List UInt8)) (x : List UInt8) : SnU (ss ++ [x]) = (SnU ss).put (litS x) (.agg []) := by
  unfold SnU
  rw [List.map_append, List.map_cons, List.map_nil, setOf_snoc]
theorem litS_key (x : List UInt8) : WideAt.IsKeyLit (litS x) := by unfold litS WideAt.IsKeyLit; trivial
theorem SnU_has (ss : List (List UInt8)) (x : List UInt8) : Maps.has (SnU ss) (litS x) = decide (x ∈ ss) := by
  unfold SnU
  rw [has_setOf _ _ _ (fun y hy => by obtain ⟨z, _, rfl⟩ := List.mem_map.1 hy; exact litS_key z)]
  rw [Bool.eq_iff_iff]
  simp only [List.any_eq_true, List.mem_map, decide_eq_true_eq]
  constructor
  · rintro ⟨y, ⟨z, hz, rfl⟩, h⟩
    have : z = x := by simpa [litS, Lit.sameKey] using h
    rw [← this]; exact hz
  · intro h
    exact ⟨litS x, ⟨x, h, rfl⟩, by simp [litS, Lit.sameKey]⟩
theorem law9 : Keyed Tryz.prog 9 := string_keyed Tryz.underlying9
theorem key_ok {x : List UInt8} (h : x.length ≤ maxLen) : keyOf Tryz.prog 9 (.string ⟨x.toArray⟩) = some (litS x) := by
  refine keyOf_string_mk Tryz.underlying9 ?_
  show x.toArray.size ≤ _
  simpa using h
set_option maxHeartbeats 1000000 in
set_option maxRecDepth 100000 in
theorem clash_any (a1 a2 : Option Addr) (b1 o1 c1 b2 o2 c2 : Nat) (A B : List (List UInt8)) (ha1 : A.length ≠ 0 → a1 = some ⟨b1, o1, none⟩) (ha2 : B.length ≠ 0 → a2 = some ⟨b2, o2, none⟩) (hA : A.length ≤ 1000000) (hB : B.length ≤ 1000000) (w : World) (h1 : ∀ j (h : j < A.length), w.cell? ⟨b1, o1 + j, none⟩ = some (.string ⟨A[j].toArray⟩)) (h2 : ∀ j (h : j < B.length), w.cell? ⟨b2, o2 + j, none⟩ = some (.string ⟨B[j].toArray⟩)) (hb1 : A.length ≠ 0 → b1 < w.heap.size) (hb2 : B.length ≠ 0 → b2 < w.heap.size) (m1 : ∀ x ∈ A, x.length ≤ maxLen) (m2 : ∀ x ∈ B, x.length ≤ maxLen) :
    Calls Tryz.prog 16 #[.slice a1 A.length c1, .slice a2 B.length c2] w fun e w' => e = .returned (.bool (B.any (fun x => decide (x ∈ A)))) ∧ Bel w w' := by
  have hmm := @run_makeMap Tryz.prog
  obtain ⟨na, hna⟩ : ∃ na, A.length = na := ⟨_, rfl⟩
  obtain ⟨nb, hnb⟩ : ∃ nb, B.length = nb := ⟨_, rfl⟩
  rw [hna] at ha1 hb1 ⊢
  rw [hnb] at ha2 hb2 ⊢
  have HA1 := hide ha1
  have HA2 := hide ha2
  have HB1 := hide hb1
  have HB2 := hide hb2
  clear ha1 ha2 hb1 hb2
  have Hna := hide hna
  have Hnb := hide hnb
  have H1 := hide h1
  have H2 := hide h2
  have M1 := hide m1
  have M2 := hide m2
  clear h1 h2 m1 m2 hna hnb
  go_enter Tryz.func16, Tryz.ntmps16
  go_wp2_with fail
  go_loopw [7, 15] (fun _ vi wr => ∃ k : Nat, k ≤ na ∧ vi = .int .i64 k ∧ Hid (wr.ownsMap Tryz.prog 9 unitElem w.heap.size k (SnU (A.take k)) ∧ Below w.heap.size w wr)) (fun _ vi _ => na - (intOf vi).toNat)
  case atStart => exact ⟨0, Nat.zero_le _, rfl, hide ⟨by rw [List.take_zero, SnU_nil]; exact World.ownsMap_made _ _ _ _, (Below.refl _ _).alloc (Nat.le_refl _) _⟩⟩
  case round =>
    obtain ⟨k, hk, rfl, HO⟩ := hrel
    by_cases hlt : k < na
    · have hkl : k < A.length := by rw [Hna.out]; exact hlt
      have ea := HA1.out (by omega)
      subst ea
      have hcx : wr.cell? ⟨b1, o1 + k, none⟩ = some (.string ⟨A[k].toArray⟩) := (HO.out.2.cell (HB1.out (by omega))).trans (H1.out k hkl)
      have hkey := key_ok (M1.out A[k] (List.getElem_mem hkl))
      generalize hx : A[k] = x at hcx hkey
      have Hx := hide hx
      clear hx
      go_wp2_with (first | (at_mapUpdate; refine wpList_mapUpdate_own _ rfl _ _ _ 84 rfl 9 86 law9 Tryz.underlying84 unitElem w.heap.size k _ rfl HO.out.1 (by unfold maxLen; have := Hna.out; omega) _ _ _ rfl rfl hkey _ [] unitElem_mk ?_; intro w1 hown1 hgrow1) | go_in)
      go_roundw
      case rel =>
        refine ⟨k + 1, by omega, by go_num, hide ⟨?_, HO.out.2.grown hgrow1 HO.out.2.size (fun j hj => by cases hj; exact Nat.le_refl _)⟩⟩
        rw [List.take_succ_eq_append_getElem hkl, Hx.out, SnU_snoc]
        exact hown1
      case measure => simp [intOf]; omega
    · obtain rfl : k = na := by omega
      have HM : Hid (wr.ownsMap Tryz.prog 9 unitElem w.heap.size k (SnU A) ∧ Below w.heap.size w wr) := by
        have h := HO.out
        rw [List.take_of_length_le (by rw [Hna.out]; exact Nat.le_refl _)] at h
        exact hide h
      clear HO
      have hz53 : ∀ W, (zeroValue 86).run Tryz.prog W = .ok (.agg #[]) W := fun W => by go_simp
      go_wp2_with fail
      go_loopw [9, 10, 11, 25] (fun _ _ _ vi W => ∃ j : Nat, j ≤ nb ∧ vi = .int .i64 j ∧ Hid ((∀ x ∈ B.take j, x ∉ A) ∧ W.ownsMap Tryz.prog 9 unitElem w.heap.size k (SnU A) ∧ Below w.heap.size w W)) (fun _ _ _ vi _ => nb - (intOf vi).toNat)
      case atStart => exact ⟨0, Nat.zero_le _, rfl, hide ⟨by simp, HM.out⟩⟩
      case round =>
        obtain ⟨j, hj, rfl, HO⟩ := hrel
        by_cases hlt2 : j < nb
        · have hjl : j < B.length := by rw [Hnb.out]; exact hlt2
          have eb := HA2.out (by omega)
          subst eb
          have hcx : wr.cell? ⟨b2, o2 + j, none⟩ = some (.string ⟨B[j].toArray⟩) := (HO.out.2.2.cell (HB2.out (by omega))).trans (H2.out j hjl)
          have hkey := key_ok (M2.out B[j] (List.getElem_mem hjl))
          generalize hx : B[j] = x at hcx hkey
          have Hx := hide hx
          clear hx
          obtain ⟨q, hq⟩ : ∃ q, Maps.has (SnU A) (litS x) = q := ⟨_, rfl⟩
          have Hq := hide hq
          cases q
          all_goals
            go_wp2_with (first | (at_lookup; refine wpList_lookup_own_ok _ rfl _ _ 84 rfl 9 86 law9 Tryz.underlying84 unitElem (hz53 _) (.agg []) [] unitElem_mk w.heap.size k _ rfl HO.out.2.1 _ _ rfl hkey ?_; intro vv ps hvv; obtain ⟨rfl, _⟩ := unitElem_inv hvv; rw [Hq.out]) | go_in)
          · go_roundw
            case rel =>
              refine ⟨j + 1, by omega, by go_num, hide ⟨?_, HO.out.2.1.alloc _, HO.out.2.2.alloc HO.out.2.2.size _⟩⟩
              rw [List.take_succ_eq_append_getElem hjl, Hx.out]
              intro y hy
              rcases List.mem_append.1 hy with h | h
              · exact HO.out.1 y h
              · rw [List.mem_singleton.1 h]
                have := Hq.out
                rw [SnU_has] at this
                simpa using this
            case measure => simp [intOf]; omega
          · go_ret
            refine ⟨?_, HO.out.2.2.alloc HO.out.2.2.size _⟩
            have e : (B.any fun x => decide (x ∈ A)) = true := by
              rw [List.any_eq_true]
              refine ⟨x, by rw [← Hx.out]; exact List.getElem_mem hjl, ?_⟩
              have := Hq.out
              rw [SnU_has] at this
              exact this
            rw [e]; rfl
        · go_wp2_with fail
          go_ret
          refine ⟨?_, HO.out.2.2⟩
          have e : (B.any fun x => decide (x ∈ A)) = false := by
            rw [List.any_eq_false]
            intro x hx
            have := HO.out.1 x (by rw [List.take_of_length_le (by rw [Hnb.out]; omega)]; exact hx)
            simpa using this
          rw [e]; rfl
end Go.Proofs.YtgghcfmpfneehaaGreatDoor
