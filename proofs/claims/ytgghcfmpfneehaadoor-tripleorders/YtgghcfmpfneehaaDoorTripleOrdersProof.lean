/- Proved: for every two triples the program tells how they stand to one another, or which fault the first of them that has one has, as the document does ('Rows.TripleOrdersCardSaid'); no condition but what the card ties: the library's variables start as the program's text lays them. -/
import Derived.Test.YtgghcfmpfneehaaDoorOpenT
import Derived.Test.YtgghcfmpfneehaaDoorOrdersWalk
namespace Go.Proofs.YtgghcfmpfneehaaDoor.tripleOrders
open Go.ChangeShapes Go.WideShapes Go.ChangeAt Go.RowKit
open Go.ChangeMaps (open_string shut_string)
set_option linter.unusedVariables false

set_option maxRecDepth 100000 in
theorem lifted (os : Os) (started : os.Started) (H : Type) (enc : TypeId × Value → H) :
    ReturnsInHanded {} Tryd.checked os 4 .any (fun w args => (Rows.tripleOrdersSpec.pre enc Tryd.prog Tryd.f4 [] false w args ∧ laidMetH Tryd.prog laid5 w) ∧ sizedMet enc Tryd.prog Tryd.f4 (OpenSpec.ofChange Rows.tripleOrdersSpec) false w args)
      (Rows.tripleOrdersSpec.post enc Tryd.prog Tryd.f4 false true false false) := by
  refine returnsInHanded_of_change_and (C := Tryd.checked) (X := fun w _ => laidMetH Tryd.prog laid5 w) (fun _ _ _ hh h => h.of_heap hh) own started (by kernel_rfl) Tryd.func4
    (ChangeSpec.witness_shaped (enc := enc) (C := Tryd.checked) (os := os) (X := fun w _ => laidMetH Tryd.prog laid5 w) false (World.doorLaid Tryd.prog 900 os) #[a_tri 0 ⟨#[]⟩ 0 false 0 ⟨#[]⟩ 0, a_tri 0 ⟨#[]⟩ 0 false 0 ⟨#[]⟩ 0] 8 rfl (World.shaped_of_RefB (by kernel_rfl) (by kernel_rfl)) (by kernel_rfl) (by kernel_rfl) (by kernel_rfl) (door_met os _)) ?_
  intro W base args ds gs before hval0 hW _ hsz0 hL _
  have hsz : (DataW.weightsEach Tryd.prog (Tryd.f4.params.toList ++ Rows.tripleOrdersSpec.plain.varTypes Tryd.prog) (ds ++ gs)).all (· ≤ reachBytes) = true := hsz0
  have hval : ∀ (j : Nat) t v, Tryd.f4.params[j]? = some t → args[j]? = some v → Value.okWide Tryd.prog W .any base t v := hval0
  have hW' := hW
  obtain ⟨p, q, hA0, hV, rfl, hfz, hnd⟩ := hW
  have hA : DataW.TrodAll enc Tryd.prog W 0 (fun _ => true) true Tryd.f4.params.toList args.toList ds p := hA0
  rw [Tryd.params4] at hA hval hsz
  obtain ⟨v0, vs0, d0, ds0, p0, q0, hargs, rfl, rfl, h0, r0⟩ := trodAll_cons hA
  obtain ⟨v1, vs1, d1, ds1, p1, q1, rfl, rfl, rfl, h1, r1⟩ := trodAll_cons r0
  obtain ⟨rfl, rfl, rfl⟩ := trodAll_nil r1
  obtain rfl : args = #[v0, v1] := by cases args; simp_all
  obtain ⟨rfl, rfl⟩ := trodVars_none hV
  obtain ⟨u0, p0, k0, b0, n0, s0, v0, rfl, rfl, rfl, wu0, wp0, wk0, wn0, ws0, wv0⟩ := open_tri (hval 0 27 v0 rfl rfl) h0
  obtain ⟨u1, p1, k1, b1, n1, s1, v1, rfl, rfl, rfl, wu1, wp1, wk1, wn1, ws1, wv1⟩ := open_tri (hval 1 27 v1 rfl rfl) h1
  clear hA0 hval0
  simp only [List.append_nil] at hW'
  have bn0 := bounds_i64 wn0
  have bv0 := bounds_u64 wv0
  have bu0 := bounds_u64 wu0
  have bn1 := bounds_i64 wn1
  have bv1 := bounds_u64 wv1
  have bu1 := bounds_u64 wu1
  refine (orders_card u0 p0 k0 b0 n0 s0 v0 u1 p1 k1 b1 n1 s1 v1 ⟨bu0.1, by omega⟩ ⟨bn0.1, by omega, bv0.1, by omega⟩ ⟨bu1.1, by omega⟩ ⟨bn1.1, by omega, bv1.1, by omega⟩ W (gl_of_laid hL)).mono fun e W' ⟨he, hg⟩ => ?_
  subst he
  exact ⟨_, rfl, _, _, _, [], _, [], hW', trodAll_mk1 (shut_bool Tryd.underlying4 _), (trodAll_cons_mk (shut_tri wu0 wp0 wk0 wn0 ws0 wv0) (trodAll_cons_mk (shut_tri wu1 wp1 wk1 wn1 ws1 wv1) trodAll_mk0)), rfl, World.keptBut_mono (fun _ f => f.elim) hg.kept, fun h => by cases h⟩

theorem over : Rows.tripleOrdersRow.holds Tryd.pinned (OpenSpec.ofChange Rows.tripleOrdersSpec) :=
  OpenClaim.holds_of_wide 4 Tryd.f4 rfl rfl rfl rfl rfl rfl rfl ⟨rfl, rfl, rfl, rfl, rfl⟩ rfl rfl rfl rfl rfl (by kernel_rfl) Tryd.func4 (by kernel_rfl)
    (of_decide_eq_true (by kernel_rfl)) (by unfold Func.isWrapper; first | (rw [if_pos (by decide +kernel)]; kernel_rfl) | (rw [if_neg (by decide +kernel)]; exact ⟨rfl, rfl⟩))
    (fun os started H enc _ => lifted os started H enc)

theorem proved : Rows.TripleOrdersCardSaid :=
  Claim7.holds_tied_plain_at .later [] [.data, .data, .data] true (true, "b898c05f6cfc5cb288b6301b960eeea34fc45522b7ea732dc429d892f0c21cc7") false
    over (fun _ h => by cases h) (by kernel_rfl) (fun _ h => by cases h) tripleOrders_row_tie rfl ⟨rfl, rfl⟩ (by kernel_rfl) rfl
    (fun f fn hf hfn => by
      obtain rfl : f = 4 := Option.some.inj ((show Tryd.prog.funcNamed Tryd.f4.name = some 4 by kernel_rfl).symm.trans hf) |>.symm
      obtain rfl : fn = Tryd.f4 := (Option.some.inj (Tryd.func4.symm.trans hfn)).symm
      exact ⟨by kernel_rfl, fun j t ht => by
        rw [Tryd.params4] at ht
        have h3 : t = 27 := by
          rcases j with _ | _ | j
          · exact (by simpa using ht.symm)
          · exact (by simpa using ht.symm)
          · simp at ht
        subst h3
        exact (show Tryd.prog.wantsStandIn 27 = false by kernel_rfl)⟩)
    (by kernel_rfl)
end Go.Proofs.YtgghcfmpfneehaaDoor.tripleOrders

namespace Go.Proofs.YtgghcfmpfneehaaDoor
theorem tripleOrders_holds : Rows.TripleOrdersCardSaid := tripleOrders.proved
end Go.Proofs.YtgghcfmpfneehaaDoor
