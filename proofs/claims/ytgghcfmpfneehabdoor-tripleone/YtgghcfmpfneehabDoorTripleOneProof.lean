/- Proved: for every schema and every two writes: if both fit it, each claims one thing, the two claim the same thing just where they speak of one node, and of one value where the schema is a list, and they clash just there ('Rows.TripleOneCardSaid'); no condition but what the card ties: the library's variables start as the program's text lays them. -/
import Derived.Test.YtgghcfmpfneehabDoorOpenT
import Derived.Test.YtgghcfmpfneehabDoorOneWalk
namespace Go.Proofs.YtgghcfmpfneehabDoor.tripleOne
open Go.ChangeShapes Go.WideShapes Go.ChangeAt Go.RowKit
open Go.ChangeMaps (open_string shut_string)
set_option linter.unusedVariables false

set_option maxRecDepth 100000 in
theorem lifted (os : Os) (started : os.Started) (H : Type) (enc : TypeId × Value → H) :
    ReturnsInHanded {} Tryd.checked os 3 .any (fun w args => (Rows.tripleOneSpec.pre enc Tryd.prog Tryd.f3 [] false w args ∧ laidMetH Tryd.prog laid5 w) ∧ sizedMet enc Tryd.prog Tryd.f3 (OpenSpec.ofChange Rows.tripleOneSpec) false w args)
      (Rows.tripleOneSpec.post enc Tryd.prog Tryd.f3 false true false false) := by
  refine returnsInHanded_of_change_and (C := Tryd.checked) (X := fun w _ => laidMetH Tryd.prog laid5 w) (fun _ _ _ hh h => h.of_heap hh) own started (by kernel_rfl) Tryd.func3
    (ChangeSpec.witness_shaped (enc := enc) (C := Tryd.checked) (os := os) (X := fun w _ => laidMetH Tryd.prog laid5 w) false (World.doorLaid Tryd.prog 900 os) #[a_sch ⟨#[]⟩ 0 false false false false false false, a_wri false 0 ⟨#[]⟩ 0 false 0 ⟨#[]⟩ 0, a_wri false 0 ⟨#[]⟩ 0 false 0 ⟨#[]⟩ 0] 8 rfl (World.shaped_of_RefB (by kernel_rfl) (by kernel_rfl)) (by kernel_rfl) (by kernel_rfl) (by kernel_rfl) (door_met os _)) ?_
  intro W base args ds gs before hval0 hW _ hsz0 hL _
  have hsz : (DataW.weightsEach Tryd.prog (Tryd.f3.params.toList ++ Rows.tripleOneSpec.plain.varTypes Tryd.prog) (ds ++ gs)).all (· ≤ reachBytes) = true := hsz0
  have hval : ∀ (j : Nat) t v, Tryd.f3.params[j]? = some t → args[j]? = some v → Value.okWide Tryd.prog W .any base t v := hval0
  have hW' := hW
  obtain ⟨p, q, hA0, hV, rfl, hfz, hnd⟩ := hW
  have hA : DataW.TrodAll enc Tryd.prog W 0 (fun _ => true) true Tryd.f3.params.toList args.toList ds p := hA0
  rw [Tryd.params3] at hA hval hsz
  obtain ⟨v0, vs0, d0, ds0, p0, q0, hargs, rfl, rfl, h0, r0⟩ := trodAll_cons hA
  obtain ⟨v1, vs1, d1, ds1, p1, q1, rfl, rfl, rfl, h1, r1⟩ := trodAll_cons r0
  obtain ⟨v2, vs2, d2, ds2, p2, q2, rfl, rfl, rfl, h2, r2⟩ := trodAll_cons r1
  obtain ⟨rfl, rfl, rfl⟩ := trodAll_nil r2
  obtain rfl : args = #[v0, v1, v2] := by cases args; simp_all
  obtain ⟨rfl, rfl⟩ := trodVars_none hV
  obtain ⟨q0, t0, l0, x0, tm0, od0, rv0, ct0, rfl, rfl, rfl, wq0, wt0⟩ := open_sch (hval 0 24 v0 rfl rfl) h0
  obtain ⟨d1, u1, p1, k1, b1, n1, s1, v1, rfl, rfl, rfl, wu1, wp1, wk1, wn1, ws1, wv1⟩ := open_wri (hval 1 31 v1 rfl rfl) h1
  obtain ⟨d2, u2, p2, k2, b2, n2, s2, v2, rfl, rfl, rfl, wu2, wp2, wk2, wn2, ws2, wv2⟩ := open_wri (hval 2 31 v2 rfl rfl) h2
  clear hA0 hval0
  simp only [List.append_nil] at hW'
  have bn1 := bounds_i64 wn1
  have bv1 := bounds_u64 wv1
  have bu1 := bounds_u64 wu1
  have bn2 := bounds_i64 wn2
  have bv2 := bounds_u64 wv2
  have bu2 := bounds_u64 wu2
  refine (one_card q0 t0 l0 x0 tm0 od0 rv0 ct0 d1 u1 p1 k1 b1 n1 s1 v1 d2 u2 p2 k2 b2 n2 s2 v2 ⟨bu1.1, by omega⟩ ⟨bn1.1, by omega, bv1.1, by omega⟩ ⟨bu2.1, by omega⟩ ⟨bn2.1, by omega, bv2.1, by omega⟩ W (gl_of_laid hL)).mono fun e W' ⟨he, hg⟩ => ?_
  subst he
  exact ⟨_, rfl, _, _, _, [], _, [], hW', trodAll_mk1 (shut_bool Tryd.underlying4 _), (trodAll_cons_mk (shut_sch wq0 wt0) (trodAll_cons_mk (shut_wri wu1 wp1 wk1 wn1 ws1 wv1) (trodAll_cons_mk (shut_wri wu2 wp2 wk2 wn2 ws2 wv2) trodAll_mk0))), rfl, World.keptBut_mono (fun _ f => f.elim) hg.kept, fun h => by cases h⟩

theorem over : Rows.tripleOneRow.holds Tryd.pinned (OpenSpec.ofChange Rows.tripleOneSpec) :=
  OpenClaim.holds_of_wide 3 Tryd.f3 rfl rfl rfl rfl rfl rfl rfl ⟨rfl, rfl, rfl, rfl, rfl⟩ rfl rfl rfl rfl rfl (by kernel_rfl) Tryd.func3 (by kernel_rfl)
    (of_decide_eq_true (by kernel_rfl)) (by unfold Func.isWrapper; first | (rw [if_pos (by decide +kernel)]; kernel_rfl) | (rw [if_neg (by decide +kernel)]; exact ⟨rfl, rfl⟩))
    (fun os started H enc _ => lifted os started H enc)

theorem proved : Rows.TripleOneCardSaid :=
  Claim7.holds_tied_plain_at .later [] [.data, .data, .data] true (true, "d1ea66c86b1a64aefc43b6cf03e1cbd9e000a405c8badb77102648727fb04708") false
    over (fun _ h => by cases h) (by kernel_rfl) (fun _ h => by cases h) tripleOne_row_tie rfl ⟨rfl, rfl⟩ (by kernel_rfl) rfl
    (fun f fn hf hfn => by
      obtain rfl : f = 3 := Option.some.inj ((show Tryd.prog.funcNamed Tryd.f3.name = some 3 by kernel_rfl).symm.trans hf) |>.symm
      obtain rfl : fn = Tryd.f3 := (Option.some.inj (Tryd.func3.symm.trans hfn)).symm
      exact ⟨by kernel_rfl, fun j t ht => by
        rw [Tryd.params3] at ht
        have h3 : t = 24 ∨ t = 31 := by
          rcases j with _ | _ | _ | j
          · exact Or.inl (by simpa using ht.symm)
          · exact (Or.inr (by simpa using ht.symm))
          · exact (Or.inr (by simpa using ht.symm))
          · simp at ht
        rcases h3 with rfl | rfl
        · exact (show Tryd.prog.wantsStandIn 24 = false by kernel_rfl)
        · exact (show Tryd.prog.wantsStandIn 31 = false by kernel_rfl)⟩)
    (by kernel_rfl)
end Go.Proofs.YtgghcfmpfneehabDoor.tripleOne

namespace Go.Proofs.YtgghcfmpfneehabDoor
theorem tripleOne_holds : Rows.TripleOneCardSaid := tripleOne.proved
end Go.Proofs.YtgghcfmpfneehabDoor
