/- Proved: for every two texts the program reads from the first, as bytes, the write at its front, and from the second the write whose line it is, or tells which fault there is, as the document does ('Rows.TripleReadsCardSaid'); no condition but what the card ties: the library's variables start as the program's text lays them. -/
import Derived.Test.YtgghcfmpfneehaaGreatDoorOpenT
import Derived.Test.YtgghcfmpfneehaaGreatDoorRfD
import Derived.Test.YtgghcfmpfneehaaGreatDoorTriG
namespace Go.Proofs.YtgghcfmpfneehaaGreatDoor
open Go.RowKit
set_option maxHeartbeats 4000000 in
set_option maxRecDepth 100000 in
theorem reads_law (S T : ByteArray) (hS : S.size ≤ 140737488351232) (hT : T.size ≤ 140737488351232) (w : World) (hG : Gl w) :
    Calls Tryz.prog 3 #[.string S, .string T] w fun e w' => e = .returned (.bool true) ∧ Bel w w' := by
  have HG := hide hG
  have C1 := hide (read_w S (by omega))
  have C2 := hide (refRead_w S (by omega))
  have C3 := hide (readText_w T (by omega))
  have C4 := hide (readText_d T (by omega))
  generalize rWr S = X at C1 C2
  obtain ⟨⟨d, u, p, k, b, n, s, v⟩, r, x⟩ := X
  unfold av wv wr at C1 C2
  simp only at C1 C2
  clear hG hS hT
  go_enter Tryz.func3, Tryz.ntmps3
  go_wp2_with fail
  refine (C1.out _).mono ?_
  rintro e w1 ⟨rfl, hb1⟩
  go_wp2_with fail
  refine (C2.out _).mono ?_
  rintro e w2 ⟨rfl, hb2⟩
  have Hb2 := hide ((hb1.alloc (.cells #[.bool d, .int .u64 (u : Int), .string p, .int .u8 k, .bool b, .int .i64 n, .string s, .int .u64 v] 29)).trans hb2)
  have HA := hide ((S8.new d (u : Int) p k b n s v w1).next hb2)
  have HB := hide (S8.new d (u : Int) p k b n s v w2)
  clear hb1 hb2 C1 C2
  go_wp2_with fail
  refine (C3.out _ (HG.out.next (Hb2.out.alloc _))).mono ?_
  rintro e w3 ⟨d2, u2, p2, k2, b2, n2, s2, v2, x2, rfl, hb3, ok1⟩
  have O1 := hide ok1
  clear ok1 C3
  unfold wr
  go_wp2_with fail
  refine (C4.out _).mono ?_
  rintro e w4 ⟨d3, u3, p3, k3, b3, n3, s3, v3, x3, rfl, hb4, ok2⟩
  obtain ⟨rfl, rfl, rfl, rfl, rfl, rfl, rfl, rfl, rfl⟩ := one_answer O1.out ok2
  clear ok2 O1 C4
  unfold wr
  have hz := (hb3.alloc (.cells #[.bool d2, .int .u64 (u2 : Int), .string p2, .int .u8 k2, .bool b2, .int .i64 n2, .string s2, .int .u64 v2] 29)).trans hb4
  have hz2 := hz.alloc (.cells #[.bool d2, .int .u64 (u2 : Int), .string p2, .int .u8 k2, .bool b2, .int .i64 n2, .string s2, .int .u64 v2] 29)
  obtain ⟨a0, a1, a2, a3, a4, a5, a6, a7⟩ := (HA.out.alloc (.cells #[.bool d, .int .u64 (u : Int), .string p, .int .u8 k, .bool b, .int .i64 n, .string s, .int .u64 v] 29)).next hz2
  obtain ⟨c0, c1, c2, c3, c4, c5, c6, c7⟩ := HB.out.next hz2
  obtain ⟨e0, e1, e2, e3, e4, e5, e6, e7⟩ := ((S8.new d2 (u2 : Int) p2 k2 b2 n2 s2 v2 w3).next hb4).alloc (.cells #[.bool d2, .int .u64 (u2 : Int), .string p2, .int .u8 k2, .bool b2, .int .i64 n2, .string s2, .int .u64 v2] 29)
  obtain ⟨f0, f1, f2, f3, f4, f5, f6, f7⟩ := S8.new d2 (u2 : Int) p2 k2 b2 n2 s2 v2 w4
  have Hz := hide ((Hb2.out.alloc (.cells #[.bool d, .int .u64 (u : Int), .string p, .int .u8 k, .bool b, .int .i64 n, .string s, .int .u64 v] 29)).trans hz2)
  clear hb3 hb4 hz hz2 HA HB Hb2
  go_wp2_with fail
  refine (alive_any _ (HG.out.next Hz.out)).mono ?_
  rintro e w9 ⟨rfl, hb9⟩
  go_wp2_with fail
  go_ret
  exact ⟨rfl, Hz.out.trans hb9⟩
end Go.Proofs.YtgghcfmpfneehaaGreatDoor
namespace Go.Proofs.YtgghcfmpfneehaaGreatDoor.tripleReads
open Go.ChangeShapes Go.WideShapes Go.ChangeAt Go.RowKit
open Go.ChangeMaps (open_string shut_string)
set_option linter.unusedVariables false

set_option maxRecDepth 100000 in
theorem lifted (os : Os) (started : os.Started) (H : Type) (enc : TypeId × Value → H) :
    ReturnsInHanded {} Tryz.checked os 3 .any (fun w args => (Rows.tripleReadsSpec.pre enc Tryz.prog Tryz.f3 [] false w args ∧ laidMetH Tryz.prog laid5 w) ∧ sizedMet enc Tryz.prog Tryz.f3 (OpenSpec.ofChange Rows.tripleReadsSpec) false w args)
      (Rows.tripleReadsSpec.post enc Tryz.prog Tryz.f3 false true false false) := by
  refine returnsInHanded_of_change_and (C := Tryz.checked) (X := fun w _ => laidMetH Tryz.prog laid5 w) (fun _ _ _ hh h => h.of_heap hh) own started (by kernel_rfl) Tryz.func3
    (ChangeSpec.witness_shaped (enc := enc) (C := Tryz.checked) (os := os) (X := fun w _ => laidMetH Tryz.prog laid5 w) false (World.laidAll Tryz.prog os laid5) #[.string ByteArray.empty, .string ByteArray.empty] 8 (World.laidAll_os _ _ _) (World.shaped_of_ZipB (by kernel_rfl) (by kernel_rfl)) (by kernel_rfl) (by kernel_rfl) (by kernel_rfl) (door_met os _)) ?_
  intro W base args ds gs before hval0 hW _ hsz0 hL _
  have hsz : (DataW.weightsEach Tryz.prog (Tryz.f3.params.toList ++ Rows.tripleReadsSpec.plain.varTypes Tryz.prog) (ds ++ gs)).all (· ≤ reachBytes) = true := hsz0
  have hval : ∀ (j : Nat) t v, Tryz.f3.params[j]? = some t → args[j]? = some v → Value.okWide Tryz.prog W .any base t v := hval0
  have hW' := hW
  obtain ⟨p, q, hA0, hV, rfl, hfz, hnd⟩ := hW
  have hA : DataW.TrodAll enc Tryz.prog W 0 (fun _ => true) true Tryz.f3.params.toList args.toList ds p := hA0
  rw [Tryz.params3] at hA hval hsz
  obtain ⟨v0, vs0, d0, ds0, p0, q0, hargs, rfl, rfl, h0, r0⟩ := trodAll_cons hA
  obtain ⟨v1, vs1, d1, ds1, p1, q1, rfl, rfl, rfl, h1, r1⟩ := trodAll_cons r0
  obtain ⟨rfl, rfl, rfl⟩ := trodAll_nil r1
  obtain rfl : args = #[v0, v1] := by cases args; simp_all
  obtain ⟨rfl, rfl⟩ := trodVars_none hV
  obtain ⟨a0, rfl, rfl, rfl, w0⟩ := open_string Tryz.underlying9 (hval 0 9 v0 rfl rfl) h0
  obtain ⟨a1, rfl, rfl, rfl, w1⟩ := open_string Tryz.underlying9 (hval 1 9 v1 rfl rfl) h1
  clear hA0 hval0
  simp only [List.append_nil] at hW'
  have z0 : a0.size ≤ 140737488351232 := by have h := sized_string hsz (j := 0) (t := 9) rfl rfl; simpa [reachBytes] using h
  have z1 : a1.size ≤ 140737488351232 := by have h := sized_string hsz (j := 1) (t := 9) rfl rfl; simpa [reachBytes] using h
  refine (reads_law a0 a1 z0 z1 W (gl_of_laid hL)).mono fun e W' ⟨he, hg⟩ => ?_
  subst he
  exact ⟨_, rfl, _, _, _, [], _, [], hW', trodAll_mk1 (shut_bool Tryz.underlying4 _), (trodAll_cons_mk (shut_string Tryz.underlying9 w0) (trodAll_cons_mk (shut_string Tryz.underlying9 w1) trodAll_mk0)), rfl, World.keptBut_mono (fun _ f => f.elim) hg.kept, fun h => by cases h⟩

theorem over : Rows.tripleReadsRow.holds Tryz.pinned (OpenSpec.ofChange Rows.tripleReadsSpec) :=
  OpenClaim.holds_of_wide 3 Tryz.f3 rfl rfl rfl rfl rfl rfl rfl ⟨rfl, rfl, rfl, rfl, rfl⟩ rfl rfl rfl rfl rfl (by kernel_rfl) Tryz.func3 (by kernel_rfl)
    (of_decide_eq_true (by kernel_rfl)) (by unfold Func.isWrapper; first | (rw [if_pos (by decide +kernel)]; kernel_rfl) | (rw [if_neg (by decide +kernel)]; exact ⟨rfl, rfl⟩))
    (fun os started H enc _ => lifted os started H enc)

theorem proved : Rows.TripleReadsCardSaid :=
  Claim7.holds_tied_plain_at .later [] [.data, .data, .data, .data, .sentinel, .sentinel, .pinned] true (true, "58364912f57f87adc3b4fb5eaf7280ee1730c4f3f00607b66fa557e37f16d734") true
    over (fun _ h => by cases h) (by kernel_rfl) (fun _ h => by cases h) tripleReads_row_tie rfl ⟨rfl, rfl⟩ (by kernel_rfl) rfl
    (fun f fn hf hfn => by
      obtain rfl : f = 3 := Option.some.inj ((show Tryz.prog.funcNamed Tryz.f3.name = some 3 by kernel_rfl).symm.trans hf) |>.symm
      obtain rfl : fn = Tryz.f3 := (Option.some.inj (Tryz.func3.symm.trans hfn)).symm
      exact ⟨by kernel_rfl, fun j t ht => by
        rw [Tryz.params3] at ht
        have h3 : t = 9 := by
          rcases j with _ | _ | j
          · exact (by simpa using ht.symm)
          · exact (by simpa using ht.symm)
          · simp at ht
        subst h3
        exact (show Tryz.prog.wantsStandIn 9 = false by kernel_rfl)⟩)
    (by kernel_rfl)
end Go.Proofs.YtgghcfmpfneehaaGreatDoor.tripleReads

namespace Go.Proofs.YtgghcfmpfneehaaGreatDoor
theorem tripleReads_holds : Rows.TripleReadsCardSaid := tripleReads.proved
end Go.Proofs.YtgghcfmpfneehaaGreatDoor
