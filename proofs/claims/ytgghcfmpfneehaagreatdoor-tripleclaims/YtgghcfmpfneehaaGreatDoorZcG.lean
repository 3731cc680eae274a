/- The law's own look at some answers, where two of the library's variables are as they are laid. -/
import Derived.Test.YtgghcfmpfneehaaGreatDoorTriG
namespace Go.Proofs.YtgghcfmpfneehaaGreatDoor
open Go.RowKit
/-- What two of the library's variables hold. -/
def Gl2 (w : World) : Prop := Lib.TabIs Tryz.prog w "internal/strconv.uint64pow10" .u64 Lib.pow10Tab ∧ w.cell? ⟨7, 15, none⟩ = some (.int .u8 4)
theorem Gl2.next {w w' : World} (h : Gl2 w) (hb : Bel w w') : Gl2 w' := ⟨Lib.tabBelow_of_tabIs h.1 w' hb, hb.cell h.2⟩
theorem appendInt_anyG (w : World) (n : Int) (h0 : -9223372036854775808 ≤ n) (h1 : n < 9223372036854775808) (hG : Gl2 w) :
    Calls Tryz.prog 90 #[.slice none 0 0, .int .i64 n, .int .i64 10] w fun e W' => ∃ v', e = .returned v' ∧ OB w W' v' (Lib.itoa n) := by
  have h := Tryz.strconv_AppendInt_10 w.heap.size 0 n h0 (by omega) (.slice none 0 0) [] w (OB.nil w).own (Nat.le_refl _) (by omega) (Lib.tabBelow_of_tabIs hG.1)
  refine h.mono ?_
  rintro e w' ⟨v', rfl, h1, h2, _⟩
  exact ⟨v', rfl, OB.int (x := Lib.itoa n) (OB.nil w) h1 h2⟩
set_option maxRecDepth 100000 in
theorem text_2G (n : Int) (n0 : -9223372036854775808 ≤ n) (n1 : n < 9223372036854775808) (w : World) (hG : Gl2 w) :
    Calls Tryz.prog 53 #[ev 2 false n ⟨#[]⟩ 0] w fun e w' => e = .returned (.tuple #[.string ⟨(Lib.itoa n).toArray⟩, .int .i64 0]) ∧ Bel w w' := by
  have hC := hide (fun W => may_yes (n := n) (Or.inr (Or.inl ⟨rfl, rfl, rfl, rfl⟩)) W)
  have h5 := hide (S5.first 2 false n ⟨#[]⟩ 0 w)
  have h01 := hide (And.intro n0 n1)
  clear n0 n1
  unfold ev at hC ⊢
  go_enter Tryz.func53, Tryz.ntmps53
  go_wp2_with (first | (go_at_call 60; refine (hC.out _).mono ?_; rintro e w1 ⟨rfl, hb1⟩; obtain ⟨c0, c1, c2, c3, c4⟩ := h5.out.next hb1; have hb2 := ((Bel.refl w).alloc _).trans hb1) | (go_at_call 90; refine (appendInt_anyG _ n h01.out.1 h01.out.2 (hG.next hb2)).mono ?_; rintro e w2 ⟨v2, rfl, ho2⟩; have hcv := ho2.text))
  go_ret2
  exact ⟨rfl, OB.done hb2 ho2⟩
set_option maxRecDepth 100000 in
theorem text_4G (u : Nat) (hu : u < 18446744073709551616) (h0 : (u : Int) ≠ 0) (w : World) (hG : Gl2 w) :
    Calls Tryz.prog 53 #[ev 4 false 0 ⟨#[]⟩ u] w fun e w' => e = .returned (.tuple #[.string ⟨(48 :: 120 :: hexL u).toArray⟩, .int .i64 0]) ∧ Bel w w' := by
  have hC := hide (fun W => may_yes (u := u) (Or.inr (Or.inr (Or.inr ⟨rfl, rfl, rfl, rfl, h0⟩))) W)
  have h5 := hide (S5.first 4 false 0 ⟨#[]⟩ u w)
  have hU := hide hu
  clear hu h0
  unfold ev at hC ⊢
  go_enter Tryz.func53, Tryz.ntmps53
  go_wp2_with (first | (go_at_call 60; refine (hC.out _).mono ?_; rintro e w1 ⟨rfl, hb1⟩; obtain ⟨c0, c1, c2, c3, c4⟩ := h5.out.next hb1; have hb2 := ((Bel.refl w).alloc _).trans hb1))
  have c4' : w1.drew.cell? ⟨w.heap.size, 4, none⟩ = some (.int .u64 (u : Int)) := Bel.cell (Bel.refl _).drew c4
  have hG2 := hG.next hb2
  clear hG c0 c1 c2 c3
  generalize w.heap.size = B at *
  go_region_held3 (fun W => W.cell? ⟨B, 4, none⟩ = some (.int .u64 (u : Int))) (first | assumption | exact Bel.cell ho1.bel c4 | exact Bel.cell ho2.bel c4) ((first | (refine step_str (OB.nil w1).drew ⟨#[48, 120]⟩ (by show 0 + 2 ≤ _; omega) rfl _ _ rfl rfl rfl ?_; intro v1 w2 ho1) | (go_at_call 92; refine (appendUint_any w1 _ _ _ ho1 (by show 2 ≤ 100; omega) u hU.out ((hG2.next ho1.bel).2)).mono ?_; rintro e w3 ⟨v2, rfl, ho2⟩)))
  all_goals
    have hcv := ho2.text
    go_wp2
    go_ret2
    exact ⟨rfl, OB.done hb2 ho2⟩
theorem text_yesG {k : Int} {b : Bool} {n : Int} {s : ByteArray} {u : Int} (h : mayV k b n s u) (n0 : -9223372036854775808 ≤ n) (n1 : n < 9223372036854775808) (u0 : 0 ≤ u) (u1 : u < 18446744073709551616) (w : World) (hG : Gl2 w) :
    Calls Tryz.prog 53 #[ev k b n s u] w fun e w' => e = .returned (.tuple #[.string ⟨(ltr k b n s u).toArray⟩, .int .i64 0]) ∧ Bel w w' := by
  rcases h with ⟨rfl, rfl, rfl, rfl⟩ | ⟨rfl, rfl, rfl, rfl⟩ | ⟨rfl, rfl, rfl, rfl, h⟩ | ⟨rfl, rfl, rfl, rfl, h⟩
  · exact text_1 b w
  · exact text_2G n n0 n1 w hG
  · exact text_3 s h w
  · obtain ⟨m, rfl⟩ : ∃ m : Nat, u = (m : Int) := ⟨u.toNat, by omega⟩
    exact text_4G m (by omega) h w hG
set_option maxHeartbeats 1000000 in
set_option maxRecDepth 100000 in
theorem wtext_yesG (d : Bool) (u : Nat) (hu : u < 18446744073709551616) (p : ByteArray) (k : Int) (b : Bool) (n : Int) (s : ByteArray) (v : Int) (n0 : -9223372036854775808 ≤ n) (n1 : n < 9223372036854775808) (v0 : 0 ≤ v) (v1 : v < 18446744073709551616) (h : eT u p k b n s v = 0) (w : World) (hG : Gl2 w) :
    Calls Tryz.prog 19 #[wr d u p k b n s v] w fun e w' => e = .returned (.tuple #[.string ⟨(wtx d u p k b n s v).toArray⟩, .int .i64 0]) ∧ Bel w w' := by
  obtain ⟨h1, h2, h3⟩ := eT_zero h
  have hps := name_short h2
  have hC := hide (fun W => may_any u p k b n s v (by omega) W)
  rw [h] at hC
  have hu0 : (u : Int) ≠ 0 := by omega
  have hU := hide (fun W (hW : Gl2 W) => text_4G u hu hu0 W hW)
  have hV := hide (fun W (hW : Gl2 W) => text_yesG h3 n0 n1 v0 v1 W hW)
  have HW := hide (show wtx d u p k b n s v = sgn d :: 32 :: (48 :: 120 :: hexL u) ++ 32 :: p.data.toList ++ 32 :: ltr k b n s v from rfl)
  have hq1 : (48 :: 120 :: hexL u).length ≤ 100 := by
    have := hexL_len 15 u (by omega)
    simp only [List.length_cons]; omega
  have hq3 : (ltr k b n s v).length ≤ 1000000 := Nat.le_trans (ltr_len h3 ⟨n0, n1, v0, v1⟩) (by omega)
  generalize wtx d u p k b n s v = WB at HW ⊢
  generalize (48 :: 120 :: hexL u) = N at HW hU hq1
  generalize ltr k b n s v = V at HW hV hq3
  have hJ := hide (fun W => join4 ⟨#[sgn d]⟩ ⟨N.toArray⟩ p ⟨V.toArray⟩ (by simp [ByteArray.size]) (by simpa [ByteArray.size] using hq1) (by omega) (by simpa [ByteArray.size] using hq3) 9 W)
  have hF := hide (fun W => first2 0 0 W)
  have h8 := hide (S8.new d u p k b n s v w)
  have hb0 := hide (show Bel w (w.alloc (.cells #[.bool d, .int .u64 u, .string p, .int .u8 k, .bool b, .int .i64 n, .string s, .int .u64 v] 29)) from (Bel.refl _).alloc _)
  have HG := hide hG
  clear h h1 h2 h3 hps hq1 hq3 hu0 hG
  unfold ev at hV hU
  unfold et at hC
  unfold wr
  cases d
  · go_enter Tryz.func19, Tryz.ntmps19
    go_wp2_with (first | (go_at_call 29; refine (hC.out _).mono ?_; rintro e w1 ⟨rfl, hb1⟩; obtain ⟨c0, c1, c2, c3, c4, c5, c6, c7⟩ := h8.out.next hb1) | (have h0 := hb2; clear h0; go_at_call 53; refine (hV.out _ (HG.out.next ((hb0.out.trans hb1).trans hb2))).mono ?_; rintro e w3 ⟨rfl, hb3⟩; obtain ⟨e0, e1, e2, e3, e4, e5, e6, e7⟩ := ((h8.out.next hb1).next hb2).next hb3) | (go_at_call 53; refine (hU.out _ (HG.out.next (hb0.out.trans hb1))).mono ?_; rintro e w2 ⟨rfl, hb2⟩; obtain ⟨d0, d1, d2, d3, d4, d5, d6, d7⟩ := (h8.out.next hb1).next hb2) | (go_at_call 54; refine (hJ.out _).mono ?_; rintro e w4 ⟨rfl, hb4⟩) | (go_at_call 36; refine (hF.out _).mono ?_; rintro e w5 ⟨rfl, rfl⟩))
    go_ret2
    refine ⟨?_, ((((hb0.out.trans hb1).trans hb2).trans hb3).alloc _ |>.trans hb4).alloc _⟩
    rw [HW.out]
    simp [fstE]
  · go_enter Tryz.func19, Tryz.ntmps19
    go_wp2_with (first | (go_at_call 29; refine (hC.out _).mono ?_; rintro e w1 ⟨rfl, hb1⟩; obtain ⟨c0, c1, c2, c3, c4, c5, c6, c7⟩ := h8.out.next hb1) | (have h0 := hb2; clear h0; go_at_call 53; refine (hV.out _ (HG.out.next ((hb0.out.trans hb1).trans hb2))).mono ?_; rintro e w3 ⟨rfl, hb3⟩; obtain ⟨e0, e1, e2, e3, e4, e5, e6, e7⟩ := ((h8.out.next hb1).next hb2).next hb3) | (go_at_call 53; refine (hU.out _ (HG.out.next (hb0.out.trans hb1))).mono ?_; rintro e w2 ⟨rfl, hb2⟩; obtain ⟨d0, d1, d2, d3, d4, d5, d6, d7⟩ := (h8.out.next hb1).next hb2) | (go_at_call 54; refine (hJ.out _).mono ?_; rintro e w4 ⟨rfl, hb4⟩) | (go_at_call 36; refine (hF.out _).mono ?_; rintro e w5 ⟨rfl, rfl⟩))
    go_ret2
    refine ⟨?_, ((((hb0.out.trans hb1).trans hb2).trans hb3).alloc _ |>.trans hb4).alloc _⟩
    rw [HW.out]
    simp [fstE]
theorem text_aliveG (w : World) (hG : Gl2 w) : Calls Tryz.prog 19 #[wr false 1 ⟨#[110, 97, 109, 101]⟩ 3 false 0 ⟨#[120]⟩ 0] w fun e w' => e = .returned (.tuple #[.string ⟨#[43, 32, 48, 120, 49, 32, 110, 97, 109, 101, 32, 34, 120, 34]⟩, .int .i64 0]) ∧ Bel w w' := by
  have h := wtext_yesG false 1 (by decide) ⟨#[110, 97, 109, 101]⟩ 3 false 0 ⟨#[120]⟩ 0 (by omega) (by omega) (by omega) (by omega) eT_alive w hG
  have e : (wtx false ((1 : Nat) : Int) ⟨#[110, 97, 109, 101]⟩ 3 false 0 ⟨#[120]⟩ 0).toArray = #[43, 32, 48, 120, 49, 32, 110, 97, 109, 101, 32, 34, 120, 34] := by
    unfold wtx
    rw [show (((1 : Nat) : Int)).toNat = 1 from rfl, hexL_small (by decide)]
    decide
  rw [e] at h
  exact h
set_option maxRecDepth 100000 in
theorem alive_anyG (w : World) (hG : Gl2 w) : Calls Tryz.prog 10 #[] w fun e w' => e = .returned (.bool true) ∧ Bel w w' := by
  have C1 := hide (fun W hW => text_aliveG W hW)
  have C2 := hide (fun W => bytes_alive W)
  have C3 := hide (fun W => pred_alive W)
  have HG := hide hG
  clear hG
  unfold wr at C1 C2
  go_enter Tryz.func10, Tryz.ntmps10
  go_wp2_with (first | (go_at_call 19; refine (C1.out _ (HG.out.next ((Bel.refl _).alloc _))).mono ?_; rintro e w1 ⟨rfl, hb1⟩; obtain ⟨c0, c1, c2, c3, c4, c5, c6, c7⟩ := (S8.new false 1 ⟨#[110, 97, 109, 101]⟩ 3 false 0 ⟨#[120]⟩ 0 w).next hb1) | (go_at_call 18; refine (C2.out _).mono ?_; rintro e w2 ⟨rfl, hb2⟩) | (go_at_call 40; refine (C3.out _).mono ?_; rintro e w3 ⟨rfl, rfl⟩))
  go_ret
  exact ⟨rfl, (((Bel.refl _).alloc _).trans hb1).trans hb2⟩
end Go.Proofs.YtgghcfmpfneehaaGreatDoor
