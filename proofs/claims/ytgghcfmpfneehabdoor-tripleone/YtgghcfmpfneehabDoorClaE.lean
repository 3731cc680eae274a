/- What claim answers. -/
import Derived.Test.YtgghcfmpfneehabDoorClaD
import Derived.Test.YtgghcfmpfneehabDoorClaM
import Derived.Test.YtgghcfmpfneehabDoorClaQ
import Derived.Test.YtgghcfmpfneehabDoorTriJ
namespace Go.Proofs.YtgghcfmpfneehabDoor
open Go.RowKit Go.Sort
/-- A write. -/
abbrev Wm := Bool × Nat × ByteArray × Int × Bool × Int × ByteArray × Int
/-- The fault of a write by a schema. -/
def eFm (S : Sm) (u : Int) (q : ByteArray) (k : Int) (b : Bool) (n : Int) (s : ByteArray) (v : Int) : Int := eF S.1 S.2.1 S.2.2.2.2.1 S.2.2.2.2.2.1 S.2.2.2.2.2.2.1 u q k b n s v
/-- What claim answers: the text, the fault. -/
def clmR (L : List Sm) (u : Nat) (q : ByteArray) (k : Int) (b : Bool) (n : Int) (s : ByteArray) (v : Int) (x : List UInt8) (e : Int) : Prop :=
  (eT u q k b n s v ≠ 0 ∧ x = [] ∧ e = eT u q k b n s v) ∨ (eT u q k b n s v = 0 ∧ ∃ i f, bsR L q i f ∧ ((f = false ∧ x = [] ∧ e = 5) ∨ (f = true ∧ ∃ h : i < L.length, (eFm L[i] u q k b n s v ≠ 0 ∧ x = [] ∧ e = eFm L[i] u q k b n s v) ∨ (eFm L[i] u q k b n s v = 0 ∧ x = clmS L[i].2.2.1 u q k b n s v ∧ e = 0))))
set_option maxHeartbeats 1000000 in
set_option maxRecDepth 100000 in
theorem claim_any (g off cap : Nat) (L : List Sm) (d : Bool) (u : Nat) (hu : u < 2 ^ 64) (q : ByteArray) (k : Int) (b : Bool) (n : Int) (s : ByteArray) (v : Int) (hr : inR n v) (w : World) (hl : L.length ≤ 1000000) (hrow : Row8 w g off L) :
    Calls Tryd.prog 16 #[.slice (some ⟨g, off, none⟩) L.length cap, wr d u q k b n s v] w fun e w' => ∃ x er, e = .returned (.tuple #[.string ⟨x.toArray⟩, .int .i64 er]) ∧ Bel w w' ∧ clmR L u q k b n s v x er := by
  have hC := hide (fun W => may_any u q k b n s v (by omega) W)
  obtain ⟨E, hE⟩ : ∃ E, eT u q k b n s v = E := ⟨_, rfl⟩
  rw [hE] at hC
  have HE := hide hE
  have hBS := hide (fun W (h : Row8 W g off L) => bs_any g off cap L q W hl h)
  obtain ⟨ln, hln⟩ : ∃ ln, L.length = ln := ⟨_, rfl⟩
  rw [hln] at hl hBS ⊢
  have Hn := hide hln
  have HR := hide hrow
  clear hln hrow hE
  unfold et at hC
  unfold wr
  have h8 := hide (S8.new d u q k b n s v w)
  have hb0 : Bel w (w.alloc (.cells #[.bool d, .int .u64 u, .string q, .int .u8 k, .bool b, .int .i64 n, .string s, .int .u64 v] 31)) := (Bel.refl _).alloc _
  by_cases hE0 : E = 0
  · subst hE0
    go_enter Tryd.func16, Tryd.ntmps16
    go_wp2_with (first | (go_at_call 10; refine (hC.out _).mono ?_; rintro e w1 ⟨rfl, hb1⟩; obtain ⟨c0, c1, c2, c3, c4, c5, c6, c7⟩ := h8.out.next hb1))
    go_at_call 28
    refine (hBS.out _ ((HR.out.next hb0).next hb1)).mono ?_
    rintro e w2 ⟨i, f, rfl, hb2, HBS⟩
    cases f
    · clear hBS
      go_wp2_with fail
      go_ret2
      refine ⟨[], 5, rfl, (hb0.trans hb1).trans hb2, Or.inr ⟨HE.out, i, false, HBS, Or.inl ⟨rfl, rfl, rfl⟩⟩⟩
    · clear hBS
      go_wp2_with fail
      have hil : i < L.length := (HBS.2.2.2.1 rfl).1
      have hin : i < ln := by rw [← Hn.out]; exact hil
      obtain ⟨p, t, l, x, tm, od, rv, ct, he⟩ : ∃ p t l x tm od rv ct, L[i] = ((p, t, l, x, tm, od, rv, ct) : Sm) := ⟨_, _, _, _, _, _, _, _, rfl⟩
      have hb3 := (hb0.trans hb1).trans hb2
      have h9 := (h8.out.next hb1).next hb2
      have h10 := (HR.out.next hb3).cells hil he
      have hF := hide (fun W => fits_any p t l x tm od rv ct d u q k b n s v (by omega) W)
      unfold sc wr at hF
      obtain ⟨F, hF'⟩ : ∃ F, eF p t tm od rv u q k b n s v = F := ⟨_, rfl⟩
      rw [hF'] at hF
      have HF : Hid (eFm L[i] u q k b n s v = F) := hide (by rw [he]; exact hF')
      have HL : Hid (L[i].2.2.1 = l) := hide (by rw [he])
      have HBS' := hide HBS
      have hgb : w.heap.size < w2.heap.size := Nat.lt_of_lt_of_le (by simp) ((hb1.trans hb2).size)
      clear c0 c1 c2 c3 c4 c5 c6 c7 h8 hC HBS hF' he hb0 hb1 hb2
      generalize w.heap.size = B at *
      have hfol : Tryd.prog.follows .mixedOrders = true := by kernel_rfl
      obtain ⟨d0, d1, d2, d3, d4, d5, d6, d7⟩ := h10
      have h9' := h9
      obtain ⟨c0, c1, c2, c3, c4, c5, c6, c7⟩ := h9'
      have D0 := cell_bel d0
      have D1 := cell_bel d1
      have D2 := cell_bel d2
      have D3 := cell_bel d3
      have D4 := cell_bel d4
      have D5 := cell_bel d5
      have D6 := cell_bel d6
      have D7 := cell_bel d7
      have C0 := cell_bel c0
      have C1 := cell_bel c1
      have C2 := cell_bel c2
      have C3 := cell_bel c3
      have C4 := cell_bel c4
      have C5 := cell_bel c5
      have C6 := cell_bel c6
      have C7 := cell_bel c7
      clear d0 d1 d3 d4 d5 d6 d7 c0 c1 c2 c3 c4 c5 c6 c7
      have hne := BelBy.some w2
      refine wp_region_bel hfol (by kernel_rfl) ?_
      repeat (go_big_quiet_step (first | (go_at_call 4; refine calls_by (hF.out _))))
      refine wpQuiet_nil ?_
      intro w3 hw'
      obtain ⟨⟨_, hb4⟩, hw''⟩ := hw'
      subst hw''
      clear D0 D1 D2 D3 D4 D5 D6 D7 C0 C1 C2 C3 C4 C5 C6 C7
      have HB4 := hide (hb3.trans hb4)
      have d2' := hb4.cell d2
      have h11 := h9.next hb4
      clear hF h9 d2 hb3 hb4 hne
      by_cases hF0 : F = 0
      · subst hF0
        have hps := name_short (eT_zero HE.out).2.1
        have hK := hide (fun W => key_any q (by have := key_small q (by omega); omega) W)
        have hN := hide (fun W => num_any u hu W)
        have hq1 : (num u).length ≤ 9 := num_len u hu
        have hq2 : (key q.data.toList).length ≤ 10000 := key_small q (by omega)
        have hV := hide (fun W => bytes_yes (eT_zero HE.out).2.2 hr.1 hr.2.1 hr.2.2.1 hr.2.2.2 W)
        have hq3 : (byt k b n s v).length ≤ 20000 := byt_len (eT_zero HE.out).2.2 hr
        have HX : Hid (∀ ls, clmS ls u q k b n s v = key q.data.toList ++ num u ++ if ls then byt k b n s v else []) := hide (fun _ => rfl)
        generalize num u = N at *
        generalize key q.data.toList = K at *
        generalize byt k b n s v = V at *
        unfold ev at hV
        have q1 : ¬ (9223372036854775807 < K.length + N.length) := by omega
        have q2 : ¬ (9223372036854775807 < K.length + N.length + V.length) := by omega
        clear hps hq1 hq2 hq3 hr
        go_wp2_with fail
        obtain ⟨c0, c1, c2, c3, c4, c5, c6, c7⟩ := h11
        have C1 := cell_bel c1
        have C2 := cell_bel c2
        have hne := BelBy.some w3
        refine wp_region_bel hfol (by kernel_rfl) ?_
        repeat (go_big_quiet_step (first | (go_at_call 31; refine calls_by (hK.out _)) | (go_at_call 24; refine calls_by (hN.out _))))
        refine wpQuiet_nil ?_
        intro w4 hw'
        obtain ⟨⟨_, hb5⟩, hw''⟩ := hw'
        subst hw''
        clear C1 C2 hne
        have HB5 := hide (HB4.out.trans hb5)
        have d2 := hb5.cell d2'
        replace c3 := hb5.cell c3
        replace c4 := hb5.cell c4
        replace c5 := hb5.cell c5
        replace c6 := hb5.cell c6
        replace c7 := hb5.cell c7
        clear c0 c1 c2 d2' hb5
        cases l
        · go_wp2_with fail
          go_ret2
          refine ⟨K ++ N, 0, ?_, HB5.out, Or.inr ⟨HE.out, i, true, HBS'.out, Or.inr ⟨rfl, hil, Or.inr ⟨HF.out, ?_, rfl⟩⟩⟩⟩
          · exact congrArg (fun t => Ending.returned (Value.tuple #[Value.string t, Value.int .i64 0])) (show (⟨K.toArray⟩ ++ ⟨N.toArray⟩ : ByteArray) = ⟨(K ++ N).toArray⟩ from by apply ba_ext; simp)
          · rw [HL.out, HX.out]; simp
        · go_wp2_with (first | (go_at_call 23; refine (hV.out _).mono ?_; rintro e w5 ⟨rfl, hb6⟩))
          go_ret2
          refine ⟨K ++ N ++ V, 0, ?_, HB5.out.trans hb6, Or.inr ⟨HE.out, i, true, HBS'.out, Or.inr ⟨rfl, hil, Or.inr ⟨HF.out, ?_, rfl⟩⟩⟩⟩
          · exact congrArg (fun t => Ending.returned (Value.tuple #[Value.string t, Value.int .i64 0])) (show (⟨K.toArray⟩ ++ ⟨N.toArray⟩ ++ ⟨V.toArray⟩ : ByteArray) = ⟨(K ++ N ++ V).toArray⟩ from by apply ba_ext; simp)
          · rw [HL.out, HX.out]; simp
      · have hF' : (F != 0) = true := by rw [bne_iff_ne]; exact hF0
        go_wp2_with fail
        go_ret2
        exact ⟨[], F, rfl, HB4.out, Or.inr ⟨HE.out, i, true, HBS'.out, Or.inr ⟨rfl, hil, Or.inl ⟨by rw [HF.out]; exact hF0, rfl, HF.out.symm⟩⟩⟩⟩
  · have hE' : (E != 0) = true := by rw [bne_iff_ne]; exact hE0
    go_enter Tryd.func16, Tryd.ntmps16
    go_wp2_with (first | (go_at_call 10; refine (hC.out _).mono ?_; rintro e w1 ⟨rfl, hb1⟩))
    go_ret2
    exact ⟨[], E, rfl, hb0.trans hb1, Or.inl ⟨by rw [HE.out]; exact hE0, rfl, HE.out.symm⟩⟩
end Go.Proofs.YtgghcfmpfneehabDoor
