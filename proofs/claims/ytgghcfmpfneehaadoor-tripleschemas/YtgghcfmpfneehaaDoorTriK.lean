/- Whether a write fits a schema, by the document. -/
import Derived.Test.YtgghcfmpfneehaaDoorTriI
import Derived.Test.YtgghcfmpfneehaaDoorTriJ
namespace Go.Proofs.YtgghcfmpfneehaaDoor
open Go.RowKit
set_option maxHeartbeats 1000000 in
set_option maxRecDepth 100000 in
theorem refFits_any (p : ByteArray) (t : Int) (l x tm od rv ct : Bool) (d : Bool) (u : Int) (q : ByteArray) (k : Int) (b : Bool) (n : Int) (s : ByteArray) (v : Int) (hu0 : 0 ≤ u) (hv0 : 0 ≤ v) (w : World) :
    Calls Tryd.prog 20 #[sc p t l x tm od rv ct, wr d u q k b n s v] w fun e w' => e = .returned (.int .i64 (eF p t tm od rv u q k b n s v)) ∧ Bel w w' := by
  have hS := hide (fun W => refSchema_any p t l x tm od rv ct W)
  have hC := hide (fun W => refMay_any u q k b n s v hu0 hv0 W)
  have HE := hide (show eF p t tm od rv u q k b n s v = fstE [eS p t tm od rv, eT u q k b n s v, eB (q.toList == p.toList) 2, eB (k == t) 42] from rfl)
  generalize eF p t tm od rv u q k b n s v = E at HE ⊢
  generalize eS p t tm od rv = E1 at HE hS
  generalize eT u q k b n s v = E2 at HE hC
  have h8 := hide ((C8.new p t l x tm od rv ct w).next ((Bel.refl _).alloc (.cells #[.bool d, .int .u64 u, .string q, .int .u8 k, .bool b, .int .i64 n, .string s, .int .u64 v] 29)))
  have h9 := hide (S8.at d u q k b n s v w (.cells #[.string p, .int .u8 t, .bool l, .bool x, .bool tm, .bool od, .bool rv, .bool ct] 45))
  have hb0 := hide (show Bel w ((w.alloc (.cells #[.string p, .int .u8 t, .bool l, .bool x, .bool tm, .bool od, .bool rv, .bool ct] 45)).alloc (.cells #[.bool d, .int .u64 u, .string q, .int .u8 k, .bool b, .int .i64 n, .string s, .int .u64 v] 29)) from ((Bel.refl _).alloc _).alloc _)
  unfold sc at hS ⊢
  unfold et at hC
  unfold wr
  by_cases e1 : E1 = 0
  · subst e1
    by_cases e2 : E2 = 0
    · subst e2
      cases hbp : (q.toList == p.toList) with
      | false =>
        rw [hbp] at HE
        go_enter Tryd.func20, Tryd.ntmps20
        go_wp2_with (first | (go_at_call 18; refine (hS.out _).mono ?_; rintro e w1 ⟨rfl, hb1⟩; obtain ⟨c0, c1, c2, c3, c4, c5, c6, c7⟩ := h8.out.next hb1; obtain ⟨d0, d1, d2, d3, d4, d5, d6, d7⟩ := h9.out.next hb1) | (go_at_call 6; refine (hC.out _).mono ?_; rintro e w2 ⟨rfl, hb2⟩; obtain ⟨e0, e1, e2, e3, e4, e5, e6, e7⟩ := (h8.out.next hb1).next hb2; obtain ⟨f0, f1, f2, f3, f4, f5, f6, f7⟩ := (h9.out.next hb1).next hb2))
        go_ret
        rw [HE.out]
        exact ⟨rfl, (hb0.out.trans hb1).trans hb2⟩
      | true =>
        rw [hbp] at HE
        cases hbk : (k == t) with
        | false =>
          rw [hbk] at HE
          have hn2 : (k != t) = true := by rw [bne, hbk]; rfl
          clear hbk
          go_enter Tryd.func20, Tryd.ntmps20
          go_wp2_with (first | (go_at_call 18; refine (hS.out _).mono ?_; rintro e w1 ⟨rfl, hb1⟩; obtain ⟨c0, c1, c2, c3, c4, c5, c6, c7⟩ := h8.out.next hb1; obtain ⟨d0, d1, d2, d3, d4, d5, d6, d7⟩ := h9.out.next hb1) | (go_at_call 6; refine (hC.out _).mono ?_; rintro e w2 ⟨rfl, hb2⟩; obtain ⟨e0, e1, e2, e3, e4, e5, e6, e7⟩ := (h8.out.next hb1).next hb2; obtain ⟨f0, f1, f2, f3, f4, f5, f6, f7⟩ := (h9.out.next hb1).next hb2))
          go_ret
          rw [HE.out]
          exact ⟨rfl, (hb0.out.trans hb1).trans hb2⟩
        | true =>
          rw [hbk] at HE
          have hn2 : (k != t) = false := by rw [bne, hbk]; rfl
          clear hbk
          go_enter Tryd.func20, Tryd.ntmps20
          go_wp2_with (first | (go_at_call 18; refine (hS.out _).mono ?_; rintro e w1 ⟨rfl, hb1⟩; obtain ⟨c0, c1, c2, c3, c4, c5, c6, c7⟩ := h8.out.next hb1; obtain ⟨d0, d1, d2, d3, d4, d5, d6, d7⟩ := h9.out.next hb1) | (go_at_call 6; refine (hC.out _).mono ?_; rintro e w2 ⟨rfl, hb2⟩; obtain ⟨e0, e1, e2, e3, e4, e5, e6, e7⟩ := (h8.out.next hb1).next hb2; obtain ⟨f0, f1, f2, f3, f4, f5, f6, f7⟩ := (h9.out.next hb1).next hb2))
          go_ret
          rw [HE.out]
          exact ⟨rfl, (hb0.out.trans hb1).trans hb2⟩
    · have hn : (E2 != 0) = true := by simpa using e2
      go_enter Tryd.func20, Tryd.ntmps20
      go_wp2_with (first | (go_at_call 18; refine (hS.out _).mono ?_; rintro e w1 ⟨rfl, hb1⟩; obtain ⟨c0, c1, c2, c3, c4, c5, c6, c7⟩ := h8.out.next hb1; obtain ⟨d0, d1, d2, d3, d4, d5, d6, d7⟩ := h9.out.next hb1) | (go_at_call 6; refine (hC.out _).mono ?_; rintro e w2 ⟨rfl, hb2⟩))
      go_ret
      rw [HE.out]
      refine ⟨?_, (hb0.out.trans hb1).trans hb2⟩
      simp [fstE, e2]
  · have hn : (E1 != 0) = true := by simpa using e1
    go_enter Tryd.func20, Tryd.ntmps20
    go_wp2_with (first | (go_at_call 18; refine (hS.out _).mono ?_; rintro e w1 ⟨rfl, hb1⟩))
    go_ret
    rw [HE.out]
    refine ⟨?_, hb0.out.trans hb1⟩
    simp [fstE, e1]
end Go.Proofs.YtgghcfmpfneehaaDoor
