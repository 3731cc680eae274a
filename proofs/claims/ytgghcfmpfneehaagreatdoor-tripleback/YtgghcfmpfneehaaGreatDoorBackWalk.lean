/- The law TripleBack answers true: for every write and every three texts. -/
import Derived.Test.YtgghcfmpfneehaaGreatDoorRdE
import Derived.Test.YtgghcfmpfneehaaGreatDoorTriG
namespace Go.Proofs.YtgghcfmpfneehaaGreatDoor
open Go.RowKit
theorem S8.frz {B i : Nat} {d : Bool} {u : Int} {p : ByteArray} {k : Int} {b : Bool} {n : Int} {s : ByteArray} {v : Int} {w W : World} (hB : B = w.heap.size) (hb : Bel (w.alloc (.cells (wc d u p k b n s v) 29)) W) : W.frozen? ⟨B, i, none⟩ = false := by
  subst hB
  exact frozen_of (hb.row (heap_alloc_new w _))
set_option maxHeartbeats 4000000 in
set_option maxRecDepth 100000 in
theorem back_law (d : Bool) (u : Nat) (hu : u < 18446744073709551616) (p : ByteArray) (k : Int) (b : Bool) (n : Int) (s : ByteArray) (v : Int) (hr : inR n v) (S T R : ByteArray) (hS : S.size ≤ 140737488351232) (hT : T.size ≤ 140737488351232) (hR : R.size ≤ 140737488351232) (w : World) (hG : Gl w) :
    Calls Tryz.prog 5 #[wr d (u : Int) p k b n s v, .string S, .string T, .string R] w fun e w' => e = .returned (.bool true) ∧ Bel w w' := by
  have HG := hide hG
  have hmS : S.size ≤ 150000000000000 := by omega
  have hmT : T.size ≤ 150000000000000 := by omega
  have h8 := hide (S8.new d (u : Int) p k b n s v w)
  have hb0 := hide (show Bel w (w.alloc (.cells #[.bool d, .int .u64 (u : Int), .string p, .int .u8 k, .bool b, .int .i64 n, .string s, .int .u64 v] 29)) from (Bel.refl _).alloc _)
  clear hG
  by_cases hE : eT (u : Int) p k b n s v = 0
  · have hbl : (wby d (u : Int) p k b n s v).length ≤ 30000 := by
      have := num_len u (by omega)
      have := num_len p.size (by have := name_short (eT_zero hE).2.1; omega)
      have := name_short (eT_zero hE).2.1
      have := byt_len (eT_zero hE).2.2 hr
      have e1 : p.data.toList.length = p.size := rfl
      simp only [wby, List.length_cons, List.length_append, e1, Int.toNat_natCast]
      omega
    have htl : (wtx d (u : Int) p k b n s v).length ≤ 30000 := by
      have := name_short (eT_zero hE).2.1
      have := ltr_len (eT_zero hE).2.2 hr
      have := hexL_len 15 u (by omega)
      have e1 : p.data.toList.length = p.size := rfl
      rw [wtx_form]
      simp only [List.length_cons, List.length_append, List.length_nil, e1]
      omega
    have C1 := hide (wbytes_yes d u (by omega) p k b n s v hr.1 hr.2.1 hr.2.2.1 hr.2.2.2 hE)
    have C2 := hide (rWr_back d u (by omega) p k b n s v hr hE R)
    have C3 := hide (wtext_yes d u hu p k b n s v hr.1 hr.2.1 hr.2.2.1 hr.2.2.2 hE)
    obtain ⟨X, hX⟩ : ∃ X : ByteArray, (⟨(wby d (u : Int) p k b n s v).toArray⟩ : ByteArray) = X := ⟨_, rfl⟩
    obtain ⟨Z, hZ⟩ : ∃ Z : ByteArray, (⟨(wtx d (u : Int) p k b n s v).toArray⟩ : ByteArray) = Z := ⟨_, rfl⟩
    have sX : X.size ≤ 30000 := by rw [← hX]; show (wby d (u : Int) p k b n s v).toArray.size ≤ _; simpa using hbl
    have sZ : Z.size ≤ 30000 := by rw [← hZ]; show (wtx d (u : Int) p k b n s v).toArray.size ≤ _; simpa using htl
    have C4 := hide (show ∀ (W : World), Gl W → Calls Tryz.prog 8 #[.string Z] W fun e w' => e = .returned (.tuple #[wr d (u : Int) p k b n s v, .int .i64 0]) ∧ Bel W w' from fun W hW => rt_yes hE hu hr (by rw [← hZ]) (by omega) W hW)
    rw [hX] at C1 C2
    rw [hZ] at C3
    have C2' := hide (fun W => rd_yes C2.out (by rw [ByteArray.size_append]; omega) W)
    have q1 : ¬ (9223372036854775807 < X.size + R.size) := by omega
    clear hbl htl hX hZ sX sZ hE C2
    unfold wr at C1 C2' C3 C4 ⊢
    go_enter Tryz.func5, Tryz.ntmps5
    go_wp2_with fail
    refine (C1.out _).mono ?_
    rintro e w1 ⟨rfl, hb1⟩
    go_wp2_with fail
    refine (C2'.out _).mono ?_
    rintro e w2 ⟨rfl, hb2⟩
    obtain ⟨c0, c1, c2, c3, c4, c5, c6, c7⟩ := ((h8.out.next hb1).next hb2).alloc (.cells #[.bool d, .int .u64 (u : Int), .string p, .int .u8 k, .bool b, .int .i64 n, .string s, .int .u64 v] 29)
    go_wp2_with fail
    refine (C3.out _ (HG.out.next (((hb0.out.trans hb1).trans hb2).alloc _))).mono ?_
    rintro e w3 ⟨rfl, hb3⟩
    clear c0 c1 c2 c3 c4 c5 c6 c7
    go_wp2_with fail
    refine (C4.out _ (HG.out.next ((((hb0.out.trans hb1).trans hb2).alloc _).trans hb3))).mono ?_
    rintro e w4 ⟨rfl, hb4⟩
    obtain ⟨d0, d1, d2, d3, d4, d5, d6, d7⟩ := ((((h8.out.next hb1).next hb2).alloc (.cells #[.bool d, .int .u64 (u : Int), .string p, .int .u8 k, .bool b, .int .i64 n, .string s, .int .u64 v] 29)).next (hb3.trans hb4)).alloc (.cells #[.bool d, .int .u64 (u : Int), .string p, .int .u8 k, .bool b, .int .i64 n, .string s, .int .u64 v] 29)
    obtain ⟨e0, e1, e2, e3, e4, e5, e6, e7⟩ := ((S8.new d (u : Int) p k b n s v w2).next (hb3.trans hb4)).alloc (.cells #[.bool d, .int .u64 (u : Int), .string p, .int .u8 k, .bool b, .int .i64 n, .string s, .int .u64 v] 29)
    obtain ⟨f0, f1, f2, f3, f4, f5, f6, f7⟩ := S8.new d (u : Int) p k b n s v w4
    have Hb := hide (show Bel w (w4.alloc (.cells #[.bool d, .int .u64 (u : Int), .string p, .int .u8 k, .bool b, .int .i64 n, .string s, .int .u64 v] 29)) from ((((hb0.out.trans hb1).trans hb2).alloc _).trans (hb3.trans hb4)).alloc _)
    clear hb1 hb2 hb3 hb4 h8 hb0 C1 C2' C3 C4
    go_wp2_with fail
    clear d0 d1 d2 d3 d4 d5 d6 d7 e0 e1 e2 e3 e4 e5 e6 e7 f0 f1 f2 f3 f4 f5 f6 f7 q1
    generalize w4.alloc (.cells #[.bool d, .int .u64 (u : Int), .string p, .int .u8 k, .bool b, .int .i64 n, .string s, .int .u64 v] 29) = W5 at *
    rcases rWr_cases S with ⟨d2, u2, p2, k2, b2, n2, s2, v2, r2, hrd, hE2, hu2, hr2, hcat⟩ | ⟨x2, hx2, hrd⟩
    · obtain ⟨X2, hX2⟩ : ∃ X2 : ByteArray, (⟨(wby d2 (u2 : Int) p2 k2 b2 n2 s2 v2).toArray⟩ : ByteArray) = X2 := ⟨_, rfl⟩
      have CB := hide (wbytes_yes d2 u2 hu2 p2 k2 b2 n2 s2 v2 hr2.1 hr2.2.1 hr2.2.2.1 hr2.2.2.2 hE2)
      rw [hX2] at CB hcat
      refine (rd_yes hrd hmS _).mono ?_
      rintro e w6 ⟨rfl, hb6⟩
      have hqq : ¬ (9223372036854775807 < X2.size + r2.size) := by
        have e1 := congrArg ByteArray.size hcat
        rw [ByteArray.size_append] at e1
        omega
      subst hcat
      have Hw6 := hide (Hb.out.trans hb6)
      have H6 := hide (BW.new w6 (wc d2 (u2 : Int) p2 k2 b2 n2 s2 v2))
      clear hb6 Hb hrd hX2 hS hmS
      unfold wr at CB ⊢
      go_wp2_with fail
      refine (CB.out _).mono ?_
      rintro e w7 ⟨rfl, hb7⟩
      have H7 := hide (H6.out.next hb7)
      clear hb7 H6 CB hE2 hu2 hr2
      go_wp2_with fail
      rcases line_cases T.data.toList with hno | ⟨d3, u3, p3, k3, b3, n3, s3, v3, hy, huy, hry, ey⟩
      · refine (rt_no hno hmT _ (HG.out.next (Hw6.out.trans H7.out.bel'))).mono ?_
        rintro e w8 ⟨rfl, hb8⟩
        obtain ⟨j0, j1, j2, j3, j4, j5, j6, j7⟩ := S8.of (H7.out.next hb8)
        have i0 := frozen_of (i := 0) (H7.out.next hb8).hw
        have i1 := frozen_of (i := 1) (H7.out.next hb8).hw
        have i2 := frozen_of (i := 2) (H7.out.next hb8).hw
        have i3 := frozen_of (i := 3) (H7.out.next hb8).hw
        have i4 := frozen_of (i := 4) (H7.out.next hb8).hw
        have i5 := frozen_of (i := 5) (H7.out.next hb8).hw
        have i6 := frozen_of (i := 6) (H7.out.next hb8).hw
        have i7 := frozen_of (i := 7) (H7.out.next hb8).hw
        have hz := hide ((H7.out.next hb8).all false 0 ⟨#[]⟩ 0 false 0 ⟨#[]⟩ 0)
        clear H7 hb8 hno
        unfold wr
        go_wp2_with fail
        refine (alive_any _ (HG.out.next (Hw6.out.trans hz.out.bel'))).mono ?_
        rintro e w9 ⟨rfl, hb9⟩
        go_wp2_with fail
        go_ret
        exact ⟨rfl, (Hw6.out.trans hz.out.bel').trans hb9⟩
      · obtain ⟨Z3, hZ3⟩ : ∃ Z3 : ByteArray, (⟨(wtx d3 (u3 : Int) p3 k3 b3 n3 s3 v3).toArray⟩ : ByteArray) = Z3 := ⟨_, rfl⟩
        have CT := hide (wtext_yes d3 u3 huy p3 k3 b3 n3 s3 v3 hry.1 hry.2.1 hry.2.2.1 hry.2.2.2 hy)
        rw [hZ3] at CT
        have hT3 : T = Z3 := by rw [← hZ3, ey]
        refine (rt_yes hy huy hry ey hmT _ (HG.out.next (Hw6.out.trans H7.out.bel'))).mono ?_
        rintro e w8 ⟨rfl, hb8⟩
        subst hT3
        obtain ⟨j0, j1, j2, j3, j4, j5, j6, j7⟩ := S8.of (H7.out.next hb8)
        have i0 := frozen_of (i := 0) (H7.out.next hb8).hw
        have i1 := frozen_of (i := 1) (H7.out.next hb8).hw
        have i2 := frozen_of (i := 2) (H7.out.next hb8).hw
        have i3 := frozen_of (i := 3) (H7.out.next hb8).hw
        have i4 := frozen_of (i := 4) (H7.out.next hb8).hw
        have i5 := frozen_of (i := 5) (H7.out.next hb8).hw
        have i6 := frozen_of (i := 6) (H7.out.next hb8).hw
        have i7 := frozen_of (i := 7) (H7.out.next hb8).hw
        have hz := hide ((H7.out.next hb8).all d3 (u3 : Int) p3 k3 b3 n3 s3 v3)
        clear H7 hb8 hy huy hry ey hZ3
        unfold wr at CT ⊢
        go_wp2_with fail
        refine (CT.out _ (HG.out.next (Hw6.out.trans hz.out.bel'))).mono ?_
        rintro e w9 ⟨rfl, hb9⟩
        have hb10 := hide ((Hw6.out.trans hz.out.bel').trans hb9)
        clear hb9 hz CT j0 j1 j2 j3 j4 j5 j6 j7 i0 i1 i2 i3 i4 i5 i6 i7
        go_wp2_with fail
        refine (alive_any _ (HG.out.next hb10.out)).mono ?_
        rintro e w11 ⟨rfl, hb11⟩
        go_wp2_with fail
        go_ret
        exact ⟨rfl, hb10.out.trans hb11⟩
    · refine (rd_no hrd hmS _).mono ?_
      rintro e w6 ⟨rfl, hb6⟩
      have hx3 : (x2 == 0) = false := ne_beq hx2
      have Hw6 := hide (Hb.out.trans hb6)
      have H6 := hide (BW.new w6 (wc false 0 ⟨#[]⟩ 0 false 0 ⟨#[]⟩ 0))
      clear hb6 Hb hrd hx2
      unfold wr
      go_wp2_with fail
      unfold wc at H6
      obtain ⟨w7, hw7⟩ : ∃ w7, w6.alloc (.cells #[.bool false, .int .u64 0, .string ⟨#[]⟩, .int .u8 0, .bool false, .int .i64 0, .string ⟨#[]⟩, .int .u64 0] 29) = w7 := ⟨_, rfl⟩
      rw [hw7] at H6 ⊢
      have H7 : Hid (BW w6.heap.size w6 w7 (wc false 0 ⟨#[]⟩ 0 false 0 ⟨#[]⟩ 0)) := H6
      clear H6 hw7
      rcases line_cases T.data.toList with hno | ⟨d3, u3, p3, k3, b3, n3, s3, v3, hy, huy, hry, ey⟩
      · refine (rt_no hno hmT _ (HG.out.next (Hw6.out.trans H7.out.bel'))).mono ?_
        rintro e w8 ⟨rfl, hb8⟩
        obtain ⟨j0, j1, j2, j3, j4, j5, j6, j7⟩ := S8.of (H7.out.next hb8)
        have i0 := frozen_of (i := 0) (H7.out.next hb8).hw
        have i1 := frozen_of (i := 1) (H7.out.next hb8).hw
        have i2 := frozen_of (i := 2) (H7.out.next hb8).hw
        have i3 := frozen_of (i := 3) (H7.out.next hb8).hw
        have i4 := frozen_of (i := 4) (H7.out.next hb8).hw
        have i5 := frozen_of (i := 5) (H7.out.next hb8).hw
        have i6 := frozen_of (i := 6) (H7.out.next hb8).hw
        have i7 := frozen_of (i := 7) (H7.out.next hb8).hw
        have hz := hide ((H7.out.next hb8).all false 0 ⟨#[]⟩ 0 false 0 ⟨#[]⟩ 0)
        clear H7 hb8 hno
        unfold wr
        go_wp2_with fail
        refine (alive_any _ (HG.out.next (Hw6.out.trans hz.out.bel'))).mono ?_
        rintro e w9 ⟨rfl, hb9⟩
        go_wp2_with fail
        go_ret
        exact ⟨rfl, (Hw6.out.trans hz.out.bel').trans hb9⟩
      · obtain ⟨Z3, hZ3⟩ : ∃ Z3 : ByteArray, (⟨(wtx d3 (u3 : Int) p3 k3 b3 n3 s3 v3).toArray⟩ : ByteArray) = Z3 := ⟨_, rfl⟩
        have CT := hide (wtext_yes d3 u3 huy p3 k3 b3 n3 s3 v3 hry.1 hry.2.1 hry.2.2.1 hry.2.2.2 hy)
        rw [hZ3] at CT
        have hT3 : T = Z3 := by rw [← hZ3, ey]
        refine (rt_yes hy huy hry ey hmT _ (HG.out.next (Hw6.out.trans H7.out.bel'))).mono ?_
        rintro e w8 ⟨rfl, hb8⟩
        subst hT3
        obtain ⟨j0, j1, j2, j3, j4, j5, j6, j7⟩ := S8.of (H7.out.next hb8)
        have i0 := frozen_of (i := 0) (H7.out.next hb8).hw
        have i1 := frozen_of (i := 1) (H7.out.next hb8).hw
        have i2 := frozen_of (i := 2) (H7.out.next hb8).hw
        have i3 := frozen_of (i := 3) (H7.out.next hb8).hw
        have i4 := frozen_of (i := 4) (H7.out.next hb8).hw
        have i5 := frozen_of (i := 5) (H7.out.next hb8).hw
        have i6 := frozen_of (i := 6) (H7.out.next hb8).hw
        have i7 := frozen_of (i := 7) (H7.out.next hb8).hw
        have hz := hide ((H7.out.next hb8).all d3 (u3 : Int) p3 k3 b3 n3 s3 v3)
        clear H7 hb8 hy huy hry ey hZ3
        unfold wr at CT ⊢
        go_wp2_with fail
        refine (CT.out _ (HG.out.next (Hw6.out.trans hz.out.bel'))).mono ?_
        rintro e w9 ⟨rfl, hb9⟩
        have hb10 := hide ((Hw6.out.trans hz.out.bel').trans hb9)
        clear hb9 hz CT j0 j1 j2 j3 j4 j5 j6 j7 i0 i1 i2 i3 i4 i5 i6 i7
        go_wp2_with fail
        refine (alive_any _ (HG.out.next hb10.out)).mono ?_
        rintro e w11 ⟨rfl, hb11⟩
        go_wp2_with fail
        go_ret
        exact ⟨rfl, hb10.out.trans hb11⟩
  · have C1 := hide (wbytes_no d (u : Int) p k b n s v (by omega) hE)
    generalize eT (u : Int) p k b n s v = E at C1 hE
    have hE2 : (E == 0) = false := ne_beq hE
    clear hE
    unfold wr at C1 ⊢
    go_enter Tryz.func5, Tryz.ntmps5
    go_wp2_with fail
    refine (C1.out _).mono ?_
    rintro e W5 ⟨rfl, hb1⟩
    have Hb := hide (hb0.out.trans hb1)
    clear hb1 hb0 h8 C1
    go_wp2_with fail
    rcases rWr_cases S with ⟨d2, u2, p2, k2, b2, n2, s2, v2, r2, hrd, hE2, hu2, hr2, hcat⟩ | ⟨x2, hx2, hrd⟩
    · obtain ⟨X2, hX2⟩ : ∃ X2 : ByteArray, (⟨(wby d2 (u2 : Int) p2 k2 b2 n2 s2 v2).toArray⟩ : ByteArray) = X2 := ⟨_, rfl⟩
      have CB := hide (wbytes_yes d2 u2 hu2 p2 k2 b2 n2 s2 v2 hr2.1 hr2.2.1 hr2.2.2.1 hr2.2.2.2 hE2)
      rw [hX2] at CB hcat
      refine (rd_yes hrd hmS _).mono ?_
      rintro e w6 ⟨rfl, hb6⟩
      have hqq : ¬ (9223372036854775807 < X2.size + r2.size) := by
        have e1 := congrArg ByteArray.size hcat
        rw [ByteArray.size_append] at e1
        omega
      subst hcat
      have Hw6 := hide (Hb.out.trans hb6)
      have H6 := hide (BW.new w6 (wc d2 (u2 : Int) p2 k2 b2 n2 s2 v2))
      clear hb6 Hb hrd hX2 hS hmS
      unfold wr at CB ⊢
      go_wp2_with fail
      refine (CB.out _).mono ?_
      rintro e w7 ⟨rfl, hb7⟩
      have H7 := hide (H6.out.next hb7)
      clear hb7 H6 CB hE2 hu2 hr2
      go_wp2_with fail
      rcases line_cases T.data.toList with hno | ⟨d3, u3, p3, k3, b3, n3, s3, v3, hy, huy, hry, ey⟩
      · refine (rt_no hno hmT _ (HG.out.next (Hw6.out.trans H7.out.bel'))).mono ?_
        rintro e w8 ⟨rfl, hb8⟩
        obtain ⟨j0, j1, j2, j3, j4, j5, j6, j7⟩ := S8.of (H7.out.next hb8)
        have i0 := frozen_of (i := 0) (H7.out.next hb8).hw
        have i1 := frozen_of (i := 1) (H7.out.next hb8).hw
        have i2 := frozen_of (i := 2) (H7.out.next hb8).hw
        have i3 := frozen_of (i := 3) (H7.out.next hb8).hw
        have i4 := frozen_of (i := 4) (H7.out.next hb8).hw
        have i5 := frozen_of (i := 5) (H7.out.next hb8).hw
        have i6 := frozen_of (i := 6) (H7.out.next hb8).hw
        have i7 := frozen_of (i := 7) (H7.out.next hb8).hw
        have hz := hide ((H7.out.next hb8).all false 0 ⟨#[]⟩ 0 false 0 ⟨#[]⟩ 0)
        clear H7 hb8 hno
        unfold wr
        go_wp2_with fail
        refine (alive_any _ (HG.out.next (Hw6.out.trans hz.out.bel'))).mono ?_
        rintro e w9 ⟨rfl, hb9⟩
        go_wp2_with fail
        go_ret
        exact ⟨rfl, (Hw6.out.trans hz.out.bel').trans hb9⟩
      · obtain ⟨Z3, hZ3⟩ : ∃ Z3 : ByteArray, (⟨(wtx d3 (u3 : Int) p3 k3 b3 n3 s3 v3).toArray⟩ : ByteArray) = Z3 := ⟨_, rfl⟩
        have CT := hide (wtext_yes d3 u3 huy p3 k3 b3 n3 s3 v3 hry.1 hry.2.1 hry.2.2.1 hry.2.2.2 hy)
        rw [hZ3] at CT
        have hT3 : T = Z3 := by rw [← hZ3, ey]
        refine (rt_yes hy huy hry ey hmT _ (HG.out.next (Hw6.out.trans H7.out.bel'))).mono ?_
        rintro e w8 ⟨rfl, hb8⟩
        subst hT3
        obtain ⟨j0, j1, j2, j3, j4, j5, j6, j7⟩ := S8.of (H7.out.next hb8)
        have i0 := frozen_of (i := 0) (H7.out.next hb8).hw
        have i1 := frozen_of (i := 1) (H7.out.next hb8).hw
        have i2 := frozen_of (i := 2) (H7.out.next hb8).hw
        have i3 := frozen_of (i := 3) (H7.out.next hb8).hw
        have i4 := frozen_of (i := 4) (H7.out.next hb8).hw
        have i5 := frozen_of (i := 5) (H7.out.next hb8).hw
        have i6 := frozen_of (i := 6) (H7.out.next hb8).hw
        have i7 := frozen_of (i := 7) (H7.out.next hb8).hw
        have hz := hide ((H7.out.next hb8).all d3 (u3 : Int) p3 k3 b3 n3 s3 v3)
        clear H7 hb8 hy huy hry ey hZ3
        unfold wr at CT ⊢
        go_wp2_with fail
        refine (CT.out _ (HG.out.next (Hw6.out.trans hz.out.bel'))).mono ?_
        rintro e w9 ⟨rfl, hb9⟩
        have hb10 := hide ((Hw6.out.trans hz.out.bel').trans hb9)
        clear hb9 hz CT j0 j1 j2 j3 j4 j5 j6 j7 i0 i1 i2 i3 i4 i5 i6 i7
        go_wp2_with fail
        refine (alive_any _ (HG.out.next hb10.out)).mono ?_
        rintro e w11 ⟨rfl, hb11⟩
        go_wp2_with fail
        go_ret
        exact ⟨rfl, hb10.out.trans hb11⟩
    · refine (rd_no hrd hmS _).mono ?_
      rintro e w6 ⟨rfl, hb6⟩
      have hx3 : (x2 == 0) = false := ne_beq hx2
      have Hw6 := hide (Hb.out.trans hb6)
      have H6 := hide (BW.new w6 (wc false 0 ⟨#[]⟩ 0 false 0 ⟨#[]⟩ 0))
      clear hb6 Hb hrd hx2
      unfold wr
      go_wp2_with fail
      unfold wc at H6
      obtain ⟨w7, hw7⟩ : ∃ w7, w6.alloc (.cells #[.bool false, .int .u64 0, .string ⟨#[]⟩, .int .u8 0, .bool false, .int .i64 0, .string ⟨#[]⟩, .int .u64 0] 29) = w7 := ⟨_, rfl⟩
      rw [hw7] at H6 ⊢
      have H7 : Hid (BW w6.heap.size w6 w7 (wc false 0 ⟨#[]⟩ 0 false 0 ⟨#[]⟩ 0)) := H6
      clear H6 hw7
      rcases line_cases T.data.toList with hno | ⟨d3, u3, p3, k3, b3, n3, s3, v3, hy, huy, hry, ey⟩
      · refine (rt_no hno hmT _ (HG.out.next (Hw6.out.trans H7.out.bel'))).mono ?_
        rintro e w8 ⟨rfl, hb8⟩
        obtain ⟨j0, j1, j2, j3, j4, j5, j6, j7⟩ := S8.of (H7.out.next hb8)
        have i0 := frozen_of (i := 0) (H7.out.next hb8).hw
        have i1 := frozen_of (i := 1) (H7.out.next hb8).hw
        have i2 := frozen_of (i := 2) (H7.out.next hb8).hw
        have i3 := frozen_of (i := 3) (H7.out.next hb8).hw
        have i4 := frozen_of (i := 4) (H7.out.next hb8).hw
        have i5 := frozen_of (i := 5) (H7.out.next hb8).hw
        have i6 := frozen_of (i := 6) (H7.out.next hb8).hw
        have i7 := frozen_of (i := 7) (H7.out.next hb8).hw
        have hz := hide ((H7.out.next hb8).all false 0 ⟨#[]⟩ 0 false 0 ⟨#[]⟩ 0)
        clear H7 hb8 hno
        unfold wr
        go_wp2_with fail
        refine (alive_any _ (HG.out.next (Hw6.out.trans hz.out.bel'))).mono ?_
        rintro e w9 ⟨rfl, hb9⟩
        go_wp2_with fail
        go_ret
        exact ⟨rfl, (Hw6.out.trans hz.out.bel').trans hb9⟩
      · obtain ⟨Z3, hZ3⟩ : ∃ Z3 : ByteArray, (⟨(wtx d3 (u3 : Int) p3 k3 b3 n3 s3 v3).toArray⟩ : ByteArray) = Z3 := ⟨_, rfl⟩
        have CT := hide (wtext_yes d3 u3 huy p3 k3 b3 n3 s3 v3 hry.1 hry.2.1 hry.2.2.1 hry.2.2.2 hy)
        rw [hZ3] at CT
        have hT3 : T = Z3 := by rw [← hZ3, ey]
        refine (rt_yes hy huy hry ey hmT _ (HG.out.next (Hw6.out.trans H7.out.bel'))).mono ?_
        rintro e w8 ⟨rfl, hb8⟩
        subst hT3
        obtain ⟨j0, j1, j2, j3, j4, j5, j6, j7⟩ := S8.of (H7.out.next hb8)
        have i0 := frozen_of (i := 0) (H7.out.next hb8).hw
        have i1 := frozen_of (i := 1) (H7.out.next hb8).hw
        have i2 := frozen_of (i := 2) (H7.out.next hb8).hw
        have i3 := frozen_of (i := 3) (H7.out.next hb8).hw
        have i4 := frozen_of (i := 4) (H7.out.next hb8).hw
        have i5 := frozen_of (i := 5) (H7.out.next hb8).hw
        have i6 := frozen_of (i := 6) (H7.out.next hb8).hw
        have i7 := frozen_of (i := 7) (H7.out.next hb8).hw
        have hz := hide ((H7.out.next hb8).all d3 (u3 : Int) p3 k3 b3 n3 s3 v3)
        clear H7 hb8 hy huy hry ey hZ3
        unfold wr at CT ⊢
        go_wp2_with fail
        refine (CT.out _ (HG.out.next (Hw6.out.trans hz.out.bel'))).mono ?_
        rintro e w9 ⟨rfl, hb9⟩
        have hb10 := hide ((Hw6.out.trans hz.out.bel').trans hb9)
        clear hb9 hz CT j0 j1 j2 j3 j4 j5 j6 j7 i0 i1 i2 i3 i4 i5 i6 i7
        go_wp2_with fail
        refine (alive_any _ (HG.out.next hb10.out)).mono ?_
        rintro e w11 ⟨rfl, hb11⟩
        go_wp2_with fail
        go_ret
        exact ⟨rfl, hb10.out.trans hb11⟩
theorem back_card (d : Bool) (u : Int) (p : ByteArray) (k : Int) (b : Bool) (n : Int) (s : ByteArray) (v : Int) (S T R : ByteArray) (hu : 0 ≤ u ∧ u < 18446744073709551616) (hr : inR n v) (hS : S.size ≤ 140737488351232) (hT : T.size ≤ 140737488351232) (hR : R.size ≤ 140737488351232) (w : World) (hG : Gl w) :
    Calls Tryz.prog 5 #[wr d u p k b n s v, .string S, .string T, .string R] w fun e w' => e = .returned (.bool true) ∧ Bel w w' := by
  obtain ⟨m, rfl⟩ : ∃ m : Nat, u = (m : Int) := ⟨u.toNat, by omega⟩
  exact back_law d m (by omega) p k b n s v hr S T R hS hT hR w hG
end Go.Proofs.YtgghcfmpfneehaaGreatDoor
