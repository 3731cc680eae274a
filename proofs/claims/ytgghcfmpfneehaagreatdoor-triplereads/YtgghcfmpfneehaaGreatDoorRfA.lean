/- What the document's Read returns: for every bytes. -/
import Derived.Test.YtgghcfmpfneehaaGreatDoorRtB
import Derived.Test.YtgghcfmpfneehaaGreatDoorTriD
import Derived.Test.YtgghcfmpfneehaaGreatDoorValO
namespace Go.Proofs.YtgghcfmpfneehaaGreatDoor
open Go.RowKit
theorem res_w3 {fn : Func} (hr : fn.results = #[.cell 2 29, .tmp 3, .tmp 4]) {W : World} {B : Nat} {cs : Array Value} (hg : W.heap[B]? = some (.cells cs 29)) (hs : (Tryz.prog.info? 29).map (·.size) = some cs.size) (tmps : Array Value) (x y : Value) (hp : tmps.getD 2 undef = .pointer (some ⟨B, 0, none⟩)) (hx : tmps.getD 3 undef = x) (hy : tmps.getD 4 undef = y) :
    (results fn tmps).run Tryz.prog W = .ok (.tuple #[.agg cs, x, y]) W := by
  have hp' : tmps[2]?.getD undef = .pointer (some ⟨B, 0, none⟩) := by simpa using hp
  have hx' : tmps[3]?.getD undef = x := by simpa using hx
  have hy' : tmps[4]?.getD undef = y := by simpa using hy
  simp [results, hr, hp', hx', hy', asAddr, run_loadVar_row W B 29 29 cs (0, 0) _ hg Tryz.underlying29 rfl hs]
theorem fin_pos {k : Int} {b : Bool} {n : Int} {t : ByteArray} {u : Int} {r : ByteArray} {e : Int} (hu : 0 ≤ u) : 0 ≤ (fin k b n t u r e).1.2.2.2.2 := by
  unfold fin
  by_cases h : e = 0
  · rw [if_pos h]
    rcases mayD k b n t u with h1 | h1
    · rw [if_neg h1]; exact Int.le_refl 0
    · rw [if_pos h1]; exact hu
  · rw [if_neg h]; exact Int.le_refl 0
theorem rVal_pos (s : ByteArray) : 0 ≤ (rVal s).1.2.2.2.2 := by
  unfold rVal
  split
  · split
    · exact fin_pos (Int.le_refl 0)
    · split
      · exact fin_pos (Int.le_refl 0)
      · split
        · exact fin_pos (Int.le_refl 0)
        · split
          · exact fin_pos (by omega)
          · exact Int.le_refl 0
  · exact Int.le_refl 0
theorem ne_bne {x : Int} (h : x ≠ 0) : (x != 0) = true := by simpa using h
set_option maxHeartbeats 4000000 in
set_option maxRecDepth 100000 in
theorem refRead_w (s : ByteArray) (hm : s.size ≤ 150000000000000) (w : World) : Calls Tryz.prog 7 #[.string s] w fun e w' => e = .returned (av (rWr s)) ∧ Bel w w' := by
  have h0 := hide (BW.new w (wc false 0 ⟨#[]⟩ 0 false 0 ⟨#[]⟩ 0))
  by_cases hz0 : s.size = 0
  · obtain rfl : s = ⟨#[]⟩ := ba_nil hz0
    have H0 := hide (show rWr ⟨#[]⟩ = badA 20 by rfl)
    clear hz0
    go_enter Tryz.func7, Tryz.ntmps7
    go_wp2_with fail
    rw [H0.out]
    exact bodyPost_ret (res_w3 (cs := wc false 0 ⟨#[]⟩ 0 false 0 ⟨#[]⟩ 0) rfl h0.out.hw info29 _ (.string ⟨#[]⟩) (.int .i64 20) rfl rfl rfl) rfl ⟨rfl, h0.out.bel'⟩
  · have hp : 0 < s.size := by omega
    have hn := n0_pos hp
    have he : s.toList.isEmpty = false := ba_nil_ne hz0
    by_cases hb : 1 < (s[0]).toNat
    · have h3 : (1 : Int) < ((s[0]).toNat : Int) := by omega
      have H0 := hide (show rWr s = badA 21 by
        have em : rMk s = (false, ⟨#[]⟩, 21) := by unfold rMk; rw [if_neg hz0, if_pos (by rw [hn]; exact hb)]
        unfold rWr; rw [em]; rfl)
      clear hz0 hn hb
      go_enter Tryz.func7, Tryz.ntmps7
      go_wp2_with fail
      rw [H0.out]
      exact bodyPost_ret (res_w3 (cs := wc false 0 ⟨#[]⟩ 0 false 0 ⟨#[]⟩ 0) rfl h0.out.hw info29 _ (.string ⟨#[]⟩) (.int .i64 21) rfl rfl rfl) rfl ⟨rfl, h0.out.bel'⟩
    · have h3 : ¬ (1 : Int) < ((s[0]).toNat : Int) := by omega
      have HR := hide (show rWr s = f2 (n0 s == 1) (s.extract 1 s.size) by
        have em : rMk s = (n0 s == 1, s.extract 1 s.size, 0) := by unfold rMk; rw [if_neg hz0, if_neg (by rw [hn]; exact hb)]
        unfold rWr; rw [em]; rfl)
      have h4 : (((s[0]).toNat : Int) == 1) = (n0 s == 1) := by rw [hn, Bool.eq_iff_iff]; simp; omega
      have h5 : (1 : Int) ≤ (s.size : Int) := by omega
      have hr1 : (s.extract 1 s.size).size ≤ 150000000000000 := by simp; omega
      generalize (n0 s == 1) = q at HR h4
      clear hz0 hn hb
      go_enter Tryz.func7, Tryz.ntmps7
      go_wp2_with fail
      generalize s.extract 1 s.size = t1 at HR hr1 ⊢
      have hf1 := rNum_facts t1
      refine (refReadNum_any t1 hr1 _).mono ?_
      rintro e w1 ⟨rfl, hb1⟩
      unfold f2 at HR
      generalize rNum t1 = x1 at *
      obtain ⟨u, t2, e1⟩ := x1
      simp only at HR hf1
      have h1 := hide (h0.out.next hb1)
      clear hb1 h0
      by_cases q1 : e1 = 0
      · subst q1
        rw [if_pos rfl] at HR
        go_wp2_with fail
        have hr2 : t2.size ≤ 150000000000000 := by omega
        have hf2 := rText_rest t2
        refine (crefReadText_any t2 hr2 _).mono ?_
        rintro e w2 ⟨rfl, hb2⟩
        unfold f3 at HR
        generalize rText t2 = x2 at *
        obtain ⟨p, t3, e2⟩ := x2
        simp only at HR hf2
        have h2 := hide (h1.out.next hb2)
        clear hb2 h1
        by_cases q2 : e2 = 0
        · subst q2
          rw [if_pos rfl] at HR
          go_wp2_with fail
          have hr3 : t3.size ≤ 150000000000000 := by omega
          refine (rread_any t3 hr3 _).mono ?_
          rintro e w3 ⟨rfl, hb3⟩
          unfold f4 at HR
          have hvv : 0 ≤ (rVal t3).1.2.2.2.2 := rVal_pos t3
          generalize rVal t3 = x3 at *
          obtain ⟨⟨k, b, n, t, v⟩, t4, e3⟩ := x3
          simp only at HR hvv
          unfold rv ev
          simp only
          have h3' := hide ((h2.out.next hb3).next ((Bel.refl _).alloc (.cells #[.int .u8 k, .bool b, .int .i64 n, .string t, .int .u64 v] 25)))
          clear hb3 h2
          by_cases q3 : e3 = 0
          · subst q3
            rw [if_pos rfl] at HR
            go_wp2_with fail
            obtain ⟨y0, y1, y2, y3, y4⟩ := S5.first k b n t v w3
            generalize w3.alloc (.cells #[.int .u8 k, .bool b, .int .i64 n, .string t, .int .u64 v] 25) = W4 at *
            generalize w3.heap.size = Bv at *
            have hz : Bel W4 (W4.alloc (.cells #[.bool false, .int .u64 0, .string ⟨#[]⟩, .int .u8 0, .bool false, .int .i64 0, .string ⟨#[]⟩, .int .u64 0] 29)).drew := ((Bel.refl W4).alloc _).drew
            have y0' := hz.cell y0
            have y1' := hz.cell y1
            have y2' := hz.cell y2
            have y3' := hz.cell y3
            have y4' := hz.cell y4
            clear hz
            go_region
            have h5' := hide (S8.new q (u : Int) p k b n t v W4).drew
            have H5 := hide (h3'.out.next ((Bel.refl W4).alloc (.cells #[.bool q, .int .u64 (u : Int), .string p, .int .u8 k, .bool b, .int .i64 n, .string t, .int .u64 v] 29)).drew)
            clear h3' y0 y1 y2 y3 y4 y0' y1' y2' y3' y4'
            generalize (W4.alloc (.cells #[.bool q, .int .u64 (u : Int), .string p, .int .u8 k, .bool b, .int .i64 n, .string t, .int .u64 v] 29)).drew = W5 at *
            generalize W4.heap.size = Bw at *
            obtain ⟨c0, c1, c2, c3, c4, c5, c6, c7⟩ := h5'.out
            go_wp2_with fail
            refine (refMay_any (u : Int) p k b n t v (by omega) hvv _).mono ?_
            rintro e w6 ⟨rfl, hb6⟩
            have H6 := hide (H5.out.next hb6)
            have c8 := h5'.out.next hb6
            clear c0 c1 c2 c3 c4 c5 c6 c7 H5 h5' hb6
            obtain ⟨c0, c1, c2, c3, c4, c5, c6, c7⟩ := c8
            unfold f5 at HR
            simp only at HR
            by_cases q4 : eT (u : Int) p k b n t v = 0
            · rw [if_pos q4] at HR
              have q5 : (eT (u : Int) p k b n t v != 0) = false := by rw [q4]; rfl
              clear q4
              obtain ⟨d0, d1, d2, d3, d4, d5, d6, d7⟩ := S8.of H6.out
              have g0 := frozen_of (i := 0) (H6.out).hw
              have g1 := frozen_of (i := 1) (H6.out).hw
              have g2 := frozen_of (i := 2) (H6.out).hw
              have g3 := frozen_of (i := 3) (H6.out).hw
              have g4 := frozen_of (i := 4) (H6.out).hw
              have g5 := frozen_of (i := 5) (H6.out).hw
              have g6 := frozen_of (i := 6) (H6.out).hw
              have g7 := frozen_of (i := 7) (H6.out).hw
              go_wp2_with fail
              have hz := H6.out.all q (u : Int) p k b n t v
              rw [HR.out]
              exact bodyPost_ret (res_w3 (cs := wc q (u : Int) p k b n t v) rfl hz.hw info29 _ (.string t4) (.int .i64 0) rfl rfl rfl) rfl ⟨rfl, hz.bel'⟩
            · rw [if_neg q4] at HR
              have q5 := ne_bne q4
              obtain ⟨d0, d1, d2, d3, d4, d5, d6, d7⟩ := S8.of H6.out
              have g0 := frozen_of (i := 0) (H6.out).hw
              have g1 := frozen_of (i := 1) (H6.out).hw
              have g2 := frozen_of (i := 2) (H6.out).hw
              have g3 := frozen_of (i := 3) (H6.out).hw
              have g4 := frozen_of (i := 4) (H6.out).hw
              have g5 := frozen_of (i := 5) (H6.out).hw
              have g6 := frozen_of (i := 6) (H6.out).hw
              have g7 := frozen_of (i := 7) (H6.out).hw
              go_wp2_with fail
              have hz := H6.out.all false 0 ⟨#[]⟩ 0 false 0 ⟨#[]⟩ 0
              rw [HR.out]
              exact bodyPost_ret (res_w3 (cs := wc false 0 ⟨#[]⟩ 0 false 0 ⟨#[]⟩ 0) rfl hz.hw info29 _ (.string ⟨#[]⟩) (.int .i64 (eT (u : Int) p k b n t v)) rfl rfl rfl) rfl ⟨rfl, hz.bel'⟩
          · rw [if_neg q3] at HR
            have q5 := ne_bne q3
            obtain ⟨d0, d1, d2, d3, d4, d5, d6, d7⟩ := S8.of h3'.out
            have g0 := frozen_of (i := 0) (h3'.out).hw
            have g1 := frozen_of (i := 1) (h3'.out).hw
            have g2 := frozen_of (i := 2) (h3'.out).hw
            have g3 := frozen_of (i := 3) (h3'.out).hw
            have g4 := frozen_of (i := 4) (h3'.out).hw
            have g5 := frozen_of (i := 5) (h3'.out).hw
            have g6 := frozen_of (i := 6) (h3'.out).hw
            have g7 := frozen_of (i := 7) (h3'.out).hw
            go_wp2_with fail
            have hz := h3'.out.all false 0 ⟨#[]⟩ 0 false 0 ⟨#[]⟩ 0
            rw [HR.out]
            exact bodyPost_ret (res_w3 (cs := wc false 0 ⟨#[]⟩ 0 false 0 ⟨#[]⟩ 0) rfl hz.hw info29 _ (.string ⟨#[]⟩) (.int .i64 (e3)) rfl rfl rfl) rfl ⟨rfl, hz.bel'⟩
        · rw [if_neg q2] at HR
          have q5 := ne_bne q2
          obtain ⟨d0, d1, d2, d3, d4, d5, d6, d7⟩ := S8.of h2.out
          have g0 := frozen_of (i := 0) (h2.out).hw
          have g1 := frozen_of (i := 1) (h2.out).hw
          have g2 := frozen_of (i := 2) (h2.out).hw
          have g3 := frozen_of (i := 3) (h2.out).hw
          have g4 := frozen_of (i := 4) (h2.out).hw
          have g5 := frozen_of (i := 5) (h2.out).hw
          have g6 := frozen_of (i := 6) (h2.out).hw
          have g7 := frozen_of (i := 7) (h2.out).hw
          go_wp2_with fail
          have hz := h2.out.all false 0 ⟨#[]⟩ 0 false 0 ⟨#[]⟩ 0
          rw [HR.out]
          exact bodyPost_ret (res_w3 (cs := wc false 0 ⟨#[]⟩ 0 false 0 ⟨#[]⟩ 0) rfl hz.hw info29 _ (.string ⟨#[]⟩) (.int .i64 (e2)) rfl rfl rfl) rfl ⟨rfl, hz.bel'⟩
      · rw [if_neg q1] at HR
        have q5 := ne_bne q1
        obtain ⟨d0, d1, d2, d3, d4, d5, d6, d7⟩ := S8.of h1.out
        have g0 := frozen_of (i := 0) (h1.out).hw
        have g1 := frozen_of (i := 1) (h1.out).hw
        have g2 := frozen_of (i := 2) (h1.out).hw
        have g3 := frozen_of (i := 3) (h1.out).hw
        have g4 := frozen_of (i := 4) (h1.out).hw
        have g5 := frozen_of (i := 5) (h1.out).hw
        have g6 := frozen_of (i := 6) (h1.out).hw
        have g7 := frozen_of (i := 7) (h1.out).hw
        go_wp2_with fail
        have hz := h1.out.all false 0 ⟨#[]⟩ 0 false 0 ⟨#[]⟩ 0
        rw [HR.out]
        exact bodyPost_ret (res_w3 (cs := wc false 0 ⟨#[]⟩ 0 false 0 ⟨#[]⟩ 0) rfl hz.hw info29 _ (.string ⟨#[]⟩) (.int .i64 (e1)) rfl rfl rfl) rfl ⟨rfl, hz.bel'⟩
end Go.Proofs.YtgghcfmpfneehaaGreatDoor
