/- What the program's ReadText returns: for every line. -/
import Derived.Test.YtgghcfmpfneehaaGreatDoorRtA
import Derived.Test.YtgghcfmpfneehaaGreatDoorRdD
namespace Go.Proofs.YtgghcfmpfneehaaGreatDoor
open Go.RowKit
theorem res_w2 {fn : Func} (hr : fn.results = #[.cell 2 29, .tmp 3]) {W : World} {B : Nat} {cs : Array Value} (hg : W.heap[B]? = some (.cells cs 29)) (hs : (Tryz.prog.info? 29).map (·.size) = some cs.size) (tmps : Array Value) (y : Value) (hp : tmps.getD 2 undef = .pointer (some ⟨B, 0, none⟩)) (hy : tmps.getD 3 undef = y) :
    (results fn tmps).run Tryz.prog W = .ok (.tuple #[.agg cs, y]) W := by
  have hp' : tmps[2]?.getD undef = .pointer (some ⟨B, 0, none⟩) := by simpa using hp
  have hy' : tmps[3]?.getD undef = y := by simpa using hy
  simp [results, hr, hp', hy', asAddr, run_loadVar_row W B 29 29 cs (0, 0) _ hg Tryz.underlying29 rfl hs]
/-- The one write whose line this is is returned, or ErrTriple. -/
def txtR (l : List UInt8) (w : World) (e : Ending) (w' : World) : Prop := ∃ d u p k b n s v x, e = .returned (.tuple #[wr d ((u : Nat) : Int) p k b n s v, .int .i64 x]) ∧ Bel w w' ∧ okW l d u p k b n s v x
/-- The box of a write that stands in front of all that is made. -/
structure BW (B : Nat) (w W : World) (c : Array Value) : Prop where
  hw : W.heap[B]? = some (.cells c 29)
  hB : B = w.heap.size
  bel : Below B w W
theorem BW.lt {B : Nat} {w W : World} {c : Array Value} (h : BW B w W c) : B < W.heap.size := by
  apply Decidable.byContradiction; intro hn
  have := h.hw; rw [Array.getElem?_eq_none (by omega)] at this; cases this
theorem BW.next {B : Nat} {w W W' : World} {c : Array Value} (h : BW B w W c) (hb : Bel W W') : BW B w W' c :=
  ⟨hb.row h.hw, h.hB, h.bel.trans (Below.mono hb (Nat.le_of_lt h.lt))⟩
theorem BW.new (w : World) (c : Array Value) : BW w.heap.size w (w.alloc (.cells c 29)) c := ⟨heap_alloc_new w _, rfl, Below.alloc (Below.refl _ _) (Nat.le_refl _) _⟩
theorem BW.bel' {B : Nat} {w W : World} {c : Array Value} (h : BW B w W c) : Bel w W := bel_of h.hB h.bel
theorem BW.put {B : Nat} {w W : World} {c : Array Value} (h : BW B w W c) (i : Nat) (x : Value) {c' : Array Value} (e : c.setIfInBounds i x = c') : BW B w (W.setCell ⟨B, i, none⟩ x) c' :=
  ⟨by rw [row_set h.hw, e], h.hB, h.bel.setCell (by show B ≤ B; omega) _⟩
theorem BW.all {B : Nat} {w W : World} {d : Bool} {u : Int} {p : ByteArray} {k : Int} {b : Bool} {n : Int} {s : ByteArray} {v : Int} (h : BW B w W (wc d u p k b n s v)) (d' : Bool) (u' : Int) (p' : ByteArray) (k' : Int) (b' : Bool) (n' : Int) (s' : ByteArray) (v' : Int) :
    BW B w ((((((((W.setCell ⟨B, 0, none⟩ (.bool d')).setCell ⟨B, 1, none⟩ (.int .u64 u')).setCell ⟨B, 2, none⟩ (.string p')).setCell ⟨B, 3, none⟩ (.int .u8 k')).setCell ⟨B, 4, none⟩ (.bool b')).setCell ⟨B, 5, none⟩ (.int .i64 n')).setCell ⟨B, 6, none⟩ (.string s')).setCell ⟨B, 7, none⟩ (.int .u64 v')) (wc d' u' p' k' b' n' s' v') :=
  (((((((h.put (c' := wc d' u p k b n s v) 0 _ rfl).put (c' := wc d' u' p k b n s v) 1 _ rfl).put (c' := wc d' u' p' k b n s v) 2 _ rfl).put (c' := wc d' u' p' k' b n s v) 3 _ rfl).put (c' := wc d' u' p' k' b' n s v) 4 _ rfl).put (c' := wc d' u' p' k' b' n' s v) 5 _ rfl).put (c' := wc d' u' p' k' b' n' s' v) 6 _ rfl).put 7 _ rfl
theorem S8.of {B : Nat} {w W : World} {d : Bool} {u : Int} {p : ByteArray} {k : Int} {b : Bool} {n : Int} {s : ByteArray} {v : Int} (h : BW B w W (wc d u p k b n s v)) : S8 B d u p k b n s v W :=
  ⟨cell_of h.hw, cell_of h.hw, cell_of h.hw, cell_of h.hw, cell_of h.hw, cell_of h.hw, cell_of h.hw, cell_of h.hw⟩
theorem words_len {s : ByteArray} {w0 w1 w2 w3 : List UInt8} (h : spl 3 s.data.toList = [w0, w1, w2, w3]) : (⟨w1.toArray⟩ : ByteArray).size ≤ s.size ∧ (⟨w3.toArray⟩ : ByteArray).size ≤ s.size := by
  have e := congrArg List.length (spl_four h)
  have e1 : s.data.toList.length = s.size := rfl
  have e2 : (⟨w1.toArray⟩ : ByteArray).size = w1.length := List.size_toArray
  have e3 : (⟨w3.toArray⟩ : ByteArray).size = w3.length := List.size_toArray
  simp only [List.length_append, List.length_cons] at e
  omega
theorem okT_pos {l : List UInt8} {k : Int} {b : Bool} {n : Int} {s : ByteArray} {u e : Int} (h : okT l k b n s u e) : 0 ≤ u := by
  rcases h with ⟨_, _, r, _⟩ | ⟨_, _, _, _, _, rfl, _⟩
  · exact r.2.2.1
  · omega
theorem fst3_zero {a b c : Int} (h : fstE [a, b, c] = 0) : a = 0 ∧ b = 0 ∧ c = 0 := by
  simp only [fstE] at h
  by_cases h1 : a = 0
  · rw [if_pos h1] at h
    by_cases h2 : b = 0
    · rw [if_pos h2] at h
      by_cases h3 : c = 0
      · exact ⟨h1, h2, h3⟩
      · rw [if_neg h3] at h; exact absurd h h3
    · rw [if_neg h2] at h; exact absurd h h2
  · rw [if_neg h1] at h; exact absurd h h1
set_option maxHeartbeats 4000000 in
set_option maxRecDepth 100000 in
theorem readText_w (s : ByteArray) (hm : s.size ≤ 150000000000000) (w : World) (hG : Gl w) : Calls Tryz.prog 8 #[.string s] w fun e w' => txtR s.data.toList w e w' := by
  have hC := hide (fun W => splitN_any s hm W)
  have Hl := hide (show s.data.toList.length = s.size from rfl)
  go_enter Tryz.func8, Tryz.ntmps8
  go_wp2_with fail
  have h0 := BW.new w (wc false 0 ⟨#[]⟩ 0 false 0 ⟨#[]⟩ 0)
  unfold wc at h0
  refine (hC.out _).mono ?_
  rintro e w1 ⟨c, rfl, hb1, hrow⟩
  have h1 : BW w.heap.size w w1 (wc false 0 ⟨#[]⟩ 0 false 0 ⟨#[]⟩ 0) := h0.next hb1
  obtain ⟨g, hg⟩ : ∃ g, (w.alloc (.cells #[.bool false, .int .u64 0, .string ⟨#[]⟩, .int .u8 0, .bool false, .int .i64 0, .string ⟨#[]⟩, .int .u64 0] 29)).heap.size = g := ⟨_, rfl⟩
  rw [hg] at hrow ⊢
  obtain ⟨L, hL⟩ : ∃ L, spl (min 3 s.size) s.data.toList = L := ⟨_, rfl⟩
  rw [hL] at hrow ⊢
  have HG := hide (hG.next h1.bel')
  have H1 := hide h1
  clear hC h0 hb1 h1 hG hg
  generalize w.heap.size = B at *
  by_cases h4 : L.length < 4
  · obtain ⟨d0, d1, d2, d3, d4, d5, d6, d7⟩ := S8.of H1.out
    have g0 := frozen_of (i := 0) H1.out.hw
    have g1 := frozen_of (i := 1) H1.out.hw
    have g2 := frozen_of (i := 2) H1.out.hw
    have g3 := frozen_of (i := 3) H1.out.hw
    have g4 := frozen_of (i := 4) H1.out.hw
    have g5 := frozen_of (i := 5) H1.out.hw
    have g6 := frozen_of (i := 6) H1.out.hw
    have g7 := frozen_of (i := 7) H1.out.hw
    have hx : (L.length : Int) < 4 := by omega
    have Hno := hide (show noW s.data.toList from no_short (by rw [Hl.out, hL]; exact h4))
    clear hrow
    go_wp2_with fail
    have hz := H1.out.all false 0 ⟨#[]⟩ 0 false 0 ⟨#[]⟩ 0
    exact bodyPost_ret (res_w2 (cs := wc false 0 ⟨#[]⟩ 0 false 0 ⟨#[]⟩ 0) rfl hz.hw info29 _ (.int .i64 41) rfl rfl) rfl ⟨false, 0, ⟨#[]⟩, 0, false, 0, ⟨#[]⟩, 0, 41, rfl, hz.bel', ok_none _ Hno.out⟩
  · have hl4 : L.length = 4 := by have := spl_len (min 3 s.size) s.data.toList; rw [hL] at this; omega
    have hs3 : spl 3 s.data.toList = L := min_of (by rw [Hl.out]; exact hL) hl4
    match L, hl4 with
    | [w0, w1', w2', w3'], _ =>
    have r0 : w1.cell? ⟨g, 0, none⟩ = some (.string ⟨w0.toArray⟩) := hrow 0 (by simp)
    have r1 : w1.cell? ⟨g, 1, none⟩ = some (.string ⟨w1'.toArray⟩) := hrow 1 (by simp)
    have r2 : w1.cell? ⟨g, 2, none⟩ = some (.string ⟨w2'.toArray⟩) := hrow 2 (by simp)
    have r3 : w1.cell? ⟨g, 3, none⟩ = some (.string ⟨w3'.toArray⟩) := hrow 3 (by simp)
    have Hs := hide hs3
    have Hz := hide (words_len hs3)
    clear hrow hL hs3 h4
    by_cases k0 : w0 = [43]
    · subst k0
      go_wp2_with fail
      refine (readText_any ⟨w1'.toArray⟩ (Nat.le_trans Hz.out.1 hm) _ HG.out).mono ?_
      rintro e w2 ⟨ku, bu, nu, su, uu, eu, rfl, hb2, t1⟩
      have T1 := hide t1
      have q3 : (w2.alloc (.cells #[.int .u8 ku, .bool bu, .int .i64 nu, .string su, .int .u64 uu] 25)).cell? ⟨g, 3, none⟩ = some (.string ⟨w3'.toArray⟩) := (hb2.alloc _).cell r3
      clear t1
      unfold ev
      go_wp2_with fail
      refine (readText_any ⟨w3'.toArray⟩ (Nat.le_trans Hz.out.2 hm) _ (HG.out.next (hb2.alloc _))).mono ?_
      rintro e w3 ⟨k, b, n, t, v, ex, rfl, hb3, t3⟩
      have T3 := hide t3
      have hb4 : Bel w1 w3 := (hb2.alloc _).trans hb3
      have s1 : S5 w2.heap.size ku bu nu su uu w3 := (S5.first ku bu nu su uu w2).next hb3
      have hb5 : Bel w1 (w3.alloc (.cells #[.int .u8 k, .bool b, .int .i64 n, .string t, .int .u64 v] 25)) := hb4.alloc _
      have v0 := hb5.cell r0
      have v2 := hb5.cell r2
      obtain ⟨u0, u1, u2, u3, u4⟩ := s1.alloc (.cells #[.int .u8 k, .bool b, .int .i64 n, .string t, .int .u64 v] 25)
      obtain ⟨y0, y1, y2, y3, y4⟩ := S5.first k b n t v w3
      clear t3 q3 r0 r1 r2 r3
      unfold ev
      go_wp2_with fail
      have Hb := hide hb5
      have hG4 := hide (HG.out.next hb5)
      clear hb2 hb3 hb4 hb5 s1 u0 u1 u2 u3
      generalize w3.alloc (.cells #[.int .u8 k, .bool b, .int .i64 n, .string t, .int .u64 v] 25) = W4 at *
      generalize w2.heap.size = Bu at *
      generalize w3.heap.size = Bv at *
      have hz : Bel W4 (W4.alloc (.cells #[.bool false, .int .u64 0, .string ⟨#[]⟩, .int .u8 0, .bool false, .int .i64 0, .string ⟨#[]⟩, .int .u64 0] 29)).drew := ((Bel.refl W4).alloc _).drew
      have v0' := hz.cell v0
      have v2' := hz.cell v2
      have u4' := hz.cell u4
      have y0' := hz.cell y0
      have y1' := hz.cell y1
      have y2' := hz.cell y2
      have y3' := hz.cell y3
      have y4' := hz.cell y4
      clear hz
      go_region
      have h5 := hide (S8.new false uu ⟨w2'.toArray⟩ k b n t v W4).drew
      have hb5 := hide (show Bel w1 (W4.alloc (.cells #[.bool false, .int .u64 uu, .string ⟨w2'.toArray⟩, .int .u8 k, .bool b, .int .i64 n, .string t, .int .u64 v] 29)).drew from (Hb.out.alloc _).drew)
      clear v0 v2 u4 y0 y1 y2 y3 y4 v0' v2' u4' y0' y1' y2' y3' y4' Hb
      generalize (W4.alloc (.cells #[.bool false, .int .u64 uu, .string ⟨w2'.toArray⟩, .int .u8 k, .bool b, .int .i64 n, .string t, .int .u64 v] 29)).drew = W5 at *
      generalize W4.heap.size = Bw at *
      obtain ⟨c0, c1, c2, c3, c4, c5, c6, c7⟩ := h5.out
      go_wp2_with fail
      obtain ⟨m, hm2⟩ : ∃ m : Nat, uu = (m : Int) := ⟨uu.toNat, by have := okT_pos T1.out; omega⟩
      subst hm2
      refine (may_any (m : Int) ⟨w2'.toArray⟩ k b n t v (by omega) _).mono ?_
      rintro e w6 ⟨rfl, hb6⟩
      have h6 := hide (h5.out.next hb6)
      have Hb6 := hide (hb5.out.trans hb6)
      clear c0 c1 c2 c3 c4 c5 c6 c7 h5 hb5 hb6
      go_wp2_with fail
      refine (first3 _ _ _ _).mono ?_
      rintro e w7 ⟨rfl, rfl⟩
      have h7 := h6.out.next ((Bel.refl w6).alloc (.cells #[.int .i64 eu, .int .i64 ex, .int .i64 (eT (m : Int) ⟨w2'.toArray⟩ k b n t v)] 30))
      have h8 := H1.out.next (Hb6.out.alloc (.cells #[.int .i64 eu, .int .i64 ex, .int .i64 (eT (m : Int) ⟨w2'.toArray⟩ k b n t v)] 30))
      clear h6 Hb6
      generalize World.alloc _ (.cells #[.int .i64 eu, .int .i64 ex, .int .i64 (eT (m : Int) ⟨w2'.toArray⟩ k b n t v)] 30) = W8 at *
      have H8 := hide h8
      obtain ⟨c0, c1, c2, c3, c4, c5, c6, c7⟩ := h7
      obtain ⟨d0, d1, d2, d3, d4, d5, d6, d7⟩ := S8.of h8
      have g0 := frozen_of (i := 0) h8.hw
      have g1 := frozen_of (i := 1) h8.hw
      have g2 := frozen_of (i := 2) h8.hw
      have g3 := frozen_of (i := 3) h8.hw
      have g4 := frozen_of (i := 4) h8.hw
      have g5 := frozen_of (i := 5) h8.hw
      have g6 := frozen_of (i := 6) h8.hw
      have g7 := frozen_of (i := 7) h8.hw
      clear h8
      by_cases hE : fstE [eu, ex, eT (m : Int) ⟨w2'.toArray⟩ k b n t v] = 0
      · have hE2 : (fstE [eu, ex, eT (m : Int) ⟨w2'.toArray⟩ k b n t v] != 0) = false := by rw [hE]; rfl
        obtain ⟨a1, a2, a3⟩ := fst3_zero hE
        have Hok := hide (ok_yes Hs.out (d := false) rfl (by rw [a1] at T1; exact T1.out) (p := ⟨w2'.toArray⟩) rfl (by rw [a2] at T3; exact T3.out) a3)
        clear hE a1 a2 a3
        go_wp2_with fail
        have hz := H8.out.all false (m : Int) ⟨w2'.toArray⟩ k b n t v
        exact bodyPost_ret (res_w2 (cs := wc false (m : Int) ⟨w2'.toArray⟩ k b n t v) rfl hz.hw info29 _ (.int .i64 0) rfl rfl) rfl ⟨false, m, ⟨w2'.toArray⟩, k, b, n, t, v, 0, rfl, hz.bel', Hok.out⟩
      · have hE2 : (fstE [eu, ex, eT (m : Int) ⟨w2'.toArray⟩ k b n t v] != 0) = true := by simpa using hE
        have Hno := hide (ok_no Hs.out T1.out (p := ⟨w2'.toArray⟩) rfl T3.out hE)
        clear hE
        go_wp2_with fail
        have hz := H8.out.all false 0 ⟨#[]⟩ 0 false 0 ⟨#[]⟩ 0
        exact bodyPost_ret (res_w2 (cs := wc false 0 ⟨#[]⟩ 0 false 0 ⟨#[]⟩ 0) rfl hz.hw info29 _ (.int .i64 41) rfl rfl) rfl ⟨false, 0, ⟨#[]⟩, 0, false, 0, ⟨#[]⟩, 0, 41, rfl, hz.bel', ok_none _ Hno.out⟩
    · by_cases k1 : w0 = [45]
      · subst k1
        go_wp2_with fail
        refine (readText_any ⟨w1'.toArray⟩ (Nat.le_trans Hz.out.1 hm) _ HG.out).mono ?_
        rintro e w2 ⟨ku, bu, nu, su, uu, eu, rfl, hb2, t1⟩
        have T1 := hide t1
        have q3 : (w2.alloc (.cells #[.int .u8 ku, .bool bu, .int .i64 nu, .string su, .int .u64 uu] 25)).cell? ⟨g, 3, none⟩ = some (.string ⟨w3'.toArray⟩) := (hb2.alloc _).cell r3
        clear t1
        unfold ev
        go_wp2_with fail
        refine (readText_any ⟨w3'.toArray⟩ (Nat.le_trans Hz.out.2 hm) _ (HG.out.next (hb2.alloc _))).mono ?_
        rintro e w3 ⟨k, b, n, t, v, ex, rfl, hb3, t3⟩
        have T3 := hide t3
        have hb4 : Bel w1 w3 := (hb2.alloc _).trans hb3
        have s1 : S5 w2.heap.size ku bu nu su uu w3 := (S5.first ku bu nu su uu w2).next hb3
        have hb5 : Bel w1 (w3.alloc (.cells #[.int .u8 k, .bool b, .int .i64 n, .string t, .int .u64 v] 25)) := hb4.alloc _
        have v0 := hb5.cell r0
        have v2 := hb5.cell r2
        obtain ⟨u0, u1, u2, u3, u4⟩ := s1.alloc (.cells #[.int .u8 k, .bool b, .int .i64 n, .string t, .int .u64 v] 25)
        obtain ⟨y0, y1, y2, y3, y4⟩ := S5.first k b n t v w3
        clear t3 q3 r0 r1 r2 r3
        unfold ev
        go_wp2_with fail
        have Hb := hide hb5
        have hG4 := hide (HG.out.next hb5)
        clear hb2 hb3 hb4 hb5 s1 u0 u1 u2 u3
        generalize w3.alloc (.cells #[.int .u8 k, .bool b, .int .i64 n, .string t, .int .u64 v] 25) = W4 at *
        generalize w2.heap.size = Bu at *
        generalize w3.heap.size = Bv at *
        have hz : Bel W4 (W4.alloc (.cells #[.bool false, .int .u64 0, .string ⟨#[]⟩, .int .u8 0, .bool false, .int .i64 0, .string ⟨#[]⟩, .int .u64 0] 29)).drew := ((Bel.refl W4).alloc _).drew
        have v0' := hz.cell v0
        have v2' := hz.cell v2
        have u4' := hz.cell u4
        have y0' := hz.cell y0
        have y1' := hz.cell y1
        have y2' := hz.cell y2
        have y3' := hz.cell y3
        have y4' := hz.cell y4
        clear hz
        go_region
        have h5 := hide (S8.new true uu ⟨w2'.toArray⟩ k b n t v W4).drew
        have hb5 := hide (show Bel w1 (W4.alloc (.cells #[.bool true, .int .u64 uu, .string ⟨w2'.toArray⟩, .int .u8 k, .bool b, .int .i64 n, .string t, .int .u64 v] 29)).drew from (Hb.out.alloc _).drew)
        clear v0 v2 u4 y0 y1 y2 y3 y4 v0' v2' u4' y0' y1' y2' y3' y4' Hb
        generalize (W4.alloc (.cells #[.bool true, .int .u64 uu, .string ⟨w2'.toArray⟩, .int .u8 k, .bool b, .int .i64 n, .string t, .int .u64 v] 29)).drew = W5 at *
        generalize W4.heap.size = Bw at *
        obtain ⟨c0, c1, c2, c3, c4, c5, c6, c7⟩ := h5.out
        go_wp2_with fail
        obtain ⟨m, hm2⟩ : ∃ m : Nat, uu = (m : Int) := ⟨uu.toNat, by have := okT_pos T1.out; omega⟩
        subst hm2
        refine (may_any (m : Int) ⟨w2'.toArray⟩ k b n t v (by omega) _).mono ?_
        rintro e w6 ⟨rfl, hb6⟩
        have h6 := hide (h5.out.next hb6)
        have Hb6 := hide (hb5.out.trans hb6)
        clear c0 c1 c2 c3 c4 c5 c6 c7 h5 hb5 hb6
        go_wp2_with fail
        refine (first3 _ _ _ _).mono ?_
        rintro e w7 ⟨rfl, rfl⟩
        have h7 := h6.out.next ((Bel.refl w6).alloc (.cells #[.int .i64 eu, .int .i64 ex, .int .i64 (eT (m : Int) ⟨w2'.toArray⟩ k b n t v)] 30))
        have h8 := H1.out.next (Hb6.out.alloc (.cells #[.int .i64 eu, .int .i64 ex, .int .i64 (eT (m : Int) ⟨w2'.toArray⟩ k b n t v)] 30))
        clear h6 Hb6
        generalize World.alloc _ (.cells #[.int .i64 eu, .int .i64 ex, .int .i64 (eT (m : Int) ⟨w2'.toArray⟩ k b n t v)] 30) = W8 at *
        have H8 := hide h8
        obtain ⟨c0, c1, c2, c3, c4, c5, c6, c7⟩ := h7
        obtain ⟨d0, d1, d2, d3, d4, d5, d6, d7⟩ := S8.of h8
        have g0 := frozen_of (i := 0) h8.hw
        have g1 := frozen_of (i := 1) h8.hw
        have g2 := frozen_of (i := 2) h8.hw
        have g3 := frozen_of (i := 3) h8.hw
        have g4 := frozen_of (i := 4) h8.hw
        have g5 := frozen_of (i := 5) h8.hw
        have g6 := frozen_of (i := 6) h8.hw
        have g7 := frozen_of (i := 7) h8.hw
        clear h8
        by_cases hE : fstE [eu, ex, eT (m : Int) ⟨w2'.toArray⟩ k b n t v] = 0
        · have hE2 : (fstE [eu, ex, eT (m : Int) ⟨w2'.toArray⟩ k b n t v] != 0) = false := by rw [hE]; rfl
          obtain ⟨a1, a2, a3⟩ := fst3_zero hE
          have Hok := hide (ok_yes Hs.out (d := true) rfl (by rw [a1] at T1; exact T1.out) (p := ⟨w2'.toArray⟩) rfl (by rw [a2] at T3; exact T3.out) a3)
          clear hE a1 a2 a3
          go_wp2_with fail
          have hz := H8.out.all true (m : Int) ⟨w2'.toArray⟩ k b n t v
          exact bodyPost_ret (res_w2 (cs := wc true (m : Int) ⟨w2'.toArray⟩ k b n t v) rfl hz.hw info29 _ (.int .i64 0) rfl rfl) rfl ⟨true, m, ⟨w2'.toArray⟩, k, b, n, t, v, 0, rfl, hz.bel', Hok.out⟩
        · have hE2 : (fstE [eu, ex, eT (m : Int) ⟨w2'.toArray⟩ k b n t v] != 0) = true := by simpa using hE
          have Hno := hide (ok_no Hs.out T1.out (p := ⟨w2'.toArray⟩) rfl T3.out hE)
          clear hE
          go_wp2_with fail
          have hz := H8.out.all false 0 ⟨#[]⟩ 0 false 0 ⟨#[]⟩ 0
          exact bodyPost_ret (res_w2 (cs := wc false 0 ⟨#[]⟩ 0 false 0 ⟨#[]⟩ 0) rfl hz.hw info29 _ (.int .i64 41) rfl rfl) rfl ⟨false, 0, ⟨#[]⟩, 0, false, 0, ⟨#[]⟩, 0, 41, rfl, hz.bel', ok_none _ Hno.out⟩
      · have Hno := hide (no_sign Hs.out k0 k1)
        obtain ⟨x0, hx0⟩ : ∃ x0 : ByteArray, ⟨w0.toArray⟩ = x0 := ⟨_, rfl⟩
        rw [hx0] at r0
        have n1 : (x0.toList == [43]) = false := by rw [beq_eq_false_iff_ne, ByteArray.toList_eq, ← hx0]; simpa using k0
        have n2 : (x0.toList == [45]) = false := by rw [beq_eq_false_iff_ne, ByteArray.toList_eq, ← hx0]; simpa using k1
        clear k0 k1 hx0
        obtain ⟨d0, d1, d2, d3, d4, d5, d6, d7⟩ := S8.of H1.out
        have g0 := frozen_of (i := 0) H1.out.hw
        have g1 := frozen_of (i := 1) H1.out.hw
        have g2 := frozen_of (i := 2) H1.out.hw
        have g3 := frozen_of (i := 3) H1.out.hw
        have g4 := frozen_of (i := 4) H1.out.hw
        have g5 := frozen_of (i := 5) H1.out.hw
        have g6 := frozen_of (i := 6) H1.out.hw
        have g7 := frozen_of (i := 7) H1.out.hw
        go_wp2_with fail
        have hz := H1.out.all false 0 ⟨#[]⟩ 0 false 0 ⟨#[]⟩ 0
        exact bodyPost_ret (res_w2 (cs := wc false 0 ⟨#[]⟩ 0 false 0 ⟨#[]⟩ 0) rfl hz.hw info29 _ (.int .i64 41) rfl rfl) rfl ⟨false, 0, ⟨#[]⟩, 0, false, 0, ⟨#[]⟩, 0, 41, rfl, hz.bel', ok_none _ Hno.out⟩
end Go.Proofs.YtgghcfmpfneehaaGreatDoor
