/- What the program's Read returns: for every bytes. -/
import Derived.Test.YtgghcfmpfneehaaGreatDoorRdC
namespace Go.Proofs.YtgghcfmpfneehaaGreatDoor
open Go.RowKit
theorem info29 : (Tryz.prog.info? 29).map (·.size) = some 8 := by kernel_rfl
/-- All cells are laid anew, and no rest is left. -/
theorem RW.zero {B : Nat} {w W : World} {d : Bool} {u : Int} {p : ByteArray} {k : Int} {b : Bool} {n : Int} {s : ByteArray} {v : Int} {r : ByteArray} (h : RW B w W d u p k b n s v r) (d' : Bool) (u' : Int) (p' : ByteArray) (k' : Int) (b' : Bool) (n' : Int) (s' : ByteArray) (v' : Int) (r' : ByteArray) :
    RW B w (((((((((W.setCell ⟨B, 0, none⟩ (.bool d')).setCell ⟨B, 1, none⟩ (.int .u64 u')).setCell ⟨B, 2, none⟩ (.string p')).setCell ⟨B, 3, none⟩ (.int .u8 k')).setCell ⟨B, 4, none⟩ (.bool b')).setCell ⟨B, 5, none⟩ (.int .i64 n')).setCell ⟨B, 6, none⟩ (.string s')).setCell ⟨B, 7, none⟩ (.int .u64 v')).setCell ⟨B + 1, 0, none⟩ (.string r')) d' u' p' k' b' n' s' v' r' :=
  ((((((((h.put (d' := d') 0 _ rfl).put (u' := u') 1 _ rfl).put (p' := p') 2 _ rfl).put (k' := k') 3 _ rfl).put (b' := b') 4 _ rfl).put (n' := n') 5 _ rfl).put (s' := s') 6 _ rfl).put (v' := v') 7 _ rfl).rest r'
theorem RW.end {B : Nat} {w W : World} {d : Bool} {u : Int} {p : ByteArray} {k : Int} {b : Bool} {n : Int} {s : ByteArray} {v : Int} {r : ByteArray} (h : RW B w W d u p k b n s v r) (hB : B = w.heap.size) : Bel w W := bel_of hB h.bel
theorem inv_hs {s : ByteArray} {B : Nat} {w W : World} {k : Nat} (hk : k ≤ 5) (h : inv s B w W k) : W.heap[B + 1 + 1]? = some (.cells (stp B) 57) := by
  match k, hk, h with
  | 0, _, h => exact h.hs
  | 1, _, ⟨_, _, h, _⟩ => exact h.hs
  | 2, _, ⟨_, _, _, h, _⟩ => exact h.hs
  | 3, _, ⟨_, _, _, _, h, _⟩ => exact h.hs
  | 4, _, ⟨_, _, _, _, _, h, _⟩ => exact h.hs
  | 5, _, ⟨_, _, _, _, _, h, _⟩ => exact h.hs
set_option maxHeartbeats 1000000 in
set_option maxRecDepth 100000 in
theorem read_w (s : ByteArray) (hm : s.size ≤ 150000000000000) (w : World) : Calls Tryz.prog 6 #[.string s] w fun e w' => e = .returned (av (rWr s)) ∧ Bel w w' := by
  go_enter Tryz.func6, Tryz.ntmps6
  go_wp2_with fail
  have h0 : RW w.heap.size w (((w.alloc (.cells #[.bool false, .int .u64 0, .string ⟨#[]⟩, .int .u8 0, .bool false, .int .i64 0, .string ⟨#[]⟩, .int .u64 0] 29)).alloc (.cells #[.string s] 9)).alloc (.cells (stp w.heap.size) 57)) false 0 ⟨#[]⟩ 0 false 0 ⟨#[]⟩ 0 s := by
    refine ⟨?_, ?_, ?_, (((Below.refl _ _).alloc (Nat.le_refl _) _).alloc (by simp) _).alloc (by simp; omega) _⟩
    · have h1 := heap_alloc_new w (.cells (wc false 0 ⟨#[]⟩ 0 false 0 ⟨#[]⟩ 0) 29)
      exact (((Bel.refl _).alloc _).alloc _).row h1
    · have h1 := heap_alloc_new (w.alloc (.cells (wc false 0 ⟨#[]⟩ 0 false 0 ⟨#[]⟩ 0) 29)) (.cells #[.string s] 9)
      rw [show (w.alloc (.cells (wc false 0 ⟨#[]⟩ 0 false 0 ⟨#[]⟩ 0) 29)).heap.size = w.heap.size + 1 by simp] at h1
      exact ((Bel.refl _).alloc _).row h1
    · have h1 := heap_alloc_new ((w.alloc (.cells (wc false 0 ⟨#[]⟩ 0 false 0 ⟨#[]⟩ 0) 29)).alloc (.cells #[.string s] 9)) (.cells (stp w.heap.size) 57)
      rw [show ((w.alloc (.cells (wc false 0 ⟨#[]⟩ 0 false 0 ⟨#[]⟩ 0) 29)).alloc (.cells #[.string s] 9)).heap.size = w.heap.size + 1 + 1 by simp] at h1
      exact h1
  obtain ⟨B, hB⟩ : ∃ B, w.heap.size = B := ⟨_, rfl⟩
  unfold stp at h0
  rw [hB] at h0 ⊢
  have HB := hide hB.symm
  clear hB
  generalize ((w.alloc (.cells #[.bool false, .int .u64 0, .string ⟨#[]⟩, .int .u8 0, .bool false, .int .i64 0, .string ⟨#[]⟩, .int .u64 0] 29)).alloc (.cells #[.string s] 9)).alloc _ = W0 at h0 ⊢
  go_loopw [7, 8, 18] (fun _ _ vi W => ∃ k : Nat, k ≤ 5 ∧ vi = .int .i64 k ∧ Hid (inv s B w W k)) (fun _ _ vi _ => 5 - (intOf vi).toNat)
  case atStart => exact ⟨0, by omega, rfl, hide h0⟩
  case round =>
    obtain ⟨k, hk, rfl, HI⟩ := hrel
    rcases k with _ | _ | _ | _ | _ | k
    · have hcell : wr.cell? ⟨B + 1 + 1, 0, none⟩ = some (.func (.func 20) #[] #[.pointer (some ⟨B + 1, 0, none⟩), .pointer (some ⟨B, 0, none⟩)]) := cell_of (inv_hs (by omega) HI.out)
      obtain ⟨f, cs, he, hC⟩ := call_step s hm B w wr 0 (by omega) HI.out
      have he2 : some (Value.func (.func 20) #[] #[.pointer (some ⟨B + 1, 0, none⟩), .pointer (some ⟨B, 0, none⟩)]) = some (Value.func (.func f) #[] cs) := he
      injection he2 with he2
      injection he2 with h1 _ h2
      injection h1 with h1
      subst h1 h2
      have HC := hide hC
      clear hC he HI
      go_wp2_with fail
      refine HC.out.mono ?_
      rintro e w1 ⟨x, rfl, hst⟩
      rcases hst with ⟨rfl, hi⟩ | ⟨hx, hbad, d, u, p, k, b, n, s2, v, r, hR⟩
      · have Hi := hide hi
        clear hi
        go_wp2_with fail
        go_round
        case rel => exact ⟨1, by omega, rfl, Hi⟩
        case measure => simp [intOf]
      · have hx2 : (x != 0) = true := by simpa using hx
        obtain ⟨d0, d1, d2, d3, d4, d5, d6, d7⟩ := hR.s8
        have c1 : w1.cell? ⟨B + 1, 0, none⟩ = some (.string r) := cell_of hR.hr
        have g0 := frozen_of (i := 0) hR.hw
        have g1 := frozen_of (i := 1) hR.hw
        have g2 := frozen_of (i := 2) hR.hw
        have g3 := frozen_of (i := 3) hR.hw
        have g4 := frozen_of (i := 4) hR.hw
        have g5 := frozen_of (i := 5) hR.hw
        have g6 := frozen_of (i := 6) hR.hw
        have g7 := frozen_of (i := 7) hR.hw
        have e0 := frozen_of (i := 0) hR.hr
        have HR := hide hR
        have Hbad := hide hbad
        clear hR hbad hx
        go_wp2_with fail
        have hz := HR.out.zero false 0 ⟨#[]⟩ 0 false 0 ⟨#[]⟩ 0 ⟨#[]⟩
        rw [Hbad.out]
        exact bodyPost_ret (res_w (cs := wc false 0 ⟨#[]⟩ 0 false 0 ⟨#[]⟩ 0) (r := .string ⟨#[]⟩) rfl hz.hw hz.hr info29 _ (.int .i64 x) rfl rfl rfl) rfl ⟨rfl, hz.end HB.out⟩
    · have hcell : wr.cell? ⟨B + 1 + 1, 1, none⟩ = some (.func (.func 22) #[] #[.pointer (some ⟨B + 1, 0, none⟩), .pointer (some ⟨B, 0, none⟩)]) := cell_of (inv_hs (by omega) HI.out)
      obtain ⟨f, cs, he, hC⟩ := call_step s hm B w wr 1 (by omega) HI.out
      have he2 : some (Value.func (.func 22) #[] #[.pointer (some ⟨B + 1, 0, none⟩), .pointer (some ⟨B, 0, none⟩)]) = some (Value.func (.func f) #[] cs) := he
      injection he2 with he2
      injection he2 with h1 _ h2
      injection h1 with h1
      subst h1 h2
      have HC := hide hC
      clear hC he HI
      go_wp2_with fail
      refine HC.out.mono ?_
      rintro e w1 ⟨x, rfl, hst⟩
      rcases hst with ⟨rfl, hi⟩ | ⟨hx, hbad, d, u, p, k, b, n, s2, v, r, hR⟩
      · have Hi := hide hi
        clear hi
        go_wp2_with fail
        go_round
        case rel => exact ⟨2, by omega, rfl, Hi⟩
        case measure => simp [intOf]
      · have hx2 : (x != 0) = true := by simpa using hx
        obtain ⟨d0, d1, d2, d3, d4, d5, d6, d7⟩ := hR.s8
        have c1 : w1.cell? ⟨B + 1, 0, none⟩ = some (.string r) := cell_of hR.hr
        have g0 := frozen_of (i := 0) hR.hw
        have g1 := frozen_of (i := 1) hR.hw
        have g2 := frozen_of (i := 2) hR.hw
        have g3 := frozen_of (i := 3) hR.hw
        have g4 := frozen_of (i := 4) hR.hw
        have g5 := frozen_of (i := 5) hR.hw
        have g6 := frozen_of (i := 6) hR.hw
        have g7 := frozen_of (i := 7) hR.hw
        have e0 := frozen_of (i := 0) hR.hr
        have HR := hide hR
        have Hbad := hide hbad
        clear hR hbad hx
        go_wp2_with fail
        have hz := HR.out.zero false 0 ⟨#[]⟩ 0 false 0 ⟨#[]⟩ 0 ⟨#[]⟩
        rw [Hbad.out]
        exact bodyPost_ret (res_w (cs := wc false 0 ⟨#[]⟩ 0 false 0 ⟨#[]⟩ 0) (r := .string ⟨#[]⟩) rfl hz.hw hz.hr info29 _ (.int .i64 x) rfl rfl rfl) rfl ⟨rfl, hz.end HB.out⟩
    · have hcell : wr.cell? ⟨B + 1 + 1, 2, none⟩ = some (.func (.func 24) #[] #[.pointer (some ⟨B + 1, 0, none⟩), .pointer (some ⟨B, 0, none⟩)]) := cell_of (inv_hs (by omega) HI.out)
      obtain ⟨f, cs, he, hC⟩ := call_step s hm B w wr 2 (by omega) HI.out
      have he2 : some (Value.func (.func 24) #[] #[.pointer (some ⟨B + 1, 0, none⟩), .pointer (some ⟨B, 0, none⟩)]) = some (Value.func (.func f) #[] cs) := he
      injection he2 with he2
      injection he2 with h1 _ h2
      injection h1 with h1
      subst h1 h2
      have HC := hide hC
      clear hC he HI
      go_wp2_with fail
      refine HC.out.mono ?_
      rintro e w1 ⟨x, rfl, hst⟩
      rcases hst with ⟨rfl, hi⟩ | ⟨hx, hbad, d, u, p, k, b, n, s2, v, r, hR⟩
      · have Hi := hide hi
        clear hi
        go_wp2_with fail
        go_round
        case rel => exact ⟨3, by omega, rfl, Hi⟩
        case measure => simp [intOf]
      · have hx2 : (x != 0) = true := by simpa using hx
        obtain ⟨d0, d1, d2, d3, d4, d5, d6, d7⟩ := hR.s8
        have c1 : w1.cell? ⟨B + 1, 0, none⟩ = some (.string r) := cell_of hR.hr
        have g0 := frozen_of (i := 0) hR.hw
        have g1 := frozen_of (i := 1) hR.hw
        have g2 := frozen_of (i := 2) hR.hw
        have g3 := frozen_of (i := 3) hR.hw
        have g4 := frozen_of (i := 4) hR.hw
        have g5 := frozen_of (i := 5) hR.hw
        have g6 := frozen_of (i := 6) hR.hw
        have g7 := frozen_of (i := 7) hR.hw
        have e0 := frozen_of (i := 0) hR.hr
        have HR := hide hR
        have Hbad := hide hbad
        clear hR hbad hx
        go_wp2_with fail
        have hz := HR.out.zero false 0 ⟨#[]⟩ 0 false 0 ⟨#[]⟩ 0 ⟨#[]⟩
        rw [Hbad.out]
        exact bodyPost_ret (res_w (cs := wc false 0 ⟨#[]⟩ 0 false 0 ⟨#[]⟩ 0) (r := .string ⟨#[]⟩) rfl hz.hw hz.hr info29 _ (.int .i64 x) rfl rfl rfl) rfl ⟨rfl, hz.end HB.out⟩
    · have hcell : wr.cell? ⟨B + 1 + 1, 3, none⟩ = some (.func (.func 26) #[] #[.pointer (some ⟨B + 1, 0, none⟩), .pointer (some ⟨B, 0, none⟩)]) := cell_of (inv_hs (by omega) HI.out)
      obtain ⟨f, cs, he, hC⟩ := call_step s hm B w wr 3 (by omega) HI.out
      have he2 : some (Value.func (.func 26) #[] #[.pointer (some ⟨B + 1, 0, none⟩), .pointer (some ⟨B, 0, none⟩)]) = some (Value.func (.func f) #[] cs) := he
      injection he2 with he2
      injection he2 with h1 _ h2
      injection h1 with h1
      subst h1 h2
      have HC := hide hC
      clear hC he HI
      go_wp2_with fail
      refine HC.out.mono ?_
      rintro e w1 ⟨x, rfl, hst⟩
      rcases hst with ⟨rfl, hi⟩ | ⟨hx, hbad, d, u, p, k, b, n, s2, v, r, hR⟩
      · have Hi := hide hi
        clear hi
        go_wp2_with fail
        go_round
        case rel => exact ⟨4, by omega, rfl, Hi⟩
        case measure => simp [intOf]
      · have hx2 : (x != 0) = true := by simpa using hx
        obtain ⟨d0, d1, d2, d3, d4, d5, d6, d7⟩ := hR.s8
        have c1 : w1.cell? ⟨B + 1, 0, none⟩ = some (.string r) := cell_of hR.hr
        have g0 := frozen_of (i := 0) hR.hw
        have g1 := frozen_of (i := 1) hR.hw
        have g2 := frozen_of (i := 2) hR.hw
        have g3 := frozen_of (i := 3) hR.hw
        have g4 := frozen_of (i := 4) hR.hw
        have g5 := frozen_of (i := 5) hR.hw
        have g6 := frozen_of (i := 6) hR.hw
        have g7 := frozen_of (i := 7) hR.hw
        have e0 := frozen_of (i := 0) hR.hr
        have HR := hide hR
        have Hbad := hide hbad
        clear hR hbad hx
        go_wp2_with fail
        have hz := HR.out.zero false 0 ⟨#[]⟩ 0 false 0 ⟨#[]⟩ 0 ⟨#[]⟩
        rw [Hbad.out]
        exact bodyPost_ret (res_w (cs := wc false 0 ⟨#[]⟩ 0 false 0 ⟨#[]⟩ 0) (r := .string ⟨#[]⟩) rfl hz.hw hz.hr info29 _ (.int .i64 x) rfl rfl rfl) rfl ⟨rfl, hz.end HB.out⟩
    · have hcell : wr.cell? ⟨B + 1 + 1, 4, none⟩ = some (.func (.func 28) #[] #[.pointer (some ⟨B, 0, none⟩)]) := cell_of (inv_hs (by omega) HI.out)
      obtain ⟨f, cs, he, hC⟩ := call_step s hm B w wr 4 (by omega) HI.out
      have he2 : some (Value.func (.func 28) #[] #[.pointer (some ⟨B, 0, none⟩)]) = some (Value.func (.func f) #[] cs) := he
      injection he2 with he2
      injection he2 with h1 _ h2
      injection h1 with h1
      subst h1 h2
      have HC := hide hC
      clear hC he HI
      go_wp2_with fail
      refine HC.out.mono ?_
      rintro e w1 ⟨x, rfl, hst⟩
      rcases hst with ⟨rfl, hi⟩ | ⟨hx, hbad, d, u, p, k, b, n, s2, v, r, hR⟩
      · have Hi := hide hi
        clear hi
        go_wp2_with fail
        go_round
        case rel => exact ⟨5, by omega, rfl, Hi⟩
        case measure => simp [intOf]
      · have hx2 : (x != 0) = true := by simpa using hx
        obtain ⟨d0, d1, d2, d3, d4, d5, d6, d7⟩ := hR.s8
        have c1 : w1.cell? ⟨B + 1, 0, none⟩ = some (.string r) := cell_of hR.hr
        have g0 := frozen_of (i := 0) hR.hw
        have g1 := frozen_of (i := 1) hR.hw
        have g2 := frozen_of (i := 2) hR.hw
        have g3 := frozen_of (i := 3) hR.hw
        have g4 := frozen_of (i := 4) hR.hw
        have g5 := frozen_of (i := 5) hR.hw
        have g6 := frozen_of (i := 6) hR.hw
        have g7 := frozen_of (i := 7) hR.hw
        have e0 := frozen_of (i := 0) hR.hr
        have HR := hide hR
        have Hbad := hide hbad
        clear hR hbad hx
        go_wp2_with fail
        have hz := HR.out.zero false 0 ⟨#[]⟩ 0 false 0 ⟨#[]⟩ 0 ⟨#[]⟩
        rw [Hbad.out]
        exact bodyPost_ret (res_w (cs := wc false 0 ⟨#[]⟩ 0 false 0 ⟨#[]⟩ 0) (r := .string ⟨#[]⟩) rfl hz.hw hz.hr info29 _ (.int .i64 x) rfl rfl rfl) rfl ⟨rfl, hz.end HB.out⟩
    · obtain rfl : k = 0 := by omega
      obtain ⟨d, u, p, x, r, hR, he⟩ := HI.out
      obtain ⟨k, b, n, s2, v⟩ := x
      simp only at hR
      obtain ⟨d0, d1, d2, d3, d4, d5, d6, d7⟩ := hR.s8
      have c1 : wr.cell? ⟨B + 1, 0, none⟩ = some (.string r) := cell_of hR.hr
      have g0 := frozen_of (i := 0) hR.hw
      have g1 := frozen_of (i := 1) hR.hw
      have g2 := frozen_of (i := 2) hR.hw
      have g3 := frozen_of (i := 3) hR.hw
      have g4 := frozen_of (i := 4) hR.hw
      have g5 := frozen_of (i := 5) hR.hw
      have g6 := frozen_of (i := 6) hR.hw
      have g7 := frozen_of (i := 7) hR.hw
      have e0 := frozen_of (i := 0) hR.hr
      have HR := hide hR
      have He := hide he
      clear hR he HI
      go_wp2_with fail
      have e1 : wr.drew.cell? ⟨B + 1, 0, none⟩ = some (.string r) := c1
      go_region
      all_goals go_wp2_with fail
      all_goals
        have hz := (HR.out.zero d (u : Int) p k b n s2 v r).next (Bel.refl _).drew
        rw [He.out]
        exact bodyPost_ret (res_w (B := B) (cs := wc d (u : Int) p k b n s2 v) (r := .string r) rfl hz.hw hz.hr info29 _ (.int .i64 0) rfl rfl rfl) rfl ⟨rfl, hz.end HB.out⟩
end Go.Proofs.YtgghcfmpfneehaaGreatDoor
