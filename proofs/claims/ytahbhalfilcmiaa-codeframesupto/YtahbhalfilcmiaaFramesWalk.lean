/- The walk of the law on frames: it returns true, for every text of at most 1048576 bytes. -/
import Derived.Test.YtahbhalfilcmiaaAlive
import Derived.Test.YtahbhalfilcmiaaWalksK
namespace Go.Proofs.Ytahbhalfilcmiaa
open Go.RowKit
theorem OS.form {w W : World} {v : Value} {l : List ByteArray} (h : OS w W v l) :
    (v = .slice none 0 0 ∧ l = []) ∨ ∃ g cap, v = .slice (some ⟨g, 0, none⟩) l.length cap ∧ g < W.heap.size ∧ ∀ i (hi : i < l.length), W.cell? ⟨g, i, none⟩ = some (.string l[i]) := by
  rcases h.own.2 with ⟨rfl, h0⟩ | ⟨g, cap, cur, rfl, _, hg, _, _, _, ht⟩
  · exact Or.inl ⟨rfl, List.eq_nil_of_length_eq_zero h0⟩
  · refine Or.inr ⟨g, cap, rfl, (Array.getElem?_eq_some_iff.1 hg).1, fun i hi => ?_⟩
    rw [cell_of_row _ _ _ _ _ _ hg]
    have e : (cur.toList.take (l.length * 1))[i]? = some (.string l[i]) := by rw [ht]; simp [hi]
    rw [List.getElem?_take_of_lt (by omega)] at e
    simpa using e
theorem fRun_len (f : Nat) (s : ByteArray) : ∀ (u : Nat) (l : List ByteArray), (fRun f s u l).1.length ≤ l.length + f := by
  induction f with
  | zero => intro u l; exact Nat.le_refl _
  | succ k ih =>
    intro u l
    rw [fRun]
    split
    · split
      · simp only; omega
      · have := ih (u + 8 + (rFrame (s.extract u s.size)).1.size) (l ++ [(rFrame (s.extract u s.size)).1])
        rw [List.length_append, List.length_singleton] at this
        omega
    · simp only; omega
theorem frames_walk (s : ByteArray) (hm : s.size ≤ 1048576) (w : World) :
    Calls Try.prog 5 #[.string s] w fun e w' => e = .returned (.bool true) ∧ Bel w w' := by
  have c30 := hide (fun W => frames_any s hm W)
  have c31 := hide (fun W => refFrames_any s hm W)
  have hL : (rFrames s).1.length ≤ 1048576 := by have := fRun_len s.size s 0 []; unfold rFrames; simp at this; omega
  generalize rFrames s = r at *
  obtain ⟨L, u, x⟩ := r
  simp only at c30 c31 hL
  clear hm
  go_enter Try.func5, Try.ntmps5
  go_wp2_with fail
  refine (c30.out _).mono ?_
  rintro e w1 ⟨v1, rfl, ho1⟩
  go_wp2_with fail
  refine (c31.out _).mono ?_
  rintro e w2 ⟨v2, rfl, ho2⟩
  have b2 : Bel w w2 := Bel.trans ho1.bel ho2.bel
  have p1 := (ho1.next ho2.bel).form
  have p2 := ho2.form
  have B2 := hide b2
  clear ho1 ho2 c30 c31 b2
  rcases p1 with ⟨rfl, rfl⟩ | ⟨g1, cap1, rfl, hg1, hc1⟩
  · rcases p2 with ⟨rfl, _⟩ | ⟨g2, cap2, rfl, hg2, hc2⟩
    · clear hL
      go_wp2_with fail
      go_loopw [9] (fun i W => i = .int .i64 0 ∧ Bel w2 W) (fun _ _ => 0)
      case atStart => exact ⟨rfl, Bel.refl _⟩
      case round =>
        obtain ⟨rfl, hb⟩ := hrel
        have Hb := hide hb
        clear hb
        go_wp2_with (go_at_call 9; refine (alive_any _).mono ?_; rintro e w3 ⟨rfl, b3⟩)
        go_ret
        exact ⟨rfl, (B2.out.trans Hb.out).trans b3⟩
    · clear hL hc2
      go_wp2_with fail
      go_loopw [9] (fun i W => i = .int .i64 0 ∧ Bel w2 W) (fun _ _ => 0)
      case atStart => exact ⟨rfl, Bel.refl _⟩
      case round =>
        obtain ⟨rfl, hb⟩ := hrel
        have Hb := hide hb
        clear hb
        go_wp2_with (go_at_call 9; refine (alive_any _).mono ?_; rintro e w3 ⟨rfl, b3⟩)
        go_ret
        exact ⟨rfl, (B2.out.trans Hb.out).trans b3⟩
  · rcases p2 with ⟨rfl, rfl⟩ | ⟨g2, cap2, rfl, hg2, hc2⟩
    · clear hL hc1
      go_wp2_with fail
      go_loopw [9] (fun i W => i = .int .i64 0 ∧ Bel w2 W) (fun _ _ => 0)
      case atStart => exact ⟨rfl, Bel.refl _⟩
      case round =>
        obtain ⟨rfl, hb⟩ := hrel
        have Hb := hide hb
        clear hb
        go_wp2_with (go_at_call 9; refine (alive_any _).mono ?_; rintro e w3 ⟨rfl, b3⟩)
        go_ret
        exact ⟨rfl, (B2.out.trans Hb.out).trans b3⟩
    · have Hc1 := hide hc1
      have Hc2 := hide hc2
      have G1 := hide hg1
      have G2 := hide hg2
      clear hc1 hc2 hg1 hg2
      go_wp2_with fail
      go_loopw [9] (fun i W => ∃ k : Nat, k ≤ L.length ∧ i = .int .i64 k ∧ Bel w2 W) (fun i _ => L.length - (intOf i).toNat)
      case atStart => exact ⟨0, Nat.zero_le _, rfl, Bel.refl _⟩
      case round =>
        obtain ⟨k, hk, rfl, hb⟩ := hrel
        have Hb := hide hb
        clear hb
        by_cases hlt : k < L.length
        · have d1 : wr.cell? ⟨g1, k, none⟩ = some (.string L[k]) := (Hb.out.cell (p := ⟨g1, k, none⟩) G1.out).trans (Hc1.out k hlt)
          have d2 : wr.cell? ⟨g2, k, none⟩ = some (.string L[k]) := (Hb.out.cell (p := ⟨g2, k, none⟩) G2.out).trans (Hc2.out k hlt)
          generalize L[k] = y at *
          have f1 : (0 : Int) ≤ (k : Int) := by omega
          have f2 : (k : Int) < (L.length : Int) := by omega
          go_wp2_with fail
          go_region_held3 (fun W => W.cell? ⟨g1, k, none⟩ = some (.string y) ∧ W.cell? ⟨g2, k, none⟩ = some (.string y)) (first | exact ⟨d1, d2⟩ | assumption) (fail)
          go_wp2_with fail
          go_roundw
          case rel => exact ⟨k + 1, by omega, by go_num, Hb.out.drew⟩
          case measure => simp [intOf]; omega
        · go_wp2_with (go_at_call 9; refine (alive_any _).mono ?_; rintro e w3 ⟨rfl, b3⟩)
          go_ret
          exact ⟨rfl, (B2.out.trans Hb.out).trans b3⟩
end Go.Proofs.Ytahbhalfilcmiaa
