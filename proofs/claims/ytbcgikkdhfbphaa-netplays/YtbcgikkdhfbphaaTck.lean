/- Tick, Draw, Parted, New. -/
import Derived.Test.YtbcgikkdhfbphaaDrw
namespace Go.Proofs.Ytbcgikkdhfbphaa
open Go.RowKit Go.Maps
theorem Nt.mach {C : Nat} {w : World} {p : Nat} {s : PN} {M : Nat → Prop} (h : Nt C w p s M) : ∃ bm cm, w.cell? ⟨p, 0, none⟩ = some (.slice (some ⟨bm, 0, none⟩) s.ms.length cm) ∧ MR w bm s.ms ∧ M bm ∧ p ≠ bm ∧ ∀ w' ms', ms'.length = s.ms.length → MR w' bm ms' → Ch (fun i => i = bm) w w' → Nt C w' p ⟨ms', s.L⟩ M := by
  obtain ⟨bm, cm, bl, n, f, h1, h2⟩ := h.co
  obtain ⟨cur, hr, _⟩ := h1.mr
  have hp : p ≠ bm := fun e => by have := h1.row; rw [e, hr] at this; cases this
  refine ⟨bm, cm, cell_of h1.row, h1.mr, h1.mm, hp, fun w' ms' hl hm' hc => ?_⟩
  have hb : ∀ i, i < w.heap.size → i ≠ bm → w'.heap[i]? = w.heap[i]? := fun i hi hn => hc.block i hi hn
  refine ⟨⟨bm, cm, bl, n, f, ⟨?_, by rw [hl]; exact h1.le, hm', ?_, h1.no, ?_, h1.ap, h1.mp, h1.mm, h1.ml⟩, h2⟩, fun i hi => Nat.lt_of_lt_of_le (h.ltM i hi) hc.size, by rw [hl]; exact h.one, by rw [hl]; exact h.few, fun x hx => ?_, h.len⟩
  · show w'.heap[p]? = some (.cells #[.slice (some ⟨bm, 0, none⟩) ms'.length cm, .map (some bl), .int .i64 s.L.length] 70)
    rw [hl, hb p (lt_of_some h1.row) hp]
    exact h1.row
  · exact h1.mg.at (hb bl h1.mg.lt (h1.mg.ne_row hr))
  · intro x v hx
    obtain ⟨g, off, cap, q1, q2, q3, q4⟩ := h1.yes x v hx
    refine ⟨g, off, cap, q1, q2.at (hb g q2.lt (fun e => ?_)), q3, q4⟩
    obtain ⟨c2, hr2, _⟩ := q2
    rw [e, hr] at hr2
    cases hr2
  · have := h.may x hx
    unfold PN.may at *
    rw [hl]
    exact this
theorem Ch.at_set {w : World} {b j : Nat} (v : Value) : Ch (fun i => i = b) w (w.setCell ⟨b, j, none⟩ v) := (Ch.refl (fun i => i = b) w).set (ad := ⟨b, j, none⟩) (Or.inl rfl) v
theorem set3_at (ms : List Mc) (j i : Nat) (m : Mc) (hi : i < (ms.set j m).length) : (ms.set j m)[i] = if i = j then m else ms[i]'(by simpa using hi) := by
  rw [List.getElem_set]
  by_cases e : j = i
  · simp [e]
  · simp [e, Ne.symm e]
theorem MR.set0 {w : World} {bm : Nat} {ms : List Mc} (h : MR w bm ms) {j : Nat} (hj : j < ms.length) (t : Int) : MR (w.setCell ⟨bm, j * 3, none⟩ (.int .i64 t)) bm (ms.set j (t, ms[j].2)) := by
  obtain ⟨cur, h1, h2, h3⟩ := h
  refine ⟨_, row_set h1, by simpa using h2, fun i hi => ?_⟩
  rw [set3_at ms j i _ hi]
  have hi' : i < ms.length := by simpa using hi
  obtain ⟨q0, q1, q2⟩ := h3 i hi'
  by_cases e : i = j
  · subst e
    rw [Array.getElem?_setIfInBounds_self_of_lt (by omega), Array.getElem?_setIfInBounds_ne (by omega), Array.getElem?_setIfInBounds_ne (by omega)]
    simp [q1, q2]
  · rw [Array.getElem?_setIfInBounds_ne (by omega), Array.getElem?_setIfInBounds_ne (by omega), Array.getElem?_setIfInBounds_ne (by omega), if_neg e]
    exact ⟨q0, q1, q2⟩
theorem MR.set1 {w : World} {bm : Nat} {ms : List Mc} (h : MR w bm ms) {j : Nat} (hj : j < ms.length) (t : Int) : MR (w.setCell ⟨bm, j * 3 + 1, none⟩ (.int .u64 t)) bm (ms.set j (ms[j].1, t, ms[j].2.2)) := by
  obtain ⟨cur, h1, h2, h3⟩ := h
  refine ⟨_, row_set h1, by simpa using h2, fun i hi => ?_⟩
  rw [set3_at ms j i _ hi]
  have hi' : i < ms.length := by simpa using hi
  obtain ⟨q0, q1, q2⟩ := h3 i hi'
  by_cases e : i = j
  · subst e
    rw [Array.getElem?_setIfInBounds_self_of_lt (by omega), Array.getElem?_setIfInBounds_ne (by omega), Array.getElem?_setIfInBounds_ne (by omega)]
    simp [q0, q2]
  · rw [Array.getElem?_setIfInBounds_ne (by omega), Array.getElem?_setIfInBounds_ne (by omega), Array.getElem?_setIfInBounds_ne (by omega), if_neg e]
    exact ⟨q0, q1, q2⟩
theorem MR.set2 {w : World} {bm : Nat} {ms : List Mc} (h : MR w bm ms) {j : Nat} (hj : j < ms.length) (t : Bool) : MR (w.setCell ⟨bm, j * 3 + 2, none⟩ (.bool t)) bm (ms.set j (ms[j].1, ms[j].2.1, t)) := by
  obtain ⟨cur, h1, h2, h3⟩ := h
  refine ⟨_, row_set h1, by simpa using h2, fun i hi => ?_⟩
  rw [set3_at ms j i _ hi]
  have hi' : i < ms.length := by simpa using hi
  obtain ⟨q0, q1, q2⟩ := h3 i hi'
  by_cases e : i = j
  · subst e
    rw [Array.getElem?_setIfInBounds_self_of_lt (by omega), Array.getElem?_setIfInBounds_ne (by omega), Array.getElem?_setIfInBounds_ne (by omega)]
    simp [q0, q1]
  · rw [Array.getElem?_setIfInBounds_ne (by omega), Array.getElem?_setIfInBounds_ne (by omega), Array.getElem?_setIfInBounds_ne (by omega), if_neg e]
    exact ⟨q0, q1, q2⟩
/-- A machine's tick. -/
def PN.tick (s : PN) (j : Nat) : PN := ⟨s.ms.set j (wrap64 ((s.ms[j]?.getD (0, 0, false)).1 + 1), (s.ms[j]?.getD (0, 0, false)).2), s.L⟩
set_option maxRecDepth 100000 in
theorem tick_yes {C : Nat} {w : World} {p : Nat} {s : PN} {M : Nat → Prop} (h : Nt C w p s M) {j : Nat} (hj : j < s.ms.length) : Calls Try.prog 24 #[.pointer (some ⟨p, 0, none⟩), .int .i64 ((j : Int) + 1)] w fun e w' => e = .returned (.tuple #[.int .i64 (wrap64 (s.ms[j].1 + 1)), .int .i64 0]) ∧ Aft C w p M (s.tick j) w' := by
  have HF := hide (fault1 h ((j : Int) + 1))
  rw [flt1_ok (PN.may.mk hj)] at HF
  have hbel := (Bel.refl w).alloc (.cells #[.int .i64 ((j : Int) + 1)] 3)
  obtain ⟨bm, cm, c0, hmr, hM, hne, hnew⟩ := (h.bel hbel).mach
  have hb0 := hide hbel
  have HA := hide (at_any p bm s.ms.length cm j _ c0 hj h.few)
  obtain ⟨c1, _, _⟩ := hmr.cells hj
  have hfr := hmr.free (j * 3)
  have hnt : Nt C ((w.alloc (.cells #[.int .i64 ((j : Int) + 1)] 3)).setCell ⟨bm, j * 3, none⟩ (.int .i64 (wrap64 (s.ms[j].1 + 1)))) p (s.tick j) M := by
    have := hnew _ _ (by simp) (hmr.set0 hj (wrap64 (s.ms[j].1 + 1))) (Ch.at_set _)
    unfold PN.tick
    rw [List.getElem?_eq_getElem hj]
    exact this
  have hch : Ch M w ((w.alloc (.cells #[.int .i64 ((j : Int) + 1)] 3)).setCell ⟨bm, j * 3, none⟩ (.int .i64 (wrap64 (s.ms[j].1 + 1)))) := (hbel.ch M).set (Or.inl hM) _
  have HT := hide (ticks_any hnt ((j : Int) + 1))
  have e1 : (s.tick j).ticks ((j : Int) + 1) = wrap64 (s.ms[j].1 + 1) := by
    rw [ticks_at (by unfold PN.tick; simpa using hj)]
    unfold PN.tick
    simp [List.getElem?_eq_getElem hj]
  rw [e1] at HT
  have HN := hide (And.intro hnt hch)
  generalize s.ms[j].1 = t at *
  clear h hmr hnew hnt hch e1 hbel
  go_enter Try.func24, Try.ntmps24
  go_wp2_with (first
    | (go_at_call 37; refine (unhide HF).mono ?_; rintro e w9 ⟨rfl, hw9⟩; rw [hw9]; clear hw9)
    | (go_at_call 46; refine (unhide HA).mono ?_; rintro e w9 ⟨rfl, hw9⟩; rw [hw9]; clear hw9)
    | (go_at_call 26; refine (unhide HT).mono ?_; rintro e w8 ⟨rfl, hb8⟩; have HB8 := hide hb8; clear hb8))
  go_ret2
  exact ⟨rfl, M, (unhide HN).1.bel (unhide HB8), fun i hi => Or.inl hi, (unhide HN).2.bel (unhide HB8)⟩
set_option maxRecDepth 100000 in
theorem tick_no {C : Nat} {w : World} {p : Nat} {s : PN} {M : Nat → Prop} (h : Nt C w p s M) {a : Int} (ha : ¬ s.may a) : Calls Try.prog 24 #[.pointer (some ⟨p, 0, none⟩), .int .i64 a] w fun e w' => e = .returned (.tuple #[.int .i64 0, .int .i64 2]) ∧ Bel w w' := by
  have HF := hide (fault1 h a)
  rw [flt1_no ha] at HF
  have HB := hide ((Bel.refl w).alloc (.cells #[.int .i64 a] 3))
  clear h ha
  go_enter Try.func24, Try.ntmps24
  go_wp2_with (first
    | (go_at_call 37; refine (unhide HF).mono ?_; rintro e w9 ⟨rfl, hw9⟩; rw [hw9]; clear hw9))
  go_ret2
  exact ⟨rfl, unhide HB⟩
/-- A machine's draw. -/
def PN.draw (s : PN) (j : Nat) : PN := ⟨s.ms.set j ((s.ms[j]?.getD (0, 0, false)).1, IntKind.u64.wrap ((s.ms[j]?.getD (0, 0, false)).2.1 + 11400714819323198485), (s.ms[j]?.getD (0, 0, false)).2.2), s.L⟩
def drw (st below : Int) : Int := mixd (IntKind.u64.wrap (st + 11400714819323198485)) % below
set_option maxRecDepth 100000 in
theorem draw_yes {C : Nat} {w : World} {p : Nat} {s : PN} {M : Nat → Prop} (h : Nt C w p s M) {j : Nat} (hj : j < s.ms.length) {below : Int} (hb : 1 ≤ below) (hb2 : below < 9223372036854775808) : Calls Try.prog 23 #[.pointer (some ⟨p, 0, none⟩), .int .i64 ((j : Int) + 1), .int .i64 below] w fun e w' => e = .returned (.tuple #[.int .i64 (drw s.ms[j].2.1 below), .int .i64 0]) ∧ Aft C w p M (s.draw j) w' := by
  have HF := hide (fault1 h ((j : Int) + 1))
  rw [flt1_ok (PN.may.mk hj)] at HF
  have hbel := (Bel.refl w).alloc (.cells #[.int .i64 ((j : Int) + 1)] 3)
  obtain ⟨bm, cm, c0, hmr, hM, hne, hnew⟩ := (h.bel hbel).mach
  have HA := hide (at_any p bm s.ms.length cm j _ c0 hj h.few)
  obtain ⟨_, c1, _⟩ := hmr.cells hj
  have hfr := hmr.free (j * 3 + 1)
  have hnt : Nt C ((w.alloc (.cells #[.int .i64 ((j : Int) + 1)] 3)).setCell ⟨bm, j * 3 + 1, none⟩ (.int .u64 (IntKind.u64.wrap (s.ms[j].2.1 + 11400714819323198485)))) p (s.draw j) M := by
    have := hnew _ _ (by simp) (hmr.set1 hj (IntKind.u64.wrap (s.ms[j].2.1 + 11400714819323198485))) (Ch.at_set _)
    unfold PN.draw
    rw [List.getElem?_eq_getElem hj]
    exact this
  have hch : Ch M w ((w.alloc (.cells #[.int .i64 ((j : Int) + 1)] 3)).setCell ⟨bm, j * 3 + 1, none⟩ (.int .u64 (IntKind.u64.wrap (s.ms[j].2.1 + 11400714819323198485)))) := (hbel.ch M).set (Or.inl hM) _
  have HN := hide (And.intro hnt hch)
  unfold drw
  generalize s.ms[j].2.1 = t at *
  have HX := hide (mixed_any (IntKind.u64.wrap (t + 11400714819323198485)))
  have hwb : IntKind.u64.wrap below = below := by rw [IntKind.wrap_u64]; omega
  have hm0 := mixd_in (IntKind.u64.wrap (t + 11400714819323198485))
  generalize hmx : mixd (IntKind.u64.wrap (t + 11400714819323198485)) = m at *
  have HE : Hid (wrap64 (m.tmod below) = m % below) := hide (by
    rw [Int.tmod_eq_emod_of_nonneg hm0.1]
    have h1 := Int.emod_nonneg m (show below ≠ 0 by omega)
    have h2 := Int.emod_lt_of_pos m (show 0 < below by omega)
    exact IntWalk.wrap64_in _ (by omega))
  clear h hmr hnew hnt hch hmx hm0 hbel
  go_enter Try.func23, Try.ntmps23
  go_wp2_with (first
    | (go_at_call 37; refine (unhide HF).mono ?_; rintro e w9 ⟨rfl, hw9⟩; rw [hw9]; clear hw9)
    | (go_at_call 46; refine (unhide HA).mono ?_; rintro e w9 ⟨rfl, hw9⟩; rw [hw9]; clear hw9)
    | (go_at_call 50; refine ((unhide HX) _).mono ?_; rintro e w9 ⟨rfl, hw9⟩; rw [hw9]; clear hw9))
  go_ret2
  refine ⟨?_, M, (unhide HN).1, fun i hi => Or.inl hi, (unhide HN).2⟩
  rw [← unhide HE]
  rfl
set_option maxRecDepth 100000 in
theorem draw_no {C : Nat} {w : World} {p : Nat} {s : PN} {M : Nat → Prop} (h : Nt C w p s M) {a below : Int} (ha : ¬ (s.may a ∧ 1 ≤ below)) : Calls Try.prog 23 #[.pointer (some ⟨p, 0, none⟩), .int .i64 a, .int .i64 below] w fun e w' => e = .returned (.tuple #[.int .i64 0, .int .i64 2]) ∧ Bel w w' := by
  have HF := hide (fault1 h a)
  have HB := hide ((Bel.refl w).alloc (.cells #[.int .i64 a] 3))
  by_cases hm : s.may a
  · rw [flt1_ok hm] at HF
    have hb : below < 1 := by
      rcases Int.lt_or_le below 1 with h' | h'
      · exact h'
      · exact absurd ⟨hm, h'⟩ ha
    clear h ha hm
    go_enter Try.func23, Try.ntmps23
    go_wp2_with (first
      | (go_at_call 37; refine (unhide HF).mono ?_; rintro e w9 ⟨rfl, hw9⟩; rw [hw9]; clear hw9))
    go_ret2
    exact ⟨rfl, unhide HB⟩
  · rw [flt1_no hm] at HF
    clear h ha hm
    go_enter Try.func23, Try.ntmps23
    go_wp2_with (first
      | (go_at_call 37; refine (unhide HF).mono ?_; rintro e w9 ⟨rfl, hw9⟩; rw [hw9]; clear hw9))
    go_ret2
    exact ⟨rfl, unhide HB⟩
/-- Whether two machines are parted. -/
def PN.side (s : PN) (a : Int) : Bool := (s.ms[(a - 1).toNat]?.getD (0, 0, false)).2.2
def PN.parted (s : PN) (a b : Int) : Bool := s.mayB a && s.mayB b && (s.side a != s.side b)
set_option maxRecDepth 100000 in
theorem parted_any {C : Nat} {w : World} {p : Nat} {s : PN} {M : Nat → Prop} (h : Nt C w p s M) (a b : Int) : Calls Try.prog 20 #[.pointer (some ⟨p, 0, none⟩), .int .i64 a, .int .i64 b] w fun e w' => e = .returned (.bool (s.parted a b)) ∧ Bel w w' := by
  have HF := hide (fault2 h a b)
  have hbel := (Bel.refl w).alloc (.cells #[.int .i64 a, .int .i64 b] 3)
  by_cases hm : s.may a ∧ s.may b
  · rw [flt2_ok hm.1 hm.2] at HF
    obtain ⟨i, hi, rfl⟩ := hm.1.at
    obtain ⟨j, hj, rfl⟩ := hm.2.at
    obtain ⟨bm, cm, c0, hmr, hM, hne, hnew⟩ := (h.bel hbel).mach
    generalize hW : w.alloc (.cells #[.int .i64 ((i : Int) + 1), .int .i64 ((j : Int) + 1)] 3) = W at *
    have HA : Hid (∀ k : Nat, k < s.ms.length → ∀ q : BelBy W, Calls Try.prog 46 #[.pointer (some ⟨p, 0, none⟩), .int .i64 ((k : Int) + 1)] q.W fun e w' => e = .returned (.pointer (some ⟨bm, k * 3, none⟩)) ∧ Bel q.W w') := hide (fun k hk q => (at_any p bm s.ms.length cm k _ (q.h.cell c0) hk h.few).mono (fun e w' he => ⟨he.1, by rw [he.2]; exact Bel.refl _⟩))
    have c1 : ∀ q : BelBy W, q.W.cell? ⟨bm, i * 3 + 2, none⟩ = some (.bool s.ms[i].2.2) := fun q => q.h.cell (hmr.cells hi).2.2
    have c2 : ∀ q : BelBy W, q.W.cell? ⟨bm, j * 3 + 2, none⟩ = some (.bool s.ms[j].2.2) := fun q => q.h.cell (hmr.cells hj).2.2
    have e1 : s.parted ((i : Int) + 1) ((j : Int) + 1) = (s.ms[i].2.2 != s.ms[j].2.2) := by
      unfold PN.parted PN.side
      rw [mayB_iff.2 hm.1, mayB_iff.2 hm.2, show ((i : Int) + 1 - 1).toNat = i by omega, show ((j : Int) + 1 - 1).toNat = j by omega, List.getElem?_eq_getElem hi, List.getElem?_eq_getElem hj]
      rfl
    rw [e1]
    have HB := hide hbel
    have hnb := BelBy.some W
    generalize s.ms[i].2.2 = x at *
    generalize s.ms[j].2.2 = y at *
    clear h hmr hnew hm hbel e1 c0 hM hne
    go_enter Try.func20, Try.ntmps20
    go_wp2_with (first
      | (go_at_call 37; refine (unhide HF).mono ?_; rintro e w9 ⟨rfl, hw9⟩; rw [hw9]; clear hw9))
    refine wp_region_bel Try.follows (by kernel_rfl) ?_
    repeat (go_big_quiet_step (first
      | (go_at_call 46; refine calls_by ((unhide HA) _ (by assumption) _))))
    refine wpQuiet_nil ?_
    rintro w5 ⟨q, rfl⟩
    go_wp2
    go_ret
    exact ⟨rfl, (unhide HB).trans q.h⟩
  · rw [flt2_no hm] at HF
    have e1 : s.parted a b = false := by
      unfold PN.parted
      rw [← mayB_iff, ← mayB_iff] at hm
      cases h1 : s.mayB a <;> cases h2 : s.mayB b <;> simp_all
    rw [e1]
    have HB := hide hbel
    clear h hm hbel e1
    go_enter Try.func20, Try.ntmps20
    go_wp2_with (first
      | (go_at_call 37; refine (unhide HF).mono ?_; rintro e w9 ⟨rfl, hw9⟩; rw [hw9]; clear hw9))
    go_ret
    exact ⟨rfl, unhide HB⟩
end Go.Proofs.Ytbcgikkdhfbphaa
