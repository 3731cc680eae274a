/- The document's Peek, Parted, Tick, Draw. -/
import Derived.Test.YtbcgikkdhfbphaaRfd
import Derived.Test.YtbcgikkdhfbphaaDrp
namespace Go.Proofs.Ytbcgikkdhfbphaa
open Go.RowKit Go.Maps
set_option maxRecDepth 100000 in
set_option maxHeartbeats 1000000 in
theorem peekD {W : World} {q : Nat} {s : PN} {M : Nat → Prop} (h : Rf W q s M) (a b i : Int) (hi : i ≤ 9223372036854775807) : Calls Try.prog 33 #[.pointer (some ⟨q, 0, none⟩), .int .i64 a, .int .i64 b, .int .i64 i] W fun e w' => e = .returned (.tuple #[.string (s.peek a b i).1, .int .i64 (s.peek a b i).2]) ∧ w' = W := by
  have HK := hide (look_any h a b i hi)
  by_cases h0 : (s.peek a b i).2 = 0
  · obtain ⟨_, _, p3, p4, p5, p6⟩ := peek_ok h0
    obtain ⟨k, hk, hkl, e1, _⟩ := fndI_some p4
    have e : s.lookR a b i = ((k : Int), 0) := by unfold PN.lookR; rw [if_pos h0, hk]
    rw [e] at HK
    obtain ⟨ad, g, cap, c1, hg, hR, hcap⟩ := h.list
    obtain rfl := hg (by omega)
    have r2 : W.cell? ⟨g, k * 3 + 2, none⟩ = some (.string (s.peek a b i).1) := by
      have := hR k hkl 2 _ rfl
      rw [e1] at this
      rw [p6, List.getElem?_eq_getElem p4]
      simpa [E46] using this
    rw [h0]
    have hkn : (k : Int) < s.L.length := by omega
    clear h hR e1 e hk p5 p6 hg
    generalize (s.peek a b i).1 = t at *
    generalize s.L.length = n at *
    clear p4
    go_enter Try.func33, Try.ntmps33
    go_wp2_with (first
      | (go_at_call 52; refine (unhide HK).mono ?_; rintro e w9 ⟨rfl, hw9⟩; rw [hw9]; clear hw9))
    go_ret2
    exact ⟨rfl, rfl⟩
  · have e : s.lookR a b i = (-1, (s.peek a b i).2) := if_neg h0
    have e2 : (s.peek a b i).1 = ⟨#[]⟩ := by
      unfold PN.peek at h0 ⊢
      split
      · split
        · rename_i h1 h2
          rw [if_pos h1, if_pos h2] at h0
          exact absurd rfl h0
        · rfl
      · rfl
    rw [e] at HK
    rw [e2]
    generalize (s.peek a b i).2 = x at *
    clear h e e2
    go_enter Try.func33, Try.ntmps33
    go_wp2_with (first
      | (go_at_call 52; refine (unhide HK).mono ?_; rintro e w9 ⟨rfl, hw9⟩; rw [hw9]; clear hw9))
    go_ret2
    exact ⟨rfl, rfl⟩
theorem Rc.col {W W' : World} {q : Nat} {vL : Value} {gS cS gT cT gX cX : Nat} {s : PN} {M : Nat → Prop} (h : Rc W q vL gS cS gT cT gX cX s M) {g : Nat} {c : Array Value} {t : TypeId} (hg : W.heap[g]? = some (.cells c t)) (h74 : t ≠ 74) (h46 : t ≠ 46) (hc : Ch (fun i => i = g) W W') {ms' : List Mc} (hl : ms'.length = s.ms.length)
    (hS : Cw W' gS 4 (ms'.map fun m => .bool m.2.2)) (hT : Cw W' gT 3 (ms'.map fun m => .int .i64 m.1)) (hX : Cw W' gX 22 (ms'.map fun m => .int .u64 m.2.1)) : Rc W' q vL gS cS gT cT gX cX ⟨ms', s.L⟩ M := by
  refine ⟨?_, h.l.at (fun k hk => ?_), hS, hT, hX, h.mq, h.mS, h.mT, h.mX, h.mL⟩
  · show W'.heap[q]? = some (.cells #[.int .i64 ms'.length, vL, .slice (some ⟨gS, 0, none⟩) (ms'.length + 1) cS, .slice (some ⟨gT, 0, none⟩) (ms'.length + 1) cT, .slice (some ⟨gX, 0, none⟩) (ms'.length + 1) cX] 74)
    rw [hl]
    exact hc.row h.row (fun e => by have := h.row; rw [e, hg] at this; cases this; exact h74 rfl)
  · refine hc.block k (h.l.lt hk).2 (fun e => ?_)
    obtain ⟨c', hc'⟩ := h.l.block hk
    rw [e, hg] at hc'
    cases hc'
    exact h46 rfl
theorem Rf.turn {W W' : World} {q : Nat} {s : PN} {M : Nat → Prop} (h : Rf W q s M) {ms' : List Mc} (hl : ms'.length = s.ms.length) (hs : W.heap.size ≤ W'.heap.size) (hc : ∃ vL gS cS gT cT gX cX, Rc W' q vL gS cS gT cT gX cX ⟨ms', s.L⟩ M) : Rf W' q ⟨ms', s.L⟩ M := by
  refine ⟨hc, by rw [hl]; exact h.one, by rw [hl]; exact h.few, fun x hx => ?_, h.len, fun i hi => Nat.lt_of_lt_of_le (h.ltM i hi) hs⟩
  have := h.may x hx
  unfold PN.may at *
  rw [hl]
  exact this
theorem map_same {β : Type} {f : Mc → β} {ms : List Mc} {j : Nat} (hj : j < ms.length) {m : Mc} (e : f m = f ms[j]) : (ms.set j m).map f = ms.map f := by
  rw [List.map_set, e]
  apply List.ext_getElem
  · simp
  · intro i h1 h2
    rw [List.getElem_set]
    split
    · rename_i e2; subst e2; simp
    · rfl
theorem Cw.keep {W W' : World} {g g' : Nat} {t t' : TypeId} {vs : List Value} {c : Array Value} (h : Cw W g t vs) (hg : W.heap[g']? = some (.cells c t')) (hc : Ch (fun i => i = g') W W') (ht : t ≠ t') : Cw W' g t vs := h.at (hc.block g h.lt (fun e => by
  obtain ⟨cur, h1, _⟩ := h
  rw [e, hg] at h1
  cases h1
  exact ht rfl))
set_option maxRecDepth 100000 in
theorem tickD_yes {W : World} {q : Nat} {s : PN} {M : Nat → Prop} (h : Rf W q s M) {j : Nat} (hj : j < s.ms.length) : Calls Try.prog 35 #[.pointer (some ⟨q, 0, none⟩), .int .i64 ((j + 1 : Nat) : Int)] W fun e w' => e = .returned (.tuple #[.int .i64 (wrap64 (s.ms[j].1 + 1)), .int .i64 0]) ∧ Afr W q M (s.tick j) w' := by
  have HM := hide (may_any h ((j + 1 : Nat) : Int))
  rw [show s.mayB ((j + 1 : Nat) : Int) = true from mayB_iff.2 ⟨by omega, by omega⟩] at HM
  obtain ⟨vL, gS, cS, gT, cT, gX, cX, h1⟩ := h.co
  have c3 : W.cell? ⟨q, 3, none⟩ = some (.slice (some ⟨gT, 0, none⟩) (s.ms.length + 1) cT) := cell_of h1.row
  have hjm : j < (s.ms.map fun m => Value.int .i64 m.1).length := by rw [List.length_map]; exact hj
  have ct := h1.ct.cell hjm
  rw [List.getElem_map] at ct
  have hfr := h1.ct.free (j + 1)
  obtain ⟨cur, hcur, _⟩ := h1.ct
  have hq : q ≠ gT := fun e => by have := h1.row; rw [e, hcur] at this; cases this
  have hcur' := hcur
  have hset := Ch.at_set (w := W) (b := gT) (j := j + 1) (.int .i64 (wrap64 (s.ms[j].1 + 1)))
  have hfin : Rf (W.setCell ⟨gT, j + 1, none⟩ (.int .i64 (wrap64 (s.ms[j].1 + 1)))) q (s.tick j) M := by
    unfold PN.tick
    rw [List.getElem?_eq_getElem hj]
    refine h.turn (by simp) hset.size ⟨vL, gS, cS, gT, cT, gX, cX, h1.col hcur (by decide) (by decide) hset (by simp) ?_ ?_ ?_⟩
    · rw [map_same hj]
      · exact h1.cs.keep hcur hset (by decide)
      · rfl
    · rw [List.map_set]
      exact h1.ct.set hjm _
    · rw [map_same hj]
      · exact h1.cx.keep hcur hset (by decide)
      · rfl
  have HF := hide (And.intro hfin (show Ch M W (W.setCell ⟨gT, j + 1, none⟩ (.int .i64 (wrap64 (s.ms[j].1 + 1)))) from hset.mono (fun i hi => by rw [hi]; exact h1.mT)))
  have hn : ((j + 1 : Nat) : Int) < ((s.ms.length + 1 : Nat) : Int) := by omega
  have r3 : (W.setCell ⟨gT, j + 1, none⟩ (.int .i64 (wrap64 (s.ms[j].1 + 1)))).cell? ⟨q, 3, none⟩ = some (.slice (some ⟨gT, 0, none⟩) (s.ms.length + 1) cT) := by rw [cell_of (hset.row h1.row hq)]; rfl
  have rt : (W.setCell ⟨gT, j + 1, none⟩ (.int .i64 (wrap64 (s.ms[j].1 + 1)))).cell? ⟨gT, j + 1, none⟩ = some (.int .i64 (wrap64 (s.ms[j].1 + 1))) := by
    have := (h1.ct.set hjm (.int .i64 (wrap64 (s.ms[j].1 + 1)))).cell (j := j) (by simpa using hj)
    simpa using this
  generalize s.ms[j].1 = t at *
  generalize s.ms.length = n at *
  clear h h1 hcur hcur' hset hfin hq hjm
  go_enter Try.func35, Try.ntmps35
  go_wp2_with (first
    | (go_at_call 51; refine (unhide HM).mono ?_; rintro e w9 ⟨rfl, hw9⟩; rw [hw9]; clear hw9))
  go_ret2
  exact ⟨rfl, M, (unhide HF).1, fun i hi => Or.inl hi, (unhide HF).2⟩
set_option maxRecDepth 100000 in
theorem tickD_no {W : World} {q : Nat} {s : PN} {M : Nat → Prop} (h : Rf W q s M) {a : Int} (ha : ¬ s.may a) : Calls Try.prog 35 #[.pointer (some ⟨q, 0, none⟩), .int .i64 a] W fun e w' => e = .returned (.tuple #[.int .i64 0, .int .i64 2]) ∧ w' = W := by
  have HM := hide (may_any h a)
  rw [mayB_not ha] at HM
  clear h ha
  go_enter Try.func35, Try.ntmps35
  go_wp2_with (first
    | (go_at_call 51; refine (unhide HM).mono ?_; rintro e w9 ⟨rfl, hw9⟩; rw [hw9]; clear hw9))
  go_ret2
  exact ⟨rfl, rfl⟩
set_option maxRecDepth 100000 in
set_option maxHeartbeats 1000000 in
theorem drawD_yes {W : World} {q : Nat} {s : PN} {M : Nat → Prop} (h : Rf W q s M) {j : Nat} (hj : j < s.ms.length) {below : Int} (hb : 1 ≤ below) (hb2 : below < 9223372036854775808) : Calls Try.prog 36 #[.pointer (some ⟨q, 0, none⟩), .int .i64 ((j + 1 : Nat) : Int), .int .i64 below] W fun e w' => e = .returned (.tuple #[.int .i64 (drw s.ms[j].2.1 below), .int .i64 0]) ∧ Afr W q M (s.draw j) w' := by
  have HM := hide (may_any h ((j + 1 : Nat) : Int))
  rw [show s.mayB ((j + 1 : Nat) : Int) = true from mayB_iff.2 ⟨by omega, by omega⟩] at HM
  obtain ⟨vL, gS, cS, gT, cT, gX, cX, h1⟩ := h.co
  have c4 : W.cell? ⟨q, 4, none⟩ = some (.slice (some ⟨gX, 0, none⟩) (s.ms.length + 1) cX) := cell_of h1.row
  have hjm : j < (s.ms.map fun m => Value.int .u64 m.2.1).length := by rw [List.length_map]; exact hj
  have ct := h1.cx.cell hjm
  rw [List.getElem_map] at ct
  have hfr := h1.cx.free (j + 1)
  obtain ⟨cur, hcur, _⟩ := h1.cx
  have hq : q ≠ gX := fun e => by have := h1.row; rw [e, hcur] at this; cases this
  obtain ⟨nx, hnx⟩ : ∃ x, x = IntKind.u64.wrap (s.ms[j].2.1 + 11400714819323198485) := ⟨_, rfl⟩
  have hset := Ch.at_set (w := W) (b := gX) (j := j + 1) (.int .u64 nx)
  have hfin : Rf (W.setCell ⟨gX, j + 1, none⟩ (.int .u64 nx)) q (s.draw j) M := by
    unfold PN.draw
    rw [List.getElem?_eq_getElem hj]
    refine h.turn (by simp) hset.size ⟨vL, gS, cS, gT, cT, gX, cX, h1.col hcur (by decide) (by decide) hset (by simp) ?_ ?_ ?_⟩
    · rw [map_same hj]
      · exact h1.cs.keep hcur hset (by decide)
      · rfl
    · rw [map_same hj]
      · exact h1.ct.keep hcur hset (by decide)
      · rfl
    · rw [List.map_set]
      have := h1.cx.set hjm (.int .u64 nx)
      rw [hnx] at this ⊢
      exact this
  have HF := hide (And.intro hfin (show Ch M W (W.setCell ⟨gX, j + 1, none⟩ (.int .u64 nx)) from hset.mono (fun i hi => by rw [hi]; exact h1.mX)))
  have hn : (j : Int) + 1 < (s.ms.length : Int) + 1 := by omega
  have hn0 : 0 ≤ (j : Int) + 1 := by omega
  have hnt : ((j : Int) + 1).toNat = j + 1 := by omega
  have r4 : (W.setCell ⟨gX, j + 1, none⟩ (.int .u64 nx)).cell? ⟨q, 4, none⟩ = some (.slice (some ⟨gX, 0, none⟩) (s.ms.length + 1) cX) := by rw [cell_of (hset.row h1.row hq)]; rfl
  have rt : (W.setCell ⟨gX, j + 1, none⟩ (.int .u64 nx)).cell? ⟨gX, j + 1, none⟩ = some (.int .u64 nx) := by
    have := (h1.cx.set hjm (.int .u64 nx)).cell (j := j) (by simpa using hj)
    simpa using this
  unfold drw
  rw [← hnx]
  generalize s.ms[j].2.1 = t at *
  generalize s.ms.length = n at *
  have hwb : IntKind.u64.wrap below = below := by rw [IntKind.wrap_u64]; omega
  have hm0 := mixd_in nx
  have HE : Hid (wrap64 ((mixd nx).tmod below) = mixd nx % below) := hide (by
    rw [Int.tmod_eq_emod_of_nonneg hm0.1]
    have h1 := Int.emod_nonneg (mixd nx) (show below ≠ 0 by omega)
    have h2 := Int.emod_lt_of_pos (mixd nx) (show 0 < below by omega)
    exact IntWalk.wrap64_in _ (by omega))
  have HNX := hide hnx.symm
  generalize hWW : W.setCell ⟨gX, j + 1, none⟩ (.int .u64 nx) = WW at HF r4 rt
  have HWW := hide hWW
  clear h h1 hcur hset hfin hq hjm hm0 hnx hWW
  go_enter Try.func36, Try.ntmps36
  go_wp2_with (first
    | (go_at_call 51; refine (unhide HM).mono ?_; rintro e w9 ⟨rfl, hw9⟩; rw [hw9]; clear hw9))
  go_region_law fail
  all_goals
    rw [unhide HNX, unhide HWW]
    go_wp2_with fail
    go_ret2
    refine ⟨?_, M, (unhide HF).1.bel (Bel.refl _).drew, fun i hi => Or.inl hi, (unhide HF).2.bel (Bel.refl _).drew⟩
    rw [← unhide HE]
    rfl
set_option maxRecDepth 100000 in
theorem drawD_no {W : World} {q : Nat} {s : PN} {M : Nat → Prop} (h : Rf W q s M) {a below : Int} (ha : ¬ (s.may a ∧ 1 ≤ below)) : Calls Try.prog 36 #[.pointer (some ⟨q, 0, none⟩), .int .i64 a, .int .i64 below] W fun e w' => e = .returned (.tuple #[.int .i64 0, .int .i64 2]) ∧ w' = W := by
  have HM := hide (may_any h a)
  by_cases hm : s.may a
  · rw [mayB_iff.2 hm] at HM
    have hb : below < 1 := by
      rcases Int.lt_or_le below 1 with h' | h'
      · exact h'
      · exact absurd ⟨hm, h'⟩ ha
    clear h ha hm
    go_enter Try.func36, Try.ntmps36
    go_wp2_with (first
      | (go_at_call 51; refine (unhide HM).mono ?_; rintro e w9 ⟨rfl, hw9⟩; rw [hw9]; clear hw9))
    go_ret2
    exact ⟨rfl, rfl⟩
  · rw [mayB_not hm] at HM
    clear h ha hm
    go_enter Try.func36, Try.ntmps36
    go_wp2_with (first
      | (go_at_call 51; refine (unhide HM).mono ?_; rintro e w9 ⟨rfl, hw9⟩; rw [hw9]; clear hw9))
    go_ret2
    exact ⟨rfl, rfl⟩
set_option maxRecDepth 100000 in
theorem ticksD {W : World} {q : Nat} {s : PN} {M : Nat → Prop} (h : Rf W q s M) (a : Int) : Calls Try.prog 41 #[.pointer (some ⟨q, 0, none⟩), .int .i64 a] W fun e w' => e = .returned (.int .i64 (s.ticks a)) ∧ w' = W := by
  have HM := hide (may_any h a)
  by_cases hm : s.may a
  · rw [mayB_iff.2 hm] at HM
    obtain ⟨j, rfl, hj⟩ : ∃ j : Nat, a = (j : Int) + 1 ∧ j < s.ms.length := ⟨(a - 1).toNat, by have := hm.1; omega, by have := hm.1; have := hm.2; omega⟩
    rw [ticks_at hj]
    obtain ⟨vL, gS, cS, gT, cT, gX, cX, h1⟩ := h.co
    have c3 : W.cell? ⟨q, 3, none⟩ = some (.slice (some ⟨gT, 0, none⟩) (s.ms.length + 1) cT) := cell_of h1.row
    have ct := h1.ct.cell (j := j) (by rw [List.length_map]; exact hj)
    rw [List.getElem_map] at ct
    have hn : (j : Int) + 1 < (s.ms.length : Int) + 1 := by omega
    have hn0 : 0 ≤ (j : Int) + 1 := by omega
    have hnt : ((j : Int) + 1).toNat = j + 1 := by omega
    generalize s.ms[j].1 = t at *
    generalize s.ms.length = n at *
    clear h h1 hm
    go_enter Try.func41, Try.ntmps41
    go_wp2_with (first
      | (go_at_call 51; refine (unhide HM).mono ?_; rintro e w9 ⟨rfl, hw9⟩; rw [hw9]; clear hw9))
    go_ret
    exact ⟨rfl, rfl⟩
  · rw [mayB_not hm] at HM
    rw [ticks_no hm]
    clear h hm
    go_enter Try.func41, Try.ntmps41
    go_wp2_with (first
      | (go_at_call 51; refine (unhide HM).mono ?_; rintro e w9 ⟨rfl, hw9⟩; rw [hw9]; clear hw9))
    go_ret
    exact ⟨rfl, rfl⟩
end Go.Proofs.Ytbcgikkdhfbphaa
