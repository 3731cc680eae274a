/- The document's New. -/
import Derived.Test.YtbcgikkdhfbphaaRfx
namespace Go.Proofs.Ytbcgikkdhfbphaa
open Go.RowKit Go.Maps
theorem Try.i3 : ∃ i, Try.prog.info? 3 = some i ∧ i.zero = some (.int .i64 0) ∧ i.size = 1 ∧ i.bytes = 8 := by
  have h : (Try.prog.info? 3).map (fun i => (i.zero, i.size, i.bytes)) = some (some (.int .i64 0), 1, 8) := by kernel_rfl
  obtain ⟨i, hi, hzz⟩ := Option.map_eq_some_iff.1 h
  simp only [Prod.mk.injEq] at hzz
  exact ⟨i, hi, hzz.1, hzz.2.1, hzz.2.2⟩
theorem Try.i22 : ∃ i, Try.prog.info? 22 = some i ∧ i.zero = some (.int .u64 0) ∧ i.size = 1 ∧ i.bytes = 8 := by
  have h : (Try.prog.info? 22).map (fun i => (i.zero, i.size, i.bytes)) = some (some (.int .u64 0), 1, 8) := by kernel_rfl
  obtain ⟨i, hi, hzz⟩ := Option.map_eq_some_iff.1 h
  simp only [Prod.mk.injEq] at hzz
  exact ⟨i, hi, hzz.1, hzz.2.1, hzz.2.2⟩
/-- A make of N + 1 things of one cell. -/
theorem make1 {t e : TypeId} {i : TypeInfo} {z : Value} (ht : Try.prog.underlying t = some (.slice e)) (hi : Try.prog.info? e = some i) (hz : i.zero = some z) (hs : i.size = 1) (hb : i.bytes ≤ 8) (hc : z.cells = #[z]) (N : Nat) (hN : N ≤ 64) (U : World) : (Instr.makeSlice t (.int .i64 ((N : Int) + 1)) (.int .i64 ((N : Int) + 1))).run Try.prog U = .ok (.slice (some ⟨U.heap.size, 0, none⟩) (N + 1) (N + 1)) (U.alloc (.cells (madeCells #[z] (N + 1)) e)) := by
  have hm : i.bytes * (N + 1) ≤ 8 * 65 := Nat.mul_le_mul hb (by omega)
  have hm2 : ((i.bytes * (N + 1) : Nat) : Int) ≤ 8 * 65 := by omega
  rw [Int.natCast_mul, Int.natCast_add] at hm2
  have := run_make (P := Try.prog) U t e i _ ht hi hz .i64 .i64 ((N : Int) + 1) ((N : Int) + 1) (by omega) (by omega) (Int.le_trans hm2 (by decide)) (by omega)
  have e1 : ((N : Int) + 1).toNat = N + 1 := by omega
  rw [e1, hs] at this
  simpa [hc] using this
/-- The document's net while New lays it: its first k machines have their states. -/
def Ni (w W : World) (q : Nat) (seed : Int) (N k : Nat) : Prop := (∃ gS gT gX, Rc W q (.slice none 0 0) gS (N + 1) gT (N + 1) gX (N + 1) ⟨nm seed N k, []⟩ (fun i => w.heap.size ≤ i ∧ i < W.heap.size)) ∧ Bel w W
theorem Ni.start {w W : World} {q gS gT gX : Nat} {seed : Int} {N : Nat} (hb : Bel w W) (hq : W.heap[q]? = some (.cells #[.int .i64 N, .slice none 0 0, .slice (some ⟨gS, 0, none⟩) (N + 1) (N + 1), .slice (some ⟨gT, 0, none⟩) (N + 1) (N + 1), .slice (some ⟨gX, 0, none⟩) (N + 1) (N + 1)] 74)) (hS : W.heap[gS]? = some (.cells (madeCells #[.bool false] (N + 1)) 4)) (hT : W.heap[gT]? = some (.cells (madeCells #[.int .i64 0] (N + 1)) 3)) (hX : W.heap[gX]? = some (.cells (madeCells #[.int .u64 0] (N + 1)) 22)) (m : w.heap.size ≤ q ∧ w.heap.size ≤ gS ∧ w.heap.size ≤ gT ∧ w.heap.size ≤ gX) : Ni w W q seed N 0 := by
  refine ⟨⟨gS, gT, gX, ⟨by simpa [nm_len] using hq, El.O.nil _ _, ⟨_, hS, fun j hj => ?_, made_at _ _ _ (by omega)⟩, ⟨_, hT, fun j hj => ?_, made_at _ _ _ (by omega)⟩, ⟨_, hX, fun j hj => ?_, made_at _ _ _ (by omega)⟩, ⟨m.1, lt_of_some hq⟩, ⟨m.2.1, lt_of_some hS⟩, ⟨m.2.2.1, lt_of_some hT⟩, ⟨m.2.2.2, lt_of_some hX⟩, fun k hk => by cases hk⟩⟩, hb⟩
  · rw [made_at _ _ _ (by simp [nm_len] at hj; omega)]
    simp [nm]
  · rw [made_at _ _ _ (by simp [nm_len] at hj; omega)]
    simp [nm]
  · rw [made_at _ _ _ (by simp [nm_len] at hj; omega)]
    simp [nm]
theorem at4 (w : World) (a b c d : Obj) : ((((w.alloc a).alloc b).alloc c).alloc d).heap[w.heap.size]? = some a ∧ ((((w.alloc a).alloc b).alloc c).alloc d).heap[w.heap.size + 1]? = some b ∧ ((((w.alloc a).alloc b).alloc c).alloc d).heap[w.heap.size + 1 + 1]? = some c ∧ ((((w.alloc a).alloc b).alloc c).alloc d).heap[w.heap.size + 1 + 1 + 1]? = some d := by
  have z1 : (w.alloc a).heap.size = w.heap.size + 1 := by simp
  have z2 : ((w.alloc a).alloc b).heap.size = w.heap.size + 1 + 1 := by simp
  have z3 : (((w.alloc a).alloc b).alloc c).heap.size = w.heap.size + 1 + 1 + 1 := by simp
  have h1 := at_new w a
  have h2 := at_new (w.alloc a) b
  have h3 := at_new ((w.alloc a).alloc b) c
  have h4 := at_new (((w.alloc a).alloc b).alloc c) d
  rw [z1] at h2
  rw [z2] at h3
  rw [z3] at h4
  refine ⟨?_, ?_, ?_, h4⟩
  · exact ((((Bel.refl (w.alloc a)).alloc b).alloc c).alloc d).row h1
  · exact (((Bel.refl ((w.alloc a).alloc b)).alloc c).alloc d).row h2
  · exact ((Bel.refl (((w.alloc a).alloc b).alloc c)).alloc d).row h3
theorem Rc.sub {W : World} {q : Nat} {vL : Value} {gS cS gT cT gX cX : Nat} {s : PN} {M M' : Nat → Prop} (h : Rc W q vL gS cS gT cT gX cX s M) (hM : ∀ i, M i → M' i) : Rc W q vL gS cS gT cT gX cX s M' := ⟨h.row, h.l, h.cs, h.ct, h.cx, hM _ h.mq, hM _ h.mS, hM _ h.mT, hM _ h.mX, fun k hk => hM _ (h.mL k hk)⟩
theorem Ni.step {w W : World} {q gS gT gX : Nat} {seed : Int} {N k : Nat} (h : Rc W q (.slice none 0 0) gS (N + 1) gT (N + 1) gX (N + 1) ⟨nm seed N k, []⟩ (fun i => w.heap.size ≤ i ∧ i < W.heap.size)) (hb : Bel w W) (hk : k < N) : Ni w (W.setCell ⟨gX, k + 1, none⟩ (.int .u64 (fst9 seed ((k : Int) + 1)))) q seed N (k + 1) := by
  have hset := Ch.at_set (w := W) (b := gX) (j := k + 1) (.int .u64 (fst9 seed ((k : Int) + 1)))
  obtain ⟨cur, hcur, _⟩ := h.cx
  have hkl : k < (nm seed N k).length := by rw [nm_len]; exact hk
  refine ⟨⟨gS, gT, gX, ?_⟩, ?_⟩
  · refine (h.col hcur (by decide) (by decide) hset (ms' := nm seed N (k + 1)) (by show _ = (nm seed N k).length; rw [nm_len, nm_len]) ?_ ?_ ?_).sub (fun i hi => ⟨hi.1, Nat.lt_of_lt_of_le hi.2 hset.size⟩)
    · rw [← nm_next seed N k hk, map_same hkl]
      · exact h.cs.keep hcur hset (by decide)
      · rfl
    · rw [← nm_next seed N k hk, map_same hkl]
      · exact h.ct.keep hcur hset (by decide)
      · rfl
    · rw [← nm_next seed N k hk, List.map_set]
      exact h.cx.set (by rw [List.length_map]; exact hkl) _
  · exact bel_off hb hset h.mX.1
set_option maxRecDepth 100000 in
theorem newD_no (seed n : Int) (h : n < 1 ∨ 64 < n) (w : World) : Calls Try.prog 9 #[.int .i64 n, .int .u64 seed] w fun e w' => e = .returned (.tuple #[.pointer none, .int .i64 2]) ∧ w' = w := by
  go_enter Try.func9, Try.ntmps9
  rcases h with h | h
  · go_wp2_with fail
    go_ret2
    exact ⟨rfl, rfl⟩
  · go_wp2_with fail
    go_ret2
    exact ⟨rfl, rfl⟩
set_option maxRecDepth 100000 in
set_option maxHeartbeats 4000000 in
theorem newD_yes (seed : Int) (N : Nat) (h1 : 1 ≤ N) (h2 : N ≤ 64) (w : World) : Calls Try.prog 9 #[.int .i64 N, .int .u64 seed] w fun e w' => ∃ q K, e = .returned (.tuple #[.pointer (some ⟨q, 0, none⟩), .int .i64 0]) ∧ Rf w' q (pnew seed N) K ∧ (∀ i, K i → w.heap.size ≤ i) ∧ Bel w w' := by
  obtain ⟨i4, a0, a1, a2, a3⟩ := Try.i4
  obtain ⟨i3, b0, b1, b2, b3⟩ := Try.i3
  obtain ⟨i22, c0, c1, c2, c3⟩ := Try.i22
  have hmS := make1 Try.underlying71 a0 a1 a2 (by omega) rfl N h2
  have hmT := make1 Try.underlying32 b0 b1 b2 (by omega) rfl N h2
  have hmX := make1 Try.underlying72 c0 c1 c2 (by omega) rfl N h2
  have hw1 : IntKind.i64.wrap ((N : Int) + 1) = (N : Int) + 1 := wrapI (by omega) (by omega)
  have hN1 : ¬ ((N : Int) < 1) := by omega
  have hN2 : ¬ (64 < (N : Int)) := by omega
  clear a0 a1 a2 a3 b0 b1 b2 b3 c0 c1 c2 c3
  go_enter Try.func9, Try.ntmps9
  go_wp2_with fail
  go_region_law fail
  all_goals
    go_wp2_with fail
    go_loopw [7] (fun vi wr => ∃ k : Nat, k ≤ N ∧ vi = .int .i64 ((k : Int) + 1) ∧ Hid (Ni w wr (w.heap.size + 1 + 1 + 1) seed N k)) (fun vi _ => N + 1 - (intOf vi).toNat)
    case atStart => exact ⟨0, Nat.zero_le _, rfl, hide (Ni.start (by first | exact (((((Bel.refl w).alloc _).alloc _).alloc _).alloc _) | exact (((((Bel.refl w).alloc _).alloc _).alloc _).alloc _).drew) (at4 w _ _ _ _).2.2.2 (by first | exact (at4 w _ _ _ _).1 | exact (at4 w _ _ _ _).2.1 | exact (at4 w _ _ _ _).2.2.1) (by first | exact (at4 w _ _ _ _).1 | exact (at4 w _ _ _ _).2.1 | exact (at4 w _ _ _ _).2.2.1) (by first | exact (at4 w _ _ _ _).1 | exact (at4 w _ _ _ _).2.1 | exact (at4 w _ _ _ _).2.2.1) (by omega))⟩
    case round =>
      obtain ⟨k, hk, rfl, HO⟩ := hrel
      obtain ⟨⟨gS, gT, gX, h3⟩, hb3⟩ := unhide HO
      by_cases hlt : k < N
      · have hlt' : (k : Int) + 1 ≤ N := by omega
        have c4 : wr.cell? ⟨w.heap.size + 1 + 1 + 1, 4, none⟩ = some (.slice (some ⟨gX, 0, none⟩) (N + 1) (N + 1)) := by
          have := cell_of (i := 4) h3.row
          rw [nm_len] at this
          exact this
        have hkl : k < ((nm seed N k).map fun m => Value.int .u64 m.2.1).length := by rw [List.length_map, nm_len]; exact hlt
        have ct := h3.cx.cell hkl
        have hfr := h3.cx.free (k + 1)
        generalize ((nm seed N k).map fun m => Value.int .u64 m.2.1)[k] = old at ct
        have hs := Ni.step h3 hb3 hlt
        unfold fst9 at hs
        rw [show IntKind.u64.wrap ((k : Int) + 1) = (k : Int) + 1 by rw [IntKind.wrap_u64]; omega] at hs
        have HS := hide hs
        clear hs
        have hn : (k : Int) + 1 < (N : Int) + 1 := by omega
        have hn0 : 0 ≤ (k : Int) + 1 := by omega
        have hnt : ((k : Int) + 1).toNat = k + 1 := by omega
        clear h3 hb3 hkl HO
        go_wp2_with fail
        go_roundw
        case rel => exact ⟨k + 1, by omega, by go_num, HS⟩
        case measure => simp [intOf]; omega
      · obtain rfl : k = N := by omega
        have hlt' : ¬ ((k : Int) + 1 ≤ k) := by omega
        have HF : Hid (Rf wr (w.heap.size + 1 + 1 + 1) (pnew seed k) (fun i => w.heap.size ≤ i ∧ i < wr.heap.size) ∧ Bel w wr) := hide ⟨⟨⟨_, _, _, _, _, _, _, h3⟩, by show 1 ≤ (nm seed k k).length; rw [nm_len]; exact h1, by show (nm seed k k).length ≤ 64; rw [nm_len]; exact h2, fun x hx => by simp [pnew] at hx, by simp [pnew], fun i hi => hi.2⟩, hb3⟩
        clear h3 hb3 HO
        go_wp2_with fail
        go_ret2
        exact ⟨w.heap.size + 1 + 1 + 1, rfl, fun i => w.heap.size ≤ i ∧ i < wr.heap.size, (unhide HF).1, fun i hi => hi.1, (unhide HF).2⟩
end Go.Proofs.Ytbcgikkdhfbphaa
