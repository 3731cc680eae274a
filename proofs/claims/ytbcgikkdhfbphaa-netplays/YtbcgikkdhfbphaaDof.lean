/- One call of both: Drop, Double, Peek, Tick, Draw. -/
import Derived.Test.YtbcgikkdhfbphaaDoe
namespace Go.Proofs.Ytbcgikkdhfbphaa
open Go.RowKit Go.Maps
theorem tb_drop {s : PN} (h : Tb s) (a b i : Int) : Tb (s.dropS a b i) := by
  unfold PN.dropS
  split
  · exact tb_cut h _ _ _
  · exact h
theorem tb_doub {s : PN} (h : Tb s) (a b i : Int) : Tb (s.doubS a b i) := by
  unfold PN.doubS
  split
  · rename_i h0
    split
    · obtain ⟨_, _, _, h2, _, h3⟩ := peek_ok h0
      intro x hx
      rcases List.mem_append.1 hx with hx | hx
      · exact h x hx
      · simp at hx
        rw [hx, h3, List.getElem?_eq_getElem h2]
        exact h _ (qs_mem s.L a b _ h2)
    · exact h
  · exact h
set_option maxRecDepth 100000 in
set_option maxHeartbeats 4000000 in
theorem does_drop {C : Nat} {W : World} {p q : Nat} {s : PN} {Z : Nat → Prop} (h : Pr C W p q s s Z) (hC : C ≤ 800000) (tb : Tb s) (a b n : Int) (hn : n ≤ 9223372036854775807) (t : ByteArray) (sv : Option Addr) (sl sc : Nat) : Calls Try.prog 11 #[.pointer (some ⟨p, 0, none⟩), .pointer (some ⟨q, 0, none⟩), .agg #[.int .i64 2, .int .i64 a, .int .i64 b, .int .i64 n, .string t, .slice sv sl sc]] W fun e w' => e = .returned (.bool true) ∧ DoR C W p q Z w' := by
  have hbel : Bel W (W.alloc (.cells #[.int .i64 2, .int .i64 a, .int .i64 b, .int .i64 n, .string t, .slice sv sl sc] 34)) := (Bel.refl W).alloc _
  have hnew := at_new W (.cells #[.int .i64 2, .int .i64 a, .int .i64 b, .int .i64 n, .string t, .slice sv sl sc] 34)
  have HZ := hide h.lt
  generalize hW0 : W.alloc (.cells #[.int .i64 2, .int .i64 a, .int .i64 b, .int .i64 n, .string t, .slice sv sl sc] 34) = W0 at *
  have hpr := h.bel (hbel.trans (Bel.refl W0).drew)
  have HP := hide (hpr.prog (fun M h _ => drop_any h (by omega) a b n))
  have HD : Hid (∀ w1, Ap2 (C + 1) W0.drew p q Z (s.dropS a b n) s w1 → Calls Try.prog 31 #[.pointer (some ⟨q, 0, none⟩), .int .i64 a, .int .i64 b, .int .i64 n] w1 fun e w' => e = .returned (.int .i64 ((s.peek a b n).2)) ∧ Ap2 (C + 1) W0.drew p q Z (s.dropS a b n) (s.dropS a b n) w') := hide (fun w1 ha => ha.then (fun Z' hz _ => hz.doc (fun K hk _ => dropD hk a b n hn)))
  have d0 : W0.cell? ⟨W.heap.size, 0, none⟩ = some (.int .i64 2) := cell_of hnew
  have d1 : W0.cell? ⟨W.heap.size, 1, none⟩ = some (.int .i64 a) := cell_of hnew
  have d2 : W0.cell? ⟨W.heap.size, 2, none⟩ = some (.int .i64 b) := cell_of hnew
  have d3 : W0.cell? ⟨W.heap.size, 3, none⟩ = some (.int .i64 n) := cell_of hnew
  have HKK : Hid (∀ w1 s1 t1, Ap2 (C + 1) W0.drew p q Z s1 t1 w1 → w1.cell? ⟨W.heap.size, 1, none⟩ = some (.int .i64 a) ∧ w1.cell? ⟨W.heap.size, 2, none⟩ = some (.int .i64 b) ∧ w1.cell? ⟨W.heap.size, 3, none⟩ = some (.int .i64 n)) := hide (fun w1 s1 t1 ha => by
    have hr := ha.row (unhide HZ) (Nat.le_refl _) (show W0.drew.heap[W.heap.size]? = _ from hnew)
    exact ⟨cell_of hr, cell_of hr, cell_of hr⟩)
  have HFN : Hid (∀ w1, Ap2 (C + 1) W0.drew p q Z (s.dropS a b n) (s.dropS a b n) w1 → DoR C W p q Z w1) := hide (fun w1 ha => ⟨_, tb_drop tb a b n, ha.from (hbel.trans (Bel.refl W0).drew)⟩)
  generalize hBB : W.heap.size = B at *
  clear h hbel hnew hpr tb
  generalize (s.peek a b n).2 = rv at *
  generalize s.dropS a b n = s1 at *
  go_enter Try.func11, Try.ntmps11
  go_wp2_with fail
  go_region_held3 (fun W' => W'.cell? ⟨B, 1, none⟩ = some (.int .i64 a) ∧ W'.cell? ⟨B, 2, none⟩ = some (.int .i64 b) ∧ W'.cell? ⟨B, 3, none⟩ = some (.int .i64 n)) (first | exact (unhide HKK) _ _ _ hA2 | exact (unhide HKK) _ _ _ hA1 | exact ⟨d1, d2, d3⟩) ((first
    | (go_at_call 17; refine (unhide HP).mono ?_; rintro e w1 ⟨rfl, hA1⟩)
    | (go_at_call 31; refine ((unhide HD) _ hA1).mono ?_; rintro e w2 ⟨rfl, hA2⟩)))
  all_goals
    have HF := hide ((unhide HFN) _ hA2)
    go_wp2_with fail
    go_ret
    exact ⟨by simp, unhide HF⟩
set_option maxRecDepth 100000 in
set_option maxHeartbeats 4000000 in
theorem does_doub {C : Nat} {W : World} {p q : Nat} {s : PN} {Z : Nat → Prop} (h : Pr C W p q s s Z) (hC : C ≤ 800000) (tb : Tb s) (a b n : Int) (hn : n ≤ 9223372036854775807) (t : ByteArray) (sv : Option Addr) (sl sc : Nat) : Calls Try.prog 11 #[.pointer (some ⟨p, 0, none⟩), .pointer (some ⟨q, 0, none⟩), .agg #[.int .i64 3, .int .i64 a, .int .i64 b, .int .i64 n, .string t, .slice sv sl sc]] W fun e w' => e = .returned (.bool true) ∧ DoR C W p q Z w' := by
  have hbel : Bel W (W.alloc (.cells #[.int .i64 3, .int .i64 a, .int .i64 b, .int .i64 n, .string t, .slice sv sl sc] 34)) := (Bel.refl W).alloc _
  have hnew := at_new W (.cells #[.int .i64 3, .int .i64 a, .int .i64 b, .int .i64 n, .string t, .slice sv sl sc] 34)
  have HZ := hide h.lt
  generalize hW0 : W.alloc (.cells #[.int .i64 3, .int .i64 a, .int .i64 b, .int .i64 n, .string t, .slice sv sl sc] 34) = W0 at *
  have hpr := h.bel (hbel.trans (Bel.refl W0).drew)
  have HP := hide (hpr.prog (fun M h _ => doub_any h (by omega) a b n))
  have HD : Hid (∀ w1, Ap2 (C + 1) W0.drew p q Z (s.doubS a b n) s w1 → Calls Try.prog 32 #[.pointer (some ⟨q, 0, none⟩), .int .i64 a, .int .i64 b, .int .i64 n] w1 fun e w' => e = .returned (.int .i64 (s.doubE a b n)) ∧ Ap2 (C + 1) W0.drew p q Z (s.doubS a b n) (s.doubS a b n) w') := hide (fun w1 ha => ha.then (fun Z' hz _ => hz.doc (fun K hk _ => doubD hk tb a b n hn)))
  have d0 : W0.cell? ⟨W.heap.size, 0, none⟩ = some (.int .i64 3) := cell_of hnew
  have d1 : W0.cell? ⟨W.heap.size, 1, none⟩ = some (.int .i64 a) := cell_of hnew
  have d2 : W0.cell? ⟨W.heap.size, 2, none⟩ = some (.int .i64 b) := cell_of hnew
  have d3 : W0.cell? ⟨W.heap.size, 3, none⟩ = some (.int .i64 n) := cell_of hnew
  have HKK : Hid (∀ w1 s1 t1, Ap2 (C + 1) W0.drew p q Z s1 t1 w1 → w1.cell? ⟨W.heap.size, 1, none⟩ = some (.int .i64 a) ∧ w1.cell? ⟨W.heap.size, 2, none⟩ = some (.int .i64 b) ∧ w1.cell? ⟨W.heap.size, 3, none⟩ = some (.int .i64 n)) := hide (fun w1 s1 t1 ha => by
    have hr := ha.row (unhide HZ) (Nat.le_refl _) (show W0.drew.heap[W.heap.size]? = _ from hnew)
    exact ⟨cell_of hr, cell_of hr, cell_of hr⟩)
  have HFN : Hid (∀ w1, Ap2 (C + 1) W0.drew p q Z (s.doubS a b n) (s.doubS a b n) w1 → DoR C W p q Z w1) := hide (fun w1 ha => ⟨_, tb_doub tb a b n, ha.from (hbel.trans (Bel.refl W0).drew)⟩)
  generalize hBB : W.heap.size = B at *
  clear h hbel hnew hpr tb
  generalize s.doubE a b n = rv at *
  generalize s.doubS a b n = s1 at *
  go_enter Try.func11, Try.ntmps11
  go_wp2_with fail
  go_region_held3 (fun W' => W'.cell? ⟨B, 1, none⟩ = some (.int .i64 a) ∧ W'.cell? ⟨B, 2, none⟩ = some (.int .i64 b) ∧ W'.cell? ⟨B, 3, none⟩ = some (.int .i64 n)) (first | exact (unhide HKK) _ _ _ hA2 | exact (unhide HKK) _ _ _ hA1 | exact ⟨d1, d2, d3⟩) ((first
    | (go_at_call 16; refine (unhide HP).mono ?_; rintro e w1 ⟨rfl, hA1⟩)
    | (go_at_call 32; refine ((unhide HD) _ hA1).mono ?_; rintro e w2 ⟨rfl, hA2⟩)))
  all_goals
    have HF := hide ((unhide HFN) _ hA2)
    go_wp2_with fail
    go_ret
    exact ⟨by simp, unhide HF⟩
set_option maxRecDepth 100000 in
set_option maxHeartbeats 4000000 in
theorem does_peek {C : Nat} {W : World} {p q : Nat} {s : PN} {Z : Nat → Prop} (h : Pr C W p q s s Z) (tb : Tb s) (a b n : Int) (hn : n ≤ 9223372036854775807) (t : ByteArray) (sv : Option Addr) (sl sc : Nat) : Calls Try.prog 11 #[.pointer (some ⟨p, 0, none⟩), .pointer (some ⟨q, 0, none⟩), .agg #[.int .i64 4, .int .i64 a, .int .i64 b, .int .i64 n, .string t, .slice sv sl sc]] W fun e w' => e = .returned (.bool true) ∧ DoR C W p q Z w' := by
  have hbel : Bel W (W.alloc (.cells #[.int .i64 4, .int .i64 a, .int .i64 b, .int .i64 n, .string t, .slice sv sl sc] 34)) := (Bel.refl W).alloc _
  have hnew := at_new W (.cells #[.int .i64 4, .int .i64 a, .int .i64 b, .int .i64 n, .string t, .slice sv sl sc] 34)
  have HZ := hide h.lt
  generalize hW0 : W.alloc (.cells #[.int .i64 4, .int .i64 a, .int .i64 b, .int .i64 n, .string t, .slice sv sl sc] 34) = W0 at *
  have hpr := h.bel hbel
  have d0 : W0.cell? ⟨W.heap.size, 0, none⟩ = some (.int .i64 4) := cell_of hnew
  have d1 : W0.cell? ⟨W.heap.size, 1, none⟩ = some (.int .i64 a) := cell_of hnew
  have d2 : W0.cell? ⟨W.heap.size, 2, none⟩ = some (.int .i64 b) := cell_of hnew
  have d3 : W0.cell? ⟨W.heap.size, 3, none⟩ = some (.int .i64 n) := cell_of hnew
  have HKK : Hid (∀ w1 s1 t1, Ap2 C W0 p q Z s1 t1 w1 → w1.cell? ⟨W.heap.size, 1, none⟩ = some (.int .i64 a) ∧ w1.cell? ⟨W.heap.size, 2, none⟩ = some (.int .i64 b) ∧ w1.cell? ⟨W.heap.size, 3, none⟩ = some (.int .i64 n)) := hide (fun w1 s1 t1 ha => by
    have hr := ha.row (unhide HZ) (Nat.le_refl _) hnew
    exact ⟨cell_of hr, cell_of hr, cell_of hr⟩)
  have HP : Hid (Calls Try.prog 18 #[.pointer (some ⟨p, 0, none⟩), .int .i64 a, .int .i64 b, .int .i64 n] W0 fun e w' => e = .returned (.tuple #[.string (s.peek a b n).1, .int .i64 (s.peek a b n).2]) ∧ Ap2 C W0 p q Z s s w') := hide (hpr.prog (fun M h _ => (peek_any h a b n).mono (fun e w' ⟨h1, h2⟩ => ⟨h1, h.aft h2⟩)))
  have HD : Hid (∀ w1, Ap2 C W0 p q Z s s w1 → Calls Try.prog 33 #[.pointer (some ⟨q, 0, none⟩), .int .i64 a, .int .i64 b, .int .i64 n] w1 fun e w' => e = .returned (.tuple #[.string (s.peek a b n).1, .int .i64 (s.peek a b n).2]) ∧ Ap2 C W0 p q Z s s w') := hide (fun w1 ha => ha.then (fun Z' hz _ => hz.doc (fun K hk _ => (peekD hk a b n hn).mono (fun e w' ⟨h1, h2⟩ => ⟨h1, by rw [h2]; exact hk.aft (Bel.refl _)⟩))))
  have HFN : Hid (∀ w1, Ap2 C W0 p q Z s s w1 → DoR C W p q Z w1) := hide (fun w1 ha => ⟨_, tb, (ha.from hbel).mono (Nat.le_succ _)⟩)
  generalize (s.peek a b n).1 = x1 at *
  generalize (s.peek a b n).2 = x2 at *
  generalize hBB : W.heap.size = B at *
  clear h hbel hnew hpr tb
  go_enter Try.func11, Try.ntmps11
  go_wp2_with fail
  refine (unhide HP).mono ?_
  rintro e w1 ⟨rfl, hA1⟩
  obtain ⟨e1, e2, e3⟩ := (unhide HKK) _ _ _ hA1
  have HA1 := hide hA1
  clear hA1 d0 d1 d2 d3
  go_wp2_with fail
  refine ((unhide HD) _ (unhide HA1)).mono ?_
  rintro e w2 ⟨rfl, hA2⟩
  have HF := hide ((unhide HFN) _ hA2)
  clear hA2 e1 e2 e3
  go_wp2_with fail
  go_ret
  exact ⟨by simp, unhide HF⟩
set_option maxRecDepth 100000 in
set_option maxHeartbeats 4000000 in
theorem does_tick {C : Nat} {W : World} {p q : Nat} {s : PN} {Z : Nat → Prop} (h : Pr C W p q s s Z) (tb : Tb s) (a b n : Int) (_hn : n ≤ 9223372036854775807) (t : ByteArray) (sv : Option Addr) (sl sc : Nat) : Calls Try.prog 11 #[.pointer (some ⟨p, 0, none⟩), .pointer (some ⟨q, 0, none⟩), .agg #[.int .i64 6, .int .i64 a, .int .i64 b, .int .i64 n, .string t, .slice sv sl sc]] W fun e w' => e = .returned (.bool true) ∧ DoR C W p q Z w' := by
  have hbel : Bel W (W.alloc (.cells #[.int .i64 6, .int .i64 a, .int .i64 b, .int .i64 n, .string t, .slice sv sl sc] 34)) := (Bel.refl W).alloc _
  have hnew := at_new W (.cells #[.int .i64 6, .int .i64 a, .int .i64 b, .int .i64 n, .string t, .slice sv sl sc] 34)
  have HZ := hide h.lt
  generalize hW0 : W.alloc (.cells #[.int .i64 6, .int .i64 a, .int .i64 b, .int .i64 n, .string t, .slice sv sl sc] 34) = W0 at *
  have hpr := h.bel hbel
  have d0 : W0.cell? ⟨W.heap.size, 0, none⟩ = some (.int .i64 6) := cell_of hnew
  have d1 : W0.cell? ⟨W.heap.size, 1, none⟩ = some (.int .i64 a) := cell_of hnew
  have d2 : W0.cell? ⟨W.heap.size, 2, none⟩ = some (.int .i64 b) := cell_of hnew
  have d3 : W0.cell? ⟨W.heap.size, 3, none⟩ = some (.int .i64 n) := cell_of hnew
  have HKK : Hid (∀ w1 s1 t1, Ap2 C W0 p q Z s1 t1 w1 → w1.cell? ⟨W.heap.size, 1, none⟩ = some (.int .i64 a) ∧ w1.cell? ⟨W.heap.size, 2, none⟩ = some (.int .i64 b) ∧ w1.cell? ⟨W.heap.size, 3, none⟩ = some (.int .i64 n)) := hide (fun w1 s1 t1 ha => by
    have hr := ha.row (unhide HZ) (Nat.le_refl _) hnew
    exact ⟨cell_of hr, cell_of hr, cell_of hr⟩)
  by_cases hm : s.may a
  · obtain ⟨j, rfl, hj⟩ : ∃ j : Nat, a = (j : Int) + 1 ∧ j < s.ms.length := ⟨(a - 1).toNat, by have := hm.1; omega, by have := hm.1; have := hm.2; omega⟩
    have HP : Hid (Calls Try.prog 24 #[.pointer (some ⟨p, 0, none⟩), .int .i64 ((j : Int) + 1)] W0 fun e w' => e = .returned (.tuple #[.int .i64 (wrap64 (s.ms[j].1 + 1)), .int .i64 0]) ∧ Ap2 C W0 p q Z (s.tick j) s w') := hide (hpr.prog (fun M h _ => tick_yes h hj))
    have HD : Hid (∀ w1, Ap2 C W0 p q Z (s.tick j) s w1 → Calls Try.prog 35 #[.pointer (some ⟨q, 0, none⟩), .int .i64 ((j : Int) + 1)] w1 fun e w' => e = .returned (.tuple #[.int .i64 (wrap64 (s.ms[j].1 + 1)), .int .i64 0]) ∧ Ap2 C W0 p q Z (s.tick j) (s.tick j) w') := hide (fun w1 ha => ha.then (fun Z' hz _ => hz.doc (fun K hk _ => tickD_yes hk hj)))
    have HFN : Hid (∀ w1, Ap2 C W0 p q Z (s.tick j) (s.tick j) w1 → DoR C W p q Z w1) := hide (fun w1 ha => ⟨s.tick j, tb, (ha.from hbel).mono (Nat.le_succ _)⟩)
    generalize wrap64 (s.ms[j].1 + 1) = x1 at *
    generalize hBB : W.heap.size = B at *
    clear h hbel hnew hpr tb
    go_enter Try.func11, Try.ntmps11
    go_wp2_with fail
    refine (unhide HP).mono ?_
    rintro e w1 ⟨rfl, hA1⟩
    obtain ⟨e1, e2, e3⟩ := (unhide HKK) _ _ _ hA1
    have HA1 := hide hA1
    clear hA1 d0 d1 d2 d3
    go_wp2_with fail
    refine ((unhide HD) _ (unhide HA1)).mono ?_
    rintro e w2 ⟨rfl, hA2⟩
    have HF := hide ((unhide HFN) _ hA2)
    clear hA2 e1 e2 e3
    go_wp2_with fail
    go_ret
    exact ⟨by simp, unhide HF⟩
  · have HP : Hid (Calls Try.prog 24 #[.pointer (some ⟨p, 0, none⟩), .int .i64 a] W0 fun e w' => e = .returned (.tuple #[.int .i64 0, .int .i64 2]) ∧ Ap2 C W0 p q Z s s w') := hide (hpr.prog (fun M h _ => (tick_no h hm).mono (fun e w' ⟨h1, h2⟩ => ⟨h1, h.aft h2⟩)))
    have HD : Hid (∀ w1, Ap2 C W0 p q Z s s w1 → Calls Try.prog 35 #[.pointer (some ⟨q, 0, none⟩), .int .i64 a] w1 fun e w' => e = .returned (.tuple #[.int .i64 0, .int .i64 2]) ∧ Ap2 C W0 p q Z s s w') := hide (fun w1 ha => ha.then (fun Z' hz _ => hz.doc (fun K hk _ => (tickD_no hk hm).mono (fun e w' ⟨h1, h2⟩ => ⟨h1, by rw [h2]; exact hk.aft (Bel.refl _)⟩))))
    have HFN : Hid (∀ w1, Ap2 C W0 p q Z s s w1 → DoR C W p q Z w1) := hide (fun w1 ha => ⟨_, tb, (ha.from hbel).mono (Nat.le_succ _)⟩)
    generalize hBB : W.heap.size = B at *
    clear h hbel hnew hpr tb
    go_enter Try.func11, Try.ntmps11
    go_wp2_with fail
    refine (unhide HP).mono ?_
    rintro e w1 ⟨rfl, hA1⟩
    obtain ⟨e1, e2, e3⟩ := (unhide HKK) _ _ _ hA1
    have HA1 := hide hA1
    clear hA1 d0 d1 d2 d3
    go_wp2_with fail
    refine ((unhide HD) _ (unhide HA1)).mono ?_
    rintro e w2 ⟨rfl, hA2⟩
    have HF := hide ((unhide HFN) _ hA2)
    clear hA2 e1 e2 e3
    go_wp2_with fail
    go_ret
    exact ⟨by simp, unhide HF⟩
set_option maxRecDepth 100000 in
set_option maxHeartbeats 4000000 in
theorem does_draw {C : Nat} {W : World} {p q : Nat} {s : PN} {Z : Nat → Prop} (h : Pr C W p q s s Z) (tb : Tb s) (a b n : Int) (hn : n ≤ 9223372036854775807) (t : ByteArray) (sv : Option Addr) (sl sc : Nat) : Calls Try.prog 11 #[.pointer (some ⟨p, 0, none⟩), .pointer (some ⟨q, 0, none⟩), .agg #[.int .i64 7, .int .i64 a, .int .i64 b, .int .i64 n, .string t, .slice sv sl sc]] W fun e w' => e = .returned (.bool true) ∧ DoR C W p q Z w' := by
  have hbel : Bel W (W.alloc (.cells #[.int .i64 7, .int .i64 a, .int .i64 b, .int .i64 n, .string t, .slice sv sl sc] 34)) := (Bel.refl W).alloc _
  have hnew := at_new W (.cells #[.int .i64 7, .int .i64 a, .int .i64 b, .int .i64 n, .string t, .slice sv sl sc] 34)
  have HZ := hide h.lt
  generalize hW0 : W.alloc (.cells #[.int .i64 7, .int .i64 a, .int .i64 b, .int .i64 n, .string t, .slice sv sl sc] 34) = W0 at *
  have hpr := h.bel hbel
  have d0 : W0.cell? ⟨W.heap.size, 0, none⟩ = some (.int .i64 7) := cell_of hnew
  have d1 : W0.cell? ⟨W.heap.size, 1, none⟩ = some (.int .i64 a) := cell_of hnew
  have d2 : W0.cell? ⟨W.heap.size, 2, none⟩ = some (.int .i64 b) := cell_of hnew
  have d3 : W0.cell? ⟨W.heap.size, 3, none⟩ = some (.int .i64 n) := cell_of hnew
  have HKK : Hid (∀ w1 s1 t1, Ap2 C W0 p q Z s1 t1 w1 → w1.cell? ⟨W.heap.size, 1, none⟩ = some (.int .i64 a) ∧ w1.cell? ⟨W.heap.size, 2, none⟩ = some (.int .i64 b) ∧ w1.cell? ⟨W.heap.size, 3, none⟩ = some (.int .i64 n)) := hide (fun w1 s1 t1 ha => by
    have hr := ha.row (unhide HZ) (Nat.le_refl _) hnew
    exact ⟨cell_of hr, cell_of hr, cell_of hr⟩)
  by_cases hm : s.may a ∧ 1 ≤ n
  · obtain ⟨j, rfl, hj⟩ : ∃ j : Nat, a = (j : Int) + 1 ∧ j < s.ms.length := ⟨(a - 1).toNat, by have := hm.1.1; omega, by have := hm.1.1; have := hm.1.2; omega⟩
    have HP : Hid (Calls Try.prog 23 #[.pointer (some ⟨p, 0, none⟩), .int .i64 ((j : Int) + 1), .int .i64 n] W0 fun e w' => e = .returned (.tuple #[.int .i64 (drw s.ms[j].2.1 n), .int .i64 0]) ∧ Ap2 C W0 p q Z (s.draw j) s w') := hide (hpr.prog (fun M h _ => draw_yes h hj hm.2 (by omega)))
    have HD : Hid (∀ w1, Ap2 C W0 p q Z (s.draw j) s w1 → Calls Try.prog 36 #[.pointer (some ⟨q, 0, none⟩), .int .i64 ((j : Int) + 1), .int .i64 n] w1 fun e w' => e = .returned (.tuple #[.int .i64 (drw s.ms[j].2.1 n), .int .i64 0]) ∧ Ap2 C W0 p q Z (s.draw j) (s.draw j) w') := hide (fun w1 ha => ha.then (fun Z' hz _ => hz.doc (fun K hk _ => drawD_yes hk hj hm.2 (by omega))))
    have HFN : Hid (∀ w1, Ap2 C W0 p q Z (s.draw j) (s.draw j) w1 → DoR C W p q Z w1) := hide (fun w1 ha => ⟨s.draw j, tb, (ha.from hbel).mono (Nat.le_succ _)⟩)
    generalize drw s.ms[j].2.1 n = x1 at *
    generalize hBB : W.heap.size = B at *
    clear h hbel hnew hpr tb
    go_enter Try.func11, Try.ntmps11
    go_wp2_with fail
    refine (unhide HP).mono ?_
    rintro e w1 ⟨rfl, hA1⟩
    obtain ⟨e1, e2, e3⟩ := (unhide HKK) _ _ _ hA1
    have HA1 := hide hA1
    clear hA1 d0 d1 d2 d3
    go_wp2_with fail
    refine ((unhide HD) _ (unhide HA1)).mono ?_
    rintro e w2 ⟨rfl, hA2⟩
    have HF := hide ((unhide HFN) _ hA2)
    clear hA2 e1 e2 e3
    go_wp2_with fail
    go_ret
    exact ⟨by simp, unhide HF⟩
  · have HP : Hid (Calls Try.prog 23 #[.pointer (some ⟨p, 0, none⟩), .int .i64 a, .int .i64 n] W0 fun e w' => e = .returned (.tuple #[.int .i64 0, .int .i64 2]) ∧ Ap2 C W0 p q Z s s w') := hide (hpr.prog (fun M h _ => (draw_no h hm).mono (fun e w' ⟨h1, h2⟩ => ⟨h1, h.aft h2⟩)))
    have HD : Hid (∀ w1, Ap2 C W0 p q Z s s w1 → Calls Try.prog 36 #[.pointer (some ⟨q, 0, none⟩), .int .i64 a, .int .i64 n] w1 fun e w' => e = .returned (.tuple #[.int .i64 0, .int .i64 2]) ∧ Ap2 C W0 p q Z s s w') := hide (fun w1 ha => ha.then (fun Z' hz _ => hz.doc (fun K hk _ => (drawD_no hk hm).mono (fun e w' ⟨h1, h2⟩ => ⟨h1, by rw [h2]; exact hk.aft (Bel.refl _)⟩))))
    have HFN : Hid (∀ w1, Ap2 C W0 p q Z s s w1 → DoR C W p q Z w1) := hide (fun w1 ha => ⟨_, tb, (ha.from hbel).mono (Nat.le_succ _)⟩)
    generalize hBB : W.heap.size = B at *
    clear h hbel hnew hpr tb
    go_enter Try.func11, Try.ntmps11
    go_wp2_with fail
    refine (unhide HP).mono ?_
    rintro e w1 ⟨rfl, hA1⟩
    obtain ⟨e1, e2, e3⟩ := (unhide HKK) _ _ _ hA1
    have HA1 := hide hA1
    clear hA1 d0 d1 d2 d3
    go_wp2_with fail
    refine ((unhide HD) _ (unhide HA1)).mono ?_
    rintro e w2 ⟨rfl, hA2⟩
    have HF := hide ((unhide HFN) _ hA2)
    clear hA2 e1 e2 e3
    go_wp2_with fail
    go_ret
    exact ⟨by simp, unhide HF⟩
end Go.Proofs.Ytbcgikkdhfbphaa
