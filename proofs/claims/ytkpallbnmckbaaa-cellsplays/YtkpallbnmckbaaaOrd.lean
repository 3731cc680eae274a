/- The document's Cmp; CellsOrder's walk. -/
import Derived.Test.YtkpallbnmckbaaaAli
namespace Go.Proofs.Ytkpallbnmckbaaa
open Go.RowKit
theorem cmp_key (a b : C) (h : a.k ≠ b.k) : cmpC a b = if Op.bytesLess a.k.data.toList b.k.data.toList then -1 else 1 := by
  have h0 : Lib.compareBytes a.k.data.toList b.k.data.toList ≠ 0 := fun e => h (key_ext ((cmpB_eq _ _).1 e))
  unfold cmpC
  rw [if_neg h0, ← cmpB_lt]
  rcases cmpB_one a.k.data.toList b.k.data.toList with e | e | e
  · rw [e]; rfl
  · exact absurd e h0
  · rw [e]; rfl
theorem cmp_time (a b : C) (h : a.k = b.k) : cmpC a b = if a.t = b.t then 0 else if b.t < a.t then -1 else 1 := by
  unfold cmpC
  rw [if_pos (by rw [h]; exact cmpB_self _)]
  unfold cmpI
  by_cases e : a.t = b.t
  · simp [e]
  · rw [if_neg e]
    by_cases e2 : b.t < a.t
    · simp [e2]
    · rw [if_neg e2, if_neg e2, if_pos (by omega)]
theorem keyb {a b : ByteArray} (h : a ≠ b) : (a.toList == b.toList) = false := by
  rw [beq_eq_false_iff_ne, Lib.toList_data, Lib.toList_data]
  exact fun e => h (key_ext e)
set_option maxRecDepth 100000 in
theorem dcmp_any (k : ByteArray) (t : Int) (d : Bool) (v k' : ByteArray) (t' : Int) (d' : Bool) (v' : ByteArray) (w : World) : Calls Try.prog 22 #[.agg #[.string k, .int .u64 t, .bool d, .string v], .agg #[.string k', .int .u64 t', .bool d', .string v']] w fun e w' => e = .returned (.int .i64 (cmpC (k, t, d, v) (k', t', d', v'))) ∧ Bel w w' := by
  have HB := hide (((Bel.refl w).alloc (.cells #[.string k, .int .u64 t, .bool d, .string v] 38)).alloc (.cells #[.string k', .int .u64 t', .bool d', .string v'] 38))
  by_cases hk : k = k'
  · have HE : Hid (cmpC (k, t, d, v) (k', t', d', v') = if t = t' then 0 else if t' < t then -1 else 1) := hide (cmp_time _ _ hk)
    subst hk
    by_cases ht : t = t'
    · have HZ : Hid (cmpC (k, t, d, v) (k, t', d', v') = 0) := hide (by rw [HE.out, if_pos ht])
      subst ht
      go_enter Try.func22, Try.ntmps22
      go_wp2_with fail
      go_ret
      exact ⟨by rw [HZ.out]; rfl, HB.out⟩
    · have hb : (t != t') = true := by simpa using ht
      by_cases h2 : t' < t
      · have HZ : Hid (cmpC (k, t, d, v) (k, t', d', v') = -1) := hide (by rw [HE.out, if_neg ht, if_pos h2])
        clear ht
        go_enter Try.func22, Try.ntmps22
        go_wp2_with fail
        go_ret
        exact ⟨by rw [HZ.out]; rfl, HB.out⟩
      · have HZ : Hid (cmpC (k, t, d, v) (k, t', d', v') = 1) := hide (by rw [HE.out, if_neg ht, if_neg h2])
        clear ht
        go_enter Try.func22, Try.ntmps22
        go_wp2_with fail
        go_ret
        exact ⟨by rw [HZ.out]; rfl, HB.out⟩
  · have hb := keyb hk
    have HE : Hid (cmpC (k, t, d, v) (k', t', d', v') = if Op.bytesLess k.data.toList k'.data.toList then -1 else 1) := hide (cmp_key _ _ hk)
    rcases hz : Op.bytesLess k.data.toList k'.data.toList with _ | _
    · have HZ : Hid (cmpC (k, t, d, v) (k', t', d', v') = 1) := hide (by rw [HE.out, hz]; rfl)
      have hz' : Op.bytesLess k.toList k'.toList = false := by rw [Lib.toList_data, Lib.toList_data]; exact hz
      clear hk hz HE
      go_enter Try.func22, Try.ntmps22
      go_wp2_with fail
      go_ret
      exact ⟨by rw [HZ.out]; rfl, HB.out⟩
    · have HZ : Hid (cmpC (k, t, d, v) (k', t', d', v') = -1) := hide (by rw [HE.out, hz]; rfl)
      have hz' : Op.bytesLess k.toList k'.toList = true := by rw [Lib.toList_data, Lib.toList_data]; exact hz
      clear hk hz HE
      go_enter Try.func22, Try.ntmps22
      go_wp2_with fail
      go_ret
      exact ⟨by rw [HZ.out]; rfl, HB.out⟩
theorem cmpk (k : ByteArray) (t : Int) (d : Bool) (v k' : ByteArray) (t' : Int) (d' : Bool) (v' : ByteArray) (w : World) : Calls Try.prog 21 #[.agg #[.string k, .int .u64 t, .bool d, .string v], .agg #[.string k', .int .u64 t', .bool d', .string v']] w fun e w' => e = .returned (.int .i64 (cmpC (k, t, d, v) (k', t', d', v'))) ∧ Bel w w' := cmp_any (k, t, d, v) (k', t', d', v') w
theorem N4.all {W : World} {B : Nat} {k : ByteArray} {t : Int} {d : Bool} {v : ByteArray} (h : N4 W B (k, t, d, v)) : (∀ p : BelBy W, p.W.cell? ⟨B, 0, none⟩ = some (.string k)) ∧ (∀ p : BelBy W, p.W.cell? ⟨B, 1, none⟩ = some (.int .u64 t)) ∧ (∀ p : BelBy W, p.W.cell? ⟨B, 2, none⟩ = some (.bool d)) ∧ (∀ p : BelBy W, p.W.cell? ⟨B, 3, none⟩ = some (.string v)) :=
  ⟨fun p => p.h.cell h.1, fun p => p.h.cell h.2.1, fun p => p.h.cell h.2.2.1, fun p => p.h.cell h.2.2.2⟩
set_option maxRecDepth 100000 in
set_option maxHeartbeats 2000000 in
theorem order_law (a b c : C) (w : World) : Calls Try.prog 4 #[vC a, vC b, vC c] w fun e w' => e = .returned (.bool true) ∧ Bel w w' := by
  have hfu := Try.follows
  obtain ⟨k, t, d, v⟩ := a
  obtain ⟨k', t', d', v'⟩ := b
  obtain ⟨k2, t2, d2, v2⟩ := c
  show Calls Try.prog 4 #[.agg #[.string k, .int .u64 t, .bool d, .string v], .agg #[.string k', .int .u64 t', .bool d', .string v'], .agg #[.string k2, .int .u64 t2, .bool d2, .string v2]] w _
  obtain ⟨W0, hW0⟩ : ∃ W0, W0 = ((w.alloc (.cells #[.string k, .int .u64 t, .bool d, .string v] 38)).alloc (.cells #[.string k', .int .u64 t', .bool d', .string v'] 38)).alloc (.cells #[.string k2, .int .u64 t2, .bool d2, .string v2] 38) := ⟨_, rfl⟩
  have hb0 : Bel w W0 := by rw [hW0]; exact (((Bel.refl w).alloc _).alloc _).alloc _
  have n1 : N4 W0 w.heap.size (k, t, d, v) := by rw [hW0]; exact N4.of ((((Bel.refl _).alloc _).alloc _).row (at_new w _))
  have n2 : N4 W0 (w.heap.size + 1) (k', t', d', v') := by rw [hW0]; exact N4.of (((Bel.refl _).alloc _).row (at_new2 w _ _))
  have n3 : N4 W0 (w.heap.size + 1 + 1) (k2, t2, d2, v2) := by
    rw [hW0]
    have := at_new2 (w.alloc (.cells #[.string k, .int .u64 t, .bool d, .string v] 38)) (.cells #[.string k', .int .u64 t', .bool d', .string v'] 38) (.cells #[.string k2, .int .u64 t2, .bool d2, .string v2] 38)
    rw [show (w.alloc (.cells #[.string k, .int .u64 t, .bool d, .string v] 38)).heap.size = w.heap.size + 1 by simp] at this
    exact N4.of this
  obtain ⟨e0, e1, e2, e3⟩ := n1.all
  obtain ⟨f0, f1, f2, f3⟩ := n2.all
  obtain ⟨g0, g1, g2, g3⟩ := n3.all
  have hne := BelBy.some W0
  have HN := hide (And.intro n1 (And.intro n2 n3))
  have HB := hide hb0
  have HW0 := hide hW0
  clear n1 n2 n3 hb0 hW0
  go_enter Try.func4, Try.ntmps4
  go_wp2_with fail
  rw [← unhide HW0]
  refine wp_region_bel hfu (by kernel_rfl) ?_
  repeat (go_big_quiet_step (first | (go_at_call 21; refine calls_by (cmpk _ _ _ _ _ _ _ _ _))))
  refine wpQuiet_nil ?_
  rintro W1 ⟨p1, rfl⟩
  have HB1 := hide ((unhide HB).trans p1.h)
  have HN1 : Hid (N4 p1.W w.heap.size (k, t, d, v) ∧ N4 p1.W (w.heap.size + 1) (k', t', d', v') ∧ N4 p1.W (w.heap.size + 1 + 1) (k2, t2, d2, v2)) := hide ⟨(unhide HN).1.bel p1.h, (unhide HN).2.1.bel p1.h, (unhide HN).2.2.bel p1.h⟩
  generalize p1.W = W at *
  clear e0 e1 e2 e3 f0 f1 f2 f3 g0 g1 g2 g3 hne HN p1 HB
  obtain ⟨a0, a1, a2, a3⟩ := HN1.out.1
  obtain ⟨b0, b1, b2, b3⟩ := HN1.out.2.1
  have D := hide (fun W => dcmp_any k t d v k' t' d' v' W)
  have E := hide (fun W => cmpk k t d v k2 t2 d2 v2 W)
  have h1 := cmpC_one (k, t, d, v) (k', t', d', v')
  have hy := cmpC_anti (k', t', d', v') (k, t, d, v)
  have htr := cmpC_cm.tr (k, t, d, v) (k', t', d', v') (k2, t2, d2, v2)
  rw [hy]
  clear hy
  generalize cmpC (k, t, d, v) (k', t', d', v') = x at *
  generalize cmpC (k', t', d', v') (k2, t2, d2, v2) = z at *
  generalize cmpC (k, t, d, v) (k2, t2, d2, v2) = u at *
  rcases h1 with rfl | rfl | rfl
  · by_cases hz : 0 < z
    · clear htr
      go_wp2_with (first | (go_at_call 22; refine (D.out _).mono ?_; rintro e w2 ⟨rfl, hb2⟩; obtain ⟨c0, c1, c2, c3⟩ := HN1.out.1.bel hb2; obtain ⟨d0, d1, d2', d3⟩ := HN1.out.2.2.bel hb2; have HB2 := hide ((unhide HB1).trans hb2); clear hb2) | (go_at_call 21; refine (E.out _).mono ?_; rintro e w3 ⟨rfl, hb3⟩; have HB3 := hide ((unhide HB2).trans hb3); clear hb3) | (go_at_call 8; refine (alive_any _).mono ?_; rintro e w4 ⟨rfl, hb4⟩; have HB4 := hide hb4; clear hb4))
      go_ret
      exact ⟨rfl, HB2.out.trans HB4.out⟩
    · have hu := htr (by omega) (by omega)
      clear htr
      go_wp2_with (first | (go_at_call 22; refine (D.out _).mono ?_; rintro e w2 ⟨rfl, hb2⟩; obtain ⟨c0, c1, c2, c3⟩ := HN1.out.1.bel hb2; obtain ⟨d0, d1, d2', d3⟩ := HN1.out.2.2.bel hb2; have HB2 := hide ((unhide HB1).trans hb2); clear hb2) | (go_at_call 21; refine (E.out _).mono ?_; rintro e w3 ⟨rfl, hb3⟩; have HB3 := hide ((unhide HB2).trans hb3); clear hb3) | (go_at_call 8; refine (alive_any _).mono ?_; rintro e w4 ⟨rfl, hb4⟩; have HB4 := hide hb4; clear hb4))
      go_ret
      exact ⟨rfl, HB3.out.trans HB4.out⟩
  · by_cases hz : 0 < z
    · clear htr
      go_wp2_with (first | (go_at_call 22; refine (D.out _).mono ?_; rintro e w2 ⟨rfl, hb2⟩; obtain ⟨c0, c1, c2, c3⟩ := HN1.out.1.bel hb2; obtain ⟨d0, d1, d2', d3⟩ := HN1.out.2.2.bel hb2; have HB2 := hide ((unhide HB1).trans hb2); clear hb2) | (go_at_call 21; refine (E.out _).mono ?_; rintro e w3 ⟨rfl, hb3⟩; have HB3 := hide ((unhide HB2).trans hb3); clear hb3) | (go_at_call 8; refine (alive_any _).mono ?_; rintro e w4 ⟨rfl, hb4⟩; have HB4 := hide hb4; clear hb4))
      go_ret
      exact ⟨rfl, HB2.out.trans HB4.out⟩
    · have hu := htr (by omega) (by omega)
      clear htr
      go_wp2_with (first | (go_at_call 22; refine (D.out _).mono ?_; rintro e w2 ⟨rfl, hb2⟩; obtain ⟨c0, c1, c2, c3⟩ := HN1.out.1.bel hb2; obtain ⟨d0, d1, d2', d3⟩ := HN1.out.2.2.bel hb2; have HB2 := hide ((unhide HB1).trans hb2); clear hb2) | (go_at_call 21; refine (E.out _).mono ?_; rintro e w3 ⟨rfl, hb3⟩; have HB3 := hide ((unhide HB2).trans hb3); clear hb3) | (go_at_call 8; refine (alive_any _).mono ?_; rintro e w4 ⟨rfl, hb4⟩; have HB4 := hide hb4; clear hb4))
      go_ret
      exact ⟨rfl, HB3.out.trans HB4.out⟩
  · clear htr
    go_wp2_with (first | (go_at_call 22; refine (D.out _).mono ?_; rintro e w2 ⟨rfl, hb2⟩; obtain ⟨c0, c1, c2, c3⟩ := HN1.out.1.bel hb2; obtain ⟨d0, d1, d2', d3⟩ := HN1.out.2.2.bel hb2; have HB2 := hide ((unhide HB1).trans hb2); clear hb2) | (go_at_call 21; refine (E.out _).mono ?_; rintro e w3 ⟨rfl, hb3⟩; have HB3 := hide ((unhide HB2).trans hb3); clear hb3) | (go_at_call 8; refine (alive_any _).mono ?_; rintro e w4 ⟨rfl, hb4⟩; have HB4 := hide hb4; clear hb4))
    go_ret
    exact ⟨rfl, HB2.out.trans HB4.out⟩
end Go.Proofs.Ytkpallbnmckbaaa
