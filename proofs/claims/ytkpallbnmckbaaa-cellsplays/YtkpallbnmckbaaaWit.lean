/- with: a cell is put into a tree. -/
import Derived.Test.YtkpallbnmckbaaaBlc
namespace Go.Proofs.Ytkpallbnmckbaaa
open Go.RowKit
attribute [local go_sem ↓] Go.wp_at_zero Go.wp_at_succ
theorem keepN {W W' : World} {B rb : Nat} {x y : C} {pl pr : Value} {l1 l2 : List C} (h : (N4 W B x ∧ N6 W rb y pl pr) ∧ (TV W pl l1 ∧ TV W pr l2)) (hb : Bel W W') : (N4 W' B x ∧ N6 W' rb y pl pr) ∧ (TV W' pl l1 ∧ TV W' pr l2) := ⟨⟨h.1.1.bel hb, h.1.2.bel hb⟩, h.2.1.bel hb, h.2.2.bel hb⟩
theorem keepW {W W' : World} {B rb : Nat} {x y : C} {pl pr : Value} {l1 l2 : List C} (h : (N4 W B x ∧ N6 W rb y pl pr) ∧ (TV W pl l1 ∧ TV W pr l2)) (hb : Bel W W') : (N4 W' B x ∧ N6 W' rb y pl pr) ∧ (TV W' pl l1 ∧ TV W' pr l2) ∧ Bel W W' := ⟨⟨h.1.1.bel hb, h.1.2.bel hb⟩, ⟨h.2.1.bel hb, h.2.2.bel hb⟩, hb⟩
theorem bal_tv {w : World} {p q : Value} {l r : List C} (k : ByteArray) (t : Int) (d : Bool) (v : ByteArray) (h1 : TV w p l) (h2 : TV w q r) (hl : l.length + r.length ≤ 100000) :
    Calls Try.prog 42 #[p, .agg #[.string k, .int .u64 t, .bool d, .string v], q] w fun e w' => ∃ b, e = .returned (.pointer (some ⟨b, 0, none⟩)) ∧ Bel w w' ∧ TV w' (.pointer (some ⟨b, 0, none⟩)) (l ++ (k, t, d, v) :: r) := by
  obtain ⟨o1, rfl, h1⟩ := h1
  obtain ⟨o2, rfl, h2⟩ := h2
  exact bal_any (k, t, d, v) h1 h2 hl
set_option maxRecDepth 100000 in
set_option maxHeartbeats 8000000 in
theorem with_left {w : World} (c x : C) {rb : Nat} {lv rv : Option Nat} {l1 l2 : List C} {n : Nat} (hn : Nod w rb x (pt lv) (pt rv) n) (h1 : Tree w lv l1) (h2 : Tree w rv l2) (hl : l1.length + l2.length ≤ 90000)
    (hc : cmpC c x = -1)
    (ih : ∀ W', TV W' (pt lv) l1 → Calls Try.prog 26 #[pt lv, vC c] W' fun e w' => ∃ b, e = .returned (.pointer (some ⟨b, 0, none⟩)) ∧ Bel W' w' ∧ TV w' (.pointer (some ⟨b, 0, none⟩)) (ins c l1)) :
    Calls Try.prog 26 #[pt (some rb), vC c] w fun e w' => ∃ b, e = .returned (.pointer (some ⟨b, 0, none⟩)) ∧ Bel w w' ∧ TV w' (.pointer (some ⟨b, 0, none⟩)) (ins c l1 ++ x :: l2) := by
  have hfu := Try.follows
  obtain ⟨k, t, d, v⟩ := c
  obtain ⟨k', t', d', v'⟩ := x
  rw [pt_some]
  show Calls Try.prog 26 #[.pointer (some ⟨rb, 0, none⟩), .agg #[.string k, .int .u64 t, .bool d, .string v]] w _
  obtain ⟨W0, hW0⟩ : ∃ W0, W0 = (w.alloc (.cells #[.string k, .int .u64 t, .bool d, .string v] 38)) := ⟨_, rfl⟩
  have hbW : Bel w W0 := by rw [hW0]; exact ((Bel.refl w).alloc _)
  have hrow : N4 W0 w.heap.size (k, t, d, v) := by rw [hW0]; exact N4.of (at_new w _)
  have hN := (hn.bel hbW).n6
  have t1 := (h1.bel hbW).tv
  have t3 := (h2.bel hbW).tv
  have hS := hide (And.intro (And.intro hrow hN) (And.intro t1 t3))
  have C21 := hide (fun W => cmp_any (k, t, d, v) (k', t', d', v') W)
  unfold vC at C21
  rw [hc] at C21
  have e0 : ∀ p : BelBy W0, p.W.cell? ⟨w.heap.size, 0, none⟩ = some (.string k) := fun p => p.h.cell hrow.1
  have e1 : ∀ p : BelBy W0, p.W.cell? ⟨w.heap.size, 1, none⟩ = some (.int .u64 t) := fun p => p.h.cell hrow.2.1
  have e2 : ∀ p : BelBy W0, p.W.cell? ⟨w.heap.size, 2, none⟩ = some (.bool d) := fun p => p.h.cell hrow.2.2.1
  have e3 : ∀ p : BelBy W0, p.W.cell? ⟨w.heap.size, 3, none⟩ = some (.string v) := fun p => p.h.cell hrow.2.2.2
  have f0 : ∀ p : BelBy W0, p.W.cell? ⟨rb, 0, none⟩ = some (.string k') := fun p => p.h.cell hN.1
  have f1 : ∀ p : BelBy W0, p.W.cell? ⟨rb, 1, none⟩ = some (.int .u64 t') := fun p => p.h.cell hN.2.1
  have f2 : ∀ p : BelBy W0, p.W.cell? ⟨rb, 2, none⟩ = some (.bool d') := fun p => p.h.cell hN.2.2.1
  have f3 : ∀ p : BelBy W0, p.W.cell? ⟨rb, 3, none⟩ = some (.string v') := fun p => p.h.cell hN.2.2.2.1
  have hne := BelBy.some W0
  have J1 : Hid (∀ W' pr W, (((W'.cell? ⟨w.heap.size, 0, none⟩ = some (.string k) ∧ W'.cell? ⟨w.heap.size, 1, none⟩ = some (.int .u64 t) ∧ W'.cell? ⟨w.heap.size, 2, none⟩ = some (.bool d) ∧ W'.cell? ⟨w.heap.size, 3, none⟩ = some (.string v)) ∧ (W'.cell? ⟨rb, 0, none⟩ = some (.string k') ∧ W'.cell? ⟨rb, 1, none⟩ = some (.int .u64 t') ∧ W'.cell? ⟨rb, 2, none⟩ = some (.bool d') ∧ W'.cell? ⟨rb, 3, none⟩ = some (.string v') ∧ W'.cell? ⟨rb, 4, none⟩ = some (pt lv) ∧ W'.cell? ⟨rb, 5, none⟩ = some pr)) ∧ (TV W' (pt lv) l1 ∧ TV W' pr l2) ∧ Bel W W') → Calls Try.prog 26 #[pt lv, .agg #[.string k, .int .u64 t, .bool d, .string v]] W' fun e w' => ∃ b, e = .returned (.pointer (some ⟨b, 0, none⟩)) ∧ Bel W' w' ∧ TV w' (.pointer (some ⟨b, 0, none⟩)) (ins (k, t, d, v) l1)) := hide (fun W' pr W h => ih W' h.2.1.1)
  have J2 : Hid (∀ W' pl pr W b, ((W'.cell? ⟨w.heap.size, 0, none⟩ = some (.string k) ∧ W'.cell? ⟨w.heap.size, 1, none⟩ = some (.int .u64 t) ∧ W'.cell? ⟨w.heap.size, 2, none⟩ = some (.bool d) ∧ W'.cell? ⟨w.heap.size, 3, none⟩ = some (.string v)) ∧ (W'.cell? ⟨rb, 0, none⟩ = some (.string k') ∧ W'.cell? ⟨rb, 1, none⟩ = some (.int .u64 t') ∧ W'.cell? ⟨rb, 2, none⟩ = some (.bool d') ∧ W'.cell? ⟨rb, 3, none⟩ = some (.string v') ∧ W'.cell? ⟨rb, 4, none⟩ = some pl ∧ W'.cell? ⟨rb, 5, none⟩ = some pr)) ∧ (TV W' pl l1 ∧ TV W' pr l2) ∧ Bel W W' → TV W' (.pointer (some ⟨b, 0, none⟩)) (ins (k, t, d, v) l1) → Calls Try.prog 42 #[.pointer (some ⟨b, 0, none⟩), .agg #[.string k', .int .u64 t', .bool d', .string v'], pr] W' fun e w' => ∃ b, e = .returned (.pointer (some ⟨b, 0, none⟩)) ∧ Bel W' w' ∧ TV w' (.pointer (some ⟨b, 0, none⟩)) (ins (k, t, d, v) l1 ++ (k', t', d', v') :: l2)) := hide (fun W' pl pr W b h hb => bal_tv k' t' d' v' hb h.2.1.2 (by have := ins_len (k, t, d, v) l1; omega))
  clear ih
  generalize pt lv = pl at *
  generalize pt rv = pr at *
  have HB := hide hbW
  have HW0 := hide hW0
  clear hW0 h1 h2 hn hrow hN t1 t3 hbW hl hc
  go_enter Try.func26, Try.ntmps26
  go_wp2_with fail
  rw [← unhide HW0]
  refine wp_region_bel hfu (by kernel_rfl) ?_
  repeat (go_big_quiet_step (first | (go_at_call 21; refine calls_by (C21.out _))))
  refine wpQuiet_nil ?_
  rintro W1 ⟨p1, rfl⟩
  have HB1 := hide ((unhide HB).trans p1.h)
  have hS1 := hide (keepN (unhide hS) p1.h)
  generalize p1.W = W at *
  clear e0 e1 e2 e3 f0 f1 f2 f3 hS p1 hne
  go_wp2_with fail
  go_region_held3 (fun W' => ((W'.cell? ⟨w.heap.size, 0, none⟩ = some (.string k) ∧ W'.cell? ⟨w.heap.size, 1, none⟩ = some (.int .u64 t) ∧ W'.cell? ⟨w.heap.size, 2, none⟩ = some (.bool d) ∧ W'.cell? ⟨w.heap.size, 3, none⟩ = some (.string v)) ∧ (W'.cell? ⟨rb, 0, none⟩ = some (.string k') ∧ W'.cell? ⟨rb, 1, none⟩ = some (.int .u64 t') ∧ W'.cell? ⟨rb, 2, none⟩ = some (.bool d') ∧ W'.cell? ⟨rb, 3, none⟩ = some (.string v') ∧ W'.cell? ⟨rb, 4, none⟩ = some pl ∧ W'.cell? ⟨rb, 5, none⟩ = some pr)) ∧ (TV W' pl l1 ∧ TV W' pr l2) ∧ Bel W W') (first | exact keepW (unhide hS1) hB2 | exact keepW (unhide hS1) hB1 | exact keepW (unhide hS1) (Bel.refl _).drew) ((first | (go_at_call 26; with_reducible refine (J1.out _ _ _ (by assumption)).mono ?_; rintro e w1 ⟨b1, rfl, hb1, ht1⟩; have hB1 := (Bel.refl W).drew.trans hb1) | (go_at_call 42; with_reducible refine (J2.out _ _ _ _ _ (by assumption) (by assumption)).mono ?_; rintro e w2 ⟨b2, rfl, hb2, ht2⟩; have hB2 := hB1.trans hb2)))
  go_wp2_with fail
  go_ret
  exact ⟨_, rfl, ((unhide HB1).trans hB1).trans hb2, ht2⟩
set_option maxRecDepth 100000 in
set_option maxHeartbeats 8000000 in
theorem with_right {w : World} (c x : C) {rb : Nat} {lv rv : Option Nat} {l1 l2 : List C} {n : Nat} (hn : Nod w rb x (pt lv) (pt rv) n) (h1 : Tree w lv l1) (h2 : Tree w rv l2) (hl : l1.length + l2.length ≤ 90000)
    (hc : cmpC c x = 1)
    (ih : ∀ W', TV W' (pt rv) l2 → Calls Try.prog 26 #[pt rv, vC c] W' fun e w' => ∃ b, e = .returned (.pointer (some ⟨b, 0, none⟩)) ∧ Bel W' w' ∧ TV w' (.pointer (some ⟨b, 0, none⟩)) (ins c l2)) :
    Calls Try.prog 26 #[pt (some rb), vC c] w fun e w' => ∃ b, e = .returned (.pointer (some ⟨b, 0, none⟩)) ∧ Bel w w' ∧ TV w' (.pointer (some ⟨b, 0, none⟩)) (l1 ++ x :: ins c l2) := by
  have hfu := Try.follows
  obtain ⟨k, t, d, v⟩ := c
  obtain ⟨k', t', d', v'⟩ := x
  rw [pt_some]
  show Calls Try.prog 26 #[.pointer (some ⟨rb, 0, none⟩), .agg #[.string k, .int .u64 t, .bool d, .string v]] w _
  obtain ⟨W0, hW0⟩ : ∃ W0, W0 = (w.alloc (.cells #[.string k, .int .u64 t, .bool d, .string v] 38)) := ⟨_, rfl⟩
  have hbW : Bel w W0 := by rw [hW0]; exact ((Bel.refl w).alloc _)
  have hrow : N4 W0 w.heap.size (k, t, d, v) := by rw [hW0]; exact N4.of (at_new w _)
  have hN := (hn.bel hbW).n6
  have t1 := (h1.bel hbW).tv
  have t3 := (h2.bel hbW).tv
  have hS := hide (And.intro (And.intro hrow hN) (And.intro t1 t3))
  have C21 := hide (fun W => cmp_any (k, t, d, v) (k', t', d', v') W)
  unfold vC at C21
  rw [hc] at C21
  have e0 : ∀ p : BelBy W0, p.W.cell? ⟨w.heap.size, 0, none⟩ = some (.string k) := fun p => p.h.cell hrow.1
  have e1 : ∀ p : BelBy W0, p.W.cell? ⟨w.heap.size, 1, none⟩ = some (.int .u64 t) := fun p => p.h.cell hrow.2.1
  have e2 : ∀ p : BelBy W0, p.W.cell? ⟨w.heap.size, 2, none⟩ = some (.bool d) := fun p => p.h.cell hrow.2.2.1
  have e3 : ∀ p : BelBy W0, p.W.cell? ⟨w.heap.size, 3, none⟩ = some (.string v) := fun p => p.h.cell hrow.2.2.2
  have f0 : ∀ p : BelBy W0, p.W.cell? ⟨rb, 0, none⟩ = some (.string k') := fun p => p.h.cell hN.1
  have f1 : ∀ p : BelBy W0, p.W.cell? ⟨rb, 1, none⟩ = some (.int .u64 t') := fun p => p.h.cell hN.2.1
  have f2 : ∀ p : BelBy W0, p.W.cell? ⟨rb, 2, none⟩ = some (.bool d') := fun p => p.h.cell hN.2.2.1
  have f3 : ∀ p : BelBy W0, p.W.cell? ⟨rb, 3, none⟩ = some (.string v') := fun p => p.h.cell hN.2.2.2.1
  have hne := BelBy.some W0
  have J1 : Hid (∀ W' pl W, (((W'.cell? ⟨w.heap.size, 0, none⟩ = some (.string k) ∧ W'.cell? ⟨w.heap.size, 1, none⟩ = some (.int .u64 t) ∧ W'.cell? ⟨w.heap.size, 2, none⟩ = some (.bool d) ∧ W'.cell? ⟨w.heap.size, 3, none⟩ = some (.string v)) ∧ (W'.cell? ⟨rb, 0, none⟩ = some (.string k') ∧ W'.cell? ⟨rb, 1, none⟩ = some (.int .u64 t') ∧ W'.cell? ⟨rb, 2, none⟩ = some (.bool d') ∧ W'.cell? ⟨rb, 3, none⟩ = some (.string v') ∧ W'.cell? ⟨rb, 4, none⟩ = some pl ∧ W'.cell? ⟨rb, 5, none⟩ = some (pt rv))) ∧ (TV W' pl l1 ∧ TV W' (pt rv) l2) ∧ Bel W W') → Calls Try.prog 26 #[pt rv, .agg #[.string k, .int .u64 t, .bool d, .string v]] W' fun e w' => ∃ b, e = .returned (.pointer (some ⟨b, 0, none⟩)) ∧ Bel W' w' ∧ TV w' (.pointer (some ⟨b, 0, none⟩)) (ins (k, t, d, v) l2)) := hide (fun W' pl W h => ih W' h.2.1.2)
  have J2 : Hid (∀ W' pl pr W b, ((W'.cell? ⟨w.heap.size, 0, none⟩ = some (.string k) ∧ W'.cell? ⟨w.heap.size, 1, none⟩ = some (.int .u64 t) ∧ W'.cell? ⟨w.heap.size, 2, none⟩ = some (.bool d) ∧ W'.cell? ⟨w.heap.size, 3, none⟩ = some (.string v)) ∧ (W'.cell? ⟨rb, 0, none⟩ = some (.string k') ∧ W'.cell? ⟨rb, 1, none⟩ = some (.int .u64 t') ∧ W'.cell? ⟨rb, 2, none⟩ = some (.bool d') ∧ W'.cell? ⟨rb, 3, none⟩ = some (.string v') ∧ W'.cell? ⟨rb, 4, none⟩ = some pl ∧ W'.cell? ⟨rb, 5, none⟩ = some pr)) ∧ (TV W' pl l1 ∧ TV W' pr l2) ∧ Bel W W' → TV W' (.pointer (some ⟨b, 0, none⟩)) (ins (k, t, d, v) l2) → Calls Try.prog 42 #[pl, .agg #[.string k', .int .u64 t', .bool d', .string v'], .pointer (some ⟨b, 0, none⟩)] W' fun e w' => ∃ b, e = .returned (.pointer (some ⟨b, 0, none⟩)) ∧ Bel W' w' ∧ TV w' (.pointer (some ⟨b, 0, none⟩)) (l1 ++ (k', t', d', v') :: ins (k, t, d, v) l2)) := hide (fun W' pl pr W b h hb => bal_tv k' t' d' v' h.2.1.1 hb (by have := ins_len (k, t, d, v) l2; omega))
  clear ih
  generalize pt lv = pl at *
  generalize pt rv = pr at *
  have HB := hide hbW
  have HW0 := hide hW0
  clear hW0 h1 h2 hn hrow hN t1 t3 hbW hl hc
  go_enter Try.func26, Try.ntmps26
  go_wp2_with fail
  rw [← unhide HW0]
  refine wp_region_bel hfu (by kernel_rfl) ?_
  repeat (go_big_quiet_step (first | (go_at_call 21; refine calls_by (C21.out _))))
  refine wpQuiet_nil ?_
  rintro W1 ⟨p1, rfl⟩
  have HB1 := hide ((unhide HB).trans p1.h)
  have hS1 := hide (keepN (unhide hS) p1.h)
  generalize p1.W = W at *
  clear e0 e1 e2 e3 f0 f1 f2 f3 hS p1 hne
  go_wp2_with fail
  go_region_held3 (fun W' => ((W'.cell? ⟨w.heap.size, 0, none⟩ = some (.string k) ∧ W'.cell? ⟨w.heap.size, 1, none⟩ = some (.int .u64 t) ∧ W'.cell? ⟨w.heap.size, 2, none⟩ = some (.bool d) ∧ W'.cell? ⟨w.heap.size, 3, none⟩ = some (.string v)) ∧ (W'.cell? ⟨rb, 0, none⟩ = some (.string k') ∧ W'.cell? ⟨rb, 1, none⟩ = some (.int .u64 t') ∧ W'.cell? ⟨rb, 2, none⟩ = some (.bool d') ∧ W'.cell? ⟨rb, 3, none⟩ = some (.string v') ∧ W'.cell? ⟨rb, 4, none⟩ = some pl ∧ W'.cell? ⟨rb, 5, none⟩ = some pr)) ∧ (TV W' pl l1 ∧ TV W' pr l2) ∧ Bel W W') (first | exact keepW (unhide hS1) hB2 | exact keepW (unhide hS1) hB1 | exact keepW (unhide hS1) (Bel.refl _).drew) ((first | (go_at_call 26; with_reducible refine (J1.out _ _ _ (by assumption)).mono ?_; rintro e w1 ⟨b1, rfl, hb1, ht1⟩; have hB1 := (Bel.refl W).drew.trans hb1) | (go_at_call 42; with_reducible refine (J2.out _ _ _ _ _ (by assumption) (by assumption)).mono ?_; rintro e w2 ⟨b2, rfl, hb2, ht2⟩; have hB2 := hB1.trans hb2)))
  go_wp2_with fail
  go_ret
  exact ⟨_, rfl, ((unhide HB1).trans hB1).trans hb2, ht2⟩
set_option maxRecDepth 100000 in
set_option maxHeartbeats 8000000 in
theorem with_same {w : World} (c x : C) {rb : Nat} {lv rv : Option Nat} {l1 l2 : List C} {n : Nat} (hn : Nod w rb x (pt lv) (pt rv) n) (h1 : Tree w lv l1) (h2 : Tree w rv l2) (hl : l1.length + l2.length ≤ 90000)
    (hc : cmpC c x = 0) :
    Calls Try.prog 26 #[pt (some rb), vC c] w fun e w' => ∃ b, e = .returned (.pointer (some ⟨b, 0, none⟩)) ∧ Bel w w' ∧ TV w' (.pointer (some ⟨b, 0, none⟩)) (l1 ++ c :: l2) := by
  have hfu := Try.follows
  obtain ⟨k, t, d, v⟩ := c
  obtain ⟨k', t', d', v'⟩ := x
  rw [pt_some]
  show Calls Try.prog 26 #[.pointer (some ⟨rb, 0, none⟩), .agg #[.string k, .int .u64 t, .bool d, .string v]] w _
  obtain ⟨W0, hW0⟩ : ∃ W0, W0 = (w.alloc (.cells #[.string k, .int .u64 t, .bool d, .string v] 38)) := ⟨_, rfl⟩
  have hbW : Bel w W0 := by rw [hW0]; exact ((Bel.refl w).alloc _)
  have hrow : N4 W0 w.heap.size (k, t, d, v) := by rw [hW0]; exact N4.of (at_new w _)
  have hN := (hn.bel hbW).n6
  have t1 := (h1.bel hbW).tv
  have t3 := (h2.bel hbW).tv
  have hS := hide (And.intro (And.intro hrow hN) (And.intro t1 t3))
  have C21 := hide (fun W => cmp_any (k, t, d, v) (k', t', d', v') W)
  unfold vC at C21
  rw [hc] at C21
  have e0 : ∀ p : BelBy W0, p.W.cell? ⟨w.heap.size, 0, none⟩ = some (.string k) := fun p => p.h.cell hrow.1
  have e1 : ∀ p : BelBy W0, p.W.cell? ⟨w.heap.size, 1, none⟩ = some (.int .u64 t) := fun p => p.h.cell hrow.2.1
  have e2 : ∀ p : BelBy W0, p.W.cell? ⟨w.heap.size, 2, none⟩ = some (.bool d) := fun p => p.h.cell hrow.2.2.1
  have e3 : ∀ p : BelBy W0, p.W.cell? ⟨w.heap.size, 3, none⟩ = some (.string v) := fun p => p.h.cell hrow.2.2.2
  have f0 : ∀ p : BelBy W0, p.W.cell? ⟨rb, 0, none⟩ = some (.string k') := fun p => p.h.cell hN.1
  have f1 : ∀ p : BelBy W0, p.W.cell? ⟨rb, 1, none⟩ = some (.int .u64 t') := fun p => p.h.cell hN.2.1
  have f2 : ∀ p : BelBy W0, p.W.cell? ⟨rb, 2, none⟩ = some (.bool d') := fun p => p.h.cell hN.2.2.1
  have f3 : ∀ p : BelBy W0, p.W.cell? ⟨rb, 3, none⟩ = some (.string v') := fun p => p.h.cell hN.2.2.2.1
  have hne := BelBy.some W0
  have J2 : Hid (∀ W' pl pr W, ((W'.cell? ⟨w.heap.size, 0, none⟩ = some (.string k) ∧ W'.cell? ⟨w.heap.size, 1, none⟩ = some (.int .u64 t) ∧ W'.cell? ⟨w.heap.size, 2, none⟩ = some (.bool d) ∧ W'.cell? ⟨w.heap.size, 3, none⟩ = some (.string v)) ∧ (W'.cell? ⟨rb, 0, none⟩ = some (.string k') ∧ W'.cell? ⟨rb, 1, none⟩ = some (.int .u64 t') ∧ W'.cell? ⟨rb, 2, none⟩ = some (.bool d') ∧ W'.cell? ⟨rb, 3, none⟩ = some (.string v') ∧ W'.cell? ⟨rb, 4, none⟩ = some pl ∧ W'.cell? ⟨rb, 5, none⟩ = some pr)) ∧ (TV W' pl l1 ∧ TV W' pr l2) ∧ Bel W W' → Calls Try.prog 41 #[pl, .agg #[.string k, .int .u64 t, .bool d, .string v], pr] W' fun e w' => ∃ b, e = .returned (.pointer (some ⟨b, 0, none⟩)) ∧ Bel W' w' ∧ TV w' (.pointer (some ⟨b, 0, none⟩)) (l1 ++ (k, t, d, v) :: l2)) := hide (fun W' pl pr W h => joined_tv k t d v h.2.1.1 h.2.1.2 (by omega))
  generalize pt lv = pl at *
  generalize pt rv = pr at *
  have HB := hide hbW
  have HW0 := hide hW0
  clear hW0 h1 h2 hn hrow hN t1 t3 hbW hl hc
  go_enter Try.func26, Try.ntmps26
  go_wp2_with fail
  rw [← unhide HW0]
  refine wp_region_bel hfu (by kernel_rfl) ?_
  repeat (go_big_quiet_step (first | (go_at_call 21; refine calls_by (C21.out _))))
  refine wpQuiet_nil ?_
  rintro W1 ⟨p1, rfl⟩
  have HB1 := hide ((unhide HB).trans p1.h)
  have hS1 := hide (keepN (unhide hS) p1.h)
  generalize p1.W = W at *
  clear e0 e1 e2 e3 f0 f1 f2 f3 hS p1 hne
  go_wp2_with fail
  go_region_held3 (fun W' => ((W'.cell? ⟨w.heap.size, 0, none⟩ = some (.string k) ∧ W'.cell? ⟨w.heap.size, 1, none⟩ = some (.int .u64 t) ∧ W'.cell? ⟨w.heap.size, 2, none⟩ = some (.bool d) ∧ W'.cell? ⟨w.heap.size, 3, none⟩ = some (.string v)) ∧ (W'.cell? ⟨rb, 0, none⟩ = some (.string k') ∧ W'.cell? ⟨rb, 1, none⟩ = some (.int .u64 t') ∧ W'.cell? ⟨rb, 2, none⟩ = some (.bool d') ∧ W'.cell? ⟨rb, 3, none⟩ = some (.string v') ∧ W'.cell? ⟨rb, 4, none⟩ = some pl ∧ W'.cell? ⟨rb, 5, none⟩ = some pr)) ∧ (TV W' pl l1 ∧ TV W' pr l2) ∧ Bel W W') (first | exact keepW (unhide hS1) hB2 | exact keepW (unhide hS1) hB1 | exact keepW (unhide hS1) (Bel.refl _).drew) ((first | (go_at_call 41; with_reducible refine (J2.out _ _ _ _ (by assumption)).mono ?_; rintro e w1 ⟨b1, rfl, hb1, ht1⟩; have hB1 := (Bel.refl W).drew.trans hb1)))
  go_wp2_with fail
  go_ret
  exact ⟨_, rfl, (unhide HB1).trans hB1, ht1⟩
end Go.Proofs.Ytkpallbnmckbaaa
