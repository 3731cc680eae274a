/- turnedLeft. -/
import Derived.Test.YtkpallbnmckbaaaBal
import Derived.Deep.DrawnRows
namespace Go.Proofs.Ytkpallbnmckbaaa
open Go.RowKit
attribute [local go_sem ↓] Go.wp_at_zero Go.wp_at_succ
theorem keepL {W W' W'' : World} {B rb mb : Nat} {x y z : C} {a1 pl pa pb pr : Value} {l1 la lb lr : List C}
    (h : (N4 W' B x ∧ N6 W' mb z pa pb ∧ N6 W' rb y a1 pr) ∧ (TV W' pl l1 ∧ TV W' pa la ∧ TV W' pb lb ∧ TV W' pr lr) ∧ Bel W W') (hb : Bel W' W'') :
    (N4 W'' B x ∧ N6 W'' mb z pa pb ∧ N6 W'' rb y a1 pr) ∧ (TV W'' pl l1 ∧ TV W'' pa la ∧ TV W'' pb lb ∧ TV W'' pr lr) ∧ Bel W W'' :=
  ⟨⟨h.1.1.bel hb, h.1.2.1.bel hb, h.1.2.2.bel hb⟩, ⟨h.2.1.1.bel hb, h.2.1.2.1.bel hb, h.2.1.2.2.1.bel hb, h.2.1.2.2.2.bel hb⟩, h.2.2.trans hb⟩
theorem keepM {W W' W'' : World} {B rb : Nat} {x y : C} {pl pa pr : Value} {l1 la lr : List C}
    (h : (N4 W' B x ∧ N6 W' rb y pa pr) ∧ (TV W' pl l1 ∧ TV W' pa la ∧ TV W' pr lr) ∧ Bel W W') (hb : Bel W' W'') :
    (N4 W'' B x ∧ N6 W'' rb y pa pr) ∧ (TV W'' pl l1 ∧ TV W'' pa la ∧ TV W'' pr lr) ∧ Bel W W'' :=
  ⟨⟨h.1.1.bel hb, h.1.2.bel hb⟩, ⟨h.2.1.1.bel hb, h.2.1.2.1.bel hb, h.2.1.2.2.bel hb⟩, h.2.2.trans hb⟩
set_option maxRecDepth 100000 in
set_option maxHeartbeats 4000000 in
theorem turnl_one {w : World} {lv : Option Nat} {l : List C} (x : C) (h1 : Tree w lv l) {rb : Nat} {y : C} {ml rr : Option Nat} {m r2 : List C} {n : Nat} (hn : Nod w rb y (pt ml) (pt rr) n) (hm : Tree w ml m) (hr : Tree w rr r2)
    (hc : m.length + 1 < 2 * (r2.length + 1)) (hl : l.length + m.length + r2.length ≤ 100000) :
    Calls Try.prog 46 #[pt lv, vC x, pt (some rb)] w fun e w' => ∃ b, e = .returned (.pointer (some ⟨b, 0, none⟩)) ∧ Bel w w' ∧ TV w' (.pointer (some ⟨b, 0, none⟩)) ((l ++ x :: m) ++ y :: r2) := by
  have hfu := Try.follows
  obtain ⟨k, t, d, v⟩ := x
  obtain ⟨k', t', d', v'⟩ := y
  rw [pt_some]
  show Calls Try.prog 46 #[pt lv, .agg #[.string k, .int .u64 t, .bool d, .string v], .pointer (some ⟨rb, 0, none⟩)] w _
  obtain ⟨W0, hW0⟩ : ∃ W0, W0 = (w.alloc (.cells #[.string k, .int .u64 t, .bool d, .string v] 38)) := ⟨_, rfl⟩
  obtain ⟨W, hW⟩ : ∃ W, W = W0.drew := ⟨_, rfl⟩
  have hbW : Bel w W := by rw [hW, hW0]; exact ((Bel.refl w).alloc _).drew
  have hrow : N4 W w.heap.size (k, t, d, v) := by rw [hW, hW0]; exact N4.of (at_new w _)
  have hN := (hn.bel hbW).n6
  have t1 := (h1.bel hbW).tv
  have t3 := (hr.bel hbW).tv
  have t2 := (hm.bel hbW).tv
  have c5 := hN.2.2.2.2.2
  have c4w : ∀ o, (w.alloc o).cell? ⟨rb, 4, none⟩ = some (pt ml) := fun o => ((Bel.refl w).alloc o).cell hn.c4
  have hS := hide (And.intro (And.intro hrow hN) (And.intro (And.intro t1 (And.intro t2 t3)) (Bel.refl W)))
  have H45 := hide (weight_tv t2 (by first | omega | (simp; omega)))
  have H45' := hide (weight_tv t3 (by omega))
  have HB := hide hbW
  have J1 : Hid (∀ W' pl pm pr, ((W'.cell? ⟨w.heap.size, 0, none⟩ = some (.string k) ∧ W'.cell? ⟨w.heap.size, 1, none⟩ = some (.int .u64 t) ∧ W'.cell? ⟨w.heap.size, 2, none⟩ = some (.bool d) ∧ W'.cell? ⟨w.heap.size, 3, none⟩ = some (.string v)) ∧ (W'.cell? ⟨rb, 0, none⟩ = some (.string k') ∧ W'.cell? ⟨rb, 1, none⟩ = some (.int .u64 t') ∧ W'.cell? ⟨rb, 2, none⟩ = some (.bool d') ∧ W'.cell? ⟨rb, 3, none⟩ = some (.string v') ∧ W'.cell? ⟨rb, 4, none⟩ = some pm ∧ W'.cell? ⟨rb, 5, none⟩ = some pr)) ∧ (TV W' pl l ∧ TV W' pm m ∧ TV W' pr r2) ∧ Bel W W' → Calls Try.prog 41 #[pl, .agg #[.string k, .int .u64 t, .bool d, .string v], pm] W' fun e w' => ∃ b, e = .returned (.pointer (some ⟨b, 0, none⟩)) ∧ Bel W' w' ∧ TV w' (.pointer (some ⟨b, 0, none⟩)) (l ++ (k, t, d, v) :: m)) := hide (fun W' pl pm pr h => joined_tv k t d v h.2.1.1 h.2.1.2.1 (by omega))
  have J2 : Hid (∀ W' pl pm pr b, ((W'.cell? ⟨w.heap.size, 0, none⟩ = some (.string k) ∧ W'.cell? ⟨w.heap.size, 1, none⟩ = some (.int .u64 t) ∧ W'.cell? ⟨w.heap.size, 2, none⟩ = some (.bool d) ∧ W'.cell? ⟨w.heap.size, 3, none⟩ = some (.string v)) ∧ (W'.cell? ⟨rb, 0, none⟩ = some (.string k') ∧ W'.cell? ⟨rb, 1, none⟩ = some (.int .u64 t') ∧ W'.cell? ⟨rb, 2, none⟩ = some (.bool d') ∧ W'.cell? ⟨rb, 3, none⟩ = some (.string v') ∧ W'.cell? ⟨rb, 4, none⟩ = some pm ∧ W'.cell? ⟨rb, 5, none⟩ = some pr)) ∧ (TV W' pl l ∧ TV W' pm m ∧ TV W' pr r2) ∧ Bel W W' → TV W' (.pointer (some ⟨b, 0, none⟩)) (l ++ (k, t, d, v) :: m) → Calls Try.prog 41 #[.pointer (some ⟨b, 0, none⟩), .agg #[.string k', .int .u64 t', .bool d', .string v'], pr] W' fun e w' => ∃ b, e = .returned (.pointer (some ⟨b, 0, none⟩)) ∧ Bel W' w' ∧ TV w' (.pointer (some ⟨b, 0, none⟩)) ((l ++ (k, t, d, v) :: m) ++ (k', t', d', v') :: r2)) := hide (fun W' pl pm pr b h hb => joined_tv k' t' d' v' hb h.2.1.2.2 (by simp; omega))
  generalize pt lv = pl at *
  generalize pt ml = pm at *
  generalize pt rr = pr at *
  have hc' : ¬ (2 * ((r2.length + 1 : Nat) : Int) ≤ ((m.length + 1 : Nat) : Int)) := by omega
  have hb1 : ((r2.length + 1 : Nat) : Int) ≤ 100001 := by omega
  generalize r2.length + 1 = n2 at H45' hc' hb1
  generalize m.length + 1 = n1 at H45 hc'
  have hw2 : IntKind.i64.wrap (2 * (n2 : Int)) = 2 * (n2 : Int) := wrapI (by omega) (by omega)
  have HW := hide hW
  have HW0 := hide hW0
  clear hW hW0 h1 hm hr hn hrow hN t1 t2 t3 hbW hl hc
  go_enter Try.func46, Try.ntmps46
  go_wp2_with fail
  rw [← unhide HW0]
  refine wp_region_still_lit hfu (by kernel_rfl) ?_
  change wpStill _ _ (World.drew W0) (fun a' => (_ : Exit → Act → World → Prop) Exit.normal a' (World.drew W0)) _ _
  rw [← unhide HW]
  repeat still_step
  still_call (unhide H45)
  repeat still_step
  still_call (unhide H45')
  repeat still_step
  refine wpStill_nil ?_
  go_wp2_with fail
  go_region_held3 (fun W' => ((W'.cell? ⟨w.heap.size, 0, none⟩ = some (.string k) ∧ W'.cell? ⟨w.heap.size, 1, none⟩ = some (.int .u64 t) ∧ W'.cell? ⟨w.heap.size, 2, none⟩ = some (.bool d) ∧ W'.cell? ⟨w.heap.size, 3, none⟩ = some (.string v)) ∧ (W'.cell? ⟨rb, 0, none⟩ = some (.string k') ∧ W'.cell? ⟨rb, 1, none⟩ = some (.int .u64 t') ∧ W'.cell? ⟨rb, 2, none⟩ = some (.bool d') ∧ W'.cell? ⟨rb, 3, none⟩ = some (.string v') ∧ W'.cell? ⟨rb, 4, none⟩ = some pm ∧ W'.cell? ⟨rb, 5, none⟩ = some pr)) ∧ (TV W' pl l ∧ TV W' pm m ∧ TV W' pr r2) ∧ Bel W W') (first | exact keepM (unhide hS) hB2 | exact keepM (unhide hS) hB1 | exact keepM (unhide hS) (Bel.refl _).drew) ((first | (go_at_call 41; with_reducible refine (J1.out _ _ _ _ (by assumption)).mono ?_; rintro e w1 ⟨b1, rfl, hb1, ht1⟩; have hB1 := (Bel.refl W).drew.trans hb1) | (go_at_call 41; with_reducible refine (J2.out _ _ _ _ _ (by assumption) (by assumption)).mono ?_; rintro e w2 ⟨b2, rfl, hb2, ht2⟩; have hB2 := hB1.trans hb2)))
  go_wp2_with fail
  go_ret
  exact ⟨b2, rfl, ((unhide HB).trans ((Bel.refl _).drew.trans hb1)).trans hb2, ht2⟩
set_option maxRecDepth 100000 in
set_option maxHeartbeats 8000000 in
theorem turnl_two {w : World} {lv : Option Nat} {l : List C} (x : C) (h1 : Tree w lv l) {rb mb : Nat} {y z : C} {av bv rr : Option Nat} {la lb r2 : List C} {n : Nat} (hn : Nod w rb y (pt (some mb)) (pt rr) n) (hz : Nod w mb z (pt av) (pt bv) (la ++ z :: lb).length) (ha : Tree w av la) (hb : Tree w bv lb) (hr : Tree w rr r2)
    (hc : ¬ ((la ++ z :: lb).length + 1 < 2 * (r2.length + 1))) (hl : l.length + (la ++ z :: lb).length + r2.length ≤ 100000) :
    Calls Try.prog 46 #[pt lv, vC x, pt (some rb)] w fun e w' => ∃ b, e = .returned (.pointer (some ⟨b, 0, none⟩)) ∧ Bel w w' ∧ TV w' (.pointer (some ⟨b, 0, none⟩)) ((l ++ x :: la) ++ z :: (lb ++ y :: r2)) := by
  have hl3 : l.length + la.length + lb.length + r2.length ≤ 100000 := by simp at hl; omega
  have hfu := Try.follows
  obtain ⟨k, t, d, v⟩ := x
  obtain ⟨k', t', d', v'⟩ := y
  obtain ⟨kz, tz, dz, vz⟩ := z
  rw [pt_some]
  show Calls Try.prog 46 #[pt lv, .agg #[.string k, .int .u64 t, .bool d, .string v], .pointer (some ⟨rb, 0, none⟩)] w _
  obtain ⟨W0, hW0⟩ : ∃ W0, W0 = (w.alloc (.cells #[.string k, .int .u64 t, .bool d, .string v] 38)) := ⟨_, rfl⟩
  obtain ⟨W, hW⟩ : ∃ W, W = W0.drew := ⟨_, rfl⟩
  have hbW : Bel w W := by rw [hW, hW0]; exact ((Bel.refl w).alloc _).drew
  have hrow : N4 W w.heap.size (k, t, d, v) := by rw [hW, hW0]; exact N4.of (at_new w _)
  have hN := (hn.bel hbW).n6
  have t1 := (h1.bel hbW).tv
  have t3 := (hr.bel hbW).tv
  have hZ := (hz.bel hbW).n6
  have ta := (ha.bel hbW).tv
  have tb := (hb.bel hbW).tv
  have t2 := ((Tree.mk hz rfl ha hb).bel hbW).tv
  rw [pt_some] at t2 hN
  have c5 := hN.2.2.2.2.2
  have c4w : ∀ o, (w.alloc o).cell? ⟨rb, 4, none⟩ = some (.pointer (some ⟨mb, 0, none⟩)) := fun o => ((Bel.refl w).alloc o).cell hn.c4
  have hS := hide (And.intro (And.intro hrow (And.intro hZ hN)) (And.intro (And.intro t1 (And.intro ta (And.intro tb t3))) (Bel.refl W)))
  have H45 := hide (weight_tv t2 (by first | omega | (simp; omega)))
  have H45' := hide (weight_tv t3 (by omega))
  have HB := hide hbW
  obtain ⟨pm, hpm⟩ : ∃ pm : Value, pm = .pointer (some ⟨mb, 0, none⟩) := ⟨_, rfl⟩
  rw [← hpm] at hS
  have J1 : Hid (∀ W' pl pa pb pr pm, ((W'.cell? ⟨w.heap.size, 0, none⟩ = some (.string k) ∧ W'.cell? ⟨w.heap.size, 1, none⟩ = some (.int .u64 t) ∧ W'.cell? ⟨w.heap.size, 2, none⟩ = some (.bool d) ∧ W'.cell? ⟨w.heap.size, 3, none⟩ = some (.string v)) ∧ (W'.cell? ⟨mb, 0, none⟩ = some (.string kz) ∧ W'.cell? ⟨mb, 1, none⟩ = some (.int .u64 tz) ∧ W'.cell? ⟨mb, 2, none⟩ = some (.bool dz) ∧ W'.cell? ⟨mb, 3, none⟩ = some (.string vz) ∧ W'.cell? ⟨mb, 4, none⟩ = some pa ∧ W'.cell? ⟨mb, 5, none⟩ = some pb) ∧ (W'.cell? ⟨rb, 0, none⟩ = some (.string k') ∧ W'.cell? ⟨rb, 1, none⟩ = some (.int .u64 t') ∧ W'.cell? ⟨rb, 2, none⟩ = some (.bool d') ∧ W'.cell? ⟨rb, 3, none⟩ = some (.string v') ∧ W'.cell? ⟨rb, 4, none⟩ = some pm ∧ W'.cell? ⟨rb, 5, none⟩ = some pr)) ∧ (TV W' pl l ∧ TV W' pa la ∧ TV W' pb lb ∧ TV W' pr r2) ∧ Bel W W' → Calls Try.prog 41 #[pl, .agg #[.string k, .int .u64 t, .bool d, .string v], pa] W' fun e w' => ∃ b, e = .returned (.pointer (some ⟨b, 0, none⟩)) ∧ Bel W' w' ∧ TV w' (.pointer (some ⟨b, 0, none⟩)) (l ++ (k, t, d, v) :: la)) := hide (fun W' pl pa pb pr pm h => joined_tv k t d v h.2.1.1 h.2.1.2.1 (by omega))
  have J2 : Hid (∀ W' pl pa pb pr pm, ((W'.cell? ⟨w.heap.size, 0, none⟩ = some (.string k) ∧ W'.cell? ⟨w.heap.size, 1, none⟩ = some (.int .u64 t) ∧ W'.cell? ⟨w.heap.size, 2, none⟩ = some (.bool d) ∧ W'.cell? ⟨w.heap.size, 3, none⟩ = some (.string v)) ∧ (W'.cell? ⟨mb, 0, none⟩ = some (.string kz) ∧ W'.cell? ⟨mb, 1, none⟩ = some (.int .u64 tz) ∧ W'.cell? ⟨mb, 2, none⟩ = some (.bool dz) ∧ W'.cell? ⟨mb, 3, none⟩ = some (.string vz) ∧ W'.cell? ⟨mb, 4, none⟩ = some pa ∧ W'.cell? ⟨mb, 5, none⟩ = some pb) ∧ (W'.cell? ⟨rb, 0, none⟩ = some (.string k') ∧ W'.cell? ⟨rb, 1, none⟩ = some (.int .u64 t') ∧ W'.cell? ⟨rb, 2, none⟩ = some (.bool d') ∧ W'.cell? ⟨rb, 3, none⟩ = some (.string v') ∧ W'.cell? ⟨rb, 4, none⟩ = some pm ∧ W'.cell? ⟨rb, 5, none⟩ = some pr)) ∧ (TV W' pl l ∧ TV W' pa la ∧ TV W' pb lb ∧ TV W' pr r2) ∧ Bel W W' → Calls Try.prog 41 #[pb, .agg #[.string k', .int .u64 t', .bool d', .string v'], pr] W' fun e w' => ∃ b, e = .returned (.pointer (some ⟨b, 0, none⟩)) ∧ Bel W' w' ∧ TV w' (.pointer (some ⟨b, 0, none⟩)) (lb ++ (k', t', d', v') :: r2)) := hide (fun W' pl pa pb pr pm h => joined_tv k' t' d' v' h.2.1.2.2.1 h.2.1.2.2.2 (by omega))
  have J3 : Hid (∀ W' b b', TV W' (.pointer (some ⟨b, 0, none⟩)) (l ++ (k, t, d, v) :: la) → TV W' (.pointer (some ⟨b', 0, none⟩)) (lb ++ (k', t', d', v') :: r2) → Calls Try.prog 41 #[.pointer (some ⟨b, 0, none⟩), .agg #[.string kz, .int .u64 tz, .bool dz, .string vz], .pointer (some ⟨b', 0, none⟩)] W' fun e w' => ∃ b, e = .returned (.pointer (some ⟨b, 0, none⟩)) ∧ Bel W' w' ∧ TV w' (.pointer (some ⟨b, 0, none⟩)) ((l ++ (k, t, d, v) :: la) ++ (kz, tz, dz, vz) :: (lb ++ (k', t', d', v') :: r2))) := hide (fun W' b b' h h' => joined_tv kz tz dz vz h h' (by simp; omega))
  have cz4 := hZ.2.2.2.2.1
  generalize pt lv = pl at *
  generalize pt av = pa at *
  generalize pt bv = pb at *
  generalize pt rr = pr at *
  have hc' : (2 * ((r2.length + 1 : Nat) : Int) ≤ (((la ++ (kz, tz, dz, vz) :: lb).length + 1 : Nat) : Int)) := by omega
  have hb1 : ((r2.length + 1 : Nat) : Int) ≤ 100001 := by omega
  generalize r2.length + 1 = n2 at H45' hc' hb1
  generalize (la ++ (kz, tz, dz, vz) :: lb).length + 1 = n1 at H45 hc'
  have hw2 : IntKind.i64.wrap (2 * (n2 : Int)) = 2 * (n2 : Int) := wrapI (by omega) (by omega)
  have HW := hide hW
  have HW0 := hide hW0
  subst hpm
  clear hW hW0 h1 hr hn hrow hN hZ t1 t2 t3 ta tb ha hb hz hbW hl hc hl3
  go_enter Try.func46, Try.ntmps46
  go_wp2_with fail
  rw [← unhide HW0]
  refine wp_region_still_lit hfu (by kernel_rfl) ?_
  change wpStill _ _ (World.drew W0) (fun a' => (_ : Exit → Act → World → Prop) Exit.normal a' (World.drew W0)) _ _
  rw [← unhide HW]
  repeat still_step
  still_call (unhide H45)
  repeat still_step
  still_call (unhide H45')
  repeat still_step
  refine wpStill_nil ?_
  go_wp2_with fail
  go_region_held3 (fun W' => ((W'.cell? ⟨w.heap.size, 0, none⟩ = some (.string k) ∧ W'.cell? ⟨w.heap.size, 1, none⟩ = some (.int .u64 t) ∧ W'.cell? ⟨w.heap.size, 2, none⟩ = some (.bool d) ∧ W'.cell? ⟨w.heap.size, 3, none⟩ = some (.string v)) ∧ (W'.cell? ⟨mb, 0, none⟩ = some (.string kz) ∧ W'.cell? ⟨mb, 1, none⟩ = some (.int .u64 tz) ∧ W'.cell? ⟨mb, 2, none⟩ = some (.bool dz) ∧ W'.cell? ⟨mb, 3, none⟩ = some (.string vz) ∧ W'.cell? ⟨mb, 4, none⟩ = some pa ∧ W'.cell? ⟨mb, 5, none⟩ = some pb) ∧ (W'.cell? ⟨rb, 0, none⟩ = some (.string k') ∧ W'.cell? ⟨rb, 1, none⟩ = some (.int .u64 t') ∧ W'.cell? ⟨rb, 2, none⟩ = some (.bool d') ∧ W'.cell? ⟨rb, 3, none⟩ = some (.string v') ∧ W'.cell? ⟨rb, 4, none⟩ = some (.pointer (some ⟨mb, 0, none⟩)) ∧ W'.cell? ⟨rb, 5, none⟩ = some pr)) ∧ (TV W' pl l ∧ TV W' pa la ∧ TV W' pb lb ∧ TV W' pr r2) ∧ Bel W W') (first | exact keepL (unhide hS) hB3 | exact keepL (unhide hS) hB1 | exact keepL (unhide hS) hB2 | exact keepL (unhide hS) (Bel.refl _).drew) ((first | (go_at_call 41; with_reducible refine (J1.out _ _ _ _ _ _ (by assumption)).mono ?_; rintro e w1 ⟨b1, rfl, hb1, ht1⟩; first | (have hB1 := hB2.trans hb1; have ht2' := ht2.bel hb1) | have hB1 := (Bel.refl W).drew.trans hb1) | (go_at_call 41; with_reducible refine (J2.out _ _ _ _ _ _ (by assumption)).mono ?_; rintro e w2 ⟨b2, rfl, hb2, ht2⟩; first | (have hB2 := hB1.trans hb2; have ht1' := ht1.bel hb2) | have hB2 := (Bel.refl W).drew.trans hb2) | (go_at_call 41; with_reducible refine (J3.out _ _ _ (by first | exact ht1' | exact ht1) (by first | exact ht2' | exact ht2)).mono ?_; rintro e w3 ⟨b3, rfl, hb3, ht3⟩; first | have hB3 := hB2.trans hb3 | have hB3 := hB1.trans hb3)))
  all_goals
    go_wp2_with fail
    go_ret
    exact ⟨b3, rfl, (unhide HB).trans hB3, ht3⟩
end Go.Proofs.Ytkpallbnmckbaaa
