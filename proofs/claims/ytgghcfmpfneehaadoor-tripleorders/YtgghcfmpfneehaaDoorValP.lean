/- What the library's Compare and Or and the program's order and Cmp return; for every two values. -/
import Derived.Test.YtgghcfmpfneehaaDoorShelfB
import Derived.Test.YtgghcfmpfneehaaDoorValN
import Derived.Test.YtgghcfmpfneehaaDoorValI
import Derived.Deep.RegionHeld
namespace Go.Proofs.YtgghcfmpfneehaaDoor
open Go.RowKit
theorem nan_79 (x : Int) (w : World) : Calls Tryd.prog 83 #[.int .u8 x] w fun e w' => e = .returned (.bool false) ∧ w' = w := by
  go_enter Tryd.func83, Tryd.ntmps83
  go_wp2
  go_ret
  exact ⟨rfl, rfl⟩
set_option maxRecDepth 100000 in
theorem cmp_79 (x y : Int) (w : World) : Calls Tryd.prog 73 #[.int .u8 x, .int .u8 y] w fun e w' => e = .returned (.int .i64 (cmpI x y)) ∧ w' = w := by
  have C := hide (fun z W => nan_79 z W)
  by_cases h1 : x < y
  · have HE : Hid (cmpI x y = -1) := hide (by unfold cmpI; rw [if_pos h1])
    go_enter Tryd.func73, Tryd.ntmps73
    go_wp2_with (go_at_call 83; refine (C.out _ _).mono ?_; rintro e w' ⟨rfl, rfl⟩)
    go_ret
    exact ⟨by rw [HE.out]; rfl, rfl⟩
  · by_cases h2 : y < x
    · have HE : Hid (cmpI x y = 1) := hide (by unfold cmpI; rw [if_neg h1, if_pos h2])
      have i1 : y ≤ x := by omega
      clear h1
      go_enter Tryd.func73, Tryd.ntmps73
      go_wp2_with (go_at_call 83; refine (C.out _ _).mono ?_; rintro e w' ⟨rfl, rfl⟩)
      go_ret
      exact ⟨by rw [HE.out]; rfl, rfl⟩
    · obtain rfl : x = y := by omega
      have HE : Hid (cmpI x x = 0) := hide (cmpI_self x)
      clear h1 h2
      go_enter Tryd.func73, Tryd.ntmps73
      go_wp2_with (go_at_call 83; refine (C.out _ _).mono ?_; rintro e w' ⟨rfl, rfl⟩)
      go_ret
      exact ⟨by rw [HE.out]; rfl, rfl⟩
theorem nan_80 (x : Int) (w : World) : Calls Tryd.prog 84 #[.int .u8 x] w fun e w' => e = .returned (.bool false) ∧ w' = w := by
  go_enter Tryd.func84, Tryd.ntmps84
  go_wp2
  go_ret
  exact ⟨rfl, rfl⟩
set_option maxRecDepth 100000 in
theorem cmp_80 (x y : Int) (w : World) : Calls Tryd.prog 74 #[.int .u8 x, .int .u8 y] w fun e w' => e = .returned (.int .i64 (cmpI x y)) ∧ w' = w := by
  have C := hide (fun z W => nan_80 z W)
  by_cases h1 : x < y
  · have HE : Hid (cmpI x y = -1) := hide (by unfold cmpI; rw [if_pos h1])
    go_enter Tryd.func74, Tryd.ntmps74
    go_wp2_with (go_at_call 84; refine (C.out _ _).mono ?_; rintro e w' ⟨rfl, rfl⟩)
    go_ret
    exact ⟨by rw [HE.out]; rfl, rfl⟩
  · by_cases h2 : y < x
    · have HE : Hid (cmpI x y = 1) := hide (by unfold cmpI; rw [if_neg h1, if_pos h2])
      have i1 : y ≤ x := by omega
      clear h1
      go_enter Tryd.func74, Tryd.ntmps74
      go_wp2_with (go_at_call 84; refine (C.out _ _).mono ?_; rintro e w' ⟨rfl, rfl⟩)
      go_ret
      exact ⟨by rw [HE.out]; rfl, rfl⟩
    · obtain rfl : x = y := by omega
      have HE : Hid (cmpI x x = 0) := hide (cmpI_self x)
      clear h1 h2
      go_enter Tryd.func74, Tryd.ntmps74
      go_wp2_with (go_at_call 84; refine (C.out _ _).mono ?_; rintro e w' ⟨rfl, rfl⟩)
      go_ret
      exact ⟨by rw [HE.out]; rfl, rfl⟩
theorem nan_81 (x : Int) (w : World) : Calls Tryd.prog 85 #[.int .i64 x] w fun e w' => e = .returned (.bool false) ∧ w' = w := by
  go_enter Tryd.func85, Tryd.ntmps85
  go_wp2
  go_ret
  exact ⟨rfl, rfl⟩
set_option maxRecDepth 100000 in
theorem cmp_81 (x y : Int) (w : World) : Calls Tryd.prog 75 #[.int .i64 x, .int .i64 y] w fun e w' => e = .returned (.int .i64 (cmpI x y)) ∧ w' = w := by
  have C := hide (fun z W => nan_81 z W)
  by_cases h1 : x < y
  · have HE : Hid (cmpI x y = -1) := hide (by unfold cmpI; rw [if_pos h1])
    go_enter Tryd.func75, Tryd.ntmps75
    go_wp2_with (go_at_call 85; refine (C.out _ _).mono ?_; rintro e w' ⟨rfl, rfl⟩)
    go_ret
    exact ⟨by rw [HE.out]; rfl, rfl⟩
  · by_cases h2 : y < x
    · have HE : Hid (cmpI x y = 1) := hide (by unfold cmpI; rw [if_neg h1, if_pos h2])
      have i1 : y ≤ x := by omega
      clear h1
      go_enter Tryd.func75, Tryd.ntmps75
      go_wp2_with (go_at_call 85; refine (C.out _ _).mono ?_; rintro e w' ⟨rfl, rfl⟩)
      go_ret
      exact ⟨by rw [HE.out]; rfl, rfl⟩
    · obtain rfl : x = y := by omega
      have HE : Hid (cmpI x x = 0) := hide (cmpI_self x)
      clear h1 h2
      go_enter Tryd.func75, Tryd.ntmps75
      go_wp2_with (go_at_call 85; refine (C.out _ _).mono ?_; rintro e w' ⟨rfl, rfl⟩)
      go_ret
      exact ⟨by rw [HE.out]; rfl, rfl⟩
theorem nan_83 (x : Int) (w : World) : Calls Tryd.prog 63 #[.int .u64 x] w fun e w' => e = .returned (.bool false) ∧ w' = w := by
  go_enter Tryd.func63, Tryd.ntmps63
  go_wp2
  go_ret
  exact ⟨rfl, rfl⟩
set_option maxRecDepth 100000 in
theorem cmp_83 (x y : Int) (w : World) : Calls Tryd.prog 40 #[.int .u64 x, .int .u64 y] w fun e w' => e = .returned (.int .i64 (cmpI x y)) ∧ w' = w := by
  have C := hide (fun z W => nan_83 z W)
  by_cases h1 : x < y
  · have HE : Hid (cmpI x y = -1) := hide (by unfold cmpI; rw [if_pos h1])
    go_enter Tryd.func40, Tryd.ntmps40
    go_wp2_with (go_at_call 63; refine (C.out _ _).mono ?_; rintro e w' ⟨rfl, rfl⟩)
    go_ret
    exact ⟨by rw [HE.out]; rfl, rfl⟩
  · by_cases h2 : y < x
    · have HE : Hid (cmpI x y = 1) := hide (by unfold cmpI; rw [if_neg h1, if_pos h2])
      have i1 : y ≤ x := by omega
      clear h1
      go_enter Tryd.func40, Tryd.ntmps40
      go_wp2_with (go_at_call 63; refine (C.out _ _).mono ?_; rintro e w' ⟨rfl, rfl⟩)
      go_ret
      exact ⟨by rw [HE.out]; rfl, rfl⟩
    · obtain rfl : x = y := by omega
      have HE : Hid (cmpI x x = 0) := hide (cmpI_self x)
      clear h1 h2
      go_enter Tryd.func40, Tryd.ntmps40
      go_wp2_with (go_at_call 63; refine (C.out _ _).mono ?_; rintro e w' ⟨rfl, rfl⟩)
      go_ret
      exact ⟨by rw [HE.out]; rfl, rfl⟩
set_option maxRecDepth 100000 in
theorem or_any (xs : List Int) (hl : xs.length = 5) (w : World) (B : Nat) (hc : ∀ j, (h : j < xs.length) → w.cell? ⟨B, j, none⟩ = some (.int .i64 xs[j])) :
    Calls Tryd.prog 38 #[.slice (some ⟨B, 0, none⟩) 5 5] w fun e w' => e = .returned (.int .i64 (orL xs)) ∧ w' = w := by
  go_enter Tryd.func38, Tryd.ntmps38
  go_wp2_with fail
  go_loop [8] (fun vi => ∃ k : Nat, vi = .int .i64 k ∧ k ≤ 5 ∧ Hid (orL xs = orL (xs.drop k))) (fun vi => 5 - (intOf vi).toNat)
  case atStart => exact ⟨0, rfl, by omega, by simp [hide]⟩
  case round =>
    obtain ⟨k, rfl, hk, HH⟩ := hrel
    by_cases hlt : k < 5
    · have hk5 : k < xs.length := by omega
      have hcl := hc k hk5
      have hd : xs.drop k = xs[k] :: xs.drop (k + 1) := List.drop_eq_getElem_cons hk5
      by_cases hz : xs[k] = 0
      · have HN : Hid (orL xs = orL (xs.drop (k + 1))) := hide (by rw [HH.out, hd, hz, or_zero])
        rw [hz] at hcl
        clear hc hd hz
        go_wp2_with fail
        exact ⟨⟨k + 1, by first | rfl | (congr 1), by omega, HN⟩, by simp [intOf]; omega⟩
      · have HN : Hid (orL xs = xs[k]) := hide (by rw [HH.out, hd, or_first hz])
        have hzz : (xs[k] == 0) = false := ne_beq hz
        have hz2 : (xs[k] != 0) = true := by unfold bne; rw [hzz]; rfl
        clear hc hd hz
        go_wp2_with fail
        go_ret
        exact ⟨by rw [HN.out]; rfl, rfl⟩
    · have HN : Hid (orL xs = 0) := hide (by rw [HH.out, List.drop_eq_nil_of_le (by omega)]; rfl)
      have i0 : (5 : Int) ≤ (k : Int) := by omega
      go_wp2_with fail
      go_ret
      exact ⟨by rw [HN.out]; rfl, rfl⟩
theorem ints_new (W : World) (xs : List Int) : ∀ j, (h : j < xs.length) → (W.alloc (.cells (xs.map fun x => Value.int .i64 x).toArray 3)).cell? ⟨W.heap.size, j, none⟩ = some (.int .i64 xs[j]) := by
  intro j h
  rw [cell_of_row _ _ _ _ _ _ (heap_alloc_new W _)]
  simp [h]
theorem S5.second (k : Int) (b : Bool) (n : Int) (s : ByteArray) (u : Int) (W : World) (o : Obj) : S5 (W.heap.size + 1) k b n s u ((W.alloc o).alloc (.cells #[.int .u8 k, .bool b, .int .i64 n, .string s, .int .u64 u] 25)) := by
  have h := S5.first k b n s u (W.alloc o)
  rw [show (W.alloc o).heap.size = W.heap.size + 1 by simp] at h
  exact h
theorem ten_next (W : World) (o : Obj) {B : Nat} {v0 v1 v2 v3 v4 x0 x1 x2 x3 x4 : Value} (a0 : W.drew.cell? ⟨B, 0, none⟩ = some v0) (a1 : W.drew.cell? ⟨B, 1, none⟩ = some v1) (a2 : W.drew.cell? ⟨B, 2, none⟩ = some v2) (a3 : W.drew.cell? ⟨B, 3, none⟩ = some v3) (a4 : W.drew.cell? ⟨B, 4, none⟩ = some v4)
    (d0 : W.drew.cell? ⟨B + 1, 0, none⟩ = some x0) (d1 : W.drew.cell? ⟨B + 1, 1, none⟩ = some x1) (d2 : W.drew.cell? ⟨B + 1, 2, none⟩ = some x2) (d3 : W.drew.cell? ⟨B + 1, 3, none⟩ = some x3) (d4 : W.drew.cell? ⟨B + 1, 4, none⟩ = some x4) :
    (W.alloc o).drew.cell? ⟨B, 0, none⟩ = some v0 ∧ (W.alloc o).drew.cell? ⟨B, 1, none⟩ = some v1 ∧ (W.alloc o).drew.cell? ⟨B, 2, none⟩ = some v2 ∧ (W.alloc o).drew.cell? ⟨B, 3, none⟩ = some v3 ∧ (W.alloc o).drew.cell? ⟨B, 4, none⟩ = some v4 ∧
    (W.alloc o).drew.cell? ⟨B + 1, 0, none⟩ = some x0 ∧ (W.alloc o).drew.cell? ⟨B + 1, 1, none⟩ = some x1 ∧ (W.alloc o).drew.cell? ⟨B + 1, 2, none⟩ = some x2 ∧ (W.alloc o).drew.cell? ⟨B + 1, 3, none⟩ = some x3 ∧ (W.alloc o).drew.cell? ⟨B + 1, 4, none⟩ = some x4 := by
  have h : Bel W (W.alloc o).drew := ((Bel.refl W).alloc o).drew
  exact ⟨h.cell (a := W) a0, h.cell (a := W) a1, h.cell (a := W) a2, h.cell (a := W) a3, h.cell (a := W) a4, h.cell (a := W) d0, h.cell (a := W) d1, h.cell (a := W) d2, h.cell (a := W) d3, h.cell (a := W) d4⟩
theorem or_five (W : World) (x0 x1 x2 x3 x4 : Int) :
    Calls Tryd.prog 38 #[.slice (some ⟨W.heap.size, 0, none⟩) 5 5] (W.alloc (.cells #[.int .i64 x0, .int .i64 x1, .int .i64 x2, .int .i64 x3, .int .i64 x4] 3)).drew fun e w' => e = .returned (.int .i64 (orL [x0, x1, x2, x3, x4])) ∧ w' = (W.alloc (.cells #[.int .i64 x0, .int .i64 x1, .int .i64 x2, .int .i64 x3, .int .i64 x4] 3)).drew :=
  or_any [x0, x1, x2, x3, x4] rfl _ W.heap.size (ints_new W [x0, x1, x2, x3, x4])
set_option maxHeartbeats 4000000 in
set_option maxRecDepth 100000 in
theorem order_any (k : Int) (b : Bool) (n : Int) (s : ByteArray) (u : Int) (k' : Int) (b' : Bool) (n' : Int) (s' : ByteArray) (u' : Int) (w : World) :
    Calls Tryd.prog 61 #[ev k b n s u, ev k' b' n' s' u'] w fun e w' => e = .returned (.int .i64 (ord k b n s u k' b' n' s' u')) ∧ Bel w w' := by
  have T := hide (fun z W => truth_any z W)
  have C79 := hide (fun W => cmp_79 k k' W)
  have C80 := hide (fun W => cmp_80 ((bt b).toNat : Int) ((bt b').toNat : Int) W)
  have C81 := hide (fun W => cmp_81 n n' W)
  have C82 := hide (fun W => Tryd.strings_Compare s s' W)
  have C83 := hide (fun W => cmp_83 u u' W)
  have HE : Hid (ord k b n s u k' b' n' s' u' = orL [cmpI k k', cmpI ((bt b).toNat : Int) ((bt b').toNat : Int), cmpI n n', Lib.compareBytes s.data.toList s'.data.toList, cmpI u u']) := hide rfl
  generalize cmpI k k' = x0 at *
  generalize cmpI ((bt b).toNat : Int) ((bt b').toNat : Int) = x1 at *
  generalize cmpI n n' = x2 at *
  generalize Lib.compareBytes s.data.toList s'.data.toList = x3 at *
  generalize cmpI u u' = x4 at *
  generalize ord k b n s u k' b' n' s' u' = R at *
  generalize hbt : (bt b).toNat = t1 at *
  generalize hbt' : (bt b').toNat = t2 at *
  have T1 : Hid (∀ W, Calls Tryd.prog 64 #[.bool b] W fun e w' => e = .returned (.int .u8 (t1 : Int)) ∧ w' = W) := hide (fun W => by have := T.out b W; rw [hbt] at this; exact this)
  have T2 : Hid (∀ W, Calls Tryd.prog 64 #[.bool b'] W fun e w' => e = .returned (.int .u8 (t2 : Int)) ∧ w' = W) := hide (fun W => by have := T.out b' W; rw [hbt'] at this; exact this)
  clear T hbt hbt'
  have HS1 := hide ((S5.first k b n s u w).alloc (.cells #[.int .u8 k', .bool b', .int .i64 n', .string s', .int .u64 u'] 25)).drew
  have HS2 := hide (S5.second k' b' n' s' u' w (.cells #[.int .u8 k, .bool b, .int .i64 n, .string s, .int .u64 u] 25)).drew
  have HB := hide (((Bel.refl w).alloc (.cells #[.int .u8 k, .bool b, .int .i64 n, .string s, .int .u64 u] 25)).alloc (.cells #[.int .u8 k', .bool b', .int .i64 n', .string s', .int .u64 u'] 25))
  unfold ev
  go_enter Tryd.func61, Tryd.ntmps61
  go_wp2_with fail
  generalize ((w.alloc (.cells #[.int .u8 k, .bool b, .int .i64 n, .string s, .int .u64 u] 25)).alloc (.cells #[.int .u8 k', .bool b', .int .i64 n', .string s', .int .u64 u'] 25)) = W1 at *
  generalize w.heap.size = B at *
  have hs1 := HS1.out
  have hs2 := HS2.out
  unfold S5 at hs1 hs2
  obtain ⟨a0, a1, a2, a3, a4⟩ := hs1
  obtain ⟨d0, d1, d2, d3, d4⟩ := hs2
  go_region_held3 (fun W => W.cell? ⟨B, 0, none⟩ = some (.int .u8 k) ∧ W.cell? ⟨B, 1, none⟩ = some (.bool b) ∧ W.cell? ⟨B, 2, none⟩ = some (.int .i64 n) ∧ W.cell? ⟨B, 3, none⟩ = some (.string s) ∧ W.cell? ⟨B, 4, none⟩ = some (.int .u64 u) ∧ W.cell? ⟨B + 1, 0, none⟩ = some (.int .u8 k') ∧ W.cell? ⟨B + 1, 1, none⟩ = some (.bool b') ∧ W.cell? ⟨B + 1, 2, none⟩ = some (.int .i64 n') ∧ W.cell? ⟨B + 1, 3, none⟩ = some (.string s') ∧ W.cell? ⟨B + 1, 4, none⟩ = some (.int .u64 u')) (first | assumption | exact ⟨a0, a1, a2, a3, a4, d0, d1, d2, d3, d4⟩ | exact ten_next W1 _ a0 a1 a2 a3 a4 d0 d1 d2 d3 d4) ((first
    | (go_at_call 38; refine (or_five W1 x0 x1 x2 x3 x4).mono ?_; rintro e w' ⟨rfl, rfl⟩)
    | (go_at_call 73; refine (C79.out _).mono ?_; rintro e w' ⟨rfl, rfl⟩)
    | (go_at_call 74; refine (C80.out _).mono ?_; rintro e w' ⟨rfl, rfl⟩)
    | (go_at_call 75; refine (C81.out _).mono ?_; rintro e w' ⟨rfl, rfl⟩)
    | (go_at_call 39; refine (C82.out _).mono ?_; rintro e w' ⟨rfl, rfl⟩)
    | (go_at_call 40; refine (C83.out _).mono ?_; rintro e w' ⟨rfl, rfl⟩)
    | (go_at_call 64; refine (T1.out _).mono ?_; rintro e w' ⟨rfl, rfl⟩)
    | (go_at_call 64; refine (T2.out _).mono ?_; rintro e w' ⟨rfl, rfl⟩)))
  all_goals
    go_wp2
    go_ret
    exact ⟨by rw [HE.out]; rfl, (HB.out.alloc _).drew⟩
end Go.Proofs.YtgghcfmpfneehaaDoor
