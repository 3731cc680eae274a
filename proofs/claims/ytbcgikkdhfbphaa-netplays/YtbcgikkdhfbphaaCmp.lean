/- Links compared. -/
import Derived.Test.YtbcgikkdhfbphaaRow
import Derived.Deep.RegionHeld3
namespace Go.Proofs.Ytbcgikkdhfbphaa
open Go.RowKit Go.Maps Go.Sort
/-- Grown by draws and new blocks alone. -/
def Gr (w W : World) : Prop := ∃ q os, W = grow (w.drewN q) os
theorem Gr.refl (w : World) : Gr w w := ⟨0, #[], by rw [grow_empty]; rfl⟩
theorem Gr.alloc {w W : World} (h : Gr w W) (o : Obj) : Gr w (W.alloc o) := by
  obtain ⟨q, os, rfl⟩ := h
  exact ⟨q, os ++ #[o], by rw [alloc_eq_grow, grow_grow]⟩
theorem Gr.drew {w W : World} (h : Gr w W) : Gr w W.drew := by
  obtain ⟨q, os, rfl⟩ := h
  exact ⟨q + 1, os, rfl⟩
def cmpI (x y : Int) : Int := if x < y then -1 else if y < x then 1 else 0
def cmpL (x y : Int × Int) : Int := if cmpI x.1 y.1 = 0 then cmpI x.2 y.2 else cmpI x.1 y.1
set_option maxRecDepth 100000 in
theorem nan_any (x : Int) (w : World) : Calls Try.prog 62 #[.int .i64 x] w fun e w' => e = .returned (.bool false) ∧ w' = w := by
  go_enter Try.func62, Try.ntmps62
  go_wp2_with fail
  go_ret
  exact ⟨by simp, rfl⟩
set_option maxRecDepth 100000 in
theorem compare_any (x y : Int) (w : World) : Calls Try.prog 58 #[.int .i64 x, .int .i64 y] w fun e w' => e = .returned (.int .i64 (cmpI x y)) ∧ w' = w := by
  have HN := hide (fun z W => nan_any z W)
  unfold cmpI
  by_cases h1 : x < y
  · rw [if_pos h1]
    go_enter Try.func58, Try.ntmps58
    go_wp2_with (first | (go_at_call 62; refine ((unhide HN) _ _).mono ?_; rintro e w9 ⟨rfl, hw9⟩; rw [hw9]; clear hw9))
    go_ret
    exact ⟨rfl, rfl⟩
  · rw [if_neg h1]
    by_cases h2 : y < x
    · rw [if_pos h2]
      go_enter Try.func58, Try.ntmps58
      go_wp2_with (first | (go_at_call 62; refine ((unhide HN) _ _).mono ?_; rintro e w9 ⟨rfl, hw9⟩; rw [hw9]; clear hw9))
      go_ret
      exact ⟨rfl, rfl⟩
    · rw [if_neg h2]
      go_enter Try.func58, Try.ntmps58
      go_wp2_with (first | (go_at_call 62; refine ((unhide HN) _ _).mono ?_; rintro e w9 ⟨rfl, hw9⟩; rw [hw9]; clear hw9))
      go_ret
      exact ⟨rfl, rfl⟩
def or2 (x y : Int) : Int := if x = 0 then y else x
set_option maxRecDepth 100000 in
theorem or_any (x y : Int) (B : Nat) (w : World) (h0 : w.cell? ⟨B, 0, none⟩ = some (.int .i64 x)) (h1 : w.cell? ⟨B, 1, none⟩ = some (.int .i64 y)) : Calls Try.prog 57 #[.slice (some ⟨B, 0, none⟩) 2 2] w fun e w' => e = .returned (.int .i64 (or2 x y)) ∧ w' = w := by
  obtain ⟨R, hR⟩ : ∃ R, R = or2 x y := ⟨_, rfl⟩
  rw [← hR]
  unfold or2 at hR
  have HR := hide hR
  clear hR
  go_enter Try.func57, Try.ntmps57
  go_wp2_with fail
  go_loopw [5, 8] (fun _ vi wr => ∃ k : Nat, k ≤ 2 ∧ vi = .int .i64 k ∧ Hid (wr = w ∧ (1 ≤ k → x = 0) ∧ (2 ≤ k → y = 0))) (fun _ vi _ => 2 - (intOf vi).toNat)
  case atStart => exact ⟨0, by omega, rfl, hide ⟨rfl, fun h => absurd h (by omega), fun h => absurd h (by omega)⟩⟩
  case round =>
    obtain ⟨k, hk, rfl, HO⟩ := hrel
    obtain rfl := (unhide HO).1
    rcases Nat.lt_or_ge k 2 with hlt | hge
    · have hk01 : k = 0 ∨ k = 1 := by omega
      rcases hk01 with rfl | rfl
      · by_cases hx : x = 0
        · have HX := hide hx
          have hx' : (x == 0) = true := by simp [hx]
          clear hx
          go_wp2_with fail
          go_roundw
          case rel => exact ⟨1, by omega, by go_num, hide ⟨trivial, fun _ => unhide HX, fun h => absurd h (by omega)⟩⟩
          case measure => simp [intOf]
        · have hx' : (x == 0) = false := by simp [hx]
          have HX := hide hx
          clear hx
          go_wp2_with fail
          go_ret
          exact ⟨by rw [unhide HR, if_neg (unhide HX)]; rfl, rfl⟩
      · have HX := hide ((unhide HO).2.1 (by omega))
        by_cases hy : y = 0
        · have HY := hide hy
          have hy' : (y == 0) = true := by simp [hy]
          clear hy
          go_wp2_with fail
          go_roundw
          case rel => exact ⟨2, by omega, by go_num, hide ⟨trivial, fun _ => unhide HX, fun _ => unhide HY⟩⟩
          case measure => simp [intOf]
        · have hy' : (y == 0) = false := by simp [hy]
          clear hy
          go_wp2_with fail
          go_ret
          exact ⟨by rw [unhide HR, if_pos (unhide HX)]; rfl, rfl⟩
    · obtain rfl : k = 2 := by omega
      have hx := (unhide HO).2.1 (by omega)
      have hy := (unhide HO).2.2 (by omega)
      have HX := hide (And.intro hx hy)
      clear hx hy
      go_wp2_with fail
      go_ret
      exact ⟨by rw [unhide HR, if_pos (unhide HX).1, (unhide HX).2]; rfl, rfl⟩
set_option maxRecDepth 100000 in
set_option maxHeartbeats 2000000 in
theorem cmpl_any (a b c d : Int) (w : World) : Calls Try.prog 49 #[.agg #[.int .i64 a, .int .i64 b], .agg #[.int .i64 c, .int .i64 d]] w fun e w' => e = .returned (.int .i64 (cmpL (a, b) (c, d))) ∧ Gr w w' := by
  have C58 := hide (fun x y W => compare_any x y W)
  have HE : Hid (cmpL (a, b) (c, d) = or2 (cmpI a c) (cmpI b d)) := hide rfl
  obtain ⟨x, hx⟩ : ∃ x, x = cmpI a c := ⟨_, rfl⟩
  obtain ⟨y, hy⟩ : ∃ y, y = cmpI b d := ⟨_, rfl⟩
  have HXY := hide (And.intro hx hy)
  clear hx hy
  have HG := hide (((Gr.refl w).alloc (.cells #[.int .i64 a, .int .i64 b] 86)).alloc (.cells #[.int .i64 c, .int .i64 d] 86))
  have hr1 := ((Bel.refl _).alloc (.cells #[.int .i64 c, .int .i64 d] 86)).row (at_new w (.cells #[.int .i64 a, .int .i64 b] 86))
  have hr2 : ((w.alloc (.cells #[.int .i64 a, .int .i64 b] 86)).alloc (.cells #[.int .i64 c, .int .i64 d] 86)).heap[w.heap.size + 1]? = some (.cells #[.int .i64 c, .int .i64 d] 86) := by
    have := at_new (w.alloc (.cells #[.int .i64 a, .int .i64 b] 86)) (.cells #[.int .i64 c, .int .i64 d] 86)
    rw [show (w.alloc (.cells #[.int .i64 a, .int .i64 b] 86)).heap.size = w.heap.size + 1 by simp] at this
    exact this
  have HR := hide (And.intro hr1 hr2)
  generalize cmpL (a, b) (c, d) = R at *
  clear hr1 hr2
  go_enter Try.func49, Try.ntmps49
  go_wp2_with fail
  generalize ((w.alloc (.cells #[.int .i64 a, .int .i64 b] 86)).alloc (.cells #[.int .i64 c, .int .i64 d] 86)) = W1 at *
  generalize w.heap.size = B at *
  have a0 : W1.drew.cell? ⟨B, 0, none⟩ = some (.int .i64 a) := cell_of (unhide HR).1
  have a1 : W1.drew.cell? ⟨B, 1, none⟩ = some (.int .i64 b) := cell_of (unhide HR).1
  have d0 : W1.drew.cell? ⟨B + 1, 0, none⟩ = some (.int .i64 c) := cell_of (unhide HR).2
  have d1 : W1.drew.cell? ⟨B + 1, 1, none⟩ = some (.int .i64 d) := cell_of (unhide HR).2
  have OR : Hid (Calls Try.prog 57 #[.slice (some ⟨W1.heap.size, 0, none⟩) 2 2] (W1.alloc (.cells #[.int .i64 x, .int .i64 y] 3)).drew fun e w' => e = .returned (.int .i64 (or2 x y)) ∧ w' = (W1.alloc (.cells #[.int .i64 x, .int .i64 y] 3)).drew) := hide (or_any x y W1.heap.size _ (cell_of (at_new W1 _)) (cell_of (at_new W1 _)))
  rw [(unhide HXY).1, (unhide HXY).2] at OR
  go_region_held3 (fun W => W.cell? ⟨B, 0, none⟩ = some (.int .i64 a) ∧ W.cell? ⟨B, 1, none⟩ = some (.int .i64 b) ∧ W.cell? ⟨B + 1, 0, none⟩ = some (.int .i64 c) ∧ W.cell? ⟨B + 1, 1, none⟩ = some (.int .i64 d)) (first | assumption | exact ⟨a0, a1, d0, d1⟩ | exact ⟨((Bel.refl W1).alloc _).cell a0, ((Bel.refl W1).alloc _).cell a1, ((Bel.refl W1).alloc _).cell d0, ((Bel.refl W1).alloc _).cell d1⟩) ((first
    | (go_at_call 57; refine (unhide OR).mono ?_; rintro e w' ⟨rfl, rfl⟩)
    | (go_at_call 58; refine ((unhide C58) _ _ _).mono ?_; rintro e w' ⟨rfl, rfl⟩)))
  all_goals
    go_wp2
    go_ret
    exact ⟨by rw [unhide HE]; rfl, ((unhide HG).alloc _).drew⟩
theorem cmpl_L (x y : Int × Int) (w : World) : Calls Try.prog 49 #[.agg (enc2 x).toArray, .agg (enc2 y).toArray] w fun e w' => e = .returned (.int .i64 (cmpL x y)) ∧ Gr w w' := cmpl_any _ _ _ _ w
end Go.Proofs.Ytbcgikkdhfbphaa
