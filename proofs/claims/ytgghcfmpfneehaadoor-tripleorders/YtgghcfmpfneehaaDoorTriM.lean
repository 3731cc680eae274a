/- How triples stand to one another, by the program. -/
import Derived.Test.YtgghcfmpfneehaaDoorTriH
import Derived.Test.YtgghcfmpfneehaaDoorValQ
namespace Go.Proofs.YtgghcfmpfneehaaDoor
open Go.RowKit
set_option maxRecDepth 100000 in
theorem or3_any (xs : List Int) (hl : xs.length = 3) (w : World) (B : Nat) (hc : ∀ j, (h : j < xs.length) → w.cell? ⟨B, j, none⟩ = some (.int .i64 xs[j])) :
    Calls Tryd.prog 38 #[.slice (some ⟨B, 0, none⟩) 3 3] w fun e w' => e = .returned (.int .i64 (orL xs)) ∧ w' = w := by
  go_enter Tryd.func38, Tryd.ntmps38
  go_wp2_with fail
  go_loop [8] (fun vi => ∃ k : Nat, vi = .int .i64 k ∧ k ≤ 3 ∧ Hid (orL xs = orL (xs.drop k))) (fun vi => 3 - (intOf vi).toNat)
  case atStart => exact ⟨0, rfl, by omega, by simp [hide]⟩
  case round =>
    obtain ⟨k, rfl, hk, HH⟩ := hrel
    by_cases hlt : k < 3
    · have hk5 : k < xs.length := by omega
      have hcl := hc k hk5
      have hd : xs.drop k = xs[k] :: xs.drop (k + 1) := List.drop_eq_getElem_cons hk5
      by_cases hz : xs[k] = 0
      · have HN : Hid (orL xs = orL (xs.drop (k + 1))) := hide (by rw [HH.out, hd, hz, or_zero])
        rw [hz] at hcl
        clear hc hd hz
        go_wp2_with fail
        exact ⟨⟨k + 1, by first | rfl | (congr 1), by omega, HN⟩, by simp [intOf]; omega⟩
      · have HN : Hid (orL xs = xs[k]) := hide (by rw [HH.out, hd, or_first hz])
        have hzz : (xs[k] == 0) = false := ne_beq hz
        have hz2 : (xs[k] != 0) = true := by unfold bne; rw [hzz]; rfl
        clear hc hd hz
        go_wp2_with fail
        go_ret
        exact ⟨by rw [HN.out]; rfl, rfl⟩
    · have HN : Hid (orL xs = 0) := hide (by rw [HH.out, List.drop_eq_nil_of_le (by omega)]; rfl)
      have i0 : (3 : Int) ≤ (k : Int) := by omega
      go_wp2_with fail
      go_ret
      exact ⟨by rw [HN.out]; rfl, rfl⟩
theorem or_three (W : World) (x0 x1 x2 : Int) :
    Calls Tryd.prog 38 #[.slice (some ⟨W.heap.size, 0, none⟩) 3 3] (W.alloc (.cells #[.int .i64 x0, .int .i64 x1, .int .i64 x2] 3)).drew fun e w' => e = .returned (.int .i64 (orL [x0, x1, x2])) ∧ w' = (W.alloc (.cells #[.int .i64 x0, .int .i64 x1, .int .i64 x2] 3)).drew :=
  or3_any [x0, x1, x2] rfl _ W.heap.size (ints_new W [x0, x1, x2])
theorem S7.first (u : Int) (p : ByteArray) (k : Int) (b : Bool) (n : Int) (s : ByteArray) (v : Int) (w : World) : S7 w.heap.size u p k b n s v (w.alloc (.cells #[.int .u64 u, .string p, .int .u8 k, .bool b, .int .i64 n, .string s, .int .u64 v] 27)) := S7.new u p k b n s v w
theorem S7.at (u : Int) (p : ByteArray) (k : Int) (b : Bool) (n : Int) (s : ByteArray) (v : Int) (w : World) (o : Obj) : S7 (w.heap.size + 1) u p k b n s v ((w.alloc o).alloc (.cells #[.int .u64 u, .string p, .int .u8 k, .bool b, .int .i64 n, .string s, .int .u64 v] 27)) := by
  have h := S7.first u p k b n s v (w.alloc o)
  rw [show (w.alloc o).heap.size = w.heap.size + 1 by simp] at h
  exact h
def SS (B B2 : Nat) (u : Int) (p : ByteArray) (k : Int) (b : Bool) (n : Int) (s : ByteArray) (v : Int) (u' : Int) (p' : ByteArray) (k' : Int) (b' : Bool) (n' : Int) (s' : ByteArray) (v' : Int) (W : World) : Prop := S7 B u p k b n s v W ∧ S7 B2 u' p' k' b' n' s' v' W
theorem SS.next {B B2 : Nat} {u : Int} {p : ByteArray} {k : Int} {b : Bool} {n : Int} {s : ByteArray} {v : Int} {u' : Int} {p' : ByteArray} {k' : Int} {b' : Bool} {n' : Int} {s' : ByteArray} {v' : Int} {W W' : World} (h : SS B B2 u p k b n s v u' p' k' b' n' s' v' W) (hb : Bel W W') : SS B B2 u p k b n s v u' p' k' b' n' s' v' W' := ⟨h.1.next hb, h.2.next hb⟩
/-- How a triple stands to another. -/
def tord (u : Int) (p : ByteArray) (k : Int) (b : Bool) (n : Int) (s : ByteArray) (v : Int) (u' : Int) (p' : ByteArray) (k' : Int) (b' : Bool) (n' : Int) (s' : ByteArray) (v' : Int) : Int := orL [Lib.compareBytes p.data.toList p'.data.toList, cmpI u u', ord k b n s v k' b' n' s' v']
set_option maxHeartbeats 1000000 in
set_option maxRecDepth 100000 in
theorem tcmp_no (u : Int) (p : ByteArray) (k : Int) (b : Bool) (n : Int) (s : ByteArray) (v : Int) (u' : Int) (p' : ByteArray) (k' : Int) (b' : Bool) (n' : Int) (s' : ByteArray) (v' : Int) (hu : 0 ≤ u) (hu' : 0 ≤ u') (h : fstE [eT u p k b n s v, eT u' p' k' b' n' s' v'] ≠ 0) (w : World) :
    Calls Tryd.prog 15 #[et u p k b n s v, et u' p' k' b' n' s' v'] w fun e w' => e = .returned (.tuple #[.int .i64 0, .int .i64 (fstE [eT u p k b n s v, eT u' p' k' b' n' s' v'])]) ∧ Bel w w' := by
  have C := hide (fun (u : Int) (p : ByteArray) (k : Int) (b : Bool) (n : Int) (s : ByteArray) (v : Int) (hu : 0 ≤ u) W => may_any u p k b n s v hu W)
  have hF := hide (fun x y W => first2 x y W)
  have hE : (fstE [eT u p k b n s v, eT u' p' k' b' n' s' v'] != 0) = true := by simpa using h
  clear h
  unfold et at C ⊢
  go_enter Tryd.func15, Tryd.ntmps15
  go_wp2_with fail
  have h7 : SS w.heap.size (w.heap.size + 1) u p k b n s v u' p' k' b' n' s' v' ((w.alloc (.cells #[.int .u64 u, .string p, .int .u8 k, .bool b, .int .i64 n, .string s, .int .u64 v] 27)).alloc (.cells #[.int .u64 u', .string p', .int .u8 k', .bool b', .int .i64 n', .string s', .int .u64 v'] 27)) := ⟨(S7.first u p k b n s v w).next ((Bel.refl _).alloc _), S7.at u' p' k' b' n' s' v' w _⟩
  have hb0 : Bel w ((w.alloc (.cells #[.int .u64 u, .string p, .int .u8 k, .bool b, .int .i64 n, .string s, .int .u64 v] 27)).alloc (.cells #[.int .u64 u', .string p', .int .u8 k', .bool b', .int .i64 n', .string s', .int .u64 v'] 27)) := ((Bel.refl _).alloc _).alloc _
  generalize (w.alloc (.cells #[.int .u64 u, .string p, .int .u8 k, .bool b, .int .i64 n, .string s, .int .u64 v] 27)).alloc (.cells #[.int .u64 u', .string p', .int .u8 k', .bool b', .int .i64 n', .string s', .int .u64 v'] 27) = W1 at h7 hb0 ⊢
  generalize w.heap.size + 1 = B2 at *
  generalize w.heap.size = B at *
  have h8 := h7.next (Bel.refl _).drew
  have hb1 := hb0.drew
  clear h7 hb0
  go_region_held3 (fun W => (W.cell? ⟨B, 0, none⟩ = some (.int .u64 u) ∧ W.cell? ⟨B, 1, none⟩ = some (.string p) ∧ W.cell? ⟨B, 2, none⟩ = some (.int .u8 k) ∧ W.cell? ⟨B, 3, none⟩ = some (.bool b) ∧ W.cell? ⟨B, 4, none⟩ = some (.int .i64 n) ∧ W.cell? ⟨B, 5, none⟩ = some (.string s) ∧ W.cell? ⟨B, 6, none⟩ = some (.int .u64 v)) ∧ (W.cell? ⟨B2, 0, none⟩ = some (.int .u64 u') ∧ W.cell? ⟨B2, 1, none⟩ = some (.string p') ∧ W.cell? ⟨B2, 2, none⟩ = some (.int .u8 k') ∧ W.cell? ⟨B2, 3, none⟩ = some (.bool b') ∧ W.cell? ⟨B2, 4, none⟩ = some (.int .i64 n') ∧ W.cell? ⟨B2, 5, none⟩ = some (.string s') ∧ W.cell? ⟨B2, 6, none⟩ = some (.int .u64 v'))) (first | assumption | exact SS.next (by assumption) (by first | assumption | exact (Bel.refl _).alloc _)) ((first | (go_at_call 7; refine (C.out _ _ _ _ _ _ _ (by assumption) _).mono ?_; rintro e w' ⟨rfl, hb⟩) | (go_at_call 22; refine (hF.out _ _ _).mono ?_; rintro e w' ⟨rfl, rfl⟩)))
  all_goals
    go_wp2_with fail
    go_ret2
    exact ⟨rfl, ((hb1.trans (by assumption)).trans (by assumption)).alloc _⟩
set_option maxHeartbeats 1000000 in
set_option maxRecDepth 100000 in
theorem tcmp_yes (u : Int) (p : ByteArray) (k : Int) (b : Bool) (n : Int) (s : ByteArray) (v : Int) (u' : Int) (p' : ByteArray) (k' : Int) (b' : Bool) (n' : Int) (s' : ByteArray) (v' : Int) (hu : 0 ≤ u) (hu' : 0 ≤ u') (h : eT u p k b n s v = 0) (h' : eT u' p' k' b' n' s' v' = 0) (w : World) :
    Calls Tryd.prog 15 #[et u p k b n s v, et u' p' k' b' n' s' v'] w fun e w' => e = .returned (.tuple #[.int .i64 (tord u p k b n s v u' p' k' b' n' s' v'), .int .i64 0]) ∧ Bel w w' := by
  have C := hide (fun (u : Int) (p : ByteArray) (k : Int) (b : Bool) (n : Int) (s : ByteArray) (v : Int) (hu : 0 ≤ u) W => may_any u p k b n s v hu W)
  have hF := hide (fun x y W => first2 x y W)
  have hE : (fstE [eT u p k b n s v, eT u' p' k' b' n' s' v'] != 0) = false := by rw [h, h']; rfl
  have CV := hide (fun W => cmp_yes (eT_zero h).2.2 (eT_zero h').2.2 W)
  have CS := hide (fun W => Tryd.strings_Compare p p' W)
  have CU := hide (fun W => cmp_83 u u' W)
  have CO := hide (fun x0 x1 x2 W => or_three W x0 x1 x2)
  have HE := hide (show tord u p k b n s v u' p' k' b' n' s' v' = orL [Lib.compareBytes p.data.toList p'.data.toList, cmpI u u', ord k b n s v k' b' n' s' v'] from rfl)
  generalize tord u p k b n s v u' p' k' b' n' s' v' = E at HE ⊢
  generalize Lib.compareBytes p.data.toList p'.data.toList = X1 at HE CS
  generalize cmpI u u' = X2 at HE CU
  generalize ord k b n s v k' b' n' s' v' = X3 at HE CV
  clear h h'
  unfold ev at CV
  unfold et at C ⊢
  go_enter Tryd.func15, Tryd.ntmps15
  go_wp2_with fail
  have h7 : SS w.heap.size (w.heap.size + 1) u p k b n s v u' p' k' b' n' s' v' ((w.alloc (.cells #[.int .u64 u, .string p, .int .u8 k, .bool b, .int .i64 n, .string s, .int .u64 v] 27)).alloc (.cells #[.int .u64 u', .string p', .int .u8 k', .bool b', .int .i64 n', .string s', .int .u64 v'] 27)) := ⟨(S7.first u p k b n s v w).next ((Bel.refl _).alloc _), S7.at u' p' k' b' n' s' v' w _⟩
  have hb0 : Bel w ((w.alloc (.cells #[.int .u64 u, .string p, .int .u8 k, .bool b, .int .i64 n, .string s, .int .u64 v] 27)).alloc (.cells #[.int .u64 u', .string p', .int .u8 k', .bool b', .int .i64 n', .string s', .int .u64 v'] 27)) := ((Bel.refl _).alloc _).alloc _
  generalize (w.alloc (.cells #[.int .u64 u, .string p, .int .u8 k, .bool b, .int .i64 n, .string s, .int .u64 v] 27)).alloc (.cells #[.int .u64 u', .string p', .int .u8 k', .bool b', .int .i64 n', .string s', .int .u64 v'] 27) = W1 at h7 hb0 ⊢
  generalize w.heap.size + 1 = B2 at *
  generalize w.heap.size = B at *
  have h8 := h7.next (Bel.refl _).drew
  have hb1 := hb0.drew
  clear h7 hb0
  go_region_held3 (fun W => (W.cell? ⟨B, 0, none⟩ = some (.int .u64 u) ∧ W.cell? ⟨B, 1, none⟩ = some (.string p) ∧ W.cell? ⟨B, 2, none⟩ = some (.int .u8 k) ∧ W.cell? ⟨B, 3, none⟩ = some (.bool b) ∧ W.cell? ⟨B, 4, none⟩ = some (.int .i64 n) ∧ W.cell? ⟨B, 5, none⟩ = some (.string s) ∧ W.cell? ⟨B, 6, none⟩ = some (.int .u64 v)) ∧ (W.cell? ⟨B2, 0, none⟩ = some (.int .u64 u') ∧ W.cell? ⟨B2, 1, none⟩ = some (.string p') ∧ W.cell? ⟨B2, 2, none⟩ = some (.int .u8 k') ∧ W.cell? ⟨B2, 3, none⟩ = some (.bool b') ∧ W.cell? ⟨B2, 4, none⟩ = some (.int .i64 n') ∧ W.cell? ⟨B2, 5, none⟩ = some (.string s') ∧ W.cell? ⟨B2, 6, none⟩ = some (.int .u64 v'))) (first | assumption | exact SS.next (by assumption) (by first | assumption | exact (Bel.refl _).alloc _)) ((first | (go_at_call 7; refine (C.out _ _ _ _ _ _ _ (by assumption) _).mono ?_; rintro e w' ⟨rfl, hb⟩) | (go_at_call 22; refine (hF.out _ _ _).mono ?_; rintro e w' ⟨rfl, rfl⟩)))
  all_goals
    have h9 := SS.next (SS.next (SS.next h8 (by assumption)) (by assumption)) ((Bel.refl _).alloc (.cells #[.int .i64 (eT u p k b n s v), .int .i64 (eT u' p' k' b' n' s' v')] 31))
    have hb2 := ((hb1.trans (by assumption)).trans (by assumption)).alloc (.cells #[.int .i64 (eT u p k b n s v), .int .i64 (eT u' p' k' b' n' s' v')] 31)
    rename_i hHeld
    clear hHeld
    generalize World.alloc _ (.cells #[.int .i64 (eT u p k b n s v), .int .i64 (eT u' p' k' b' n' s' v')] 31) = W2 at h9 hb2 ⊢
    clear h8
    obtain ⟨⟨c0, c1, c2, c3, c4, c5, c6⟩, d0, d1, d2, d3, d4, d5, d6⟩ := h9
    have H9 := hide (show SS B B2 u p k b n s v u' p' k' b' n' s' v' W2 from ⟨⟨c0, c1, c2, c3, c4, c5, c6⟩, d0, d1, d2, d3, d4, d5, d6⟩)
    go_wp2_with (go_at_call 37; refine (CV.out _).mono ?_; rintro e w3 ⟨rfl, hb3⟩)
    have h10 := (H9.out.next hb3).next (Bel.refl _).drew
    have hb4 := (hb2.trans hb3).drew
    clear c0 c1 c2 c3 c4 c5 c6 d0 d1 d2 d3 d4 d5 d6 H9 hb2 hb3
    go_region_held3 (fun W => (W.cell? ⟨B, 0, none⟩ = some (.int .u64 u) ∧ W.cell? ⟨B, 1, none⟩ = some (.string p) ∧ W.cell? ⟨B, 2, none⟩ = some (.int .u8 k) ∧ W.cell? ⟨B, 3, none⟩ = some (.bool b) ∧ W.cell? ⟨B, 4, none⟩ = some (.int .i64 n) ∧ W.cell? ⟨B, 5, none⟩ = some (.string s) ∧ W.cell? ⟨B, 6, none⟩ = some (.int .u64 v)) ∧ (W.cell? ⟨B2, 0, none⟩ = some (.int .u64 u') ∧ W.cell? ⟨B2, 1, none⟩ = some (.string p') ∧ W.cell? ⟨B2, 2, none⟩ = some (.int .u8 k') ∧ W.cell? ⟨B2, 3, none⟩ = some (.bool b') ∧ W.cell? ⟨B2, 4, none⟩ = some (.int .i64 n') ∧ W.cell? ⟨B2, 5, none⟩ = some (.string s') ∧ W.cell? ⟨B2, 6, none⟩ = some (.int .u64 v'))) (first | assumption | exact SS.next (by assumption) (by first | assumption | exact (Bel.refl _).alloc _)) ((first | (go_at_call 39; refine (CS.out _).mono ?_; rintro e w' ⟨rfl, rfl⟩) | (go_at_call 40; refine (CU.out _).mono ?_; rintro e w' ⟨rfl, rfl⟩) | (go_at_call 38; refine (CO.out _ _ _ _).mono ?_; rintro e w' ⟨rfl, rfl⟩)))
    all_goals
      go_wp2
      go_ret2
      rw [HE.out]
      first
      | exact ⟨rfl, (hb4.alloc _)⟩
      | exact ⟨rfl, (hb4.alloc _).drew⟩
end Go.Proofs.YtgghcfmpfneehaaDoor
