/- A wal that is not there. -/
import Derived.RangeFuncNested
import Derived.RangeFuncBound
import Derived.RangeFuncCalls
import Derived.RangeFuncLeaves
import Derived.RangeFuncFrom
import Derived.Shelf.Abstract
import Derived.Shelf.RegionOpen
import Derived.WalkKit
import Derived.OwnWalkIn
import Derived.TacticsInMore
import Derived.LoopNIn
import Derived.LoopIn
import Derived.Test.YtgimciacapfbfaaGreatDoorOpw
import Derived.Test.YtgimciacapfbfaaGreatDoorCle
namespace Go.Proofs.YtgimciacapfbfaaGreatDoor
open Go.RowKit Go.Maps Go.WideMaps Go.Shelf
theorem drop_nil (n : Int) (w : World) : Calls Tryz.prog 18 #[.pointer none, .int .i64 n] w fun e w' => e = .returned (.int .i64 1) ∧ w' = w := by
  go_enter Tryz.func18, Tryz.ntmps18
  go_wp2_with (go_at_call 24; refine (gone_nil _).mono ?_; rintro e w1 ⟨rfl, rfl⟩)
  go_ret
  exact ⟨rfl, rfl⟩
theorem cut_nil (n : Int) (w : World) : Calls Tryz.prog 19 #[.pointer none, .int .i64 n] w fun e w' => e = .returned (.int .i64 1) ∧ w' = w := by
  go_enter Tryz.func19, Tryz.ntmps19
  go_wp2_with (go_at_call 24; refine (gone_nil _).mono ?_; rintro e w1 ⟨rfl, rfl⟩)
  go_ret
  exact ⟨rfl, rfl⟩
theorem all_any (v : Value) (hv : v.oneCell' = true) (w : World) : Calls Tryz.prog 20 #[v] w fun e w' => e = .returned (.func (.func 42) #[] #[.pointer (some ⟨w.heap.size, 0, none⟩)]) ∧ w' = w.alloc (.cells #[v] 26) := by
  go_enter Tryz.func20, Tryz.ntmps20
  go_wp2_with fail
  go_ret
  exact ⟨rfl, rfl⟩
theorem allf_nil (y : Value) (g : Nat) (w : World) (h : w.heap[g]? = some (.cells #[.pointer none] 26)) : Calls Tryz.prog 42 #[y, .pointer (some ⟨g, 0, none⟩)] w fun e w' => e = .returned (.tuple #[]) ∧ w' = w := by
  have h0 : w.cell? ⟨g, 0, none⟩ = some (.pointer none) := cell_of h
  clear h
  go_enter Tryz.func42, Tryz.ntmps42
  go_wp2_with (go_at_call 24; refine (gone_nil _).mono ?_; rintro e w1 ⟨rfl, rfl⟩)
  exact bodyPost_ret (results_none rfl _ _ _) rfl ⟨rfl, rfl⟩
theorem eql44 (v : Value) (W : World) : (binOp BinOp.eql 44 (.func (.func 42) #[] #[v]) .nilFunc).run Tryz.prog W = .ok (.bool false) W := by kernel_rfl
theorem all_stops0 (g : Nat) (w : World) (n : Nat) (h : w.heap[g]? = some (.cells #[.pointer none] 26)) : SeqStopsK Fence.wide n Tryz.prog 42 #[.pointer (some ⟨g, 0, none⟩)] (fun x : Empty => nomatch x) (fun _ _ => True) (fun _ => True) (fun _ => True) 0 w := by
  intro l J Jx W hW hJ hJx hY h0
  refine callsIn_wide.2 ?_
  refine (allf_nil (.func (.yield l) #[] #[]) g W (Bel.row hW h)).mono ?_
  rintro e w' ⟨rfl, rfl⟩
  exact ⟨⟨_, rfl⟩, Or.inl ⟨[], trivial, h0⟩⟩
set_option maxRecDepth 100000 in
set_option maxHeartbeats 4000000 in
theorem nil_law (n : Int) (s : ByteArray) (w : World) (hg : Gl w) : Calls Tryz.prog 5 #[.int .i64 n, .string s] w fun e w' => e = .returned (.bool true) ∧ Bel w w' := by
  have HG := hide hg
  have heq := eql44
  refine (callsIn_wide (n := 3)).1 ?_
  refine callsIn_of_wp_marks Tryz.func5 rfl trivial ?_ rfl
  simp only [Tryz.ntmps5, List.size_toArray, List.length_cons, List.length_nil, Nat.reduceAdd, Nat.reduceSub, Array.replicate_succ, Array.replicate_zero, List.push_toArray, List.append_toArray, List.nil_append, List.cons_append]
  gi_wp2_with (first
    | (refine ⟨trivial, ?_⟩; gi_at_call 7; refine (callsIn_wide.2 (open_nil s _)).mono ?_; rintro e w1 ⟨rfl, hb1⟩; have HB1 := hide hb1; clear hb1)
    | (refine ⟨trivial, ?_⟩; gi_at_call 8; refine (callsIn_wide.2 (append_nil_wal _ _)).mono ?_; rintro e w2 ⟨rfl, hw2⟩; rw [hw2]; clear hw2)
    | (refine ⟨trivial, ?_⟩; gi_at_call 14; refine (callsIn_wide.2 (at_nil n _)).mono ?_; rintro e w2 ⟨rfl, hw2⟩; rw [hw2]; clear hw2)
    | (refine ⟨trivial, ?_⟩; gi_at_call 20; refine (callsIn_wide.2 (all_any (.pointer none) rfl _)).mono ?_; rintro e w3 ⟨rfl, hw3⟩; rw [hw3]; clear hw3))
  have hb1 := unhide HB1
  have hlt : w.heap.size < (w.alloc (.cells #[.bool false] 4)).heap.size := by simp
  have hbw : Bel w w1 := ((Bel.refl w).alloc (.cells #[.bool false] 4)).trans hb1
  have hr1 : w1.heap[w.heap.size]? = some (.cells #[.bool false] 4) := hb1.row (at_new w _)
  have hblk := at_new3 w1 (.cells #[.string s] 9) (.cells #[.pointer none] 26) (.cells #[.pointer none] 26)
  have hb3 := (((Bel.refl w1).alloc (.cells #[.string s] 9)).alloc (.cells #[.pointer none] 26)).alloc (.cells #[.pointer none] 26)
  have hr3 := hb3.row hr1
  have hB0 := hbw.trans hb3
  have hlw : w.heap.size < w1.heap.size := lt_of_some hr1
  refine wpIn_rangeFunc_ownF (α := Empty) rfl (by decide) (gf := 42) (lb := #[.pointer (some ⟨w1.heap.size + 1 + 1, 0, none⟩)]) rfl trivial (enters_of Tryz.func42 (by kernel_rfl) rfl)
    (all_stops0 (w1.heap.size + 1 + 1) _ _ hblk) (fun _ _ => trivial) (fun _ _ _ _ _ _ _ _ => trivial) (Below.refl _ _) (fun x => nomatch x)
    (fun _ W => W.heap[w.heap.size]? = some (.cells #[.bool false] 4) ∧ Below w.heap.size w W)
    (fun _ _ _ => False)
    (fun _ A B row hs hg hr => ⟨(hg.block _ (lt_of_some hs.1) (fun e => ?own)).trans hs.1, hs.2.grown hg (Nat.le_trans (Nat.le_refl _) hs.2.size) (fun k e => ?own2)⟩)
    (fun _ _ _ _ _ hs _ _ => hs)
    ⟨hr3, hB0⟩ (fun x => nomatch x) (fun _ x => nomatch x) (fun _ _ x => nomatch x) ?done ?stop
  case own =>
    have := (hr _ e.symm).1
    simp at this
    omega
  case own2 =>
    have := (hr _ e).1
    simp at this
    omega
  case stop =>
    rintro D c pre W _ _ h _
    exact h.elim
  case done =>
    rintro D ys W hD _ ⟨hrW, hB⟩ hK
    have hDl := lt_of_some hK
    gi_wp2_with (first
      | (refine ⟨trivial, ?_⟩; gi_at_call 9; refine (callsIn_wide.2 (wsync_nil _)).mono ?_; rintro e w5 ⟨rfl, hw5⟩; rw [hw5]; clear hw5)
      | (refine ⟨trivial, ?_⟩; gi_at_call 18; refine (callsIn_wide.2 (drop_nil n _)).mono ?_; rintro e w5 ⟨rfl, hw5⟩; rw [hw5]; clear hw5)
      | (refine ⟨trivial, ?_⟩; gi_at_call 19; refine (callsIn_wide.2 (cut_nil n _)).mono ?_; rintro e w5 ⟨rfl, hw5⟩; rw [hw5]; clear hw5)
      | (refine ⟨trivial, ?_⟩; gi_at_call 12; refine (callsIn_wide.2 (first_nil _)).mono ?_; rintro e w5 ⟨rfl, hw5⟩; rw [hw5]; clear hw5)
      | (refine ⟨trivial, ?_⟩; gi_at_call 13; refine (callsIn_wide.2 (next_nil _)).mono ?_; rintro e w5 ⟨rfl, hw5⟩; rw [hw5]; clear hw5)
      | (refine ⟨trivial, ?_⟩; gi_at_call 17; refine (callsIn_wide.2 (alive_any _ ((unhide HG).next hB))).mono ?_; rintro e w6 ⟨rfl, hb6⟩; have hr6 := hb6.row hrW; have c6 : w6.cell? ⟨w.heap.size, 0, none⟩ = some (.bool false) := cell_of hr6; have f6 : w6.frozen? ⟨w.heap.size, 0, none⟩ = false := free_row hr6; have hK6 := hb6.row hK))
    have hbb : Below w.heap.size w w6 := Bel.trans hB hb6
    have hDw : w.heap.size ≤ D := by simp at hD; omega
    have hK' := (KeepsOthers.setCell w6 ⟨w.heap.size, 0, none⟩ (.bool true)).same D _ hK6 rfl
    refine ⟨by simp, .inl ⟨_, _, rfl, run_takeDeferred hK', ?_⟩⟩
    have hc5 := cell_kept (World.cell?_setCell_same' w6 ⟨w.heap.size, 0, none⟩ (.bool true) (by rw [c6]; rfl)) (grownBy_putObj' _ D (.deferred none)) (fun r e => by cases e; exact ⟨_, hK', rfl⟩)
    refine ⟨.bool true, ?_, rfl, (hbb.setCell (p := ⟨w.heap.size, 0, none⟩) (Nat.le_refl _) _).trans (belowK_b (w := w) (Nat.le_refl _) _ D _ _ hDw hK' rfl rfl)⟩
    simp [results, Tryz.f5, go_sem, hc5]
end Go.Proofs.YtgimciacapfbfaaGreatDoor
