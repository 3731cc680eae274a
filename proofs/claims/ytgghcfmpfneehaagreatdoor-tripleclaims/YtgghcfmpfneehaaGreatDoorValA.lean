/- What the program's May, bare, truth, fieldBytes and Bytes return; for every value. -/
import Derived.Test.YtgghcfmpfneehaaGreatDoorWalksD
import Derived.Deep.RegionHeld3
namespace Go.Proofs.YtgghcfmpfneehaaGreatDoor
open Go.RowKit
/-- A value as the program holds it. -/
def ev (k : Int) (b : Bool) (n : Int) (s : ByteArray) (u : Int) : Value := .agg #[.int .u8 k, .bool b, .int .i64 n, .string s, .int .u64 u]
theorem Bel.cell {a b : World} (h : Bel a b) {k i : Nat} {v : Value} (hr : a.cell? ⟨k, i, none⟩ = some v) : b.cell? ⟨k, i, none⟩ = some v := by
  have hk : k < a.heap.size := by
    apply Decidable.byContradiction
    intro hn
    have : a.heap[k]? = none := Array.getElem?_eq_none (by omega)
    simp [World.cell?, this] at hr
  exact (Below.cell h (show (⟨k, i, none⟩ : Addr).block < a.heap.size from hk)).trans hr
def S5 (B : Nat) (k : Int) (b : Bool) (n : Int) (s : ByteArray) (u : Int) (W : World) : Prop :=
  W.cell? ⟨B, 0, none⟩ = some (.int .u8 k) ∧ W.cell? ⟨B, 1, none⟩ = some (.bool b) ∧ W.cell? ⟨B, 2, none⟩ = some (.int .i64 n) ∧ W.cell? ⟨B, 3, none⟩ = some (.string s) ∧ W.cell? ⟨B, 4, none⟩ = some (.int .u64 u)
theorem S5.next {B : Nat} {k : Int} {b : Bool} {n : Int} {s : ByteArray} {u : Int} {W W' : World} (h : S5 B k b n s u W) (hb : Bel W W') : S5 B k b n s u W' :=
  ⟨hb.cell h.1, hb.cell h.2.1, hb.cell h.2.2.1, hb.cell h.2.2.2.1, hb.cell h.2.2.2.2⟩
theorem cell_new (W : World) (c : Array Value) (t : TypeId) (i : Nat) : (W.alloc (.cells c t)).drew.cell? ⟨W.heap.size, i, none⟩ = c[i]? := by
  show (W.alloc (.cells c t)).cell? ⟨W.heap.size, i, none⟩ = _
  simp only [World.cell?, heap_alloc_new]
  rfl
theorem S5.new (k : Int) (b : Bool) (n : Int) (s : ByteArray) (u : Int) (W : World) : S5 W.heap.size k b n s u (W.alloc (.cells #[.int .u8 k, .bool b, .int .i64 n, .string s, .int .u64 u] 25)).drew :=
  ⟨cell_new _ _ _ _, cell_new _ _ _ _, cell_new _ _ _ _, cell_new _ _ _ _, cell_new _ _ _ _⟩
theorem ba_nil_ne {s : ByteArray} (h : s.size ≠ 0) : (s.toList.isEmpty) = false := by
  rw [ByteArray.toList_eq]
  have : s.data.toList.length ≠ 0 := h
  cases hl : s.data.toList with
  | nil => rw [hl] at this; simp at this
  | cons => rfl
theorem ba_nil {s : ByteArray} (h : s.size = 0) : s = ⟨#[]⟩ := by
  have : s.data.size = 0 := h
  cases s; simp at this; simp [this]
theorem ne_beq {a b : Int} (h : a ≠ b) : (a == b) = false := by simpa using h
set_option maxRecDepth 100000 in
theorem bare_1 (b : Bool) (n : Int) (s : ByteArray) (u : Int) (w : World) :
    Calls Tryz.prog 96 #[ev 1 b n s u] w fun e w' => e = .returned (ev 1 b 0 ⟨#[]⟩ 0) ∧ Bel w w' := by
  unfold ev
  go_enter Tryz.func96, Tryz.ntmps96
  go_wp2_with fail
  exact bodyPost_ret (by simp [results, Tryz.results96, go_sem]) rfl ⟨rfl, ((Bel.refl _).alloc _).alloc _⟩
set_option maxRecDepth 100000 in
theorem bare_2 (b : Bool) (n : Int) (s : ByteArray) (u : Int) (w : World) :
    Calls Tryz.prog 96 #[ev 2 b n s u] w fun e w' => e = .returned (ev 2 false n ⟨#[]⟩ 0) ∧ Bel w w' := by
  unfold ev
  go_enter Tryz.func96, Tryz.ntmps96
  go_wp2_with fail
  exact bodyPost_ret (by simp [results, Tryz.results96, go_sem]) rfl ⟨rfl, ((Bel.refl _).alloc _).alloc _⟩
set_option maxRecDepth 100000 in
theorem bare_3 (b : Bool) (n : Int) (s : ByteArray) (u : Int) (w : World) :
    Calls Tryz.prog 96 #[ev 3 b n s u] w fun e w' => e = .returned (ev 3 false 0 s 0) ∧ Bel w w' := by
  unfold ev
  go_enter Tryz.func96, Tryz.ntmps96
  go_wp2_with fail
  exact bodyPost_ret (by simp [results, Tryz.results96, go_sem]) rfl ⟨rfl, ((Bel.refl _).alloc _).alloc _⟩
set_option maxRecDepth 100000 in
theorem bare_4 (b : Bool) (n : Int) (s : ByteArray) (u : Int) (w : World) :
    Calls Tryz.prog 96 #[ev 4 b n s u] w fun e w' => e = .returned (ev 4 false 0 ⟨#[]⟩ u) ∧ Bel w w' := by
  unfold ev
  go_enter Tryz.func96, Tryz.ntmps96
  go_wp2_with fail
  exact bodyPost_ret (by simp [results, Tryz.results96, go_sem]) rfl ⟨rfl, ((Bel.refl _).alloc _).alloc _⟩
set_option maxRecDepth 100000 in
theorem may_1n (b : Bool) (n : Int) (s : ByteArray) (u : Int) (hn : (n == 0) = false) (w : World) :
    Calls Tryz.prog 60 #[ev 1 b n s u] w fun e w' => e = .returned (.int .i64 30) ∧ Bel w w' := by
  have hC := hide (fun W => bare_1 b n s u W)
  unfold ev at hC ⊢
  go_enter Tryz.func60, Tryz.ntmps60
  go_wp2_with fail
  go_region_held3 (fun W => W.cell? ⟨w.heap.size, 0, none⟩ = some (.int .u8 1) ∧ W.cell? ⟨w.heap.size, 1, none⟩ = some (.bool b) ∧ W.cell? ⟨w.heap.size, 2, none⟩ = some (.int .i64 n) ∧ W.cell? ⟨w.heap.size, 3, none⟩ = some (.string s) ∧ W.cell? ⟨w.heap.size, 4, none⟩ = some (.int .u64 u)) (first | assumption | exact S5.new _ _ _ _ _ _ | exact S5.next (by assumption) (by assumption)) ((go_at_call 96; refine (hC.out _).mono ?_; rintro e w' ⟨rfl, hb⟩))
  go_wp2
  go_ret
  exact ⟨rfl, ((Bel.refl _).alloc _).drew.trans hb⟩
set_option maxRecDepth 100000 in
theorem may_1s (b : Bool) (s : ByteArray) (u : Int) (hs : s.toList.isEmpty = false) (w : World) :
    Calls Tryz.prog 60 #[ev 1 b 0 s u] w fun e w' => e = .returned (.int .i64 30) ∧ Bel w w' := by
  have hC := hide (fun W => bare_1 b 0 s u W)
  unfold ev at hC ⊢
  go_enter Tryz.func60, Tryz.ntmps60
  go_wp2_with fail
  go_region_held3 (fun W => W.cell? ⟨w.heap.size, 0, none⟩ = some (.int .u8 1) ∧ W.cell? ⟨w.heap.size, 1, none⟩ = some (.bool b) ∧ W.cell? ⟨w.heap.size, 2, none⟩ = some (.int .i64 0) ∧ W.cell? ⟨w.heap.size, 3, none⟩ = some (.string s) ∧ W.cell? ⟨w.heap.size, 4, none⟩ = some (.int .u64 u)) (first | assumption | exact S5.new _ _ _ _ _ _ | exact S5.next (by assumption) (by assumption)) ((go_at_call 96; refine (hC.out _).mono ?_; rintro e w' ⟨rfl, hb⟩))
  go_wp2
  go_ret
  exact ⟨rfl, ((Bel.refl _).alloc _).drew.trans hb⟩
set_option maxRecDepth 100000 in
theorem may_1u (b : Bool) (u : Int) (hu : (u == 0) = false) (w : World) :
    Calls Tryz.prog 60 #[ev 1 b 0 ⟨#[]⟩ u] w fun e w' => e = .returned (.int .i64 30) ∧ Bel w w' := by
  have hC := hide (fun W => bare_1 b 0 ⟨#[]⟩ u W)
  unfold ev at hC ⊢
  go_enter Tryz.func60, Tryz.ntmps60
  go_wp2_with fail
  go_region_held3 (fun W => W.cell? ⟨w.heap.size, 0, none⟩ = some (.int .u8 1) ∧ W.cell? ⟨w.heap.size, 1, none⟩ = some (.bool b) ∧ W.cell? ⟨w.heap.size, 2, none⟩ = some (.int .i64 0) ∧ W.cell? ⟨w.heap.size, 3, none⟩ = some (.string ⟨#[]⟩) ∧ W.cell? ⟨w.heap.size, 4, none⟩ = some (.int .u64 u)) (first | assumption | exact S5.new _ _ _ _ _ _ | exact S5.next (by assumption) (by assumption)) ((go_at_call 96; refine (hC.out _).mono ?_; rintro e w' ⟨rfl, hb⟩))
  go_wp2
  go_ret
  exact ⟨rfl, ((Bel.refl _).alloc _).drew.trans hb⟩
set_option maxRecDepth 100000 in
theorem may_1 (b : Bool) (w : World) :
    Calls Tryz.prog 60 #[ev 1 b 0 ⟨#[]⟩ 0] w fun e w' => e = .returned (.int .i64 0) ∧ Bel w w' := by
  have hC := hide (fun W => bare_1 b 0 ⟨#[]⟩ 0 W)
  unfold ev at hC ⊢
  go_enter Tryz.func60, Tryz.ntmps60
  go_wp2_with fail
  go_region_held3 (fun W => W.cell? ⟨w.heap.size, 0, none⟩ = some (.int .u8 1) ∧ W.cell? ⟨w.heap.size, 1, none⟩ = some (.bool b) ∧ W.cell? ⟨w.heap.size, 2, none⟩ = some (.int .i64 0) ∧ W.cell? ⟨w.heap.size, 3, none⟩ = some (.string ⟨#[]⟩) ∧ W.cell? ⟨w.heap.size, 4, none⟩ = some (.int .u64 0)) (first | assumption | exact S5.new _ _ _ _ _ _ | exact S5.next (by assumption) (by assumption)) ((go_at_call 96; refine (hC.out _).mono ?_; rintro e w' ⟨rfl, hb⟩))
  go_wp2
  go_ret
  exact ⟨rfl, ((Bel.refl _).alloc _).drew.trans hb⟩
set_option maxRecDepth 100000 in
theorem may_2b (n : Int) (s : ByteArray) (u : Int) (w : World) :
    Calls Tryz.prog 60 #[ev 2 true n s u] w fun e w' => e = .returned (.int .i64 30) ∧ Bel w w' := by
  have hC := hide (fun W => bare_2 true n s u W)
  unfold ev at hC ⊢
  go_enter Tryz.func60, Tryz.ntmps60
  go_wp2_with fail
  go_region_held3 (fun W => W.cell? ⟨w.heap.size, 0, none⟩ = some (.int .u8 2) ∧ W.cell? ⟨w.heap.size, 1, none⟩ = some (.bool true) ∧ W.cell? ⟨w.heap.size, 2, none⟩ = some (.int .i64 n) ∧ W.cell? ⟨w.heap.size, 3, none⟩ = some (.string s) ∧ W.cell? ⟨w.heap.size, 4, none⟩ = some (.int .u64 u)) (first | assumption | exact S5.new _ _ _ _ _ _ | exact S5.next (by assumption) (by assumption)) ((go_at_call 96; refine (hC.out _).mono ?_; rintro e w' ⟨rfl, hb⟩))
  go_wp2
  go_ret
  exact ⟨rfl, ((Bel.refl _).alloc _).drew.trans hb⟩
set_option maxRecDepth 100000 in
theorem may_2s (n : Int) (s : ByteArray) (u : Int) (hs : s.toList.isEmpty = false) (w : World) :
    Calls Tryz.prog 60 #[ev 2 false n s u] w fun e w' => e = .returned (.int .i64 30) ∧ Bel w w' := by
  have hC := hide (fun W => bare_2 false n s u W)
  unfold ev at hC ⊢
  go_enter Tryz.func60, Tryz.ntmps60
  go_wp2_with fail
  go_region_held3 (fun W => W.cell? ⟨w.heap.size, 0, none⟩ = some (.int .u8 2) ∧ W.cell? ⟨w.heap.size, 1, none⟩ = some (.bool false) ∧ W.cell? ⟨w.heap.size, 2, none⟩ = some (.int .i64 n) ∧ W.cell? ⟨w.heap.size, 3, none⟩ = some (.string s) ∧ W.cell? ⟨w.heap.size, 4, none⟩ = some (.int .u64 u)) (first | assumption | exact S5.new _ _ _ _ _ _ | exact S5.next (by assumption) (by assumption)) ((go_at_call 96; refine (hC.out _).mono ?_; rintro e w' ⟨rfl, hb⟩))
  go_wp2
  go_ret
  exact ⟨rfl, ((Bel.refl _).alloc _).drew.trans hb⟩
set_option maxRecDepth 100000 in
theorem may_2u (n : Int) (u : Int) (hu : (u == 0) = false) (w : World) :
    Calls Tryz.prog 60 #[ev 2 false n ⟨#[]⟩ u] w fun e w' => e = .returned (.int .i64 30) ∧ Bel w w' := by
  have hC := hide (fun W => bare_2 false n ⟨#[]⟩ u W)
  unfold ev at hC ⊢
  go_enter Tryz.func60, Tryz.ntmps60
  go_wp2_with fail
  go_region_held3 (fun W => W.cell? ⟨w.heap.size, 0, none⟩ = some (.int .u8 2) ∧ W.cell? ⟨w.heap.size, 1, none⟩ = some (.bool false) ∧ W.cell? ⟨w.heap.size, 2, none⟩ = some (.int .i64 n) ∧ W.cell? ⟨w.heap.size, 3, none⟩ = some (.string ⟨#[]⟩) ∧ W.cell? ⟨w.heap.size, 4, none⟩ = some (.int .u64 u)) (first | assumption | exact S5.new _ _ _ _ _ _ | exact S5.next (by assumption) (by assumption)) ((go_at_call 96; refine (hC.out _).mono ?_; rintro e w' ⟨rfl, hb⟩))
  go_wp2
  go_ret
  exact ⟨rfl, ((Bel.refl _).alloc _).drew.trans hb⟩
set_option maxRecDepth 100000 in
theorem may_2 (n : Int) (w : World) :
    Calls Tryz.prog 60 #[ev 2 false n ⟨#[]⟩ 0] w fun e w' => e = .returned (.int .i64 0) ∧ Bel w w' := by
  have hC := hide (fun W => bare_2 false n ⟨#[]⟩ 0 W)
  unfold ev at hC ⊢
  go_enter Tryz.func60, Tryz.ntmps60
  go_wp2_with fail
  go_region_held3 (fun W => W.cell? ⟨w.heap.size, 0, none⟩ = some (.int .u8 2) ∧ W.cell? ⟨w.heap.size, 1, none⟩ = some (.bool false) ∧ W.cell? ⟨w.heap.size, 2, none⟩ = some (.int .i64 n) ∧ W.cell? ⟨w.heap.size, 3, none⟩ = some (.string ⟨#[]⟩) ∧ W.cell? ⟨w.heap.size, 4, none⟩ = some (.int .u64 0)) (first | assumption | exact S5.new _ _ _ _ _ _ | exact S5.next (by assumption) (by assumption)) ((go_at_call 96; refine (hC.out _).mono ?_; rintro e w' ⟨rfl, hb⟩))
  go_wp2
  go_ret
  exact ⟨rfl, ((Bel.refl _).alloc _).drew.trans hb⟩
set_option maxRecDepth 100000 in
theorem may_3b (n : Int) (s : ByteArray) (u : Int) (hm : (s.size : Int) ≤ 4096) (w : World) :
    Calls Tryz.prog 60 #[ev 3 true n s u] w fun e w' => e = .returned (.int .i64 30) ∧ Bel w w' := by
  have hC := hide (fun W => bare_3 true n s u W)
  unfold ev at hC ⊢
  go_enter Tryz.func60, Tryz.ntmps60
  go_wp2_with fail
  go_region_held3 (fun W => W.cell? ⟨w.heap.size, 0, none⟩ = some (.int .u8 3) ∧ W.cell? ⟨w.heap.size, 1, none⟩ = some (.bool true) ∧ W.cell? ⟨w.heap.size, 2, none⟩ = some (.int .i64 n) ∧ W.cell? ⟨w.heap.size, 3, none⟩ = some (.string s) ∧ W.cell? ⟨w.heap.size, 4, none⟩ = some (.int .u64 u)) (first | assumption | exact S5.new _ _ _ _ _ _ | exact S5.next (by assumption) (by assumption)) ((go_at_call 96; refine (hC.out _).mono ?_; rintro e w' ⟨rfl, hb⟩))
  go_wp2
  go_ret
  exact ⟨rfl, ((Bel.refl _).alloc _).drew.trans hb⟩
set_option maxRecDepth 100000 in
theorem may_3n (n : Int) (s : ByteArray) (u : Int) (hm : (s.size : Int) ≤ 4096) (hn : (n == 0) = false) (w : World) :
    Calls Tryz.prog 60 #[ev 3 false n s u] w fun e w' => e = .returned (.int .i64 30) ∧ Bel w w' := by
  have hC := hide (fun W => bare_3 false n s u W)
  unfold ev at hC ⊢
  go_enter Tryz.func60, Tryz.ntmps60
  go_wp2_with fail
  go_region_held3 (fun W => W.cell? ⟨w.heap.size, 0, none⟩ = some (.int .u8 3) ∧ W.cell? ⟨w.heap.size, 1, none⟩ = some (.bool false) ∧ W.cell? ⟨w.heap.size, 2, none⟩ = some (.int .i64 n) ∧ W.cell? ⟨w.heap.size, 3, none⟩ = some (.string s) ∧ W.cell? ⟨w.heap.size, 4, none⟩ = some (.int .u64 u)) (first | assumption | exact S5.new _ _ _ _ _ _ | exact S5.next (by assumption) (by assumption)) ((go_at_call 96; refine (hC.out _).mono ?_; rintro e w' ⟨rfl, hb⟩))
  go_wp2
  go_ret
  exact ⟨rfl, ((Bel.refl _).alloc _).drew.trans hb⟩
set_option maxRecDepth 100000 in
theorem may_3u (s : ByteArray) (u : Int) (hm : (s.size : Int) ≤ 4096) (hu : (u == 0) = false) (w : World) :
    Calls Tryz.prog 60 #[ev 3 false 0 s u] w fun e w' => e = .returned (.int .i64 30) ∧ Bel w w' := by
  have hC := hide (fun W => bare_3 false 0 s u W)
  unfold ev at hC ⊢
  go_enter Tryz.func60, Tryz.ntmps60
  go_wp2_with fail
  go_region_held3 (fun W => W.cell? ⟨w.heap.size, 0, none⟩ = some (.int .u8 3) ∧ W.cell? ⟨w.heap.size, 1, none⟩ = some (.bool false) ∧ W.cell? ⟨w.heap.size, 2, none⟩ = some (.int .i64 0) ∧ W.cell? ⟨w.heap.size, 3, none⟩ = some (.string s) ∧ W.cell? ⟨w.heap.size, 4, none⟩ = some (.int .u64 u)) (first | assumption | exact S5.new _ _ _ _ _ _ | exact S5.next (by assumption) (by assumption)) ((go_at_call 96; refine (hC.out _).mono ?_; rintro e w' ⟨rfl, hb⟩))
  go_wp2
  go_ret
  exact ⟨rfl, ((Bel.refl _).alloc _).drew.trans hb⟩
set_option maxRecDepth 100000 in
theorem may_3 (s : ByteArray) (hm : (s.size : Int) ≤ 4096) (w : World) :
    Calls Tryz.prog 60 #[ev 3 false 0 s 0] w fun e w' => e = .returned (.int .i64 0) ∧ Bel w w' := by
  have hC := hide (fun W => bare_3 false 0 s 0 W)
  unfold ev at hC ⊢
  go_enter Tryz.func60, Tryz.ntmps60
  go_wp2_with fail
  go_region_held3 (fun W => W.cell? ⟨w.heap.size, 0, none⟩ = some (.int .u8 3) ∧ W.cell? ⟨w.heap.size, 1, none⟩ = some (.bool false) ∧ W.cell? ⟨w.heap.size, 2, none⟩ = some (.int .i64 0) ∧ W.cell? ⟨w.heap.size, 3, none⟩ = some (.string s) ∧ W.cell? ⟨w.heap.size, 4, none⟩ = some (.int .u64 0)) (first | assumption | exact S5.new _ _ _ _ _ _ | exact S5.next (by assumption) (by assumption)) ((go_at_call 96; refine (hC.out _).mono ?_; rintro e w' ⟨rfl, hb⟩))
  go_wp2
  go_ret
  exact ⟨rfl, ((Bel.refl _).alloc _).drew.trans hb⟩
set_option maxRecDepth 100000 in
theorem may_4b (n : Int) (s : ByteArray) (u : Int) (hu : (u == 0) = false) (hm : (s.size : Int) ≤ 4096) (w : World) :
    Calls Tryz.prog 60 #[ev 4 true n s u] w fun e w' => e = .returned (.int .i64 30) ∧ Bel w w' := by
  have hC := hide (fun W => bare_4 true n s u W)
  unfold ev at hC ⊢
  go_enter Tryz.func60, Tryz.ntmps60
  go_wp2_with fail
  go_region_held3 (fun W => W.cell? ⟨w.heap.size, 0, none⟩ = some (.int .u8 4) ∧ W.cell? ⟨w.heap.size, 1, none⟩ = some (.bool true) ∧ W.cell? ⟨w.heap.size, 2, none⟩ = some (.int .i64 n) ∧ W.cell? ⟨w.heap.size, 3, none⟩ = some (.string s) ∧ W.cell? ⟨w.heap.size, 4, none⟩ = some (.int .u64 u)) (first | assumption | exact S5.new _ _ _ _ _ _ | exact S5.next (by assumption) (by assumption)) ((go_at_call 96; refine (hC.out _).mono ?_; rintro e w' ⟨rfl, hb⟩))
  go_wp2
  go_ret
  exact ⟨rfl, ((Bel.refl _).alloc _).drew.trans hb⟩
set_option maxRecDepth 100000 in
theorem may_4n (n : Int) (s : ByteArray) (u : Int) (hu : (u == 0) = false) (hm : (s.size : Int) ≤ 4096) (hn : (n == 0) = false) (w : World) :
    Calls Tryz.prog 60 #[ev 4 false n s u] w fun e w' => e = .returned (.int .i64 30) ∧ Bel w w' := by
  have hC := hide (fun W => bare_4 false n s u W)
  unfold ev at hC ⊢
  go_enter Tryz.func60, Tryz.ntmps60
  go_wp2_with fail
  go_region_held3 (fun W => W.cell? ⟨w.heap.size, 0, none⟩ = some (.int .u8 4) ∧ W.cell? ⟨w.heap.size, 1, none⟩ = some (.bool false) ∧ W.cell? ⟨w.heap.size, 2, none⟩ = some (.int .i64 n) ∧ W.cell? ⟨w.heap.size, 3, none⟩ = some (.string s) ∧ W.cell? ⟨w.heap.size, 4, none⟩ = some (.int .u64 u)) (first | assumption | exact S5.new _ _ _ _ _ _ | exact S5.next (by assumption) (by assumption)) ((go_at_call 96; refine (hC.out _).mono ?_; rintro e w' ⟨rfl, hb⟩))
  go_wp2
  go_ret
  exact ⟨rfl, ((Bel.refl _).alloc _).drew.trans hb⟩
set_option maxRecDepth 100000 in
theorem may_4s (s : ByteArray) (u : Int) (hu : (u == 0) = false) (hm : (s.size : Int) ≤ 4096) (hs : s.toList.isEmpty = false) (w : World) :
    Calls Tryz.prog 60 #[ev 4 false 0 s u] w fun e w' => e = .returned (.int .i64 30) ∧ Bel w w' := by
  have hC := hide (fun W => bare_4 false 0 s u W)
  unfold ev at hC ⊢
  go_enter Tryz.func60, Tryz.ntmps60
  go_wp2_with fail
  go_region_held3 (fun W => W.cell? ⟨w.heap.size, 0, none⟩ = some (.int .u8 4) ∧ W.cell? ⟨w.heap.size, 1, none⟩ = some (.bool false) ∧ W.cell? ⟨w.heap.size, 2, none⟩ = some (.int .i64 0) ∧ W.cell? ⟨w.heap.size, 3, none⟩ = some (.string s) ∧ W.cell? ⟨w.heap.size, 4, none⟩ = some (.int .u64 u)) (first | assumption | exact S5.new _ _ _ _ _ _ | exact S5.next (by assumption) (by assumption)) ((go_at_call 96; refine (hC.out _).mono ?_; rintro e w' ⟨rfl, hb⟩))
  go_wp2
  go_ret
  exact ⟨rfl, ((Bel.refl _).alloc _).drew.trans hb⟩
set_option maxRecDepth 100000 in
theorem may_4 (u : Int) (hu : (u == 0) = false) (w : World) :
    Calls Tryz.prog 60 #[ev 4 false 0 ⟨#[]⟩ u] w fun e w' => e = .returned (.int .i64 0) ∧ Bel w w' := by
  have hC := hide (fun W => bare_4 false 0 ⟨#[]⟩ u W)
  unfold ev at hC ⊢
  go_enter Tryz.func60, Tryz.ntmps60
  go_wp2_with fail
  go_region_held3 (fun W => W.cell? ⟨w.heap.size, 0, none⟩ = some (.int .u8 4) ∧ W.cell? ⟨w.heap.size, 1, none⟩ = some (.bool false) ∧ W.cell? ⟨w.heap.size, 2, none⟩ = some (.int .i64 0) ∧ W.cell? ⟨w.heap.size, 3, none⟩ = some (.string ⟨#[]⟩) ∧ W.cell? ⟨w.heap.size, 4, none⟩ = some (.int .u64 u)) (first | assumption | exact S5.new _ _ _ _ _ _ | exact S5.next (by assumption) (by assumption)) ((go_at_call 96; refine (hC.out _).mono ?_; rintro e w' ⟨rfl, hb⟩))
  go_wp2
  go_ret
  exact ⟨rfl, ((Bel.refl _).alloc _).drew.trans hb⟩
set_option maxRecDepth 100000 in
theorem may_4z (b : Bool) (n : Int) (s : ByteArray) (w : World) :
    Calls Tryz.prog 60 #[ev 4 b n s 0] w fun e w' => e = .returned (.int .i64 30) ∧ Bel w w' := by
  unfold ev
  go_enter Tryz.func60, Tryz.ntmps60
  go_wp2_with fail
  go_ret
  exact ⟨rfl, (Bel.refl _).alloc _⟩
set_option maxRecDepth 100000 in
theorem may_4l (b : Bool) (n : Int) (s : ByteArray) (u : Int) (hu : (u == 0) = false) (hm : (4096 : Int) < (s.size : Int)) (w : World) :
    Calls Tryz.prog 60 #[ev 4 b n s u] w fun e w' => e = .returned (.int .i64 30) ∧ Bel w w' := by
  unfold ev
  go_enter Tryz.func60, Tryz.ntmps60
  go_wp2_with fail
  go_ret
  exact ⟨rfl, (Bel.refl _).alloc _⟩
set_option maxRecDepth 100000 in
theorem may_3l (b : Bool) (n : Int) (s : ByteArray) (u : Int) (hm : (4096 : Int) < (s.size : Int)) (w : World) :
    Calls Tryz.prog 60 #[ev 3 b n s u] w fun e w' => e = .returned (.int .i64 30) ∧ Bel w w' := by
  unfold ev
  go_enter Tryz.func60, Tryz.ntmps60
  go_wp2_with fail
  go_ret
  exact ⟨rfl, (Bel.refl _).alloc _⟩
set_option maxRecDepth 100000 in
theorem may_0 (k : Int) (b : Bool) (n : Int) (s : ByteArray) (u : Int) (h1 : (k == 1) = false) (h2 : (k == 2) = false) (h3 : (k == 3) = false) (h4 : (k == 4) = false) (w : World) :
    Calls Tryz.prog 60 #[ev k b n s u] w fun e w' => e = .returned (.int .i64 30) ∧ Bel w w' := by
  unfold ev
  go_enter Tryz.func60, Tryz.ntmps60
  go_wp2_with fail
  go_ret
  exact ⟨rfl, (Bel.refl _).alloc _⟩
end Go.Proofs.YtgghcfmpfneehaaGreatDoor
