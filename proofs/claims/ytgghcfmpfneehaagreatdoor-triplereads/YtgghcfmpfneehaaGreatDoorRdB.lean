/- What the closures of the program's Read leave in its two boxes. -/
import Derived.Test.YtgghcfmpfneehaaGreatDoorRdA
namespace Go.Proofs.YtgghcfmpfneehaaGreatDoor
open Go.RowKit
/-- A write's eight cells. -/
def wc (d : Bool) (u : Int) (p : ByteArray) (k : Int) (b : Bool) (n : Int) (s : ByteArray) (v : Int) : Array Value := #[.bool d, .int .u64 u, .string p, .int .u8 k, .bool b, .int .i64 n, .string s, .int .u64 v]
/-- The closures of Read. -/
def stp (B : Nat) : Array Value := #[.func (.func 20) #[] #[.pointer (some ⟨B + 1, 0, none⟩), .pointer (some ⟨B, 0, none⟩)], .func (.func 22) #[] #[.pointer (some ⟨B + 1, 0, none⟩), .pointer (some ⟨B, 0, none⟩)], .func (.func 24) #[] #[.pointer (some ⟨B + 1, 0, none⟩), .pointer (some ⟨B, 0, none⟩)], .func (.func 26) #[] #[.pointer (some ⟨B + 1, 0, none⟩), .pointer (some ⟨B, 0, none⟩)], .func (.func 28) #[] #[.pointer (some ⟨B, 0, none⟩)]]
/-- The two boxes of Read: the write so far, and the rest. -/
structure RW (B : Nat) (w W : World) (d : Bool) (u : Int) (p : ByteArray) (k : Int) (b : Bool) (n : Int) (s : ByteArray) (v : Int) (r : ByteArray) : Prop where
  hw : W.heap[B]? = some (.cells (wc d u p k b n s v) 29)
  hr : W.heap[B + 1]? = some (.cells #[.string r] 9)
  hs : W.heap[B + 1 + 1]? = some (.cells (stp B) 57)
  bel : Below B w W
theorem cell_of {W : World} {B i : Nat} {c : Array Value} {t : TypeId} (h : W.heap[B]? = some (.cells c t)) : W.cell? ⟨B, i, none⟩ = c[i]? := by
  simp only [World.cell?, h]; rfl
theorem RW.next {B : Nat} {w W W' : World} {d : Bool} {u : Int} {p : ByteArray} {k : Int} {b : Bool} {n : Int} {s : ByteArray} {v : Int} {r : ByteArray} (h : RW B w W d u p k b n s v r) (hb : Bel W W') : RW B w W' d u p k b n s v r := by
  have hB : B < W.heap.size := by
    apply Decidable.byContradiction; intro hn
    have := h.hw; rw [Array.getElem?_eq_none (by omega)] at this; cases this
  exact ⟨hb.row h.hw, hb.row h.hr, hb.row h.hs, h.bel.trans (Below.mono hb (by omega))⟩
theorem RW.s8 {B : Nat} {w W : World} {d : Bool} {u : Int} {p : ByteArray} {k : Int} {b : Bool} {n : Int} {s : ByteArray} {v : Int} {r : ByteArray} (h : RW B w W d u p k b n s v r) : S8 B d u p k b n s v W :=
  ⟨cell_of h.hw, cell_of h.hw, cell_of h.hw, cell_of h.hw, cell_of h.hw, cell_of h.hw, cell_of h.hw, cell_of h.hw⟩
/-- A cell of the write is stored, then the rest. -/
theorem RW.set1 {B : Nat} {w W : World} {d : Bool} {u : Int} {p : ByteArray} {k : Int} {b : Bool} {n : Int} {s : ByteArray} {v : Int} {r : ByteArray} (h : RW B w W d u p k b n s v r) (i : Nat) (x : Value) (r' : ByteArray) {d' : Bool} {u' : Int} {p' : ByteArray} {k' : Int} {b' : Bool} {n' : Int} {s' : ByteArray} {v' : Int}
    (e : (wc d u p k b n s v).setIfInBounds i x = wc d' u' p' k' b' n' s' v') : RW B w ((W.setCell ⟨B, i, none⟩ x).setCell ⟨B + 1, 0, none⟩ (.string r')) d' u' p' k' b' n' s' v' r' := {
  hw := (Below.heap_setCell _ _ _ _ (by show B ≠ B + 1; omega)).trans (by rw [row_set h.hw, e])
  hr := by
    have h1 : (W.setCell ⟨B, i, none⟩ x).heap[B + 1]? = some (.cells #[.string r] 9) := (Below.heap_setCell _ _ _ _ (by show B + 1 ≠ B; omega)).trans h.hr
    rw [row_set h1]; rfl
  hs := (Below.heap_setCell _ _ _ _ (by show B + 1 + 1 ≠ B + 1; omega)).trans ((Below.heap_setCell _ _ _ _ (by show B + 1 + 1 ≠ B; omega)).trans h.hs)
  bel := (h.bel.setCell (by show B ≤ B; omega) _).setCell (by show B ≤ B + 1; omega) _ }
theorem RW.put {B : Nat} {w W : World} {d : Bool} {u : Int} {p : ByteArray} {k : Int} {b : Bool} {n : Int} {s : ByteArray} {v : Int} {r : ByteArray} (h : RW B w W d u p k b n s v r) (i : Nat) (x : Value) {d' : Bool} {u' : Int} {p' : ByteArray} {k' : Int} {b' : Bool} {n' : Int} {s' : ByteArray} {v' : Int}
    (e : (wc d u p k b n s v).setIfInBounds i x = wc d' u' p' k' b' n' s' v') : RW B w (W.setCell ⟨B, i, none⟩ x) d' u' p' k' b' n' s' v' r := {
  hw := by rw [row_set h.hw, e]
  hr := (Below.heap_setCell _ _ _ _ (by show B + 1 ≠ B; omega)).trans h.hr
  hs := (Below.heap_setCell _ _ _ _ (by show B + 1 + 1 ≠ B; omega)).trans h.hs
  bel := h.bel.setCell (by show B ≤ B; omega) _ }
theorem RW.rest {B : Nat} {w W : World} {d : Bool} {u : Int} {p : ByteArray} {k : Int} {b : Bool} {n : Int} {s : ByteArray} {v : Int} {r : ByteArray} (h : RW B w W d u p k b n s v r) (r' : ByteArray) : RW B w (W.setCell ⟨B + 1, 0, none⟩ (.string r')) d u p k b n s v r' := {
  hw := (Below.heap_setCell _ _ _ _ (by show B ≠ B + 1; omega)).trans h.hw
  hr := by rw [row_set h.hr]; rfl
  hs := (Below.heap_setCell _ _ _ _ (by show B + 1 + 1 ≠ B + 1; omega)).trans h.hs
  bel := h.bel.setCell (by show B ≤ B + 1; omega) _ }
theorem RW.val {B : Nat} {w W : World} {d : Bool} {u : Int} {p : ByteArray} {k : Int} {b : Bool} {n : Int} {s : ByteArray} {v : Int} {r : ByteArray} (h : RW B w W d u p k b n s v r) (k' : Int) (b' : Bool) (n' : Int) (s' : ByteArray) (v' : Int) (r' : ByteArray) :
    RW B w ((((((W.setCell ⟨B, 3, none⟩ (.int .u8 k')).setCell ⟨B, 4, none⟩ (.bool b')).setCell ⟨B, 5, none⟩ (.int .i64 n')).setCell ⟨B, 6, none⟩ (.string s')).setCell ⟨B, 7, none⟩ (.int .u64 v')).setCell ⟨B + 1, 0, none⟩ (.string r')) d u p k' b' n' s' v' r' :=
  (((((h.put (k' := k') 3 _ rfl).put (b' := b') 4 _ rfl).put (n' := n') 5 _ rfl).put (s' := s') 6 _ rfl).put (v' := v') 7 _ rfl).rest r'
theorem frozen_of {W : World} {B i : Nat} {c : Array Value} {t : TypeId} (h : W.heap[B]? = some (.cells c t)) : W.frozen? ⟨B, i, none⟩ = false := free_row h
set_option maxRecDepth 100000 in
theorem clo1 (B : Nat) (w W : World) (d : Bool) (u : Int) (p : ByteArray) (k : Int) (b : Bool) (n : Int) (s : ByteArray) (v : Int) (r : ByteArray) (hm : r.size ≤ 150000000000000) (h : RW B w W d u p k b n s v r) :
    Calls Tryz.prog 20 #[.pointer (some ⟨B + 1, 0, none⟩), .pointer (some ⟨B, 0, none⟩)] W fun e W' => e = .returned (.int .i64 (rMk r).2.2) ∧ RW B w W' (rMk r).1 u p k b n s v (rMk r).2.1 := by
  have hC := hide (fun W => mark_any r hm W)
  generalize rMk r = x at hC ⊢
  obtain ⟨x1, x2, x3⟩ := x
  simp only at hC ⊢
  have c0 : W.cell? ⟨B + 1, 0, none⟩ = some (.string r) := cell_of h.hr
  have H := hide h
  clear h
  go_enter Tryz.func20, Tryz.ntmps20
  go_wp2_with (go_at_call 21; refine (hC.out _).mono ?_; rintro e w1 ⟨rfl, hb⟩; have c1 : w1.cell? ⟨B + 1, 0, none⟩ = some (.string r) := cell_of (H.out.next hb).hr; have f1 := frozen_of (i := 0) (H.out.next hb).hr; have c2 : w1.cell? ⟨B, 0, none⟩ = some (.bool d) := cell_of (H.out.next hb).hw; have f2 := frozen_of (i := 0) (H.out.next hb).hw)
  go_ret
  exact ⟨rfl, (H.out.next hb).set1 0 (.bool x1) x2 rfl⟩
set_option maxRecDepth 100000 in
theorem clo2 (B : Nat) (w W : World) (d : Bool) (u : Int) (p : ByteArray) (k : Int) (b : Bool) (n : Int) (s : ByteArray) (v : Int) (r : ByteArray) (hm : r.size ≤ 150000000000000) (h : RW B w W d u p k b n s v r) :
    Calls Tryz.prog 22 #[.pointer (some ⟨B + 1, 0, none⟩), .pointer (some ⟨B, 0, none⟩)] W fun e W' => e = .returned (.int .i64 (rNum r).2.2) ∧ RW B w W' d ((rNum r).1 : Int) p k b n s v (rNum r).2.1 := by
  have hC := hide (fun W => readNum_any r hm W)
  generalize rNum r = x at hC ⊢
  obtain ⟨x1, x2, x3⟩ := x
  simp only at hC ⊢
  have c0 : W.cell? ⟨B + 1, 0, none⟩ = some (.string r) := cell_of h.hr
  have H := hide h
  clear h
  go_enter Tryz.func22, Tryz.ntmps22
  go_wp2_with (go_at_call 23; refine (hC.out _).mono ?_; rintro e w1 ⟨rfl, hb⟩; have c1 : w1.cell? ⟨B + 1, 0, none⟩ = some (.string r) := cell_of (H.out.next hb).hr; have f1 := frozen_of (i := 0) (H.out.next hb).hr; have c2 : w1.cell? ⟨B, 1, none⟩ = some (.int .u64 u) := cell_of (H.out.next hb).hw; have f2 := frozen_of (i := 1) (H.out.next hb).hw)
  go_ret
  exact ⟨rfl, (H.out.next hb).set1 1 (.int .u64 (x1 : Int)) x2 rfl⟩
set_option maxRecDepth 100000 in
theorem clo3 (B : Nat) (w W : World) (d : Bool) (u : Int) (p : ByteArray) (k : Int) (b : Bool) (n : Int) (s : ByteArray) (v : Int) (r : ByteArray) (hm : r.size ≤ 150000000000000) (h : RW B w W d u p k b n s v r) :
    Calls Tryz.prog 24 #[.pointer (some ⟨B + 1, 0, none⟩), .pointer (some ⟨B, 0, none⟩)] W fun e W' => e = .returned (.int .i64 (rText r).2.2) ∧ RW B w W' d u (rText r).1 k b n s v (rText r).2.1 := by
  have hC := hide (fun W => creadText_any r hm W)
  generalize rText r = x at hC ⊢
  obtain ⟨x1, x2, x3⟩ := x
  simp only at hC ⊢
  have c0 : W.cell? ⟨B + 1, 0, none⟩ = some (.string r) := cell_of h.hr
  have H := hide h
  clear h
  go_enter Tryz.func24, Tryz.ntmps24
  go_wp2_with (go_at_call 25; refine (hC.out _).mono ?_; rintro e w1 ⟨rfl, hb⟩; have c1 : w1.cell? ⟨B + 1, 0, none⟩ = some (.string r) := cell_of (H.out.next hb).hr; have f1 := frozen_of (i := 0) (H.out.next hb).hr; have c2 : w1.cell? ⟨B, 2, none⟩ = some (.string p) := cell_of (H.out.next hb).hw; have f2 := frozen_of (i := 2) (H.out.next hb).hw)
  go_ret
  exact ⟨rfl, (H.out.next hb).set1 2 (.string x1) x2 rfl⟩
set_option maxHeartbeats 1000000 in
set_option maxRecDepth 100000 in
theorem clo4 (B : Nat) (w W : World) (d : Bool) (u : Int) (p : ByteArray) (k : Int) (b : Bool) (n : Int) (s : ByteArray) (v : Int) (r : ByteArray) (hm : r.size ≤ 150000000000000) (h : RW B w W d u p k b n s v r) :
    Calls Tryz.prog 26 #[.pointer (some ⟨B + 1, 0, none⟩), .pointer (some ⟨B, 0, none⟩)] W fun e W' => e = .returned (.int .i64 (rVal r).2.2) ∧ RW B w W' d u p (rVal r).1.1 (rVal r).1.2.1 (rVal r).1.2.2.1 (rVal r).1.2.2.2.1 (rVal r).1.2.2.2.2 (rVal r).2.1 := by
  have hC := hide (fun W => read_any r hm W)
  generalize rVal r = x at hC ⊢
  obtain ⟨⟨k', b', n', s', v'⟩, x2, x3⟩ := x
  unfold rv ev at hC
  simp only at hC ⊢
  have c0 : W.cell? ⟨B + 1, 0, none⟩ = some (.string r) := cell_of h.hr
  have H := hide h
  clear h
  go_enter Tryz.func26, Tryz.ntmps26
  go_wp2_with (go_at_call 27; refine (hC.out _).mono ?_; rintro e w1 ⟨rfl, hb⟩; have c1 : w1.cell? ⟨B + 1, 0, none⟩ = some (.string r) := cell_of (H.out.next hb).hr; have f1 := frozen_of (i := 0) (H.out.next hb).hr; obtain ⟨d0, d1, d2, d3, d4, d5, d6, d7⟩ := (H.out.next hb).s8; have g3 := frozen_of (i := 3) (H.out.next hb).hw; have g4 := frozen_of (i := 4) (H.out.next hb).hw; have g5 := frozen_of (i := 5) (H.out.next hb).hw; have g6 := frozen_of (i := 6) (H.out.next hb).hw; have g7 := frozen_of (i := 7) (H.out.next hb).hw)
  go_ret
  exact ⟨rfl, (H.out.next hb).val k' b' n' s' v' x2⟩
set_option maxRecDepth 100000 in
theorem clo5 (B : Nat) (w W : World) (d : Bool) (u : Int) (p : ByteArray) (k : Int) (b : Bool) (n : Int) (s : ByteArray) (v : Int) (r : ByteArray) (hu : 0 ≤ u) (h : RW B w W d u p k b n s v r) :
    Calls Tryz.prog 28 #[.pointer (some ⟨B, 0, none⟩)] W fun e W' => e = .returned (.int .i64 (eT u p k b n s v)) ∧ RW B w W' d u p k b n s v r := by
  have hC := hide (fun W => may_any u p k b n s v hu W)
  generalize eT u p k b n s v = E at hC ⊢
  unfold et at hC
  have H := hide h
  obtain ⟨d0, d1, d2, d3, d4, d5, d6, d7⟩ := h.s8
  clear h
  go_enter Tryz.func28, Tryz.ntmps28
  go_wp2_with (go_at_call 29; refine (hC.out _).mono ?_; rintro e w1 ⟨rfl, hb⟩)
  go_ret
  exact ⟨rfl, H.out.next hb⟩
end Go.Proofs.YtgghcfmpfneehaaGreatDoor
