/- The law TripleOne answers true: for every schema and every two writes. -/
import Derived.Test.YtgghcfmpfneehabDoorClaH
import Derived.Test.YtgghcfmpfneehabDoorTriG
namespace Go.Proofs.YtgghcfmpfneehabDoor
open Go.RowKit Go.Sort Go.Maps
theorem bytes_inj {a b : ByteArray} (h : a.toList = b.toList) : a = b := by
  rw [ByteArray.toList_eq, ByteArray.toList_eq] at h
  exact ba_ext h
/-- Two values held against one another. -/
def sameV (k : Int) (b : Bool) (n : Int) (s : ByteArray) (v : Int) (k' : Int) (b' : Bool) (n' : Int) (s' : ByteArray) (v' : Int) : Bool := decide (k = k' ∧ b = b' ∧ n = n' ∧ s = s' ∧ v = v')
set_option maxRecDepth 100000 in
theorem same27 (k : Int) (b : Bool) (n : Int) (s : ByteArray) (v : Int) (k' : Int) (b' : Bool) (n' : Int) (s' : ByteArray) (v' : Int) (w : World) : (Op.equalIn 10000 27 (.agg #[.int .u8 k, .bool b, .int .i64 n, .string s, .int .u64 v]) (.agg #[.int .u8 k', .bool b', .int .i64 n', .string s', .int .u64 v'])).run Tryd.prog w = .ok (sameV k b n s v k' b' n' s' v') w := by
  unfold sameV
  by_cases h : k = k' ∧ b = b' ∧ n = n' ∧ s = s' ∧ v = v'
  · obtain ⟨rfl, rfl, rfl, rfl, rfl⟩ := h
    rw [decide_eq_true ⟨rfl, rfl, rfl, rfl, rfl⟩]
    go_simp
  · rw [decide_eq_false h]
    go_simp
    exact fun h1 h2 h3 h4 h5 => h ⟨h1, h2, h3, bytes_inj h4, h5⟩
theorem eql27 (k : Int) (b : Bool) (n : Int) (s : ByteArray) (v : Int) (k' : Int) (b' : Bool) (n' : Int) (s' : ByteArray) (v' : Int) (w : World) : (binOp .eql 27 (.agg #[.int .u8 k, .bool b, .int .i64 n, .string s, .int .u64 v]) (.agg #[.int .u8 k', .bool b', .int .i64 n', .string s', .int .u64 v'])).run Tryd.prog w = .ok (.bool (sameV k b n s v k' b' n' s' v')) w := by
  rw [run_eql_struct, same27]; rfl
theorem Row8.new {p : ByteArray} {t : Int} {l x tm od rv ct : Bool} (W : World) : Row8 (W.alloc (.cells #[.string p, .int .u8 t, .bool l, .bool x, .bool tm, .bool od, .bool rv, .bool ct] 24)) W.heap.size 0 [(p, t, l, x, tm, od, rv, ct)] := by
  intro j hj c v hv
  obtain rfl : j = 0 := by simp at hj; omega
  rw [show 0 + 0 * 8 + c = c by omega]
  rw [show (W.alloc (.cells #[.string p, .int .u8 t, .bool l, .bool x, .bool tm, .bool od, .bool rv, .bool ct] 24)).cell? ⟨W.heap.size, c, none⟩ = (#[.string p, .int .u8 t, .bool l, .bool x, .bool tm, .bool od, .bool rv, .bool ct] : Array Value)[c]? from cell_new W _ _ c]
  rw [← hv]
  simp [cl8]
theorem RowW.new {d : Bool} {u : Nat} {q : ByteArray} {k : Int} {b : Bool} {n : Int} {s : ByteArray} {v : Int} (W : World) : RowW (W.alloc (.cells #[.bool d, .int .u64 u, .string q, .int .u8 k, .bool b, .int .i64 n, .string s, .int .u64 v] 31)) W.heap.size 0 [(d, u, q, k, b, n, s, v)] := by
  intro j hj c y hy
  obtain rfl : j = 0 := by simp at hj; omega
  rw [show 0 + 0 * 8 + c = c by omega]
  rw [show (W.alloc (.cells #[.bool d, .int .u64 u, .string q, .int .u8 k, .bool b, .int .i64 n, .string s, .int .u64 v] 31)).cell? ⟨W.heap.size, c, none⟩ = (#[.bool d, .int .u64 u, .string q, .int .u8 k, .bool b, .int .i64 n, .string s, .int .u64 v] : Array Value)[c]? from cell_new W _ _ c]
  rw [← hy]
  simp [cw8]
/-- The three boxes of the law. -/
def O3 (B : Nat) (p : ByteArray) (t : Int) (l x tm od rv ct : Bool) (d : Bool) (u : Nat) (q : ByteArray) (k : Int) (b : Bool) (n : Int) (s : ByteArray) (v : Int) (d' : Bool) (u' : Nat) (q' : ByteArray) (k' : Int) (b' : Bool) (n' : Int) (s' : ByteArray) (v' : Int) (W : World) : Prop := C8 B p t l x tm od rv ct W ∧ S8 (B + 1) d u q k b n s v W ∧ S8 (B + 2) d' u' q' k' b' n' s' v' W
theorem O3.next {B : Nat} {p : ByteArray} {t : Int} {l x tm od rv ct : Bool} {d : Bool} {u : Nat} {q : ByteArray} {k : Int} {b : Bool} {n : Int} {s : ByteArray} {v : Int} {d' : Bool} {u' : Nat} {q' : ByteArray} {k' : Int} {b' : Bool} {n' : Int} {s' : ByteArray} {v' : Int} {W W' : World} (h : O3 B p t l x tm od rv ct d u q k b n s v d' u' q' k' b' n' s' v' W) (hb : Bel W W') : O3 B p t l x tm od rv ct d u q k b n s v d' u' q' k' b' n' s' v' W' := ⟨h.1.next hb, h.2.1.next hb, h.2.2.next hb⟩
theorem O3.new (p : ByteArray) (t : Int) (l x tm od rv ct : Bool) (d : Bool) (u : Nat) (q : ByteArray) (k : Int) (b : Bool) (n : Int) (s : ByteArray) (v : Int) (d' : Bool) (u' : Nat) (q' : ByteArray) (k' : Int) (b' : Bool) (n' : Int) (s' : ByteArray) (v' : Int) (w : World) : O3 w.heap.size p t l x tm od rv ct d u q k b n s v d' u' q' k' b' n' s' v' (((w.alloc (.cells #[.string p, .int .u8 t, .bool l, .bool x, .bool tm, .bool od, .bool rv, .bool ct] 24)).alloc (.cells #[.bool d, .int .u64 u, .string q, .int .u8 k, .bool b, .int .i64 n, .string s, .int .u64 v] 31)).alloc (.cells #[.bool d', .int .u64 u', .string q', .int .u8 k', .bool b', .int .i64 n', .string s', .int .u64 v'] 31)) := by
  refine ⟨?_, ?_, ?_⟩
  · exact (C8.new p t l x tm od rv ct w).next (((Bel.refl _).alloc _).alloc _)
  · have h := (S8.new d u q k b n s v (w.alloc (.cells #[.string p, .int .u8 t, .bool l, .bool x, .bool tm, .bool od, .bool rv, .bool ct] 24))).next ((Bel.refl _).alloc (.cells #[.bool d', .int .u64 u', .string q', .int .u8 k', .bool b', .int .i64 n', .string s', .int .u64 v'] 31))
    rw [show (w.alloc (.cells #[.string p, .int .u8 t, .bool l, .bool x, .bool tm, .bool od, .bool rv, .bool ct] 24)).heap.size = w.heap.size + 1 by simp] at h
    exact h
  · have h := S8.new d' u' q' k' b' n' s' v' ((w.alloc (.cells #[.string p, .int .u8 t, .bool l, .bool x, .bool tm, .bool od, .bool rv, .bool ct] 24)).alloc (.cells #[.bool d, .int .u64 u, .string q, .int .u8 k, .bool b, .int .i64 n, .string s, .int .u64 v] 31))
    rw [show ((w.alloc (.cells #[.string p, .int .u8 t, .bool l, .bool x, .bool tm, .bool od, .bool rv, .bool ct] 24)).alloc (.cells #[.bool d, .int .u64 u, .string q, .int .u8 k, .bool b, .int .i64 n, .string s, .int .u64 v] 31)).heap.size = w.heap.size + 2 by simp] at h
    exact h
set_option maxHeartbeats 1000000 in
set_option maxRecDepth 100000 in
theorem one_no (p : ByteArray) (t : Int) (l x tm od rv ct : Bool) (d : Bool) (u : Nat) (q : ByteArray) (k : Int) (b : Bool) (n : Int) (s : ByteArray) (v : Int) (d' : Bool) (u' : Nat) (q' : ByteArray) (k' : Int) (b' : Bool) (n' : Int) (s' : ByteArray) (v' : Int) (h : eF p t tm od rv u q k b n s v ≠ 0 ∨ (eF p t tm od rv u q k b n s v = 0 ∧ eF p t tm od rv u' q' k' b' n' s' v' ≠ 0)) (w : World) (hG : Gl w) :
    Calls Tryd.prog 3 #[sc p t l x tm od rv ct, wr d u q k b n s v, wr d' u' q' k' b' n' s' v'] w fun e w' => e = .returned (.bool true) ∧ Bel w w' := by
  have C3 := hide (fun W => fits_any p t l x tm od rv ct d u q k b n s v (by omega) W)
  have C4 := hide (fun W => fits_any p t l x tm od rv ct d' u' q' k' b' n' s' v' (by omega) W)
  have C5 := hide (fun W hW => alive_any W hW)
  generalize eF p t tm od rv u q k b n s v = E1 at C3 h
  generalize eF p t tm od rv u' q' k' b' n' s' v' = E2 at C4 h
  have hO := hide (O3.new p t l x tm od rv ct d u q k b n s v d' u' q' k' b' n' s' v' w)
  have hb0 : Bel w (((w.alloc (.cells #[.string p, .int .u8 t, .bool l, .bool x, .bool tm, .bool od, .bool rv, .bool ct] 24)).alloc (.cells #[.bool d, .int .u64 u, .string q, .int .u8 k, .bool b, .int .i64 n, .string s, .int .u64 v] 31)).alloc (.cells #[.bool d', .int .u64 u', .string q', .int .u8 k', .bool b', .int .i64 n', .string s', .int .u64 v'] 31)) := (((Bel.refl _).alloc _).alloc _).alloc _
  have HG := hide hG
  clear hG
  unfold sc wr at C3 C4 ⊢
  rcases h with h1 | ⟨rfl, h2⟩
  · have e1 : (E1 != 0) = true := by rw [bne_iff_ne]; exact h1
    go_enter Tryd.func3, Tryd.ntmps3
    go_wp2_with (first | (go_at_call 4; refine (C3.out _).mono ?_; rintro e w1 ⟨rfl, hb1⟩) | (go_at_call 5; refine (C5.out _ ((HG.out.next hb0).next hb1)).mono ?_; rintro e w2 ⟨rfl, hb2⟩))
    go_ret
    exact ⟨rfl, (hb0.trans hb1).trans hb2⟩
  · have e2 : (E2 != 0) = true := by rw [bne_iff_ne]; exact h2
    go_enter Tryd.func3, Tryd.ntmps3
    go_wp2_with fail
    go_at_call 4
    refine (C3.out _).mono ?_
    rintro e w1 ⟨rfl, hb1⟩
    obtain ⟨⟨a0, a1, a2, a3, a4, a5, a6, a7⟩, ⟨b0, b1, b2, b3, b4, b5, b6, b7⟩, ⟨c0, c1, c2, c3, c4, c5, c6, c7⟩⟩ := hO.out.next hb1
    go_wp2_with (first | (go_at_call 4; refine (C4.out _).mono ?_; rintro e w2 ⟨rfl, hb2⟩) | (go_at_call 5; refine (C5.out _ (((HG.out.next hb0).next hb1).next hb2)).mono ?_; rintro e w3 ⟨rfl, hb3⟩))
    go_ret
    exact ⟨rfl, ((hb0.trans hb1).trans hb2).trans hb3⟩
theorem clmS_len (l : Bool) (u : Nat) (q : ByteArray) (k : Int) (b : Bool) (n : Int) (s : ByteArray) (v : Int) (hu : u < 2 ^ 64) (hr : inR n v) (h0 : eT u q k b n s v = 0) : (clmS l u q k b n s v).length ≤ 100000 := by
  have hps := name_short (eT_zero h0).2.1
  have h1 := key_small q (by omega)
  have h2 := num_len u hu
  have h3 := byt_len (eT_zero h0).2.2 hr
  unfold clmS
  split <;> simp <;> omega
set_option maxHeartbeats 1000000 in
set_option maxRecDepth 100000 in
theorem one_yes1 (p : ByteArray) (t : Int) (l x tm od rv ct : Bool) (d : Bool) (u : Nat) (q : ByteArray) (k : Int) (b : Bool) (n : Int) (s : ByteArray) (v : Int) (d' : Bool) (u' : Nat) (q' : ByteArray) (k' : Int) (b' : Bool) (n' : Int) (s' : ByteArray) (v' : Int) (hu : u < 2 ^ 64) (hr : inR n v) (hu' : u' < 2 ^ 64) (hr' : inR n' v') (h1 : eF p t tm od rv u q k b n s v = 0) (h2 : eF p t tm od rv u' q' k' b' n' s' v' = 0) (hq : u ≠ u') (w : World) (hG : Gl w) :
    Calls Tryd.prog 3 #[sc p t l x tm od rv ct, wr d u q k b n s v, wr d' u' q' k' b' n' s' v'] w fun e w' => e = .returned (.bool true) ∧ Bel w w' := by
  have C3 := hide (fun W => fits_any p t l x tm od rv ct d u q k b n s v (by omega) W)
  have C4 := hide (fun W => fits_any p t l x tm od rv ct d' u' q' k' b' n' s' v' (by omega) W)
  have C5 := hide (fun W hW => alive_any W hW)
  have C6 := hide (fun g g2 W a1 a2 a3 => claims_one g 0 1 g2 0 1 p t l x tm od rv ct d u hu q k b n s v hr W a1 a2 a3 h1)
  have C7 := hide (fun g g2 W a1 a2 a3 => claims_one g 0 1 g2 0 1 p t l x tm od rv ct d' u' hu' q' k' b' n' s' v' hr' W a1 a2 a3 h2)
  rw [h1] at C3
  rw [h2] at C4
  have hO := hide (O3.new p t l x tm od rv ct d u q k b n s v d' u' q' k' b' n' s' v' w)
  have hb0 : Bel w (((w.alloc (.cells #[.string p, .int .u8 t, .bool l, .bool x, .bool tm, .bool od, .bool rv, .bool ct] 24)).alloc (.cells #[.bool d, .int .u64 u, .string q, .int .u8 k, .bool b, .int .i64 n, .string s, .int .u64 v] 31)).alloc (.cells #[.bool d', .int .u64 u', .string q', .int .u8 k', .bool b', .int .i64 n', .string s', .int .u64 v'] 31)) := (((Bel.refl _).alloc _).alloc _).alloc _
  have HG := hide hG
  have hq1 := (eF_zero h1).2.2.1
  have hq2 := (eF_zero h2).2.2.1
  have HONE : Hid ((clmS l u q k b n s v = clmS l u' q' k' b' n' s' v') ↔ false = true) := by
    refine hide ?_
    rw [show q = q' from hq1.trans hq2.symm]
    rw [clmS_one l q' hu hu' (eT_zero (eF_zero h1).2.1).2.2 hr (eT_zero (eF_zero h2).2.1).2.2 hr']
    exact ⟨fun h => absurd h.1 hq, fun h => by cases h⟩
  have HA : Hid ((clmS l u q k b n s v).length ≤ maxLen) := hide (Nat.le_trans (clmS_len l u q k b n s v hu hr (eF_zero h1).2.1) (by unfold maxLen; omega))
  have HA' : Hid ((clmS l u' q' k' b' n' s' v').length ≤ maxLen) := hide (Nat.le_trans (clmS_len l u' q' k' b' n' s' v' hu' hr' (eF_zero h2).2.1) (by unfold maxLen; omega))
  clear hq1 hq2
  have HQ := hide hq
  clear hq
  generalize clmS l u q k b n s v = A at C6 HONE HA
  generalize clmS l u' q' k' b' n' s' v' = A' at C7 HONE HA'
  clear hG h1 h2 hr hr'
  unfold sc wr at C3 C4 ⊢
  go_enter Tryd.func3, Tryd.ntmps3
  go_wp2_with fail
  go_at_call 4
  refine (C3.out _).mono ?_
  rintro e w1 ⟨rfl, hb1⟩
  have hO1 := hide (hO.out.next hb1)
  have HB1 := hide (hb0.trans hb1)
  clear hO C3 hb0 hb1
  generalize w.heap.size = B at *
  obtain ⟨⟨a0, a1, a2, a3, a4, a5, a6, a7⟩, ⟨b0, b1, b2, b3, b4, b5, b6, b7⟩, ⟨c0, c1, c2, c3, c4, c5, c6, c7⟩⟩ := hO1.out
  go_wp2_with fail
  go_at_call 4
  refine (C4.out _).mono ?_
  rintro e w2 ⟨rfl, hb2⟩
  have hO2 := hide (hO1.out.next hb2)
  have HB2 := hide (HB1.out.trans hb2)
  clear a0 a1 a2 a3 a4 a5 a6 a7 b0 b1 b2 b3 b4 b5 b6 b7 c0 c1 c2 c3 c4 c5 c6 c7 hO1 C4 HB1 hb2
  obtain ⟨⟨a0, a1, a2, a3, a4, a5, a6, a7⟩, _, _⟩ := hO2.out
  obtain ⟨_, ⟨b0, b1, b2, b3, b4, b5, b6, b7⟩, _⟩ := hO2.out.next ((Bel.refl _).alloc (.cells #[.string p, .int .u8 t, .bool l, .bool x, .bool tm, .bool od, .bool rv, .bool ct] 24))
  go_wp2_with fail
  have r1 : Row8 ((w2.alloc (.cells #[.string p, .int .u8 t, .bool l, .bool x, .bool tm, .bool od, .bool rv, .bool ct] 24)).alloc (.cells #[.bool d, .int .u64 u, .string q, .int .u8 k, .bool b, .int .i64 n, .string s, .int .u64 v] 31)) w2.heap.size 0 [(p, t, l, x, tm, od, rv, ct)] := (Row8.new w2).next ((Bel.refl _).alloc _)
  have r2 : w2.heap.size < ((w2.alloc (.cells #[.string p, .int .u8 t, .bool l, .bool x, .bool tm, .bool od, .bool rv, .bool ct] 24)).alloc (.cells #[.bool d, .int .u64 u, .string q, .int .u8 k, .bool b, .int .i64 n, .string s, .int .u64 v] 31)).heap.size := by simp; omega
  have r3 : RowW ((w2.alloc (.cells #[.string p, .int .u8 t, .bool l, .bool x, .bool tm, .bool od, .bool rv, .bool ct] 24)).alloc (.cells #[.bool d, .int .u64 u, .string q, .int .u8 k, .bool b, .int .i64 n, .string s, .int .u64 v] 31)) (w2.heap.size + 1) 0 [(d, u, q, k, b, n, s, v)] := by
    have h := RowW.new (d := d) (u := u) (q := q) (k := k) (b := b) (n := n) (s := s) (v := v) (w2.alloc (.cells #[.string p, .int .u8 t, .bool l, .bool x, .bool tm, .bool od, .bool rv, .bool ct] 24))
    rw [show (w2.alloc (.cells #[.string p, .int .u8 t, .bool l, .bool x, .bool tm, .bool od, .bool rv, .bool ct] 24)).heap.size = w2.heap.size + 1 by simp] at h
    exact h
  refine (C6.out _ _ _ r1 r2 r3).mono ?_
  rintro e w3 ⟨g3, cap3, rfl, x3, l3, hb3⟩
  have hb3' := (((Bel.refl w2).alloc (.cells #[.string p, .int .u8 t, .bool l, .bool x, .bool tm, .bool od, .bool rv, .bool ct] 24)).alloc (.cells #[.bool d, .int .u64 u, .string q, .int .u8 k, .bool b, .int .i64 n, .string s, .int .u64 v] 31)).trans hb3
  have hO3 := hide (hO2.out.next hb3')
  have HB3 := hide (HB2.out.trans hb3')
  clear a0 a1 a2 a3 a4 a5 a6 a7 b0 b1 b2 b3 b4 b5 b6 b7 hO2 HB2 hb3 hb3' r1 r2 r3 C6
  have X3 := hide x3
  have L3 := hide l3
  clear x3 l3
  obtain ⟨⟨a0, a1, a2, a3, a4, a5, a6, a7⟩, _, _⟩ := hO3.out
  obtain ⟨_, _, ⟨b0, b1, b2, b3, b4, b5, b6, b7⟩⟩ := hO3.out.next ((Bel.refl _).alloc (.cells #[.string p, .int .u8 t, .bool l, .bool x, .bool tm, .bool od, .bool rv, .bool ct] 24))
  go_wp2_with fail
  have r1 : Row8 ((w3.alloc (.cells #[.string p, .int .u8 t, .bool l, .bool x, .bool tm, .bool od, .bool rv, .bool ct] 24)).alloc (.cells #[.bool d', .int .u64 u', .string q', .int .u8 k', .bool b', .int .i64 n', .string s', .int .u64 v'] 31)) w3.heap.size 0 [(p, t, l, x, tm, od, rv, ct)] := (Row8.new w3).next ((Bel.refl _).alloc _)
  have r2 : w3.heap.size < ((w3.alloc (.cells #[.string p, .int .u8 t, .bool l, .bool x, .bool tm, .bool od, .bool rv, .bool ct] 24)).alloc (.cells #[.bool d', .int .u64 u', .string q', .int .u8 k', .bool b', .int .i64 n', .string s', .int .u64 v'] 31)).heap.size := by simp; omega
  have r3 : RowW ((w3.alloc (.cells #[.string p, .int .u8 t, .bool l, .bool x, .bool tm, .bool od, .bool rv, .bool ct] 24)).alloc (.cells #[.bool d', .int .u64 u', .string q', .int .u8 k', .bool b', .int .i64 n', .string s', .int .u64 v'] 31)) (w3.heap.size + 1) 0 [(d', u', q', k', b', n', s', v')] := by
    have h := RowW.new (d := d') (u := u') (q := q') (k := k') (b := b') (n := n') (s := s') (v := v') (w3.alloc (.cells #[.string p, .int .u8 t, .bool l, .bool x, .bool tm, .bool od, .bool rv, .bool ct] 24))
    rw [show (w3.alloc (.cells #[.string p, .int .u8 t, .bool l, .bool x, .bool tm, .bool od, .bool rv, .bool ct] 24)).heap.size = w3.heap.size + 1 by simp] at h
    exact h
  refine (C7.out _ _ _ r1 r2 r3).mono ?_
  rintro e w4 ⟨g4, cap4, rfl, x4, l4, hb4⟩
  have hb4' := (((Bel.refl w3).alloc (.cells #[.string p, .int .u8 t, .bool l, .bool x, .bool tm, .bool od, .bool rv, .bool ct] 24)).alloc (.cells #[.bool d', .int .u64 u', .string q', .int .u8 k', .bool b', .int .i64 n', .string s', .int .u64 v'] 31)).trans hb4
  have hO4 := hide (hO3.out.next hb4')
  have HB4 := hide (HB3.out.trans hb4')
  have x3 := hb4'.cell X3.out
  have l3 := Nat.lt_of_lt_of_le L3.out hb4'.size
  clear a0 a1 a2 a3 a4 a5 a6 a7 b0 b1 b2 b3 b4 b5 b6 b7 hO3 HB3 hb4 hb4' r1 r2 r3 C7 X3 L3
  have HG4 := hide (HG.out.next HB4.out)
  have hCl : ∀ p : BelBy w4, Calls Tryd.prog 7 #[.slice (some ⟨g3, 0, none⟩) 1 cap3, .slice (some ⟨g4, 0, none⟩) 1 cap4] p.W fun e w' => e = .returned (.bool false) ∧ Bel p.W w' := by
    intro y
    have z3 : ∀ j (hj : j < [A].length), y.W.cell? ⟨g3, 0 + j, none⟩ = some (.string ⟨[A][j].toArray⟩) := by
      intro j hj
      obtain rfl : j = 0 := by simpa using hj
      exact y.h.cell x3
    have z4 : ∀ j (hj : j < [A'].length), y.W.cell? ⟨g4, 0 + j, none⟩ = some (.string ⟨[A'][j].toArray⟩) := by
      intro j hj
      obtain rfl : j = 0 := by simpa using hj
      exact y.h.cell x4
    have h := clash_any g3 0 cap3 g4 0 cap4 [A] [A'] (by simp) (by simp) y.W z3 z4 (Nat.lt_of_lt_of_le l3 y.h.size) (Nat.lt_of_lt_of_le l4 y.h.size) (by simpa using HA.out) (by simpa using HA'.out)
    have e1 : ([A'].any (fun z => decide (z ∈ [A]))) = false := by
      rw [Bool.eq_iff_iff]
      simp only [List.any_cons, List.any_nil, Bool.or_false, decide_eq_true_eq, List.mem_singleton]
      rw [← HONE.out]
      exact eq_comm
    rw [e1] at h
    exact h
  have hCl' := hide hCl
  have hAl := hide (fun y : BelBy w4 => C5.out y.W (HG4.out.next y.h))
  have hSt2 : (A == A') = false := by
    rw [Bool.eq_iff_iff, beq_iff_eq]
    simpa using HONE.out
  have X3 := cell_bel x3
  have X4 := cell_bel x4
  clear hCl x3 x4 C5 HG HG4
  obtain ⟨⟨a0, a1, a2, a3, a4, a5, a6, a7⟩, ⟨b0, b1, b2, b3, b4, b5, b6, b7⟩, ⟨c0, c1, c2, c3, c4, c5, c6, c7⟩⟩ := hO4.out
  have hq' : ((u : Int) == (u' : Int)) = false := by have := HQ.out; rw [beq_eq_false_iff_ne]; omega
  go_wp2_with fail
  have hne := BelBy.some w4
  have hfol : Tryd.prog.follows .mixedOrders = true := by kernel_rfl
  clear a0 a1 a2 a3 a4 a5 a6 a7 b0 b1 b2 b3 b4 b5 b6 b7 c0 c1 c2 c3 c4 c5 c6 c7 hO4
  refine wp_region_bel hfol (by kernel_rfl) ?_
  repeat (go_big_quiet_step (first | (go_at_call 7; refine calls_by (hCl'.out _)) | (go_at_call 5; refine calls_by (hAl.out _))))
  refine wpQuiet_nil ?_
  intro w5 hw'
  obtain ⟨⟨_, hb5⟩, hw''⟩ := hw'
  subst hw''
  go_wp2_with fail
  go_ret
  exact ⟨rfl, HB4.out.trans hb5⟩
set_option maxHeartbeats 1000000 in
set_option maxRecDepth 100000 in
theorem one_yes2 (p : ByteArray) (t : Int) (l x tm od rv ct : Bool) (d : Bool) (u : Nat) (q : ByteArray) (k : Int) (b : Bool) (n : Int) (s : ByteArray) (v : Int) (d' : Bool) (u' : Nat) (q' : ByteArray) (k' : Int) (b' : Bool) (n' : Int) (s' : ByteArray) (v' : Int) (hu : u < 2 ^ 64) (hr : inR n v) (hu' : u' < 2 ^ 64) (hr' : inR n' v') (h1 : eF p t tm od rv u q k b n s v = 0) (h2 : eF p t tm od rv u' q' k' b' n' s' v' = 0) (hq : u = u') (hl : l = false) (w : World) (hG : Gl w) :
    Calls Tryd.prog 3 #[sc p t l x tm od rv ct, wr d u q k b n s v, wr d' u' q' k' b' n' s' v'] w fun e w' => e = .returned (.bool true) ∧ Bel w w' := by
  have C3 := hide (fun W => fits_any p t l x tm od rv ct d u q k b n s v (by omega) W)
  have C4 := hide (fun W => fits_any p t l x tm od rv ct d' u' q' k' b' n' s' v' (by omega) W)
  have C5 := hide (fun W hW => alive_any W hW)
  have C6 := hide (fun g g2 W a1 a2 a3 => claims_one g 0 1 g2 0 1 p t l x tm od rv ct d u hu q k b n s v hr W a1 a2 a3 h1)
  have C7 := hide (fun g g2 W a1 a2 a3 => claims_one g 0 1 g2 0 1 p t l x tm od rv ct d' u' hu' q' k' b' n' s' v' hr' W a1 a2 a3 h2)
  rw [h1] at C3
  rw [h2] at C4
  have hO := hide (O3.new p t l x tm od rv ct d u q k b n s v d' u' q' k' b' n' s' v' w)
  have hb0 : Bel w (((w.alloc (.cells #[.string p, .int .u8 t, .bool l, .bool x, .bool tm, .bool od, .bool rv, .bool ct] 24)).alloc (.cells #[.bool d, .int .u64 u, .string q, .int .u8 k, .bool b, .int .i64 n, .string s, .int .u64 v] 31)).alloc (.cells #[.bool d', .int .u64 u', .string q', .int .u8 k', .bool b', .int .i64 n', .string s', .int .u64 v'] 31)) := (((Bel.refl _).alloc _).alloc _).alloc _
  have HG := hide hG
  have hq1 := (eF_zero h1).2.2.1
  have hq2 := (eF_zero h2).2.2.1
  have HONE : Hid ((clmS l u q k b n s v = clmS l u' q' k' b' n' s' v') ↔ true = true) := by
    refine hide ?_
    rw [show q = q' from hq1.trans hq2.symm]
    rw [clmS_one l q' hu hu' (eT_zero (eF_zero h1).2.1).2.2 hr (eT_zero (eF_zero h2).2.1).2.2 hr', hl]
    exact ⟨fun _ => rfl, fun _ => ⟨hq, fun h => by cases h⟩⟩
  have HA : Hid ((clmS l u q k b n s v).length ≤ maxLen) := hide (Nat.le_trans (clmS_len l u q k b n s v hu hr (eF_zero h1).2.1) (by unfold maxLen; omega))
  have HA' : Hid ((clmS l u' q' k' b' n' s' v').length ≤ maxLen) := hide (Nat.le_trans (clmS_len l u' q' k' b' n' s' v' hu' hr' (eF_zero h2).2.1) (by unfold maxLen; omega))
  clear hq1 hq2
  have HQ := hide hq
  clear hq
  have HL := hide hl
  clear hl
  generalize clmS l u q k b n s v = A at C6 HONE HA
  generalize clmS l u' q' k' b' n' s' v' = A' at C7 HONE HA'
  clear hG h1 h2 hr hr'
  unfold sc wr at C3 C4 ⊢
  go_enter Tryd.func3, Tryd.ntmps3
  go_wp2_with fail
  go_at_call 4
  refine (C3.out _).mono ?_
  rintro e w1 ⟨rfl, hb1⟩
  have hO1 := hide (hO.out.next hb1)
  have HB1 := hide (hb0.trans hb1)
  clear hO C3 hb0 hb1
  generalize w.heap.size = B at *
  obtain ⟨⟨a0, a1, a2, a3, a4, a5, a6, a7⟩, ⟨b0, b1, b2, b3, b4, b5, b6, b7⟩, ⟨c0, c1, c2, c3, c4, c5, c6, c7⟩⟩ := hO1.out
  go_wp2_with fail
  go_at_call 4
  refine (C4.out _).mono ?_
  rintro e w2 ⟨rfl, hb2⟩
  have hO2 := hide (hO1.out.next hb2)
  have HB2 := hide (HB1.out.trans hb2)
  clear a0 a1 a2 a3 a4 a5 a6 a7 b0 b1 b2 b3 b4 b5 b6 b7 c0 c1 c2 c3 c4 c5 c6 c7 hO1 C4 HB1 hb2
  obtain ⟨⟨a0, a1, a2, a3, a4, a5, a6, a7⟩, _, _⟩ := hO2.out
  obtain ⟨_, ⟨b0, b1, b2, b3, b4, b5, b6, b7⟩, _⟩ := hO2.out.next ((Bel.refl _).alloc (.cells #[.string p, .int .u8 t, .bool l, .bool x, .bool tm, .bool od, .bool rv, .bool ct] 24))
  go_wp2_with fail
  have r1 : Row8 ((w2.alloc (.cells #[.string p, .int .u8 t, .bool l, .bool x, .bool tm, .bool od, .bool rv, .bool ct] 24)).alloc (.cells #[.bool d, .int .u64 u, .string q, .int .u8 k, .bool b, .int .i64 n, .string s, .int .u64 v] 31)) w2.heap.size 0 [(p, t, l, x, tm, od, rv, ct)] := (Row8.new w2).next ((Bel.refl _).alloc _)
  have r2 : w2.heap.size < ((w2.alloc (.cells #[.string p, .int .u8 t, .bool l, .bool x, .bool tm, .bool od, .bool rv, .bool ct] 24)).alloc (.cells #[.bool d, .int .u64 u, .string q, .int .u8 k, .bool b, .int .i64 n, .string s, .int .u64 v] 31)).heap.size := by simp; omega
  have r3 : RowW ((w2.alloc (.cells #[.string p, .int .u8 t, .bool l, .bool x, .bool tm, .bool od, .bool rv, .bool ct] 24)).alloc (.cells #[.bool d, .int .u64 u, .string q, .int .u8 k, .bool b, .int .i64 n, .string s, .int .u64 v] 31)) (w2.heap.size + 1) 0 [(d, u, q, k, b, n, s, v)] := by
    have h := RowW.new (d := d) (u := u) (q := q) (k := k) (b := b) (n := n) (s := s) (v := v) (w2.alloc (.cells #[.string p, .int .u8 t, .bool l, .bool x, .bool tm, .bool od, .bool rv, .bool ct] 24))
    rw [show (w2.alloc (.cells #[.string p, .int .u8 t, .bool l, .bool x, .bool tm, .bool od, .bool rv, .bool ct] 24)).heap.size = w2.heap.size + 1 by simp] at h
    exact h
  refine (C6.out _ _ _ r1 r2 r3).mono ?_
  rintro e w3 ⟨g3, cap3, rfl, x3, l3, hb3⟩
  have hb3' := (((Bel.refl w2).alloc (.cells #[.string p, .int .u8 t, .bool l, .bool x, .bool tm, .bool od, .bool rv, .bool ct] 24)).alloc (.cells #[.bool d, .int .u64 u, .string q, .int .u8 k, .bool b, .int .i64 n, .string s, .int .u64 v] 31)).trans hb3
  have hO3 := hide (hO2.out.next hb3')
  have HB3 := hide (HB2.out.trans hb3')
  clear a0 a1 a2 a3 a4 a5 a6 a7 b0 b1 b2 b3 b4 b5 b6 b7 hO2 HB2 hb3 hb3' r1 r2 r3 C6
  have X3 := hide x3
  have L3 := hide l3
  clear x3 l3
  obtain ⟨⟨a0, a1, a2, a3, a4, a5, a6, a7⟩, _, _⟩ := hO3.out
  obtain ⟨_, _, ⟨b0, b1, b2, b3, b4, b5, b6, b7⟩⟩ := hO3.out.next ((Bel.refl _).alloc (.cells #[.string p, .int .u8 t, .bool l, .bool x, .bool tm, .bool od, .bool rv, .bool ct] 24))
  go_wp2_with fail
  have r1 : Row8 ((w3.alloc (.cells #[.string p, .int .u8 t, .bool l, .bool x, .bool tm, .bool od, .bool rv, .bool ct] 24)).alloc (.cells #[.bool d', .int .u64 u', .string q', .int .u8 k', .bool b', .int .i64 n', .string s', .int .u64 v'] 31)) w3.heap.size 0 [(p, t, l, x, tm, od, rv, ct)] := (Row8.new w3).next ((Bel.refl _).alloc _)
  have r2 : w3.heap.size < ((w3.alloc (.cells #[.string p, .int .u8 t, .bool l, .bool x, .bool tm, .bool od, .bool rv, .bool ct] 24)).alloc (.cells #[.bool d', .int .u64 u', .string q', .int .u8 k', .bool b', .int .i64 n', .string s', .int .u64 v'] 31)).heap.size := by simp; omega
  have r3 : RowW ((w3.alloc (.cells #[.string p, .int .u8 t, .bool l, .bool x, .bool tm, .bool od, .bool rv, .bool ct] 24)).alloc (.cells #[.bool d', .int .u64 u', .string q', .int .u8 k', .bool b', .int .i64 n', .string s', .int .u64 v'] 31)) (w3.heap.size + 1) 0 [(d', u', q', k', b', n', s', v')] := by
    have h := RowW.new (d := d') (u := u') (q := q') (k := k') (b := b') (n := n') (s := s') (v := v') (w3.alloc (.cells #[.string p, .int .u8 t, .bool l, .bool x, .bool tm, .bool od, .bool rv, .bool ct] 24))
    rw [show (w3.alloc (.cells #[.string p, .int .u8 t, .bool l, .bool x, .bool tm, .bool od, .bool rv, .bool ct] 24)).heap.size = w3.heap.size + 1 by simp] at h
    exact h
  refine (C7.out _ _ _ r1 r2 r3).mono ?_
  rintro e w4 ⟨g4, cap4, rfl, x4, l4, hb4⟩
  have hb4' := (((Bel.refl w3).alloc (.cells #[.string p, .int .u8 t, .bool l, .bool x, .bool tm, .bool od, .bool rv, .bool ct] 24)).alloc (.cells #[.bool d', .int .u64 u', .string q', .int .u8 k', .bool b', .int .i64 n', .string s', .int .u64 v'] 31)).trans hb4
  have hO4 := hide (hO3.out.next hb4')
  have HB4 := hide (HB3.out.trans hb4')
  have x3 := hb4'.cell X3.out
  have l3 := Nat.lt_of_lt_of_le L3.out hb4'.size
  clear a0 a1 a2 a3 a4 a5 a6 a7 b0 b1 b2 b3 b4 b5 b6 b7 hO3 HB3 hb4 hb4' r1 r2 r3 C7 X3 L3
  have HG4 := hide (HG.out.next HB4.out)
  have hCl : ∀ p : BelBy w4, Calls Tryd.prog 7 #[.slice (some ⟨g3, 0, none⟩) 1 cap3, .slice (some ⟨g4, 0, none⟩) 1 cap4] p.W fun e w' => e = .returned (.bool true) ∧ Bel p.W w' := by
    intro y
    have z3 : ∀ j (hj : j < [A].length), y.W.cell? ⟨g3, 0 + j, none⟩ = some (.string ⟨[A][j].toArray⟩) := by
      intro j hj
      obtain rfl : j = 0 := by simpa using hj
      exact y.h.cell x3
    have z4 : ∀ j (hj : j < [A'].length), y.W.cell? ⟨g4, 0 + j, none⟩ = some (.string ⟨[A'][j].toArray⟩) := by
      intro j hj
      obtain rfl : j = 0 := by simpa using hj
      exact y.h.cell x4
    have h := clash_any g3 0 cap3 g4 0 cap4 [A] [A'] (by simp) (by simp) y.W z3 z4 (Nat.lt_of_lt_of_le l3 y.h.size) (Nat.lt_of_lt_of_le l4 y.h.size) (by simpa using HA.out) (by simpa using HA'.out)
    have e1 : ([A'].any (fun z => decide (z ∈ [A]))) = true := by
      rw [Bool.eq_iff_iff]
      simp only [List.any_cons, List.any_nil, Bool.or_false, decide_eq_true_eq, List.mem_singleton]
      rw [← HONE.out]
      exact eq_comm
    rw [e1] at h
    exact h
  have hCl' := hide hCl
  have hAl := hide (fun y : BelBy w4 => C5.out y.W (HG4.out.next y.h))
  have hSt2 : (A == A') = true := by
    rw [Bool.eq_iff_iff, beq_iff_eq]
    simpa using HONE.out
  have X3 := cell_bel x3
  have X4 := cell_bel x4
  clear hCl x3 x4 C5 HG HG4
  obtain ⟨⟨a0, a1, a2, a3, a4, a5, a6, a7⟩, ⟨b0, b1, b2, b3, b4, b5, b6, b7⟩, ⟨c0, c1, c2, c3, c4, c5, c6, c7⟩⟩ := hO4.out
  have hl := HL.out
  subst hl
  have hq' : ((u : Int) == (u' : Int)) = true := by have := HQ.out; rw [beq_iff_eq]; omega
  go_wp2_with fail
  have hne := BelBy.some w4
  have hfol : Tryd.prog.follows .mixedOrders = true := by kernel_rfl
  clear a0 a1 a2 a3 a4 a5 a6 a7 b0 b1 b2 b3 b4 b5 b6 b7 c0 c1 c2 c3 c4 c5 c6 c7 hO4
  refine wp_region_bel hfol (by kernel_rfl) ?_
  repeat (go_big_quiet_step (first | (go_at_call 7; refine calls_by (hCl'.out _)) | (go_at_call 5; refine calls_by (hAl.out _))))
  refine wpQuiet_nil ?_
  intro w5 hw'
  obtain ⟨⟨_, hb5⟩, hw''⟩ := hw'
  subst hw''
  go_wp2_with fail
  go_ret
  exact ⟨rfl, HB4.out.trans hb5⟩
set_option maxHeartbeats 1000000 in
set_option maxRecDepth 100000 in
theorem one_yes3 (p : ByteArray) (t : Int) (l x tm od rv ct : Bool) (d : Bool) (u : Nat) (q : ByteArray) (k : Int) (b : Bool) (n : Int) (s : ByteArray) (v : Int) (d' : Bool) (u' : Nat) (q' : ByteArray) (k' : Int) (b' : Bool) (n' : Int) (s' : ByteArray) (v' : Int) (hu : u < 2 ^ 64) (hr : inR n v) (hu' : u' < 2 ^ 64) (hr' : inR n' v') (h1 : eF p t tm od rv u q k b n s v = 0) (h2 : eF p t tm od rv u' q' k' b' n' s' v' = 0) (hq : u = u') (hl : l = true) (w : World) (hG : Gl w) :
    Calls Tryd.prog 3 #[sc p t l x tm od rv ct, wr d u q k b n s v, wr d' u' q' k' b' n' s' v'] w fun e w' => e = .returned (.bool true) ∧ Bel w w' := by
  have C3 := hide (fun W => fits_any p t l x tm od rv ct d u q k b n s v (by omega) W)
  have C4 := hide (fun W => fits_any p t l x tm od rv ct d' u' q' k' b' n' s' v' (by omega) W)
  have C5 := hide (fun W hW => alive_any W hW)
  have C6 := hide (fun g g2 W a1 a2 a3 => claims_one g 0 1 g2 0 1 p t l x tm od rv ct d u hu q k b n s v hr W a1 a2 a3 h1)
  have C7 := hide (fun g g2 W a1 a2 a3 => claims_one g 0 1 g2 0 1 p t l x tm od rv ct d' u' hu' q' k' b' n' s' v' hr' W a1 a2 a3 h2)
  rw [h1] at C3
  rw [h2] at C4
  have hO := hide (O3.new p t l x tm od rv ct d u q k b n s v d' u' q' k' b' n' s' v' w)
  have hb0 : Bel w (((w.alloc (.cells #[.string p, .int .u8 t, .bool l, .bool x, .bool tm, .bool od, .bool rv, .bool ct] 24)).alloc (.cells #[.bool d, .int .u64 u, .string q, .int .u8 k, .bool b, .int .i64 n, .string s, .int .u64 v] 31)).alloc (.cells #[.bool d', .int .u64 u', .string q', .int .u8 k', .bool b', .int .i64 n', .string s', .int .u64 v'] 31)) := (((Bel.refl _).alloc _).alloc _).alloc _
  have HG := hide hG
  have hq1 := (eF_zero h1).2.2.1
  have hq2 := (eF_zero h2).2.2.1
  have HONE : Hid ((clmS l u q k b n s v = clmS l u' q' k' b' n' s' v') ↔ (sameV k b n s v k' b' n' s' v') = true) := by
    refine hide ?_
    rw [show q = q' from hq1.trans hq2.symm]
    rw [clmS_one l q' hu hu' (eT_zero (eF_zero h1).2.1).2.2 hr (eT_zero (eF_zero h2).2.1).2.2 hr', hl]
    unfold sameV
    rw [decide_eq_true_eq]
    exact ⟨fun h => h.2 rfl, fun h => ⟨hq, fun _ => h⟩⟩
  have HA : Hid ((clmS l u q k b n s v).length ≤ maxLen) := hide (Nat.le_trans (clmS_len l u q k b n s v hu hr (eF_zero h1).2.1) (by unfold maxLen; omega))
  have HA' : Hid ((clmS l u' q' k' b' n' s' v').length ≤ maxLen) := hide (Nat.le_trans (clmS_len l u' q' k' b' n' s' v' hu' hr' (eF_zero h2).2.1) (by unfold maxLen; omega))
  clear hq1 hq2
  have HQ := hide hq
  clear hq
  have HL := hide hl
  clear hl
  generalize clmS l u q k b n s v = A at C6 HONE HA
  generalize clmS l u' q' k' b' n' s' v' = A' at C7 HONE HA'
  clear hG h1 h2 hr hr'
  unfold sc wr at C3 C4 ⊢
  go_enter Tryd.func3, Tryd.ntmps3
  go_wp2_with fail
  go_at_call 4
  refine (C3.out _).mono ?_
  rintro e w1 ⟨rfl, hb1⟩
  have hO1 := hide (hO.out.next hb1)
  have HB1 := hide (hb0.trans hb1)
  clear hO C3 hb0 hb1
  generalize w.heap.size = B at *
  obtain ⟨⟨a0, a1, a2, a3, a4, a5, a6, a7⟩, ⟨b0, b1, b2, b3, b4, b5, b6, b7⟩, ⟨c0, c1, c2, c3, c4, c5, c6, c7⟩⟩ := hO1.out
  go_wp2_with fail
  go_at_call 4
  refine (C4.out _).mono ?_
  rintro e w2 ⟨rfl, hb2⟩
  have hO2 := hide (hO1.out.next hb2)
  have HB2 := hide (HB1.out.trans hb2)
  clear a0 a1 a2 a3 a4 a5 a6 a7 b0 b1 b2 b3 b4 b5 b6 b7 c0 c1 c2 c3 c4 c5 c6 c7 hO1 C4 HB1 hb2
  obtain ⟨⟨a0, a1, a2, a3, a4, a5, a6, a7⟩, _, _⟩ := hO2.out
  obtain ⟨_, ⟨b0, b1, b2, b3, b4, b5, b6, b7⟩, _⟩ := hO2.out.next ((Bel.refl _).alloc (.cells #[.string p, .int .u8 t, .bool l, .bool x, .bool tm, .bool od, .bool rv, .bool ct] 24))
  go_wp2_with fail
  have r1 : Row8 ((w2.alloc (.cells #[.string p, .int .u8 t, .bool l, .bool x, .bool tm, .bool od, .bool rv, .bool ct] 24)).alloc (.cells #[.bool d, .int .u64 u, .string q, .int .u8 k, .bool b, .int .i64 n, .string s, .int .u64 v] 31)) w2.heap.size 0 [(p, t, l, x, tm, od, rv, ct)] := (Row8.new w2).next ((Bel.refl _).alloc _)
  have r2 : w2.heap.size < ((w2.alloc (.cells #[.string p, .int .u8 t, .bool l, .bool x, .bool tm, .bool od, .bool rv, .bool ct] 24)).alloc (.cells #[.bool d, .int .u64 u, .string q, .int .u8 k, .bool b, .int .i64 n, .string s, .int .u64 v] 31)).heap.size := by simp; omega
  have r3 : RowW ((w2.alloc (.cells #[.string p, .int .u8 t, .bool l, .bool x, .bool tm, .bool od, .bool rv, .bool ct] 24)).alloc (.cells #[.bool d, .int .u64 u, .string q, .int .u8 k, .bool b, .int .i64 n, .string s, .int .u64 v] 31)) (w2.heap.size + 1) 0 [(d, u, q, k, b, n, s, v)] := by
    have h := RowW.new (d := d) (u := u) (q := q) (k := k) (b := b) (n := n) (s := s) (v := v) (w2.alloc (.cells #[.string p, .int .u8 t, .bool l, .bool x, .bool tm, .bool od, .bool rv, .bool ct] 24))
    rw [show (w2.alloc (.cells #[.string p, .int .u8 t, .bool l, .bool x, .bool tm, .bool od, .bool rv, .bool ct] 24)).heap.size = w2.heap.size + 1 by simp] at h
    exact h
  refine (C6.out _ _ _ r1 r2 r3).mono ?_
  rintro e w3 ⟨g3, cap3, rfl, x3, l3, hb3⟩
  have hb3' := (((Bel.refl w2).alloc (.cells #[.string p, .int .u8 t, .bool l, .bool x, .bool tm, .bool od, .bool rv, .bool ct] 24)).alloc (.cells #[.bool d, .int .u64 u, .string q, .int .u8 k, .bool b, .int .i64 n, .string s, .int .u64 v] 31)).trans hb3
  have hO3 := hide (hO2.out.next hb3')
  have HB3 := hide (HB2.out.trans hb3')
  clear a0 a1 a2 a3 a4 a5 a6 a7 b0 b1 b2 b3 b4 b5 b6 b7 hO2 HB2 hb3 hb3' r1 r2 r3 C6
  have X3 := hide x3
  have L3 := hide l3
  clear x3 l3
  obtain ⟨⟨a0, a1, a2, a3, a4, a5, a6, a7⟩, _, _⟩ := hO3.out
  obtain ⟨_, _, ⟨b0, b1, b2, b3, b4, b5, b6, b7⟩⟩ := hO3.out.next ((Bel.refl _).alloc (.cells #[.string p, .int .u8 t, .bool l, .bool x, .bool tm, .bool od, .bool rv, .bool ct] 24))
  go_wp2_with fail
  have r1 : Row8 ((w3.alloc (.cells #[.string p, .int .u8 t, .bool l, .bool x, .bool tm, .bool od, .bool rv, .bool ct] 24)).alloc (.cells #[.bool d', .int .u64 u', .string q', .int .u8 k', .bool b', .int .i64 n', .string s', .int .u64 v'] 31)) w3.heap.size 0 [(p, t, l, x, tm, od, rv, ct)] := (Row8.new w3).next ((Bel.refl _).alloc _)
  have r2 : w3.heap.size < ((w3.alloc (.cells #[.string p, .int .u8 t, .bool l, .bool x, .bool tm, .bool od, .bool rv, .bool ct] 24)).alloc (.cells #[.bool d', .int .u64 u', .string q', .int .u8 k', .bool b', .int .i64 n', .string s', .int .u64 v'] 31)).heap.size := by simp; omega
  have r3 : RowW ((w3.alloc (.cells #[.string p, .int .u8 t, .bool l, .bool x, .bool tm, .bool od, .bool rv, .bool ct] 24)).alloc (.cells #[.bool d', .int .u64 u', .string q', .int .u8 k', .bool b', .int .i64 n', .string s', .int .u64 v'] 31)) (w3.heap.size + 1) 0 [(d', u', q', k', b', n', s', v')] := by
    have h := RowW.new (d := d') (u := u') (q := q') (k := k') (b := b') (n := n') (s := s') (v := v') (w3.alloc (.cells #[.string p, .int .u8 t, .bool l, .bool x, .bool tm, .bool od, .bool rv, .bool ct] 24))
    rw [show (w3.alloc (.cells #[.string p, .int .u8 t, .bool l, .bool x, .bool tm, .bool od, .bool rv, .bool ct] 24)).heap.size = w3.heap.size + 1 by simp] at h
    exact h
  refine (C7.out _ _ _ r1 r2 r3).mono ?_
  rintro e w4 ⟨g4, cap4, rfl, x4, l4, hb4⟩
  have hb4' := (((Bel.refl w3).alloc (.cells #[.string p, .int .u8 t, .bool l, .bool x, .bool tm, .bool od, .bool rv, .bool ct] 24)).alloc (.cells #[.bool d', .int .u64 u', .string q', .int .u8 k', .bool b', .int .i64 n', .string s', .int .u64 v'] 31)).trans hb4
  have hO4 := hide (hO3.out.next hb4')
  have HB4 := hide (HB3.out.trans hb4')
  have x3 := hb4'.cell X3.out
  have l3 := Nat.lt_of_lt_of_le L3.out hb4'.size
  clear a0 a1 a2 a3 a4 a5 a6 a7 b0 b1 b2 b3 b4 b5 b6 b7 hO3 HB3 hb4 hb4' r1 r2 r3 C7 X3 L3
  have HG4 := hide (HG.out.next HB4.out)
  have hCl : ∀ p : BelBy w4, Calls Tryd.prog 7 #[.slice (some ⟨g3, 0, none⟩) 1 cap3, .slice (some ⟨g4, 0, none⟩) 1 cap4] p.W fun e w' => e = .returned (.bool (sameV k b n s v k' b' n' s' v')) ∧ Bel p.W w' := by
    intro y
    have z3 : ∀ j (hj : j < [A].length), y.W.cell? ⟨g3, 0 + j, none⟩ = some (.string ⟨[A][j].toArray⟩) := by
      intro j hj
      obtain rfl : j = 0 := by simpa using hj
      exact y.h.cell x3
    have z4 : ∀ j (hj : j < [A'].length), y.W.cell? ⟨g4, 0 + j, none⟩ = some (.string ⟨[A'][j].toArray⟩) := by
      intro j hj
      obtain rfl : j = 0 := by simpa using hj
      exact y.h.cell x4
    have h := clash_any g3 0 cap3 g4 0 cap4 [A] [A'] (by simp) (by simp) y.W z3 z4 (Nat.lt_of_lt_of_le l3 y.h.size) (Nat.lt_of_lt_of_le l4 y.h.size) (by simpa using HA.out) (by simpa using HA'.out)
    have e1 : ([A'].any (fun z => decide (z ∈ [A]))) = (sameV k b n s v k' b' n' s' v') := by
      rw [Bool.eq_iff_iff]
      simp only [List.any_cons, List.any_nil, Bool.or_false, decide_eq_true_eq, List.mem_singleton]
      rw [← HONE.out]
      exact eq_comm
    rw [e1] at h
    exact h
  have hCl' := hide hCl
  have hAl := hide (fun y : BelBy w4 => C5.out y.W (HG4.out.next y.h))
  have hSt2 : (A == A') = (sameV k b n s v k' b' n' s' v') := by
    rw [Bool.eq_iff_iff, beq_iff_eq]
    simpa using HONE.out
  have X3 := cell_bel x3
  have X4 := cell_bel x4
  clear hCl x3 x4 C5 HG HG4
  obtain ⟨⟨a0, a1, a2, a3, a4, a5, a6, a7⟩, ⟨b0, b1, b2, b3, b4, b5, b6, b7⟩, ⟨c0, c1, c2, c3, c4, c5, c6, c7⟩⟩ := hO4.out
  have hl := HL.out
  subst hl
  have hq' : ((u : Int) == (u' : Int)) = true := by have := HQ.out; rw [beq_iff_eq]; omega
  have hsm := fun W => eql27 k b n s v k' b' n' s' v' W
  go_wp2_with fail
  have hne := BelBy.some w4
  have hfol : Tryd.prog.follows .mixedOrders = true := by kernel_rfl
  clear a0 a1 a2 a3 a4 a5 a6 a7 b0 b1 b2 b3 b4 b5 b6 b7 c0 c1 c2 c3 c4 c5 c6 c7 hO4
  refine wp_region_bel hfol (by kernel_rfl) ?_
  repeat (go_big_quiet_step (first | (go_at_call 7; refine calls_by (hCl'.out _)) | (go_at_call 5; refine calls_by (hAl.out _))))
  refine wpQuiet_nil ?_
  intro w5 hw'
  obtain ⟨⟨_, hb5⟩, hw''⟩ := hw'
  subst hw''
  go_wp2_with fail
  go_ret
  exact ⟨rfl, HB4.out.trans hb5⟩
theorem one_law (p : ByteArray) (t : Int) (l x tm od rv ct : Bool) (d : Bool) (u : Nat) (q : ByteArray) (k : Int) (b : Bool) (n : Int) (s : ByteArray) (v : Int) (d' : Bool) (u' : Nat) (q' : ByteArray) (k' : Int) (b' : Bool) (n' : Int) (s' : ByteArray) (v' : Int) (hu : u < 2 ^ 64) (hr : inR n v) (hu' : u' < 2 ^ 64) (hr' : inR n' v') (w : World) (hG : Gl w) :
    Calls Tryd.prog 3 #[sc p t l x tm od rv ct, wr d u q k b n s v, wr d' u' q' k' b' n' s' v'] w fun e w' => e = .returned (.bool true) ∧ Bel w w' := by
  by_cases h1 : eF p t tm od rv u q k b n s v = 0
  · by_cases h2 : eF p t tm od rv u' q' k' b' n' s' v' = 0
    · by_cases hq : u = u'
      · cases l
        · exact one_yes2 p t false x tm od rv ct d u q k b n s v d' u' q' k' b' n' s' v' hu hr hu' hr' h1 h2 hq rfl w hG
        · exact one_yes3 p t true x tm od rv ct d u q k b n s v d' u' q' k' b' n' s' v' hu hr hu' hr' h1 h2 hq rfl w hG
      · exact one_yes1 p t l x tm od rv ct d u q k b n s v d' u' q' k' b' n' s' v' hu hr hu' hr' h1 h2 hq w hG
    · exact one_no p t l x tm od rv ct d u q k b n s v d' u' q' k' b' n' s' v' (Or.inr ⟨h1, h2⟩) w hG
  · exact one_no p t l x tm od rv ct d u q k b n s v d' u' q' k' b' n' s' v' (Or.inl h1) w hG
theorem one_card (p : ByteArray) (t : Int) (l x tm od rv ct : Bool) (d : Bool) (u : Int) (q : ByteArray) (k : Int) (b : Bool) (n : Int) (s : ByteArray) (v : Int) (d' : Bool) (u' : Int) (q' : ByteArray) (k' : Int) (b' : Bool) (n' : Int) (s' : ByteArray) (v' : Int) (hu : 0 ≤ u ∧ u < 18446744073709551616) (hr : inR n v) (hu' : 0 ≤ u' ∧ u' < 18446744073709551616) (hr' : inR n' v') (w : World) (hG : Gl w) :
    Calls Tryd.prog 3 #[sc p t l x tm od rv ct, wr d u q k b n s v, wr d' u' q' k' b' n' s' v'] w fun e w' => e = .returned (.bool true) ∧ Bel w w' := by
  obtain ⟨m, rfl⟩ := Int.eq_ofNat_of_zero_le hu.1
  obtain ⟨m', rfl⟩ := Int.eq_ofNat_of_zero_le hu'.1
  exact one_law p t l x tm od rv ct d m q k b n s v d' m' q' k' b' n' s' v' (by omega) hr (by omega) hr' w hG
end Go.Proofs.YtgghcfmpfneehabDoor
