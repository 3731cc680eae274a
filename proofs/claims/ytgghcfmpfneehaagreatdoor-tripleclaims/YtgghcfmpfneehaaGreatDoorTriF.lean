/- A write's line, by the program. -/
import Derived.Test.YtgghcfmpfneehaaGreatDoorTriE
import Derived.Test.YtgghcfmpfneehaaGreatDoorShelfJ
import Derived.Test.YtgghcfmpfneehaaGreatDoorValE
namespace Go.Proofs.YtgghcfmpfneehaaGreatDoor
open Go.RowKit
def sgn (d : Bool) : UInt8 := if d then 45 else 43
/-- The line of a write. -/
def wtx (d : Bool) (u : Int) (p : ByteArray) (k : Int) (b : Bool) (n : Int) (s : ByteArray) (v : Int) : List UInt8 := sgn d :: 32 :: (48 :: 120 :: hexL u.toNat) ++ 32 :: p.data.toList ++ 32 :: ltr k b n s v
set_option maxRecDepth 100000 in
theorem wtext_no (d : Bool) (u : Int) (p : ByteArray) (k : Int) (b : Bool) (n : Int) (s : ByteArray) (v : Int) (hu0 : 0 ≤ u) (h : eT u p k b n s v ≠ 0) (w : World) :
    Calls Tryz.prog 19 #[wr d u p k b n s v] w fun e w' => e = .returned (.tuple #[.string ⟨#[]⟩, .int .i64 (eT u p k b n s v)]) ∧ Bel w w' := by
  have hC := hide (fun W => may_any u p k b n s v hu0 W)
  generalize eT u p k b n s v = E at h hC ⊢
  have hE : (E != 0) = true := by simpa using h
  clear h
  unfold et at hC
  unfold wr
  go_enter Tryz.func19, Tryz.ntmps19
  go_wp2_with (go_at_call 29; refine (hC.out _).mono ?_; rintro e w' ⟨rfl, hb⟩)
  go_ret2
  exact ⟨rfl, ((Bel.refl _).alloc _).trans hb⟩
theorem first2 (x y : Int) (W : World) : Calls Tryz.prog 36 #[.slice (some ⟨W.heap.size, 0, none⟩) 2 2] (W.alloc (.cells #[.int .i64 x, .int .i64 y] 30)) fun e w' => e = .returned (.int .i64 (fstE [x, y])) ∧ w' = W.alloc (.cells #[.int .i64 x, .int .i64 y] 30) :=
  first_any _ [x, y] (by simp) 2 2 rfl _ (fun j hj => by
    rw [show (W.alloc (.cells #[.int .i64 x, .int .i64 y] 30)).cell? ⟨W.heap.size, j, none⟩ = (#[.int .i64 x, .int .i64 y] : Array Value)[j]? from cell_new W _ _ j]
    match j, hj with
    | 0, _ => rfl
    | 1, _ => rfl)
theorem join4 (a b c d : ByteArray) (ha : a.size ≤ 10) (hb : b.size ≤ 100) (hc : c.size ≤ 100) (hd : d.size ≤ 1000000) (t : TypeId) (W : World) : Calls Tryz.prog 54 #[.slice (some ⟨W.heap.size, 0, none⟩) 4 4, .string ⟨#[32]⟩] (W.alloc (.cells #[.string a, .string b, .string c, .string d] t)) fun e w' => e = .returned (.string ⟨(a.data.toList ++ 32 :: (b.data.toList ++ 32 :: (c.data.toList ++ 32 :: d.data.toList))).toArray⟩) ∧ Bel (W.alloc (.cells #[.string a, .string b, .string c, .string d] t)) w' := by
  have e : Lib.join ([a, b, c, d].map (·.data.toList)) (⟨#[32]⟩ : ByteArray).data.toList = a.data.toList ++ 32 :: (b.data.toList ++ 32 :: (c.data.toList ++ 32 :: d.data.toList)) := by
    simp [Lib.join, List.intercalate]
  have h := Tryz.strings_Join W.heap.size 0 4 [a, b, c, d] ⟨#[32]⟩ (W.alloc (.cells #[.string a, .string b, .string c, .string d] t)) (fun j x hj => by
    rw [show (W.alloc (.cells #[.string a, .string b, .string c, .string d] t)).cell? ⟨W.heap.size, 0 + j, none⟩ = (#[.string a, .string b, .string c, .string d] : Array Value)[0 + j]? from cell_new W _ _ _]
    match j with
    | 0 => simp at hj; subst hj; rfl
    | 1 => simp at hj; subst hj; rfl
    | 2 => simp at hj; subst hj; rfl
    | 3 => simp at hj; subst hj; rfl
    | (j + 4) => simp at hj) (by simp) (by simp) (by simp) (by
      rw [e]
      have h1 : a.data.toList.length = a.size := rfl
      have h2 : b.data.toList.length = b.size := rfl
      have h3 : c.data.toList.length = c.size := rfl
      have h4 : d.data.toList.length = d.size := rfl
      simp only [List.length_append, List.length_cons]
      omega)
  rw [e] at h
  exact h
set_option maxHeartbeats 1000000 in
set_option maxRecDepth 100000 in
theorem wtext_yes (d : Bool) (u : Nat) (hu : u < 18446744073709551616) (p : ByteArray) (k : Int) (b : Bool) (n : Int) (s : ByteArray) (v : Int) (n0 : -9223372036854775808 ≤ n) (n1 : n < 9223372036854775808) (v0 : 0 ≤ v) (v1 : v < 18446744073709551616) (h : eT u p k b n s v = 0) (w : World) (hG : Gl w) :
    Calls Tryz.prog 19 #[wr d u p k b n s v] w fun e w' => e = .returned (.tuple #[.string ⟨(wtx d u p k b n s v).toArray⟩, .int .i64 0]) ∧ Bel w w' := by
  obtain ⟨h1, h2, h3⟩ := eT_zero h
  have hps := name_short h2
  have hC := hide (fun W => may_any u p k b n s v (by omega) W)
  rw [h] at hC
  have hu0 : (u : Int) ≠ 0 := by omega
  have hU := hide (fun W (hW : Gl W) => text_4 u hu hu0 W hW)
  have hV := hide (fun W (hW : Gl W) => text_yes h3 n0 n1 v0 v1 W hW)
  have HW := hide (show wtx d u p k b n s v = sgn d :: 32 :: (48 :: 120 :: hexL u) ++ 32 :: p.data.toList ++ 32 :: ltr k b n s v from rfl)
  have hq1 : (48 :: 120 :: hexL u).length ≤ 100 := by
    have := hexL_len 15 u (by omega)
    simp only [List.length_cons]; omega
  have hq3 : (ltr k b n s v).length ≤ 1000000 := Nat.le_trans (ltr_len h3 ⟨n0, n1, v0, v1⟩) (by omega)
  generalize wtx d u p k b n s v = WB at HW ⊢
  generalize (48 :: 120 :: hexL u) = N at HW hU hq1
  generalize ltr k b n s v = V at HW hV hq3
  have hJ := hide (fun W => join4 ⟨#[sgn d]⟩ ⟨N.toArray⟩ p ⟨V.toArray⟩ (by simp [ByteArray.size]) (by simpa [ByteArray.size] using hq1) (by omega) (by simpa [ByteArray.size] using hq3) 9 W)
  have hF := hide (fun W => first2 0 0 W)
  have h8 := hide (S8.new d u p k b n s v w)
  have hb0 := hide (show Bel w (w.alloc (.cells #[.bool d, .int .u64 u, .string p, .int .u8 k, .bool b, .int .i64 n, .string s, .int .u64 v] 29)) from (Bel.refl _).alloc _)
  have HG := hide hG
  clear h h1 h2 h3 hps hq1 hq3 hu0 hG
  unfold ev at hV hU
  unfold et at hC
  unfold wr
  cases d
  · go_enter Tryz.func19, Tryz.ntmps19
    go_wp2_with (first | (go_at_call 29; refine (hC.out _).mono ?_; rintro e w1 ⟨rfl, hb1⟩; obtain ⟨c0, c1, c2, c3, c4, c5, c6, c7⟩ := h8.out.next hb1) | (have h0 := hb2; clear h0; go_at_call 53; refine (hV.out _ (HG.out.next ((hb0.out.trans hb1).trans hb2))).mono ?_; rintro e w3 ⟨rfl, hb3⟩; obtain ⟨e0, e1, e2, e3, e4, e5, e6, e7⟩ := ((h8.out.next hb1).next hb2).next hb3) | (go_at_call 53; refine (hU.out _ (HG.out.next (hb0.out.trans hb1))).mono ?_; rintro e w2 ⟨rfl, hb2⟩; obtain ⟨d0, d1, d2, d3, d4, d5, d6, d7⟩ := (h8.out.next hb1).next hb2) | (go_at_call 54; refine (hJ.out _).mono ?_; rintro e w4 ⟨rfl, hb4⟩) | (go_at_call 36; refine (hF.out _).mono ?_; rintro e w5 ⟨rfl, rfl⟩))
    go_ret2
    refine ⟨?_, ((((hb0.out.trans hb1).trans hb2).trans hb3).alloc _ |>.trans hb4).alloc _⟩
    rw [HW.out]
    simp [fstE]
  · go_enter Tryz.func19, Tryz.ntmps19
    go_wp2_with (first | (go_at_call 29; refine (hC.out _).mono ?_; rintro e w1 ⟨rfl, hb1⟩; obtain ⟨c0, c1, c2, c3, c4, c5, c6, c7⟩ := h8.out.next hb1) | (have h0 := hb2; clear h0; go_at_call 53; refine (hV.out _ (HG.out.next ((hb0.out.trans hb1).trans hb2))).mono ?_; rintro e w3 ⟨rfl, hb3⟩; obtain ⟨e0, e1, e2, e3, e4, e5, e6, e7⟩ := ((h8.out.next hb1).next hb2).next hb3) | (go_at_call 53; refine (hU.out _ (HG.out.next (hb0.out.trans hb1))).mono ?_; rintro e w2 ⟨rfl, hb2⟩; obtain ⟨d0, d1, d2, d3, d4, d5, d6, d7⟩ := (h8.out.next hb1).next hb2) | (go_at_call 54; refine (hJ.out _).mono ?_; rintro e w4 ⟨rfl, hb4⟩) | (go_at_call 36; refine (hF.out _).mono ?_; rintro e w5 ⟨rfl, rfl⟩))
    go_ret2
    refine ⟨?_, ((((hb0.out.trans hb1).trans hb2).trans hb3).alloc _ |>.trans hb4).alloc _⟩
    rw [HW.out]
    simp [fstE]
end Go.Proofs.YtgghcfmpfneehaaGreatDoor
