/- What the program's order returns, and how the memory stands behind it; for every two values. -/
import Derived.Test.YtomnajoflcjnfaaDoorOrdC
namespace Go.Proofs.YtomnajoflcjnfaaDoor
open Go.RowKit Go.Sort
set_option maxHeartbeats 4000000 in
set_option maxRecDepth 100000 in
theorem order_gr (k : Int) (b : Bool) (n : Int) (s : ByteArray) (u : Int) (k' : Int) (b' : Bool) (n' : Int) (s' : ByteArray) (u' : Int) (w : World) :
    Calls Tryd.prog 48 #[ev k b n s u, ev k' b' n' s' u'] w fun e w' => e = .returned (.int .i64 (ord k b n s u k' b' n' s' u')) ∧ Gr w w' := by
  have T := hide (fun z W => truth_any z W)
  have C79 := hide (fun W => cmp_79 k k' W)
  have C80 := hide (fun W => cmp_80 ((bt b).toNat : Int) ((bt b').toNat : Int) W)
  have C81 := hide (fun W => cmp_81 n n' W)
  have C82 := hide (fun W => Tryd.strings_Compare s s' W)
  have C83 := hide (fun W => cmp_83 u u' W)
  have HE : Hid (ord k b n s u k' b' n' s' u' = orL [cmpI k k', cmpI ((bt b).toNat : Int) ((bt b').toNat : Int), cmpI n n', Lib.compareBytes s.data.toList s'.data.toList, cmpI u u']) := hide rfl
  generalize cmpI k k' = x0 at *
  generalize cmpI ((bt b).toNat : Int) ((bt b').toNat : Int) = x1 at *
  generalize cmpI n n' = x2 at *
  generalize Lib.compareBytes s.data.toList s'.data.toList = x3 at *
  generalize cmpI u u' = x4 at *
  generalize ord k b n s u k' b' n' s' u' = R at *
  generalize hbt : (bt b).toNat = t1 at *
  generalize hbt' : (bt b').toNat = t2 at *
  have T1 : Hid (∀ W, Calls Tryd.prog 60 #[.bool b] W fun e w' => e = .returned (.int .u8 (t1 : Int)) ∧ w' = W) := hide (fun W => by have := T.out b W; rw [hbt] at this; exact this)
  have T2 : Hid (∀ W, Calls Tryd.prog 60 #[.bool b'] W fun e w' => e = .returned (.int .u8 (t2 : Int)) ∧ w' = W) := hide (fun W => by have := T.out b' W; rw [hbt'] at this; exact this)
  clear T hbt hbt'
  have HS1 := hide ((S5.first k b n s u w).alloc (.cells #[.int .u8 k', .bool b', .int .i64 n', .string s', .int .u64 u'] 25)).drew
  have HS2 := hide (S5.second k' b' n' s' u' w (.cells #[.int .u8 k, .bool b, .int .i64 n, .string s, .int .u64 u] 25)).drew
  have HB := hide (((Gr.refl w).alloc (.cells #[.int .u8 k, .bool b, .int .i64 n, .string s, .int .u64 u] 25)).alloc (.cells #[.int .u8 k', .bool b', .int .i64 n', .string s', .int .u64 u'] 25))
  unfold ev
  go_enter Tryd.func48, Tryd.ntmps48
  go_wp2_with fail
  generalize ((w.alloc (.cells #[.int .u8 k, .bool b, .int .i64 n, .string s, .int .u64 u] 25)).alloc (.cells #[.int .u8 k', .bool b', .int .i64 n', .string s', .int .u64 u'] 25)) = W1 at *
  generalize w.heap.size = B at *
  have hs1 := HS1.out
  have hs2 := HS2.out
  unfold S5 at hs1 hs2
  obtain ⟨a0, a1, a2, a3, a4⟩ := hs1
  obtain ⟨d0, d1, d2, d3, d4⟩ := hs2
  go_region_held3 (fun W => W.cell? ⟨B, 0, none⟩ = some (.int .u8 k) ∧ W.cell? ⟨B, 1, none⟩ = some (.bool b) ∧ W.cell? ⟨B, 2, none⟩ = some (.int .i64 n) ∧ W.cell? ⟨B, 3, none⟩ = some (.string s) ∧ W.cell? ⟨B, 4, none⟩ = some (.int .u64 u) ∧ W.cell? ⟨B + 1, 0, none⟩ = some (.int .u8 k') ∧ W.cell? ⟨B + 1, 1, none⟩ = some (.bool b') ∧ W.cell? ⟨B + 1, 2, none⟩ = some (.int .i64 n') ∧ W.cell? ⟨B + 1, 3, none⟩ = some (.string s') ∧ W.cell? ⟨B + 1, 4, none⟩ = some (.int .u64 u')) (first | assumption | exact ⟨a0, a1, a2, a3, a4, d0, d1, d2, d3, d4⟩ | exact ten_next W1 _ a0 a1 a2 a3 a4 d0 d1 d2 d3 d4) ((first
    | (go_at_call 78; refine (or_five W1 x0 x1 x2 x3 x4).mono ?_; rintro e w' ⟨rfl, rfl⟩)
    | (go_at_call 79; refine (C79.out _).mono ?_; rintro e w' ⟨rfl, rfl⟩)
    | (go_at_call 80; refine (C80.out _).mono ?_; rintro e w' ⟨rfl, rfl⟩)
    | (go_at_call 81; refine (C81.out _).mono ?_; rintro e w' ⟨rfl, rfl⟩)
    | (go_at_call 82; refine (C82.out _).mono ?_; rintro e w' ⟨rfl, rfl⟩)
    | (go_at_call 83; refine (C83.out _).mono ?_; rintro e w' ⟨rfl, rfl⟩)
    | (go_at_call 60; refine (T1.out _).mono ?_; rintro e w' ⟨rfl, rfl⟩)
    | (go_at_call 60; refine (T2.out _).mono ?_; rintro e w' ⟨rfl, rfl⟩)))
  all_goals
    go_wp2
    go_ret
    exact ⟨by rw [HE.out]; rfl, (HB.out.alloc _).drew⟩
theorem order_V (x y : V) (w : World) : Calls Tryd.prog 48 #[.agg (enc5 x).toArray, .agg (enc5 y).toArray] w fun e w' => e = .returned (.int .i64 (vo x y)) ∧ Gr w w' := order_gr _ _ _ _ _ _ _ _ _ _ w
end Go.Proofs.YtomnajoflcjnfaaDoor
